/-
  Package doc: numbers out of bytes, Encode.
-/
import Derived.Test.YtedoajiapicpnaaDoorDocE
import Derived.Test.YtedoajiapicpnaaDoorB64
namespace Go.Proofs.YtedoajiapicpnaaDoor
open Go.RowKit
attribute [local go_sem ↓] Go.wp_at_zero Go.wp_at_succ

set_option maxHeartbeats 1000000 in
theorem Encode_yes (g m s : Nat) (d : Bool) (a : Nat) (w : World) (hg : g < 4294967296) (hm : m < 4294967296) (ha : a < 524288) (hv : validB g s d (a : Int) = true) :
    Calls Tryd.prog 23 #[infoV g m s d (a : Int)] w fun e w' => ∃ A n c, e = .returned (.tuple #[.slice A n c, .int .i64 0]) ∧ w'.ownsRow w.heap.size 5 1 (.slice A n c) n ((encL g m s d a).map bv) ∧ Below w.heap.size w w' := by
  have Hv := Lib.hid hv
  clear hv
  have hb0 := (Below.refl w.heap.size w).alloc (Nat.le_refl _) (.cells #[.int .u32 (g : Int), .int .u32 (m : Int), .int .u64 (s : Int), .bool d, .int .i64 (a : Int)] 46)
  go_enter Tryd.func23, Tryd.ntmps23
  have hvv : infoV g m s d (a : Int) = .agg #[.int .u32 (g : Int), .int .u32 (m : Int), .int .u64 (s : Int), .bool d, .int .i64 (a : Int)] := rfl
  rw [hvv]
  go_wp2_with fail
  refine (valid_any g m s d (a : Int) _).mono ?_
  rintro e w1 ⟨rfl, hb1⟩
  rw [Hv.out]
  have c0 := hb1.cell (p := ⟨w.heap.size, 0, none⟩) (by simp)
  have c1 := hb1.cell (p := ⟨w.heap.size, 1, none⟩) (by simp)
  have c2 := hb1.cell (p := ⟨w.heap.size, 2, none⟩) (by simp)
  have c3 := hb1.cell (p := ⟨w.heap.size, 3, none⟩) (by simp)
  have c4 := hb1.cell (p := ⟨w.heap.size, 4, none⟩) (by simp)
  rw [World.cell?_alloc_new] at c0 c1 c2 c3 c4
  have hb2 := hb0.trans (hb1.mono (by simp))
  have s1 := hb2.size
  go_wp2_with fail
  refine (encode_any g m s d a _ hg hm ha).mono ?_
  rintro e w2 ⟨A, n, c, rfl, hown, hb3⟩
  go_wp2
  refine bodyPost_ret (v := .tuple #[.slice A n c, .int .i64 0]) (by simp [results, Tryd.results23, go_sem]) rfl ⟨A, n, c, rfl, own_base hown s1, hb2.trans (hb3.mono s1)⟩

set_option maxHeartbeats 1000000 in
theorem Encode_no (g m s : Nat) (d : Bool) (a : Int) (w : World) (hv : validB g s d a = false) :
    Calls Tryd.prog 23 #[infoV g m s d a] w fun e w' => e = .returned (.tuple #[.slice none 0 0, .int .i64 292]) ∧ Below w.heap.size w w' := by
  have Hv := Lib.hid hv
  clear hv
  have hb0 := (Below.refl w.heap.size w).alloc (Nat.le_refl _) (.cells #[.int .u32 (g : Int), .int .u32 (m : Int), .int .u64 (s : Int), .bool d, .int .i64 a] 46)
  go_enter Tryd.func23, Tryd.ntmps23
  have hvv : infoV g m s d a = .agg #[.int .u32 (g : Int), .int .u32 (m : Int), .int .u64 (s : Int), .bool d, .int .i64 a] := rfl
  rw [hvv]
  go_wp2_with fail
  refine (valid_any g m s d a _).mono ?_
  rintro e w1 ⟨rfl, hb1⟩
  rw [Hv.out]
  have hb2 := hb0.trans (hb1.mono (by simp))
  go_wp2
  refine bodyPost_ret (v := .tuple #[.slice none 0 0, .int .i64 292]) (by simp [results, Tryd.results23, go_sem]) rfl ⟨rfl, hb2⟩

/-- The number of bytes. -/
def valN (l : List UInt8) : Nat := l.foldl (fun a x => a * 256 + x.toNat) 0
theorem valN_snoc (l : List UInt8) (c : UInt8) : valN (l ++ [c]) = valN l * 256 + c.toNat := by
  unfold valN
  rw [List.foldl_append]
  rfl
theorem valN_lt (k : Nat) : ∀ (l : List UInt8), l.length = k → valN l < 256 ^ k := by
  induction k with
  | zero =>
    intro l h
    rw [List.eq_nil_of_length_eq_zero h]
    decide
  | succ k ih =>
    intro l h
    have hne : l ≠ [] := by intro e; subst e; simp at h
    rw [← List.dropLast_concat_getLast hne, valN_snoc, Nat.pow_succ]
    have h1 := ih l.dropLast (by simp; omega)
    have h2 := (l.getLast hne).toNat_lt
    omega

theorem or_add (t x : Nat) (hx : x < 256) : (t * 256) ||| x = t * 256 + x := by
  have h := Nat.shiftLeft_add_eq_or_of_lt (i := 8) (b := x) (by omega) t
  rw [Nat.shiftLeft_eq] at h
  exact h.symm
theorem take_val (l : List UInt8) (k n : Nat) (hk : k ≤ n) (hl : l.length = n) : valN (l.take k) < 256 ^ k := valN_lt k _ (by rw [List.length_take, hl]; exact Nat.min_eq_left hk)

set_option maxRecDepth 20000 in
set_option maxHeartbeats 1000000 in
theorem docNumber_any (A : Option Addr) (n c B : Nat) (l : List UInt8) (w : World) (h : Bytes w B A n l) (hn : n ≤ 8) :
    Calls Tryd.prog 46 #[.slice A n c] w fun e w' => e = .returned (.int .u64 (valN l : Int)) ∧ w = w' := by
  have H0 := Lib.hid h
  clear h
  go_enter Tryd.func46, Tryd.ntmps46
  go_wp2
  go_loop [3, 8] (fun x i => ∃ k t : Nat, k ≤ n ∧ i = .int .i64 k ∧ x = .int .u64 t ∧ Hid (t = valN (l.take k))) (fun _ i => n - (intOf i).toNat)
  case atStart => exact ⟨0, 0, Nat.zero_le _, rfl, rfl, Lib.hid rfl⟩
  case round =>
    obtain ⟨k, t, hk, rfl, rfl, Ht⟩ := hrel
    by_cases hlt : k < n
    · obtain ⟨b1, o1, rfl, hb1, hc1⟩ := H0.out.cell hlt
      have g1 := at8_lo l k
      have g2 := at8_hi l k
      obtain ⟨q, hq, Hq⟩ : ∃ q : Nat, IntKind.u64.wrap ((t : Int) * 256) = (q : Int) ∧ Hid (q = t * 256 ∧ t < 72057594037927936) := by
        have h1 := take_val l k n (by omega) H0.out.len
        have h2 : 256 ^ k ≤ 256 ^ 7 := Nat.pow_le_pow_right (by decide) (by omega)
        have h3 : t < 72057594037927936 := by rw [Ht.out]; exact Nat.lt_of_lt_of_le h1 h2
        exact ⟨t * 256, by rw [IntKind.wrap_u64]; omega, Lib.hid ⟨rfl, h3⟩⟩
      obtain ⟨t2, ht2, Ht2⟩ : ∃ t2 : Nat, bits .or .u64 (q : Int) (at8 l k) = (t2 : Int) ∧ Hid (t2 = valN (l.take (k + 1))) := by
        have hx := (l.getD k 0).toNat_lt
        refine ⟨valN (l.take (k + 1)), ?_, Lib.hid rfl⟩
        rw [take_snoc l k (by have := H0.out.len; omega), valN_snoc, ← Ht.out, ← or_add _ _ hx, ← Hq.out.1]
        exact u64_or_nat _ _ (by have := Hq.out; omega) (by omega)
      go_wp2
      go_round
      case rel => exact ⟨k + 1, t2, by omega, by go_num, rfl, Ht2⟩
      case measure => simp [intOf]; omega
    · have Hr := Lib.hid (show t = valN l by rw [Ht.out, List.take_of_length_le (by have := H0.out.len; omega)])
      go_wp2
      go_ret
      exact ⟨by rw [← Hr.out]; rfl, rfl⟩
end Go.Proofs.YtedoajiapicpnaaDoor
