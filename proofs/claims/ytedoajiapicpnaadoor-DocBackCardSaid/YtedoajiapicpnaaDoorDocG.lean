/-
  The reference of layer 19: numbers and bytes.
-/
import Derived.Test.YtedoajiapicpnaaDoorDocF
namespace Go.Proofs.YtedoajiapicpnaaDoor
open Go.RowKit
attribute [local go_sem ↓] Go.wp_at_zero Go.wp_at_succ

set_option maxRecDepth 20000 in
set_option maxHeartbeats 1000000 in
theorem refNumber_any (A : Option Addr) (n c B : Nat) (l : List UInt8) (w : World) (h : Bytes w B A n l) (hn : n ≤ 8) :
    Calls Tryd.prog 47 #[.slice A n c] w fun e w' => e = .returned (.int .u64 (valN l : Int)) ∧ w = w' := by
  have H0 := Lib.hid h
  clear h
  go_enter Tryd.func47, Tryd.ntmps47
  go_wp2
  go_loop [3, 4] (fun x i => ∃ k t : Nat, k ≤ n ∧ i = .int .i64 k ∧ x = .int .u64 t ∧ Hid (t = valN (l.take k))) (fun _ i => n - (intOf i).toNat)
  case atStart => exact ⟨0, 0, Nat.zero_le _, rfl, rfl, Lib.hid rfl⟩
  case round =>
    obtain ⟨k, t, hk, rfl, rfl, Ht⟩ := hrel
    by_cases hlt : k < n
    · obtain ⟨b1, o1, rfl, hb1, hc1⟩ := H0.out.cell hlt
      have g1 := at8_lo l k
      have g2 := at8_hi l k
      obtain ⟨q, hq, Hq⟩ : ∃ q : Nat, IntKind.u64.wrap ((t : Int) * 256) = (q : Int) ∧ Hid (q = t * 256 ∧ t < 72057594037927936) := by
        have h1 := take_val l k n (by omega) H0.out.len
        have h2 : 256 ^ k ≤ 256 ^ 7 := Nat.pow_le_pow_right (by decide) (by omega)
        have h3 : t < 72057594037927936 := by rw [Ht.out]; exact Nat.lt_of_lt_of_le h1 h2
        exact ⟨t * 256, by rw [IntKind.wrap_u64]; omega, Lib.hid ⟨rfl, h3⟩⟩
      obtain ⟨t2, ht2, Ht2⟩ : ∃ t2 : Nat, IntKind.u64.wrap ((q : Int) + at8 l k) = (t2 : Int) ∧ Hid (t2 = valN (l.take (k + 1))) := by
        have hx := (l.getD k 0).toNat_lt
        refine ⟨valN (l.take (k + 1)), ?_, Lib.hid rfl⟩
        rw [take_snoc l k (by have := H0.out.len; omega), valN_snoc, ← Ht.out, ← Hq.out.1, IntKind.wrap_u64]
        have := Hq.out
        unfold at8
        omega
      go_wp2
      go_round
      case rel => exact ⟨k + 1, t2, by omega, by go_num, rfl, Ht2⟩
      case measure => simp [intOf]; omega
    · have Hr := Lib.hid (show t = valN l by rw [Ht.out, List.take_of_length_le (by have := H0.out.len; omega)])
      go_wp2
      go_ret
      exact ⟨by rw [← Hr.out]; rfl, rfl⟩

/-- The bytes by halving. -/
def highL (n : Nat) : Nat → List UInt8
  | 0 => []
  | k + 1 => highL (n / 256) k ++ [UInt8.ofNat (n % 256)]
theorem highL_length : ∀ (k n : Nat), (highL n k).length = k
  | 0, _ => rfl
  | k + 1, n => by unfold highL; rw [List.length_append, highL_length k]; rfl
theorem numTo_div (m s : Nat) : ∀ k, k ≤ s → numTo m (s + 1) k = numTo (m / 256) s k
  | 0, _ => rfl
  | k + 1, h => by
    unfold numTo
    rw [numTo_div m s k (by omega)]
    rw [show s + 1 - 1 - k = s - 1 - k + 1 by omega, Nat.pow_succ, Nat.mul_comm, ← Nat.div_div_eq_div_mul]
theorem highL_num : ∀ (s n : Nat), highL n s = numTo n s s
  | 0, _ => rfl
  | s + 1, n => by
    rw [highL, numTo, highL_num s, numTo_div n s s (Nat.le_refl _)]
    rw [show s + 1 - 1 - s = 0 by omega, Nat.pow_zero, Nat.div_one]
    congr 2
    apply UInt8.toNat_inj.1
    rw [UInt8.toNat_ofNat', UInt8.toNat_ofNat']
    simp

set_option maxRecDepth 20000 in
set_option maxHeartbeats 1000000 in
theorem high_any : ∀ (s n : Nat) (w : World), s ≤ 8 → n < 18446744073709551616 →
    Calls Tryd.prog 45 #[.int .u64 (n : Int), .int .i64 (s : Int)] w (GivesBytes 5 (highL n s) w) := by
  intro s
  induction s with
  | zero =>
    intro n w _ hn
    clear hn
    go_enter Tryd.func45, Tryd.ntmps45
    go_wp2
    go_ret
    exact ⟨none, 0, 0, rfl, World.ownsRow_nil _ _ _ _, Below.refl _ _⟩
  | succ s ih =>
    intro n w hs hn
    have h2 := ih (n / 256) w (by omega) (by omega)
    clear ih
    obtain ⟨x, hx, Hx⟩ : ∃ x : UInt8, (n : Int) % 256 = (x.toNat : Int) ∧ Hid (x = UInt8.ofNat (n % 256)) := ⟨_, by rw [UInt8.toNat_ofNat']; omega, Lib.hid rfl⟩
    have hne : (((s : Int) + 1) == 0) = false := beq_eq_false_iff_ne.2 (by omega)
    have Hn := Lib.hid hn
    clear hn
    obtain ⟨i0, hi, hz0, hz1, hz2⟩ := u8_info
    rw [show ((s + 1 : Nat) : Int) = (s : Int) + 1 by omega]
    go_enter Tryd.func45, Tryd.ntmps45
    go_wp2_with fail
    rw [show IntKind.u64.wrap ((n : Int) / 256) = ((n / 256 : Nat) : Int) by have := Hn.out; rw [IntKind.wrap_u64]; omega]
    refine h2.mono ?_
    rintro e w1 ⟨A1, n1, c1, rfl, hown1, hb1⟩
    have hlen := hown1.1
    rw [List.length_map, highL_length, Nat.mul_one] at hlen
    subst hlen
    have s1 := hb1.size
    go_wp2_with (at_builtin; refine wpList_append_shows _ rfl _ _ _ rfl w.heap.size 5 i0 (.int .u8 0) 1 1 Tryd.underlying29 hi hz0 hz1 hz2 rfl (by decide) _ _ _ rfl (hown1.alloc _) (w1.heap.size + 1) _ 1 1 [bv x] rfl (by exact bytes_new w1 [x] _ _ _ rfl) (bv_one [x]) ?c3 ?c4 ?c5 ?_)
    case c3 => unfold maxLen; omega
    case c4 => omega
    case c5 => simp; omega
    intro A2 c2 w2 hown2 _ hb2
    have hbz := hb1.trans (((Below.refl _ _).alloc s1 _).trans hb2)
    have Hown := Lib.hid hown2
    clear hown1 hown2
    go_wp2
    go_ret
    refine ⟨A2, s + 1, c2, by simp, ?_, hbz⟩
    have e := Hown.out
    rw [show highL n (s + 1) = highL (n / 256) s ++ [x] by rw [highL, Hx.out], List.map_append]
    exact e
end Go.Proofs.YtedoajiapicpnaaDoor
