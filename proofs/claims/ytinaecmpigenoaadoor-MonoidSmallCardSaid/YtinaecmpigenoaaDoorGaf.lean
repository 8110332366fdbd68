import Derived.Test.YtinaecmpigenoaaDoorGae
import Derived.WalkLawsBesides
import Derived.Deep.DeepCutAuto
import Derived.Laws.BitsAllLaws
import Derived.Laws.BitsLemmas
import Derived.IntWalk
import Derived.Test.YtinaecmpigenoaaDoorGaa
import Derived.Laws.BytesString
import Derived.Laws.Cells
import Derived.RangeFuncBox
import Derived.Shelf.Abstract
/-
  Layer 1: the forms by index; the least that fits.
-/
namespace Go.Proofs.YtinaecmpigenoaaDoor
open Go.RowKit

def fl : Nat → Int | 0 => 0 | 1 => 128 | 2 => 2048 | 3 => 65536 | _ => 0
def fh : Nat → Int | 0 => 127 | 1 => 2047 | 2 => 65535 | 3 => 1114111 | _ => 0
def fs : Nat → Int | 0 => 1 | 1 => 2 | 2 => 3 | 3 => 4 | _ => 0
def fd : Nat → Int | 0 => 0 | 1 => 192 | 2 => 224 | 3 => 240 | _ => 0
/-- The form of an index; from 4 on: none. -/
def formK (k : Nat) : Value := .agg #[.int .i64 (fl k), .int .i64 (fh k), .int .i64 (fs k), .int .i64 (fd k)]
def firstK (P : Nat → Bool) : Nat := if P 0 then 0 else if P 1 then 1 else if P 2 then 2 else if P 3 then 3 else 4

set_option maxRecDepth 20000 in
theorem index_form (k : Nat) (hk : k < 4) : ∀ w, (Instr.index 103 (.agg utab.toArray) (.int .i64 (k : Int))).run Tryd.prog w = .ok (.agg #[.int .i64 (fl k), .int .i64 (fh k), .int .i64 (fs k), .int .i64 (fd k)]) w := by
  rcases (show k = 0 ∨ k = 1 ∨ k = 2 ∨ k = 3 by omega) with rfl | rfl | rfl | rfl
  · exact fun _ => by kernel_rfl
  · exact fun _ => by kernel_rfl
  · exact fun _ => by kernel_rfl
  · exact fun _ => by kernel_rfl
set_option maxRecDepth 20000 in
theorem info_tab : (Tryd.prog.info? 103).map (·.size) = some utab.length := by kernel_rfl
theorem first_yes (P : Nat → Bool) (k : Nat) (hk : k < 4) (h : ∀ j, j < k → P j = false) (hq : P k = true) : firstK P = k := by
  unfold firstK
  rcases (show k = 0 ∨ k = 1 ∨ k = 2 ∨ k = 3 by omega) with rfl | rfl | rfl | rfl
  · rw [hq, if_pos rfl]
  · rw [h 0 (by omega), if_neg (by simp), hq, if_pos rfl]
  · rw [h 0 (by omega), if_neg (by simp), h 1 (by omega), if_neg (by simp), hq, if_pos rfl]
  · rw [h 0 (by omega), if_neg (by simp), h 1 (by omega), if_neg (by simp), h 2 (by omega), if_neg (by simp), hq, if_pos rfl]
theorem first_no (P : Nat → Bool) (h : ∀ j, j < 4 → P j = false) : firstK P = 4 := by
  unfold firstK
  rw [h 0 (by omega), if_neg (by simp), h 1 (by omega), if_neg (by simp), h 2 (by omega), if_neg (by simp), h 3 (by omega), if_neg (by simp)]
end Go.Proofs.YtinaecmpigenoaaDoor
/-
  Layer 1: find, by starts.
-/
namespace Go.Proofs.YtinaecmpigenoaaDoor
open Go.RowKit

set_option maxRecDepth 20000 in
set_option maxHeartbeats 600000 in
theorem find_starts (P : Nat → Bool) (n : Int) (w : World) (htab : UTab w)
    (hfit : ∀ k, k < 4 → ∀ W : World, Calls Tryd.prog 55 #[.agg #[.int .i64 (fl k), .int .i64 (fh k), .int .i64 (fs k), .int .i64 (fd k)], .int .i64 n] W fun e w' => e = .returned (.bool (P k)) ∧ Below W.heap.size W w') :
    Calls Tryd.prog 54 #[.func (.func 55) #[] #[], .int .i64 n] w fun e w' => e = .returned (formK (firstK P)) ∧ Below w.heap.size w w' := by
  obtain ⟨W2, hW2⟩ : ∃ W2, (w.alloc (.cells #[.int .i64 0, .int .i64 0, .int .i64 0, .int .i64 0] 100)).alloc (.cells #[.int .i64 0, .int .i64 0, .int .i64 0, .int .i64 0] 100) = W2 := ⟨_, rfl⟩
  have htab2 : UTab W2 := by rw [← hW2]; exact (htab.alloc _).alloc _
  have hb2 : Below w.heap.size w W2 := by rw [← hW2]; exact bel_alloc (bel_alloc (Below.refl _ _) _) _
  have hs2 : w.heap.size + 2 ≤ W2.heap.size := by rw [← hW2]; simp
  have bx0 : Box W2 (w.heap.size) [.int .i64 0, .int .i64 0, .int .i64 0, .int .i64 0] := by rw [← hW2]; exact (Box.new w _ _).alloc _
  have bx1 : Box W2 (w.heap.size + 1) [.int .i64 0, .int .i64 0, .int .i64 0, .int .i64 0] := by rw [← hW2]; exact Box.new' _ _ _ (by simp)
  go_enter Tryd.func54, Tryd.ntmps54
  go_wp2
  go_step3
  go_wp2
  go_step3
  clear hW2
  go_wp2_with (refine wpList_load_mid rfl 103 _ rfl 1 0 rfl utab _ htab2 Tryd.underlying103 rfl info_tab ?_)
  go_loopw [9] (fun i wr => ∃ k : Nat, k ≤ 4 ∧ i = .int .i64 k ∧ (∀ j, j < k → P j = false) ∧ Below W2.heap.size W2 wr) (fun i _ => 4 - (intOf i).toNat)
  case atStart => exact ⟨0, by omega, rfl, fun j hj => by omega, Below.refl _ _⟩
  case round =>
    obtain ⟨k, hk, rfl, hP, hbw⟩ := hrel
    have hsw := hbw.size
    by_cases hlt : k < 4
    · have hk4 : (k : Int) < 4 := by omega
      have hk0 : (0 : Int) ≤ k := by omega
      have hidx := index_form k hlt
      have hf := hfit k hlt
      have hres := Lib.hid (show formK k = .agg #[.int .i64 (fl k), .int .i64 (fh k), .int .i64 (fs k), .int .i64 (fd k)] from rfl)
      generalize fl k = x0 at *
      generalize fh k = x1 at *
      generalize fs k = x2 at *
      generalize fd k = x3 at *
      cases hq : P k
      · rw [hq] at hf
        have hF := Lib.hid (show ∀ j, j < k + 1 → P j = false from fun j hj => if e : j = k then e ▸ hq else hP j (by omega))
        clear hP hq hfit hlt
        go_wp2_with fail
        refine (hf _).mono ?_
        rintro e w1 ⟨rfl, hb⟩
        have c0 := Box.later (Box.new wr #[.int .i64 x0, .int .i64 x1, .int .i64 x2, .int .i64 x3] 100) hb
        have hbn := bel_next (bel_alloc hbw _) hb
        clear c0 bx0 bx1 hf
        go_wp2
        go_roundw
        case rel => exact ⟨k + 1, by omega, by go_num, hF.out, hbn⟩
        case measure => simp [intOf]; omega
      · rw [hq] at hf
        have hF := Lib.hid (show firstK P = k from first_yes P k hlt hP hq)
        clear hP hq hfit hlt
        go_wp2_with fail
        refine (hf _).mono ?_
        rintro e w1 ⟨rfl, hb⟩
        have c0 := Box.later (Box.new wr #[.int .i64 x0, .int .i64 x1, .int .i64 x2, .int .i64 x3] 100) hb
        have d0 := (c0 0 _ rfl).1
        have d1 := (c0 1 _ rfl).1
        have d2 := (c0 2 _ rfl).1
        have d3 := (c0 3 _ rfl).1
        have hbn := bel_next (bel_alloc hbw _) hb
        have b2 := bx1.later hbn
        have b3 := bx0.later hbn
        obtain ⟨W3, hW3⟩ : ∃ W3, set4 w1 (w.heap.size + 1) (.int .i64 x0) (.int .i64 x1) (.int .i64 x2) (.int .i64 x3) = W3 := ⟨_, rfl⟩
        have k3 : Box W3 (w.heap.size + 1) [.int .i64 x0, .int .i64 x1, .int .i64 x2, .int .i64 x3] := by rw [← hW3]; exact b2.set4 _ _ _ _
        have k2 : Box W3 w.heap.size [.int .i64 0, .int .i64 0, .int .i64 0, .int .i64 0] := by rw [← hW3]; exact b3.far4 _ _ _ _ (by omega)
        have hb3 : Below w.heap.size w W3 := by rw [← hW3]; exact below_set4 (hb2.trans (hbn.mono (by omega))) (by omega) _ _ _ _
        have hW3' : (((w1.setCell ⟨w.heap.size + 1, 0, none⟩ (.int .i64 x0)).setCell ⟨w.heap.size + 1, 1, none⟩ (.int .i64 x1)).setCell ⟨w.heap.size + 1, 2, none⟩ (.int .i64 x2)).setCell ⟨w.heap.size + 1, 3, none⟩ (.int .i64 x3) = W3 := hW3
        have p0 := (b2 0 _ rfl).1
        have q0 := (b2 0 _ rfl).2
        have p1 := (b2 1 _ rfl).1
        have q1 := (b2 1 _ rfl).2
        have p2 := (b2 2 _ rfl).1
        have q2 := (b2 2 _ rfl).2
        have p3 := (b2 3 _ rfl).1
        have q3 := (b2 3 _ rfl).2
        clear hW3 b2 b3 c0 bx0 bx1 hf
        go_upto_region 8 with (fail)
        clear hW3' p0 p1 p2 p3 q0 q1 q2 q3 d0 d1 d2 d3
        obtain ⟨W4, hW4⟩ : ∃ W4, set4 W3 w.heap.size (.int .i64 x0) (.int .i64 x1) (.int .i64 x2) (.int .i64 x3) = W4 := ⟨_, rfl⟩
        have k4 : Box W4 w.heap.size [.int .i64 x0, .int .i64 x1, .int .i64 x2, .int .i64 x3] := by rw [← hW4]; exact k2.set4 _ _ _ _
        have hb4 : Below w.heap.size w W4 := by rw [← hW4]; exact below_set4 hb3 (Nat.le_refl _) _ _ _ _
        have hW4' : (((W3.setCell ⟨w.heap.size, 0, none⟩ (.int .i64 x0)).setCell ⟨w.heap.size, 1, none⟩ (.int .i64 x1)).setCell ⟨w.heap.size, 2, none⟩ (.int .i64 x2)).setCell ⟨w.heap.size, 3, none⟩ (.int .i64 x3) = W4 := hW4
        have p0 := (k3 0 _ rfl).1
        have q0 := (k3 0 _ rfl).2
        have r0 := (k2 0 _ rfl).1
        have s0 := (k2 0 _ rfl).2
        have t0 := (k4 0 _ rfl).1
        have p1 := (k3 1 _ rfl).1
        have q1 := (k3 1 _ rfl).2
        have r1 := (k2 1 _ rfl).1
        have s1 := (k2 1 _ rfl).2
        have t1 := (k4 1 _ rfl).1
        have p2 := (k3 2 _ rfl).1
        have q2 := (k3 2 _ rfl).2
        have r2 := (k2 2 _ rfl).1
        have s2 := (k2 2 _ rfl).2
        have t2 := (k4 2 _ rfl).1
        have p3 := (k3 3 _ rfl).1
        have q3 := (k3 3 _ rfl).2
        have r3 := (k2 3 _ rfl).1
        have s3 := (k2 3 _ rfl).2
        have t3 := (k4 3 _ rfl).1
        clear hW4 k3 k2 k4
        go_wp2
        rw [Exit.noGoto_ret]
        exact bodyPost_ret (v := .agg #[.int .i64 x0, .int .i64 x1, .int .i64 x2, .int .i64 x3]) (by simp [results, Tryd.results54, go_sem, *]) rfl ⟨by rw [hF.out, hres.out], hb4⟩
    · have hF := Lib.hid (first_no P (fun j hj => hP j (by omega)))
      have hk4 : k = 4 := by omega
      subst hk4
      clear hP hfit hlt
      have b0 := bx0.later hbw
      have b1 := bx1.later hbw
      have hb3 : Below w.heap.size w wr := hb2.trans (hbw.mono (by omega))
      clear bx0 bx1
      obtain ⟨W4, hW4⟩ : ∃ W4, set4 wr w.heap.size (.int .i64 0) (.int .i64 0) (.int .i64 0) (.int .i64 0) = W4 := ⟨_, rfl⟩
      have k4 : Box W4 w.heap.size [.int .i64 0, .int .i64 0, .int .i64 0, .int .i64 0] := by rw [← hW4]; exact b0.set4 _ _ _ _
      have hb4 : Below w.heap.size w W4 := by rw [← hW4]; exact below_set4 hb3 (Nat.le_refl _) _ _ _ _
      have hW4' : (((wr.setCell ⟨w.heap.size, 0, none⟩ (.int .i64 0)).setCell ⟨w.heap.size, 1, none⟩ (.int .i64 0)).setCell ⟨w.heap.size, 2, none⟩ (.int .i64 0)).setCell ⟨w.heap.size, 3, none⟩ (.int .i64 0) = W4 := hW4
      have p0 := (b1 0 _ rfl).1
      have q0 := (b1 0 _ rfl).2
      have r0 := (b0 0 _ rfl).1
      have s0 := (b0 0 _ rfl).2
      have t0 := (k4 0 _ rfl).1
      have p1 := (b1 1 _ rfl).1
      have q1 := (b1 1 _ rfl).2
      have r1 := (b0 1 _ rfl).1
      have s1 := (b0 1 _ rfl).2
      have t1 := (k4 1 _ rfl).1
      have p2 := (b1 2 _ rfl).1
      have q2 := (b1 2 _ rfl).2
      have r2 := (b0 2 _ rfl).1
      have s2 := (b0 2 _ rfl).2
      have t2 := (k4 2 _ rfl).1
      have p3 := (b1 3 _ rfl).1
      have q3 := (b1 3 _ rfl).2
      have r3 := (b0 3 _ rfl).1
      have s3 := (b0 3 _ rfl).2
      have t3 := (k4 3 _ rfl).1
      clear hW4 b1 b0 k4
      go_wp2
      rw [Exit.noGoto_ret]
      exact bodyPost_ret (v := .agg #[.int .i64 0, .int .i64 0, .int .i64 0, .int .i64 0]) (by simp [results, Tryd.results54, go_sem, *]) rfl ⟨by rw [hF.out]; rfl, hb4⟩
end Go.Proofs.YtinaecmpigenoaaDoor
/-
  Layer 1, plain: bits of the bytes, in the walk's spelling.
-/
namespace Go.Proofs.YtinaecmpigenoaaDoor
open Go.RowKit

theorem ofInt_i64 (a : Nat) (ha : a < 9223372036854775808) : (BitVec.ofInt 64 (a : Int)).toNat = a := by
  rw [BitVec.ofInt_natCast, BitVec.toNat_ofNat]; exact Nat.mod_eq_of_lt (by omega)
theorem i64_and_nat (a b : Nat) (ha : a < 9223372036854775808) (hb : b < 9223372036854775808) : bits .and .i64 (a : Int) (b : Int) = ((a &&& b : Nat) : Int) := by
  have hx : a &&& b < 2 ^ 63 := Nat.and_lt_two_pow _ (by omega)
  show IntKind.i64.wrap ((BitVec.ofInt 64 (a : Int) &&& BitVec.ofInt 64 (b : Int)).toNat : Int) = _
  rw [BitVec.toNat_and, ofInt_i64 a ha, ofInt_i64 b hb, IntKind.wrap_i64]
  omega
theorem i64_or_nat (a b : Nat) (ha : a < 9223372036854775808) (hb : b < 9223372036854775808) : bits .or .i64 (a : Int) (b : Int) = ((a ||| b : Nat) : Int) := by
  have hx : a ||| b < 2 ^ 63 := Nat.or_lt_two_pow (by omega) (by omega)
  show IntKind.i64.wrap ((BitVec.ofInt 64 (a : Int) ||| BitVec.ofInt 64 (b : Int)).toNat : Int) = _
  rw [BitVec.toNat_or, ofInt_i64 a ha, ofInt_i64 b hb, IntKind.wrap_i64]
  omega
theorem or_sum (i a b : Nat) (h : b < 2 ^ i) : (2 ^ i * a) ||| b = 2 ^ i * a + b := (Nat.two_pow_add_eq_or_of_lt h a).symm
theorem wrap8 (n : Nat) (h : n < 256) : IntKind.u8.wrap (n : Int) = (n : Int) := by
  have : IntKind.u8.wrap (n : Int) = (n : Int) % 256 := by simp [IntKind.wrap, IntKind.bits, IntKind.signed]
  rw [this]; omega
theorem or_i (i a x : Nat) (h : x < 2 ^ i) (hi : 2 ^ i * a + x < 256) (ha : 2 ^ i * a < 256) : IntKind.u8.wrap (bits .or .i64 ((2 ^ i * a : Nat) : Int) (x : Int)) = ((b8 (2 ^ i * a + x)).toNat : Int) := by
  rw [i64_or_nat _ _ (by omega) (by omega), or_sum _ _ _ h, wrap8 _ hi, b8_toNat _ hi]
theorem yb_first1 (c : Nat) (h : c ≤ 127) : IntKind.u8.wrap (bits .or .i64 0 (c : Int)) = ((b8 c).toNat : Int) := by
  have := or_i 7 0 c (by omega) (by omega) (by omega)
  simpa using this
theorem yb_first2 (c : Nat) (h : c ≤ 2047) : IntKind.u8.wrap (bits .or .i64 192 ((c : Int) / 64)) = ((b8 (192 + c / 64)).toNat : Int) :=
  or_i 5 6 (c / 64) (by omega) (by omega) (by omega)
theorem yb_first3 (c : Nat) (h : c ≤ 65535) : IntKind.u8.wrap (bits .or .i64 224 ((c : Int) / 4096)) = ((b8 (224 + c / 4096)).toNat : Int) :=
  or_i 4 14 (c / 4096) (by omega) (by omega) (by omega)
theorem yb_first4 (c : Nat) (h : c ≤ 1114111) : IntKind.u8.wrap (bits .or .i64 240 ((c : Int) / 262144)) = ((b8 (240 + c / 262144)).toNat : Int) :=
  or_i 3 30 (c / 262144) (by omega) (by omega) (by omega)
theorem and63 (x : Nat) (h : x < 9223372036854775808) : bits .and .i64 (x : Int) 63 = ((x % 64 : Nat) : Int) := by
  have := i64_and_nat x 63 h (by omega)
  rw [show ((63 : Nat) : Int) = 63 from rfl] at this
  rw [this, show (63 : Nat) = 2 ^ 6 - 1 from rfl, Nat.and_two_pow_sub_one_eq_mod]
theorem yb_next (x : Nat) (h : x ≤ 1114111) : IntKind.u8.wrap (bits .or .i64 128 (bits .and .i64 (x : Int) 63)) = ((b8 (128 + x % 64)).toNat : Int) := by
  rw [and63 x (by omega)]
  exact or_i 6 2 (x % 64) (by omega) (by omega) (by omega)
end Go.Proofs.YtinaecmpigenoaaDoor
/-
  Layer 1, plain: reading by the forms.
-/
namespace Go.Proofs.YtinaecmpigenoaaDoor
open Go.RowKit

/-- The index of the form that a first byte begins. -/
def sIdx (n : Int) : Nat := firstK fun k => startsB (fs k) (fd k) n
theorem sIdx_cases (n : Nat) (h : n < 256) : (n < 128 ∧ sIdx n = 0) ∨ (128 ≤ n ∧ n < 192 ∧ sIdx n = 4) ∨ (192 ≤ n ∧ n < 224 ∧ sIdx n = 1) ∨ (224 ≤ n ∧ n < 240 ∧ sIdx n = 2) ∨ (240 ≤ n ∧ n < 248 ∧ sIdx n = 3) ∨ (248 ≤ n ∧ sIdx n = 4) := by
  unfold sIdx
  have s0 : startsB (fs 0) (fd 0) n = decide (n < 128) := by rw [Bool.eq_iff_iff]; simp [startsB, fs, fd, roomOf]; omega
  have s1 : startsB (fs 1) (fd 1) n = decide (192 ≤ n ∧ n < 224) := by rw [Bool.eq_iff_iff]; simp [startsB, fs, fd, roomOf]; omega
  have s2 : startsB (fs 2) (fd 2) n = decide (224 ≤ n ∧ n < 240) := by rw [Bool.eq_iff_iff]; simp [startsB, fs, fd, roomOf]; omega
  have s3 : startsB (fs 3) (fd 3) n = decide (240 ≤ n ∧ n < 248) := by rw [Bool.eq_iff_iff]; simp [startsB, fs, fd, roomOf]; omega
  unfold firstK
  simp only [s0, s1, s2, s3, decide_eq_true_eq]
  by_cases h0 : n < 128
  · exact .inl ⟨h0, by rw [if_pos h0]⟩
  by_cases h1 : n < 192
  · exact .inr (.inl ⟨by omega, h1, by rw [if_neg (by omega), if_neg (by omega), if_neg (by omega), if_neg (by omega)]⟩)
  by_cases h2 : n < 224
  · exact .inr (.inr (.inl ⟨by omega, h2, by rw [if_neg (by omega), if_pos (by omega)]⟩))
  by_cases h3 : n < 240
  · exact .inr (.inr (.inr (.inl ⟨by omega, h3, by rw [if_neg (by omega), if_neg (by omega), if_pos (by omega)]⟩)))
  by_cases h4 : n < 248
  · exact .inr (.inr (.inr (.inr (.inl ⟨by omega, h4, by rw [if_neg (by omega), if_neg (by omega), if_neg (by omega), if_pos (by omega)]⟩))))
  · exact .inr (.inr (.inr (.inr (.inr ⟨by omega, by rw [if_neg (by omega), if_neg (by omega), if_neg (by omega), if_neg (by omega)]⟩))))
theorem holds_iff (l h n : Int) : holdsB l h n = true ↔ l ≤ n ∧ n ≤ h ∧ (n < 55296 ∨ 57343 < n) := by unfold holdsB; simp
def fdN : Nat → Nat | 0 => 0 | 1 => 192 | 2 => 224 | 3 => 240 | _ => 0
theorem fdN_fd (k : Nat) : fd k = (fdN k : Int) := by
  match k with
  | 0 => rfl
  | 1 => rfl
  | 2 => rfl
  | 3 => rfl
  | _ + 4 => rfl
theorem fs_of (k : Nat) (h : k < 4) : fs k = ((k + 1 : Nat) : Int) := by
  rcases (show k = 0 ∨ k = 1 ∨ k = 2 ∨ k = 3 by omega) with rfl | rfl | rfl | rfl <;> rfl
/-- The number that j bytes give, the first less its lead. -/
def part (l : List UInt8) (d : Nat) : Nat → Nat
  | 0 => 0
  | 1 => (l.getD 0 0).toNat - d
  | j + 2 => part l d (j + 1) * 64 + ((l.getD (j + 1) 0).toNat - 128)
theorem part_succ (l : List UInt8) (d j : Nat) (h : 1 ≤ j) : part l d (j + 1) = part l d j * 64 + ((l.getD j 0).toNat - 128) := by
  match j, h with
  | j + 1, _ => rfl
theorem part_lt (l : List UInt8) (d : Nat) (hc : ∀ q, (l.getD q 0).toNat < 256) (h0 : (l.getD 0 0).toNat - d < 128) (j : Nat) (hj : j ≤ 4) : part l d j < 100000000 := by
  have p0 : part l d 0 = 0 := rfl
  have p1 : part l d 1 = (l.getD 0 0).toNat - d := rfl
  have p2 := part_succ l d 1 (by omega)
  have p3 := part_succ l d 2 (by omega)
  have p4 := part_succ l d 3 (by omega)
  have q1 := hc 1
  have q2 := hc 2
  have q3 := hc 3
  rcases (show j = 0 ∨ j = 1 ∨ j = 2 ∨ j = 3 ∨ j = 4 by omega) with rfl | rfl | rfl | rfl | rfl
  · omega
  · omega
  · simp only [Nat.reduceAdd] at p2; omega
  · simp only [Nat.reduceAdd] at p2 p3; omega
  · simp only [Nat.reduceAdd] at p2 p3 p4; omega

theorem dec_none (l : List UInt8) (h : sIdx ((l.getD 0 0).toNat : Int) = 4) : decL l = (0, 0) := by
  rcases l with _ | ⟨a, r⟩
  · rfl
  have hs := sIdx_cases a.toNat a.toNat_lt
  have h' : sIdx (a.toNat : Int) = 4 := h
  simp only [decL]
  rw [h'] at hs
  rcases hs with h | h | h | h | h | h
  · omega
  · rw [if_neg (by omega), if_pos (by omega)]
  · omega
  · omega
  · omega
  · rw [if_neg (by omega), if_neg (by omega), if_neg (by omega), if_neg (by omega), if_neg (by omega)]
theorem dec_short (l : List UInt8) (k : Nat) (hk : sIdx ((l.getD 0 0).toNat : Int) = k) (hl : 0 < l.length) (h4 : k < 4) (h : l.length < k + 1) : decL l = (0, 0) := by
  rcases l with _ | ⟨a, r⟩
  · rfl
  have hs := sIdx_cases a.toNat a.toNat_lt
  have h' : sIdx (a.toNat : Int) = k := hk
  simp only [decL]
  simp only [List.length_cons] at h
  rw [h'] at hs
  rcases hs with h | h | h | h | h | h
  · omega
  · omega
  · rw [if_neg (by omega), if_neg (by omega), if_pos (by omega)]
    rcases r with _ | ⟨b, r⟩
    · rfl
    · simp at *; omega
  · rw [if_neg (by omega), if_neg (by omega), if_neg (by omega), if_pos (by omega)]
    rcases r with _ | ⟨b, _ | ⟨c, r⟩⟩
    · rfl
    · rfl
    · simp at *; omega
  · rw [if_neg (by omega), if_neg (by omega), if_neg (by omega), if_neg (by omega), if_pos (by omega)]
    rcases r with _ | ⟨b, _ | ⟨c, _ | ⟨d, r⟩⟩⟩
    · rfl
    · rfl
    · rfl
    · simp at *; omega
  · omega
theorem okIf_false (c n : Nat) : okIf false c n = (0, 0) := rfl
theorem dec_bad (l : List UInt8) (k : Nat) (hk : sIdx ((l.getD 0 0).toNat : Int) = k) (h4 : k < 4) (hl : k + 1 ≤ l.length) (q : Nat) (hq1 : 1 ≤ q) (hq : q ≤ k) (hb : cont (l.getD q 0) = false) : decL l = (0, 0) := by
  rcases l with _ | ⟨a, r⟩
  · rfl
  have hs := sIdx_cases a.toNat a.toNat_lt
  have h' : sIdx (a.toNat : Int) = k := hk
  simp only [decL]
  simp only [List.length_cons] at hl
  rw [h'] at hs
  rcases hs with h | h | h | h | h | h
  · omega
  · omega
  · rw [if_neg (by omega), if_neg (by omega), if_pos (by omega)]
    obtain rfl : q = 1 := by omega
    rcases r with _ | ⟨b, r⟩
    · rfl
    · have hb' : cont b = false := hb
      simp only [hb', Bool.false_and, okIf_false]
  · rw [if_neg (by omega), if_neg (by omega), if_neg (by omega), if_pos (by omega)]
    rcases r with _ | ⟨b, _ | ⟨c, r⟩⟩
    · rfl
    · rfl
    · rcases (show q = 1 ∨ q = 2 by omega) with rfl | rfl
      · have hb' : cont b = false := hb
        simp only [hb', Bool.false_and, okIf_false]
      · have hb' : cont c = false := hb
        simp only [hb', Bool.false_and, Bool.and_false, okIf_false]
  · rw [if_neg (by omega), if_neg (by omega), if_neg (by omega), if_neg (by omega), if_pos (by omega)]
    rcases r with _ | ⟨b, _ | ⟨c, _ | ⟨d, r⟩⟩⟩
    · rfl
    · rfl
    · rfl
    · rcases (show q = 1 ∨ q = 2 ∨ q = 3 by omega) with rfl | rfl | rfl
      · have hb' : cont b = false := hb
        simp only [hb', Bool.false_and, okIf_false]
      · have hb' : cont c = false := hb
        simp only [hb', Bool.false_and, Bool.and_false, okIf_false]
      · have hb' : cont d = false := hb
        simp only [hb', Bool.false_and, Bool.and_false, okIf_false]
  · omega
theorem dec_all (l : List UInt8) (k : Nat) (hk : sIdx ((l.getD 0 0).toNat : Int) = k) (h4 : k < 4) (hl : k + 1 ≤ l.length) (hc : ∀ q, 1 ≤ q → q < k + 1 → cont (l.getD q 0) = true) :
    decL l = okIf (holdsB (fl k) (fh k) (part l (fdN k) (k + 1) : Nat)) (part l (fdN k) (k + 1)) (k + 1) := by
  rcases l with _ | ⟨a, r⟩
  · simp at hl
  have hs := sIdx_cases a.toNat a.toNat_lt
  have h' : sIdx (a.toNat : Int) = k := hk
  simp only [decL]
  simp only [List.length_cons] at hl
  rw [h'] at hs
  rcases hs with ⟨h, rfl⟩ | h | ⟨h, h2, rfl⟩ | ⟨h, h2, rfl⟩ | ⟨h, h2, rfl⟩ | h
  · rw [if_pos h]
    have e1 : part (a :: r) (fdN 0) (0 + 1) = a.toNat := rfl
    have e : holdsB (fl 0) (fh 0) (a.toNat : Int) = true := (holds_iff _ _ _).2 ⟨show (0 : Int) ≤ _ by omega, show _ ≤ (127 : Int) by omega, .inl (by omega)⟩
    rw [e1, e]
    rfl
  · omega
  · rw [if_neg (by omega), if_neg (by omega), if_pos (by omega)]
    rcases r with _ | ⟨b, r⟩
    · simp at hl
    · have c1 : cont b = true := hc 1 (by omega) (by omega)
      have c1' := (cont_iff _).1 c1
      have e : part (a :: b :: r) (fdN 1) (1 + 1) = (a.toNat - 192) * 64 + (b.toNat - 128) := rfl
      rw [e]
      dsimp only
      generalize hx : (a.toNat - 192) * 64 + (b.toNat - 128) = x
      have hb : (cont b && decide (128 ≤ x)) = holdsB (fl 1) (fh 1) (x : Int) := by
        rw [c1, Bool.eq_iff_iff, holds_iff, Bool.true_and, decide_eq_true_eq]
        show _ ↔ (128 : Int) ≤ x ∧ (x : Int) ≤ 2047 ∧ _
        omega
      rw [hb]
  · rw [if_neg (by omega), if_neg (by omega), if_neg (by omega), if_pos (by omega)]
    rcases r with _ | ⟨b, _ | ⟨c, r⟩⟩
    · simp at hl
    · simp at hl
    · have c1 : cont b = true := hc 1 (by omega) (by omega)
      have c2 : cont c = true := hc 2 (by omega) (by omega)
      have c1' := (cont_iff _).1 c1
      have c2' := (cont_iff _).1 c2
      have e : part (a :: b :: c :: r) (fdN 2) (2 + 1) = ((a.toNat - 224) * 64 + (b.toNat - 128)) * 64 + (c.toNat - 128) := rfl
      rw [e]
      dsimp only
      generalize hx : ((a.toNat - 224) * 64 + (b.toNat - 128)) * 64 + (c.toNat - 128) = x
      have hb : (cont b && cont c && decide (2048 ≤ x) && isCp x) = holdsB (fl 2) (fh 2) (x : Int) := by
        rw [c1, c2, Bool.eq_iff_iff, holds_iff]
        simp only [Bool.true_and, Bool.and_eq_true, isCp_iff, decide_eq_true_eq]
        show _ ↔ (2048 : Int) ≤ x ∧ (x : Int) ≤ 65535 ∧ _
        omega
      rw [hb]
  · rw [if_neg (by omega), if_neg (by omega), if_neg (by omega), if_neg (by omega), if_pos (by omega)]
    rcases r with _ | ⟨b, _ | ⟨c, _ | ⟨d, r⟩⟩⟩
    · simp at hl
    · simp at hl
    · simp at hl
    · have c1 : cont b = true := hc 1 (by omega) (by omega)
      have c2 : cont c = true := hc 2 (by omega) (by omega)
      have c3 : cont d = true := hc 3 (by omega) (by omega)
      have c1' := (cont_iff _).1 c1
      have c2' := (cont_iff _).1 c2
      have c3' := (cont_iff _).1 c3
      have e : part (a :: b :: c :: d :: r) (fdN 3) (3 + 1) = (((a.toNat - 240) * 64 + (b.toNat - 128)) * 64 + (c.toNat - 128)) * 64 + (d.toNat - 128) := rfl
      rw [e]
      dsimp only
      generalize hx : (((a.toNat - 240) * 64 + (b.toNat - 128)) * 64 + (c.toNat - 128)) * 64 + (d.toNat - 128) = x
      have hb : (cont b && cont c && cont d && decide (65536 ≤ x) && isCp x) = holdsB (fl 3) (fh 3) (x : Int) := by
        rw [c1, c2, c3, Bool.eq_iff_iff, holds_iff]
        simp only [Bool.true_and, Bool.and_eq_true, isCp_iff, decide_eq_true_eq]
        show _ ↔ (65536 : Int) ≤ x ∧ (x : Int) ≤ 1114111 ∧ _
        omega
      rw [hb]
  · omega
set_option maxRecDepth 20000 in
/-- Bits of a byte that goes on. -/
theorem and192 (x : UInt8) : (bits .and .i64 (x.toNat : Int) 192 != 128) = !cont x := by
  have h := i64_and_nat x.toNat 192 (by have := x.toNat_lt; omega) (by omega)
  rw [show ((192 : Nat) : Int) = 192 from rfl] at h
  rw [h]
  have key : ∀ n : Nat, n < 256 → ((n &&& 192 : Nat) != 128) = !(decide (128 ≤ n) && decide (n < 192)) := by decide +kernel
  have k2 := key x.toNat x.toNat_lt
  unfold cont
  rw [← k2]
  rw [Bool.eq_iff_iff]
  simp
  omega
theorem step6 (p x : Nat) (hp : p < 100000000) (h1 : 128 ≤ x) (h2 : x < 192) : bits .or .i64 ((p : Int) * 64) (bits .and .i64 (x : Int) 63) = ((p * 64 + (x - 128) : Nat) : Int) := by
  rw [and63 x (by omega)]
  have := i64_or_nat (p * 64) (x % 64) (by omega) (by omega)
  rw [show ((p * 64 : Nat) : Int) = (p : Int) * 64 from by push_cast; rfl] at this
  have h2 := or_sum 6 p (x % 64) (by omega)
  rw [show 2 ^ 6 * p = p * 64 by omega] at h2
  rw [this, h2, show x % 64 = x - 128 by omega]
end Go.Proofs.YtinaecmpigenoaaDoor
/-
  Strings: a list of bytes as a string; '[]byte' made a string. No program in sight.
-/
namespace Go.Proofs.YtinaecmpigenoaaDoor
open Go.RowKit

/-- A list of bytes as a string. -/
def ofL (l : List UInt8) : ByteArray := ⟨l.toArray⟩
theorem ofL_toList (l : List UInt8) : (ofL l).data.toList = l := by simp [ofL]
theorem ofL_size (l : List UInt8) : (ofL l).size = l.length := by simp [ofL, ByteArray.size]
theorem ofL_of (s : ByteArray) : ofL s.data.toList = s := by
  cases s
  simp [ofL]
theorem ofL_inj {l m : List UInt8} (h : ofL l = ofL m) : l = m := by
  have := congrArg (fun s : ByteArray => s.data.toList) h
  simpa [ofL_toList] using this
theorem ofL_push (l : List UInt8) (c : UInt8) : (ofL l).push c = ofL (l ++ [c]) := by
  simp [ofL, ByteArray.push]
theorem foldl_push : ∀ (l r : List UInt8), (l.map fun c => (c.toNat : Int)).foldl (fun r n => r.push (UInt8.ofNat n.toNat)) (ofL r) = ofL (r ++ l)
  | [], r => by simp
  | c :: l, r => by
    simp only [List.map_cons, List.foldl_cons]
    rw [show UInt8.ofNat ((c.toNat : Int)).toNat = c by simp, ofL_push, foldl_push l]
    simp

theorem run_bytes_string {P : Program} {src dst e : TypeId} (hs : P.underlying src = some (.slice e)) (he : P.underlying e = some (.int .u8)) (hd : P.underlying dst = some .string)
    (w : World) (A : Option Addr) (n c B : Nat) (l : List UInt8) (h : Bytes w B A n l) : (convert src dst (.slice A n c)).run P w = .ok (.string (ofL l)) w := by
  rw [run_convert_bytes_string w src dst e A n c hs he hd]
  have hn := h.len
  rcases A with _ | a
  · have hz : l = [] := by
      rcases Nat.eq_zero_or_pos n with h0 | h0
      · exact List.eq_nil_of_length_eq_zero (by omega)
      · obtain ⟨_, _, e1, _⟩ := h.2 h0
        cases e1
    subst hz
    rfl
  · have hc : ∀ j v, (l.map bv)[j]? = some v → w.cell? (a.add j) = some v := by
      intro j v hj
      have h0 : 0 < n := by
        rcases Nat.eq_zero_or_pos n with h0 | h0
        · have : l = [] := List.eq_nil_of_length_eq_zero (by omega)
          subst this
          simp at hj
        · exact h0
      obtain ⟨b, off, e1, _, h2⟩ := h.2 h0
      injection e1 with e1
      subst e1
      rw [addr_add]
      exact h2 j v hj
    have hl := run_loadCells_list (P := P) (w := w) a (l.map bv) hc
    rw [List.length_map, hn] at hl
    have h2 := run_bytesToString (P := P) w a n c (l.map fun c => (c.toNat : Int)) (by rw [hl, List.map_map]; rfl)
    rw [h2]
    have h3 := foldl_push l []
    rw [show (ByteArray.empty) = ofL [] from rfl, h3]
    rfl
end Go.Proofs.YtinaecmpigenoaaDoor
/-
  Layer 1: decode, of a string.
-/
namespace Go.Proofs.YtinaecmpigenoaaDoor
open Go.RowKit

theorem str_at (s : ByteArray) (k : Nat) (h : k < s.size) : ((s[k]'h).toNat : Int) = at8 s.data.toList k := by
  unfold at8
  rw [List.getD_eq_getElem?_getD, List.getElem?_eq_getElem (by simpa using h)]
  rfl
theorem drop_getD (l : List UInt8) (p q : Nat) : (l.drop p).getD q 0 = l.getD (p + q) 0 := by
  rw [List.getD_eq_getElem?_getD, List.getD_eq_getElem?_getD, List.getElem?_drop]
theorem firstK_le (P : Nat → Bool) : firstK P ≤ 4 := by
  unfold firstK
  split
  · omega
  split
  · omega
  split
  · omega
  split <;> omega
theorem first_lead (n : Int) (k : Nat) (h0 : 0 ≤ n) (h1 : n ≤ 255) (h : sIdx n = k) (hk : k < 4) : (fdN k : Int) ≤ n ∧ n - (fdN k : Int) < 128 := by
  obtain ⟨a, rfl⟩ : ∃ a : Nat, n = (a : Int) := ⟨n.toNat, by omega⟩
  have hs := sIdx_cases a (by omega)
  rw [h] at hs
  rcases (show k = 0 ∨ k = 1 ∨ k = 2 ∨ k = 3 by omega) with rfl | rfl | rfl | rfl <;> simp only [fdN] <;> omega
/-- What decode tells. -/
def decR (l : List UInt8) (p : Nat) : Value :=
  if (decL (l.drop p)).2 = 0 then .tuple #[.int .i64 0, .int .i64 0, .int .i64 110]
  else .tuple #[.int .i64 ((decL (l.drop p)).1 : Int), .int .i64 ((p + (decL (l.drop p)).2 : Nat) : Int), .int .i64 0]
theorem decR_no {l : List UInt8} {p : Nat} (h : decL (l.drop p) = (0, 0)) : decR l p = .tuple #[.int .i64 0, .int .i64 0, .int .i64 110] := by unfold decR; rw [h]; rfl
theorem decR_yes {l : List UInt8} {p c n : Nat} (h : decL (l.drop p) = (c, n)) (hn : n ≠ 0) : decR l p = .tuple #[.int .i64 (c : Int), .int .i64 ((p + n : Nat) : Int), .int .i64 0] := by unfold decR; rw [h, if_neg hn]
theorem find_first (n : Int) (w : World) (htab : UTab w) (h0 : 0 ≤ n) (h1 : n ≤ 300) :
    Calls Tryd.prog 54 #[.func (.func 55) #[] #[], .int .i64 n] w fun e w' => e = .returned (.agg #[.int .i64 (fl (sIdx n)), .int .i64 (fh (sIdx n)), .int .i64 (fs (sIdx n)), .int .i64 (fd (sIdx n))]) ∧ Below w.heap.size w w' :=
  find_starts (fun k => startsB (fs k) (fd k) n) n w htab fun k hk W =>
    starts_any _ _ _ _ _ W (by rcases (show k = 0 ∨ k = 1 ∨ k = 2 ∨ k = 3 by omega) with rfl | rfl | rfl | rfl <;> simp [fs]) (by rcases (show k = 0 ∨ k = 1 ∨ k = 2 ∨ k = 3 by omega) with rfl | rfl | rfl | rfl <;> simp [fd]) (by rcases (show k = 0 ∨ k = 1 ∨ k = 2 ∨ k = 3 by omega) with rfl | rfl | rfl | rfl <;> simp [fd]) h1 h0

set_option maxRecDepth 100000 in
set_option maxHeartbeats 2000000 in
theorem decode_string (s : ByteArray) (p : Nat) (w : World) (htab : UTab w) (hm : s.size ≤ maxLen) (hp : p < s.size) :
    Calls Tryd.prog 53 #[.string s, .int .i64 p] w fun e w' => e = .returned (decR s.data.toList p) ∧ Below w.heap.size w w' := by
  have hlen := Lib.hid (show s.data.toList.length = s.size by simp)
  unfold maxLen at hm
  obtain ⟨l, Hl⟩ : ∃ l, Hid (s.data.toList = l) := ⟨_, Lib.hid rfl⟩
  have hs0 : ((s[p]'hp).toNat : Int) = at8 l p := by rw [← Hl.out]; exact str_at s p hp
  have hsj : ∀ (j : Nat) (h : p + j < s.size), ((s[p + j]'h).toNat : Int) = at8 l (p + j) := fun j h => by rw [← Hl.out]; exact str_at s (p + j) h
  rw [Hl.out] at hlen
  have HR := Lib.hid (show decR s.data.toList p = decR l p by rw [Hl.out])
  rw [HR.out]
  clear HR
  clear Hl
  have hp0 : (0 : Int) ≤ (p : Int) := by omega
  have hp1 : (p : Int) < (s.size : Int) := by omega
  have g0 := at8_lo l p
  have g1 := at8_hi l p
  have hfirst : at8 l p = (((l.drop p).getD 0 0).toNat : Int) := by unfold at8; rw [drop_getD]; rfl
  obtain ⟨k, Hk⟩ : ∃ k, Hid (sIdx (at8 l p) = k) := ⟨_, Lib.hid rfl⟩
  have hfind := find_first (at8 l p) w htab g0 (by omega)
  rw [Hk.out] at hfind
  have hk4 : k ≤ 4 := by rw [← Hk.out]; exact firstK_le _
  rcases (show k = 4 ∨ k < 4 by omega) with rfl | hlt
  · have HR := Lib.hid (show decR l p = .tuple #[.int .i64 0, .int .i64 0, .int .i64 110] from decR_no (dec_none _ (by rw [← hfirst]; exact Hk.out)))
    clear Hk hfirst
    simp only [fl, fh, fs, fd] at hfind
    go_enter Tryd.func53, Tryd.ntmps53
    go_wp2_with fail
    refine hfind.mono ?_
    rintro e w1 ⟨rfl, hb1⟩
    go_wp2
    go_ret3
    exact ⟨by rw [HR.out]; rfl, bel_alloc hb1 _⟩
  · have hfs := fs_of k hlt
    rw [hfs] at hfind
    have hdd := fdN_fd k
    rw [hdd] at hfind
    have hdl : fdN k ≤ 240 := by rcases (show k = 0 ∨ k = 1 ∨ k = 2 ∨ k = 3 by omega) with rfl | rfl | rfl | rfl <;> decide
    have hd2 : (fdN k : Int) ≤ at8 l p ∧ at8 l p - (fdN k : Int) < 128 := first_lead (at8 l p) k g0 g1 Hk.out hlt
    obtain ⟨hd2, hd3⟩ := hd2
    have Hp1 := Lib.hid (show IntKind.i64.wrap (at8 l p - (fdN k : Int)) = (part (l.drop p) (fdN k) 1 : Nat) by rw [IntWalk.i64_in _ (by omega)]; show _ = (((((l.drop p).getD 0 0).toNat) - fdN k : Nat) : Int); omega)
    have Hlt := Lib.hid (part_lt (l.drop p) (fdN k) (fun q => UInt8.toNat_lt _) (by omega))
    have Hshort := Lib.hid (fun h : l.length - p < k + 1 => decR_no (dec_short (l.drop p) k (by rw [← hfirst]; exact Hk.out) (by rw [List.length_drop, hlen.out]; omega) hlt (by rw [List.length_drop]; omega)))
    have Hbad := Lib.hid (fun (h : k + 1 ≤ l.length - p) (q : Nat) (h1 : 1 ≤ q) (h2 : q ≤ k) (hb : cont (l.getD (p + q) 0) = false) => decR_no (p := p) (dec_bad (l.drop p) k (by rw [← hfirst]; exact Hk.out) hlt (by rw [List.length_drop]; omega) q h1 h2 (by rw [drop_getD]; exact hb)))
    have Hall := Lib.hid (fun (h : k + 1 ≤ l.length - p) (hc : ∀ q, 1 ≤ q → q < k + 1 → cont (l.getD (p + q) 0) = true) => dec_all (l.drop p) k (by rw [← hfirst]; exact Hk.out) hlt (by rw [List.length_drop]; omega) (fun q h1 h2 => by rw [drop_getD]; exact hc q h1 h2))
    clear hfirst Hk hfs hdd
    generalize fl k = x0 at *
    generalize fh k = x1 at *
    generalize fdN k = d at *
    have hk0 : (((k + 1 : Nat) : Int) == 0) = false := by rw [beq_eq_false_iff_ne]; omega
    obtain ⟨s1, hs1⟩ : ∃ s1 : Nat, s1 = k + 1 := ⟨_, rfl⟩
    rw [← hs1] at hfind hk0 Hall Hshort Hbad
    have hs4 : s1 ≤ 4 := by omega
    have hs0' : 1 ≤ s1 := by omega
    have Hs1 := Lib.hid hs1
    clear hs1
    by_cases hlong : s1 ≤ s.size - p
    · have hlong' : ¬ ((s1 : Int) > (s.size : Int) - (p : Int)) := by omega
      have hlong2 : (s1 : Int) ≤ (s.size : Int) - (p : Int) := by omega
      go_enter Tryd.func53, Tryd.ntmps53
      go_wp2_with fail
      refine hfind.mono ?_
      rintro e w1 ⟨rfl, hb1⟩
      go_wp2
      have hp1' := Hp1.out
      go_quiet (fail)
      clear hp1'
      go_wp2
      have hb2 := bel_alloc hb1 (.cells #[.int .i64 x0, .int .i64 x1, .int .i64 s1, .int .i64 d] 100)
      have bx := Box.new w1 #[.int .i64 x0, .int .i64 x1, .int .i64 s1, .int .i64 d] 100
      go_loopw [8, 9] (fun c i wr => ∃ j : Nat, 1 ≤ j ∧ j ≤ s1 ∧ i = .int .i64 j ∧ c = .int .i64 (part (l.drop p) d j : Nat) ∧ (∀ q, 1 ≤ q → q < j → cont (l.getD (p + q) 0) = true) ∧ ∃ mm, wr = (w1.alloc (.cells #[.int .i64 x0, .int .i64 x1, .int .i64 s1, .int .i64 d] 100)).drewN mm) (fun c i _ => 8 - (intOf i).toNat)
      case atStart => exact ⟨1, by omega, hs0', rfl, rfl, fun q h1 h2 => by omega, _, rfl⟩
      case round =>
        obtain ⟨j, hj1, hjs, rfl, rfl, hq, mm, rfl⟩ := hrel
        have bx2 := (bx.drewN mm 2 _ rfl).1
        have hpj0 : (0 : Int) ≤ (p : Int) + (j : Int) := by omega
        by_cases hjl : j < s1
        · have hpj : p + j < s.size := by omega
          have hpj1 : (p : Int) + (j : Int) < (s.size : Int) := by omega
          have hcj := hsj j hpj
          have hbn := and192 (l.getD (p + j) 0)
          rw [show ((l.getD (p + j) 0).toNat : Int) = at8 l (p + j) from rfl] at hbn
          have hbit0 := at8_lo l (p + j)
          have hbit1 := at8_hi l (p + j)
          cases hcont : cont (l.getD (p + j) 0)
          · rw [hcont] at hbn
            simp only [Bool.not_false] at hbn
            have HR := Lib.hid (Hbad.out (by rw [hlen.out]; exact hlong) j hj1 (by have := Hs1.out; omega) hcont)
            clear hq hcont
            go_wp2
            go_ret3
            exact ⟨by rw [HR.out]; rfl, below_drewN hb2 _⟩
          · rw [hcont] at hbn
            simp only [Bool.not_true] at hbn
            have hc' := (cont_iff _).1 hcont
            have hst := step6 (part (l.drop p) d j) (l.getD (p + j) 0).toNat (Hlt.out j (by omega)) hc'.1 hc'.2
            rw [show ((l.getD (p + j) 0).toNat : Int) = at8 l (p + j) from rfl] at hst
            have hpl := Hlt.out j (by omega)
            have HP := Lib.hid (show part (l.drop p) d (j + 1) = part (l.drop p) d j * 64 + ((l.getD (p + j) 0).toNat - 128) by rw [part_succ _ _ _ hj1, drop_getD])
            have HQ := Lib.hid (show ∀ q, 1 ≤ q → q < j + 1 → cont (l.getD (p + q) 0) = true from fun q h1 h2 => if e : q = j then e ▸ hcont else hq q h1 (by omega))
            clear hq hcont hc'
            go_wp2
            go_roundw
            case rel => exact ⟨j + 1, by omega, by omega, by go_num, by rw [HP.out]; simp, HQ.out, _, rfl⟩
            case measure => simp [intOf]; omega
        · have hjs' : j = s1 := by omega
          subst hjs'
          have HA := Lib.hid (Hall.out (by rw [hlen.out]; exact hlong) hq)
          have b0 := (bx.drewN mm 0 _ rfl).1
          have b1 := (bx.drewN mm 1 _ rfl).1
          have b3 := (bx.drewN mm 3 _ rfl).1
          have hb3 := below_drewN hb2 mm
          generalize hP : part (l.drop p) d j = P at *
          have Hs := Lib.hid hs0'
          clear hq hP hjl
          cases hh : holdsB x0 x1 (P : Int)
          · have HR := Lib.hid (decR_no (l := l) (p := p) (by rw [HA.out, hh]; rfl))
            have hno := fun W => holds_no x0 x1 j d P W hh
            clear hh
            go_wp2_with fail
            refine (hno _).mono ?_
            rintro e w2 ⟨rfl, hb4⟩
            go_wp2
            go_ret3
            exact ⟨by rw [HR.out]; rfl, bel_next hb3 hb4⟩
          · have HR := Lib.hid (decR_yes (l := l) (p := p) (c := P) (n := j) (by rw [HA.out, hh]; rfl) (by have := Hs.out; omega))
            have hyes := fun W => holds_yes x0 x1 j d P W hh
            clear hh
            go_wp2_with fail
            refine (hyes _).mono ?_
            rintro e w2 ⟨rfl, hb4⟩
            have b2' := kept_later hb4 bx2
            have hw : IntKind.i64.wrap ((p : Int) + (j : Int)) = (p : Int) + (j : Int) := IntWalk.i64_in _ (by omega)
            go_wp2
            go_quiet (fail)
            go_wp2
            go_ret3
            exact ⟨by rw [HR.out]; rfl, below_drewN (bel_next hb3 hb4) _⟩
    · have HR := Lib.hid (Hshort.out (by rw [hlen.out]; omega))
      have hlong' : (s.size : Int) - (p : Int) < (s1 : Int) := by omega
      go_enter Tryd.func53, Tryd.ntmps53
      go_wp2_with fail
      refine hfind.mono ?_
      rintro e w1 ⟨rfl, hb1⟩
      go_wp2
      go_ret3
      exact ⟨by rw [HR.out]; rfl, bel_alloc hb1 _⟩
end Go.Proofs.YtinaecmpigenoaaDoor
/-
  Layer 1: walk, Check.
-/
namespace Go.Proofs.YtinaecmpigenoaaDoor
open Go.RowKit Go.Shelf

/-- What walk tells. -/
def walkR (l : List UInt8) : Value := if (ptsL l).2 = l.length then .tuple #[.int .i64 0, .int .i64 0] else .tuple #[.int .i64 ((ptsL l).2 : Int), .int .i64 110]
set_option maxRecDepth 20000 in
set_option maxHeartbeats 1000000 in
theorem walk_any (s : ByteArray) (l : List UInt8) (hs : s.data.toList = l) (g : Nat) (lb : Array Value) (w : World) (hm : s.size ≤ maxLen)
    (I : List Nat → World → Prop) (hU : ∀ pre W, I pre W → UTab W) (hI : ∀ pre W W', I pre W → Below W.heap.size W W' → I pre W') (h0 : I [] w)
    (eg : ∀ args w, (callFunc g args).run Tryd.prog w = .ok (.enter g args) w)
    (hv : ∀ pre c W, I pre W → pre.length < s.size → Calls Tryd.prog g (#[.int .i64 ((c : Nat) : Int)] ++ lb) W fun e W' => (∃ v, e = .returned v) ∧ I (pre ++ [c]) W') :
    Calls Tryd.prog 51 #[.string s, .func (.func g) #[] lb] w fun e w' => e = .returned (walkR l) ∧ I (ptsL l).1 w' := by
  have hlen : l.length = s.size := by rw [← hs]; simp
  have Hm := Lib.hid hm
  unfold maxLen at hm
  go_enter Tryd.func51, Tryd.ntmps51
  go_wp2
  go_loopw [6] (fun a wr => ∃ (p : Nat) (pre : List Nat), p ≤ s.size ∧ a = .int .i64 p ∧ ptsL l = (pre ++ (ptsL (l.drop p)).1, p + (ptsL (l.drop p)).2) ∧ pre.length ≤ p ∧ I pre wr) (fun a _ => s.size - (intOf a).toNat)
  case atStart => exact ⟨0, [], by omega, rfl, by simp, by simp, h0⟩
  case round =>
    obtain ⟨p, pre, hp, rfl, hP, hpl, hJ⟩ := hrel
    have HP := Lib.hid hP
    have HL := Lib.hid hlen
    clear hP hlen
    by_cases hlt : p < s.size
    · have hd := decode_string s p wr (hU _ _ hJ) Hm.out hlt
      rw [hs] at hd
      clear hs
      rcases Nat.eq_zero_or_pos (decL (l.drop p)).2 with h | h
      · rw [decR_no (dec_zero h)] at hd
        have HQ := Lib.hid (show ptsL l = (pre, p) by rw [HP.out, pts_zero h]; simp)
        clear h
        go_wp2_with fail
        refine hd.mono ?_
        rintro e w1 ⟨rfl, hb⟩
        go_wp2
        go_ret2
        have := HQ.out
        have e2 := HL.out
        refine ⟨?_, by rw [this]; exact hI _ _ _ hJ hb⟩
        unfold walkR
        rw [this, if_neg (by simp only; omega)]
        rfl
      · rw [decR_yes (l := l) (p := p) (c := (decL (l.drop p)).1) (n := (decL (l.drop p)).2) rfl (by omega)] at hd
        have HQ := Lib.hid (show ptsL l = ((pre ++ [(decL (l.drop p)).1]) ++ (ptsL (l.drop (p + (decL (l.drop p)).2))).1, (p + (decL (l.drop p)).2) + (ptsL (l.drop (p + (decL (l.drop p)).2))).2) by
          rw [HP.out, pts_step (l := l.drop p) (by omega), List.drop_drop]
          simp [Nat.add_assoc])
        have hle := dec_le (l.drop p)
        rw [List.length_drop, HL.out] at hle
        generalize (decL (l.drop p)).1 = c at *
        generalize (decL (l.drop p)).2 = n at *
        go_wp2_with fail
        refine hd.mono ?_
        rintro e w1 ⟨rfl, hb⟩
        have hJ1 := hI _ _ _ hJ hb
        have hv1 := hv pre c w1 hJ1 (by omega)
        go_wp2_with fail
        refine hv1.mono ?_
        rintro e w2 ⟨⟨v, rfl⟩, hJ2⟩
        go_wp2
        go_roundw
        case rel => exact ⟨p + n, pre ++ [c], by omega, rfl, HQ.out, by simp; omega, hJ2⟩
        case measure => simp [intOf]; omega
    · have hk : p = s.size := by omega
      have HQ := Lib.hid (show ptsL l = (pre, p) by rw [HP.out, List.drop_of_length_le (by rw [HL.out]; omega), pts_zero (l := []) rfl]; simp)
      have e2 := Lib.hid (show p = l.length by rw [HL.out]; exact hk)
      clear hk
      go_wp2
      go_ret2
      have := HQ.out
      refine ⟨?_, by rw [this]; exact hJ⟩
      unfold walkR
      rw [this, if_pos e2.out]
      rfl

set_option maxRecDepth 20000 in
theorem check_any (s : ByteArray) (l : List UInt8) (hs : s.data.toList = l) (w : World) (hm : s.size ≤ maxLen) (htab : UTab w) :
    Calls Tryd.prog 50 #[.string s] w fun e w' => e = .returned (walkR l) ∧ Below w.heap.size w w' := by
  have hw := walk_any s l hs 52 #[] w hm (fun _ W => UTab W ∧ Below w.heap.size w W) (fun _ _ h => h.1) (fun _ W W' h hb => ⟨h.1.below hb h.1.lt, bel_next h.2 hb⟩) ⟨htab, Below.refl _ _⟩ (enters_of Tryd.func52 (by kernel_rfl) rfl) (fun pre c W h _ => by
    go_enter Tryd.func52, Tryd.ntmps52
    go_wp2
    go_end0
    exact ⟨⟨_, rfl⟩, h⟩)
  unfold walkR at hw ⊢
  split at hw
  · rw [if_pos (by assumption)]
    go_enter Tryd.func50, Tryd.ntmps50
    go_wp2_with fail
    refine hw.mono ?_
    rintro e w1 ⟨rfl, -, hb⟩
    go_wp2
    go_ret2
    exact ⟨rfl, hb⟩
  · rw [if_neg (by assumption)]
    generalize (((ptsL l).2 : Nat) : Int) = x at *
    go_enter Tryd.func50, Tryd.ntmps50
    go_wp2_with fail
    refine hw.mono ?_
    rintro e w1 ⟨rfl, -, hb⟩
    go_wp2
    go_ret2
    exact ⟨rfl, hb⟩
end Go.Proofs.YtinaecmpigenoaaDoor
/-
  Layer 4: the methods of a shape; holder; right.
-/
namespace Go.Proofs.YtinaecmpigenoaaDoor
open Go.RowKit
set_option linter.unusedVariables false

theorem vret_b {a b : Bool} (h : a = b) : Ending.returned (.bool a) = .returned (.bool b) := by rw [h]
set_option maxRecDepth 20000 in
theorem vright_any (s : ByteArray) (w : World) (hm : s.size ≤ maxLen) (htab : UTab w) :
    Calls Tryd.prog 49 #[.string s] w fun e w' => e = .returned (.bool (validS s)) ∧ Below w.heap.size w w' := by
  have hc := check_any s _ rfl w hm htab
  unfold walkR at hc
  by_cases h : (ptsL s.data.toList).2 = s.data.toList.length
  · have HR := Lib.hid (show validS s = true from decide_eq_true h)
    rw [if_pos h] at hc
    clear h
    go_enter Tryd.func49, Tryd.ntmps49
    go_wp2_with fail
    refine hc.mono ?_
    rintro e w1 ⟨rfl, hb⟩
    go_wp2
    go_ret
    exact ⟨vret_b HR.out.symm, hb⟩
  · have HR := Lib.hid (show validS s = false from decide_eq_false h)
    rw [if_neg h] at hc
    clear h
    generalize (ptsL s.data.toList).2 = x at *
    go_enter Tryd.func49, Tryd.ntmps49
    go_wp2_with fail
    refine hc.mono ?_
    rintro e w1 ⟨rfl, hb⟩
    go_wp2
    go_ret
    exact ⟨vret_b HR.out.symm, hb⟩

set_option maxRecDepth 20000 in
theorem vholder_any (k : Int) (n s c y : Value) (w : World) :
    Calls Tryd.prog 44 #[.agg #[.int .i64 k, n, s, c, y]] w fun e w' => e = .returned (.bool (k == 5 || k == 6)) ∧ Below w.heap.size w w' := by
  by_cases h5 : k = 5
  · subst h5
    go_enter Tryd.func44, Tryd.ntmps44
    go_wp2
    go_ret
    exact ⟨rfl, (Below.refl _ _).alloc (Nat.le_refl _) _⟩
  · have e5 : (k == 5) = false := by rw [beq_eq_false_iff_ne]; exact h5
    go_enter Tryd.func44, Tryd.ntmps44
    go_wp2
    go_ret
    exact ⟨vret_b (by rw [e5]; rfl), (Below.refl _ _).alloc (Nat.le_refl _) _⟩

set_option maxRecDepth 20000 in
theorem vnumber_any (kn wi : Bool) (top : Int) (te ke ki : Bool) (k n : Int) (s c y : Value) (w : World) :
    Calls Tryd.prog 45 #[.agg #[.bool kn, .bool wi, .int .i64 top, .bool te, .bool ke, .bool ki], .agg #[.int .i64 k, .int .i64 n, s, c, y]] w fun e w' => e = .returned (.bool (numQ wi top n)) ∧ Below w.heap.size w w' := by
  have hb := bel_alloc (bel_alloc (Below.refl w.heap.size w) (.cells #[.bool kn, .bool wi, .int .i64 top, .bool te, .bool ke, .bool ki] 90)) (.cells #[.int .i64 k, .int .i64 n, s, c, y] 39)
  cases wi
  · by_cases h0 : 0 ≤ n
    · by_cases h1 : n ≤ top
      · have e0 := Lib.hid (show numQ false top n = true by simp [numQ, h0, h1])
        go_enter Tryd.func45, Tryd.ntmps45
        go_wp2
        go_ret
        exact ⟨vret_b e0.out.symm, hb⟩
      · have e0 := Lib.hid (show numQ false top n = false by simp [numQ, h1])
        have h1' : (n ≤ top) = False := by simp; omega
        go_enter Tryd.func45, Tryd.ntmps45
        go_wp2
        go_ret
        exact ⟨vret_b e0.out.symm, hb⟩
    · have e0 := Lib.hid (show numQ false top n = false by simp [numQ, h0])
      have h1' : (0 ≤ n) = False := by simp; omega
      go_enter Tryd.func45, Tryd.ntmps45
      go_wp2
      go_ret
      exact ⟨vret_b e0.out.symm, hb⟩
  · go_enter Tryd.func45, Tryd.ntmps45
    go_wp2
    go_ret
    exact ⟨rfl, hb⟩

set_option maxRecDepth 20000 in
theorem velements_any (kn wi : Bool) (top : Int) (te ke ki : Bool) (k n s : Value) (A : Option Addr) (m c : Nat) (y : Value) (w : World) :
    Calls Tryd.prog 47 #[.agg #[.bool kn, .bool wi, .int .i64 top, .bool te, .bool ke, .bool ki], .agg #[k, n, s, .slice A m c, y]] w fun e w' => e = .returned (.bool (eleQ ki m)) ∧ Below w.heap.size w w' := by
  have hb := bel_alloc (bel_alloc (Below.refl w.heap.size w) (.cells #[.bool kn, .bool wi, .int .i64 top, .bool te, .bool ke, .bool ki] 90)) (.cells #[k, n, s, .slice A m c, y] 39)
  by_cases h0 : m = 0
  · subst h0
    go_enter Tryd.func47, Tryd.ntmps47
    go_wp2
    go_ret
    exact ⟨rfl, hb⟩
  · have e0 : ((m : Int) == 0) = false := by rw [beq_eq_false_iff_ne]; omega
    have E1 := Lib.hid (show (m == 0) = false by rw [beq_eq_false_iff_ne]; exact h0)
    go_enter Tryd.func47, Tryd.ntmps47
    go_wp2
    go_ret
    exact ⟨vret_b (by unfold eleQ; rw [E1.out]; rfl), hb⟩

set_option maxRecDepth 20000 in
theorem vstring_any (kn wi : Bool) (top : Int) (te ke ki : Bool) (k n : Value) (s : ByteArray) (c y : Value) (w : World) (hm : s.size ≤ maxLen) (htab : UTab w) :
    Calls Tryd.prog 46 #[.agg #[.bool kn, .bool wi, .int .i64 top, .bool te, .bool ke, .bool ki], .agg #[k, n, .string s, c, y]] w fun e w' => e = .returned (.bool (strQ te s)) ∧ Below w.heap.size w w' := by
  have hb := bel_alloc (bel_alloc (Below.refl w.heap.size w) (.cells #[.bool kn, .bool wi, .int .i64 top, .bool te, .bool ke, .bool ki] 90)) (.cells #[k, n, .string s, c, y] 39)
  cases hs : s.toList.isEmpty
  · have HR := Lib.hid (show strQ te s = (te && validS s) by unfold strQ; rw [hs]; rfl)
    have hs2 : s.toList ≠ [] := by intro h; rw [h] at hs; cases hs
    have hs3 : (s.toList == []) = false := by rw [beq_eq_false_iff_ne]; exact hs2
    cases te
    · go_enter Tryd.func46, Tryd.ntmps46
      go_wp2
      go_ret
      exact ⟨vret_b HR.out.symm, hb⟩
    · have hr := vright_any s _ hm (htab.below hb htab.lt)
      go_enter Tryd.func46, Tryd.ntmps46
      go_wp2_with fail
      refine hr.mono ?_
      rintro e w1 ⟨rfl, hb1⟩
      go_wp2
      go_ret
      exact ⟨vret_b HR.out.symm, bel_next hb hb1⟩
  · have HR := Lib.hid (show strQ te s = true by unfold strQ; rw [hs]; rfl)
    have hs2 : s.toList = [] := List.isEmpty_iff.1 hs
    go_enter Tryd.func46, Tryd.ntmps46
    go_wp2
    go_ret
    exact ⟨vret_b HR.out.symm, hb⟩

set_option maxRecDepth 20000 in
set_option maxHeartbeats 1000000 in
theorem vmembers_any (kn wi : Bool) (top : Int) (te ke ki : Bool) (k n s : Value) (A : Option Addr) (m c : Nat) (A' : Option Addr) (m' c' : Nat) (keys : List ByteArray) (B : Nat) (w : World) (hm' : m' ≤ maxLen)
    (hk : Shows w B 1 A' m' (keys.map Value.string)) (hB : B ≤ w.heap.size) (hsz : ∀ x ∈ keys, x.size ≤ maxLen) (htab : UTab w) :
    Calls Tryd.prog 48 #[.agg #[.bool kn, .bool wi, .int .i64 top, .bool te, .bool ke, .bool ki], .agg #[k, n, s, .slice A m c, .slice A' m' c']] w fun e w' => e = .returned (.bool (memQ ke m m' keys)) ∧ Below w.heap.size w w' := by
  have hb := bel_alloc (bel_alloc (Below.refl w.heap.size w) (.cells #[.bool kn, .bool wi, .int .i64 top, .bool te, .bool ke, .bool ki] 90)) (.cells #[k, n, s, .slice A m c, .slice A' m' c'] 39)
  unfold maxLen at hm'
  cases ke
  · by_cases h0 : m' = 0
    · subst h0
      go_enter Tryd.func48, Tryd.ntmps48
      go_wp2
      go_ret
      exact ⟨rfl, hb⟩
    · have e0 : ((m' : Int) == 0) = false := by rw [beq_eq_false_iff_ne]; omega
      have e1 := Lib.hid (show (m' == 0) = false by rw [beq_eq_false_iff_ne]; exact h0)
      go_enter Tryd.func48, Tryd.ntmps48
      go_wp2
      go_ret
      exact ⟨vret_b (by unfold memQ; rw [if_neg (by decide), e1.out]), hb⟩
  · by_cases hmm : m' = m
    · have Hl := Lib.hid (keys_len hk)
      have HR := Lib.hid (show memQ true m m' keys = keysB keys by unfold memQ; rw [if_pos rfl, hmm]; simp)
      subst hmm
      have HK := Lib.hid hk
      have Hsz := Lib.hid hsz
      clear hk hsz
      go_enter Tryd.func48, Tryd.ntmps48
      go_wp2
      go_loopw [24] (fun i wr => ∃ j : Nat, j ≤ m' ∧ i = .int .i64 j ∧ (∀ q, q < j → keyOK keys q = true) ∧ Below ((w.alloc (.cells #[.bool kn, .bool wi, .int .i64 top, .bool te, .bool true, .bool ki] 90)).alloc (.cells #[k, n, s, .slice A m' c, .slice A' m' c'] 39)).heap.size ((w.alloc (.cells #[.bool kn, .bool wi, .int .i64 top, .bool te, .bool true, .bool ki] 90)).alloc (.cells #[k, n, s, .slice A m' c, .slice A' m' c'] 39)) wr) (fun i _ => m' - (intOf i).toNat)
      case atStart => exact ⟨0, by omega, rfl, fun q h => by omega, Below.refl _ _⟩
      case round =>
        obtain ⟨j, hj, rfl, hq, hbr⟩ := hrel
        have d4 : wr.cell? ⟨w.heap.size + 1, 4, none⟩ = some (.slice A' m' c') := by
          have := new_later hbr 4 rfl
          simpa using this
        have hb0 := bel_next hb hbr
        have sr := hbr.size
        by_cases hlt : j < m'
        · have hlt' : (j : Int) < m' := by omega
          have hj0 : (0 : Int) ≤ j := by omega
          have htr := htab.below hb0 htab.lt
          obtain ⟨b, off, rfl, hbk, hcj⟩ := key_at (HK.out.below (hb0.mono hB)) hlt
          have hzj : (keys.getD j ⟨#[]⟩).size ≤ maxLen := by
            rw [List.getD_eq_getElem?_getD, List.getElem?_eq_getElem (by rw [Hl.out]; exact hlt)]
            exact Hsz.out _ (List.getElem_mem _)
          have hr := vright_any (keys.getD j ⟨#[]⟩) wr hzj htr
          have Hin := Lib.hid (fun h : keyOK keys j = true => show ∀ q, q < j + 1 → keyOK keys q = true from fun q h2 => if e : q = j then e ▸ h else hq q (by omega))
          have Hno := Lib.hid (fun h : keyOK keys j = false => show keysB keys = false by
            cases hk : keysB keys with
            | false => rfl
            | true => have := (keysB_iff keys).1 hk j (by rw [Hl.out]; exact hlt); rw [h] at this; cases this)
          have Hok := Lib.hid (show keyOK keys j = (validS (keys.getD j ⟨#[]⟩) && (j == 0 || Op.bytesLess (keys.getD (j - 1) ⟨#[]⟩).toList (keys.getD j ⟨#[]⟩).toList)) from rfl)
          cases hv : validS (keys.getD j ⟨#[]⟩)
          · have HF := Lib.hid (Hno.out (by rw [Hok.out, hv]; rfl))
            rw [hv] at hr
            clear hq hv
            generalize keys.getD j ⟨#[]⟩ = x at *
            go_wp2_with fail
            refine hr.mono ?_
            rintro e w1 ⟨rfl, hb1⟩
            go_wp2
            go_ret
            exact ⟨vret_b (by rw [HR.out, HF.out]), bel_next hb0 hb1⟩
          · rw [hv] at hr
            have Hv := Lib.hid hv
            clear hv hq
            by_cases hj1 : j = 0
            · subst hj1
              rw [Nat.add_zero] at hcj
              have HQ := Lib.hid (Hin.out (by rw [Hok.out, Hv.out]; rfl))
              generalize keys.getD 0 ⟨#[]⟩ = x at *
              go_wp2_with fail
              refine hr.mono ?_
              rintro e w1 ⟨rfl, hb1⟩
              go_wp2
              go_roundw
              case rel => exact ⟨1, by omega, by go_num, HQ.out, bel_next hbr hb1⟩
              case measure => simp [intOf]; omega
            · have hjp : (0 : Int) < j := by omega
              obtain ⟨b', off', e, _, hcp⟩ := key_at (HK.out.below (hb0.mono hB)) (i := j - 1) (by omega)
              injection e with e
              injection e with e1 e2
              subst e1; subst e2
              have hjb := Lib.hid (show (j == 0) = false by rw [beq_eq_false_iff_ne]; exact hj1)
              have hcp' : ∀ W, Below wr.heap.size wr W → W.cell? ⟨b, off + (j - 1), none⟩ = some (.string (keys.getD (j - 1) ⟨#[]⟩)) := fun W h => kept_later h hcp
              have d4' : ∀ W, Below wr.heap.size wr W → W.cell? ⟨w.heap.size + 1, 4, none⟩ = some (.slice (some ⟨b, off, none⟩) m' c') := fun W h => kept_later h d4
              have hjm : ((j : Int) - 1).toNat = j - 1 := by omega
              cases hless : Op.bytesLess (keys.getD (j - 1) ⟨#[]⟩).toList (keys.getD j ⟨#[]⟩).toList
              · have HF := Lib.hid (Hno.out (by rw [Hok.out, Hv.out, hjb.out, hless]; rfl))
                generalize keys.getD j ⟨#[]⟩ = x at *
                generalize keys.getD (j - 1) ⟨#[]⟩ = y at *
                clear Hok Hin Hno Hv
                go_wp2_with fail
                refine hr.mono ?_
                rintro e w1 ⟨rfl, hb1⟩
                have c1 := hcp' w1 hb1
                have c2 := d4' w1 hb1
                go_wp2
                go_ret
                exact ⟨vret_b (by rw [HR.out, HF.out]), bel_next hb0 hb1⟩
              · have HQ := Lib.hid (Hin.out (by rw [Hok.out, Hv.out, hjb.out, hless]; rfl))
                generalize keys.getD j ⟨#[]⟩ = x at *
                generalize keys.getD (j - 1) ⟨#[]⟩ = y at *
                clear Hok Hin Hno Hv
                go_wp2_with fail
                refine hr.mono ?_
                rintro e w1 ⟨rfl, hb1⟩
                have c1 := hcp' w1 hb1
                have c2 := d4' w1 hb1
                go_wp2
                go_roundw
                case rel => exact ⟨j + 1, by omega, by go_num, HQ.out, bel_next hbr hb1⟩
                case measure => simp [intOf]; omega
        · have hjm : j = m' := by omega
          have HT := Lib.hid (show keysB keys = true from (keysB_iff keys).2 fun i hi => hq i (by rw [Hl.out] at hi; omega))
          subst hjm
          clear hq
          go_wp2
          go_ret
          exact ⟨vret_b (by rw [HR.out, HT.out]), hb0⟩
    · have e0 : ((m' : Int) != (m : Int)) = true := by rw [bne_iff_ne]; omega
      have e1 := Lib.hid (show (m' == m) = false by rw [beq_eq_false_iff_ne]; exact hmm)
      go_enter Tryd.func48, Tryd.ntmps48
      go_wp2
      go_ret
      exact ⟨vret_b (by unfold memQ; rw [if_pos rfl, e1.out]; rfl), hb⟩
end Go.Proofs.YtinaecmpigenoaaDoor
