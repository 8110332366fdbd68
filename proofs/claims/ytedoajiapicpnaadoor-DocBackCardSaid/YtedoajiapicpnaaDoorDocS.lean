/-
  The reference of layer 19: Text.
-/
import Derived.Test.YtedoajiapicpnaaDoorDocQ
namespace Go.Proofs.YtedoajiapicpnaaDoor
open Go.RowKit
attribute [local go_sem ↓] Go.wp_at_zero Go.wp_at_succ

/-- The last digits to the base 16. -/
def lowD (m : Nat) : Nat → List UInt8
  | 0 => []
  | k + 1 => hx (m / 16 ^ k % 16) :: lowD m k
theorem lowD_length (m : Nat) : ∀ k, (lowD m k).length = k
  | 0 => rfl
  | k + 1 => by unfold lowD; rw [List.length_cons, lowD_length m k]
theorem lowD_hex (m : Nat) : lowD m 8 = hexTo m 8 := by simp [lowD, hexTo]
/-- What the reference's Text says. -/
def refText (g m : Nat) : List UInt8 := if g = 0 ∧ m = 0 then [] else textL g m

set_option maxRecDepth 20000 in
set_option maxHeartbeats 1000000 in
theorem refText_any (g m : Nat) (w : World) (hg : g < 4294967296) (hm : m < 4294967296) :
    Calls Tryd.prog 20 #[revV g m] w fun e w' => e = .returned (.string (ofL (refText g m))) ∧ Below w.heap.size w w' := by
  have hb0 := (Below.refl w.heap.size w).alloc (Nat.le_refl _) (.cells #[.int .u32 (g : Int), .int .u32 (m : Int)] 28)
  have hv : revV g m = .agg #[.int .u32 (g : Int), .int .u32 (m : Int)] := rfl
  by_cases h0 : g = 0 ∧ m = 0
  · have Hr := Lib.hid (show refText g m = [] by unfold refText; rw [if_pos h0])
    have Hb := Lib.hid (show (decide (g = 0) && decide (m = 0)) = true by rw [h0.1, h0.2]; rfl)
    clear h0
    go_enter Tryd.func20, Tryd.ntmps20
    rw [hv]
    go_wp2_with fail
    refine (none_any g m _).mono ?_
    rintro e w1 ⟨rfl, hb1⟩
    rw [Hb.out]
    have hbz := hb0.trans (hb1.mono (by simp))
    go_wp2
    go_ret
    exact ⟨by rw [Hr.out]; rfl, hbz⟩
  · have Hr := Lib.hid (show refText g m = textL g m by unfold refText; rw [if_neg h0])
    have Hb := Lib.hid (show (decide (g = 0) && decide (m = 0)) = false by
      by_cases hg0 : g = 0
      · rw [decide_eq_false (fun h => h0 ⟨hg0, h⟩), Bool.and_false]
      · rw [decide_eq_false hg0, Bool.false_and])
    clear h0
    go_enter Tryd.func20, Tryd.ntmps20
    rw [hv]
    go_wp2_with fail
    refine (none_any g m _).mono ?_
    rintro e w1 ⟨rfl, hb1⟩
    rw [Hb.out]
    have hbz := hb0.trans (hb1.mono (by simp))
    have c0 := hb1.cell (p := ⟨w.heap.size, 0, none⟩) (by simp)
    have c1 := hb1.cell (p := ⟨w.heap.size, 1, none⟩) (by simp)
    rw [World.cell?_alloc_new] at c0 c1
    have s1 := hb1.size
    simp at s1
    clear hb0 hb1
    go_wp2
    go_loopw [3, 4] (fun x y wr => ∃ (k : Nat) (str : ByteArray) (t : Nat), k ≤ 8 ∧ x = .string str ∧ str.size = k ∧ Hid (str = ofL (lowD m k)) ∧ y = .int .u32 (t : Int) ∧ Hid (t = m / 16 ^ k) ∧ t < 4294967296 ∧ Below w1.heap.size w1 wr) (fun x _ _ => match x with | .string s => 8 - s.size | _ => 0)
    case atStart => exact ⟨0, _, m, by omega, rfl, rfl, Lib.hid rfl, rfl, Lib.hid (by simp), hm, Below.refl _ _⟩
    case round =>
      obtain ⟨k, str, t, hk, rfl, hs, Hs, rfl, Ht, htl, hb⟩ := hrel
      by_cases hlt : k < 8
      · go_wp2_with fail
        rw [show (t : Int) % 16 = ((t % 16 : Nat) : Int) by omega]
        refine (sign_any (t % 16) _ (by omega)).mono ?_
        rintro e w2 ⟨rfl, rfl⟩
        obtain ⟨x, Hx⟩ : ∃ x, Hid (hx (t % 16) = x) := ⟨_, Lib.hid rfl⟩
        rw [Hx.out]
        have hcv := run_bytes_string (P := Tryd.prog) Tryd.underlying29 Tryd.underlying5 Tryd.underlying9 (wr.alloc (.cells #[.int .u8 (x.toNat : Int)] 5)) (some ⟨wr.heap.size, 0, none⟩) 1 1 _ [x] (bytes_new wr [x] _ _ _ rfl)
        obtain ⟨s2, H2, z2⟩ : ∃ s2, Hid (ofL [x] = s2) ∧ s2.size = 1 := ⟨_, Lib.hid rfl, ofL_size _⟩
        rw [H2.out] at hcv
        have hb2 := (hb.alloc hb.size (.cells #[.int .u8 (x.toNat : Int)] 5))
        have hsz : (s2 ++ str).size = k + 1 := by rw [ByteArray.size_append, hs, z2]; omega
        have Hsz := Lib.hid hsz
        clear hsz hb
        go_wp2
        go_roundw
        case rel =>
          refine ⟨k + 1, _, t / 16, by omega, rfl, Hsz.out, Lib.hid ?_, by go_num, Lib.hid ?_, by omega, hb2⟩
          · rw [← H2.out, Hs.out, ofL_append, ← Hx.out, Ht.out]
            rfl
          · rw [Ht.out, Nat.div_div_eq_div_mul, Nat.pow_succ]
        case measure => have e := Hsz.out; simp only [e, hs]; omega
      · have hk8 : k = 8 := by omega
        subst hk8
        have d0 := (hb.cell (p := ⟨w.heap.size, 0, none⟩) (by show w.heap.size < _; omega)).trans c0
        have s2 := hb.size
        have hb3 := hbz.trans (hb.mono (by omega))
        have z1 : (ofL (decF 9 g)).size ≤ 10 := by rw [ofL_size]; exact decF_length 9 g
        have Hc := refDecimal_any 9 g wr (by omega) hg (by omega)
        obtain ⟨sd, Hsd, zd⟩ : ∃ sd, Hid (ofL (decF 9 g) = sd) ∧ sd.size ≤ 10 := ⟨_, Lib.hid rfl, z1⟩
        rw [Hsd.out] at Hc
        clear hb hbz z1 c0 c1
        go_wp2_with fail
        refine Hc.mono ?_
        rintro e w5 ⟨rfl, hb5⟩
        clear Hc
        have hb6 := hb3.trans (hb5.mono (by omega))
        have z3 : (sd ++ (⟨#[45]⟩ : ByteArray)).size ≤ 11 := by rw [ByteArray.size_append, show (⟨#[45]⟩ : ByteArray).size = 1 from rfl]; omega
        go_wp2
        go_ret
        refine ⟨?_, hb6⟩
        have e1 : sd ++ (⟨#[45]⟩ : ByteArray) ++ str = ofL (textL g m) := by
          rw [← Hsd.out, Hs.out, show (⟨#[45]⟩ : ByteArray) = ofL [45] from rfl, ofL_append, ofL_append, lowD_hex]
          rfl
        rw [Hr.out, ← e1]
        rfl
end Go.Proofs.YtedoajiapicpnaaDoor
