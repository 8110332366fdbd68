/-
  Layer 9: wakes.
-/
import Derived.Test.YtjkdbhhcmpmknaaDoorCrcB
import Derived.Lib.SlBytesConst
namespace Go.Proofs.YtjkdbhhcmpmknaaDoor
open Go.RowKit
attribute [local go_sem ↓] Go.wp_at_zero Go.wp_at_succ

def d4 : List UInt8 := [49, 50, 51, 52]
def d5 : List UInt8 := [53, 54, 55, 56, 57]
def d9 : List UInt8 := [49, 50, 51, 52, 53, 54, 55, 56, 57]
def l13 : List UInt8 := d9 ++ Crc.laid (Crc.more 0 d9)
theorem more_d9 : Crc.more 0 d9 = 3808858755 := by decide +kernel
theorem l13_at : at8 l13 9 = 131 := by decide +kernel
theorem l13_sealed : sealedB l13 = true := by decide +kernel
theorem l13_cut : sealedB (l13.take 12) = false := by decide +kernel
theorem both_d : (Crc.stN (8 * 5) (Crc.more 0 d4) ^^^ Crc.more 0 d5) = 3808858755 := by decide +kernel
theorem l13_len : l13.length = 13 := by decide +kernel

set_option maxHeartbeats 1000000 in
theorem wakes_any (w : World) (htab : Tab w) :
    Calls Tryd.prog 9 #[] w fun e w' => e = .returned (.bool true) ∧ Below w.heap.size w w' := by
  have kc := fun (w : World) (C : Array Value) (n c : Nat) => Lib.run_convert_bytes_const (P := Tryd.prog) w 23 5 C n c Tryd.underlying23 Tryd.underlying5
  go_enter Tryd.func9, Tryd.ntmps9
  go_wp2_with fail
  refine (lay_full _ 9 9 (w.heap.size + 1) d9 _ (htab.alloc _) (bytes_new w d9 _ _ _ rfl) (by simp) (by omega)).mono ?_
  rintro e w1 ⟨A, n, c, rfl, hown, hb⟩
  have hb1 := (Below.refl w.heap.size w).alloc (Nat.le_refl _) (.cells (d9.map bv).toArray 5 (9, 10))
  have hb2 := hb1.trans (hb.mono hb1.size)
  obtain rfl : n = 13 := by have := hown.1; rw [List.length_map] at this; have h2 := l13_len; unfold l13 at h2; omega
  have hl : Bytes w1 w1.heap.size A 13 l13 := Bytes.own hown
  have hcc := own_form hown
  have hc13 : 13 ≤ c ∧ c ≤ maxLen := by
    obtain ⟨A', c', e, h1, h2⟩ := hcc
    injection e with _ _ e
    subst e
    exact ⟨h1, h2⟩
  clear hcc
  obtain ⟨hc1, hc2⟩ := hc13
  obtain ⟨b, off, rfl, hblt, hcell⟩ := hl.cell (k := 9) (by omega)
  rw [l13_at] at hcell
  have t1 := htab.below hb2 htab.lt
  have s1 := hb.size
  have m9 : ((Crc.more 0 d9 : Nat) : Int) = 3808858755 := by rw [more_d9]; rfl
  have mb : ((Crc.stN (8 * 5) (Crc.more 0 d4) ^^^ Crc.more 0 d5 : Nat) : Int) = 3808858755 := by rw [both_d]; rfl
  have hc3 : (12 : Int) ≤ (c : Int) := by omega
  have hl12 := hl.first (k := 12) (by omega)
  clear hown hb
  go_wp2_with fail
  refine (sum_any _ 9 9 (w1.heap.size + 1) d9 _ (t1.alloc _) (bytes_new w1 d9 _ _ _ rfl) (by simp) (by unfold maxLen; omega)).mono ?_
  rintro e w2 ⟨rfl, hb3⟩
  have hb4 : Below w1.heap.size w1 w2 := ((Below.refl _ _).alloc (Nat.le_refl _) _).trans (hb3.mono (by simp))
  have s2 := hb4.size
  have hcell2 := (hb4.cell (p := ⟨b, off + 9, none⟩) hblt).trans hcell
  clear hb3
  go_wp2_with fail
  refine (holds_any _ 13 c w1.heap.size l13 _ (t1.below hb4 t1.lt) (hl.below hb4) s2 hc1 hc2).mono ?_
  rintro e w3 ⟨rfl, hb5⟩
  rw [l13_sealed]
  have s3 := hb5.size
  have hb6 := hb4.trans (hb5.mono s2)
  go_wp2_with fail
  refine (holds_any _ 12 c w1.heap.size (l13.take 12) _ (t1.below hb6 t1.lt) (hl12.below hb6) (by omega) (by omega) hc2).mono ?_
  rintro e w4 ⟨rfl, hb7⟩
  rw [l13_cut]
  have s4 := hb7.size
  have hb8 := hb6.trans (hb7.mono (by omega))
  go_wp2_with fail
  refine (sum_any _ 4 4 (w4.heap.size + 1) d4 _ ((t1.below hb8 t1.lt).alloc _) (bytes_new w4 d4 _ _ _ rfl) (by simp) (by unfold maxLen; omega)).mono ?_
  rintro e w5 ⟨rfl, hb9⟩
  have hb10 : Below w4.heap.size w4 w5 := ((Below.refl _ _).alloc (Nat.le_refl _) _).trans (hb9.mono (by simp))
  have s5 := hb10.size
  have hb11 := hb8.trans (hb10.mono (by omega))
  go_wp2_with fail
  refine (sum_any _ 5 5 (w5.heap.size + 1) d5 _ ((t1.below hb11 t1.lt).alloc _) (bytes_new w5 d5 _ _ _ rfl) (by simp) (by unfold maxLen; omega)).mono ?_
  rintro e w6 ⟨rfl, hb12⟩
  have hb13 : Below w5.heap.size w5 w6 := ((Below.refl _ _).alloc (Nat.le_refl _) _).trans (hb12.mono (by simp))
  have s6 := hb13.size
  have hb14 := hb11.trans (hb13.mono (by omega))
  go_wp2_with fail
  refine (both_any (Crc.more 0 d4) (Crc.more 0 d5) 5 _ (Crc.more_lt _ _) (Crc.more_lt _ _) (by omega)).mono ?_
  rintro e w7 ⟨rfl, hb15⟩
  have hb16 := hb2.trans ((hb14.trans (hb15.mono (by omega))).mono (by simp at s1; omega))
  go_wp2
  go_ret
  exact ⟨rfl, hb16⟩
end Go.Proofs.YtjkdbhhcmpmknaaDoor
