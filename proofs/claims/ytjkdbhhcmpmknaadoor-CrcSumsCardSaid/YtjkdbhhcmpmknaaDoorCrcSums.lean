/-
  Layer 9: the walk of CrcSums.
-/
import Derived.Test.YtjkdbhhcmpmknaaDoorCrcK
import Derived.Test.YtjkdbhhcmpmknaaDoorFr
namespace Go.Proofs.YtjkdbhhcmpmknaaDoor
open Go.RowKit
attribute [local go_sem ↓] Go.wp_at_zero Go.wp_at_succ

set_option maxHeartbeats 1000000 in
theorem crcSums_walk (w : World) (s : Int) (hs : (Lit.int .u32 s).wf = true) (A : Option Addr) (n c : Nat) (l : List UInt8) (h : Bytes w w.heap.size A n l) (hA : A = none → c = 0) (hn : n ≤ c) (hc : c ≤ maxLen) (htab : Tab w) :
    Calls Tryd.prog 3 #[.int .u32 s, .slice A n c] w fun e w' => e = .returned (.bool true) ∧ Below w.heap.size w w' := by
  obtain ⟨h0, h1⟩ := wf_u32 hs
  obtain ⟨t, rfl⟩ := Int.eq_ofNat_of_zero_le h0
  have ht : t < 4294967296 := by omega
  clear h0 h1 hs
  go_enter Tryd.func3, Tryd.ntmps3
  go_wp2_with fail
  refine (wakes_any w htab).mono ?_
  rintro e w1 ⟨rfl, hb1⟩
  have s1 := hb1.size
  go_wp2_with fail
  refine (few_any A n c w.heap.size l _ (h.below hb1) hA s1 hn hc).mono ?_
  rintro e w2 ⟨A2, n2, c2, rfl, hown, hb2⟩
  have s2 := hb2.size
  have h12 := hb1.trans (hb2.mono s1)
  have t2 := htab.below h12 htab.lt
  have hl2 : Bytes w2 w2.heap.size A2 n2 (l.take 400) := Bytes.own hown
  have hn2 : n2 ≤ maxLen := by
    obtain ⟨A', c', e, h1, h2⟩ := own_form hown
    omega
  go_wp2_with fail
  refine (sum_any A2 n2 c2 w2.heap.size (l.take 400) _ t2 hl2 (Nat.le_refl _) hn2).mono ?_
  rintro e w3 ⟨rfl, hb3⟩
  have s3 := hb3.size
  go_wp2_with fail
  refine (refmore_any A2 n2 c2 w2.heap.size (l.take 400) 0 _ (hl2.below hb3) (by omega) hn2).mono ?_
  rintro e w3' ⟨rfl, rfl⟩
  go_wp2_with fail
  refine (more_any A2 n2 c2 w2.heap.size (l.take 400) t _ (t2.below hb3 t2.lt) (hl2.below hb3) s3 ht hn2).mono ?_
  rintro e w4 ⟨rfl, hb4⟩
  have s4 := hb4.size
  have h24 := hb3.trans (hb4.mono s3)
  go_wp2_with fail
  refine (refmore_any A2 n2 c2 w2.heap.size (l.take 400) t _ (hl2.below h24) ht hn2).mono ?_
  rintro e w4' ⟨rfl, rfl⟩
  have h14 := h12.trans (h24.mono (by omega))
  go_wp2_with fail
  refine (few_any A n c w.heap.size l _ (h.below h14) hA (by omega) hn hc).mono ?_
  rintro e w5 ⟨A5, n5, c5, rfl, hown5, hb5⟩
  have s5 := hb5.size
  have h15 := h14.trans (hb5.mono (by omega))
  have hl5 : Bytes w5 w5.heap.size A5 n5 (l.take 400) := Bytes.own hown5
  have hn5 : n5 ≤ maxLen := by
    obtain ⟨A', c', e, h1, h2⟩ := own_form hown5
    omega
  go_wp2_with fail
  refine (equal_any A2 A5 n2 c2 n5 c5 (l.take 400) (l.take 400) _ _ _ (hl2.below (h24.trans (hb5.mono (Nat.le_trans s3 s4)))) hl5 hn2 hn5).mono ?_
  rintro e w6 ⟨rfl, k6, rfl⟩
  have hsame : sameB (l.take 400) (l.take 400) = true := decide_eq_true rfl
  rw [hsame]
  go_wp2
  go_ret
  exact ⟨rfl, below_drewN h15 _⟩
end Go.Proofs.YtjkdbhhcmpmknaaDoor
