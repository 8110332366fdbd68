/-
  Layer 2: Size.
-/
import Derived.Test.YtgnialemiefeeaaDoorQuoK
import Derived.Test.YtgnialemiefeeaaDoorUtfL
import Derived.Test.YtgnialemiefeeaaDoorUtfM
import Derived.RangeFuncBox
namespace Go.Proofs.YtgnialemiefeeaaDoor
open Go.RowKit

set_option maxRecDepth 20000 in
theorem size1_any (T : ByteArray) (B : Nat) (x : Nat) (W : World) (h : Boxed W B 3 (.int .i64 (x : Nat))) (hx : x + T.size ≤ 100000000) :
    Calls Tryd.prog 43 #[.string T, .pointer (some ⟨B, 0, none⟩)] W fun e W' => (∃ v, e = .returned v) ∧ W.setCell ⟨B, 0, none⟩ (.int .i64 ((x : Int) + (T.size : Int))) = W' := by
  have hc := h.cell
  have hf := h.frozen
  have hw : wrap64 ((x : Int) + (T.size : Int)) = (x : Int) + (T.size : Int) := IntWalk.wrap64_in _ ⟨by omega, by omega⟩
  go_enter Tryd.func43, Tryd.ntmps43
  go_wp2
  go_end0
  exact ⟨⟨_, rfl⟩, rfl⟩
/-- What Size tells. -/
def qsizeN (l : List UInt8) : Nat := if (ptsL l).2 = l.length then (spellsL (ptsL l).1).length + 2 else 0
theorem spells_len (cps : List Nat) : (spellsL cps).length ≤ 6 * cps.length := by
  induction cps with
  | nil => exact Nat.le_refl _
  | cons c r ih => rw [spells_cons, List.length_append, List.length_cons]; have := spell_len c; omega
set_option maxRecDepth 20000 in
set_option maxHeartbeats 1000000 in
theorem qsize_any (s : ByteArray) (l : List UInt8) (hs : s.data.toList = l) (w : World) (hm : s.size ≤ 1000000) (htab : UTab w) (hesc : ETab w) :
    Calls Tryd.prog 21 #[.string s] w fun e w' => e = .returned (.int .i64 (qsizeN l : Nat)) ∧ Below w.heap.size w w' := by
  have hchk := check_any s l hs w (by unfold maxLen; omega) htab
  by_cases hok : (ptsL l).2 = l.length
  · have HR := Lib.hid (show qsizeN l = (spellsL (ptsL l).1).length + 2 from if_pos hok)
    rw [show walkR l = .tuple #[.int .i64 0, .int .i64 0] from if_pos hok] at hchk
    go_enter Tryd.func21, Tryd.ntmps21
    go_wp2_with fail
    refine hchk.mono ?_
    rintro e w1 ⟨rfl, hb⟩
    have hb0 := Boxed.new w1 3 (.int .i64 2)
    have hb2 : Below w.heap.size w (w1.alloc (.cells #[.int .i64 2] 3)) := bel_alloc hb _
    have hsp := spelled_any s l hs hok 43 #[.pointer (some ⟨w1.heap.size, 0, none⟩)] (w1.alloc (.cells #[.int .i64 2] 3)) (by unfold maxLen; omega)
      (fun cps W => Boxed W w1.heap.size 3 (.int .i64 (((spellsL cps).length + 2 : Nat) : Int)) ∧ Below w.heap.size w W)
      (fun pre W h => hesc.below h.2 hesc.lt)
      (fun pre W W' h hb => ⟨(hb.block _ h.1.lt).trans h.1, h.2.trans (hb.mono h.2.size)⟩)
      (fun pre W k pos pos' hge h hk => by
        rw [World.size_alloc] at hge
        exact ⟨(Lib.iterAt_other W k w1.heap.size s pos' (by omega)).trans h.1, Lib.below_iterAt h.2 (k := k) (by have := hb.size; omega) s pos'⟩)
      ⟨hb0, hb2⟩ (enters_of Tryd.func43 (by kernel_rfl) rfl)
      (fun pre c W h hl hc => by
        have hx := spells_len pre
        have hy := spell_len c
        refine (size1_any (ofL (spellL c)) w1.heap.size ((spellsL pre).length + 2) W h.1 (by rw [ofL_size]; omega)).mono ?_
        rintro e W' ⟨hv, rfl⟩
        refine ⟨hv, ⟨?_, h.2.setCell hb.size _⟩, KeepsOthers.setCell _ _ _⟩
        have := h.1.set (.int .i64 ((((spellsL pre).length + 2 : Nat) : Int) + ((ofL (spellL c)).size : Int)))
        rw [ofL_size] at this ⊢
        rw [spells_append, spells_one, List.length_append]
        rw [show (((spellsL pre).length + (spellL c).length + 2 : Nat) : Int) = (((spellsL pre).length + 2 : Nat) : Int) + ((spellL c).length : Int) by push_cast; omega]
        exact this)
    go_wp2_with fail
    refine hsp.mono ?_
    rintro e w2 ⟨⟨v, rfl⟩, hbx, hbw⟩
    have hc2 := hbx.cell
    go_wp2
    go_ret
    exact ⟨by rw [HR.out]; simp, hbw⟩
  · have HR := Lib.hid (show qsizeN l = 0 from if_neg hok)
    rw [show walkR l = .tuple #[.int .i64 ((ptsL l).2 : Int), .int .i64 110] from if_neg hok] at hchk
    go_enter Tryd.func21, Tryd.ntmps21
    go_wp2_with fail
    refine hchk.mono ?_
    rintro e w1 ⟨rfl, hb⟩
    go_wp2
    go_ret
    exact ⟨by rw [HR.out]; rfl, hb⟩
end Go.Proofs.YtgnialemiefeeaaDoor
