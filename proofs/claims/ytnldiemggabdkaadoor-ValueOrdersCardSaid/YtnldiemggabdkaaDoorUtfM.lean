/-
  Layer 1: Points.
-/
import Derived.Test.YtnldiemggabdkaaDoorUtfLs
import Derived.Test.YtnldiemggabdkaaDoorInts
import Derived.Test.YtnldiemggabdkaaDoorAp
namespace Go.Proofs.YtnldiemggabdkaaDoor
open Go.RowKit Go.Shelf

set_option maxRecDepth 20000 in
theorem i64_info : ∃ i, Tryd.prog.info? 3 = some i ∧ i.zero = some (.int .i64 0) ∧ i.size = 1 ∧ i.bytes = 8 := ⟨Tryd.t3, by kernel_rfl, by kernel_rfl, by kernel_rfl, by kernel_rfl⟩
def OutIs (n₀ B : Nat) (pre : List Nat) (W : World) : Prop := ∃ v, Boxed W B 62 v ∧ W.ownsRow n₀ 3 1 v pre.length ((nats pre).map iv)
theorem OutIs.below {n₀ B : Nat} {pre : List Nat} {W W' : World} (h : OutIs n₀ B pre W) (hb : Below W.heap.size W W') : OutIs n₀ B pre W' := by
  obtain ⟨v, h1, h2⟩ := h
  exact ⟨v, boxed_below h1 hb, own_below h2 hb⟩
set_option maxRecDepth 20000 in
set_option maxHeartbeats 1000000 in
theorem visit_any (n₀ B : Nat) (pre : List Nat) (c : Nat) (W : World) (h : OutIs n₀ B pre W) (hB : n₀ ≤ B) (hn : pre.length ≤ 1000000) :
    Calls Tryd.prog 59 #[.int .i64 (c : Int), .pointer (some ⟨B, 0, none⟩)] W fun e W' => (∃ v, e = .returned v) ∧ OutIs n₀ B (pre ++ [c]) W' ∧ Below n₀ W W' := by
  obtain ⟨v, hv, hrow⟩ := h
  obtain ⟨i0, hi, hz0, hz1, hz2⟩ := i64_info
  have hc := hv.cell
  have hvl := hv.lt
  have hnew : Shows (W.alloc (.cells #[.int .i64 (c : Int)] 3)) (W.heap.size + 1) 1 (some ⟨W.heap.size, 0, none⟩) 1 [.int .i64 (c : Int)] := ints_new W [(c : Int)] _ _ _ rfl
  go_enter Tryd.func59, Tryd.ntmps59
  go_wp2_with (at_builtin; refine wpList_append_shows _ rfl _ _ 62 rfl n₀ 3 i0 (.int .i64 0) 1 8 Tryd.underlying62 hi hz0 hz1 hz2 rfl (by decide) _ _ _ rfl (hrow.alloc _) (W.heap.size + 1) _ 1 1 [.int .i64 (c : Int)] rfl hnew (by simp [Value.oneCell']) (by unfold maxLen; omega) (by omega) (by simp; omega) ?_; intro A' c' w7 hown' hgrow' _; obtain ⟨g', cap', hs'⟩ := ownsRow_succ hown'; obtain ⟨hv1, hv2, hr2, hk2, hb2⟩ := hv.appended (by decide) hrow (by omega) (by omega) hown' hgrow'; have hc1 := hv1.cell; have hf1 := hv1.frozen; clear hs')
  go_end0
  exact ⟨⟨_, rfl⟩, ⟨_, hv2, by rw [nats_snoc, List.length_append, List.map_append]; exact hr2⟩, hb2⟩

set_option maxRecDepth 20000 in
theorem points_walk (s : ByteArray) (l : List UInt8) (hs : s.data.toList = l) (w : World) (hm : s.size ≤ 1000000) (htab : UTab w) :
    Calls Tryd.prog 58 #[.string s, .func (.func 59) #[] #[.pointer (some ⟨w.heap.size, 0, none⟩)]] (w.alloc (.cells #[.slice none 0 0] 62)) fun e w' => e = .returned (walkR l) ∧ OutIs w.heap.size w.heap.size (ptsL l).1 w' ∧ UTab w' ∧ Below w.heap.size w w' :=
  walk_any s l hs 59 #[.pointer (some ⟨w.heap.size, 0, none⟩)] _ (by unfold maxLen; omega) (fun pre W => OutIs w.heap.size w.heap.size pre W ∧ UTab W ∧ Below w.heap.size w W) (fun _ _ h => h.2.1) (fun _ W W' h hb => ⟨h.1.below hb, h.2.1.below hb h.2.1.lt, bel_next h.2.2 hb⟩)
    ⟨⟨_, Boxed.new _ _ _, World.ownsRow_nil _ _ _ _⟩, htab.alloc _, (Below.refl _ _).alloc (Nat.le_refl _) _⟩ (enters_of Tryd.func59 (by kernel_rfl) rfl) (fun pre c W h hp =>
      (visit_any _ _ pre c W h.1 (Nat.le_refl _) (by omega)).mono fun e W' ⟨h1, h2, h3⟩ => ⟨h1, h2, h.2.1.below h3 htab.lt, h.2.2.trans h3⟩)

set_option maxRecDepth 20000 in
/-- What Points tells of a text. -/
theorem points_yes (s : ByteArray) (l : List UInt8) (hs : s.data.toList = l) (w : World) (hm : s.size ≤ 1000000) (htab : UTab w) (h : (ptsL l).2 = l.length) :
    Calls Tryd.prog 43 #[.string s] w fun e w' => ∃ A n c, e = .returned (.tuple #[.slice A n c, .int .i64 0, .int .i64 0]) ∧ w'.ownsRow w.heap.size 3 1 (.slice A n c) n ((nats (ptsL l).1).map iv) ∧ Below w.heap.size w w' := by
  have hw := points_walk s l hs w hm htab
  unfold walkR at hw
  rw [if_pos h] at hw
  clear h hs
  go_enter Tryd.func43, Tryd.ntmps43
  go_wp2_with fail
  refine hw.mono ?_
  rintro e w1 ⟨rfl, ⟨v, hv, hrow⟩, -, hb⟩
  have hc := hv.cell
  obtain ⟨A, c', rfl, -, -⟩ := own_form hrow
  go_wp2
  go_ret3
  exact ⟨A, _, c', rfl, hrow, hb⟩
set_option maxRecDepth 20000 in
theorem points_no (s : ByteArray) (l : List UInt8) (hs : s.data.toList = l) (w : World) (hm : s.size ≤ 1000000) (htab : UTab w) (h : (ptsL l).2 ≠ l.length) :
    Calls Tryd.prog 43 #[.string s] w fun e w' => e = .returned (.tuple #[.slice none 0 0, .int .i64 ((ptsL l).2 : Int), .int .i64 110]) ∧ Below w.heap.size w w' := by
  have hw := points_walk s l hs w hm htab
  unfold walkR at hw
  rw [if_neg h] at hw
  clear h hs
  generalize (((ptsL l).2 : Nat) : Int) = x at *
  go_enter Tryd.func43, Tryd.ntmps43
  go_wp2_with fail
  refine hw.mono ?_
  rintro e w1 ⟨rfl, -, -, hb⟩
  go_wp2
  go_ret3
  exact ⟨rfl, hb⟩
end Go.Proofs.YtnldiemggabdkaaDoor
