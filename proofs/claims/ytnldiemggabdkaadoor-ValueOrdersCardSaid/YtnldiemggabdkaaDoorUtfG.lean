/-
  Layer 1: find, by starts.
-/
import Derived.Test.YtnldiemggabdkaaDoorUtfE
import Derived.Deep.DeepCutAuto
namespace Go.Proofs.YtnldiemggabdkaaDoor
open Go.RowKit

set_option maxRecDepth 20000 in
set_option maxHeartbeats 600000 in
theorem find_starts (P : Nat → Bool) (n : Int) (w : World) (htab : UTab w)
    (hfit : ∀ k, k < 4 → ∀ W : World, Calls Tryd.prog 86 #[.agg #[.int .i64 (fl k), .int .i64 (fh k), .int .i64 (fs k), .int .i64 (fd k)], .int .i64 n] W fun e w' => e = .returned (.bool (P k)) ∧ Below W.heap.size W w') :
    Calls Tryd.prog 85 #[.func (.func 86) #[] #[], .int .i64 n] w fun e w' => e = .returned (formK (firstK P)) ∧ Below w.heap.size w w' := by
  obtain ⟨W2, hW2⟩ : ∃ W2, (w.alloc (.cells #[.int .i64 0, .int .i64 0, .int .i64 0, .int .i64 0] 111)).alloc (.cells #[.int .i64 0, .int .i64 0, .int .i64 0, .int .i64 0] 111) = W2 := ⟨_, rfl⟩
  have htab2 : UTab W2 := by rw [← hW2]; exact (htab.alloc _).alloc _
  have hb2 : Below w.heap.size w W2 := by rw [← hW2]; exact bel_alloc (bel_alloc (Below.refl _ _) _) _
  have hs2 : w.heap.size + 2 ≤ W2.heap.size := by rw [← hW2]; simp
  have bx0 : Box W2 (w.heap.size) [.int .i64 0, .int .i64 0, .int .i64 0, .int .i64 0] := by rw [← hW2]; exact (Box.new w _ _).alloc _
  have bx1 : Box W2 (w.heap.size + 1) [.int .i64 0, .int .i64 0, .int .i64 0, .int .i64 0] := by rw [← hW2]; exact Box.new' _ _ _ (by simp)
  go_enter Tryd.func85, Tryd.ntmps85
  go_wp2
  go_step3
  go_wp2
  go_step3
  clear hW2
  go_wp2_with (refine wpList_load_mid rfl 121 _ rfl 1 0 rfl utab _ htab2 Tryd.underlying121 rfl info_tab ?_)
  go_loopw [9] (fun i wr => ∃ k : Nat, k ≤ 4 ∧ i = .int .i64 k ∧ (∀ j, j < k → P j = false) ∧ Below W2.heap.size W2 wr) (fun i _ => 4 - (intOf i).toNat)
  case atStart => exact ⟨0, by omega, rfl, fun j hj => by omega, Below.refl _ _⟩
  case round =>
    obtain ⟨k, hk, rfl, hP, hbw⟩ := hrel
    have hsw := hbw.size
    by_cases hlt : k < 4
    · have hk4 : (k : Int) < 4 := by omega
      have hk0 : (0 : Int) ≤ k := by omega
      have hidx := index_form k hlt
      have hf := hfit k hlt
      have hres := Lib.hid (show formK k = .agg #[.int .i64 (fl k), .int .i64 (fh k), .int .i64 (fs k), .int .i64 (fd k)] from rfl)
      generalize fl k = x0 at *
      generalize fh k = x1 at *
      generalize fs k = x2 at *
      generalize fd k = x3 at *
      cases hq : P k
      · rw [hq] at hf
        have hF := Lib.hid (show ∀ j, j < k + 1 → P j = false from fun j hj => if e : j = k then e ▸ hq else hP j (by omega))
        clear hP hq hfit hlt
        go_wp2_with fail
        refine (hf _).mono ?_
        rintro e w1 ⟨rfl, hb⟩
        have c0 := Box.later (Box.new wr #[.int .i64 x0, .int .i64 x1, .int .i64 x2, .int .i64 x3] 111) hb
        have hbn := bel_next (bel_alloc hbw _) hb
        clear c0 bx0 bx1 hf
        go_wp2
        go_roundw
        case rel => exact ⟨k + 1, by omega, by go_num, hF.out, hbn⟩
        case measure => simp [intOf]; omega
      · rw [hq] at hf
        have hF := Lib.hid (show firstK P = k from first_yes P k hlt hP hq)
        clear hP hq hfit hlt
        go_wp2_with fail
        refine (hf _).mono ?_
        rintro e w1 ⟨rfl, hb⟩
        have c0 := Box.later (Box.new wr #[.int .i64 x0, .int .i64 x1, .int .i64 x2, .int .i64 x3] 111) hb
        have d0 := (c0 0 _ rfl).1
        have d1 := (c0 1 _ rfl).1
        have d2 := (c0 2 _ rfl).1
        have d3 := (c0 3 _ rfl).1
        have hbn := bel_next (bel_alloc hbw _) hb
        have b2 := bx1.later hbn
        have b3 := bx0.later hbn
        obtain ⟨W3, hW3⟩ : ∃ W3, set4 w1 (w.heap.size + 1) (.int .i64 x0) (.int .i64 x1) (.int .i64 x2) (.int .i64 x3) = W3 := ⟨_, rfl⟩
        have k3 : Box W3 (w.heap.size + 1) [.int .i64 x0, .int .i64 x1, .int .i64 x2, .int .i64 x3] := by rw [← hW3]; exact b2.set4 _ _ _ _
        have k2 : Box W3 w.heap.size [.int .i64 0, .int .i64 0, .int .i64 0, .int .i64 0] := by rw [← hW3]; exact b3.far4 _ _ _ _ (by omega)
        have hb3 : Below w.heap.size w W3 := by rw [← hW3]; exact below_set4 (hb2.trans (hbn.mono (by omega))) (by omega) _ _ _ _
        have hW3' : (((w1.setCell ⟨w.heap.size + 1, 0, none⟩ (.int .i64 x0)).setCell ⟨w.heap.size + 1, 1, none⟩ (.int .i64 x1)).setCell ⟨w.heap.size + 1, 2, none⟩ (.int .i64 x2)).setCell ⟨w.heap.size + 1, 3, none⟩ (.int .i64 x3) = W3 := hW3
        have p0 := (b2 0 _ rfl).1
        have q0 := (b2 0 _ rfl).2
        have p1 := (b2 1 _ rfl).1
        have q1 := (b2 1 _ rfl).2
        have p2 := (b2 2 _ rfl).1
        have q2 := (b2 2 _ rfl).2
        have p3 := (b2 3 _ rfl).1
        have q3 := (b2 3 _ rfl).2
        clear hW3 b2 b3 c0 bx0 bx1 hf
        go_upto_region 8 with (fail)
        clear hW3' p0 p1 p2 p3 q0 q1 q2 q3 d0 d1 d2 d3
        obtain ⟨W4, hW4⟩ : ∃ W4, set4 W3 w.heap.size (.int .i64 x0) (.int .i64 x1) (.int .i64 x2) (.int .i64 x3) = W4 := ⟨_, rfl⟩
        have k4 : Box W4 w.heap.size [.int .i64 x0, .int .i64 x1, .int .i64 x2, .int .i64 x3] := by rw [← hW4]; exact k2.set4 _ _ _ _
        have hb4 : Below w.heap.size w W4 := by rw [← hW4]; exact below_set4 hb3 (Nat.le_refl _) _ _ _ _
        have hW4' : (((W3.setCell ⟨w.heap.size, 0, none⟩ (.int .i64 x0)).setCell ⟨w.heap.size, 1, none⟩ (.int .i64 x1)).setCell ⟨w.heap.size, 2, none⟩ (.int .i64 x2)).setCell ⟨w.heap.size, 3, none⟩ (.int .i64 x3) = W4 := hW4
        have p0 := (k3 0 _ rfl).1
        have q0 := (k3 0 _ rfl).2
        have r0 := (k2 0 _ rfl).1
        have s0 := (k2 0 _ rfl).2
        have t0 := (k4 0 _ rfl).1
        have p1 := (k3 1 _ rfl).1
        have q1 := (k3 1 _ rfl).2
        have r1 := (k2 1 _ rfl).1
        have s1 := (k2 1 _ rfl).2
        have t1 := (k4 1 _ rfl).1
        have p2 := (k3 2 _ rfl).1
        have q2 := (k3 2 _ rfl).2
        have r2 := (k2 2 _ rfl).1
        have s2 := (k2 2 _ rfl).2
        have t2 := (k4 2 _ rfl).1
        have p3 := (k3 3 _ rfl).1
        have q3 := (k3 3 _ rfl).2
        have r3 := (k2 3 _ rfl).1
        have s3 := (k2 3 _ rfl).2
        have t3 := (k4 3 _ rfl).1
        clear hW4 k3 k2 k4
        go_wp2
        rw [Exit.noGoto_ret]
        exact bodyPost_ret (v := .agg #[.int .i64 x0, .int .i64 x1, .int .i64 x2, .int .i64 x3]) (by simp [results, Tryd.results85, go_sem, *]) rfl ⟨by rw [hF.out, hres.out], hb4⟩
    · have hF := Lib.hid (first_no P (fun j hj => hP j (by omega)))
      have hk4 : k = 4 := by omega
      subst hk4
      clear hP hfit hlt
      have b0 := bx0.later hbw
      have b1 := bx1.later hbw
      have hb3 : Below w.heap.size w wr := hb2.trans (hbw.mono (by omega))
      clear bx0 bx1
      obtain ⟨W4, hW4⟩ : ∃ W4, set4 wr w.heap.size (.int .i64 0) (.int .i64 0) (.int .i64 0) (.int .i64 0) = W4 := ⟨_, rfl⟩
      have k4 : Box W4 w.heap.size [.int .i64 0, .int .i64 0, .int .i64 0, .int .i64 0] := by rw [← hW4]; exact b0.set4 _ _ _ _
      have hb4 : Below w.heap.size w W4 := by rw [← hW4]; exact below_set4 hb3 (Nat.le_refl _) _ _ _ _
      have hW4' : (((wr.setCell ⟨w.heap.size, 0, none⟩ (.int .i64 0)).setCell ⟨w.heap.size, 1, none⟩ (.int .i64 0)).setCell ⟨w.heap.size, 2, none⟩ (.int .i64 0)).setCell ⟨w.heap.size, 3, none⟩ (.int .i64 0) = W4 := hW4
      have p0 := (b1 0 _ rfl).1
      have q0 := (b1 0 _ rfl).2
      have r0 := (b0 0 _ rfl).1
      have s0 := (b0 0 _ rfl).2
      have t0 := (k4 0 _ rfl).1
      have p1 := (b1 1 _ rfl).1
      have q1 := (b1 1 _ rfl).2
      have r1 := (b0 1 _ rfl).1
      have s1 := (b0 1 _ rfl).2
      have t1 := (k4 1 _ rfl).1
      have p2 := (b1 2 _ rfl).1
      have q2 := (b1 2 _ rfl).2
      have r2 := (b0 2 _ rfl).1
      have s2 := (b0 2 _ rfl).2
      have t2 := (k4 2 _ rfl).1
      have p3 := (b1 3 _ rfl).1
      have q3 := (b1 3 _ rfl).2
      have r3 := (b0 3 _ rfl).1
      have s3 := (b0 3 _ rfl).2
      have t3 := (k4 3 _ rfl).1
      clear hW4 b1 b0 k4
      go_wp2
      rw [Exit.noGoto_ret]
      exact bodyPost_ret (v := .agg #[.int .i64 0, .int .i64 0, .int .i64 0, .int .i64 0]) (by simp [results, Tryd.results85, go_sem, *]) rfl ⟨by rw [hF.out]; rfl, hb4⟩
end Go.Proofs.YtnldiemggabdkaaDoor
