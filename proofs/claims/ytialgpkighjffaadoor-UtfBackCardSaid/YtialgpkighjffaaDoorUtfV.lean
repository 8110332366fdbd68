/-
  Layer 1: wakes.
-/
import Derived.Test.YtialgpkighjffaaDoorUtfU
namespace Go.Proofs.YtialgpkighjffaaDoor
open Go.RowKit

theorem pts_of (cps : List Nat) (r l : List UInt8) (h : allCp cps) (hr : (decL r).2 = 0) (hl : l = textL cps ++ r) : ptsL l = (cps, (textL cps).length) := by
  rw [hl, pts_text cps r h, pts_zero hr]
  simp
theorem wk1 : decR [226, 130, 172] 0 = .tuple #[.int .i64 8364, .int .i64 3, .int .i64 0] := by
  rw [decR_yes (l := [226, 130, 172]) (p := 0) (c := 8364) (n := 3) (by decide +kernel) (by decide)]; rfl
theorem wk2 : decR [237, 160, 128] 0 = .tuple #[.int .i64 0, .int .i64 0, .int .i64 110] := decR_no (by decide +kernel)
theorem wk3 : walkR [65, 226, 130] = .tuple #[.int .i64 1, .int .i64 110] := by
  have h := pts_of [65] [226, 130] [65, 226, 130] (by intro c hc; simp at hc; subst hc; decide) (by decide +kernel) (by decide +kernel)
  unfold walkR
  rw [h]
  rfl
theorem wk4 : ptsL [65, 195, 164] = ([65, 228], 3) := pts_of [65, 228] [] [65, 195, 164] (by intro c hc; simp at hc; rcases hc with rfl | rfl <;> decide) (by decide +kernel) (by decide +kernel)
theorem wk5 : textR [65, 228] = .tuple #[.string ⟨#[65, 195, 164]⟩, .int .i64 0] := by
  unfold textR
  rw [if_pos (by decide)]
  have : textL ([65, 228].map Int.toNat) = [65, 195, 164] := by decide +kernel
  rw [this]
  rfl
theorem wk6 : fs (hIdx 55296) = 0 := by rw [hIdx_no 55296 (by decide)]; rfl
theorem wk7 : fs (hIdx 65536) = 4 := by
  have := hIdx_len 65536 (by decide)
  exact this.trans (by decide +kernel)
set_option maxRecDepth 20000 in
set_option maxHeartbeats 2000000 in
theorem wakes_any (w : World) (htab : UTab w) :
    Calls Tryd.prog 10 #[] w fun e w' => e = .returned (.bool true) ∧ Below w.heap.size w w' := by
  go_enter Tryd.func10, Tryd.ntmps10
  go_wp2_with fail
  refine (put_yes (some ⟨w.heap.size, 0, none⟩) 1 1 (w.heap.size + 1) [65] 8364 _ (htab.alloc _) (bytes_new w [65] #[.int .u8 65] 5 (0, 0) rfl) (by simp) (by omega) (by decide)).mono ?_
  rintro e w1 ⟨A1, n1, c1, rfl, hown1, hb1⟩
  have hb01 : Below w.heap.size w w1 := ((Below.refl _ _).alloc (Nat.le_refl _) _).trans (hb1.mono (by simp))
  have hl1 : Bytes w1 w1.heap.size A1 n1 [65, 226, 130, 172] := by
    have h := Bytes.own hown1
    have e : ([65] ++ encL 8364 : List UInt8) = [65, 226, 130, 172] := by decide +kernel
    rw [e] at h
    exact h
  have hn1 := hl1.len
  simp only [List.length_cons, List.length_nil] at hn1
  subst hn1
  have t1 := htab.below hb01 htab.lt
  clear hown1 hb1
  go_wp2_with fail
  have hn2 := next_in (some ⟨w1.heap.size, 0, none⟩) 3 3 (w1.heap.size + 1) 0 [226, 130, 172] _ (t1.alloc _) (bytes_new w1 [226, 130, 172] #[.int .u8 226, .int .u8 130, .int .u8 172] 5 (0, 0) rfl) (by simp) (by unfold maxLen; omega) (by omega)
  rw [wk1] at hn2
  refine hn2.mono ?_
  clear hn2
  rintro e w2 ⟨rfl, hb2⟩
  have hb12 : Below w1.heap.size w1 w2 := bel_next ((Below.refl _ _).alloc (Nat.le_refl _) _) hb2
  have t2 := t1.below hb12 t1.lt
  clear hb2
  go_wp2_with fail
  have hn3 := next_in (some ⟨w2.heap.size, 0, none⟩) 3 3 (w2.heap.size + 1) 0 [237, 160, 128] _ (t2.alloc _) (bytes_new w2 [237, 160, 128] #[.int .u8 237, .int .u8 160, .int .u8 128] 5 (0, 0) rfl) (by simp) (by unfold maxLen; omega) (by omega)
  rw [wk2] at hn3
  refine hn3.mono ?_
  clear hn3
  rintro e w3 ⟨rfl, hb3⟩
  have hb13 : Below w1.heap.size w1 w3 := bel_next (bel_alloc hb12 _) hb3
  have t3 := t1.below hb13 t1.lt
  clear hb3 hb12 t2
  go_wp2_with fail
  have hc4 := check_any ⟨#[65, 226, 130]⟩ [65, 226, 130] rfl w3 (by decide) t3
  rw [wk3] at hc4
  refine hc4.mono ?_
  clear hc4
  rintro e w4 ⟨rfl, hb4⟩
  have hb14 : Below w1.heap.size w1 w4 := bel_next hb13 hb4
  have t4 := t1.below hb14 t1.lt
  clear hb4 hb13 t3
  go_wp2_with fail
  have hp5 := points_yes ⟨#[65, 195, 164]⟩ [65, 195, 164] rfl w4 (by decide) t4 (by rw [wk4]; rfl)
  rw [wk4] at hp5
  refine hp5.mono ?_
  clear hp5
  rintro e w5 ⟨A5, n5, c5, rfl, hown5, hb5⟩
  have hl5 : Ints w5 w5.heap.size A5 n5 [65, 228] := Ints.own hown5
  have hn5 := hl5.len
  simp only [List.length_cons, List.length_nil] at hn5
  subst hn5
  have hb15 : Below w1.heap.size w1 w5 := bel_next hb14 hb5
  have t5 := t1.below hb15 t1.lt
  clear hown5 hb5 hb14 t4
  go_wp2_with fail
  have hx6 := text_any (some ⟨w5.heap.size, 0, none⟩) 2 2 (w5.heap.size + 1) [65, 228] _ (t5.alloc _) (ints_new w5 [65, 228] #[.int .i64 65, .int .i64 228] 3 (0, 0) rfl) (by simp) (by omega)
  rw [wk5] at hx6
  refine hx6.mono ?_
  clear hx6
  rintro e w6 ⟨rfl, hb6⟩
  have hb56 : Below w5.heap.size w5 w6 := bel_next ((Below.refl _ _).alloc (Nat.le_refl _) _) hb6
  have hb16 : Below w1.heap.size w1 w6 := bel_next hb15 hb56
  have hl5' := hl5.below hb56
  have hl1' := hl1.below hb16
  have t6 := t1.below hb16 t1.lt
  clear hb6 hb15 t5 hl5 hl1
  go_wp2_with fail
  refine (equal_any A1 (some ⟨w6.heap.size, 0, none⟩) 4 c1 4 4 [65, 226, 130, 172] [65, 226, 130, 172] w1.heap.size (w6.heap.size + 1) _ (hl1'.alloc hb16.size _) (bytes_new w6 [65, 226, 130, 172] #[.int .u8 65, .int .u8 226, .int .u8 130, .int .u8 172] 5 (0, 0) rfl) (by unfold maxLen; omega) (by unfold maxLen; omega)).mono ?_
  rintro e w7 ⟨rfl, k7, rfl⟩
  rw [show sameB [65, 226, 130, 172] [65, 226, 130, 172] = true from decide_eq_true rfl]
  have hb67 : Below w6.heap.size w6 ((w6.alloc (.cells #[.int .u8 65, .int .u8 226, .int .u8 130, .int .u8 172] 5)).drewN k7) := below_drewN (bel_alloc (Below.refl _ _) _) _
  generalize (w6.alloc (.cells #[.int .u8 65, .int .u8 226, .int .u8 130, .int .u8 172] 5)).drewN k7 = w7 at *
  have hb57 := bel_next hb56 hb67
  have hb17 := bel_next hb16 hb67
  have t7 := t6.below hb67 t6.lt
  have hl5 := hl5'.below (hb67.mono hb56.size)
  clear hl5' hl1' t6 hb16 hb67 hb56
  go_wp2_with fail
  refine (equalI_any A5 (some ⟨w7.heap.size, 0, none⟩) 2 c5 2 2 [65, 228] [65, 228] w5.heap.size (w7.heap.size + 1) _ (hl5.alloc hb57.size _) (ints_new w7 [65, 228] #[.int .i64 65, .int .i64 228] 3 (0, 0) rfl) (by unfold maxLen; omega)).mono ?_
  rintro e w8 ⟨rfl, k8, rfl⟩
  rw [show sameI [65, 228] [65, 228] = true from decide_eq_true rfl]
  have hb78 : Below w7.heap.size w7 ((w7.alloc (.cells #[.int .i64 65, .int .i64 228] 3)).drewN k8) := below_drewN (bel_alloc (Below.refl _ _) _) _
  generalize (w7.alloc (.cells #[.int .i64 65, .int .i64 228] 3)).drewN k8 = w8 at *
  have t8 := t7.below hb78 t7.lt
  have hb18 := bel_next hb17 hb78
  clear t7 hb78 hb17 hb57 hl5
  go_wp2_with fail
  have hs9 := size_any 55296 w8 t8
  rw [wk6] at hs9
  refine hs9.mono ?_
  clear hs9
  rintro e w9 ⟨rfl, hb9⟩
  have t9 := t8.below hb9 t8.lt
  have hb19 := bel_next hb18 hb9
  clear hb9 t8 hb18
  go_wp2_with fail
  have hs10 := size_any 65536 w9 t9
  rw [wk7] at hs10
  refine hs10.mono ?_
  clear hs10
  rintro e w10 ⟨rfl, hb10⟩
  have hb110 := bel_next hb01 (bel_next hb19 hb10)
  clear hb10 t9 hb19 hb01
  go_wp2
  go_ret
  exact ⟨rfl, hb110⟩
end Go.Proofs.YtialgpkighjffaaDoor
