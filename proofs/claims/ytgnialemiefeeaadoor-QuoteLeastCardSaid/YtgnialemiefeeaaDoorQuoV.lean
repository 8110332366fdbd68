/-
  Layer 2: wakes.
-/
import Derived.Test.YtgnialemiefeeaaDoorQuoN
import Derived.Test.YtgnialemiefeeaaDoorQuoS
import Derived.Test.YtgnialemiefeeaaDoorQuoG
import Derived.Lib.SlBytesConst
namespace Go.Proofs.YtgnialemiefeeaaDoor
open Go.RowKit

theorem pts_of (cps : List Nat) (r l : List UInt8) (h : allCp cps) (hr : (decL r).2 = 0) (hl : l = textL cps ++ r) : ptsL l = (cps, (textL cps).length) := by
  rw [hl, pts_text cps r h, pts_zero hr]
  simp
theorem sgs_of {l : List UInt8} {c n : Nat} (h : begL l = (c, n)) (hn : n ≠ 0) : sgsL l = (c :: (sgsL (l.drop n)).1, n + (sgsL (l.drop n)).2) := by
  rw [sgs_step (by rw [h]; exact hn), h]
theorem ws0 : sgsL [34] = ([], 0) := sgs_zero (by decide +kernel)
set_option maxRecDepth 20000 in
theorem ws1 : sgsL [92, 117, 48, 48, 52, 49, 34] = ([65], 6) := by
  rw [sgs_of (c := 65) (n := 6) (by decide +kernel) (by decide)]
  show (65 :: (sgsL [34]).1, 6 + (sgsL [34]).2) = _
  rw [ws0]
  rfl
set_option maxRecDepth 20000 in
theorem ws2 : sgsL [92, 110, 92, 117, 48, 48, 52, 49, 34] = ([10, 65], 8) := by
  rw [sgs_of (c := 10) (n := 2) (by decide +kernel) (by decide)]
  show (10 :: (sgsL [92, 117, 48, 48, 52, 49, 34]).1, 2 + (sgsL [92, 117, 48, 48, 52, 49, 34]).2) = _
  rw [ws1]
  rfl
set_option maxRecDepth 20000 in
theorem ws3 : sgsL [97, 92, 110, 92, 117, 48, 48, 52, 49, 34] = ([97, 10, 65], 9) := by
  rw [sgs_of (c := 97) (n := 1) (by decide +kernel) (by decide)]
  show (97 :: (sgsL [92, 110, 92, 117, 48, 48, 52, 49, 34]).1, 1 + (sgsL [92, 110, 92, 117, 48, 48, 52, 49, 34]).2) = _
  rw [ws2]
  rfl
set_option maxRecDepth 20000 in
theorem wr1 : readV [34, 97, 92, 110, 92, 117, 48, 48, 52, 49, 34] 0 = .tuple #[.string (ofL [97, 10, 65]), .int .i64 11, .int .i64 0] := by
  unfold readV
  rw [if_neg (by decide), if_neg (by decide +kernel)]
  show (let q := 0 + 1 + (sgsL [97, 92, 110, 92, 117, 48, 48, 52, 49, 34]).2; _) = _
  show (let q := 0 + 1 + (sgsL [97, 92, 110, 92, 117, 48, 48, 52, 49, 34]).2
    if q < ([34, 97, 92, 110, 92, 117, 48, 48, 52, 49, 34] : List UInt8).length ∧ at0 [34, 97, 92, 110, 92, 117, 48, 48, 52, 49, 34] q = 34 then Value.tuple #[.string (ofL (textL (sgsL [97, 92, 110, 92, 117, 48, 48, 52, 49, 34]).1)), .int .i64 ((q + 1 : Nat) : Int), .int .i64 0]
    else .tuple #[.string ⟨#[]⟩, .int .i64 (q : Int), .int .i64 (faultN [34, 97, 92, 110, 92, 117, 48, 48, 52, 49, 34] q)]) = _
  rw [ws3]
  simp only
  rw [if_pos (by decide +kernel), show textL [97, 10, 65] = [97, 10, 65] by decide +kernel]
  rfl
set_option maxRecDepth 20000 in
theorem ws4 : sgsL [92, 117, 100, 56, 51, 100, 34] = ([], 0) := sgs_zero (by decide +kernel)
set_option maxRecDepth 20000 in
theorem wr2 : readV [34, 92, 117, 100, 56, 51, 100, 34] 0 = .tuple #[.string ⟨#[]⟩, .int .i64 1, .int .i64 7] := by
  unfold readV
  rw [if_neg (by decide), if_neg (by decide +kernel)]
  show (let q := 0 + 1 + (sgsL [92, 117, 100, 56, 51, 100, 34]).2
    if q < ([34, 92, 117, 100, 56, 51, 100, 34] : List UInt8).length ∧ at0 [34, 92, 117, 100, 56, 51, 100, 34] q = 34 then Value.tuple #[.string (ofL (textL (sgsL [92, 117, 100, 56, 51, 100, 34]).1)), .int .i64 ((q + 1 : Nat) : Int), .int .i64 0]
    else .tuple #[.string ⟨#[]⟩, .int .i64 (q : Int), .int .i64 (faultN [34, 92, 117, 100, 56, 51, 100, 34] q)]) = _
  rw [ws4]
  simp only
  rw [if_neg (by decide +kernel), show faultN [34, 92, 117, 100, 56, 51, 100, 34] (0 + 1 + 0) = 7 by decide +kernel]
  rfl
set_option maxRecDepth 20000 in
theorem wp3 : printR [97, 47, 34, 10, 1, 195, 169] = .tuple #[.string (ofL [34, 97, 47, 92, 34, 92, 110, 92, 117, 48, 48, 48, 49, 195, 169, 34]), .int .i64 0] := by
  have h := pts_of [97, 47, 34, 10, 1, 233] [] [97, 47, 34, 10, 1, 195, 169] (by intro c hc; simp at hc; rcases hc with rfl | rfl | rfl | rfl | rfl | rfl <;> decide) (by decide +kernel) (by decide +kernel)
  unfold printR
  rw [h, if_pos (by decide +kernel), show quoteL [97, 47, 34, 10, 1, 233] = [34, 97, 47, 92, 34, 92, 110, 92, 117, 48, 48, 48, 49, 195, 169, 34] by decide +kernel]
set_option maxRecDepth 20000 in
theorem wv4 : signV [92, 117, 100, 56, 51, 100, 92, 117, 100, 101, 48, 48] 0 = .tuple #[.int .i64 128512, .int .i64 12, .int .i64 0] := by
  rw [sign_yes (l := [92, 117, 100, 56, 51, 100, 92, 117, 100, 101, 48, 48]) (p := 0) (c := 128512) (n := 12) (by decide +kernel) (by decide)]
  rfl
theorem wz5 : qsizeN [255] = 0 := by
  have h := pts_of [] [255] [255] (by intro c hc; simp at hc) (by decide +kernel) (by decide +kernel)
  unfold qsizeN
  rw [h]
  rfl
/-- A call of Read over a row of the call's own. -/
theorem read_new (w : World) (ht : UTab w) (he : ETab w) (l : List UInt8) (C : Array Value) (fr : Nat × Nat) (n : Nat) (x : Int) (p : Nat) (hC : C.toList = l.map bv) (hn : l.length = n) (hx : x = (p : Int)) (hp : p ≤ l.length) (hl : l.length ≤ 1000) (v : Value) (h : readV l p = v) :
    Calls Tryd.prog 16 #[.slice (some ⟨w.heap.size, 0, none⟩) n n, .int .i64 x] (w.alloc (.cells C 5 fr)) fun e w' => e = .returned v ∧ Below w.heap.size w w' := by
  subst hn hx
  have hb := (Below.refl w.heap.size w).alloc (Nat.le_refl _) (.cells C 5 fr)
  refine (read_in _ _ _ _ p l _ (ht.below hb ht.lt) (he.below hb he.lt) (bytes_new w l C 5 fr hC) (by simp) (by omega) (Nat.le_refl _) hp).mono ?_
  rintro e w' ⟨rfl, hb'⟩
  rw [h]
  exact ⟨rfl, hb.trans (hb'.mono hb.size)⟩
theorem sign_new (w : World) (ht : UTab w) (he : ETab w) (l : List UInt8) (C : Array Value) (fr : Nat × Nat) (n : Nat) (x : Int) (p : Nat) (hC : C.toList = l.map bv) (hn : l.length = n) (hx : x = (p : Int)) (hp : p ≤ l.length) (hl : l.length ≤ 1000) (v : Value) (h : signV l p = v) :
    Calls Tryd.prog 12 #[.slice (some ⟨w.heap.size, 0, none⟩) n n, .int .i64 x] (w.alloc (.cells C 5 fr)) fun e w' => e = .returned v ∧ Below w.heap.size w w' := by
  subst hn hx
  have hb := (Below.refl w.heap.size w).alloc (Nat.le_refl _) (.cells C 5 fr)
  refine (sign_in _ _ _ _ p l _ (ht.below hb ht.lt) (he.below hb he.lt) (bytes_new w l C 5 fr hC) (by simp) (by unfold maxLen; omega) (Nat.le_refl _) hp).mono ?_
  rintro e w' ⟨rfl, hb'⟩
  rw [h]
  exact ⟨rfl, hb.trans (hb'.mono hb.size)⟩
set_option maxRecDepth 20000 in
set_option maxHeartbeats 2000000 in
theorem wakes_any (w : World) (ht : UTab w) (he : ETab w) : Calls Tryd.prog 10 #[] w fun e w' => e = .returned (.bool true) ∧ Below w.heap.size w w' := by
  have kc := fun (w : World) (C : Array Value) (n c : Nat) => Lib.run_convert_bytes_const (P := Tryd.prog) w 22 5 C n c Tryd.underlying22 Tryd.underlying5
  have p1 : (ofL [97, 10, 65]).toList = [97, 10, 65] := by rw [ByteArray.toList_eq, ofL_toList]
  have p2 : (ofL [34, 97, 47, 92, 34, 92, 110, 92, 117, 48, 48, 48, 49, 195, 169, 34]).toList = [34, 97, 47, 92, 34, 92, 110, 92, 117, 48, 48, 48, 49, 195, 169, 34] := by rw [ByteArray.toList_eq, ofL_toList]
  have r1 := wr1
  have r3 := wp3
  generalize ofL [97, 10, 65] = S1 at *
  generalize ofL [34, 97, 47, 92, 34, 92, 110, 92, 117, 48, 48, 48, 49, 195, 169, 34] = S2 at *
  have R1 := Lib.hid r1
  have R3 := Lib.hid r3
  clear r1 r3
  go_enter Tryd.func10, Tryd.ntmps10
  go_wp2_with fail
  refine (read_new w ht he [34, 97, 92, 110, 92, 117, 48, 48, 52, 49, 34] #[.int .u8 34, .int .u8 97, .int .u8 92, .int .u8 110, .int .u8 92, .int .u8 117, .int .u8 48, .int .u8 48, .int .u8 52, .int .u8 49, .int .u8 34] _ _ _ 0 rfl rfl rfl (by decide) (by decide) _ R1.out).mono ?_
  rintro e w1 ⟨rfl, hb1⟩
  have t1 := ht.below hb1 ht.lt
  have e1 := he.below hb1 he.lt
  go_wp2_with fail
  refine (read_new w1 t1 e1 [34, 92, 117, 100, 56, 51, 100, 34] #[.int .u8 34, .int .u8 92, .int .u8 117, .int .u8 100, .int .u8 56, .int .u8 51, .int .u8 100, .int .u8 34] _ _ _ 0 rfl rfl rfl (by decide) (by decide) _ wr2).mono ?_
  rintro e w2 ⟨rfl, hb2⟩
  have t2 := t1.below hb2 t1.lt
  have e2 := e1.below hb2 e1.lt
  have hc3 := print_any ⟨#[97, 47, 34, 10, 1, 195, 169]⟩ [97, 47, 34, 10, 1, 195, 169] rfl w2 (by decide) t2 e2
  rw [R3.out] at hc3
  go_wp2_with fail
  refine hc3.mono ?_
  rintro e w3 ⟨rfl, hb3⟩
  have t3 := t2.below hb3 t2.lt
  have e3 := e2.below hb3 e2.lt
  go_wp2_with fail
  refine (sign_new w3 t3 e3 [92, 117, 100, 56, 51, 100, 92, 117, 100, 101, 48, 48] #[.int .u8 92, .int .u8 117, .int .u8 100, .int .u8 56, .int .u8 51, .int .u8 100, .int .u8 92, .int .u8 117, .int .u8 100, .int .u8 101, .int .u8 48, .int .u8 48] _ _ _ 0 rfl rfl rfl (by decide) (by decide) _ wv4).mono ?_
  rintro e w4 ⟨rfl, hb4⟩
  have t4 := t3.below hb4 t3.lt
  have e4 := e3.below hb4 e3.lt
  have hb04 := bel_next hb1 (bel_next hb2 (bel_next hb3 hb4))
  have hs := qsize_any ⟨#[255]⟩ [255] rfl w4 (by decide) t4 e4
  rw [wz5] at hs
  clear hb1 hb2 hb3 hb4 t1 t2 t3 e1 e2 e3 ht he hc3
  go_wp2_with fail
  refine hs.mono ?_
  rintro e w5 ⟨rfl, hb5⟩
  go_wp2
  go_ret
  exact ⟨rfl, bel_next hb04 hb5⟩
end Go.Proofs.YtgnialemiefeeaaDoor
