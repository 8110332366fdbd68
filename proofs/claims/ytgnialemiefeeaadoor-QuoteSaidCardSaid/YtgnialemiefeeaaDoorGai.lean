import Derived.Test.YtgnialemiefeeaaDoorGag
import Derived.Test.YtgnialemiefeeaaDoorGad
import Derived.Test.YtgnialemiefeeaaDoorGah
import Derived.Lib.SlBytesConst
import Derived.Test.YtgnialemiefeeaaDoorGab
import Derived.Test.YtgnialemiefeeaaDoorGaf
import Derived.Test.YtgnialemiefeeaaDoorRows
import Derived.Test.YtgnialemiefeeaaDoorGaa
import Derived.Deep.QuietTactic
import Derived.BigQuiet
import Derived.Lib.Hide
/-
  Layer 2: wakes.
-/
namespace Go.Proofs.YtgnialemiefeeaaDoor
open Go.RowKit

theorem pts_of (cps : List Nat) (r l : List UInt8) (h : allCp cps) (hr : (decL r).2 = 0) (hl : l = textL cps ++ r) : ptsL l = (cps, (textL cps).length) := by
  rw [hl, pts_text cps r h, pts_zero hr]
  simp
theorem sgs_of {l : List UInt8} {c n : Nat} (h : begL l = (c, n)) (hn : n ≠ 0) : sgsL l = (c :: (sgsL (l.drop n)).1, n + (sgsL (l.drop n)).2) := by
  rw [sgs_step (by rw [h]; exact hn), h]
theorem ws0 : sgsL [34] = ([], 0) := sgs_zero (by decide +kernel)
set_option maxRecDepth 20000 in
theorem ws1 : sgsL [92, 117, 48, 48, 52, 49, 34] = ([65], 6) := by
  rw [sgs_of (c := 65) (n := 6) (by decide +kernel) (by decide)]
  show (65 :: (sgsL [34]).1, 6 + (sgsL [34]).2) = _
  rw [ws0]
  rfl
set_option maxRecDepth 20000 in
theorem ws2 : sgsL [92, 110, 92, 117, 48, 48, 52, 49, 34] = ([10, 65], 8) := by
  rw [sgs_of (c := 10) (n := 2) (by decide +kernel) (by decide)]
  show (10 :: (sgsL [92, 117, 48, 48, 52, 49, 34]).1, 2 + (sgsL [92, 117, 48, 48, 52, 49, 34]).2) = _
  rw [ws1]
  rfl
set_option maxRecDepth 20000 in
theorem ws3 : sgsL [97, 92, 110, 92, 117, 48, 48, 52, 49, 34] = ([97, 10, 65], 9) := by
  rw [sgs_of (c := 97) (n := 1) (by decide +kernel) (by decide)]
  show (97 :: (sgsL [92, 110, 92, 117, 48, 48, 52, 49, 34]).1, 1 + (sgsL [92, 110, 92, 117, 48, 48, 52, 49, 34]).2) = _
  rw [ws2]
  rfl
set_option maxRecDepth 20000 in
theorem wr1 : readV [34, 97, 92, 110, 92, 117, 48, 48, 52, 49, 34] 0 = .tuple #[.string (ofL [97, 10, 65]), .int .i64 11, .int .i64 0] := by
  unfold readV
  rw [if_neg (by decide), if_neg (by decide +kernel)]
  show (let q := 0 + 1 + (sgsL [97, 92, 110, 92, 117, 48, 48, 52, 49, 34]).2; _) = _
  show (let q := 0 + 1 + (sgsL [97, 92, 110, 92, 117, 48, 48, 52, 49, 34]).2
    if q < ([34, 97, 92, 110, 92, 117, 48, 48, 52, 49, 34] : List UInt8).length ∧ at0 [34, 97, 92, 110, 92, 117, 48, 48, 52, 49, 34] q = 34 then Value.tuple #[.string (ofL (textL (sgsL [97, 92, 110, 92, 117, 48, 48, 52, 49, 34]).1)), .int .i64 ((q + 1 : Nat) : Int), .int .i64 0]
    else .tuple #[.string ⟨#[]⟩, .int .i64 (q : Int), .int .i64 (faultN [34, 97, 92, 110, 92, 117, 48, 48, 52, 49, 34] q)]) = _
  rw [ws3]
  simp only
  rw [if_pos (by decide +kernel), show textL [97, 10, 65] = [97, 10, 65] by decide +kernel]
  rfl
set_option maxRecDepth 20000 in
theorem ws4 : sgsL [92, 117, 100, 56, 51, 100, 34] = ([], 0) := sgs_zero (by decide +kernel)
set_option maxRecDepth 20000 in
theorem wr2 : readV [34, 92, 117, 100, 56, 51, 100, 34] 0 = .tuple #[.string ⟨#[]⟩, .int .i64 1, .int .i64 7] := by
  unfold readV
  rw [if_neg (by decide), if_neg (by decide +kernel)]
  show (let q := 0 + 1 + (sgsL [92, 117, 100, 56, 51, 100, 34]).2
    if q < ([34, 92, 117, 100, 56, 51, 100, 34] : List UInt8).length ∧ at0 [34, 92, 117, 100, 56, 51, 100, 34] q = 34 then Value.tuple #[.string (ofL (textL (sgsL [92, 117, 100, 56, 51, 100, 34]).1)), .int .i64 ((q + 1 : Nat) : Int), .int .i64 0]
    else .tuple #[.string ⟨#[]⟩, .int .i64 (q : Int), .int .i64 (faultN [34, 92, 117, 100, 56, 51, 100, 34] q)]) = _
  rw [ws4]
  simp only
  rw [if_neg (by decide +kernel), show faultN [34, 92, 117, 100, 56, 51, 100, 34] (0 + 1 + 0) = 7 by decide +kernel]
  rfl
set_option maxRecDepth 20000 in
theorem wp3 : printR [97, 47, 34, 10, 1, 195, 169] = .tuple #[.string (ofL [34, 97, 47, 92, 34, 92, 110, 92, 117, 48, 48, 48, 49, 195, 169, 34]), .int .i64 0] := by
  have h := pts_of [97, 47, 34, 10, 1, 233] [] [97, 47, 34, 10, 1, 195, 169] (by intro c hc; simp at hc; rcases hc with rfl | rfl | rfl | rfl | rfl | rfl <;> decide) (by decide +kernel) (by decide +kernel)
  unfold printR
  rw [h, if_pos (by decide +kernel), show quoteL [97, 47, 34, 10, 1, 233] = [34, 97, 47, 92, 34, 92, 110, 92, 117, 48, 48, 48, 49, 195, 169, 34] by decide +kernel]
set_option maxRecDepth 20000 in
theorem wv4 : signV [92, 117, 100, 56, 51, 100, 92, 117, 100, 101, 48, 48] 0 = .tuple #[.int .i64 128512, .int .i64 12, .int .i64 0] := by
  rw [sign_yes (l := [92, 117, 100, 56, 51, 100, 92, 117, 100, 101, 48, 48]) (p := 0) (c := 128512) (n := 12) (by decide +kernel) (by decide)]
  rfl
theorem wz5 : qsizeN [255] = 0 := by
  have h := pts_of [] [255] [255] (by intro c hc; simp at hc) (by decide +kernel) (by decide +kernel)
  unfold qsizeN
  rw [h]
  rfl
/-- A call of Read over a row of the call's own. -/
theorem read_new (w : World) (ht : UTab w) (he : ETab w) (l : List UInt8) (C : Array Value) (fr : Nat × Nat) (n : Nat) (x : Int) (p : Nat) (hC : C.toList = l.map bv) (hn : l.length = n) (hx : x = (p : Int)) (hp : p ≤ l.length) (hl : l.length ≤ 1000) (v : Value) (h : readV l p = v) :
    Calls Tryd.prog 16 #[.slice (some ⟨w.heap.size, 0, none⟩) n n, .int .i64 x] (w.alloc (.cells C 5 fr)) fun e w' => e = .returned v ∧ Below w.heap.size w w' := by
  subst hn hx
  have hb := (Below.refl w.heap.size w).alloc (Nat.le_refl _) (.cells C 5 fr)
  refine (read_in _ _ _ _ p l _ (ht.below hb ht.lt) (he.below hb he.lt) (bytes_new w l C 5 fr hC) (by simp) (by omega) (Nat.le_refl _) hp).mono ?_
  rintro e w' ⟨rfl, hb'⟩
  rw [h]
  exact ⟨rfl, hb.trans (hb'.mono hb.size)⟩
theorem sign_new (w : World) (ht : UTab w) (he : ETab w) (l : List UInt8) (C : Array Value) (fr : Nat × Nat) (n : Nat) (x : Int) (p : Nat) (hC : C.toList = l.map bv) (hn : l.length = n) (hx : x = (p : Int)) (hp : p ≤ l.length) (hl : l.length ≤ 1000) (v : Value) (h : signV l p = v) :
    Calls Tryd.prog 12 #[.slice (some ⟨w.heap.size, 0, none⟩) n n, .int .i64 x] (w.alloc (.cells C 5 fr)) fun e w' => e = .returned v ∧ Below w.heap.size w w' := by
  subst hn hx
  have hb := (Below.refl w.heap.size w).alloc (Nat.le_refl _) (.cells C 5 fr)
  refine (sign_in _ _ _ _ p l _ (ht.below hb ht.lt) (he.below hb he.lt) (bytes_new w l C 5 fr hC) (by simp) (by unfold maxLen; omega) (Nat.le_refl _) hp).mono ?_
  rintro e w' ⟨rfl, hb'⟩
  rw [h]
  exact ⟨rfl, hb.trans (hb'.mono hb.size)⟩
set_option maxRecDepth 20000 in
set_option maxHeartbeats 2000000 in
theorem wakes_any (w : World) (ht : UTab w) (he : ETab w) : Calls Tryd.prog 10 #[] w fun e w' => e = .returned (.bool true) ∧ Below w.heap.size w w' := by
  have kc := fun (w : World) (C : Array Value) (n c : Nat) => Lib.run_convert_bytes_const (P := Tryd.prog) w 22 5 C n c Tryd.underlying22 Tryd.underlying5
  have p1 : (ofL [97, 10, 65]).toList = [97, 10, 65] := by rw [ByteArray.toList_eq, ofL_toList]
  have p2 : (ofL [34, 97, 47, 92, 34, 92, 110, 92, 117, 48, 48, 48, 49, 195, 169, 34]).toList = [34, 97, 47, 92, 34, 92, 110, 92, 117, 48, 48, 48, 49, 195, 169, 34] := by rw [ByteArray.toList_eq, ofL_toList]
  have r1 := wr1
  have r3 := wp3
  generalize ofL [97, 10, 65] = S1 at *
  generalize ofL [34, 97, 47, 92, 34, 92, 110, 92, 117, 48, 48, 48, 49, 195, 169, 34] = S2 at *
  have R1 := Lib.hid r1
  have R3 := Lib.hid r3
  clear r1 r3
  go_enter Tryd.func10, Tryd.ntmps10
  go_wp2_with fail
  refine (read_new w ht he [34, 97, 92, 110, 92, 117, 48, 48, 52, 49, 34] #[.int .u8 34, .int .u8 97, .int .u8 92, .int .u8 110, .int .u8 92, .int .u8 117, .int .u8 48, .int .u8 48, .int .u8 52, .int .u8 49, .int .u8 34] _ _ _ 0 rfl rfl rfl (by decide) (by decide) _ R1.out).mono ?_
  rintro e w1 ⟨rfl, hb1⟩
  have t1 := ht.below hb1 ht.lt
  have e1 := he.below hb1 he.lt
  go_wp2_with fail
  refine (read_new w1 t1 e1 [34, 92, 117, 100, 56, 51, 100, 34] #[.int .u8 34, .int .u8 92, .int .u8 117, .int .u8 100, .int .u8 56, .int .u8 51, .int .u8 100, .int .u8 34] _ _ _ 0 rfl rfl rfl (by decide) (by decide) _ wr2).mono ?_
  rintro e w2 ⟨rfl, hb2⟩
  have t2 := t1.below hb2 t1.lt
  have e2 := e1.below hb2 e1.lt
  have hc3 := print_any ⟨#[97, 47, 34, 10, 1, 195, 169]⟩ [97, 47, 34, 10, 1, 195, 169] rfl w2 (by decide) t2 e2
  rw [R3.out] at hc3
  go_wp2_with fail
  refine hc3.mono ?_
  rintro e w3 ⟨rfl, hb3⟩
  have t3 := t2.below hb3 t2.lt
  have e3 := e2.below hb3 e2.lt
  go_wp2_with fail
  refine (sign_new w3 t3 e3 [92, 117, 100, 56, 51, 100, 92, 117, 100, 101, 48, 48] #[.int .u8 92, .int .u8 117, .int .u8 100, .int .u8 56, .int .u8 51, .int .u8 100, .int .u8 92, .int .u8 117, .int .u8 100, .int .u8 101, .int .u8 48, .int .u8 48] _ _ _ 0 rfl rfl rfl (by decide) (by decide) _ wv4).mono ?_
  rintro e w4 ⟨rfl, hb4⟩
  have t4 := t3.below hb4 t3.lt
  have e4 := e3.below hb4 e3.lt
  have hb04 := bel_next hb1 (bel_next hb2 (bel_next hb3 hb4))
  have hs := qsize_any ⟨#[255]⟩ [255] rfl w4 (by decide) t4 e4
  rw [wz5] at hs
  clear hb1 hb2 hb3 hb4 t1 t2 t3 e1 e2 e3 ht he hc3
  go_wp2_with fail
  refine hs.mono ?_
  rintro e w5 ⟨rfl, hb5⟩
  go_wp2
  go_ret
  exact ⟨rfl, bel_next hb04 hb5⟩
end Go.Proofs.YtgnialemiefeeaaDoor
/-
  Layer 2, the reference: Digit, Four, Letter, Wrong.
-/
namespace Go.Proofs.YtgnialemiefeeaaDoor
open Go.RowKit

theorem ret_i {a b : Int} (h : a = b) : Ending.returned (.int .i64 a) = .returned (.int .i64 b) := by rw [h]
/-- The number of a digit, or -1. -/
def digI (c : Nat) : Int := if hexD c < 16 then (hexD c : Int) else -1
theorem digI_yes {c : Nat} (h : hexD c < 16) : digI c = (hexD c : Int) := if_pos h
theorem digI_no {c : Nat} (h : hexD c = 16) : digI c = -1 := if_neg (by omega)
set_option maxRecDepth 20000 in
set_option maxHeartbeats 1000000 in
theorem digit_any (c : Nat) (hc : c < 256) (w : World) :
    Calls Tryd.prog 54 #[.int .u8 (c : Int)] w fun e w' => e = .returned (.int .i64 (digI c)) ∧ w' = w := by
  by_cases c1 : 48 ≤ c ∧ c ≤ 57
  · have HR := Lib.hid (show digI c = (c : Int) - 48 by rw [digI_yes (by unfold hexD; rw [if_pos c1]; omega)]; unfold hexD; rw [if_pos c1]; omega)
    have b1 : (48 : Int) ≤ c := by omega
    have b2 : (c : Int) ≤ 57 := by omega
    clear c1
    go_enter Tryd.func54, Tryd.ntmps54
    go_wp2
    go_ret
    exact ⟨ret_i (by rw [HR.out]), rfl⟩
  · by_cases c2 : 97 ≤ c ∧ c ≤ 102
    · have HR := Lib.hid (show digI c = (c : Int) - 97 + 10 by rw [digI_yes (by unfold hexD; rw [if_neg c1, if_pos c2]; omega)]; unfold hexD; rw [if_neg c1, if_pos c2]; omega)
      have b0 : (48 : Int) ≤ c := by omega
      have b1 : ((c : Int) ≤ 57) = False := by simp; omega
      have b2 : (97 : Int) ≤ c := by omega
      have b3 : (c : Int) ≤ 102 := by omega
      clear c1 c2
      go_enter Tryd.func54, Tryd.ntmps54
      go_wp2
      go_ret
      exact ⟨ret_i (by rw [HR.out]), rfl⟩
    · by_cases c3 : 65 ≤ c ∧ c ≤ 70
      · have HR := Lib.hid (show digI c = (c : Int) - 65 + 10 by rw [digI_yes (by unfold hexD; rw [if_neg c1, if_neg c2, if_pos c3]; omega)]; unfold hexD; rw [if_neg c1, if_neg c2, if_pos c3]; omega)
        have b0 : (48 : Int) ≤ c := by omega
        have b1 : ((c : Int) ≤ 57) = False := by simp; omega
        have b2 : ((97 : Int) ≤ c) = False := by simp; omega
        have b3 : (65 : Int) ≤ c := by omega
        have b4 : (c : Int) ≤ 70 := by omega
        clear c1 c2 c3
        go_enter Tryd.func54, Tryd.ntmps54
        go_wp2
        go_ret
        exact ⟨ret_i (by rw [HR.out]), rfl⟩
      · have HR := Lib.hid (show digI c = -1 from digI_no (by unfold hexD; rw [if_neg c1, if_neg c2, if_neg c3]))
        have Hc : c < 48 ∨ (57 < c ∧ c < 65) ∨ (70 < c ∧ c < 97) ∨ 102 < c := by omega
        clear c1 c2 c3
        rcases Hc with h1 | ⟨h1, h2⟩ | ⟨h1, h2⟩ | h1
        · have k0 : ((48 : Int) ≤ c) = False := by simp; omega
          have k1 : ((97 : Int) ≤ c) = False := by simp; omega
          have k2 : ((65 : Int) ≤ c) = False := by simp; omega
          go_enter Tryd.func54, Tryd.ntmps54
          go_wp2
          go_ret
          exact ⟨ret_i (by rw [HR.out]), rfl⟩
        · have k0 : (48 : Int) ≤ c := by omega
          have k1 : ((c : Int) ≤ 57) = False := by simp; omega
          have k2 : ((97 : Int) ≤ c) = False := by simp; omega
          have k3 : ((65 : Int) ≤ c) = False := by simp; omega
          go_enter Tryd.func54, Tryd.ntmps54
          go_wp2
          go_ret
          exact ⟨ret_i (by rw [HR.out]), rfl⟩
        · have k0 : (48 : Int) ≤ c := by omega
          have k1 : ((c : Int) ≤ 57) = False := by simp; omega
          have k2 : ((97 : Int) ≤ c) = False := by simp; omega
          have k3 : (65 : Int) ≤ c := by omega
          have k4 : ((c : Int) ≤ 70) = False := by simp; omega
          go_enter Tryd.func54, Tryd.ntmps54
          go_wp2
          go_ret
          exact ⟨ret_i (by rw [HR.out]), rfl⟩
        · have k0 : (48 : Int) ≤ c := by omega
          have k1 : ((c : Int) ≤ 57) = False := by simp; omega
          have k2 : (97 : Int) ≤ c := by omega
          have k3 : ((c : Int) ≤ 102) = False := by simp; omega
          have k4 : (65 : Int) ≤ c := by omega
          have k5 : ((c : Int) ≤ 70) = False := by simp; omega
          go_enter Tryd.func54, Tryd.ntmps54
          go_wp2
          go_ret
          exact ⟨ret_i (by rw [HR.out]), rfl⟩

set_option maxRecDepth 20000 in
set_option maxHeartbeats 1000000 in
theorem wrong_any (A : Option Addr) (m c0 B p : Nat) (l : List UInt8) (w : World) (hl : Bytes w B A m l) (hm : m ≤ maxLen) (hp : p ≤ m) :
    Calls Tryd.prog 15 #[.slice A m c0, .int .i64 p] w fun e w' => e = .returned (.int .i64 (faultN l p)) ∧ w' = w := by
  unfold maxLen at hm
  have hp0 : (0 : Int) ≤ p := by omega
  by_cases h : p = m
  · have HR := Lib.hid (show faultN l p = 6 from if_pos (by rw [hl.len]; omega))
    subst h
    clear hl
    go_enter Tryd.func15, Tryd.ntmps15
    go_wp2
    go_ret
    exact ⟨ret_i (by rw [HR.out]), rfl⟩
  · have hn : ¬ l.length ≤ p := by rw [hl.len]; omega
    have h' : ((p : Int) == (m : Int)) = false := by rw [beq_eq_false_iff_ne]; omega
    have h3 : (p : Int) < m := by omega
    obtain ⟨b, off, rfl, hbB, hc0⟩ := hl.cell (k := p) (by omega)
    rw [show at8 l p = ((at0 l p : Nat) : Int) from rfl] at hc0
    have hx0 := at0_lt l p
    by_cases hc : 128 ≤ at0 l p
    · have HR := Lib.hid (show faultN l p = 110 by unfold faultN; rw [if_neg hn, if_pos hc])
      clear hl hn h
      generalize at0 l p = x at *
      have hc' : (128 : Int) ≤ x := by omega
      go_enter Tryd.func15, Tryd.ntmps15
      go_wp2
      go_ret
      exact ⟨ret_i (by rw [HR.out]), rfl⟩
    · have HR := Lib.hid (show faultN l p = 7 by unfold faultN; rw [if_neg hn, if_neg hc])
      clear hl hn h
      generalize at0 l p = x at *
      have hc' : ((128 : Int) ≤ x) = False := by simp; omega
      go_enter Tryd.func15, Tryd.ntmps15
      go_wp2
      go_ret
      exact ⟨ret_i (by rw [HR.out]), rfl⟩
end Go.Proofs.YtgnialemiefeeaaDoor
/-
  Layer 2, the reference: Letter, Four.
-/
namespace Go.Proofs.YtgnialemiefeeaaDoor
open Go.RowKit

set_option maxRecDepth 20000 in
theorem index_sig (k : Nat) (hk : k < 8) : ∀ w, (Instr.index 9 (.string ⟨#[34, 92, 47, 98, 102, 110, 114, 116]⟩) (.int .i64 (k : Int))).run Tryd.prog w = .ok (.int .u8 (el k)) w := by
  match k, hk with
  | 0, _ => exact fun _ => by kernel_rfl
  | 1, _ => exact fun _ => by kernel_rfl
  | 2, _ => exact fun _ => by kernel_rfl
  | 3, _ => exact fun _ => by kernel_rfl
  | 4, _ => exact fun _ => by kernel_rfl
  | 5, _ => exact fun _ => by kernel_rfl
  | 6, _ => exact fun _ => by kernel_rfl
  | 7, _ => exact fun _ => by kernel_rfl
def saysV : Array Value := #[.int .i64 34, .int .i64 92, .int .i64 47, .int .i64 8, .int .i64 12, .int .i64 10, .int .i64 13, .int .i64 9]
theorem says_at (k : Nat) (hk : k < 8) : saysV.toList[k]? = some (.int .i64 (ec k)) := by
  match k, hk with
  | 0, _ => rfl
  | 1, _ => rfl
  | 2, _ => rfl
  | 3, _ => rfl
  | 4, _ => rfl
  | 5, _ => rfl
  | 6, _ => rfl
  | 7, _ => rfl
set_option maxRecDepth 20000 in
set_option maxHeartbeats 1000000 in
theorem letter_any (c : Nat) (w : World) :
    Calls Tryd.prog 34 #[.int .u8 (c : Int)] w fun e w' => e = .returned (.int .i64 (optI (letL c))) ∧ Below w.heap.size w w' := by
  have hb := (Below.refl w.heap.size w).alloc (Nat.le_refl _) (.cells saysV 3)
  have hsv : ∀ k, k < 8 → (w.alloc (.cells saysV 3)).cell? ⟨w.heap.size, k, none⟩ = some (.int .i64 (ec k)) := fun k hk => (Box.new w saysV 3 k _ (says_at k hk)).1
  unfold saysV at hb hsv
  go_enter Tryd.func34, Tryd.ntmps34
  go_wp2
  go_loop [5] (fun i => ∃ k : Nat, k ≤ 8 ∧ i = .int .i64 k ∧ (∀ j, j < k → el j ≠ c)) (fun i => 8 - (intOf i).toNat)
  case atStart => exact ⟨0, by omega, rfl, fun j hj => by omega⟩
  case round =>
    obtain ⟨k, hk, rfl, hP⟩ := hrel
    by_cases hlt : k < 8
    · have hk4 : (k : Int) < 8 := by omega
      have hk0 : (0 : Int) ≤ k := by omega
      have hidx := index_sig k hlt
      have hcl := hsv k hlt
      by_cases hq : el k = c
      · have HR := Lib.hid (show letL c = some (ec k) by rw [← hq]; exact el_yes hlt)
        have hq' : ((el k : Int) == (c : Int)) = true := by rw [hq]; simp
        clear hP hq hlt hsv
        generalize el k = x0 at *
        generalize ec k = x1 at *
        go_wp2
        go_ret
        exact ⟨by rw [HR.out]; rfl, hb⟩
      · have HP := Lib.hid (show ∀ j, j < k + 1 → el j ≠ c from fun j hj => if e : j = k then e ▸ hq else hP j (by omega))
        have hq' : ((el k : Int) == (c : Int)) = false := by rw [beq_eq_false_iff_ne]; omega
        clear hP hq hlt hsv
        generalize el k = x0 at *
        generalize ec k = x1 at *
        go_wp2
        go_round
        case rel => exact ⟨k + 1, by omega, by go_num, HP.out⟩
        case measure => simp [intOf]; omega
    · have HR := Lib.hid (el_no (x := c) (fun j hj => hP j (by omega)))
      have hk8 : k = 8 := by omega
      subst hk8
      clear hP hlt hsv
      go_wp2
      go_ret
      exact ⟨by rw [HR.out]; rfl, hb⟩

theorem hx_step (l : List UInt8) (k : Nat) (h : 2 ≤ k) : hx (l.drop 2) (k + 1 - 2) = hx (l.drop 2) (k - 2) * 16 + hexD (at0 l k) := by
  obtain ⟨j, rfl⟩ : ∃ j, k = j + 2 := ⟨k - 2, by omega⟩
  rw [show j + 2 + 1 - 2 = j + 1 by omega, show j + 2 - 2 = j by omega]
  show hx (l.drop 2) j * 16 + hexD (at0 (l.drop 2) j) = _
  rw [at0_drop, Nat.add_comm 2 j]
set_option maxRecDepth 20000 in
set_option maxHeartbeats 1000000 in
theorem four_any (A : Option Addr) (m c0 B : Nat) (l : List UInt8) (w : World) (hl : Bytes w B A m l) (hm : m ≤ maxLen) :
    Calls Tryd.prog 35 #[.slice A m c0] w fun e w' => e = .returned (.int .i64 (optI (fourL l))) ∧ w' = w := by
  unfold maxLen at hm
  have hlen := Lib.hid hl.len
  by_cases h6 : m < 6
  · have HR := Lib.hid (show fourL l = none by
      unfold fourL
      split
      · exact hex_short (by rw [List.length_drop, hlen.out]; omega)
      · rfl)
    have h6' : (m : Int) < 6 := by omega
    clear hl
    go_enter Tryd.func35, Tryd.ntmps35
    go_wp2
    go_ret
    exact ⟨by rw [HR.out]; rfl, rfl⟩
  · have h6' : ((m : Int) < 6) = False := by simp; omega
    obtain ⟨b, off, rfl, hbB, _⟩ := hl.cell (k := 0) (by omega)
    have hcell : ∀ (j : Nat), j < m → w.cell? ⟨b, off + j, none⟩ = some (.int .u8 (at0 l j : Nat)) := fun j hj => by
      obtain ⟨b', off', e, _, hc⟩ := hl.cell hj
      injection e with e
      injection e with e1 e2
      subst e1; subst e2
      exact hc
    have hc0 := hcell 0 (by omega)
    have hc1 := hcell 1 (by omega)
    rw [Nat.add_zero] at hc0
    have hx0 := at0_lt l 0
    have hx1 := at0_lt l 1
    by_cases hc : at0 l 0 = 92 ∧ at0 l 1 = 117
    · have Hf := Lib.hid (show fourL l = hexL (l.drop 2) from if_pos ⟨by rw [hlen.out]; omega, hc⟩)
      have hdl : 4 ≤ (l.drop 2).length := by rw [List.length_drop, hlen.out]; omega
      rw [hc.1] at hc0
      rw [hc.2] at hc1
      have hm6 : (6 : Int) ≤ m := by omega
      clear hc hx0 hx1 hl hbB
      go_enter Tryd.func35, Tryd.ntmps35
      go_wp2
      clear hc0 hc1
      go_loop [3, 4] (fun n i => ∃ k : Nat, 2 ≤ k ∧ k ≤ 6 ∧ i = .int .i64 k ∧ n = .int .i64 (hx (l.drop 2) (k - 2) : Nat) ∧ (∀ q, q < k - 2 → hexD (at0 (l.drop 2) q) < 16)) (fun _ i => 8 - (intOf i).toNat)
      case atStart => exact ⟨2, by omega, by omega, rfl, rfl, fun q h => by omega⟩
      case round =>
        obtain ⟨k, hk2, hk, rfl, rfl, hq⟩ := hrel
        have Hlt := Lib.hid (hx_lt (l.drop 2) (k - 2) hq (by omega))
        by_cases hk6 : k < 6
        · have hk6' : (k : Int) < 6 := by omega
          have hk0 : (0 : Int) ≤ k := by omega
          have hkm : (k : Int) < m := by omega
          have hck := hcell k (by omega)
          have hxk := at0_lt l k
          have hcall := fun W => digit_any (at0 l k) hxk W
          have Hstep := Lib.hid (hx_step l k hk2)
          have hd2 : at0 (l.drop 2) (k - 2) = at0 l k := by rw [at0_drop]; congr 1; omega
          have Hin := Lib.hid (fun h : hexD (at0 l k) < 16 => show ∀ q, q < k + 1 - 2 → hexD (at0 (l.drop 2) q) < 16 from fun q h2 => if e : q = k - 2 then by rw [e, hd2]; exact h else hq q (by omega))
          have Hno := Lib.hid (fun h : hexD (at0 l k) = 16 => hex_no (l := l.drop 2) (k - 2) (by omega) (by rw [hd2]; exact h))
          have hle := hexD_le (at0 l k)
          clear hq hd2 hcell
          generalize hx (l.drop 2) (k - 2) = h at *
          by_cases c : hexD (at0 l k) < 16
          · have Hin' := Lib.hid (Hin.out c)
            rw [digI_yes c] at hcall
            have hlt := Hlt.out
            clear Hin Hno hle
            generalize hexD (at0 l k) = d at *
            generalize at0 l k = x at *
            have hd0 : ((d : Int) < 0) = False := by simp
            go_wp2_with fail
            refine (hcall _).mono ?_
            rintro e w1 ⟨rfl, rfl⟩
            go_wp2_with fail
            refine (hcall _).mono ?_
            rintro e w1 ⟨rfl, rfl⟩
            go_wp2
            go_round
            case rel => exact ⟨k + 1, by omega, by omega, by go_num, by rw [Hstep.out]; go_num, Hin'.out⟩
            case measure => simp [intOf]; omega
          · have c16 : hexD (at0 l k) = 16 := by omega
            have HR := Lib.hid (Hno.out c16)
            rw [digI_no c16] at hcall
            clear Hin Hno hle c c16 Hstep
            generalize at0 l k = x at *
            go_wp2_with fail
            refine (hcall _).mono ?_
            rintro e w1 ⟨rfl, rfl⟩
            go_wp2
            go_ret
            exact ⟨by rw [Hf.out, HR.out]; rfl, rfl⟩
        · have hjs' : k = 6 := by omega
          subst hjs'
          have HR := Lib.hid (hex_yes (l := l.drop 2) hdl hq)
          clear hq hcell
          go_wp2
          go_ret
          exact ⟨by rw [Hf.out, HR.out]; rfl, rfl⟩
    · have HR := Lib.hid (show fourL l = none from if_neg fun h => hc h.2)
      clear hl hbB hcell
      generalize at0 l 0 = x at *
      generalize at0 l 1 = y at *
      by_cases hx : x = 92
      · subst hx
        have hy : ((y : Int) == 117) = false := by rw [beq_eq_false_iff_ne]; omega
        clear hc
        go_enter Tryd.func35, Tryd.ntmps35
        go_wp2
        go_ret
        exact ⟨by rw [HR.out]; rfl, rfl⟩
      · have hy : ((x : Int) == 92) = false := by rw [beq_eq_false_iff_ne]; omega
        clear hc hx
        go_enter Tryd.func35, Tryd.ntmps35
        go_wp2
        go_ret
        exact ⟨by rw [HR.out]; rfl, rfl⟩
end Go.Proofs.YtgnialemiefeeaaDoor
/-
  Layer 1, the reference: Is, Bytes, Starts.
-/
namespace Go.Proofs.YtgnialemiefeeaaDoor
open Go.RowKit

set_option maxRecDepth 20000 in
theorem is_any (n : Int) (w : World) : Calls Tryd.prog 36 #[.int .i64 n] w fun e w' => e = .returned (.bool (isCp n)) ∧ w' = w := by
  by_cases h0 : 0 ≤ n
  · by_cases h1 : n ≤ 1114111
    · by_cases h2 : 55296 ≤ n
      · by_cases h3 : n ≤ 57343
        · have h : isCp n = false := by unfold isCp; simp; omega
          rw [h]
          go_enter Tryd.func36, Tryd.ntmps36
          go_wp2
          go_ret
          exact ⟨rfl, rfl⟩
        · have h : isCp n = true := by unfold isCp; simp; omega
          rw [h]
          go_enter Tryd.func36, Tryd.ntmps36
          go_wp2
          go_ret
          exact ⟨rfl, rfl⟩
      · have h : isCp n = true := by unfold isCp; simp; omega
        rw [h]
        go_enter Tryd.func36, Tryd.ntmps36
        go_wp2
        go_ret
        exact ⟨rfl, rfl⟩
    · have h : isCp n = false := by unfold isCp; simp; omega
      rw [h]
      go_enter Tryd.func36, Tryd.ntmps36
      go_wp2
      go_ret
      exact ⟨rfl, rfl⟩
  · have h : isCp n = false := by unfold isCp; simp; omega
    rw [h]
    go_enter Tryd.func36, Tryd.ntmps36
    go_wp2
    go_ret
    exact ⟨rfl, rfl⟩

theorem gives_new (w : World) (l : List UInt8) (C : Array Value) (hC : C.toList = l.map bv) (hl : l.length ≤ 1000) :
    (w.alloc (.cells C 5)).ownsRow w.heap.size 5 1 (.slice (some ⟨w.heap.size, 0, none⟩) l.length l.length) l.length (l.map bv) := by
  have hs : C.size = l.length := by rw [← Array.length_toList, hC]; simp
  have h := own_made (base := w.heap.size) (e := 5) (size := 1) w C l.length l.length (Nat.le_refl _) (Nat.le_refl _) (by unfold maxLen; omega) (by rw [hs, Nat.mul_one])
  rw [hC, List.take_of_length_le (by simp)] at h
  exact h
theorem bv_b8 (n : Nat) (h : n < 256) : bv (b8 n) = .int .u8 (n : Int) := by unfold bv; rw [b8_toNat n h]
set_option maxRecDepth 20000 in
set_option maxHeartbeats 1000000 in
theorem bytes_any (c : Nat) (hc : c ≤ 1114111) (w : World) : Calls Tryd.prog 40 #[.int .i64 (c : Int)] w (GivesBytes 5 (encL c) w) := by
  rcases (show c < 128 ∨ (128 ≤ c ∧ c < 2048) ∨ (2048 ≤ c ∧ c < 65536) ∨ 65536 ≤ c by omega) with h1 | ⟨h1, h2⟩ | ⟨h1, h2⟩ | h1
  · have e : (encL c).map bv = [.int .u8 ((c : Nat) : Int)] := by
      have e0 : encL c = [b8 (c)] := by unfold encL; rw [if_pos h1]
      rw [e0]
      show [bv (b8 (c))] = _
      rw [bv_b8 (c) (by omega)]
    have hn : (encL c).length = 1 := by have := congrArg List.length e; simpa using this
    have g := gives_new w (encL c) #[.int .u8 ((c : Nat) : Int)] (by rw [e]) (by omega)
    rw [hn] at g
    have k0 : (c : Int) < 128 := by omega
    have n0 : (0 : Int) ≤ (c : Int) := by omega
    have n1 : (c : Int) ≤ 1114111 := by omega
    have G := Lib.hid g
    clear e g hn h1 hc
    generalize (c : Int) = n at *
    go_enter Tryd.func40, Tryd.ntmps40
    go_wp2
    go_ret
    exact ⟨_, _, _, rfl, G.out, (Below.refl _ _).alloc (Nat.le_refl _) _⟩
  · have e : (encL c).map bv = [.int .u8 ((192 + c / 64 : Nat) : Int), .int .u8 ((128 + c % 64 : Nat) : Int)] := by
      have e0 : encL c = [b8 (192 + c / 64), b8 (128 + c % 64)] := by unfold encL; rw [if_neg (by omega), if_pos h2]
      rw [e0]
      show [bv (b8 (192 + c / 64)), bv (b8 (128 + c % 64))] = _
      rw [bv_b8 (192 + c / 64) (by omega), bv_b8 (128 + c % 64) (by omega)]
    have hn : (encL c).length = 2 := by have := congrArg List.length e; simpa using this
    have g := gives_new w (encL c) #[.int .u8 ((192 + c / 64 : Nat) : Int), .int .u8 ((128 + c % 64 : Nat) : Int)] (by rw [e]) (by omega)
    rw [hn] at g
    rw [show ((192 + c / 64 : Nat) : Int) = 192 + (c : Int) / 64 from by omega, show ((128 + c % 64 : Nat) : Int) = 128 + (c : Int) % 64 from by omega] at g
    have k0 : ¬ (c : Int) < 128 := by omega
    have k1 : (c : Int) < 2048 := by omega
    have n0 : (0 : Int) ≤ (c : Int) := by omega
    have n1 : (c : Int) ≤ 1114111 := by omega
    have G := Lib.hid g
    clear e g hn h1 hc h2
    generalize (c : Int) = n at *
    go_enter Tryd.func40, Tryd.ntmps40
    go_wp2
    go_ret
    exact ⟨_, _, _, rfl, G.out, (Below.refl _ _).alloc (Nat.le_refl _) _⟩
  · have e : (encL c).map bv = [.int .u8 ((224 + c / 4096 : Nat) : Int), .int .u8 ((128 + c / 64 % 64 : Nat) : Int), .int .u8 ((128 + c % 64 : Nat) : Int)] := by
      have e0 : encL c = [b8 (224 + c / 4096), b8 (128 + c / 64 % 64), b8 (128 + c % 64)] := by unfold encL; rw [if_neg (by omega), if_neg (by omega), if_pos h2]
      rw [e0]
      show [bv (b8 (224 + c / 4096)), bv (b8 (128 + c / 64 % 64)), bv (b8 (128 + c % 64))] = _
      rw [bv_b8 (224 + c / 4096) (by omega), bv_b8 (128 + c / 64 % 64) (by omega), bv_b8 (128 + c % 64) (by omega)]
    have hn : (encL c).length = 3 := by have := congrArg List.length e; simpa using this
    have g := gives_new w (encL c) #[.int .u8 ((224 + c / 4096 : Nat) : Int), .int .u8 ((128 + c / 64 % 64 : Nat) : Int), .int .u8 ((128 + c % 64 : Nat) : Int)] (by rw [e]) (by omega)
    rw [hn] at g
    rw [show ((224 + c / 4096 : Nat) : Int) = 224 + (c : Int) / 4096 from by omega, show ((128 + c / 64 % 64 : Nat) : Int) = 128 + (c : Int) / 64 % 64 from by omega, show ((128 + c % 64 : Nat) : Int) = 128 + (c : Int) % 64 from by omega] at g
    have k0 : ¬ (c : Int) < 128 := by omega
    have k1 : ¬ (c : Int) < 2048 := by omega
    have k2 : (c : Int) < 65536 := by omega
    have n0 : (0 : Int) ≤ (c : Int) := by omega
    have n1 : (c : Int) ≤ 1114111 := by omega
    have G := Lib.hid g
    clear e g hn h1 hc h2
    generalize (c : Int) = n at *
    go_enter Tryd.func40, Tryd.ntmps40
    go_wp2
    go_ret
    exact ⟨_, _, _, rfl, G.out, (Below.refl _ _).alloc (Nat.le_refl _) _⟩
  · have e : (encL c).map bv = [.int .u8 ((240 + c / 262144 : Nat) : Int), .int .u8 ((128 + c / 4096 % 64 : Nat) : Int), .int .u8 ((128 + c / 64 % 64 : Nat) : Int), .int .u8 ((128 + c % 64 : Nat) : Int)] := by
      have e0 : encL c = [b8 (240 + c / 262144), b8 (128 + c / 4096 % 64), b8 (128 + c / 64 % 64), b8 (128 + c % 64)] := by unfold encL; rw [if_neg (by omega), if_neg (by omega), if_neg (by omega)]
      rw [e0]
      show [bv (b8 (240 + c / 262144)), bv (b8 (128 + c / 4096 % 64)), bv (b8 (128 + c / 64 % 64)), bv (b8 (128 + c % 64))] = _
      rw [bv_b8 (240 + c / 262144) (by omega), bv_b8 (128 + c / 4096 % 64) (by omega), bv_b8 (128 + c / 64 % 64) (by omega), bv_b8 (128 + c % 64) (by omega)]
    have hn : (encL c).length = 4 := by have := congrArg List.length e; simpa using this
    have g := gives_new w (encL c) #[.int .u8 ((240 + c / 262144 : Nat) : Int), .int .u8 ((128 + c / 4096 % 64 : Nat) : Int), .int .u8 ((128 + c / 64 % 64 : Nat) : Int), .int .u8 ((128 + c % 64 : Nat) : Int)] (by rw [e]) (by omega)
    rw [hn] at g
    rw [show ((240 + c / 262144 : Nat) : Int) = 240 + (c : Int) / 262144 from by omega, show ((128 + c / 4096 % 64 : Nat) : Int) = 128 + (c : Int) / 4096 % 64 from by omega, show ((128 + c / 64 % 64 : Nat) : Int) = 128 + (c : Int) / 64 % 64 from by omega, show ((128 + c % 64 : Nat) : Int) = 128 + (c : Int) % 64 from by omega] at g
    have k0 : ¬ (c : Int) < 128 := by omega
    have k1 : ¬ (c : Int) < 2048 := by omega
    have k2 : ¬ (c : Int) < 65536 := by omega
    have n0 : (0 : Int) ≤ (c : Int) := by omega
    have n1 : (c : Int) ≤ 1114111 := by omega
    have G := Lib.hid g
    clear e g hn h1 hc
    generalize (c : Int) = n at *
    go_enter Tryd.func40, Tryd.ntmps40
    go_wp2
    go_ret
    exact ⟨_, _, _, rfl, G.out, (Below.refl _ _).alloc (Nat.le_refl _) _⟩
end Go.Proofs.YtgnialemiefeeaaDoor
namespace Go.Proofs.YtgnialemiefeeaaDoor
open Go.RowKit

def sameB (l1 l2 : List UInt8) : Bool := decide (l1 = l2)

set_option maxRecDepth 20000 in
set_option maxHeartbeats 1000000 in
theorem equal_any (A1 A2 : Option Addr) (n1 c1 n2 c2 : Nat) (l1 l2 : List UInt8) (B1 B2 : Nat) (w : World) (h1 : Bytes w B1 A1 n1 l1) (h2 : Bytes w B2 A2 n2 l2) (hm1 : n1 ≤ maxLen) (hm2 : n2 ≤ maxLen) :
    Calls Tryd.prog 13 #[.slice A1 n1 c1, .slice A2 n2 c2] w fun e w' => e = .returned (.bool (sameB l1 l2)) ∧ ∃ k, w' = w.drewN k := by
  unfold maxLen at hm1 hm2
  by_cases hn : n1 = n2
  · subst hn
    go_enter Tryd.func13, Tryd.ntmps13
    go_wp2
    go_loopw [13] (fun i wr => ∃ k : Nat, k ≤ n1 ∧ i = .int .i64 k ∧ l1.take k = l2.take k ∧ ∃ m, wr = w.drewN m) (fun i _ => n1 - (intOf i).toNat)
    case atStart => exact ⟨0, Nat.zero_le _, rfl, rfl, 0, rfl⟩
    case round =>
      obtain ⟨k, hk, rfl, ht, m, rfl⟩ := hrel
      by_cases hlt : k < n1
      · obtain ⟨b1, o1, rfl, _, hc1⟩ := h1.cell hlt
        obtain ⟨b2, o2, rfl, _, hc2⟩ := h2.cell hlt
        have hl1 : k < l1.length := by have := h1.len; omega
        have hl2 : k < l2.length := by have := h2.len; omega
        have t1 : l1.take (k + 1) = l1.take k ++ [l1.getD k 0] := take_snoc l1 k hl1
        have t2 : l2.take (k + 1) = l2.take k ++ [l2.getD k 0] := take_snoc l2 k hl2
        have g1 := at8_lo l1 k
        have g2 := at8_hi l1 k
        have g3 := at8_lo l2 k
        have g4 := at8_hi l2 k
        by_cases hx : at8 l1 k = at8 l2 k
        · have hb : (at8 l1 k != at8 l2 k) = false := by rw [hx]; simp
          have ht' := Lib.hid (show l1.take (k + 1) = l2.take (k + 1) by rw [t1, t2, ht, at8_inj hx])
          clear ht hx t1 t2
          go_wp2
          go_quiet (fail)
          go_wp2
          go_roundw
          case rel => exact ⟨k + 1, by omega, by go_num, ht'.out, _, rfl⟩
          case measure => simp [intOf]; omega
        · have hb : (at8 l1 k != at8 l2 k) = true := bne_iff_ne.2 hx
          have hs := Lib.hid (show sameB l1 l2 = false by
            unfold sameB
            apply decide_eq_false
            intro h
            exact hx (by rw [h]))
          clear ht hx t1 t2
          go_wp2
          go_quiet (fail)
          go_wp2
          go_ret
          exact ⟨by rw [hs.out]; rfl, _, World.drewN_drewN _ _ _⟩
      · have hk' : k = n1 := by omega
        have hs := Lib.hid (show sameB l1 l2 = true by
          unfold sameB
          apply decide_eq_true
          have e1 := h1.len
          have e2 := h2.len
          rw [hk', List.take_of_length_le (by omega), List.take_of_length_le (by omega)] at ht
          exact ht)
        clear hk' ht
        go_wp2
        go_ret
        exact ⟨by rw [hs.out]; rfl, _, rfl⟩
  · have hne : ((n1 : Int) != (n2 : Int)) = true := by rw [bne_iff_ne]; omega
    have hl1 := h1.len
    have hl2 := h2.len
    have hs : sameB l1 l2 = false := by
      unfold sameB
      apply decide_eq_false
      intro h
      subst h
      omega
    rw [hs]
    clear hl1 hl2 hs
    go_enter Tryd.func13, Tryd.ntmps13
    go_wp2
    go_ret
    exact ⟨rfl, 0, rfl⟩
end Go.Proofs.YtgnialemiefeeaaDoor
/-
  Layer 1, the reference: Starts; what Begin makes of k bytes, plain.
-/
namespace Go.Proofs.YtgnialemiefeeaaDoor
open Go.RowKit

def startsL (l pre : List UInt8) : Bool := decide (pre = l.take pre.length)
set_option maxRecDepth 20000 in
set_option maxHeartbeats 1000000 in
theorem refStarts_any (A1 A2 : Option Addr) (n1 c1 n2 c2 : Nat) (l1 l2 : List UInt8) (B1 B2 : Nat) (w : World) (h1 : Bytes w B1 A1 n1 l1) (h2 : Bytes w B2 A2 n2 l2) (hm1 : n1 ≤ maxLen) :
    Calls Tryd.prog 55 #[.slice A1 n1 c1, .slice A2 n2 c2] w fun e w' => e = .returned (.bool (startsL l1 l2)) ∧ ∃ k, w' = w.drewN k := by
  unfold maxLen at hm1
  by_cases hn : n2 ≤ n1
  · have hn' : ¬ (n1 : Int) < (n2 : Int) := by omega
    have hn2 : (n2 : Int) ≤ (n1 : Int) := by omega
    go_enter Tryd.func55, Tryd.ntmps55
    go_wp2
    go_loopw [5] (fun i wr => ∃ k : Nat, k ≤ n2 ∧ i = .int .i64 k ∧ l1.take k = l2.take k ∧ ∃ m, wr = w.drewN m) (fun i _ => n2 - (intOf i).toNat)
    case atStart => exact ⟨0, Nat.zero_le _, rfl, rfl, 0, rfl⟩
    case round =>
      obtain ⟨k, hk, rfl, ht, m, rfl⟩ := hrel
      by_cases hlt : k < n2
      · obtain ⟨b1, o1, rfl, _, hc1⟩ := h1.cell (k := k) (by omega)
        obtain ⟨b2, o2, rfl, _, hc2⟩ := h2.cell hlt
        have hl1 : k < l1.length := by have := h1.len; omega
        have hl2 : k < l2.length := by have := h2.len; omega
        have t1 : l1.take (k + 1) = l1.take k ++ [l1.getD k 0] := take_snoc l1 k hl1
        have t2 : l2.take (k + 1) = l2.take k ++ [l2.getD k 0] := take_snoc l2 k hl2
        have g1 := at8_lo l1 k
        have g2 := at8_hi l1 k
        have g3 := at8_lo l2 k
        have g4 := at8_hi l2 k
        have hk1 : (k : Int) < (n1 : Int) := by omega
        have hk2 : (k : Int) < (n2 : Int) := by omega
        by_cases hx : at8 l1 k = at8 l2 k
        · have hb : (at8 l1 k != at8 l2 k) = false := by rw [hx]; simp
          have ht' := Lib.hid (show l1.take (k + 1) = l2.take (k + 1) by rw [t1, t2, ht, at8_inj hx])
          clear ht hx t1 t2
          go_wp2
          go_quiet (fail)
          go_wp2
          go_roundw
          case rel => exact ⟨k + 1, by omega, by go_num, ht'.out, _, rfl⟩
          case measure => simp [intOf]; omega
        · have hb : (at8 l1 k != at8 l2 k) = true := bne_iff_ne.2 hx
          have hs := Lib.hid (show startsL l1 l2 = false by
            unfold startsL
            apply decide_eq_false
            intro h
            apply hx
            have h' : l2.getD k 0 = l1.getD k 0 := by
              have h0 : l2.getD k 0 = (l1.take l2.length).getD k 0 := by rw [← h]
              rw [h0, List.getD_eq_getElem?_getD, List.getElem?_take, if_pos (by omega), ← List.getD_eq_getElem?_getD]
            unfold at8
            rw [h'])
          clear ht hx t1 t2
          go_wp2
          go_quiet (fail)
          go_wp2
          go_ret
          exact ⟨by rw [hs.out]; rfl, _, World.drewN_drewN _ _ _⟩
      · have hk' : k = n2 := by omega
        have hs := Lib.hid (show startsL l1 l2 = true by
          unfold startsL
          apply decide_eq_true
          have e2 := h2.len
          rw [hk', List.take_of_length_le (l := l2) (by omega)] at ht
          rw [e2]
          exact ht.symm)
        clear hk' ht
        go_wp2
        go_ret
        exact ⟨by rw [hs.out]; rfl, _, rfl⟩
  · have hn' : (n1 : Int) < (n2 : Int) := by omega
    have hs : startsL l1 l2 = false := by
      unfold startsL
      apply decide_eq_false
      intro h
      have := congrArg List.length h
      have e1 := h1.len
      have e2 := h2.len
      rw [List.length_take] at this
      omega
    rw [hs]
    go_enter Tryd.func55, Tryd.ntmps55
    go_wp2
    go_ret
    exact ⟨rfl, 0, rfl⟩

/-- The modulus of the first of k bytes. -/
def mod1 : Nat → Nat | 2 => 32 | 3 => 16 | 4 => 8 | _ => 1000
/-- The number that j of k bytes give. -/
def partB (l : List UInt8) (k : Nat) : Nat → Nat
  | 0 => 0
  | 1 => if k = 1 then (l.getD 0 0).toNat else (l.getD 0 0).toNat % mod1 k
  | j + 2 => partB l k (j + 1) * 64 + (l.getD (j + 1) 0).toNat % 64
theorem partB_succ (l : List UInt8) (k j : Nat) (h : 1 ≤ j) : partB l k (j + 1) = partB l k j * 64 + (l.getD j 0).toNat % 64 := by
  match j, h with
  | j + 1, _ => rfl
theorem partB_lt (l : List UInt8) (k j : Nat) (hj : j ≤ 4) : partB l k j < 300000000 := by
  have p0 : partB l k 0 = 0 := rfl
  have p1 : partB l k 1 < 1000 := by
    have h := (l.getD 0 0).toNat_lt
    show (if k = 1 then (l.getD 0 0).toNat else (l.getD 0 0).toNat % mod1 k) < 1000
    split
    · omega
    · have := Nat.mod_le (l.getD 0 0).toNat (mod1 k)
      omega
  have p2 := partB_succ l k 1 (by omega)
  have p3 := partB_succ l k 2 (by omega)
  have p4 := partB_succ l k 3 (by omega)
  rcases (show j = 0 ∨ j = 1 ∨ j = 2 ∨ j = 3 ∨ j = 4 by omega) with rfl | rfl | rfl | rfl | rfl
  · omega
  · omega
  · simp only [Nat.reduceAdd] at p2; omega
  · simp only [Nat.reduceAdd] at p2 p3; omega
  · simp only [Nat.reduceAdd] at p2 p3 p4; omega
/-- Do k bytes begin with a code point of theirs? -/
def okK (l : List UInt8) (k : Nat) : Prop := isCp (partB l k k) = true ∧ (encL (partB l k k)).length = k ∧ startsL l (encL (partB l k k)) = true
theorem okK_dec {l : List UInt8} {k : Nat} (h : okK l k) : decL l = (partB l k k, k) := by
  obtain ⟨h1, h2, h3⟩ := h
  have h4 := of_decide_eq_true h3
  have h5 : l = encL (partB l k k) ++ l.drop k := by
    rw [h2] at h4
    conv => lhs; rw [← List.take_append_drop k l]
    rw [← h4]
  generalize partB l k k = c at *
  have := dec_enc c h1 (l.drop k)
  rw [← h5, h2] at this
  exact this
theorem dec_okK {l : List UInt8} {k : Nat} (h : (decL l).2 = k) (hk : k ≠ 0) : okK l k := by
  obtain ⟨hc, r, e, hn⟩ := enc_dec (l := l) (c := (decL l).1) (n := k) (by rw [← h]) hk
  generalize (decL l).1 = c at *
  have hcp := (isCp_iff _).1 hc
  have key : partB l k k = c := by
    rw [encL_len] at hn
    by_cases h1 : c < 128
    · rw [if_pos h1] at hn
      subst hn
      rw [e]
      unfold encL
      rw [if_pos h1]
      show (b8 c).toNat = c
      exact b8_toNat c (by omega)
    · rw [if_neg h1] at hn
      by_cases h2 : c < 2048
      · rw [if_pos h2] at hn
        subst hn
        rw [e]
        unfold encL
        rw [if_neg h1, if_pos h2]
        show (b8 _).toNat % 32 * 64 + (b8 _).toNat % 64 = c
        rw [b8_toNat (192 + c / 64) (by omega), b8_toNat (128 + c % 64) (by omega)]
        omega
      · rw [if_neg h2] at hn
        by_cases h3 : c < 65536
        · rw [if_pos h3] at hn
          subst hn
          rw [e]
          unfold encL
          rw [if_neg h1, if_neg h2, if_pos h3]
          show ((b8 _).toNat % 16 * 64 + (b8 _).toNat % 64) * 64 + (b8 _).toNat % 64 = c
          rw [b8_toNat (224 + c / 4096) (by omega), b8_toNat (128 + c / 64 % 64) (by omega), b8_toNat (128 + c % 64) (by omega)]
          omega
        · rw [if_neg h3] at hn
          subst hn
          rw [e]
          unfold encL
          rw [if_neg h1, if_neg h2, if_neg h3]
          show (((b8 _).toNat % 8 * 64 + (b8 _).toNat % 64) * 64 + (b8 _).toNat % 64) * 64 + (b8 _).toNat % 64 = c
          rw [b8_toNat (240 + c / 262144) (by omega), b8_toNat (128 + c / 4096 % 64) (by omega), b8_toNat (128 + c / 64 % 64) (by omega), b8_toNat (128 + c % 64) (by omega)]
          omega
  refine ⟨by rw [key]; exact hc, by rw [key]; exact hn.symm, ?_⟩
  rw [key]
  exact decide_eq_true (by rw [e]; simp)
end Go.Proofs.YtgnialemiefeeaaDoor
