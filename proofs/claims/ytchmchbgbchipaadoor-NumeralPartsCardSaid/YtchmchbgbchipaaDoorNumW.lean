/-
  Layer 3: wakes.
-/
import Derived.Test.YtchmchbgbchipaaDoorNumE
import Derived.Lib.SlBytesConst
namespace Go.Proofs.YtchmchbgbchipaaDoor
open Go.RowKit

theorem ws1 : scanP [97, 45, 55, 98] 1 = (3, false, true) := by
  have r1 : runP [97, 45, 55, 98] 2 = 3 := by rw [run_yes (by decide), run_no (by decide)]
  simp [scanP, wholeP, signP, stepP, digP, fracP, expoP, tk, r1]
theorem ws2 : scanP [49, 46] 0 = (2, true, false) := by
  have r1 : runP [49, 46] 0 = 1 := by rw [run_yes (by decide), run_no (by decide)]
  have r2 : runP [49, 46] 2 = 2 := by rw [run_no (by decide)]
  simp [scanP, wholeP, signP, stepP, digP, fracP, tk, r1, r2]
theorem ws3 : scanP [120, 50, 69, 55] 1 = (4, true, true) := by
  have r1 : runP [120, 50, 69, 55] 1 = 2 := by rw [run_yes (by decide), run_no (by decide)]
  have r2 : runP [120, 50, 69, 55] 3 = 4 := by rw [run_yes (by decide), run_no (by decide)]
  simp [scanP, wholeP, signP, stepP, digP, fracP, expoP, tk, r1, r2]
theorem ws4 : scanP [48, 49] 0 = (1, false, true) := by
  simp [scanP, wholeP, signP, stepP, fracP, expoP, tk]
theorem wr1 : readT [97, 45, 55, 98] 1 = (-7, 3, 0) := by
  have h : numL [97, 45, 55, 98] 1 = [45, 55] := by unfold numL; rw [ws1]; rfl
  rw [readT_ok (v := -7) (by rw [ws1]) (by rw [ws1]) (by rw [h]; decide +kernel), ws1]
theorem wr2 : readT [49, 46] 0 = (0, 2, 7) := by rw [readT_no (by rw [ws2]), ws2]
theorem wr3 : readT [120, 50, 69, 55] 1 = (0, 1, 130) := readT_part (by rw [ws3]) (by rw [ws3])
theorem wr4 : readT [48, 49] 0 = (0, 1, 0) := by
  have h : numL [48, 49] 0 = [48] := by unfold numL; rw [ws4]; rfl
  rw [readT_ok (v := 0) (by rw [ws4]) (by rw [ws4]) (by rw [h]; decide +kernel), ws4]
theorem wi1 : Lib.itoa (-120) = [45, 49, 50, 48] := by
  have h := Lib.itoa_neg 120 (by omega)
  rw [dec_big 120 (by decide), dec_big 12 (by decide), Lib.decDigits_one (i := 12 / 10) (by decide), Lib.decDigits_one (i := 12 % 10) (by decide), Lib.decDigits_one (i := 120 % 10) (by decide)] at h
  exact h
theorem wi0 : Lib.itoa 0 = [48] := by
  have h := Lib.itoa_nonneg 0
  rw [Lib.decDigits_one (i := 0) (by decide)] at h
  exact h
/-- A call of Read over a row of the call's own. -/
theorem read_new (w : World) (hv : NVars w) (l : List UInt8) (C : Array Value) (fr : Nat × Nat) (n : Nat) (x : Int) (p : Nat) (hC : C.toList = l.map bv) (hn : l.length = n) (hx : x = (p : Int)) (hp : p ≤ l.length) (hl : l.length ≤ 1000) (v : Int) (q : Int) (q' : Nat) (hq : q = (q' : Int)) (r : Int) (h : readT l p = (v, q', r)) :
    Calls Tryd.prog 11 #[.slice (some ⟨w.heap.size, 0, none⟩) n n, .int .i64 x] (w.alloc (.cells C 5 fr)) fun e w' => e = .returned (.tuple #[.int .i64 v, .int .i64 q, .int .i64 r]) ∧ Below w.heap.size w w' := by
  subst hn hx hq
  have hb := (Below.refl w.heap.size w).alloc (Nat.le_refl _) (.cells C 5 fr)
  refine (read_in _ _ _ _ p l _ (hv.next hb) (bytes_new w l C 5 fr hC) (by simp) (by omega) (Nat.le_refl _) hp).mono ?_
  rintro e w' ⟨rfl, hb'⟩
  rw [h]
  exact ⟨rfl, hb.trans (hb'.mono hb.size)⟩
set_option maxRecDepth 20000 in
set_option maxHeartbeats 2000000 in
theorem wakes_any (w : World) (hv : NVars w) : Calls Tryd.prog 9 #[] w fun e w' => e = .returned (.bool true) ∧ Below w.heap.size w w' := by
  have kc := fun (w : World) (C : Array Value) (n c : Nat) => Lib.run_convert_bytes_const (P := Tryd.prog) w 22 5 C n c Tryd.underlying22 Tryd.underlying5
  go_enter Tryd.func9, Tryd.ntmps9
  go_wp2_with fail
  refine (read_new w hv [97, 45, 55, 98] #[.int .u8 97, .int .u8 45, .int .u8 55, .int .u8 98] _ _ _ 1 rfl rfl rfl (by decide) (by decide) _ _ _ rfl _ wr1).mono ?_
  rintro e w1 ⟨rfl, hb1⟩
  have v1 := hv.next hb1
  go_wp2_with fail
  refine (read_new w1 v1 [49, 46] #[.int .u8 49, .int .u8 46] _ _ _ 0 rfl rfl rfl (by decide) (by decide) _ _ _ rfl _ wr2).mono ?_
  rintro e w2 ⟨rfl, hb2⟩
  have v2 := v1.next hb2
  go_wp2_with fail
  refine (read_new w2 v2 [120, 50, 69, 55] #[.int .u8 120, .int .u8 50, .int .u8 69, .int .u8 55] _ _ _ 1 rfl rfl rfl (by decide) (by decide) _ _ _ rfl _ wr3).mono ?_
  rintro e w3 ⟨rfl, hb3⟩
  have v3 := v2.next hb3
  go_wp2_with fail
  refine (read_new w3 v3 [48, 49] #[.int .u8 48, .int .u8 49] _ _ _ 0 rfl rfl rfl (by decide) (by decide) _ _ _ rfl _ wr4).mono ?_
  rintro e w4 ⟨rfl, hb4⟩
  have v4 := v3.next hb4
  have hb04 := bel_next hb1 (bel_next hb2 (bel_next hb3 hb4))
  have hp := print_any (-120) (by unfold I64; omega) w4 v4
  rw [wi1] at hp
  have hpe : (ofL [45, 49, 50, 48]).toList = [45, 49, 50, 48] := by rw [ByteArray.toList_eq, ofL_toList]
  clear hb1 hb2 hb3 hb4 v1 v2 v3 hv
  generalize ofL [45, 49, 50, 48] = S at *
  go_wp2_with fail
  refine hp.mono ?_
  rintro e w5 ⟨rfl, hb5⟩
  have v5 := v4.next hb5
  have hs := size_any 0 (by unfold I64; omega) w5 v5
  rw [wi0] at hs
  go_wp2_with fail
  refine hs.mono ?_
  rintro e w6 ⟨rfl, hb6⟩
  go_wp2
  go_ret
  exact ⟨rfl, bel_next hb04 (bel_next hb5 hb6)⟩
end Go.Proofs.YtchmchbgbchipaaDoor
