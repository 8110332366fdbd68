/-
  The walk of NumeralParts.
-/
import Derived.Test.YtchmchbgbchipaaDoorNumJ
import Derived.Test.YtchmchbgbchipaaDoorNumeralBack
namespace Go.Proofs.YtchmchbgbchipaaDoor
open Go.RowKit
set_option linter.unusedVariables false

theorem str_app (s t : ByteArray) (l m : List UInt8) (hs : s.data.toList = l) (ht : t.data.toList = m) : (s ++ t).data.toList = l ++ m := by
  rw [ByteArray.data_append, Array.toList_append, hs, ht]
/-- A call of Read at the beginning of a string's bytes. -/
theorem read_string (s : ByteArray) (l : List UInt8) (hs : s.data.toList = l) (hz : s.size ≤ 1000) (w : World) (hv : NVars w) (v : Int) (q : Nat) (r : Int) (h : readT l 0 = (v, q, r)) (m : Nat) (hm : s.size = m) :
    ∃ c w', (convert 9 22 (.string s)).run Tryd.prog w = .ok (.slice (some ⟨w.heap.size, 0, none⟩) m c) w' ∧
      Calls Tryd.prog 11 #[.slice (some ⟨w.heap.size, 0, none⟩) m c, .int .i64 0] w' fun e w'' => e = .returned (.tuple #[.int .i64 v, .int .i64 (q : Int), .int .i64 r]) ∧ Below w.heap.size w w'' := by
  obtain ⟨c, w', hconv, hl, hca, hcb, hb⟩ := string_bytes (P := Tryd.prog) Tryd.underlying9 Tryd.underlying22 Tryd.underlying5 s l hs (by unfold maxLen; omega) w
  have hsz := str_size s l hs
  have hr := read_in (some ⟨w.heap.size, 0, none⟩) l.length c w'.heap.size 0 l w' (hv.next hb) hl (Nat.le_refl _) (by omega) hca (Nat.zero_le _)
  unfold Reads at hr
  rw [h] at hr
  rw [← hsz, hm] at hconv hr
  refine ⟨c, w', hconv, hr.mono ?_⟩
  rintro e w'' ⟨he, hb2⟩
  exact ⟨he, bel_next hb hb2⟩
/-- The strings of the parts. -/
def partS (k : Nat) : ByteArray := ofL (partL k)
set_option maxRecDepth 20000 in
set_option maxHeartbeats 1000000 in
theorem numeralParts_walk (w : World) (n : Int) (hn : (Lit.int .i64 n).wf = true) (x : Int) (hx : (Lit.int .i64 x).wf = true) (y : Int) (hy : (Lit.int .i64 y).wf = true) (hv : NVars w) :
    Calls Tryd.prog 8 #[.int .i64 n, .int .i64 x, .int .i64 y] w fun e w' => e = .returned (.bool true) ∧ Below w.heap.size w w' := by
  have h64 := i64_wf hn
  have h20 := itoa_20 n h64
  obtain ⟨m, hm⟩ : ∃ m : Nat, IntKind.u64.wrap x = (m : Int) := ⟨(IntKind.u64.wrap x).toNat, by have := IntKind.wrap_u64 x; omega⟩
  obtain ⟨m', hm'⟩ : ∃ m : Nat, IntKind.u64.wrap y = (m : Int) := ⟨(IntKind.u64.wrap y).toNat, by have := IntKind.wrap_u64 y; omega⟩
  obtain ⟨k, hk6, hk⟩ : ∃ k : Nat, k < 6 ∧ (m : Int) % 6 = (k : Int) := ⟨m % 6, Nat.mod_lt _ (by decide), by omega⟩
  obtain ⟨d, hd6, hd⟩ : ∃ d : Nat, d < 1000 ∧ (m' : Int) % 1000 = (d : Int) := ⟨m' % 1000, Nat.mod_lt _ (by decide), by omega⟩
  have hprn := fun W hW => print_any n h64 W hW
  have hpd := fun W hW => print_any (d : Int) ⟨by omega, by omega⟩ W hW
  rw [Lib.itoa_nonneg] at hpd
  have hdz : (ofL (Lib.decDigits d)).size ≤ 21 := by rw [ofL_size]; exact dec_len d (by omega)
  have hsz : (ofL (Lib.itoa n)).size ≤ 20 := by rw [ofL_size]; exact h20
  have hS : (ofL (Lib.itoa n)).data.toList = Lib.itoa n := ofL_toList _
  have hD : (ofL (Lib.decDigits d)).data.toList = Lib.decDigits d := ofL_toList _
  have hlen : ((Lib.itoa n).length : Int) = ((ofL (Lib.itoa n)).size : Int) := by rw [ofL_size]
  have hidx : ∀ W, (Instr.index 41 (.agg #[.string ⟨#[46]⟩, .string ⟨#[101]⟩, .string ⟨#[69]⟩, .string ⟨#[101, 43]⟩, .string ⟨#[69, 45]⟩, .string ⟨#[46, 48, 101]⟩]) (.int .u64 (k : Int))).run Tryd.prog W = .ok (.string (partS k)) W := by
    intro W
    rcases (show k = 0 ∨ k = 1 ∨ k = 2 ∨ k = 3 ∨ k = 4 ∨ k = 5 by omega) with rfl | rfl | rfl | rfl | rfl | rfl
    all_goals kernel_rfl
  have hP : (partS k).data.toList = partL k := ofL_toList _
  have hPz : (partS k).size ≤ 3 := by
    rw [str_size _ _ hP]
    rcases (show k = 0 ∨ k = 1 ∨ k = 2 ∨ k = 3 ∨ k = 4 ∨ k = 5 by omega) with rfl | rfl | rfl | rfl | rfl | rfl <;> decide
  have hPl : ((partL k).length : Int) = ((partS k).size : Int) := by rw [str_size _ _ hP]
  have r1 := read_parts_no n k [] (tk_nil _ _) (run_no (tk_nil _ _)) (tk_nil _ _)
  have r2 := read_parts_no n k [120] (by decide) (run_no (by decide)) (by decide)
  have r3 := read_parts_yes n k d
  rw [List.append_nil] at r1
  generalize partS k = P at *
  generalize ofL (Lib.itoa n) = S at *
  generalize ofL (Lib.decDigits d) = T at *
  have HS := Lib.hid hS
  have HP := Lib.hid hP
  have HD := Lib.hid hD
  have hq1 : (((Lib.itoa n).length + (partL k).length : Nat) : Int) = (S.size : Int) + (P.size : Int) := by omega
  have HQ1 := Lib.hid hq1
  have R1 := Lib.hid r1
  have R2 := Lib.hid r2
  have R3 := Lib.hid r3
  clear hS hP hD hq1 r1 r2 r3 hlen hPl h20 h64
  go_enter Tryd.func8, Tryd.ntmps8
  go_wp2_with fail
  refine (wakes_any w hv).mono ?_
  rintro e w1 ⟨rfl, hb1⟩
  have v1 := hv.next hb1
  go_wp2_with fail
  refine (hprn w1 v1).mono ?_
  rintro e w2 ⟨rfl, hb2⟩
  have v2 := v1.next hb2
  have hb02 := bel_next hb1 hb2
  obtain ⟨c3, w3, hconv3, hr3⟩ := read_string _ _ (str_app _ _ _ _ HS.out HP.out) (by rw [str_size _ _ (str_app _ _ _ _ HS.out HP.out), List.length_append, ← str_size _ _ HS.out, ← str_size _ _ HP.out]; omega) w2 v2 _ _ _ R1.out (S.size + P.size) (by simp)
  rw [HQ1.out] at hr3
  go_wp2_with fail
  refine hr3.mono ?_
  rintro e w4 ⟨rfl, hb4⟩
  have v4 := v2.next hb4
  have hb04 := bel_next hb02 hb4
  clear hconv3 hr3 R1 hb1 hb2 hb02 hb4 v1 v2
  have HSP := Lib.hid (str_app _ _ _ _ HS.out HP.out)
  have hSPz : (S ++ P).size ≤ 23 := by rw [str_size _ _ HSP.out, List.length_append, ← str_size _ _ HS.out, ← str_size _ _ HP.out]; omega
  have HX := Lib.hid (str_app _ (⟨#[120]⟩ : ByteArray) _ _ HSP.out rfl)
  have hXz : (S ++ P ++ (⟨#[120]⟩ : ByteArray)).size ≤ 24 := by rw [str_size _ _ HX.out, List.length_append, ← str_size _ _ HSP.out]; simp; omega
  obtain ⟨c5, w5, hconv5, hr5⟩ := read_string _ _ HX.out (by omega) w4 v4 0 ((Lib.itoa n).length + (partL k).length) 7 (by rw [List.append_assoc]; exact R2.out) (S.size + P.size + 1) (by simp only [ByteArray.size_append]; rfl)
  rw [HQ1.out] at hr5
  clear HX
  go_wp2_with fail
  refine hr5.mono ?_
  rintro e w6 ⟨rfl, hb6⟩
  have v6 := v4.next hb6
  have hb06 := bel_next hb04 hb6
  clear hconv5 hr5 R2 hb04 hb6 v4 hXz
  have hpd := hpd w6 v6
  go_wp2_with fail
  refine hpd.mono ?_
  rintro e w7 ⟨rfl, hb7⟩
  have v7 := v6.next hb7
  have hb07 := bel_next hb06 hb7
  have HSPD := Lib.hid (str_app _ _ _ _ HSP.out HD.out)
  have hSPDz : (S ++ P ++ T).size ≤ 44 := by rw [str_size _ _ HSPD.out, List.length_append, ← str_size _ _ HSP.out, ← str_size _ _ HD.out]; omega
  have HX := Lib.hid (str_app _ (⟨#[120]⟩ : ByteArray) _ _ HSPD.out rfl)
  have hXz : (S ++ P ++ T ++ (⟨#[120]⟩ : ByteArray)).size ≤ 45 := by rw [str_size _ _ HX.out, List.length_append, ← str_size _ _ HSPD.out]; simp; omega
  obtain ⟨c8, w8, hconv8, hr8⟩ := read_string _ _ HX.out (by omega) w7 v7 0 0 130 (by rw [List.append_assoc, List.append_assoc]; exact R3.out) (S.size + P.size + T.size + 1) (by simp only [ByteArray.size_append]; rfl)
  clear HX
  go_wp2_with fail
  refine hr8.mono ?_
  rintro e w9 ⟨rfl, hb9⟩
  go_wp2
  go_ret
  exact ⟨rfl, bel_next hb07 hb9⟩
end Go.Proofs.YtchmchbgbchipaaDoor
