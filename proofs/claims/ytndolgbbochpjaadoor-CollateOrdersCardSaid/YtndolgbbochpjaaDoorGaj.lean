import Derived.Test.YtndolgbbochpjaaDoorGai
import Derived.Test.YtndolgbbochpjaaDoorGad
import Derived.Test.YtndolgbbochpjaaDoorGae
import Derived.Test.YtndolgbbochpjaaDoorGaa
import Derived.Lib.LaidTab
import Derived.Lib.LaidU8
import Derived.Test.YtndolgbbochpjaaDoorGab
import Derived.Test.YtndolgbbochpjaaDoorGaf
/-
  Layer 7: the law's own wakes.
-/
namespace Go.Proofs.YtndolgbbochpjaaDoor
open Go.RowKit
set_option linter.unusedVariables false

section
variable {P : Program} {w : World} {o : Oper} {a : Act} {K : Act → World → Prop} {Q : Exit → Act → World → Prop}
theorem fillV1 (v0 v1 v2 v3 v4 : Value) (h : (Value.agg #[v0, v1, v2, v3, v4]).cells = #[v0, v1, v2, v3, v4]) : Instr.fill (fun q => some (q * 5, 5)) ((Array.range (1 * 5)).map ((scV 0 0 ⟨#[]⟩).agg.cells[· % (scV 0 0 ⟨#[]⟩).agg.cells.size]!)) [(0, .agg #[v0, v1, v2, v3, v4])] = some #[v0, v1, v2, v3, v4] := by
  have e : Array.range (1 * 5) = #[0, 1, 2, 3, 4] := by first | rfl | decide
  rw [e]
  simp [Instr.fill, h]
theorem fillV3 (v0 v1 v2 v3 v4 x0 x1 x2 x3 x4 y0 y1 y2 y3 y4 : Value) (h : (Value.agg #[v0, v1, v2, v3, v4]).cells = #[v0, v1, v2, v3, v4]) (hx : (Value.agg #[x0, x1, x2, x3, x4]).cells = #[x0, x1, x2, x3, x4]) (hy : (Value.agg #[y0, y1, y2, y3, y4]).cells = #[y0, y1, y2, y3, y4]) :
    Instr.fill (fun q => some (q * 5, 5)) ((Array.range (3 * 5)).map ((scV 0 0 ⟨#[]⟩).agg.cells[· % (scV 0 0 ⟨#[]⟩).agg.cells.size]!)) [(0, .agg #[v0, v1, v2, v3, v4]), (1, .agg #[x0, x1, x2, x3, x4]), (2, .agg #[y0, y1, y2, y3, y4])] = some #[v0, v1, v2, v3, v4, x0, x1, x2, x3, x4, y0, y1, y2, y3, y4] := by
  have e : Array.range (3 * 5) = #[0, 1, 2, 3, 4, 5, 6, 7, 8, 9, 10, 11, 12, 13, 14] := by first | rfl | decide
  rw [e]
  simp [Instr.fill, h, hx, hy]
/-- '[]T{..}'. -/
theorem step_rowN (t e : TypeId) (k : Nat) (xs : Array (Nat × Operand)) (ho : o.op = .buildSlice t k xs) (size : Nat) (i : TypeInfo) (z : Value) (ht : P.underlying t = some (.slice e)) (hi : P.info? e = some i) (hz : i.zero = some z) (hsize : i.size = size)
    (cells : Array Value) (hf : Instr.fill (fun q => some (q * size, size)) ((Array.range (k * size)).map (z.cells[· % z.cells.size]!)) (xs.toList.map fun p => (p.1, a.eval p.2)) = some cells) (hcs : cells.toList.length = k * size) (h0 : ¬ k * size = 0) (h24 : ¬ k * size > 2 ^ 24)
    (h : ∀ g w', w.heap.size ≤ g → Shows w' (g + 1) size (some ⟨g, 0, none⟩) k cells.toList → g + 1 ≤ w'.heap.size → Below w.heap.size w w' → K (a.put o.dst (.slice (some ⟨g, 0, none⟩) k k)) w') : o.wp P a w K Q := by
  refine wp_buildSlice t e k xs ho cells i z ht hi hz (by rw [hsize]; exact h24) (by rw [hsize]; exact h0) (by rw [hsize]; simpa using hf) ?_
  exact h w.heap.size (w.alloc (.cells cells e)) (Nat.le_refl _) (shows_new w cells e w.heap.size k size rfl hcs) (by rw [World.size_alloc]; exact Nat.le_refl _) ((Below.refl _ _).alloc (Nat.le_refl _) _)
end
theorem sortw_any (A : Option Addr) (g c B : Nat) (w : World) (h : Shows w B 5 (some ⟨g, 0, none⟩) 3 ([lsV A 1 c [inV 2], inV 7, scV 1 0 ⟨#[]⟩].flatMap VT.cells)) (hA : Shows w B 5 A 1 ([inV 2].flatMap VT.cells)) (hc : 1 ≤ c) (hcm : c ≤ 100) (hB : B ≤ w.heap.size) (htab : UTab w) (hst : STab w) (hr : RTab w) :
    Calls Tryd.prog 15 #[.slice (some ⟨g, 0, none⟩) 3 3] w fun e w' => ∃ A' c', e = .returned (.tuple #[.slice A' 3 c', .int .i64 0]) ∧ Hid (Shows w' w'.heap.size 5 A' 3 ([scV 1 0 ⟨#[]⟩, inV 7, lsV A 1 c [inV 2]].flatMap VT.cells)) ∧ Below w.heap.size w w' := by
  have hAn : A = none → c = 0 := fun e => by
    subst e
    obtain ⟨b, off, x, e, -⟩ := kids_at hA (by decide : 0 < 1)
    cases e
  have hL : ∀ x ∈ [lsV A 1 c [inV 2], inV 7, scV 1 0 ⟨#[]⟩], Lie w B x := by
    intro x hx
    simp only [List.mem_cons, List.not_mem_nil, or_false] at hx
    rcases hx with rfl | rfl | rfl
    · exact lie_lsS hA (fun x hx => by rw [List.mem_singleton] at hx; subst hx; exact lie_in _ _ _ (by decide)) hAn hc (Nat.le_trans hcm (by decide))
    · exact lie_in _ _ _ (by decide)
    · exact lie_sc _ _ _ _ _ (by decide) (by decide) (by decide)
  refine (sortT_any _ 3 3 B _ w h hL hB (by decide) (fun h => by cases h) (Nat.le_refl _) htab hst hr).mono ?_
  have hok : [lsV A 1 c [inV 2], inV 7, scV 1 0 ⟨#[]⟩].all VT.ok = true := by
    have := ints_ok A 1 c [2] (by decide)
    simp only [List.map_cons, List.map_nil] at this
    simp [this, in_ok, nil_ok]
  rintro e w' ⟨⟨h1, _⟩ | ⟨_, A', c', L2, rfl, HS, HP⟩, hb⟩
  · rw [hok] at h1; cases h1
  · obtain rfl := sort_wake HP.out.1 HP.out.2
    exact ⟨A', c', rfl, HS, hb⟩
theorem frontw_any (A : Option Addr) (c B : Nat) (w : World) (h : Shows w B 5 A 3 ([inV 1, inV 2, inV 3].flatMap VT.cells)) (hA : A = none → c = 0) (hc : 3 ≤ c) (hcm : c ≤ 100) (hB : B ≤ w.heap.size) (htab : UTab w) (hst : STab w) :
    Calls Tryd.prog 21 #[.agg #[.int .i64 5, .int .i64 0, .string ⟨#[]⟩, .slice A 3 c, .slice none 0 0], .int .i64 2] w fun e w' => e = .returned (.tuple #[.agg #[.int .i64 5, .int .i64 0, .string ⟨#[]⟩, .slice A 2 2, .slice none 0 0], .int .i64 0]) ∧ Below w.heap.size w w' := by
  refine (frontT_any (lsV A 3 c [inV 1, inV 2, inV 3]) 2 B w (lie_lsS h (fun x hx => by simp only [List.mem_cons, List.not_mem_nil, or_false] at hx; rcases hx with rfl | rfl | rfl <;> exact lie_in _ _ _ (by decide)) hA hc (Nat.le_trans hcm (by decide))) hB htab hst).mono ?_
  rintro e w' ⟨X, E, rfl, hP, hb⟩
  obtain ⟨rfl, rfl⟩ := front_wake hP.out
  exact ⟨rfl, hb⟩
theorem placew1_any (A : Option Addr) (c B : Nat) (w : World) (h : Shows w B 5 A 4 ([inV 1, inV 3, inV 3, inV 4].flatMap VT.cells)) (hB : B ≤ w.heap.size) (htab : UTab w) (hst : STab w) (hr : RTab w) :
    Calls Tryd.prog 16 #[.slice A 4 c, .agg #[.int .i64 3, .int .i64 3, .string ⟨#[]⟩, .slice none 0 0, .slice none 0 0]] w fun e w' => e = .returned (.tuple #[.int .i64 1, .int .i64 3, .int .i64 0]) ∧ Below w.heap.size w w' := by
  refine (placeT_any A 4 c B _ (inV 3) w h (fun x hx => by simp only [List.mem_cons, List.not_mem_nil, or_false] at hx; rcases hx with rfl | rfl | rfl | rfl <;> exact lie_in _ _ _ (by decide)) (lie_in _ _ _ (by decide)) hB (by decide) htab hst hr).mono ?_
  rintro e w' ⟨X, E, rfl, hP, hb⟩
  obtain ⟨rfl, rfl⟩ := place_wake1 hP.out
  exact ⟨rfl, hb⟩
theorem placew2_any (A : Option Addr) (c B : Nat) (w : World) (h : Shows w B 5 A 2 ([inV 2, inV 1].flatMap VT.cells)) (hB : B ≤ w.heap.size) (htab : UTab w) (hst : STab w) (hr : RTab w) :
    Calls Tryd.prog 16 #[.slice A 2 c, .agg #[.int .i64 3, .int .i64 1, .string ⟨#[]⟩, .slice none 0 0, .slice none 0 0]] w fun e w' => e = .returned (.tuple #[.int .i64 0, .int .i64 0, .int .i64 2]) ∧ Below w.heap.size w w' := by
  refine (placeT_any A 2 c B _ (inV 1) w h (fun x hx => by simp only [List.mem_cons, List.not_mem_nil, or_false] at hx; rcases hx with rfl | rfl <;> exact lie_in _ _ _ (by decide)) (lie_in _ _ _ (by decide)) hB (by decide) htab hst hr).mono ?_
  rintro e w' ⟨X, E, rfl, hP, hb⟩
  obtain ⟨rfl, rfl⟩ := place_wake2 hP.out
  exact ⟨rfl, hb⟩
theorem cmpw2_any (w : World) (htab : UTab w) (hst : STab w) (hr : RTab w) :
    Calls Tryd.prog 11 #[.agg #[.int .i64 0, .int .i64 0, .string ⟨#[]⟩, .slice none 0 0, .slice none 0 0], .agg #[.int .i64 3, .int .i64 1, .string ⟨#[]⟩, .slice none 0 0, .slice none 0 0]] w fun e w' => e = .returned (.tuple #[.int .i64 0, .int .i64 140]) ∧ Below w.heap.size w w' := by
  have h := compareT_any (scV 0 0 ⟨#[]⟩) (inV 1) w.heap.size w (lie_sc _ _ _ _ _ (by decide) (by decide) (by decide)) (lie_in _ _ _ (by decide)) (Nat.le_refl _) htab hst hr
  rw [cmp_wake2] at h
  exact h
theorem inC (n : Int) : (inV n).cells = [.int .i64 3, .int .i64 n, .string ⟨#[]⟩, .slice none 0 0, .slice none 0 0] := rfl
set_option maxRecDepth 20000 in
set_option maxHeartbeats 4000000 in
theorem cwakes_any (w : World) (htab : UTab w) (hst : STab w) (hr : RTab w) : Calls Tryd.prog 10 #[] w fun e w' => e = .returned (.bool true) ∧ Below w.heap.size w w' := by
  obtain ⟨iV, hiV, hzV, hsV, hbV⟩ := val_info
  have HTx := Lib.hid (fun W (h : Below w.heap.size w W) => (⟨htab.below h htab.lt, hst.below h hst.lt, hr.below h hr.lt⟩ : UTab W ∧ STab W ∧ RTab W))
  clear htab hst hr
  have hb1 := bel_alloc (Below.refl w.heap.size w) (.cells #[.int .i64 1, .int .i64 0, .string ⟨#[]⟩, .slice none 0 0, .slice none 0 0] 25)
  have HV := Lib.hid (VFive.new w (.int .i64 1) (.int .i64 0) (.string ⟨#[]⟩) (.slice none 0 0) (.slice none 0 0) 25 w.heap.size rfl)
  go_enter Tryd.func10, Tryd.ntmps10
  go_upto_region 2 with fail
  generalize (w.alloc (.cells #[.int .i64 1, .int .i64 0, .string ⟨#[]⟩, .slice none 0 0, .slice none 0 0] 25)) = w1 at *
  go_wp2_with fail
  refine (in_any 1 _).mono ?_
  rintro e w2 ⟨rfl, hb2⟩
  have hk := hb2
  have hb2 := bel_next hb1 hb2
  go_wp2_with fail
  refine (in_any 2 _).mono ?_
  rintro e w3 ⟨rfl, hb3⟩
  have hk := bel_next hk hb3
  have hb3 := bel_next hb2 hb3
  have S3 := Lib.hid (shows_new w3 #[.int .i64 3, .int .i64 1, .string ⟨#[]⟩, .slice none 0 0, .slice none 0 0, .int .i64 3, .int .i64 2, .string ⟨#[]⟩, .slice none 0 0, .slice none 0 0] 25 w3.heap.size 2 5 rfl rfl)
  have hb3a := bel_alloc hb3 (.cells #[.int .i64 3, .int .i64 1, .string ⟨#[]⟩, .slice none 0 0, .slice none 0 0, .int .i64 3, .int .i64 2, .string ⟨#[]⟩, .slice none 0 0, .slice none 0 0] 25)
  go_wp2_with fail
  refine (list1_any _ _ _ _).mono ?_
  rintro e w4 ⟨rfl, hb4⟩
  have hk := bel_next (bel_alloc hk _) hb4
  have S4 := Lib.hid ((S3.out.below (hb4.mono (by simp))).more (Nat.le_trans (by simp) hb4.size))
  have hb4 := bel_next hb3a hb4
  clear S3 hb3a
  go_wp2_with fail
  refine (in_any 1 _).mono ?_
  rintro e w5 ⟨rfl, hb5⟩
  have hk := bel_next hk hb5
  have S5 := Lib.hid ((S4.out.below hb5).more hb5.size)
  have hb5 := bel_next hb4 hb5
  clear S4
  have T5 := Lib.hid (shows_new w5 #[.int .i64 3, .int .i64 1, .string ⟨#[]⟩, .slice none 0 0, .slice none 0 0] 25 w5.heap.size 1 5 rfl rfl)
  have S5a := Lib.hid ((S5.out.alloc (Nat.le_refl _) (.cells #[.int .i64 3, .int .i64 1, .string ⟨#[]⟩, .slice none 0 0, .slice none 0 0] 25)).more (Nat.le_succ _))
  have hb5a := bel_alloc hb5 (.cells #[.int .i64 3, .int .i64 1, .string ⟨#[]⟩, .slice none 0 0, .slice none 0 0] 25)
  go_wp2_with fail
  refine (list1_any _ _ _ _).mono ?_
  rintro e w6 ⟨rfl, hb6⟩
  have hk := bel_next (bel_alloc hk _) hb6
  have T6 := (T5.out.below (hb6.mono (by simp))).more (Nat.le_trans (by simp) hb6.size)
  have S6 := (S5a.out.below (hb6.mono (by simp))).more (Nat.le_trans (by simp) hb6.size)
  have hb6 := bel_next hb5a hb6
  have hc := compareT_any (lsV (some ⟨w3.heap.size, 0, none⟩) 2 2 [inV 1, inV 2]) (lsV (some ⟨w5.heap.size, 0, none⟩) 1 1 [inV 1]) w6.heap.size w6 (lie_lsS S6 (fun x hx => by simp at hx; rcases hx with rfl | rfl <;> exact lie_in _ _ _ (by decide)) (fun h => by cases h) (Nat.le_refl _) (by decide)) (lie_lsS T6 (fun x hx => by simp at hx; subst hx; exact lie_in _ _ _ (by decide)) (fun h => by cases h) (Nat.le_refl _) (by decide)) (Nat.le_refl _) (HTx.out _ hb6).1 (HTx.out _ hb6).2.1 (HTx.out _ hb6).2.2
  rw [cmp_wake1] at hc
  simp only [VT.agg] at hc
  clear T5 S5 S5a T6 S6 hb5a hb2 hb3 hb4 hb5
  go_wp2_with fail
  refine hc.mono ?_
  rintro e w7 ⟨rfl, hb7⟩
  have hk := bel_next hk hb7
  have hb7 := bel_next hb6 hb7
  clear hc hb6
  go_upto_region 3 with fail
  have HV7 := Lib.hid (HV.out.later hk)
  have v0 : ∀ W, Below w7.heap.size w7 W → W.cell? ⟨w.heap.size, 0, none⟩ = some (.int .i64 1) := fun W h => (HV7.out.later h).1.1
  have v1 : ∀ W, Below w7.heap.size w7 W → W.cell? ⟨w.heap.size, 1, none⟩ = some (.int .i64 0) := fun W h => (HV7.out.later h).1.2.1
  have v2 : ∀ W, Below w7.heap.size w7 W → W.cell? ⟨w.heap.size, 2, none⟩ = some (.string ⟨#[]⟩) := fun W h => (HV7.out.later h).1.2.2.1
  have v3 : ∀ W, Below w7.heap.size w7 W → W.cell? ⟨w.heap.size, 3, none⟩ = some (.slice none 0 0) := fun W h => (HV7.out.later h).1.2.2.2.1
  have v4 : ∀ W, Below w7.heap.size w7 W → W.cell? ⟨w.heap.size, 4, none⟩ = some (.slice none 0 0) := fun W h => (HV7.out.later h).1.2.2.2.2
  have HT7 := Lib.hid (fun W (h : Below w7.heap.size w7 W) => HTx.out W (bel_next hb7 h))
  refine wp_region_held_drew (S := fun W => Below w7.heap.size w7 W) (by kernel_rfl) (below_drewN (Below.refl _ _) 1) (fun hHeld => ?_)
  refine rg_in 4 rfl (by kernel_rfl) (by kernel_rfl) (by kernel_rfl) (by rfl) (v := ?_) (fun _ _ _ h => h) hHeld (fun w hSw => ?_) ?_
  rotate_left
  · (try dsimp only at hSw); go_simp <;> (with_reducible rfl)
  (try simp only [Act.put, List.setIfInBounds_toArray, List.set_cons_zero, List.set_cons_succ])
  refine rg_do 0 rfl (by kernel_rfl) (by rfl) (fun K hK => ?_)
  go_simp
  (go_at_call 30; (with_reducible refine (in_any 2 _).mono ?_); (rintro e w100 ⟨rfl, hb0⟩))
  refine hK.out _ _ (S_call hb0 hHeld rfl) (fun hHeld => ?_)
  clear hK K
  (try simp only [Act.put, List.setIfInBounds_toArray, List.set_cons_zero, List.set_cons_succ])
  refine rg_do 1 rfl (by kernel_rfl) (by rfl) (fun K hK => ?_)
  refine step_rowN 22 25 1 _ rfl 5 iV _ Tryd.underlying22 hiV hzV hsV #[.int .i64 3, .int .i64 2, .string ⟨#[]⟩, .slice none 0 0, .slice none 0 0] (fillV1 _ _ _ _ _ rfl) rfl (by decide) (by decide) ?_
  intro g1 w101 hge1 sh1 hl1 hb1
  refine hK.out _ _ (S_call hb1 hHeld rfl) (fun hHeld => ?_)
  clear hK K
  (try simp only [Act.put, List.setIfInBounds_toArray, List.set_cons_zero, List.set_cons_succ])
  refine rg_do 2 rfl (by kernel_rfl) (by rfl) (fun K hK => ?_)
  go_simp
  (go_at_call 27; (with_reducible refine (list1_any _ _ _ _).mono ?_); (rintro e w102 ⟨rfl, hb2⟩))
  refine hK.out _ _ (S_call hb2 hHeld rfl) (fun hHeld => ?_)
  clear hK K
  (try simp only [Act.put, List.setIfInBounds_toArray, List.set_cons_zero, List.set_cons_succ])
  refine rg_do 3 rfl (by kernel_rfl) (by rfl) (fun K hK => ?_)
  go_simp
  (go_at_call 30; (with_reducible refine (in_any 7 _).mono ?_); (rintro e w103 ⟨rfl, hb3⟩))
  refine hK.out _ _ (S_call hb3 hHeld rfl) (fun hHeld => ?_)
  clear hK K
  (try simp only [Act.put, List.setIfInBounds_toArray, List.set_cons_zero, List.set_cons_succ])
  refine rg_do 5 rfl (by kernel_rfl) (by rfl) (fun K hK => ?_)
  refine step_rowN 22 25 3 _ rfl 5 iV _ Tryd.underlying22 hiV hzV hsV #[.int .i64 5, .int .i64 0, .string ⟨#[]⟩, .slice (some ⟨g1, 0, none⟩) 1 1, .slice none 0 0, .int .i64 3, .int .i64 7, .string ⟨#[]⟩, .slice none 0 0, .slice none 0 0, .int .i64 1, .int .i64 0, .string ⟨#[]⟩, .slice none 0 0, .slice none 0 0] (fillV3 _ _ _ _ _ _ _ _ _ _ _ _ _ _ _ rfl rfl rfl) rfl (by decide) (by decide) ?_
  intro g5 w105 hge5 sh5 hl5 hb5
  refine hK.out _ _ (S_call hb5 hHeld rfl) (fun hHeld => ?_)
  clear hK K
  (try simp only [Act.put, List.setIfInBounds_toArray, List.set_cons_zero, List.set_cons_succ])
  refine rg_do 6 rfl (by kernel_rfl) (by rfl) (fun K hK => ?_)
  have hso := sortw_any (some ⟨g1, 0, none⟩) g5 1 w105.heap.size w105 (sh5.more hl5) ((sh1.below ((bel_next (bel_next hb2 hb3) hb5).mono hl1)).more (Nat.le_trans hl1 (bel_next (bel_next hb2 hb3) hb5).size)) (by decide) (by decide) (Nat.le_refl _) (HT7.out _ hHeld).1 (HT7.out _ hHeld).2.1 (HT7.out _ hHeld).2.2
  go_simp
  (go_at_call 15; (with_reducible refine hso.mono ?_); (rintro e w106 ⟨A6, c6, rfl, HS6, hb6⟩))
  refine hK.out _ _ (S_call hb6 hHeld rfl) (fun hHeld => ?_)
  clear hK K
  (try simp only [Act.put, List.setIfInBounds_toArray, List.set_cons_zero, List.set_cons_succ])
  refine rg_in 7 rfl (by kernel_rfl) (by kernel_rfl) (by kernel_rfl) (by rfl) (v := ?_) (fun _ _ _ h => h) hHeld (fun w hSw => ?_) ?_
  rotate_left
  · (try dsimp only at hSw); go_simp <;> (with_reducible rfl)
  (try simp only [Act.put, List.setIfInBounds_toArray, List.set_cons_zero, List.set_cons_succ])
  refine rg_in 8 rfl (by kernel_rfl) (by kernel_rfl) (by kernel_rfl) (by rfl) (v := ?_) (fun _ _ _ h => h) hHeld (fun w hSw => ?_) ?_
  rotate_left
  · (try dsimp only at hSw); go_simp <;> (with_reducible rfl)
  (try simp only [Act.put, List.setIfInBounds_toArray, List.set_cons_zero, List.set_cons_succ])
  refine rg_in 9 rfl (by kernel_rfl) (by kernel_rfl) (by kernel_rfl) (by rfl) (v := ?_) (fun _ _ _ h => h) hHeld (fun w hSw => ?_) ?_
  rotate_left
  · (try dsimp only at hSw); go_simp <;> (with_reducible rfl)
  (try simp only [Act.put, List.setIfInBounds_toArray, List.set_cons_zero, List.set_cons_succ])
  refine rg_in 10 rfl (by kernel_rfl) (by kernel_rfl) (by kernel_rfl) (by rfl) (v := ?_) (fun _ _ _ h => h) hHeld (fun w hSw => ?_) ?_
  rotate_left
  · (try dsimp only at hSw); go_simp <;> (with_reducible rfl)
  (try simp only [Act.put, List.setIfInBounds_toArray, List.set_cons_zero, List.set_cons_succ])
  refine rg_in 11 rfl (by kernel_rfl) (by kernel_rfl) (by kernel_rfl) (by rfl) (v := ?_) (fun _ _ _ h => h) hHeld (fun w hSw => ?_) ?_
  rotate_left
  · (try dsimp only at hSw); go_simp <;> (with_reducible rfl)
  (try simp only [Act.put, List.setIfInBounds_toArray, List.set_cons_zero, List.set_cons_succ])
  refine wpAnyH_done (by kernel_rfl) ?_ _
  have hbA := bel_next hb7 hHeld
  clear v0 v1 v2 v3 v4 HV7 HV HT7 hk hb7 sh1 sh5 hso hge1 hge5 hl1 hl5 hb0 hb1 hb2 hb3 hb5 hb6
  go_wp2_with fail
  refine (in_any 1 _).mono ?_
  rintro e x1 ⟨rfl, hn⟩
  have HS6 := Lib.hid ((HS6.out.below hn).more hn.size)
  have hbA := bel_next hbA hn
  clear hn
  go_wp2_with fail
  refine (in_any 2 _).mono ?_
  rintro e x2 ⟨rfl, hn⟩
  have HS6 := Lib.hid ((HS6.out.below hn).more hn.size)
  have hbA := bel_next hbA hn
  clear hn
  go_wp2_with fail
  refine (in_any 3 _).mono ?_
  rintro e x3 ⟨rfl, hn⟩
  have HS6 := Lib.hid ((HS6.out.below hn).more hn.size)
  have hbA := bel_next hbA hn
  clear hn
  have R4 := shows_new x3 #[.int .i64 3, .int .i64 1, .string ⟨#[]⟩, .slice none 0 0, .slice none 0 0, .int .i64 3, .int .i64 2, .string ⟨#[]⟩, .slice none 0 0, .slice none 0 0, .int .i64 3, .int .i64 3, .string ⟨#[]⟩, .slice none 0 0, .slice none 0 0] 25 x3.heap.size 3 5 rfl rfl
  have hn0 := bel_alloc (Below.refl x3.heap.size x3) (.cells #[.int .i64 3, .int .i64 1, .string ⟨#[]⟩, .slice none 0 0, .slice none 0 0, .int .i64 3, .int .i64 2, .string ⟨#[]⟩, .slice none 0 0, .slice none 0 0, .int .i64 3, .int .i64 3, .string ⟨#[]⟩, .slice none 0 0, .slice none 0 0] 25)
  go_wp2_with fail
  refine (list1_any _ _ _ _).mono ?_
  rintro e x4 ⟨rfl, hn⟩
  have R4 := (R4.below (hn.mono (by simp))).more (Nat.le_trans (by simp) hn.size)
  have hn := bel_next hn0 hn
  have HS6 := Lib.hid ((HS6.out.below hn).more hn.size)
  have hbA := bel_next hbA hn
  clear hn hn0
  have hf := frontw_any (some ⟨x3.heap.size, 0, none⟩) 3 x4.heap.size x4 R4 (fun h => by cases h) (by decide) (by decide) (Nat.le_refl _) (HTx.out _ hbA).1 (HTx.out _ hbA).2.1
  clear R4
  go_wp2_with fail
  refine hf.mono ?_
  rintro e x5 ⟨rfl, hn⟩
  have HS6 := Lib.hid ((HS6.out.below hn).more hn.size)
  have hbA := bel_next hbA hn
  clear hn hf
  have HF := Lib.hid (VFive.new x5 (.int .i64 5) (.int .i64 0) (.string ⟨#[]⟩) (.slice (some ⟨x3.heap.size, 0, none⟩) 2 2) (.slice none 0 0) 25 x5.heap.size rfl)
  have hn := bel_alloc (Below.refl x5.heap.size x5) (.cells #[.int .i64 5, .int .i64 0, .string ⟨#[]⟩, .slice (some ⟨x3.heap.size, 0, none⟩) 2 2, .slice none 0 0] 25)
  have HS6 := Lib.hid ((HS6.out.below hn).more hn.size)
  have hbA := bel_next hbA hn
  clear hn
  go_upto_region 5 with fail
  generalize (x5.alloc (.cells #[.int .i64 5, .int .i64 0, .string ⟨#[]⟩, .slice (some ⟨x3.heap.size, 0, none⟩) 2 2, .slice none 0 0] 25)) = y0 at *
  go_wp2_with fail
  refine (in_any 1 _).mono ?_
  rintro e x6 ⟨rfl, hn⟩
  have HS6 := Lib.hid ((HS6.out.below hn).more hn.size)
  have HF := Lib.hid (HF.out.later hn)
  have hbA := bel_next hbA hn
  clear hn
  go_wp2_with fail
  refine (in_any 3 _).mono ?_
  rintro e x7 ⟨rfl, hn⟩
  have HS6 := Lib.hid ((HS6.out.below hn).more hn.size)
  have HF := Lib.hid (HF.out.later hn)
  have hbA := bel_next hbA hn
  clear hn
  go_wp2_with fail
  refine (in_any 3 _).mono ?_
  rintro e x8 ⟨rfl, hn⟩
  have HS6 := Lib.hid ((HS6.out.below hn).more hn.size)
  have HF := Lib.hid (HF.out.later hn)
  have hbA := bel_next hbA hn
  clear hn
  go_wp2_with fail
  refine (in_any 4 _).mono ?_
  rintro e x9 ⟨rfl, hn⟩
  have HS6 := Lib.hid ((HS6.out.below hn).more hn.size)
  have HF := Lib.hid (HF.out.later hn)
  have hbA := bel_next hbA hn
  clear hn
  have R5 := shows_new x9 #[.int .i64 3, .int .i64 1, .string ⟨#[]⟩, .slice none 0 0, .slice none 0 0, .int .i64 3, .int .i64 3, .string ⟨#[]⟩, .slice none 0 0, .slice none 0 0, .int .i64 3, .int .i64 3, .string ⟨#[]⟩, .slice none 0 0, .slice none 0 0, .int .i64 3, .int .i64 4, .string ⟨#[]⟩, .slice none 0 0, .slice none 0 0] 25 x9.heap.size 4 5 rfl rfl
  have hn0 := bel_alloc (Below.refl x9.heap.size x9) (.cells #[.int .i64 3, .int .i64 1, .string ⟨#[]⟩, .slice none 0 0, .slice none 0 0, .int .i64 3, .int .i64 3, .string ⟨#[]⟩, .slice none 0 0, .slice none 0 0, .int .i64 3, .int .i64 3, .string ⟨#[]⟩, .slice none 0 0, .slice none 0 0, .int .i64 3, .int .i64 4, .string ⟨#[]⟩, .slice none 0 0, .slice none 0 0] 25)
  go_wp2_with fail
  refine (in_any 3 _).mono ?_
  rintro e x10 ⟨rfl, hn⟩
  have R5 := (R5.below (hn.mono (by simp))).more (Nat.le_trans (by simp) hn.size)
  have hn := bel_next hn0 hn
  have HS6 := Lib.hid ((HS6.out.below hn).more hn.size)
  have HF := Lib.hid (HF.out.later hn)
  have hbA := bel_next hbA hn
  clear hn hn0
  have hp := placew1_any (some ⟨x9.heap.size, 0, none⟩) 4 x10.heap.size x10 R5 (Nat.le_refl _) (HTx.out _ hbA).1 (HTx.out _ hbA).2.1 (HTx.out _ hbA).2.2
  clear R5
  go_wp2_with fail
  refine hp.mono ?_
  rintro e x11 ⟨rfl, hn⟩
  have HS6 := Lib.hid ((HS6.out.below hn).more hn.size)
  have HF := Lib.hid (HF.out.later hn)
  have hbA := bel_next hbA hn
  clear hn hp
  go_wp2_with fail
  refine (in_any 1 _).mono ?_
  rintro e x12 ⟨rfl, hn⟩
  have HS6 := Lib.hid ((HS6.out.below hn).more hn.size)
  have HF := Lib.hid (HF.out.later hn)
  have hbA := bel_next hbA hn
  clear hn
  have hc := cmpw2_any x12 (HTx.out _ hbA).1 (HTx.out _ hbA).2.1 (HTx.out _ hbA).2.2
  go_wp2_with fail
  refine hc.mono ?_
  rintro e x13 ⟨rfl, hn⟩
  have HS6 := Lib.hid ((HS6.out.below hn).more hn.size)
  have HF := Lib.hid (HF.out.later hn)
  have hbA := bel_next hbA hn
  clear hn hc
  go_wp2_with fail
  refine (in_any 2 _).mono ?_
  rintro e x14 ⟨rfl, hn⟩
  have HS6 := Lib.hid ((HS6.out.below hn).more hn.size)
  have HF := Lib.hid (HF.out.later hn)
  have hbA := bel_next hbA hn
  clear hn
  go_wp2_with fail
  refine (in_any 1 _).mono ?_
  rintro e x15 ⟨rfl, hn⟩
  have HS6 := Lib.hid ((HS6.out.below hn).more hn.size)
  have HF := Lib.hid (HF.out.later hn)
  have hbA := bel_next hbA hn
  clear hn
  have R7 := shows_new x15 #[.int .i64 3, .int .i64 2, .string ⟨#[]⟩, .slice none 0 0, .slice none 0 0, .int .i64 3, .int .i64 1, .string ⟨#[]⟩, .slice none 0 0, .slice none 0 0] 25 x15.heap.size 2 5 rfl rfl
  have hn0 := bel_alloc (Below.refl x15.heap.size x15) (.cells #[.int .i64 3, .int .i64 2, .string ⟨#[]⟩, .slice none 0 0, .slice none 0 0, .int .i64 3, .int .i64 1, .string ⟨#[]⟩, .slice none 0 0, .slice none 0 0] 25)
  go_wp2_with fail
  refine (in_any 1 _).mono ?_
  rintro e x16 ⟨rfl, hn⟩
  have R7 := (R7.below (hn.mono (by simp))).more (Nat.le_trans (by simp) hn.size)
  have hn := bel_next hn0 hn
  have HS6 := Lib.hid ((HS6.out.below hn).more hn.size)
  have HF := Lib.hid (HF.out.later hn)
  have hbA := bel_next hbA hn
  clear hn hn0
  have hp := placew2_any (some ⟨x15.heap.size, 0, none⟩) 2 x16.heap.size x16 R7 (Nat.le_refl _) (HTx.out _ hbA).1 (HTx.out _ hbA).2.1 (HTx.out _ hbA).2.2
  clear R7
  go_wp2_with fail
  refine hp.mono ?_
  rintro e x17 ⟨rfl, hn⟩
  have HS6 := Lib.hid ((HS6.out.below hn).more hn.size)
  have HF := Lib.hid (HF.out.later hn)
  have hbA := bel_next hbA hn
  clear hn hp
  obtain ⟨b8, o8, rfl, _, hc8⟩ := HS6.out.2 (by decide)
  have n0 := hc8 0 (.int .i64 1) rfl
  have n1 := hc8 6 (.int .i64 7) rfl
  simp only [Nat.add_zero] at n0
  obtain ⟨⟨-, -, -, f3, -⟩, -⟩ := HF.out
  clear HS6 HF hc8
  go_wp2
  go_ret
  exact ⟨rfl, hbA⟩
end Go.Proofs.YtndolgbbochpjaaDoor
/-
  CollateOrders: the order is total, antisymmetric, transitive, and equal just at the same values: the walk.
-/
namespace Go.Proofs.YtndolgbbochpjaaDoor
open Go.RowKit
set_option linter.unusedVariables false

def CmpP (T U : VT) (v E : Int) : Prop := ((T.ok && U.ok) = true ∧ v = cmpV T U ∧ E = 0) ∨ ((T.ok && U.ok) = false ∧ v = 0 ∧ E = 140)
theorem compareP_any (T U : VT) (B : Nat) (w : World) (hL : Lie w B T) (hL' : Lie w B U) (hB : B ≤ w.heap.size) (htab : UTab w) (hst : STab w) (hr : RTab w) :
    Calls Tryd.prog 11 #[T.agg, U.agg] w fun e w' => ∃ v E, e = .returned (.tuple #[.int .i64 v, .int .i64 E]) ∧ Hid (CmpP T U v E) ∧ Below w.heap.size w w' := by
  refine (compareT_any T U B w hL hL' hB htab hst hr).mono ?_
  rintro e w' ⟨rfl, hb⟩
  unfold cmpT
  cases h : (T.ok && U.ok) with
  | true => exact ⟨_, _, rfl, Lib.hid (.inl ⟨h, rfl, rfl⟩), hb⟩
  | false => exact ⟨_, _, rfl, Lib.hid (.inr ⟨h, rfl, rfl⟩), hb⟩
theorem same_zero {B B' : Nat} {w w' : World} {T U : VT} (hT : Lie w B T) (hU : Lie w' B' U) (h1 : T.ok = true) (h2 : U.ok = true) : sameR T U = decide (cmpV T U = 0) := by
  unfold sameR
  rw [h1, h2]
  have h := cmpV_zero hT hU h1 h2
  by_cases hz : cmpV T U = 0
  · rw [(sameV_iff _ _).2 (h.1 hz)]; simp [hz]
  · have : sameV T U = false := bool_no (sameV_iff _ _) (fun e => hz (h.2 e))
    rw [this]; simp [hz]
/-- What the law asks of three values that may be. -/
theorem three_cmp (T U V : VT) : cmpV U T = - cmpV T U ∧ (cmpV T U ≤ 0 → cmpV U V ≤ 0 → cmpV T V ≤ 0 ∧ (cmpV T V = 0 ↔ cmpV T U = 0 ∧ cmpV U V = 0)) :=
  ⟨cmpV_is.turn T U, fun h1 h2 => ⟨(cmpV_is.tr T U V h1 h2).1, (cmpV_is.tr T U V h1 h2).2, fun ⟨a, b⟩ => cmpV_is.eqv a b⟩⟩
set_option maxRecDepth 20000 in
set_option maxHeartbeats 4000000 in
theorem corders_any (w : World) (T U V : VT) (B : Nat) (hL1 : Lie w B T) (hL2 : Lie w B U) (hL3 : Lie w B V) (hB : B ≤ w.heap.size) (htab : UTab w) (hst : STab w) (hr : RTab w) :
    Calls Tryd.prog 6 #[T.agg, U.agg, V.agg] w fun e w' => e = .returned (.bool true) ∧ Below w.heap.size w w' := by
  have HTx := Lib.hid (fun W (h : Below w.heap.size w W) => (⟨htab.below h htab.lt, hst.below h hst.lt, hr.below h hr.lt⟩ : UTab W ∧ STab W ∧ RTab W))
  have H12 := Lib.hid (fun W (h : Below w.heap.size w W) => compareP_any T U B W (hL1.later (h.mono hB)) (hL2.later (h.mono hB)) (Nat.le_trans hB h.size) (HTx.out W h).1 (HTx.out W h).2.1 (HTx.out W h).2.2)
  have H21 := Lib.hid (fun W (h : Below w.heap.size w W) => compareP_any U T B W (hL2.later (h.mono hB)) (hL1.later (h.mono hB)) (Nat.le_trans hB h.size) (HTx.out W h).1 (HTx.out W h).2.1 (HTx.out W h).2.2)
  have H23 := Lib.hid (fun W (h : Below w.heap.size w W) => compareP_any U V B W (hL2.later (h.mono hB)) (hL3.later (h.mono hB)) (Nat.le_trans hB h.size) (HTx.out W h).1 (HTx.out W h).2.1 (HTx.out W h).2.2)
  have H13 := Lib.hid (fun W (h : Below w.heap.size w W) => compareP_any T V B W (hL1.later (h.mono hB)) (hL3.later (h.mono hB)) (Nat.le_trans hB h.size) (HTx.out W h).1 (HTx.out W h).2.1 (HTx.out W h).2.2)
  have HS := Lib.hid (fun W (h : Below w.heap.size w W) => same_any B W T U (hL1.later (h.mono hB)) (hL2.later (h.mono hB)) (Nat.le_trans hB h.size) (HTx.out W h).1 (HTx.out W h).2.1)
  have HSz := Lib.hid (fun (h1 : T.ok = true) (h2 : U.ok = true) => same_zero hL1 hL2 h1 h2)
  have H3 := Lib.hid (three_cmp T U V)
  have HO1 := Lib.hid (cmpV_is.ones T U)
  have HO2 := Lib.hid (cmpV_is.ones U V)
  have HO3 := Lib.hid (cmpV_is.ones T V)
  have HW := Lib.hid (fun W (h : Below w.heap.size w W) => cwakes_any W (HTx.out W h).1 (HTx.out W h).2.1 (HTx.out W h).2.2)
  unfold CmpP at H12 H21 H23 H13
  clear hL1 hL2 hL3 htab hst hr HTx
  generalize sameR T U = sb at *
  generalize cmpV T U = vab at *
  generalize cmpV U T = vba at *
  generalize cmpV U V = vbc at *
  generalize cmpV T V = vac at *
  generalize T.ok = ok1 at *
  generalize U.ok = ok2 at *
  generalize V.ok = ok3 at *
  obtain ⟨k, n, s, cA, cn, cc, kA, kn, kc, keys, kids⟩ := T
  obtain ⟨k', n', s', cA', cn', cc', kA', kn', kc', keys', kids'⟩ := U
  obtain ⟨k2, n2, s2, cA2, cn2, cc2, kA2, kn2, kc2, keys2, kids2⟩ := V
  simp only [VT.agg] at H12 H21 H23 H13 HS ⊢
  have hb1 := bel_alloc (bel_alloc (bel_alloc (Below.refl w.heap.size w) (.cells #[.int .i64 k, .int .i64 n, .string s, .slice cA cn cc, .slice kA kn kc] 25)) (.cells #[.int .i64 k', .int .i64 n', .string s', .slice cA' cn' cc', .slice kA' kn' kc'] 25)) (.cells #[.int .i64 k2, .int .i64 n2, .string s2, .slice cA2 cn2 cc2, .slice kA2 kn2 kc2] 25)
  have HA := Lib.hid (((VFive.new w (.int .i64 k) (.int .i64 n) (.string s) (.slice cA cn cc) (.slice kA kn kc) 25 w.heap.size rfl).alloc (.cells #[.int .i64 k', .int .i64 n', .string s', .slice cA' cn' cc', .slice kA' kn' kc'] 25)).alloc (.cells #[.int .i64 k2, .int .i64 n2, .string s2, .slice cA2 cn2 cc2, .slice kA2 kn2 kc2] 25))
  have HB := Lib.hid ((VFive.new (w.alloc (.cells #[.int .i64 k, .int .i64 n, .string s, .slice cA cn cc, .slice kA kn kc] 25)) (.int .i64 k') (.int .i64 n') (.string s') (.slice cA' cn' cc') (.slice kA' kn' kc') 25 (w.heap.size + 1) (World.size_alloc _ _)).alloc (.cells #[.int .i64 k2, .int .i64 n2, .string s2, .slice cA2 cn2 cc2, .slice kA2 kn2 kc2] 25))
  have HC := Lib.hid (VFive.new ((w.alloc (.cells #[.int .i64 k, .int .i64 n, .string s, .slice cA cn cc, .slice kA kn kc] 25)).alloc (.cells #[.int .i64 k', .int .i64 n', .string s', .slice cA' cn' cc', .slice kA' kn' kc'] 25)) (.int .i64 k2) (.int .i64 n2) (.string s2) (.slice cA2 cn2 cc2) (.slice kA2 kn2 kc2) 25 (w.heap.size + 2) (by simp))
  go_enter Tryd.func6, Tryd.ntmps6
  go_upto_region 1 with fail
  generalize (((w.alloc (.cells #[.int .i64 k, .int .i64 n, .string s, .slice cA cn cc, .slice kA kn kc] 25)).alloc (.cells #[.int .i64 k', .int .i64 n', .string s', .slice cA' cn' cc', .slice kA' kn' kc'] 25)).alloc (.cells #[.int .i64 k2, .int .i64 n2, .string s2, .slice cA2 cn2 cc2, .slice kA2 kn2 kc2] 25)) = w1 at *
  go_wp2_with fail
  refine (HW.out _ hb1).mono ?_
  rintro e w2 ⟨rfl, hn⟩
  have HA := Lib.hid (HA.out.later hn)
  have HB := Lib.hid (HB.out.later hn)
  have HC := Lib.hid (HC.out.later hn)
  have hb1 := bel_next hb1 hn
  clear hn
  clear HW
  obtain ⟨⟨a0, a1, a2, a3, a4⟩, -⟩ := HA.out
  obtain ⟨⟨b0, b1, b2, b3, b4⟩, -⟩ := HB.out
  obtain ⟨⟨c0, c1, c2, c3, c4⟩, -⟩ := HC.out
  go_wp2_with fail
  refine (H12.out _ hb1).mono ?_
  rintro e w3 ⟨ab, E1, rfl, HP1, hn⟩
  clear a0 a1 a2 a3 a4 b0 b1 b2 b3 b4 c0 c1 c2 c3 c4
  have HA := Lib.hid (HA.out.later hn)
  have HB := Lib.hid (HB.out.later hn)
  have HC := Lib.hid (HC.out.later hn)
  have hb1 := bel_next hb1 hn
  clear hn
  obtain ⟨⟨a0, a1, a2, a3, a4⟩, -⟩ := HA.out
  obtain ⟨⟨b0, b1, b2, b3, b4⟩, -⟩ := HB.out
  obtain ⟨⟨c0, c1, c2, c3, c4⟩, -⟩ := HC.out
  go_wp2_with fail
  refine (H21.out _ hb1).mono ?_
  rintro e w4 ⟨ba, E2, rfl, HP2, hn⟩
  clear a0 a1 a2 a3 a4 b0 b1 b2 b3 b4 c0 c1 c2 c3 c4
  have HA := Lib.hid (HA.out.later hn)
  have HB := Lib.hid (HB.out.later hn)
  have HC := Lib.hid (HC.out.later hn)
  have hb1 := bel_next hb1 hn
  clear hn
  obtain ⟨⟨a0, a1, a2, a3, a4⟩, -⟩ := HA.out
  obtain ⟨⟨b0, b1, b2, b3, b4⟩, -⟩ := HB.out
  obtain ⟨⟨c0, c1, c2, c3, c4⟩, -⟩ := HC.out
  go_wp2_with fail
  refine (H23.out _ hb1).mono ?_
  rintro e w5 ⟨bc, E3, rfl, HP3, hn⟩
  clear a0 a1 a2 a3 a4 b0 b1 b2 b3 b4 c0 c1 c2 c3 c4
  have HA := Lib.hid (HA.out.later hn)
  have HB := Lib.hid (HB.out.later hn)
  have HC := Lib.hid (HC.out.later hn)
  have hb1 := bel_next hb1 hn
  clear hn
  obtain ⟨⟨a0, a1, a2, a3, a4⟩, -⟩ := HA.out
  obtain ⟨⟨b0, b1, b2, b3, b4⟩, -⟩ := HB.out
  obtain ⟨⟨c0, c1, c2, c3, c4⟩, -⟩ := HC.out
  go_wp2_with fail
  refine (H13.out _ hb1).mono ?_
  rintro e w6 ⟨ac, E4, rfl, HP4, hn⟩
  clear a0 a1 a2 a3 a4 b0 b1 b2 b3 b4 c0 c1 c2 c3 c4
  have HA := Lib.hid (HA.out.later hn)
  have HB := Lib.hid (HB.out.later hn)
  have HC := Lib.hid (HC.out.later hn)
  have hb1 := bel_next hb1 hn
  clear hn
  obtain ⟨⟨a0, a1, a2, a3, a4⟩, -⟩ := HA.out
  obtain ⟨⟨b0, b1, b2, b3, b4⟩, -⟩ := HB.out
  obtain ⟨⟨c0, c1, c2, c3, c4⟩, -⟩ := HC.out
  clear H12 H21 H23 H13
  go_upto_region 7 with fail
  rcases HP1.out with ⟨h1, rfl, rfl⟩ | ⟨h1, rfl, rfl⟩
  · rcases HP3.out with ⟨h3, rfl, rfl⟩ | ⟨h3, rfl, rfl⟩
    · obtain ⟨rfl, rfl⟩ : ok1 = true ∧ ok2 = true := by simpa using h1
      obtain rfl : ok3 = true := by simpa using h3
      obtain ⟨rfl, rfl⟩ : ba = vba ∧ E2 = 0 := by
        rcases HP2.out with ⟨_, a, b⟩ | ⟨a, _⟩
        · exact ⟨a, b⟩
        · cases a
      obtain ⟨rfl, rfl⟩ : ac = vac ∧ E4 = 0 := by
        rcases HP4.out with ⟨_, a, b⟩ | ⟨a, _⟩
        · exact ⟨a, b⟩
        · cases a
      have hsz := HSz.out rfl rfl
      obtain ⟨q1, q2⟩ := H3.out
      subst hsz
      have o1 := HO1.out
      have o2 := HO2.out
      have o3 := HO3.out
      clear HP1 HP2 HP3 HP4 HSz H3 HO1 HO2 HO3 h1 h3
      have hall : (ab = -1 ∧ ba = 1 ∧ bc = -1 ∧ ac = -1) ∨ (ab = -1 ∧ ba = 1 ∧ bc = 0 ∧ ac = -1) ∨ (ab = -1 ∧ ba = 1 ∧ bc = 1) ∨ (ab = 0 ∧ ba = 0 ∧ bc = -1 ∧ ac = -1) ∨ (ab = 0 ∧ ba = 0 ∧ bc = 0 ∧ ac = 0) ∨ (ab = 0 ∧ ba = 0 ∧ bc = 1) ∨ (ab = 1 ∧ ba = -1) := by
        rcases o1 with h | h | h <;> rcases o2 with h2 | h2 | h2 <;> rcases o3 with h3 | h3 | h3 <;> subst h <;> subst h2 <;> subst h3 <;> simp at q1 q2 <;> simp [q1]
      have hs := HS.out _ hb1
      clear q1 q2 o1 o2 o3 HS
      rcases hall with ⟨rfl, rfl, rfl, rfl⟩ | ⟨rfl, rfl, rfl, rfl⟩ | ⟨rfl, rfl, rfl⟩ | ⟨rfl, rfl, rfl, rfl⟩ | ⟨rfl, rfl, rfl, rfl⟩ | ⟨rfl, rfl, rfl⟩ | ⟨rfl, rfl⟩
      all_goals
        go_wp2_with fail
        refine hs.mono ?_
        rintro e w7 ⟨rfl, hn⟩
        go_wp2
        go_ret
        exact ⟨rfl, bel_next hb1 hn⟩
    · obtain ⟨rfl, rfl⟩ : ok1 = true ∧ ok2 = true := by simpa using h1
      obtain rfl : E2 = 0 := by
        rcases HP2.out with ⟨_, a, b⟩ | ⟨a, _⟩
        · exact b
        · cases a
      clear HP1 HP2 HP3 HP4 HSz H3 HO1 HO2 HO3 h1 h3 HS
      go_wp2
      go_ret
      exact ⟨rfl, hb1⟩
  · have he2 : E2 = 140 := by
      rcases HP2.out with ⟨a, _⟩ | ⟨_, _, b⟩
      · rw [Bool.and_comm, a] at h1; cases h1
      · exact b
    subst he2
    have hE3 : E3 = 0 ∨ E3 = 140 := by
      rcases HP3.out with ⟨_, _, b⟩ | ⟨_, _, b⟩
      · exact .inl b
      · exact .inr b
    clear HP1 HP2 HP3 HP4 HSz H3 HO1 HO2 HO3 h1 HS
    go_wp2
    go_ret
    exact ⟨rfl, hb1⟩
theorem collateOrders_walk (W : World) (T : VT) (hT : Lie W W.heap.size T) (U : VT) (hU : Lie W W.heap.size U) (V : VT) (hV : Lie W W.heap.size V) (htab : UTab W ∧ STab W ∧ RTab W) :
    Calls Tryd.prog 6 #[T.agg, U.agg, V.agg] W fun e w' => e = .returned (.bool true) ∧ Below W.heap.size W w' :=
  corders_any W T U V W.heap.size hT hU hV (Nat.le_refl _) htab.1 htab.2.1 htab.2.2
end Go.Proofs.YtndolgbbochpjaaDoor
/-
  Layer 1: the table of forms out of a row's condition: an array of structs of whole numbers holds what it reads as.
-/
namespace Go.Proofs.YtndolgbbochpjaaDoor
open Go.RowKit

section
variable {H : Type} {enc : TypeId × Value → H} {P : Program} {w : World} {base : Nat} {sp : Nat → Bool} {held : Bool} {k : IntKind}
def litRow (k : IntKind) (zs : List Int) : DataW H := .agg (zs.map fun z => .lit (.int k z))
theorem cells_of_struct {fuel : Nat} {t : TypeId} {fs : Array Field} {cs : List Value} {zs : List Int} {p : List MemPlace} (ht : P.underlying t = some (.struct fs)) (hn : P.cellsOf t = fs.size)
    (hf : ∀ (i : Nat) (f : Field), fs[i]? = some f → f.offset = i ∧ P.cellsOf f.type = 1 ∧ P.underlying f.type = some (.int k))
    (h : DataW.trod enc P w base sp held fuel t cs = some (litRow k zs, p)) : cs = zs.map fun z => Value.int k z := by
  obtain ⟨xs, n, _, hx, hl, hlen, hfx⟩ := DataW.trod_struct ht h
  have hxs : xs.map (·.1) = zs.map fun z => (DataW.lit (.int k z) : DataW H) := by
    have := congrArg Prod.fst hx
    simpa [litRow] using this.symm
  have hzl : zs.length = fs.size := by
    have := congrArg List.length hxs
    simp at this
    omega
  apply List.ext_getElem?
  intro i
  by_cases hi : i < fs.size
  · obtain ⟨h1, h2, h3⟩ := hf i fs[i] (Array.getElem?_eq_getElem hi)
    have hb := hfx i fs[i] (Array.getElem?_eq_getElem hi)
    rw [h1, h2, List.getElem?_eq_getElem (by omega)] at hb
    obtain ⟨z, hc, hz, _⟩ := DataW.trod_int h3 hb
    have e1 : cs[i]? = some (.int k z) := by
      have := congrArg (·[0]?) hc
      simpa [List.getElem?_take, List.getElem?_drop] using this
    have e2 : (xs.map (·.1))[i]? = some (DataW.lit (.int k z) : DataW H) := by
      rw [List.getElem?_map, List.getElem?_eq_getElem (by omega), hz]
      rfl
    rw [hxs] at e2
    simp only [List.getElem?_map, Option.map_eq_some_iff, DataW.lit.injEq, Lit.int.injEq, true_and] at e2
    obtain ⟨z', hz', rfl⟩ := e2
    simp [e1, hz']
  · rw [List.getElem?_eq_none (by omega), List.getElem?_eq_none (by simp; omega)]
theorem cells_of_rows {fuel : Nat} {t e : TypeId} {n m : Nat} {cs : List Value} {rows : List (List Int)} {p : List MemPlace} (ht : P.underlying t = some (.array n e)) (he : P.cellsOf e = m) (hct : P.cellsOf t = n * m)
    (hs : ∀ (cs' : List Value) (fuel' : Nat) (zs : List Int) (p' : List MemPlace), DataW.trod enc P w base sp held fuel' e cs' = some (litRow k zs, p') → cs' = zs.map fun z => Value.int k z)
    (h : DataW.trod enc P w base sp held fuel t cs = some (.agg (rows.map (litRow k)), p)) :
    cs.length = n * m ∧ rows.length = n ∧ ∀ i r, rows[i]? = some r → (cs.drop (i * m)).take m = r.map fun z => Value.int k z := by
  cases fuel with
  | zero => simp [DataW.trod] at h
  | succ fuel =>
    simp only [DataW.trod, ht, he, hct] at h
    split at h
    · rename_i hl
      obtain ⟨xs, hm, hx⟩ := Option.map_eq_some_iff.1 h
      have hxs : xs.map (·.1) = rows.map (litRow k) := by
        have := congrArg Prod.fst hx
        simpa using this
      have hxl : xs.length = n := by simpa using Lib.mapM_length hm
      have hzl : rows.length = n := by
        have := congrArg List.length hxs
        simp at this
        omega
      refine ⟨hl, hzl, fun i r hr => ?_⟩
      have hi : i < n := by rw [← hzl]; exact (List.getElem?_eq_some_iff.1 hr).1
      obtain ⟨b, hb, hf⟩ := Lib.mapM_at hm i i (by simp [hi])
      have h2 : (xs.map (·.1))[i]? = some (litRow k r) := by rw [hxs, List.getElem?_map, hr]; rfl
      rw [List.getElem?_map, hb] at h2
      have h3 : b.1 = litRow k r := by simpa using h2
      obtain ⟨b1, b2⟩ := b
      subst h3
      exact hs _ _ _ _ hf
    · cases h
end
theorem four (cs : List Value) (h : cs.length = 16) : cs = (cs.drop (0 * 4)).take 4 ++ ((cs.drop (1 * 4)).take 4 ++ ((cs.drop (2 * 4)).take 4 ++ (cs.drop (3 * 4)).take 4)) := by
  have e3 : (cs.drop (3 * 4)).take 4 = cs.drop 12 := List.take_of_length_le (by simp; omega)
  have e2 : (cs.drop (2 * 4)).take 4 ++ cs.drop 12 = cs.drop 8 := by
    have := List.take_append_drop 4 (cs.drop 8)
    rwa [List.drop_drop] at this
  have e1 : (cs.drop (1 * 4)).take 4 ++ cs.drop 8 = cs.drop 4 := by
    have := List.take_append_drop 4 (cs.drop 4)
    rwa [List.drop_drop] at this
  rw [e3, e2, e1]
  simp
set_option maxRecDepth 20000 in
theorem form_rows {W : World} {fuel : Nat} {cs : List Value} {zs : List Int} {p : List MemPlace} (h : DataW.trod (fun _ => ()) Tryd.prog W 0 (fun _ => true) false fuel 113 cs = some (litRow .i64 zs, p)) : cs = zs.map fun z => Value.int .i64 z :=
  cells_of_struct Tryd.underlying113 (by kernel_rfl) (fun i f hf => by
    match i, hf with
    | 0, hf => cases hf; exact ⟨rfl, by kernel_rfl, Tryd.underlying3⟩
    | 1, hf => cases hf; exact ⟨rfl, by kernel_rfl, Tryd.underlying3⟩
    | 2, hf => cases hf; exact ⟨rfl, by kernel_rfl, Tryd.underlying3⟩
    | 3, hf => cases hf; exact ⟨rfl, by kernel_rfl, Tryd.underlying3⟩
    | i + 4, hf => simp at hf) h
set_option maxRecDepth 20000 in
theorem gForms : Tryd.prog.globalNamed "davenport/utf.forms" = some 2 := by kernel_rfl
set_option maxRecDepth 20000 in
theorem gFormsType : (Tryd.prog.globals[2]?).map (·.type) = some 116 := by kernel_rfl
set_option maxRecDepth 20000 in
/-- The condition of a row gives the table. -/
theorem utab_of {W : World} (h : Lib.VarReads Tryd.prog W "davenport/utf.forms" Rows.laid_davenport_utf_forms) : UTab W := by
  obtain ⟨g', t', cs, fuel, p, hg', ht', hvar, hd⟩ := h
  obtain rfl := Option.some.inj (gForms.symm.trans hg')
  obtain rfl := Option.some.inj (gFormsType.symm.trans ht')
  obtain ⟨hl, -, hr⟩ := cells_of_rows (k := .i64) (m := 4) (rows := [[0, 127, 1, 0], [128, 2047, 2, 192], [2048, 65535, 3, 224], [65536, 1114111, 4, 240]]) Tryd.underlying116 (by kernel_rfl) (by kernel_rfl) (fun cs' f' zs p' h' => form_rows h') hd
  have e := four cs.toList hl
  rw [hr 0 _ rfl, hr 1 _ rfl, hr 2 _ rfl, hr 3 _ rfl] at e
  intro i v hi
  have hc := World.var?_cell gForms hvar i
  rw [Nat.zero_add, hc, ← Array.getElem?_toList, e]
  exact hi
end Go.Proofs.YtndolgbbochpjaaDoor
/-
  A laid variable that is an array of structs of mixed kinds: its cells, out of what it reads as.
-/
namespace Go.Proofs.YtndolgbbochpjaaDoor
open Go.RowKit

section
variable {H : Type} {enc : TypeId × Value → H} {P : Program} {w : World} {base : Nat} {sp : Nat → Bool} {held : Bool}
theorem cells_of_rowsG {R : Type} {F : R → DataW H} {V : R → List Value} {fuel : Nat} {t e : TypeId} {n m : Nat} {cs : List Value} {rows : List R} {p : List MemPlace} (ht : P.underlying t = some (.array n e)) (he : P.cellsOf e = m) (hct : P.cellsOf t = n * m)
    (hs : ∀ (cs' : List Value) (fuel' : Nat) (r : R) (p' : List MemPlace), DataW.trod enc P w base sp held fuel' e cs' = some (F r, p') → cs' = V r)
    (h : DataW.trod enc P w base sp held fuel t cs = some (.agg (rows.map F), p)) :
    cs.length = n * m ∧ rows.length = n ∧ ∀ i r, rows[i]? = some r → (cs.drop (i * m)).take m = V r := by
  cases fuel with
  | zero => simp [DataW.trod] at h
  | succ fuel =>
    simp only [DataW.trod, ht, he, hct] at h
    split at h
    · rename_i hl
      obtain ⟨xs, hm, hx⟩ := Option.map_eq_some_iff.1 h
      have hxs : xs.map (·.1) = rows.map F := by
        have := congrArg Prod.fst hx
        simpa using this
      have hxl : xs.length = n := by simpa using Lib.mapM_length hm
      have hzl : rows.length = n := by
        have := congrArg List.length hxs
        simp at this
        omega
      refine ⟨hl, hzl, fun i r hr => ?_⟩
      have hi : i < n := by rw [← hzl]; exact (List.getElem?_eq_some_iff.1 hr).1
      obtain ⟨b, hb, hf⟩ := Lib.mapM_at hm i i (by simp [hi])
      have h2 : (xs.map (·.1))[i]? = some (F r) := by rw [hxs, List.getElem?_map, hr]; rfl
      rw [List.getElem?_map, hb] at h2
      have h3 : b.1 = F r := by simpa using h2
      obtain ⟨b1, b2⟩ := b
      subst h3
      exact hs _ _ _ _ hf
    · cases h
end
theorem chunk {cs L : List Value} {q m r : Nat} {v : Value} (h : (cs.drop (q * m)).take m = L) (hv : L[r]? = some v) : cs[q * m + r]? = some v := by
  rw [← h, List.getElem?_take] at hv
  split at hv
  · rwa [List.getElem?_drop] at hv
  · cases hv
end Go.Proofs.YtndolgbbochpjaaDoor
/-
  Layer 4: the table of shapes out of a row's condition.
-/
namespace Go.Proofs.YtndolgbbochpjaaDoor
open Go.RowKit
set_option linter.unusedVariables false

theorem six_of {α : Type} (l : List α) (h : l.length = 6) : ∃ a b c d e f, l = [a, b, c, d, e, f] := by
  match l, h with
  | [a, b, c, d, e, f], _ => exact ⟨a, b, c, d, e, f, rfl⟩
/-- A row of the table, as it reads and as it lies. -/
def shpF (r : Bool × Bool × Int × Bool × Bool × Bool) : DataW Unit := .agg [.lit (.bool r.1), .lit (.bool r.2.1), .lit (.int .i64 r.2.2.1), .lit (.bool r.2.2.2.1), .lit (.bool r.2.2.2.2.1), .lit (.bool r.2.2.2.2.2)]
def shpV (r : Bool × Bool × Int × Bool × Bool × Bool) : List Value := [.bool r.1, .bool r.2.1, .int .i64 r.2.2.1, .bool r.2.2.2.1, .bool r.2.2.2.2.1, .bool r.2.2.2.2.2]
set_option maxRecDepth 20000 in
theorem shp_rows {W : World} {fuel : Nat} {cs : List Value} {r : Bool × Bool × Int × Bool × Bool × Bool} {p : List MemPlace} (h : DataW.trod (fun _ => ()) Tryd.prog W 0 (fun _ => true) false fuel 100 cs = some (shpF r, p)) : cs = shpV r := by
  obtain ⟨xs, n, _, hx, hl, hlen, hfx⟩ := DataW.trod_struct Tryd.underlying100 h
  have hxs : xs.map (·.1) = [.lit (.bool r.1), .lit (.bool r.2.1), .lit (.int .i64 r.2.2.1), .lit (.bool r.2.2.2.1), .lit (.bool r.2.2.2.2.1), .lit (.bool r.2.2.2.2.2)] := by
    have := congrArg Prod.fst hx
    simpa [shpF] using this.symm
  have hxl : xs.length = 6 := by
    have := congrArg List.length hxs
    simpa using this
  obtain ⟨x0, x1, x2, x3, x4, x5, rfl⟩ := six_of xs hxl
  injection hxs with e0 hxs
  injection hxs with e1 hxs
  injection hxs with e2 hxs
  injection hxs with e3 hxs
  injection hxs with e4 hxs
  injection hxs with e5 _
  obtain ⟨z0, c0, d0⟩ := DataW.trod_bool Tryd.underlying4 (hfx 0 _ rfl)
  obtain ⟨z1, c1, d1⟩ := DataW.trod_bool Tryd.underlying4 (hfx 1 _ rfl)
  obtain ⟨z2, c2, d2, _⟩ := DataW.trod_int Tryd.underlying2 (hfx 2 _ rfl)
  obtain ⟨z3, c3, d3⟩ := DataW.trod_bool Tryd.underlying4 (hfx 3 _ rfl)
  obtain ⟨z4, c4, d4⟩ := DataW.trod_bool Tryd.underlying4 (hfx 4 _ rfl)
  obtain ⟨z5, c5, d5⟩ := DataW.trod_bool Tryd.underlying4 (hfx 5 _ rfl)
  have hl' : cs.length = 6 := hl.trans (by kernel_rfl)
  have kb : Tryd.prog.cellsOf 4 = 1 := by kernel_rfl
  have ki : Tryd.prog.cellsOf 2 = 1 := by kernel_rfl
  obtain ⟨a, b, c, d, e, f, rfl⟩ := six_of cs hl'
  have c0' : List.take (Tryd.prog.cellsOf 4) [a, b, c, d, e, f] = _ := c0
  have c1' : List.take (Tryd.prog.cellsOf 4) [b, c, d, e, f] = _ := c1
  have c2' : List.take (Tryd.prog.cellsOf 2) [c, d, e, f] = _ := c2
  have c3' : List.take (Tryd.prog.cellsOf 4) [d, e, f] = _ := c3
  have c4' : List.take (Tryd.prog.cellsOf 4) [e, f] = _ := c4
  have c5' : List.take (Tryd.prog.cellsOf 4) [f] = _ := c5
  rw [kb] at c0' c1' c3' c4' c5'
  rw [ki] at c2'
  clear c0 c1 c2 c3 c4 c5
  simp only [List.take_succ_cons, List.take_zero, List.cons.injEq, and_true] at c0' c1' c2' c3' c4' c5'
  subst c0' c1' c2' c3' c4' c5'
  rw [d0] at e0
  rw [d1] at e1
  rw [d2] at e2
  rw [d3] at e3
  rw [d4] at e4
  rw [d5] at e5
  injection e0 with e0
  injection e1 with e1
  injection e2 with e2
  injection e3 with e3
  injection e4 with e4
  injection e5 with e5
  injection e0 with e0
  injection e1 with e1
  injection e2 with _ e2
  injection e3 with e3
  injection e4 with e4
  injection e5 with e5
  subst e0 e1 e2 e3 e4 e5
  rfl
set_option maxRecDepth 20000 in
theorem gShp : Tryd.prog.globalNamed "davenport/value.shapes" = some 1 := by kernel_rfl
set_option maxRecDepth 20000 in
theorem gShpType : (Tryd.prog.globals[1]?).map (·.type) = some 101 := by kernel_rfl
set_option maxRecDepth 20000 in
/-- The condition of a row gives the table. -/
theorem stab_of {W : World} (h : Lib.VarReads Tryd.prog W "davenport/value.shapes" Rows.laid_davenport_value_shapes) : STab W := by
  obtain ⟨g', t', cs, fuel, p, hg', ht', hvar, hd⟩ := h
  obtain rfl := Option.some.inj (gShp.symm.trans hg')
  obtain rfl := Option.some.inj (gShpType.symm.trans ht')
  obtain ⟨hl, -, hr⟩ := cells_of_rowsG (m := 6) (F := shpF) (V := shpV) (rows := [(false, false, 0, false, false, false), (true, false, 0, false, false, false), (true, false, 1, false, false, false), (true, true, 0, false, false, false), (true, false, 0, true, false, false), (true, false, 0, false, false, true), (true, false, 0, false, true, true)]) Tryd.underlying101 (by kernel_rfl) (by kernel_rfl) (fun cs' f' zs p' h' => shp_rows h') hd
  intro i v hi
  have hc := World.var?_cell gShp hvar i
  rw [Nat.zero_add, hc, ← Array.getElem?_toList]
  have hi42 : i < 42 := (List.getElem?_eq_some_iff.1 hi).1
  match i, hi42, hi with
  | 0, _, hi => exact (chunk (q := 0) (m := 6) (r := 0) (hr 0 _ rfl) rfl).trans hi
  | 1, _, hi => exact (chunk (q := 0) (m := 6) (r := 1) (hr 0 _ rfl) rfl).trans hi
  | 2, _, hi => exact (chunk (q := 0) (m := 6) (r := 2) (hr 0 _ rfl) rfl).trans hi
  | 3, _, hi => exact (chunk (q := 0) (m := 6) (r := 3) (hr 0 _ rfl) rfl).trans hi
  | 4, _, hi => exact (chunk (q := 0) (m := 6) (r := 4) (hr 0 _ rfl) rfl).trans hi
  | 5, _, hi => exact (chunk (q := 0) (m := 6) (r := 5) (hr 0 _ rfl) rfl).trans hi
  | 6, _, hi => exact (chunk (q := 1) (m := 6) (r := 0) (hr 1 _ rfl) rfl).trans hi
  | 7, _, hi => exact (chunk (q := 1) (m := 6) (r := 1) (hr 1 _ rfl) rfl).trans hi
  | 8, _, hi => exact (chunk (q := 1) (m := 6) (r := 2) (hr 1 _ rfl) rfl).trans hi
  | 9, _, hi => exact (chunk (q := 1) (m := 6) (r := 3) (hr 1 _ rfl) rfl).trans hi
  | 10, _, hi => exact (chunk (q := 1) (m := 6) (r := 4) (hr 1 _ rfl) rfl).trans hi
  | 11, _, hi => exact (chunk (q := 1) (m := 6) (r := 5) (hr 1 _ rfl) rfl).trans hi
  | 12, _, hi => exact (chunk (q := 2) (m := 6) (r := 0) (hr 2 _ rfl) rfl).trans hi
  | 13, _, hi => exact (chunk (q := 2) (m := 6) (r := 1) (hr 2 _ rfl) rfl).trans hi
  | 14, _, hi => exact (chunk (q := 2) (m := 6) (r := 2) (hr 2 _ rfl) rfl).trans hi
  | 15, _, hi => exact (chunk (q := 2) (m := 6) (r := 3) (hr 2 _ rfl) rfl).trans hi
  | 16, _, hi => exact (chunk (q := 2) (m := 6) (r := 4) (hr 2 _ rfl) rfl).trans hi
  | 17, _, hi => exact (chunk (q := 2) (m := 6) (r := 5) (hr 2 _ rfl) rfl).trans hi
  | 18, _, hi => exact (chunk (q := 3) (m := 6) (r := 0) (hr 3 _ rfl) rfl).trans hi
  | 19, _, hi => exact (chunk (q := 3) (m := 6) (r := 1) (hr 3 _ rfl) rfl).trans hi
  | 20, _, hi => exact (chunk (q := 3) (m := 6) (r := 2) (hr 3 _ rfl) rfl).trans hi
  | 21, _, hi => exact (chunk (q := 3) (m := 6) (r := 3) (hr 3 _ rfl) rfl).trans hi
  | 22, _, hi => exact (chunk (q := 3) (m := 6) (r := 4) (hr 3 _ rfl) rfl).trans hi
  | 23, _, hi => exact (chunk (q := 3) (m := 6) (r := 5) (hr 3 _ rfl) rfl).trans hi
  | 24, _, hi => exact (chunk (q := 4) (m := 6) (r := 0) (hr 4 _ rfl) rfl).trans hi
  | 25, _, hi => exact (chunk (q := 4) (m := 6) (r := 1) (hr 4 _ rfl) rfl).trans hi
  | 26, _, hi => exact (chunk (q := 4) (m := 6) (r := 2) (hr 4 _ rfl) rfl).trans hi
  | 27, _, hi => exact (chunk (q := 4) (m := 6) (r := 3) (hr 4 _ rfl) rfl).trans hi
  | 28, _, hi => exact (chunk (q := 4) (m := 6) (r := 4) (hr 4 _ rfl) rfl).trans hi
  | 29, _, hi => exact (chunk (q := 4) (m := 6) (r := 5) (hr 4 _ rfl) rfl).trans hi
  | 30, _, hi => exact (chunk (q := 5) (m := 6) (r := 0) (hr 5 _ rfl) rfl).trans hi
  | 31, _, hi => exact (chunk (q := 5) (m := 6) (r := 1) (hr 5 _ rfl) rfl).trans hi
  | 32, _, hi => exact (chunk (q := 5) (m := 6) (r := 2) (hr 5 _ rfl) rfl).trans hi
  | 33, _, hi => exact (chunk (q := 5) (m := 6) (r := 3) (hr 5 _ rfl) rfl).trans hi
  | 34, _, hi => exact (chunk (q := 5) (m := 6) (r := 4) (hr 5 _ rfl) rfl).trans hi
  | 35, _, hi => exact (chunk (q := 5) (m := 6) (r := 5) (hr 5 _ rfl) rfl).trans hi
  | 36, _, hi => exact (chunk (q := 6) (m := 6) (r := 0) (hr 6 _ rfl) rfl).trans hi
  | 37, _, hi => exact (chunk (q := 6) (m := 6) (r := 1) (hr 6 _ rfl) rfl).trans hi
  | 38, _, hi => exact (chunk (q := 6) (m := 6) (r := 2) (hr 6 _ rfl) rfl).trans hi
  | 39, _, hi => exact (chunk (q := 6) (m := 6) (r := 3) (hr 6 _ rfl) rfl).trans hi
  | 40, _, hi => exact (chunk (q := 6) (m := 6) (r := 4) (hr 6 _ rfl) rfl).trans hi
  | 41, _, hi => exact (chunk (q := 6) (m := 6) (r := 5) (hr 6 _ rfl) rfl).trans hi
end Go.Proofs.YtndolgbbochpjaaDoor
/-
  Layer 7: the table of ranks out of a row's condition.
-/
namespace Go.Proofs.YtndolgbbochpjaaDoor
open Go.RowKit
set_option linter.unusedVariables false

set_option maxRecDepth 20000 in
theorem gRk : Tryd.prog.globalNamed "davenport/collate.ranks" = some 0 := by kernel_rfl
set_option maxRecDepth 20000 in
theorem gRkType : (Tryd.prog.globals[0]?).map (·.type) = some 92 := by kernel_rfl
set_option maxRecDepth 20000 in
theorem rtab_of {W : World} (h : Lib.VarReads Tryd.prog W "davenport/collate.ranks" Rows.laid_davenport_collate_ranks) : RTab W := by
  obtain ⟨g', t', cs, fuel, p, hg', ht', hvar, hd⟩ := h
  obtain rfl := Option.some.inj (gRk.symm.trans hg')
  obtain rfl := Option.some.inj (gRkType.symm.trans ht')
  have hc : cs.toList = _ := Lib.cells_of_tab (zs := [0, 1, 2, 4, 5, 6, 7]) (k := .i64) (n := 7) (e := 3) (by kernel_rfl) Tryd.underlying3 (by kernel_rfl) (by kernel_rfl) hd
  intro i v hi
  have hc2 := World.var?_cell gRk hvar i
  rw [Nat.zero_add, hc2, ← Array.getElem?_toList, hc]
  exact hi
end Go.Proofs.YtndolgbbochpjaaDoor
