import Derived.Test.YtndolgbbochpjaaDoorGai
import Derived.Test.YtndolgbbochpjaaDoorGag
import Derived.Test.YtndolgbbochpjaaDoorGae
import Derived.Test.YtndolgbbochpjaaDoorGaa
/-
  Layer 7: the law's own wakes.
-/
namespace Go.Proofs.YtndolgbbochpjaaDoor
open Go.RowKit
set_option linter.unusedVariables false

section
variable {P : Program} {w : World} {o : Oper} {a : Act} {K : Act → World → Prop} {Q : Exit → Act → World → Prop}
theorem fillV1 (v0 v1 v2 v3 v4 : Value) (h : (Value.agg #[v0, v1, v2, v3, v4]).cells = #[v0, v1, v2, v3, v4]) : Instr.fill (fun q => some (q * 5, 5)) ((Array.range (1 * 5)).map ((scV 0 0 ⟨#[]⟩).agg.cells[· % (scV 0 0 ⟨#[]⟩).agg.cells.size]!)) [(0, .agg #[v0, v1, v2, v3, v4])] = some #[v0, v1, v2, v3, v4] := by
  have e : Array.range (1 * 5) = #[0, 1, 2, 3, 4] := by first | rfl | decide
  rw [e]
  simp [Instr.fill, h]
theorem fillV3 (v0 v1 v2 v3 v4 x0 x1 x2 x3 x4 y0 y1 y2 y3 y4 : Value) (h : (Value.agg #[v0, v1, v2, v3, v4]).cells = #[v0, v1, v2, v3, v4]) (hx : (Value.agg #[x0, x1, x2, x3, x4]).cells = #[x0, x1, x2, x3, x4]) (hy : (Value.agg #[y0, y1, y2, y3, y4]).cells = #[y0, y1, y2, y3, y4]) :
    Instr.fill (fun q => some (q * 5, 5)) ((Array.range (3 * 5)).map ((scV 0 0 ⟨#[]⟩).agg.cells[· % (scV 0 0 ⟨#[]⟩).agg.cells.size]!)) [(0, .agg #[v0, v1, v2, v3, v4]), (1, .agg #[x0, x1, x2, x3, x4]), (2, .agg #[y0, y1, y2, y3, y4])] = some #[v0, v1, v2, v3, v4, x0, x1, x2, x3, x4, y0, y1, y2, y3, y4] := by
  have e : Array.range (3 * 5) = #[0, 1, 2, 3, 4, 5, 6, 7, 8, 9, 10, 11, 12, 13, 14] := by first | rfl | decide
  rw [e]
  simp [Instr.fill, h, hx, hy]
/-- '[]T{..}'. -/
theorem step_rowN (t e : TypeId) (k : Nat) (xs : Array (Nat × Operand)) (ho : o.op = .buildSlice t k xs) (size : Nat) (i : TypeInfo) (z : Value) (ht : P.underlying t = some (.slice e)) (hi : P.info? e = some i) (hz : i.zero = some z) (hsize : i.size = size)
    (cells : Array Value) (hf : Instr.fill (fun q => some (q * size, size)) ((Array.range (k * size)).map (z.cells[· % z.cells.size]!)) (xs.toList.map fun p => (p.1, a.eval p.2)) = some cells) (hcs : cells.toList.length = k * size) (h0 : ¬ k * size = 0) (h24 : ¬ k * size > 2 ^ 24)
    (h : ∀ g w', w.heap.size ≤ g → Shows w' (g + 1) size (some ⟨g, 0, none⟩) k cells.toList → g + 1 ≤ w'.heap.size → Below w.heap.size w w' → K (a.put o.dst (.slice (some ⟨g, 0, none⟩) k k)) w') : o.wp P a w K Q := by
  refine wp_buildSlice t e k xs ho cells i z ht hi hz (by rw [hsize]; exact h24) (by rw [hsize]; exact h0) (by rw [hsize]; simpa using hf) ?_
  exact h w.heap.size (w.alloc (.cells cells e)) (Nat.le_refl _) (shows_new w cells e w.heap.size k size rfl hcs) (by rw [World.size_alloc]; exact Nat.le_refl _) ((Below.refl _ _).alloc (Nat.le_refl _) _)
end
theorem sortw_any (A : Option Addr) (g c B : Nat) (w : World) (h : Shows w B 5 (some ⟨g, 0, none⟩) 3 ([lsV A 1 c [inV 2], inV 7, scV 1 0 ⟨#[]⟩].flatMap VT.cells)) (hA : Shows w B 5 A 1 ([inV 2].flatMap VT.cells)) (hc : 1 ≤ c) (hcm : c ≤ 100) (hB : B ≤ w.heap.size) (htab : UTab w) (hst : STab w) (hr : RTab w) :
    Calls Tryd.prog 15 #[.slice (some ⟨g, 0, none⟩) 3 3] w fun e w' => ∃ A' c', e = .returned (.tuple #[.slice A' 3 c', .int .i64 0]) ∧ Hid (Shows w' w'.heap.size 5 A' 3 ([scV 1 0 ⟨#[]⟩, inV 7, lsV A 1 c [inV 2]].flatMap VT.cells)) ∧ Below w.heap.size w w' := by
  have hAn : A = none → c = 0 := fun e => by
    subst e
    obtain ⟨b, off, x, e, -⟩ := kids_at hA (by decide : 0 < 1)
    cases e
  have hL : ∀ x ∈ [lsV A 1 c [inV 2], inV 7, scV 1 0 ⟨#[]⟩], Lie w B x := by
    intro x hx
    simp only [List.mem_cons, List.not_mem_nil, or_false] at hx
    rcases hx with rfl | rfl | rfl
    · exact lie_lsS hA (fun x hx => by rw [List.mem_singleton] at hx; subst hx; exact lie_in _ _ _ (by decide)) hAn hc (Nat.le_trans hcm (by decide))
    · exact lie_in _ _ _ (by decide)
    · exact lie_sc _ _ _ _ _ (by decide) (by decide) (by decide)
  refine (sortT_any _ 3 3 B _ w h hL hB (by decide) (fun h => by cases h) (Nat.le_refl _) htab hst hr).mono ?_
  have hok : [lsV A 1 c [inV 2], inV 7, scV 1 0 ⟨#[]⟩].all VT.ok = true := by
    have := ints_ok A 1 c [2] (by decide)
    simp only [List.map_cons, List.map_nil] at this
    simp [this, in_ok, nil_ok]
  rintro e w' ⟨⟨h1, _⟩ | ⟨_, A', c', L2, rfl, HS, HP⟩, hb⟩
  · rw [hok] at h1; cases h1
  · obtain rfl := sort_wake HP.out.1 HP.out.2
    exact ⟨A', c', rfl, HS, hb⟩
theorem frontw_any (A : Option Addr) (c B : Nat) (w : World) (h : Shows w B 5 A 3 ([inV 1, inV 2, inV 3].flatMap VT.cells)) (hA : A = none → c = 0) (hc : 3 ≤ c) (hcm : c ≤ 100) (hB : B ≤ w.heap.size) (htab : UTab w) (hst : STab w) :
    Calls Tryd.prog 21 #[.agg #[.int .i64 5, .int .i64 0, .string ⟨#[]⟩, .slice A 3 c, .slice none 0 0], .int .i64 2] w fun e w' => e = .returned (.tuple #[.agg #[.int .i64 5, .int .i64 0, .string ⟨#[]⟩, .slice A 2 2, .slice none 0 0], .int .i64 0]) ∧ Below w.heap.size w w' := by
  refine (frontT_any (lsV A 3 c [inV 1, inV 2, inV 3]) 2 B w (lie_lsS h (fun x hx => by simp only [List.mem_cons, List.not_mem_nil, or_false] at hx; rcases hx with rfl | rfl | rfl <;> exact lie_in _ _ _ (by decide)) hA hc (Nat.le_trans hcm (by decide))) hB htab hst).mono ?_
  rintro e w' ⟨X, E, rfl, hP, hb⟩
  obtain ⟨rfl, rfl⟩ := front_wake hP.out
  exact ⟨rfl, hb⟩
theorem placew1_any (A : Option Addr) (c B : Nat) (w : World) (h : Shows w B 5 A 4 ([inV 1, inV 3, inV 3, inV 4].flatMap VT.cells)) (hB : B ≤ w.heap.size) (htab : UTab w) (hst : STab w) (hr : RTab w) :
    Calls Tryd.prog 16 #[.slice A 4 c, .agg #[.int .i64 3, .int .i64 3, .string ⟨#[]⟩, .slice none 0 0, .slice none 0 0]] w fun e w' => e = .returned (.tuple #[.int .i64 1, .int .i64 3, .int .i64 0]) ∧ Below w.heap.size w w' := by
  refine (placeT_any A 4 c B _ (inV 3) w h (fun x hx => by simp only [List.mem_cons, List.not_mem_nil, or_false] at hx; rcases hx with rfl | rfl | rfl | rfl <;> exact lie_in _ _ _ (by decide)) (lie_in _ _ _ (by decide)) hB (by decide) htab hst hr).mono ?_
  rintro e w' ⟨X, E, rfl, hP, hb⟩
  obtain ⟨rfl, rfl⟩ := place_wake1 hP.out
  exact ⟨rfl, hb⟩
theorem placew2_any (A : Option Addr) (c B : Nat) (w : World) (h : Shows w B 5 A 2 ([inV 2, inV 1].flatMap VT.cells)) (hB : B ≤ w.heap.size) (htab : UTab w) (hst : STab w) (hr : RTab w) :
    Calls Tryd.prog 16 #[.slice A 2 c, .agg #[.int .i64 3, .int .i64 1, .string ⟨#[]⟩, .slice none 0 0, .slice none 0 0]] w fun e w' => e = .returned (.tuple #[.int .i64 0, .int .i64 0, .int .i64 2]) ∧ Below w.heap.size w w' := by
  refine (placeT_any A 2 c B _ (inV 1) w h (fun x hx => by simp only [List.mem_cons, List.not_mem_nil, or_false] at hx; rcases hx with rfl | rfl <;> exact lie_in _ _ _ (by decide)) (lie_in _ _ _ (by decide)) hB (by decide) htab hst hr).mono ?_
  rintro e w' ⟨X, E, rfl, hP, hb⟩
  obtain ⟨rfl, rfl⟩ := place_wake2 hP.out
  exact ⟨rfl, hb⟩
theorem cmpw2_any (w : World) (htab : UTab w) (hst : STab w) (hr : RTab w) :
    Calls Tryd.prog 11 #[.agg #[.int .i64 0, .int .i64 0, .string ⟨#[]⟩, .slice none 0 0, .slice none 0 0], .agg #[.int .i64 3, .int .i64 1, .string ⟨#[]⟩, .slice none 0 0, .slice none 0 0]] w fun e w' => e = .returned (.tuple #[.int .i64 0, .int .i64 140]) ∧ Below w.heap.size w w' := by
  have h := compareT_any (scV 0 0 ⟨#[]⟩) (inV 1) w.heap.size w (lie_sc _ _ _ _ _ (by decide) (by decide) (by decide)) (lie_in _ _ _ (by decide)) (Nat.le_refl _) htab hst hr
  rw [cmp_wake2] at h
  exact h
theorem inC (n : Int) : (inV n).cells = [.int .i64 3, .int .i64 n, .string ⟨#[]⟩, .slice none 0 0, .slice none 0 0] := rfl
set_option maxRecDepth 20000 in
set_option maxHeartbeats 4000000 in
theorem cwakes_any (w : World) (htab : UTab w) (hst : STab w) (hr : RTab w) : Calls Tryd.prog 10 #[] w fun e w' => e = .returned (.bool true) ∧ Below w.heap.size w w' := by
  obtain ⟨iV, hiV, hzV, hsV, hbV⟩ := val_info
  have HTx := Lib.hid (fun W (h : Below w.heap.size w W) => (⟨htab.below h htab.lt, hst.below h hst.lt, hr.below h hr.lt⟩ : UTab W ∧ STab W ∧ RTab W))
  clear htab hst hr
  have hb1 := bel_alloc (Below.refl w.heap.size w) (.cells #[.int .i64 1, .int .i64 0, .string ⟨#[]⟩, .slice none 0 0, .slice none 0 0] 25)
  have HV := Lib.hid (VFive.new w (.int .i64 1) (.int .i64 0) (.string ⟨#[]⟩) (.slice none 0 0) (.slice none 0 0) 25 w.heap.size rfl)
  go_enter Tryd.func10, Tryd.ntmps10
  go_upto_region 2 with fail
  generalize (w.alloc (.cells #[.int .i64 1, .int .i64 0, .string ⟨#[]⟩, .slice none 0 0, .slice none 0 0] 25)) = w1 at *
  go_wp2_with fail
  refine (in_any 1 _).mono ?_
  rintro e w2 ⟨rfl, hb2⟩
  have hk := hb2
  have hb2 := bel_next hb1 hb2
  go_wp2_with fail
  refine (in_any 2 _).mono ?_
  rintro e w3 ⟨rfl, hb3⟩
  have hk := bel_next hk hb3
  have hb3 := bel_next hb2 hb3
  have S3 := Lib.hid (shows_new w3 #[.int .i64 3, .int .i64 1, .string ⟨#[]⟩, .slice none 0 0, .slice none 0 0, .int .i64 3, .int .i64 2, .string ⟨#[]⟩, .slice none 0 0, .slice none 0 0] 25 w3.heap.size 2 5 rfl rfl)
  have hb3a := bel_alloc hb3 (.cells #[.int .i64 3, .int .i64 1, .string ⟨#[]⟩, .slice none 0 0, .slice none 0 0, .int .i64 3, .int .i64 2, .string ⟨#[]⟩, .slice none 0 0, .slice none 0 0] 25)
  go_wp2_with fail
  refine (list1_any _ _ _ _).mono ?_
  rintro e w4 ⟨rfl, hb4⟩
  have hk := bel_next (bel_alloc hk _) hb4
  have S4 := Lib.hid ((S3.out.below (hb4.mono (by simp))).more (Nat.le_trans (by simp) hb4.size))
  have hb4 := bel_next hb3a hb4
  clear S3 hb3a
  go_wp2_with fail
  refine (in_any 1 _).mono ?_
  rintro e w5 ⟨rfl, hb5⟩
  have hk := bel_next hk hb5
  have S5 := Lib.hid ((S4.out.below hb5).more hb5.size)
  have hb5 := bel_next hb4 hb5
  clear S4
  have T5 := Lib.hid (shows_new w5 #[.int .i64 3, .int .i64 1, .string ⟨#[]⟩, .slice none 0 0, .slice none 0 0] 25 w5.heap.size 1 5 rfl rfl)
  have S5a := Lib.hid ((S5.out.alloc (Nat.le_refl _) (.cells #[.int .i64 3, .int .i64 1, .string ⟨#[]⟩, .slice none 0 0, .slice none 0 0] 25)).more (Nat.le_succ _))
  have hb5a := bel_alloc hb5 (.cells #[.int .i64 3, .int .i64 1, .string ⟨#[]⟩, .slice none 0 0, .slice none 0 0] 25)
  go_wp2_with fail
  refine (list1_any _ _ _ _).mono ?_
  rintro e w6 ⟨rfl, hb6⟩
  have hk := bel_next (bel_alloc hk _) hb6
  have T6 := (T5.out.below (hb6.mono (by simp))).more (Nat.le_trans (by simp) hb6.size)
  have S6 := (S5a.out.below (hb6.mono (by simp))).more (Nat.le_trans (by simp) hb6.size)
  have hb6 := bel_next hb5a hb6
  have hc := compareT_any (lsV (some ⟨w3.heap.size, 0, none⟩) 2 2 [inV 1, inV 2]) (lsV (some ⟨w5.heap.size, 0, none⟩) 1 1 [inV 1]) w6.heap.size w6 (lie_lsS S6 (fun x hx => by simp at hx; rcases hx with rfl | rfl <;> exact lie_in _ _ _ (by decide)) (fun h => by cases h) (Nat.le_refl _) (by decide)) (lie_lsS T6 (fun x hx => by simp at hx; subst hx; exact lie_in _ _ _ (by decide)) (fun h => by cases h) (Nat.le_refl _) (by decide)) (Nat.le_refl _) (HTx.out _ hb6).1 (HTx.out _ hb6).2.1 (HTx.out _ hb6).2.2
  rw [cmp_wake1] at hc
  simp only [VT.agg] at hc
  clear T5 S5 S5a T6 S6 hb5a hb2 hb3 hb4 hb5
  go_wp2_with fail
  refine hc.mono ?_
  rintro e w7 ⟨rfl, hb7⟩
  have hk := bel_next hk hb7
  have hb7 := bel_next hb6 hb7
  clear hc hb6
  go_upto_region 3 with fail
  have HV7 := Lib.hid (HV.out.later hk)
  have v0 : ∀ W, Below w7.heap.size w7 W → W.cell? ⟨w.heap.size, 0, none⟩ = some (.int .i64 1) := fun W h => (HV7.out.later h).1.1
  have v1 : ∀ W, Below w7.heap.size w7 W → W.cell? ⟨w.heap.size, 1, none⟩ = some (.int .i64 0) := fun W h => (HV7.out.later h).1.2.1
  have v2 : ∀ W, Below w7.heap.size w7 W → W.cell? ⟨w.heap.size, 2, none⟩ = some (.string ⟨#[]⟩) := fun W h => (HV7.out.later h).1.2.2.1
  have v3 : ∀ W, Below w7.heap.size w7 W → W.cell? ⟨w.heap.size, 3, none⟩ = some (.slice none 0 0) := fun W h => (HV7.out.later h).1.2.2.2.1
  have v4 : ∀ W, Below w7.heap.size w7 W → W.cell? ⟨w.heap.size, 4, none⟩ = some (.slice none 0 0) := fun W h => (HV7.out.later h).1.2.2.2.2
  have HT7 := Lib.hid (fun W (h : Below w7.heap.size w7 W) => HTx.out W (bel_next hb7 h))
  refine wp_region_held_drew (S := fun W => Below w7.heap.size w7 W) (by kernel_rfl) (below_drewN (Below.refl _ _) 1) (fun hHeld => ?_)
  refine rg_in 4 rfl (by kernel_rfl) (by kernel_rfl) (by kernel_rfl) (by rfl) (v := ?_) (fun _ _ _ h => h) hHeld (fun w hSw => ?_) ?_
  rotate_left
  · (try dsimp only at hSw); go_simp <;> (with_reducible rfl)
  (try simp only [Act.put, List.setIfInBounds_toArray, List.set_cons_zero, List.set_cons_succ])
  refine rg_do 0 rfl (by kernel_rfl) (by rfl) (fun K hK => ?_)
  go_simp
  (go_at_call 30; (with_reducible refine (in_any 2 _).mono ?_); (rintro e w100 ⟨rfl, hb0⟩))
  refine hK.out _ _ (S_call hb0 hHeld rfl) (fun hHeld => ?_)
  clear hK K
  (try simp only [Act.put, List.setIfInBounds_toArray, List.set_cons_zero, List.set_cons_succ])
  refine rg_do 1 rfl (by kernel_rfl) (by rfl) (fun K hK => ?_)
  refine step_rowN 22 25 1 _ rfl 5 iV _ Tryd.underlying22 hiV hzV hsV #[.int .i64 3, .int .i64 2, .string ⟨#[]⟩, .slice none 0 0, .slice none 0 0] (fillV1 _ _ _ _ _ rfl) rfl (by decide) (by decide) ?_
  intro g1 w101 hge1 sh1 hl1 hb1
  refine hK.out _ _ (S_call hb1 hHeld rfl) (fun hHeld => ?_)
  clear hK K
  (try simp only [Act.put, List.setIfInBounds_toArray, List.set_cons_zero, List.set_cons_succ])
  refine rg_do 2 rfl (by kernel_rfl) (by rfl) (fun K hK => ?_)
  go_simp
  (go_at_call 27; (with_reducible refine (list1_any _ _ _ _).mono ?_); (rintro e w102 ⟨rfl, hb2⟩))
  refine hK.out _ _ (S_call hb2 hHeld rfl) (fun hHeld => ?_)
  clear hK K
  (try simp only [Act.put, List.setIfInBounds_toArray, List.set_cons_zero, List.set_cons_succ])
  refine rg_do 3 rfl (by kernel_rfl) (by rfl) (fun K hK => ?_)
  go_simp
  (go_at_call 30; (with_reducible refine (in_any 7 _).mono ?_); (rintro e w103 ⟨rfl, hb3⟩))
  refine hK.out _ _ (S_call hb3 hHeld rfl) (fun hHeld => ?_)
  clear hK K
  (try simp only [Act.put, List.setIfInBounds_toArray, List.set_cons_zero, List.set_cons_succ])
  refine rg_do 5 rfl (by kernel_rfl) (by rfl) (fun K hK => ?_)
  refine step_rowN 22 25 3 _ rfl 5 iV _ Tryd.underlying22 hiV hzV hsV #[.int .i64 5, .int .i64 0, .string ⟨#[]⟩, .slice (some ⟨g1, 0, none⟩) 1 1, .slice none 0 0, .int .i64 3, .int .i64 7, .string ⟨#[]⟩, .slice none 0 0, .slice none 0 0, .int .i64 1, .int .i64 0, .string ⟨#[]⟩, .slice none 0 0, .slice none 0 0] (fillV3 _ _ _ _ _ _ _ _ _ _ _ _ _ _ _ rfl rfl rfl) rfl (by decide) (by decide) ?_
  intro g5 w105 hge5 sh5 hl5 hb5
  refine hK.out _ _ (S_call hb5 hHeld rfl) (fun hHeld => ?_)
  clear hK K
  (try simp only [Act.put, List.setIfInBounds_toArray, List.set_cons_zero, List.set_cons_succ])
  refine rg_do 6 rfl (by kernel_rfl) (by rfl) (fun K hK => ?_)
  have hso := sortw_any (some ⟨g1, 0, none⟩) g5 1 w105.heap.size w105 (sh5.more hl5) ((sh1.below ((bel_next (bel_next hb2 hb3) hb5).mono hl1)).more (Nat.le_trans hl1 (bel_next (bel_next hb2 hb3) hb5).size)) (by decide) (by decide) (Nat.le_refl _) (HT7.out _ hHeld).1 (HT7.out _ hHeld).2.1 (HT7.out _ hHeld).2.2
  go_simp
  (go_at_call 15; (with_reducible refine hso.mono ?_); (rintro e w106 ⟨A6, c6, rfl, HS6, hb6⟩))
  refine hK.out _ _ (S_call hb6 hHeld rfl) (fun hHeld => ?_)
  clear hK K
  (try simp only [Act.put, List.setIfInBounds_toArray, List.set_cons_zero, List.set_cons_succ])
  refine rg_in 7 rfl (by kernel_rfl) (by kernel_rfl) (by kernel_rfl) (by rfl) (v := ?_) (fun _ _ _ h => h) hHeld (fun w hSw => ?_) ?_
  rotate_left
  · (try dsimp only at hSw); go_simp <;> (with_reducible rfl)
  (try simp only [Act.put, List.setIfInBounds_toArray, List.set_cons_zero, List.set_cons_succ])
  refine rg_in 8 rfl (by kernel_rfl) (by kernel_rfl) (by kernel_rfl) (by rfl) (v := ?_) (fun _ _ _ h => h) hHeld (fun w hSw => ?_) ?_
  rotate_left
  · (try dsimp only at hSw); go_simp <;> (with_reducible rfl)
  (try simp only [Act.put, List.setIfInBounds_toArray, List.set_cons_zero, List.set_cons_succ])
  refine rg_in 9 rfl (by kernel_rfl) (by kernel_rfl) (by kernel_rfl) (by rfl) (v := ?_) (fun _ _ _ h => h) hHeld (fun w hSw => ?_) ?_
  rotate_left
  · (try dsimp only at hSw); go_simp <;> (with_reducible rfl)
  (try simp only [Act.put, List.setIfInBounds_toArray, List.set_cons_zero, List.set_cons_succ])
  refine rg_in 10 rfl (by kernel_rfl) (by kernel_rfl) (by kernel_rfl) (by rfl) (v := ?_) (fun _ _ _ h => h) hHeld (fun w hSw => ?_) ?_
  rotate_left
  · (try dsimp only at hSw); go_simp <;> (with_reducible rfl)
  (try simp only [Act.put, List.setIfInBounds_toArray, List.set_cons_zero, List.set_cons_succ])
  refine rg_in 11 rfl (by kernel_rfl) (by kernel_rfl) (by kernel_rfl) (by rfl) (v := ?_) (fun _ _ _ h => h) hHeld (fun w hSw => ?_) ?_
  rotate_left
  · (try dsimp only at hSw); go_simp <;> (with_reducible rfl)
  (try simp only [Act.put, List.setIfInBounds_toArray, List.set_cons_zero, List.set_cons_succ])
  refine wpAnyH_done (by kernel_rfl) ?_ _
  have hbA := bel_next hb7 hHeld
  clear v0 v1 v2 v3 v4 HV7 HV HT7 hk hb7 sh1 sh5 hso hge1 hge5 hl1 hl5 hb0 hb1 hb2 hb3 hb5 hb6
  go_wp2_with fail
  refine (in_any 1 _).mono ?_
  rintro e x1 ⟨rfl, hn⟩
  have HS6 := Lib.hid ((HS6.out.below hn).more hn.size)
  have hbA := bel_next hbA hn
  clear hn
  go_wp2_with fail
  refine (in_any 2 _).mono ?_
  rintro e x2 ⟨rfl, hn⟩
  have HS6 := Lib.hid ((HS6.out.below hn).more hn.size)
  have hbA := bel_next hbA hn
  clear hn
  go_wp2_with fail
  refine (in_any 3 _).mono ?_
  rintro e x3 ⟨rfl, hn⟩
  have HS6 := Lib.hid ((HS6.out.below hn).more hn.size)
  have hbA := bel_next hbA hn
  clear hn
  have R4 := shows_new x3 #[.int .i64 3, .int .i64 1, .string ⟨#[]⟩, .slice none 0 0, .slice none 0 0, .int .i64 3, .int .i64 2, .string ⟨#[]⟩, .slice none 0 0, .slice none 0 0, .int .i64 3, .int .i64 3, .string ⟨#[]⟩, .slice none 0 0, .slice none 0 0] 25 x3.heap.size 3 5 rfl rfl
  have hn0 := bel_alloc (Below.refl x3.heap.size x3) (.cells #[.int .i64 3, .int .i64 1, .string ⟨#[]⟩, .slice none 0 0, .slice none 0 0, .int .i64 3, .int .i64 2, .string ⟨#[]⟩, .slice none 0 0, .slice none 0 0, .int .i64 3, .int .i64 3, .string ⟨#[]⟩, .slice none 0 0, .slice none 0 0] 25)
  go_wp2_with fail
  refine (list1_any _ _ _ _).mono ?_
  rintro e x4 ⟨rfl, hn⟩
  have R4 := (R4.below (hn.mono (by simp))).more (Nat.le_trans (by simp) hn.size)
  have hn := bel_next hn0 hn
  have HS6 := Lib.hid ((HS6.out.below hn).more hn.size)
  have hbA := bel_next hbA hn
  clear hn hn0
  have hf := frontw_any (some ⟨x3.heap.size, 0, none⟩) 3 x4.heap.size x4 R4 (fun h => by cases h) (by decide) (by decide) (Nat.le_refl _) (HTx.out _ hbA).1 (HTx.out _ hbA).2.1
  clear R4
  go_wp2_with fail
  refine hf.mono ?_
  rintro e x5 ⟨rfl, hn⟩
  have HS6 := Lib.hid ((HS6.out.below hn).more hn.size)
  have hbA := bel_next hbA hn
  clear hn hf
  have HF := Lib.hid (VFive.new x5 (.int .i64 5) (.int .i64 0) (.string ⟨#[]⟩) (.slice (some ⟨x3.heap.size, 0, none⟩) 2 2) (.slice none 0 0) 25 x5.heap.size rfl)
  have hn := bel_alloc (Below.refl x5.heap.size x5) (.cells #[.int .i64 5, .int .i64 0, .string ⟨#[]⟩, .slice (some ⟨x3.heap.size, 0, none⟩) 2 2, .slice none 0 0] 25)
  have HS6 := Lib.hid ((HS6.out.below hn).more hn.size)
  have hbA := bel_next hbA hn
  clear hn
  go_upto_region 5 with fail
  generalize (x5.alloc (.cells #[.int .i64 5, .int .i64 0, .string ⟨#[]⟩, .slice (some ⟨x3.heap.size, 0, none⟩) 2 2, .slice none 0 0] 25)) = y0 at *
  go_wp2_with fail
  refine (in_any 1 _).mono ?_
  rintro e x6 ⟨rfl, hn⟩
  have HS6 := Lib.hid ((HS6.out.below hn).more hn.size)
  have HF := Lib.hid (HF.out.later hn)
  have hbA := bel_next hbA hn
  clear hn
  go_wp2_with fail
  refine (in_any 3 _).mono ?_
  rintro e x7 ⟨rfl, hn⟩
  have HS6 := Lib.hid ((HS6.out.below hn).more hn.size)
  have HF := Lib.hid (HF.out.later hn)
  have hbA := bel_next hbA hn
  clear hn
  go_wp2_with fail
  refine (in_any 3 _).mono ?_
  rintro e x8 ⟨rfl, hn⟩
  have HS6 := Lib.hid ((HS6.out.below hn).more hn.size)
  have HF := Lib.hid (HF.out.later hn)
  have hbA := bel_next hbA hn
  clear hn
  go_wp2_with fail
  refine (in_any 4 _).mono ?_
  rintro e x9 ⟨rfl, hn⟩
  have HS6 := Lib.hid ((HS6.out.below hn).more hn.size)
  have HF := Lib.hid (HF.out.later hn)
  have hbA := bel_next hbA hn
  clear hn
  have R5 := shows_new x9 #[.int .i64 3, .int .i64 1, .string ⟨#[]⟩, .slice none 0 0, .slice none 0 0, .int .i64 3, .int .i64 3, .string ⟨#[]⟩, .slice none 0 0, .slice none 0 0, .int .i64 3, .int .i64 3, .string ⟨#[]⟩, .slice none 0 0, .slice none 0 0, .int .i64 3, .int .i64 4, .string ⟨#[]⟩, .slice none 0 0, .slice none 0 0] 25 x9.heap.size 4 5 rfl rfl
  have hn0 := bel_alloc (Below.refl x9.heap.size x9) (.cells #[.int .i64 3, .int .i64 1, .string ⟨#[]⟩, .slice none 0 0, .slice none 0 0, .int .i64 3, .int .i64 3, .string ⟨#[]⟩, .slice none 0 0, .slice none 0 0, .int .i64 3, .int .i64 3, .string ⟨#[]⟩, .slice none 0 0, .slice none 0 0, .int .i64 3, .int .i64 4, .string ⟨#[]⟩, .slice none 0 0, .slice none 0 0] 25)
  go_wp2_with fail
  refine (in_any 3 _).mono ?_
  rintro e x10 ⟨rfl, hn⟩
  have R5 := (R5.below (hn.mono (by simp))).more (Nat.le_trans (by simp) hn.size)
  have hn := bel_next hn0 hn
  have HS6 := Lib.hid ((HS6.out.below hn).more hn.size)
  have HF := Lib.hid (HF.out.later hn)
  have hbA := bel_next hbA hn
  clear hn hn0
  have hp := placew1_any (some ⟨x9.heap.size, 0, none⟩) 4 x10.heap.size x10 R5 (Nat.le_refl _) (HTx.out _ hbA).1 (HTx.out _ hbA).2.1 (HTx.out _ hbA).2.2
  clear R5
  go_wp2_with fail
  refine hp.mono ?_
  rintro e x11 ⟨rfl, hn⟩
  have HS6 := Lib.hid ((HS6.out.below hn).more hn.size)
  have HF := Lib.hid (HF.out.later hn)
  have hbA := bel_next hbA hn
  clear hn hp
  go_wp2_with fail
  refine (in_any 1 _).mono ?_
  rintro e x12 ⟨rfl, hn⟩
  have HS6 := Lib.hid ((HS6.out.below hn).more hn.size)
  have HF := Lib.hid (HF.out.later hn)
  have hbA := bel_next hbA hn
  clear hn
  have hc := cmpw2_any x12 (HTx.out _ hbA).1 (HTx.out _ hbA).2.1 (HTx.out _ hbA).2.2
  go_wp2_with fail
  refine hc.mono ?_
  rintro e x13 ⟨rfl, hn⟩
  have HS6 := Lib.hid ((HS6.out.below hn).more hn.size)
  have HF := Lib.hid (HF.out.later hn)
  have hbA := bel_next hbA hn
  clear hn hc
  go_wp2_with fail
  refine (in_any 2 _).mono ?_
  rintro e x14 ⟨rfl, hn⟩
  have HS6 := Lib.hid ((HS6.out.below hn).more hn.size)
  have HF := Lib.hid (HF.out.later hn)
  have hbA := bel_next hbA hn
  clear hn
  go_wp2_with fail
  refine (in_any 1 _).mono ?_
  rintro e x15 ⟨rfl, hn⟩
  have HS6 := Lib.hid ((HS6.out.below hn).more hn.size)
  have HF := Lib.hid (HF.out.later hn)
  have hbA := bel_next hbA hn
  clear hn
  have R7 := shows_new x15 #[.int .i64 3, .int .i64 2, .string ⟨#[]⟩, .slice none 0 0, .slice none 0 0, .int .i64 3, .int .i64 1, .string ⟨#[]⟩, .slice none 0 0, .slice none 0 0] 25 x15.heap.size 2 5 rfl rfl
  have hn0 := bel_alloc (Below.refl x15.heap.size x15) (.cells #[.int .i64 3, .int .i64 2, .string ⟨#[]⟩, .slice none 0 0, .slice none 0 0, .int .i64 3, .int .i64 1, .string ⟨#[]⟩, .slice none 0 0, .slice none 0 0] 25)
  go_wp2_with fail
  refine (in_any 1 _).mono ?_
  rintro e x16 ⟨rfl, hn⟩
  have R7 := (R7.below (hn.mono (by simp))).more (Nat.le_trans (by simp) hn.size)
  have hn := bel_next hn0 hn
  have HS6 := Lib.hid ((HS6.out.below hn).more hn.size)
  have HF := Lib.hid (HF.out.later hn)
  have hbA := bel_next hbA hn
  clear hn hn0
  have hp := placew2_any (some ⟨x15.heap.size, 0, none⟩) 2 x16.heap.size x16 R7 (Nat.le_refl _) (HTx.out _ hbA).1 (HTx.out _ hbA).2.1 (HTx.out _ hbA).2.2
  clear R7
  go_wp2_with fail
  refine hp.mono ?_
  rintro e x17 ⟨rfl, hn⟩
  have HS6 := Lib.hid ((HS6.out.below hn).more hn.size)
  have HF := Lib.hid (HF.out.later hn)
  have hbA := bel_next hbA hn
  clear hn hp
  obtain ⟨b8, o8, rfl, _, hc8⟩ := HS6.out.2 (by decide)
  have n0 := hc8 0 (.int .i64 1) rfl
  have n1 := hc8 6 (.int .i64 7) rfl
  simp only [Nat.add_zero] at n0
  obtain ⟨⟨-, -, -, f3, -⟩, -⟩ := HF.out
  clear HS6 HF hc8
  go_wp2
  go_ret
  exact ⟨rfl, hbA⟩
end Go.Proofs.YtndolgbbochpjaaDoor
/-
  Layer 7, plain: fronts.
-/
namespace Go.Proofs.YtndolgbbochpjaaDoor
open Go.RowKit
set_option linter.unusedVariables false

theorem flat_take5 : ∀ (l : List VT) (m : Nat), (l.flatMap VT.cells).take (m * 5) = (l.take m).flatMap VT.cells
  | [], m => by simp
  | x :: l, 0 => by simp
  | x :: l, m + 1 => by
    rw [List.flatMap_cons, List.take_succ_cons, List.flatMap_cons, ← flat_take5 l m]
    have e : (m + 1) * 5 = x.cells.length + m * 5 := by rw [VT.cells_len]; omega
    rw [e, List.take_append, List.take_of_length_le (by omega), Nat.add_sub_cancel_left]
theorem front_lie {w : World} {B : Nat} {T : VT} (h : Lie w B T) (m : Nat) : Lie w B (frontV T m) := by
  obtain ⟨k, n, s, cA, cn, cc, kA, kn, kc, keys, kids⟩ := T
  by_cases hf : k = 5 ∧ m < cn
  · rw [show frontV (.mk k n s cA cn cc kA kn kc keys kids) m = .mk 5 0 ⟨#[]⟩ cA m m none 0 0 [] (kids.take m) from if_pos hf]
    cases h with
    | mk a1 a2 a3 a4 =>
      obtain ⟨_, _, _, h4, h5, h6, _⟩ := a3
      have hne : cA ≠ none := fun e => by
        subst e
        obtain ⟨b, off, x, h, -⟩ := kids_at a1 (show 0 < cn by omega)
        cases h
      have hs := a1.first (show m ≤ cn by omega)
      have hfl : (kids.flatMap VT.cells).take (m * 5) = (kids.take m).flatMap VT.cells := flat_take5 kids m
      rw [hfl] at hs
      exact .mk hs (Shows.zero none) ⟨by decide, by decide, by decide, Nat.le_refl _, by omega, fun e => absurd e hne, Nat.le_refl _, by decide, fun _ => rfl, by simp⟩ fun x hx => a4 x (List.mem_of_mem_take hx)
  · rw [show frontV (.mk k n s cA cn cc kA kn kc keys kids) m = .mk k n s cA cn cc kA kn kc keys kids from if_neg hf]
    exact h
theorem front_kids {w : World} {B : Nat} {T : VT} (h : Lie w B T) (hs : T.sized) (m : Nat) : (frontV T m).k = T.k ∧ (frontV T m).n = T.n ∧ (frontV T m).s = T.s ∧ (frontV T m).kids = (if T.k = 5 then T.kids.take m else T.kids) ∧ (frontV T m).keys = T.keys := by
  obtain ⟨f1, f2⟩ := fit_bare hs.1
  have hk := hs.2.2.1
  obtain ⟨k, n, s, cA, cn, cc, kA, kn, kc, keys, kids⟩ := T
  have hl : kids.length = cn := by
    cases h with
    | mk a1 a2 a3 a4 => exact kids_len a1
  simp only [VT.k, VT.n, VT.s, VT.keys] at f1 f2 hk
  by_cases hf : k = 5 ∧ m < cn
  · rw [show frontV (.mk k n s cA cn cc kA kn kc keys kids) m = .mk 5 0 ⟨#[]⟩ cA m m none 0 0 [] (kids.take m) from if_pos hf]
    obtain ⟨rfl, hm⟩ := hf
    exact ⟨rfl, (f1 (by decide) (by decide)).symm, (f2 (by decide)).symm, (if_pos rfl).symm, (hk (by decide)).symm⟩
  · rw [show frontV (.mk k n s cA cn cc kA kn kc keys kids) m = .mk k n s cA cn cc kA kn kc keys kids from if_neg hf]
    refine ⟨rfl, rfl, rfl, ?_, rfl⟩
    show kids = if k = 5 then kids.take m else kids
    by_cases h5 : k = 5
    · rw [if_pos h5, List.take_of_length_le (by omega)]
    · rw [if_neg h5]
theorem front_els {w : World} {B : Nat} {T : VT} (h : Lie w B T) (hs : T.sized) (m : Nat) : (frontV T m).els = if T.k = 5 then T.els.take m else T.els := by
  obtain ⟨a1, a2, a3, a4, a5⟩ := front_kids h hs m
  unfold VT.els
  rw [a1, a4, a5]
  by_cases h5 : T.k = 5
  · rw [if_pos h5, if_pos h5, if_neg (by omega), if_neg (by omega), List.map_take]
  · rw [if_neg h5, if_neg h5]
theorem front_e {w : World} {B : Nat} {T : VT} (h : Lie w B T) (hs : T.sized) (m : Nat) : (frontV T m).e = .mk T.k T.n T.s T.keys ((if T.k = 5 then T.kids.take m else T.kids).map VT.e) := by
  obtain ⟨a1, a2, a3, a4, a5⟩ := front_kids h hs m
  rw [e_of, a1, a2, a3, a4, a5]
theorem front_ok {w : World} {B : Nat} {T : VT} (h : Lie w B T) (hok : T.ok = true) (m : Nat) : (frontV T m).ok = true := by
  obtain ⟨k, n, s, cA, cn, cc, kA, kn, kc, keys, kids⟩ := T
  by_cases hf : k = 5 ∧ m < cn
  · rw [show frontV (.mk k n s cA cn cc kA kn kc keys kids) m = .mk 5 0 ⟨#[]⟩ cA m m none 0 0 [] (kids.take m) from if_pos hf]
    obtain ⟨rfl, hm⟩ := hf
    unfold VT.ok at hok ⊢
    simp only [Bool.and_eq_true, decide_eq_true_eq] at hok ⊢
    obtain ⟨h1, h2, h3⟩ := hok
    rw [dep_mk] at h1 ⊢
    rw [cnt_mk] at h2 ⊢
    rw [all_mk] at h3 ⊢
    simp only [Bool.and_eq_true, List.all_eq_true] at h3 ⊢
    have e := List.take_append_drop m kids
    rw [← e, List.map_append, maxL_append] at h1
    rw [← e, List.map_append, List.sum_append] at h2
    refine ⟨by omega, by omega, ?_, fun x hx => h3.2 x (List.mem_of_mem_take hx)⟩
    rw [fit_mk, strB_nil]
    have q1 : eleB 5 m = true := by unfold eleB eleQ shKids; simp
    have q2 : memB 5 m 0 [] = true := rfl
    rw [q1, q2]
    decide
  · rw [show frontV (.mk k n s cA cn cc kA kn kc keys kids) m = .mk k n s cA cn cc kA kn kc keys kids from if_neg hf]
    exact hok
theorem lex_front {α : Type} {f : α → α → Int} (hf : Cmp f) : ∀ (l : List α) (m : Nat), lexL f (l.take m) l ≤ 0
  | [], m => by simp [lexL]
  | x :: l, 0 => by simp [lexL]
  | x :: l, m + 1 => by
    rw [List.take_succ_cons, lexL, hf.self, thenI_0]
    exact lex_front hf l m
theorem lex_fronts {α : Type} {f : α → α → Int} (hf : Cmp f) : ∀ (l l' : List α) (m : Nat), lexL f l l' ≤ 0 → lexL f (l.take m) (l'.take m) ≤ 0
  | [], l', m, h => by
    rw [List.take_nil]
    cases l'.take m <;> simp [lexL]
  | x :: l, l', 0, h => by simp [lexL]
  | x :: l, [], m + 1, h => by simp [lexL] at h
  | x :: l, y :: l', m + 1, h => by
    rw [List.take_succ_cons, List.take_succ_cons, lexL]
    rw [lexL] at h
    unfold thenI at h ⊢
    by_cases hz : f x y = 0
    · rw [if_pos hz] at h ⊢
      exact lex_fronts hf l l' m h
    · rw [if_neg hz] at h ⊢
      exact h
theorem front_le {w : World} {B : Nat} {T : VT} (h : Lie w B T) (hok : T.ok = true) (m : Nat) : cmpV (frontV T m) T ≤ 0 := by
  have hs := Szd.sized (ok_szd h hok)
  obtain ⟨a1, a2, a3, -⟩ := front_kids h hs m
  have e := front_els h hs m
  have hr : rankV (frontV T m) = rankV T := by unfold rankV; rw [a1, a2]
  unfold cmpV
  rw [cmpF, hr, a2, a3, cmpQ_self, thenI_0, cmpQ_self, thenI_0, vcmp_self, thenI_0, e]
  by_cases h5 : T.k = 5
  · rw [if_pos h5]; exact lex_front (cmpE_is (cmpF_is 8)) _ _
  · rw [if_neg h5, (cmp_lex (cmpE_is (cmpF_is 8))).self]; exact Int.le_refl _
theorem fronts_le {w : World} {B : Nat} {T U : VT} (h : Lie w B T) (h' : Lie w B U) (hok : T.ok = true) (hok' : U.ok = true) (m : Nat) (hle : cmpV T U ≤ 0) : cmpV (frontV T m) (frontV U m) ≤ 0 := by
  have hs := Szd.sized (ok_szd h hok)
  have hs' := Szd.sized (ok_szd h' hok')
  obtain ⟨a1, a2, a3, -⟩ := front_kids h hs m
  obtain ⟨b1, b2, b3, -⟩ := front_kids h' hs' m
  have e := front_els h hs m
  have e' := front_els h' hs' m
  have hr : rankV (frontV T m) = rankV T := by unfold rankV; rw [a1, a2]
  have hr' : rankV (frontV U m) = rankV U := by unfold rankV; rw [b1, b2]
  unfold cmpV at hle ⊢
  rw [cmpF] at hle ⊢
  rw [hr, hr', a2, a3, b2, b3, e, e']
  by_cases hz : rankV T = rankV U
  · have hk := (rank_same hs.1 hs'.1 hz).1
    rw [hz, cmpQ_self, thenI_0] at hle ⊢
    rw [hk]
    by_cases h5 : U.k = 5
    · rw [if_pos h5, if_pos h5]
      have f1 := (fit_bare hs.1).1 (by omega) (by omega)
      have f2 := (fit_bare hs.1).2 (by omega)
      have g1 := (fit_bare hs'.1).1 (by omega) (by omega)
      have g2 := (fit_bare hs'.1).2 (by omega)
      rw [f1, g1, cmpQ_self, thenI_0, f2, g2, vcmp_self, thenI_0] at hle ⊢
      exact lex_fronts (cmpE_is (cmpF_is 8)) _ _ m hle
    · rw [if_neg h5, if_neg h5]
      exact hle
  · have hne : cmpQ (rankV T) (rankV U) ≠ 0 := fun e => hz (cmpQ_zero.1 e)
    unfold thenI at hle ⊢
    rw [if_neg hne] at hle ⊢
    exact hle
theorem fronts_same {w : World} {B : Nat} {T : VT} (h : Lie w B T) (hok : T.ok = true) (n m : Nat) : (frontV (frontV T n) m).e = (frontV T (min n m)).e := by
  have hs := Szd.sized (ok_szd h hok)
  have h2 := front_lie h n
  have hs2 := Szd.sized (ok_szd h2 (front_ok h hok n))
  obtain ⟨a1, a2, a3, a4, a5⟩ := front_kids h hs n
  rw [front_e h2 hs2 m, front_e h hs, a1, a2, a3, a4, a5]
  by_cases h5 : T.k = 5
  · rw [if_pos h5, if_pos h5, if_pos h5, List.take_take, Nat.min_comm]
  · rw [if_neg h5, if_neg h5, if_neg h5]
end Go.Proofs.YtndolgbbochpjaaDoor
/-
  Layer 7: the law's own some; where a value stands among values in order.
-/
namespace Go.Proofs.YtndolgbbochpjaaDoor
open Go.RowKit
set_option linter.unusedVariables false

theorem own_noneS {W : World} {b size n c : Nat} {e : TypeId} {A : Option Addr} {xs : List Value} (ho : W.ownsRow b e size (.slice A n c) n xs) : A = none → c = 0 := by
  intro hA
  rcases ho.2 with ⟨e, _⟩ | ⟨g, cap, cur, e, _⟩
  · injection e
  · injection e with e1; rw [hA] at e1; cases e1
theorem own_capS {W : World} {b size n c : Nat} {e : TypeId} {A : Option Addr} {xs : List Value} (ho : W.ownsRow b e size (.slice A n c) n xs) : n ≤ c := by
  rcases ho.2 with ⟨h, _⟩ | ⟨g, cap, cur, h, _, _, h1, h2, _⟩
  · injection h with h1 h2 h3; omega
  · injection h with e1 e2 e3; omega
set_option maxRecDepth 20000 in
set_option maxHeartbeats 1000000 in
theorem some_any (A0 : Option Addr) (n0 c0 B : Nat) (l0 : List VT) (w : World) (h0 : Shows w B 5 A0 n0 (l0.flatMap VT.cells)) (hB : B ≤ w.heap.size) (hc0 : n0 ≤ c0) (hM0 : c0 ≤ maxLen) :
    Calls Tryd.prog 14 #[.slice A0 n0 c0] w fun e w' => ∃ A c, e = .returned (.slice A (min n0 20) c) ∧ Hid (Shows w' w'.heap.size 5 A (min n0 20) ((l0.take (min n0 20)).flatMap VT.cells)) ∧ Hid (A = none → c = 0) ∧ min n0 20 ≤ c ∧ Below w.heap.size w w' := by
  obtain ⟨iV, hiV, hzV, hsV, hbV⟩ := val_info
  obtain ⟨m, hm⟩ : ∃ m, m = min n0 20 := ⟨_, rfl⟩
  rw [← hm]
  have hmi : min (n0 : Int) 20 = (m : Int) := by omega
  have hmj : (if (20 : Int) < (n0 : Int) then (20 : Int) else (n0 : Int)) = (m : Int) := by split <;> omega
  have hmle : m ≤ 20 := by omega
  have hmn : m ≤ n0 := by omega
  have hz1 : (0 : Int) ≤ m := by omega
  have hi1 : (m : Int) ≤ n0 := by omega
  have hj1 : (m : Int) ≤ c0 := by omega
  have hsh : Shows w B 5 A0 m ((l0.take m).flatMap VT.cells) := by have := h0.first hmn; rwa [flat_take5] at this
  generalize l0.take m = L at *
  have hone := vcells_one L
  have hown := World.ownsRow_lit (base := w.heap.size) (e := 25) (size := 5) w #[] 0 (Nat.le_refl _) (Nat.zero_le _) rfl
  have hs := hsh.alloc hB (.cells #[] 25)
  have hMx : 20 ≤ maxLen := by decide
  clear hm h0 hsh
  go_enter Tryd.func14, Tryd.ntmps14
  go_wp2_with (at_builtin; refine wpList_append_shows _ rfl _ _ 22 rfl w.heap.size 25 iV _ 5 80 Tryd.underlying22 hiV hzV hsV hbV rfl (by decide) _ _ _ rfl hown B _ m _ (L.flatMap VT.cells) rfl hs hone (by omega) (by omega) (by simp) ?_; intro A7 c7 w7 hown7 hgrow7 hb7)
  have ho : w7.ownsRow w.heap.size 25 5 (.slice A7 m c7) m (L.flatMap VT.cells) := by simpa using hown7
  have hbx : Below w.heap.size w w7 := ((Below.refl _ _).alloc (Nat.le_refl _) _).trans hb7
  clear hown7
  go_wp2
  go_ret
  exact ⟨A7, c7, by first | rfl | simp, Lib.hid (Shows.own ho), Lib.hid (own_noneS ho), own_capS ho, hbx⟩
/-- A value among values in order. -/
theorem stand_pure {L : List VT} (h : Rise L) {i : Nat} {v : VT} (hv : L[i]? = some v) : befN v L ≤ i ∧ i < uptN v L ∧ uptN v L = befN v L + L.countP (fun x => decide (cmpV x v = 0)) := by
  obtain ⟨hi, he⟩ := List.getElem?_eq_some_iff.1 hv
  have hp := List.pairwise_iff_getElem.1 h
  refine ⟨?_, ?_, ?_⟩
  · unfold befN
    conv => lhs; rw [← List.take_append_drop i L]
    rw [List.countP_append]
    have h1 : (L.take i).countP (fun x => decide (cmpV x v < 0)) ≤ i := Nat.le_trans List.countP_le_length (by simp; omega)
    have h2 : (L.drop i).countP (fun x => decide (cmpV x v < 0)) = 0 := by
      rw [List.countP_eq_zero]
      intro x hx
      obtain ⟨j, hj, rfl⟩ := List.getElem_of_mem hx
      simp only [List.getElem_drop, decide_eq_true_eq]
      by_cases hj0 : j = 0
      · subst hj0
        simp only [Nat.add_zero]
        rw [he, cmpV_is.self]
        decide
      · have := hp i (i + j) hi (by simp at hj; omega) (by omega)
        rw [he] at this
        have ht := cmpV_is.turn v (L[i + j]'(by simp at hj; omega))
        omega
    omega
  · unfold uptN
    conv => rhs; rw [← List.take_append_drop (i + 1) L]
    rw [List.countP_append]
    have h1 : (L.take (i + 1)).countP (fun x => decide (cmpV x v ≤ 0)) = (L.take (i + 1)).length := by
      rw [List.countP_eq_length]
      intro x hx
      obtain ⟨j, hj, rfl⟩ := List.getElem_of_mem hx
      simp only [List.getElem_take, decide_eq_true_eq]
      have hj' : j < i + 1 := by simp at hj; omega
      by_cases hji : j = i
      · subst hji
        rw [he, cmpV_is.self]
        exact Int.le_refl _
      · have := hp j i (by omega) hi (by omega)
        rwa [he] at this
    have h2 : (L.take (i + 1)).length = i + 1 := by simp; omega
    omega
  · unfold uptN befN
    clear h hp hv he hi
    induction L with
    | nil => rfl
    | cons x l ih =>
      simp only [List.countP_cons, ih]
      rcases cmpV_is.ones x v with h | h | h <;> rw [h] <;> simp <;> omega
theorem cnt_same {v y : VT} {w w' : World} {B B' : Nat} (hT : Lie w B v) (hU : Lie w' B' y) (h1 : v.ok = true) (h2 : y.ok = true) : sameR v y = decide (cmpV y v = 0) := by
  unfold sameR
  rw [h1, h2]
  have h := cmpV_zero hT hU h1 h2
  have ht := cmpV_is.turn v y
  by_cases hz : cmpV v y = 0
  · rw [(sameV_iff _ _).2 (h.1 hz), ht, hz]; rfl
  · have : sameV v y = false := bool_no (sameV_iff _ _) (fun e => hz (h.2 e))
    rw [this, ht]
    simp
    omega
end Go.Proofs.YtndolgbbochpjaaDoor
/-
  make and copy on rows of the call's own. No program in sight.
-/
namespace Go.Proofs.YtndolgbbochpjaaDoor
open Go.RowKit

section
variable {w : World} {base : Nat} {e : TypeId} {size : Nat}
theorem own_made (w : World) (cs : Array Value) (n cap : Nat) (hb : base ≤ w.heap.size) (hn : n ≤ cap) (hm : cap ≤ maxLen) (hs : cs.size = cap * size) :
    (w.alloc (.cells cs e)).ownsRow base e size (.slice (some ⟨w.heap.size, 0, none⟩) n cap) n (cs.toList.take (n * size)) :=
  ⟨by rw [List.length_take, Array.length_toList, hs]; exact Nat.min_eq_left (Nat.mul_le_mul_right _ hn), .inr ⟨w.heap.size, cap, cs, rfl, hb, heap_alloc_new w _, hn, hm, hs, rfl⟩⟩
theorem own_zeros (w : World) (z : Value) (n cap : Nat) (hb : base ≤ w.heap.size) (hn : n ≤ cap) (hm : cap ≤ maxLen) :
    (w.alloc (.cells (madeCells #[z] cap) e)).ownsRow base e 1 (.slice (some ⟨w.heap.size, 0, none⟩) n cap) n (List.replicate n z) := by
  have h := own_made (base := base) (e := e) (size := 1) w (madeCells #[z] cap) n cap hb hn hm (by rw [size_madeCells, Nat.mul_one])
  rw [toList_madeCells_one, List.take_replicate, Nat.mul_one, Nat.min_eq_left hn] at h
  exact h
end

section
variable {P : Program} {w : World}
/-- 'make' of a slice of elements of one cell. -/
theorem run_make_one {t e : TypeId} {i : TypeInfo} {z : Value} (ht : P.underlying t = some (.slice e)) (hi : P.info? e = some i) (hz : i.zero = some z) (hz1 : z.cells = #[z]) (h1 : i.size = 1)
    (kl kc : IntKind) (l c : Int) (h0 : 0 ≤ l) (hlc : l ≤ c) (hbytes : (i.bytes : Int) * c ≤ 281474976710656) (h63 : c ≤ 9223372036854775807) (w : World) :
    (Instr.makeSlice t (.int kl l) (.int kc c)).run P w = .ok (.slice (some ⟨w.heap.size, 0, none⟩) l.toNat c.toNat) (w.alloc (.cells (madeCells #[z] c.toNat) e)) := by
  have h := run_make (P := P) w t e i z ht hi hz kl kc l c h0 hlc hbytes h63
  rw [hz1, h1, Nat.mul_one] at h
  exact h

theorem splice_take {α : Type} (L cs : List α) (off n : Nat) (h : off + cs.length ≤ n) (hn : n ≤ L.length) : (splice L off cs).take n = splice (L.take n) off cs := by
  unfold splice
  rw [List.take_append, List.take_append, List.length_take, Nat.min_eq_left (by omega), List.take_of_length_le (l := L.take off) (by rw [List.length_take]; omega), List.take_of_length_le (l := cs) (by omega), List.take_take, Nat.min_eq_left (by omega), List.drop_take]
  congr 3
  omega

/-- 'copy' into a row of the call's own. -/
theorem wp_copy_shows {o : Oper} {a : Act} {K : Act → World → Prop} {Q : Exit → Act → World → Prop} (d s : Operand) (dT sT : TypeId)
    (ho : o.op = .call { callee := .builtin .copy, args := #[d, s], argTypes := #[dT, sT] }) (elem : TypeId) (hu : P.underlying dT = some (.slice elem)) (hsz : (P.info? elem).map (·.size) = some 1)
    (base : Nat) (e : TypeId) (g n cap : Nat) (xs : List Value) (hown : w.ownsRow base e 1 (.slice (some ⟨g, 0, none⟩) n cap) n xs)
    (off : Nat) (dp : Option Addr) (dLen dCap : Nat) (hd : a.eval d = .slice dp dLen dCap) (hdp : 0 < dLen → dp = some ⟨g, off, none⟩) (hfit : off + dLen ≤ n)
    (B : Nat) (sp : Option Addr) (sLen sCap : Nat) (news : List Value) (hs : a.eval s = .slice sp sLen sCap) (hr : Shows w B 1 sp sLen news) (h1 : ∀ v ∈ news, v.oneCell' = true)
    (h : ∀ w', w'.ownsRow base e 1 (.slice (some ⟨g, 0, none⟩) n cap) n (splice xs off (news.take dLen)) → w.grownBy w' (some g) → Below base w w' → K (a.put o.dst (goInt ((min sLen dLen : Nat) : Int))) w') :
    o.wp P a w K Q := by
  obtain ⟨hlen, hform⟩ := hown
  rcases hform with ⟨h', _⟩ | ⟨g', cap', cur, h', hbg, hg, hnc, hcm, hcs, htake⟩
  · simp at h'
  · simp only [Value.slice.injEq, Option.some.injEq, Addr.mk.injEq, and_true, true_and] at h'
    obtain ⟨rfl, rfl⟩ := h'
    have hl : (news.take dLen).length = Nat.min sLen dLen := by
      rw [List.length_take, hr.1, Nat.mul_one]
      exact Nat.min_comm _ _
    have hle : (news.take dLen).length ≤ dLen := by rw [hl]; exact Nat.min_le_right _ _
    have hcl : cur.toList.length = cap := by rw [Array.length_toList, hcs, Nat.mul_one]
    have e0 : (goInt ((news.take dLen).length : Nat)) = goInt ((min sLen dLen : Nat) : Int) := by rw [hl]
    by_cases hz : (news.take dLen).length = 0
    · have hrun := run_copy_none (P := P) w dT sT o.type elem dp sp dLen dCap sLen sCap hu hsz (by rw [← hl]; exact hz)
      have hnil : news.take dLen = [] := List.eq_nil_of_length_eq_zero hz
      have hm0 : min sLen dLen = 0 := by rw [hl] at hz; exact hz
      unfold Oper.wp
      simp [execOp, ho, resolve, invoke, builtin, hd, hs, hrun, Result.andThen]
      have hx := h w ⟨by rw [hnil]; simpa [splice] using hlen, .inr ⟨g, cap, cur, rfl, hbg, hg, hnc, hcm, hcs, by rw [hnil]; simpa [splice] using htake⟩⟩ (World.grownBy.refl w _) (Below.refl _ _)
      rw [hm0] at hx
      exact hx
    · have hpos : 0 < Nat.min sLen dLen := by omega
      have hs0 : 0 < sLen := Nat.lt_of_lt_of_le hpos (Nat.min_le_left _ _)
      have hd0 : 0 < dLen := Nat.lt_of_lt_of_le hpos (Nat.min_le_right _ _)
      obtain rfl := hdp hd0
      obtain ⟨b, so, rfl, _, hc⟩ := hr.2 hs0
      have hrun := run_copy_row (P := P) w dT sT o.type elem g off dLen dCap ⟨b, so, none⟩ sLen sCap cur e (news.take dLen) hu hsz hg hl
        (fun j v hj => by
          rw [addr_add]
          rw [List.getElem?_take] at hj
          split at hj
          · exact hc j v hj
          · cases hj) (by rw [hcs]; omega) (fun v hv => h1 v (List.mem_of_mem_take hv))
      unfold Oper.wp
      simp only [execOp, ho, resolve, invoke, builtin, hd, hs, hrun, Sem.run_bind, Sem.run_pure, Result.andThen_ok, List.map_toArray, List.map_cons, List.map_nil]
      rw [e0]
      refine (h _ ⟨?_, .inr ⟨g, cap, _, rfl, hbg, setRow_heap w g cur _ e _ hg, hnc, hcm, ?_, ?_⟩⟩ ?_ ?_)
      · rw [length_splice _ _ _ (by omega), hlen]
      · have := length_splice cur.toList off (news.take dLen) (by omega)
        unfold splice at this
        rw [← List.append_assoc] at this
        simp only [List.size_toArray]
        omega
      · have := splice_take cur.toList (news.take dLen) off (n * 1) (by omega) (by omega)
        rw [htake] at this
        unfold splice at this ⊢
        rw [← List.append_assoc] at this
        exact this
      · exact ⟨rfl, rfl, rfl, by simp [World.setRow], fun k _ hk => setRow_other w g k _ (fun e => hk (by simp [e]))⟩
      · exact below_setRow (Below.refl _ _) hbg _

theorem wpList_copy_shows {ops : Array Oper} {rest : List Oper} {o : Oper} {a : Act} {Q : Exit → Act → World → Prop} (hgd : o.guard = none) (d s : Operand) (dT sT : TypeId)
    (ho : o.op = .call { callee := .builtin .copy, args := #[d, s], argTypes := #[dT, sT] }) (elem : TypeId) (hu : P.underlying dT = some (.slice elem)) (hsz : (P.info? elem).map (·.size) = some 1)
    (base : Nat) (e : TypeId) (g n cap : Nat) (xs : List Value) (hown : w.ownsRow base e 1 (.slice (some ⟨g, 0, none⟩) n cap) n xs)
    (off : Nat) (dp : Option Addr) (dLen dCap : Nat) (hd : a.eval d = .slice dp dLen dCap) (hdp : 0 < dLen → dp = some ⟨g, off, none⟩) (hfit : off + dLen ≤ n)
    (B : Nat) (sp : Option Addr) (sLen sCap : Nat) (news : List Value) (hs : a.eval s = .slice sp sLen sCap) (hr : Shows w B 1 sp sLen news) (h1 : ∀ v ∈ news, v.oneCell' = true)
    (h : ∀ w', w'.ownsRow base e 1 (.slice (some ⟨g, 0, none⟩) n cap) n (splice xs off (news.take dLen)) → w.grownBy w' (some g) → Below base w w' → wpList P ops Q rest (a.put o.dst (goInt ((min sLen dLen : Nat) : Int))) w') :
    wpList P ops Q (o :: rest) a w :=
  wpList_plain hgd fun _ hK => wp_copy_shows d s dT sT ho elem hu hsz base e g n cap xs hown off dp dLen dCap hd hdp hfit B sp sLen sCap news hs hr h1 fun w' h2 h3 h4 => hK _ _ (h w' h2 h3 h4)

theorem step_copy_shows {ops : Array Oper} {o : Oper} {a : Act} {K : Act → World → Prop} {Q : Exit → Act → World → Prop} {E : Prop} (hgd : o.guard = none) (d s : Operand) (dT sT : TypeId)
    (ho : o.op = .call { callee := .builtin .copy, args := #[d, s], argTypes := #[dT, sT] }) (elem : TypeId) (hu : P.underlying dT = some (.slice elem)) (hsz : (P.info? elem).map (·.size) = some 1)
    (base : Nat) (e : TypeId) (g n cap : Nat) (xs : List Value) (hown : w.ownsRow base e 1 (.slice (some ⟨g, 0, none⟩) n cap) n xs)
    (off : Nat) (dp : Option Addr) (dLen dCap : Nat) (hd : a.eval d = .slice dp dLen dCap) (hdp : 0 < dLen → dp = some ⟨g, off, none⟩) (hfit : off + dLen ≤ n)
    (B : Nat) (sp : Option Addr) (sLen sCap : Nat) (news : List Value) (hs : a.eval s = .slice sp sLen sCap) (hr : Shows w B 1 sp sLen news) (h1 : ∀ v ∈ news, v.oneCell' = true)
    (h : ∀ w', w'.ownsRow base e 1 (.slice (some ⟨g, 0, none⟩) n cap) n (splice xs off (news.take dLen)) → w.grownBy w' (some g) → Below base w w' → K (a.put o.dst (goInt ((min sLen dLen : Nat) : Int))) w') :
    if Region.wanted o (yielded ops a.tmps) = true then Oper.wp P o a w K Q else E := by
  have hw : Region.wanted o (yielded ops a.tmps) = true := by simp [Region.wanted, hgd]
  rw [if_pos hw]
  exact wp_copy_shows d s dT sT ho elem hu hsz base e g n cap xs hown off dp dLen dCap hd hdp hfit B sp sLen sCap news hs hr h1 h
end
end Go.Proofs.YtndolgbbochpjaaDoor
/-
  Layer 1, the reference: Is, Bytes, Starts.
-/
namespace Go.Proofs.YtndolgbbochpjaaDoor
open Go.RowKit

set_option maxRecDepth 20000 in
theorem is_any (n : Int) (w : World) : Calls Tryd.prog 81 #[.int .i64 n] w fun e w' => e = .returned (.bool (isCp n)) ∧ w' = w := by
  by_cases h0 : 0 ≤ n
  · by_cases h1 : n ≤ 1114111
    · by_cases h2 : 55296 ≤ n
      · by_cases h3 : n ≤ 57343
        · have h : isCp n = false := by unfold isCp; simp; omega
          rw [h]
          go_enter Tryd.func81, Tryd.ntmps81
          go_wp2
          go_ret
          exact ⟨rfl, rfl⟩
        · have h : isCp n = true := by unfold isCp; simp; omega
          rw [h]
          go_enter Tryd.func81, Tryd.ntmps81
          go_wp2
          go_ret
          exact ⟨rfl, rfl⟩
      · have h : isCp n = true := by unfold isCp; simp; omega
        rw [h]
        go_enter Tryd.func81, Tryd.ntmps81
        go_wp2
        go_ret
        exact ⟨rfl, rfl⟩
    · have h : isCp n = false := by unfold isCp; simp; omega
      rw [h]
      go_enter Tryd.func81, Tryd.ntmps81
      go_wp2
      go_ret
      exact ⟨rfl, rfl⟩
  · have h : isCp n = false := by unfold isCp; simp; omega
    rw [h]
    go_enter Tryd.func81, Tryd.ntmps81
    go_wp2
    go_ret
    exact ⟨rfl, rfl⟩

theorem gives_new (w : World) (l : List UInt8) (C : Array Value) (hC : C.toList = l.map bv) (hl : l.length ≤ 1000) :
    (w.alloc (.cells C 5)).ownsRow w.heap.size 5 1 (.slice (some ⟨w.heap.size, 0, none⟩) l.length l.length) l.length (l.map bv) := by
  have hs : C.size = l.length := by rw [← Array.length_toList, hC]; simp
  have h := own_made (base := w.heap.size) (e := 5) (size := 1) w C l.length l.length (Nat.le_refl _) (Nat.le_refl _) (by unfold maxLen; omega) (by rw [hs, Nat.mul_one])
  rw [hC, List.take_of_length_le (by simp)] at h
  exact h
theorem bv_b8 (n : Nat) (h : n < 256) : bv (b8 n) = .int .u8 (n : Int) := by unfold bv; rw [b8_toNat n h]
set_option maxRecDepth 20000 in
set_option maxHeartbeats 1000000 in
theorem bytes_any (c : Nat) (hc : c ≤ 1114111) (w : World) : Calls Tryd.prog 82 #[.int .i64 (c : Int)] w (GivesBytes 5 (encL c) w) := by
  rcases (show c < 128 ∨ (128 ≤ c ∧ c < 2048) ∨ (2048 ≤ c ∧ c < 65536) ∨ 65536 ≤ c by omega) with h1 | ⟨h1, h2⟩ | ⟨h1, h2⟩ | h1
  · have e : (encL c).map bv = [.int .u8 ((c : Nat) : Int)] := by
      have e0 : encL c = [b8 (c)] := by unfold encL; rw [if_pos h1]
      rw [e0]
      show [bv (b8 (c))] = _
      rw [bv_b8 (c) (by omega)]
    have hn : (encL c).length = 1 := by have := congrArg List.length e; simpa using this
    have g := gives_new w (encL c) #[.int .u8 ((c : Nat) : Int)] (by rw [e]) (by omega)
    rw [hn] at g
    have k0 : (c : Int) < 128 := by omega
    have n0 : (0 : Int) ≤ (c : Int) := by omega
    have n1 : (c : Int) ≤ 1114111 := by omega
    have G := Lib.hid g
    clear e g hn h1 hc
    generalize (c : Int) = n at *
    go_enter Tryd.func82, Tryd.ntmps82
    go_wp2
    go_ret
    exact ⟨_, _, _, rfl, G.out, (Below.refl _ _).alloc (Nat.le_refl _) _⟩
  · have e : (encL c).map bv = [.int .u8 ((192 + c / 64 : Nat) : Int), .int .u8 ((128 + c % 64 : Nat) : Int)] := by
      have e0 : encL c = [b8 (192 + c / 64), b8 (128 + c % 64)] := by unfold encL; rw [if_neg (by omega), if_pos h2]
      rw [e0]
      show [bv (b8 (192 + c / 64)), bv (b8 (128 + c % 64))] = _
      rw [bv_b8 (192 + c / 64) (by omega), bv_b8 (128 + c % 64) (by omega)]
    have hn : (encL c).length = 2 := by have := congrArg List.length e; simpa using this
    have g := gives_new w (encL c) #[.int .u8 ((192 + c / 64 : Nat) : Int), .int .u8 ((128 + c % 64 : Nat) : Int)] (by rw [e]) (by omega)
    rw [hn] at g
    rw [show ((192 + c / 64 : Nat) : Int) = 192 + (c : Int) / 64 from by omega, show ((128 + c % 64 : Nat) : Int) = 128 + (c : Int) % 64 from by omega] at g
    have k0 : ¬ (c : Int) < 128 := by omega
    have k1 : (c : Int) < 2048 := by omega
    have n0 : (0 : Int) ≤ (c : Int) := by omega
    have n1 : (c : Int) ≤ 1114111 := by omega
    have G := Lib.hid g
    clear e g hn h1 hc h2
    generalize (c : Int) = n at *
    go_enter Tryd.func82, Tryd.ntmps82
    go_wp2
    go_ret
    exact ⟨_, _, _, rfl, G.out, (Below.refl _ _).alloc (Nat.le_refl _) _⟩
  · have e : (encL c).map bv = [.int .u8 ((224 + c / 4096 : Nat) : Int), .int .u8 ((128 + c / 64 % 64 : Nat) : Int), .int .u8 ((128 + c % 64 : Nat) : Int)] := by
      have e0 : encL c = [b8 (224 + c / 4096), b8 (128 + c / 64 % 64), b8 (128 + c % 64)] := by unfold encL; rw [if_neg (by omega), if_neg (by omega), if_pos h2]
      rw [e0]
      show [bv (b8 (224 + c / 4096)), bv (b8 (128 + c / 64 % 64)), bv (b8 (128 + c % 64))] = _
      rw [bv_b8 (224 + c / 4096) (by omega), bv_b8 (128 + c / 64 % 64) (by omega), bv_b8 (128 + c % 64) (by omega)]
    have hn : (encL c).length = 3 := by have := congrArg List.length e; simpa using this
    have g := gives_new w (encL c) #[.int .u8 ((224 + c / 4096 : Nat) : Int), .int .u8 ((128 + c / 64 % 64 : Nat) : Int), .int .u8 ((128 + c % 64 : Nat) : Int)] (by rw [e]) (by omega)
    rw [hn] at g
    rw [show ((224 + c / 4096 : Nat) : Int) = 224 + (c : Int) / 4096 from by omega, show ((128 + c / 64 % 64 : Nat) : Int) = 128 + (c : Int) / 64 % 64 from by omega, show ((128 + c % 64 : Nat) : Int) = 128 + (c : Int) % 64 from by omega] at g
    have k0 : ¬ (c : Int) < 128 := by omega
    have k1 : ¬ (c : Int) < 2048 := by omega
    have k2 : (c : Int) < 65536 := by omega
    have n0 : (0 : Int) ≤ (c : Int) := by omega
    have n1 : (c : Int) ≤ 1114111 := by omega
    have G := Lib.hid g
    clear e g hn h1 hc h2
    generalize (c : Int) = n at *
    go_enter Tryd.func82, Tryd.ntmps82
    go_wp2
    go_ret
    exact ⟨_, _, _, rfl, G.out, (Below.refl _ _).alloc (Nat.le_refl _) _⟩
  · have e : (encL c).map bv = [.int .u8 ((240 + c / 262144 : Nat) : Int), .int .u8 ((128 + c / 4096 % 64 : Nat) : Int), .int .u8 ((128 + c / 64 % 64 : Nat) : Int), .int .u8 ((128 + c % 64 : Nat) : Int)] := by
      have e0 : encL c = [b8 (240 + c / 262144), b8 (128 + c / 4096 % 64), b8 (128 + c / 64 % 64), b8 (128 + c % 64)] := by unfold encL; rw [if_neg (by omega), if_neg (by omega), if_neg (by omega)]
      rw [e0]
      show [bv (b8 (240 + c / 262144)), bv (b8 (128 + c / 4096 % 64)), bv (b8 (128 + c / 64 % 64)), bv (b8 (128 + c % 64))] = _
      rw [bv_b8 (240 + c / 262144) (by omega), bv_b8 (128 + c / 4096 % 64) (by omega), bv_b8 (128 + c / 64 % 64) (by omega), bv_b8 (128 + c % 64) (by omega)]
    have hn : (encL c).length = 4 := by have := congrArg List.length e; simpa using this
    have g := gives_new w (encL c) #[.int .u8 ((240 + c / 262144 : Nat) : Int), .int .u8 ((128 + c / 4096 % 64 : Nat) : Int), .int .u8 ((128 + c / 64 % 64 : Nat) : Int), .int .u8 ((128 + c % 64 : Nat) : Int)] (by rw [e]) (by omega)
    rw [hn] at g
    rw [show ((240 + c / 262144 : Nat) : Int) = 240 + (c : Int) / 262144 from by omega, show ((128 + c / 4096 % 64 : Nat) : Int) = 128 + (c : Int) / 4096 % 64 from by omega, show ((128 + c / 64 % 64 : Nat) : Int) = 128 + (c : Int) / 64 % 64 from by omega, show ((128 + c % 64 : Nat) : Int) = 128 + (c : Int) % 64 from by omega] at g
    have k0 : ¬ (c : Int) < 128 := by omega
    have k1 : ¬ (c : Int) < 2048 := by omega
    have k2 : ¬ (c : Int) < 65536 := by omega
    have n0 : (0 : Int) ≤ (c : Int) := by omega
    have n1 : (c : Int) ≤ 1114111 := by omega
    have G := Lib.hid g
    clear e g hn h1 hc
    generalize (c : Int) = n at *
    go_enter Tryd.func82, Tryd.ntmps82
    go_wp2
    go_ret
    exact ⟨_, _, _, rfl, G.out, (Below.refl _ _).alloc (Nat.le_refl _) _⟩
end Go.Proofs.YtndolgbbochpjaaDoor
