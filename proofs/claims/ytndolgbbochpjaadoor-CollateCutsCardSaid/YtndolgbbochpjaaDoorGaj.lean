import Derived.Test.YtndolgbbochpjaaDoorGai
import Derived.Test.YtndolgbbochpjaaDoorGag
import Derived.Test.YtndolgbbochpjaaDoorGad
import Derived.Test.YtndolgbbochpjaaDoorGae
import Derived.Test.YtndolgbbochpjaaDoorGaa
import Derived.Lib.LaidTab
import Derived.Lib.LaidU8
/-
  Layer 7: the law's own wakes.
-/
namespace Go.Proofs.YtndolgbbochpjaaDoor
open Go.RowKit
set_option linter.unusedVariables false

section
variable {P : Program} {w : World} {o : Oper} {a : Act} {K : Act → World → Prop} {Q : Exit → Act → World → Prop}
theorem fillV1 (v0 v1 v2 v3 v4 : Value) (h : (Value.agg #[v0, v1, v2, v3, v4]).cells = #[v0, v1, v2, v3, v4]) : Instr.fill (fun q => some (q * 5, 5)) ((Array.range (1 * 5)).map ((scV 0 0 ⟨#[]⟩).agg.cells[· % (scV 0 0 ⟨#[]⟩).agg.cells.size]!)) [(0, .agg #[v0, v1, v2, v3, v4])] = some #[v0, v1, v2, v3, v4] := by
  have e : Array.range (1 * 5) = #[0, 1, 2, 3, 4] := by first | rfl | decide
  rw [e]
  simp [Instr.fill, h]
theorem fillV3 (v0 v1 v2 v3 v4 x0 x1 x2 x3 x4 y0 y1 y2 y3 y4 : Value) (h : (Value.agg #[v0, v1, v2, v3, v4]).cells = #[v0, v1, v2, v3, v4]) (hx : (Value.agg #[x0, x1, x2, x3, x4]).cells = #[x0, x1, x2, x3, x4]) (hy : (Value.agg #[y0, y1, y2, y3, y4]).cells = #[y0, y1, y2, y3, y4]) :
    Instr.fill (fun q => some (q * 5, 5)) ((Array.range (3 * 5)).map ((scV 0 0 ⟨#[]⟩).agg.cells[· % (scV 0 0 ⟨#[]⟩).agg.cells.size]!)) [(0, .agg #[v0, v1, v2, v3, v4]), (1, .agg #[x0, x1, x2, x3, x4]), (2, .agg #[y0, y1, y2, y3, y4])] = some #[v0, v1, v2, v3, v4, x0, x1, x2, x3, x4, y0, y1, y2, y3, y4] := by
  have e : Array.range (3 * 5) = #[0, 1, 2, 3, 4, 5, 6, 7, 8, 9, 10, 11, 12, 13, 14] := by first | rfl | decide
  rw [e]
  simp [Instr.fill, h, hx, hy]
/-- '[]T{..}'. -/
theorem step_rowN (t e : TypeId) (k : Nat) (xs : Array (Nat × Operand)) (ho : o.op = .buildSlice t k xs) (size : Nat) (i : TypeInfo) (z : Value) (ht : P.underlying t = some (.slice e)) (hi : P.info? e = some i) (hz : i.zero = some z) (hsize : i.size = size)
    (cells : Array Value) (hf : Instr.fill (fun q => some (q * size, size)) ((Array.range (k * size)).map (z.cells[· % z.cells.size]!)) (xs.toList.map fun p => (p.1, a.eval p.2)) = some cells) (hcs : cells.toList.length = k * size) (h0 : ¬ k * size = 0) (h24 : ¬ k * size > 2 ^ 24)
    (h : ∀ g w', w.heap.size ≤ g → Shows w' (g + 1) size (some ⟨g, 0, none⟩) k cells.toList → g + 1 ≤ w'.heap.size → Below w.heap.size w w' → K (a.put o.dst (.slice (some ⟨g, 0, none⟩) k k)) w') : o.wp P a w K Q := by
  refine wp_buildSlice t e k xs ho cells i z ht hi hz (by rw [hsize]; exact h24) (by rw [hsize]; exact h0) (by rw [hsize]; simpa using hf) ?_
  exact h w.heap.size (w.alloc (.cells cells e)) (Nat.le_refl _) (shows_new w cells e w.heap.size k size rfl hcs) (by rw [World.size_alloc]; exact Nat.le_refl _) ((Below.refl _ _).alloc (Nat.le_refl _) _)
end
theorem sortw_any (A : Option Addr) (g c B : Nat) (w : World) (h : Shows w B 5 (some ⟨g, 0, none⟩) 3 ([lsV A 1 c [inV 2], inV 7, scV 1 0 ⟨#[]⟩].flatMap VT.cells)) (hA : Shows w B 5 A 1 ([inV 2].flatMap VT.cells)) (hc : 1 ≤ c) (hcm : c ≤ 100) (hB : B ≤ w.heap.size) (htab : UTab w) (hst : STab w) (hr : RTab w) :
    Calls Tryd.prog 15 #[.slice (some ⟨g, 0, none⟩) 3 3] w fun e w' => ∃ A' c', e = .returned (.tuple #[.slice A' 3 c', .int .i64 0]) ∧ Hid (Shows w' w'.heap.size 5 A' 3 ([scV 1 0 ⟨#[]⟩, inV 7, lsV A 1 c [inV 2]].flatMap VT.cells)) ∧ Below w.heap.size w w' := by
  have hAn : A = none → c = 0 := fun e => by
    subst e
    obtain ⟨b, off, x, e, -⟩ := kids_at hA (by decide : 0 < 1)
    cases e
  have hL : ∀ x ∈ [lsV A 1 c [inV 2], inV 7, scV 1 0 ⟨#[]⟩], Lie w B x := by
    intro x hx
    simp only [List.mem_cons, List.not_mem_nil, or_false] at hx
    rcases hx with rfl | rfl | rfl
    · exact lie_lsS hA (fun x hx => by rw [List.mem_singleton] at hx; subst hx; exact lie_in _ _ _ (by decide)) hAn hc (Nat.le_trans hcm (by decide))
    · exact lie_in _ _ _ (by decide)
    · exact lie_sc _ _ _ _ _ (by decide) (by decide) (by decide)
  refine (sortT_any _ 3 3 B _ w h hL hB (by decide) (fun h => by cases h) (Nat.le_refl _) htab hst hr).mono ?_
  have hok : [lsV A 1 c [inV 2], inV 7, scV 1 0 ⟨#[]⟩].all VT.ok = true := by
    have := ints_ok A 1 c [2] (by decide)
    simp only [List.map_cons, List.map_nil] at this
    simp [this, in_ok, nil_ok]
  rintro e w' ⟨⟨h1, _⟩ | ⟨_, A', c', L2, rfl, HS, HP⟩, hb⟩
  · rw [hok] at h1; cases h1
  · obtain rfl := sort_wake HP.out.1 HP.out.2
    exact ⟨A', c', rfl, HS, hb⟩
theorem frontw_any (A : Option Addr) (c B : Nat) (w : World) (h : Shows w B 5 A 3 ([inV 1, inV 2, inV 3].flatMap VT.cells)) (hA : A = none → c = 0) (hc : 3 ≤ c) (hcm : c ≤ 100) (hB : B ≤ w.heap.size) (htab : UTab w) (hst : STab w) :
    Calls Tryd.prog 21 #[.agg #[.int .i64 5, .int .i64 0, .string ⟨#[]⟩, .slice A 3 c, .slice none 0 0], .int .i64 2] w fun e w' => e = .returned (.tuple #[.agg #[.int .i64 5, .int .i64 0, .string ⟨#[]⟩, .slice A 2 2, .slice none 0 0], .int .i64 0]) ∧ Below w.heap.size w w' := by
  refine (frontT_any (lsV A 3 c [inV 1, inV 2, inV 3]) 2 B w (lie_lsS h (fun x hx => by simp only [List.mem_cons, List.not_mem_nil, or_false] at hx; rcases hx with rfl | rfl | rfl <;> exact lie_in _ _ _ (by decide)) hA hc (Nat.le_trans hcm (by decide))) hB htab hst).mono ?_
  rintro e w' ⟨X, E, rfl, hP, hb⟩
  obtain ⟨rfl, rfl⟩ := front_wake hP.out
  exact ⟨rfl, hb⟩
theorem placew1_any (A : Option Addr) (c B : Nat) (w : World) (h : Shows w B 5 A 4 ([inV 1, inV 3, inV 3, inV 4].flatMap VT.cells)) (hB : B ≤ w.heap.size) (htab : UTab w) (hst : STab w) (hr : RTab w) :
    Calls Tryd.prog 16 #[.slice A 4 c, .agg #[.int .i64 3, .int .i64 3, .string ⟨#[]⟩, .slice none 0 0, .slice none 0 0]] w fun e w' => e = .returned (.tuple #[.int .i64 1, .int .i64 3, .int .i64 0]) ∧ Below w.heap.size w w' := by
  refine (placeT_any A 4 c B _ (inV 3) w h (fun x hx => by simp only [List.mem_cons, List.not_mem_nil, or_false] at hx; rcases hx with rfl | rfl | rfl | rfl <;> exact lie_in _ _ _ (by decide)) (lie_in _ _ _ (by decide)) hB (by decide) htab hst hr).mono ?_
  rintro e w' ⟨X, E, rfl, hP, hb⟩
  obtain ⟨rfl, rfl⟩ := place_wake1 hP.out
  exact ⟨rfl, hb⟩
theorem placew2_any (A : Option Addr) (c B : Nat) (w : World) (h : Shows w B 5 A 2 ([inV 2, inV 1].flatMap VT.cells)) (hB : B ≤ w.heap.size) (htab : UTab w) (hst : STab w) (hr : RTab w) :
    Calls Tryd.prog 16 #[.slice A 2 c, .agg #[.int .i64 3, .int .i64 1, .string ⟨#[]⟩, .slice none 0 0, .slice none 0 0]] w fun e w' => e = .returned (.tuple #[.int .i64 0, .int .i64 0, .int .i64 2]) ∧ Below w.heap.size w w' := by
  refine (placeT_any A 2 c B _ (inV 1) w h (fun x hx => by simp only [List.mem_cons, List.not_mem_nil, or_false] at hx; rcases hx with rfl | rfl <;> exact lie_in _ _ _ (by decide)) (lie_in _ _ _ (by decide)) hB (by decide) htab hst hr).mono ?_
  rintro e w' ⟨X, E, rfl, hP, hb⟩
  obtain ⟨rfl, rfl⟩ := place_wake2 hP.out
  exact ⟨rfl, hb⟩
theorem cmpw2_any (w : World) (htab : UTab w) (hst : STab w) (hr : RTab w) :
    Calls Tryd.prog 11 #[.agg #[.int .i64 0, .int .i64 0, .string ⟨#[]⟩, .slice none 0 0, .slice none 0 0], .agg #[.int .i64 3, .int .i64 1, .string ⟨#[]⟩, .slice none 0 0, .slice none 0 0]] w fun e w' => e = .returned (.tuple #[.int .i64 0, .int .i64 140]) ∧ Below w.heap.size w w' := by
  have h := compareT_any (scV 0 0 ⟨#[]⟩) (inV 1) w.heap.size w (lie_sc _ _ _ _ _ (by decide) (by decide) (by decide)) (lie_in _ _ _ (by decide)) (Nat.le_refl _) htab hst hr
  rw [cmp_wake2] at h
  exact h
theorem inC (n : Int) : (inV n).cells = [.int .i64 3, .int .i64 n, .string ⟨#[]⟩, .slice none 0 0, .slice none 0 0] := rfl
set_option maxRecDepth 20000 in
set_option maxHeartbeats 4000000 in
theorem cwakes_any (w : World) (htab : UTab w) (hst : STab w) (hr : RTab w) : Calls Tryd.prog 10 #[] w fun e w' => e = .returned (.bool true) ∧ Below w.heap.size w w' := by
  obtain ⟨iV, hiV, hzV, hsV, hbV⟩ := val_info
  have HTx := Lib.hid (fun W (h : Below w.heap.size w W) => (⟨htab.below h htab.lt, hst.below h hst.lt, hr.below h hr.lt⟩ : UTab W ∧ STab W ∧ RTab W))
  clear htab hst hr
  have hb1 := bel_alloc (Below.refl w.heap.size w) (.cells #[.int .i64 1, .int .i64 0, .string ⟨#[]⟩, .slice none 0 0, .slice none 0 0] 25)
  have HV := Lib.hid (VFive.new w (.int .i64 1) (.int .i64 0) (.string ⟨#[]⟩) (.slice none 0 0) (.slice none 0 0) 25 w.heap.size rfl)
  go_enter Tryd.func10, Tryd.ntmps10
  go_upto_region 2 with fail
  generalize (w.alloc (.cells #[.int .i64 1, .int .i64 0, .string ⟨#[]⟩, .slice none 0 0, .slice none 0 0] 25)) = w1 at *
  go_wp2_with fail
  refine (in_any 1 _).mono ?_
  rintro e w2 ⟨rfl, hb2⟩
  have hk := hb2
  have hb2 := bel_next hb1 hb2
  go_wp2_with fail
  refine (in_any 2 _).mono ?_
  rintro e w3 ⟨rfl, hb3⟩
  have hk := bel_next hk hb3
  have hb3 := bel_next hb2 hb3
  have S3 := Lib.hid (shows_new w3 #[.int .i64 3, .int .i64 1, .string ⟨#[]⟩, .slice none 0 0, .slice none 0 0, .int .i64 3, .int .i64 2, .string ⟨#[]⟩, .slice none 0 0, .slice none 0 0] 25 w3.heap.size 2 5 rfl rfl)
  have hb3a := bel_alloc hb3 (.cells #[.int .i64 3, .int .i64 1, .string ⟨#[]⟩, .slice none 0 0, .slice none 0 0, .int .i64 3, .int .i64 2, .string ⟨#[]⟩, .slice none 0 0, .slice none 0 0] 25)
  go_wp2_with fail
  refine (list1_any _ _ _ _).mono ?_
  rintro e w4 ⟨rfl, hb4⟩
  have hk := bel_next (bel_alloc hk _) hb4
  have S4 := Lib.hid ((S3.out.below (hb4.mono (by simp))).more (Nat.le_trans (by simp) hb4.size))
  have hb4 := bel_next hb3a hb4
  clear S3 hb3a
  go_wp2_with fail
  refine (in_any 1 _).mono ?_
  rintro e w5 ⟨rfl, hb5⟩
  have hk := bel_next hk hb5
  have S5 := Lib.hid ((S4.out.below hb5).more hb5.size)
  have hb5 := bel_next hb4 hb5
  clear S4
  have T5 := Lib.hid (shows_new w5 #[.int .i64 3, .int .i64 1, .string ⟨#[]⟩, .slice none 0 0, .slice none 0 0] 25 w5.heap.size 1 5 rfl rfl)
  have S5a := Lib.hid ((S5.out.alloc (Nat.le_refl _) (.cells #[.int .i64 3, .int .i64 1, .string ⟨#[]⟩, .slice none 0 0, .slice none 0 0] 25)).more (Nat.le_succ _))
  have hb5a := bel_alloc hb5 (.cells #[.int .i64 3, .int .i64 1, .string ⟨#[]⟩, .slice none 0 0, .slice none 0 0] 25)
  go_wp2_with fail
  refine (list1_any _ _ _ _).mono ?_
  rintro e w6 ⟨rfl, hb6⟩
  have hk := bel_next (bel_alloc hk _) hb6
  have T6 := (T5.out.below (hb6.mono (by simp))).more (Nat.le_trans (by simp) hb6.size)
  have S6 := (S5a.out.below (hb6.mono (by simp))).more (Nat.le_trans (by simp) hb6.size)
  have hb6 := bel_next hb5a hb6
  have hc := compareT_any (lsV (some ⟨w3.heap.size, 0, none⟩) 2 2 [inV 1, inV 2]) (lsV (some ⟨w5.heap.size, 0, none⟩) 1 1 [inV 1]) w6.heap.size w6 (lie_lsS S6 (fun x hx => by simp at hx; rcases hx with rfl | rfl <;> exact lie_in _ _ _ (by decide)) (fun h => by cases h) (Nat.le_refl _) (by decide)) (lie_lsS T6 (fun x hx => by simp at hx; subst hx; exact lie_in _ _ _ (by decide)) (fun h => by cases h) (Nat.le_refl _) (by decide)) (Nat.le_refl _) (HTx.out _ hb6).1 (HTx.out _ hb6).2.1 (HTx.out _ hb6).2.2
  rw [cmp_wake1] at hc
  simp only [VT.agg] at hc
  clear T5 S5 S5a T6 S6 hb5a hb2 hb3 hb4 hb5
  go_wp2_with fail
  refine hc.mono ?_
  rintro e w7 ⟨rfl, hb7⟩
  have hk := bel_next hk hb7
  have hb7 := bel_next hb6 hb7
  clear hc hb6
  go_upto_region 3 with fail
  have HV7 := Lib.hid (HV.out.later hk)
  have v0 : ∀ W, Below w7.heap.size w7 W → W.cell? ⟨w.heap.size, 0, none⟩ = some (.int .i64 1) := fun W h => (HV7.out.later h).1.1
  have v1 : ∀ W, Below w7.heap.size w7 W → W.cell? ⟨w.heap.size, 1, none⟩ = some (.int .i64 0) := fun W h => (HV7.out.later h).1.2.1
  have v2 : ∀ W, Below w7.heap.size w7 W → W.cell? ⟨w.heap.size, 2, none⟩ = some (.string ⟨#[]⟩) := fun W h => (HV7.out.later h).1.2.2.1
  have v3 : ∀ W, Below w7.heap.size w7 W → W.cell? ⟨w.heap.size, 3, none⟩ = some (.slice none 0 0) := fun W h => (HV7.out.later h).1.2.2.2.1
  have v4 : ∀ W, Below w7.heap.size w7 W → W.cell? ⟨w.heap.size, 4, none⟩ = some (.slice none 0 0) := fun W h => (HV7.out.later h).1.2.2.2.2
  have HT7 := Lib.hid (fun W (h : Below w7.heap.size w7 W) => HTx.out W (bel_next hb7 h))
  refine wp_region_held_drew (S := fun W => Below w7.heap.size w7 W) (by kernel_rfl) (below_drewN (Below.refl _ _) 1) (fun hHeld => ?_)
  refine rg_in 4 rfl (by kernel_rfl) (by kernel_rfl) (by kernel_rfl) (by rfl) (v := ?_) (fun _ _ _ h => h) hHeld (fun w hSw => ?_) ?_
  rotate_left
  · (try dsimp only at hSw); go_simp <;> (with_reducible rfl)
  (try simp only [Act.put, List.setIfInBounds_toArray, List.set_cons_zero, List.set_cons_succ])
  refine rg_do 0 rfl (by kernel_rfl) (by rfl) (fun K hK => ?_)
  go_simp
  (go_at_call 30; (with_reducible refine (in_any 2 _).mono ?_); (rintro e w100 ⟨rfl, hb0⟩))
  refine hK.out _ _ (S_call hb0 hHeld rfl) (fun hHeld => ?_)
  clear hK K
  (try simp only [Act.put, List.setIfInBounds_toArray, List.set_cons_zero, List.set_cons_succ])
  refine rg_do 1 rfl (by kernel_rfl) (by rfl) (fun K hK => ?_)
  refine step_rowN 22 25 1 _ rfl 5 iV _ Tryd.underlying22 hiV hzV hsV #[.int .i64 3, .int .i64 2, .string ⟨#[]⟩, .slice none 0 0, .slice none 0 0] (fillV1 _ _ _ _ _ rfl) rfl (by decide) (by decide) ?_
  intro g1 w101 hge1 sh1 hl1 hb1
  refine hK.out _ _ (S_call hb1 hHeld rfl) (fun hHeld => ?_)
  clear hK K
  (try simp only [Act.put, List.setIfInBounds_toArray, List.set_cons_zero, List.set_cons_succ])
  refine rg_do 2 rfl (by kernel_rfl) (by rfl) (fun K hK => ?_)
  go_simp
  (go_at_call 27; (with_reducible refine (list1_any _ _ _ _).mono ?_); (rintro e w102 ⟨rfl, hb2⟩))
  refine hK.out _ _ (S_call hb2 hHeld rfl) (fun hHeld => ?_)
  clear hK K
  (try simp only [Act.put, List.setIfInBounds_toArray, List.set_cons_zero, List.set_cons_succ])
  refine rg_do 3 rfl (by kernel_rfl) (by rfl) (fun K hK => ?_)
  go_simp
  (go_at_call 30; (with_reducible refine (in_any 7 _).mono ?_); (rintro e w103 ⟨rfl, hb3⟩))
  refine hK.out _ _ (S_call hb3 hHeld rfl) (fun hHeld => ?_)
  clear hK K
  (try simp only [Act.put, List.setIfInBounds_toArray, List.set_cons_zero, List.set_cons_succ])
  refine rg_do 5 rfl (by kernel_rfl) (by rfl) (fun K hK => ?_)
  refine step_rowN 22 25 3 _ rfl 5 iV _ Tryd.underlying22 hiV hzV hsV #[.int .i64 5, .int .i64 0, .string ⟨#[]⟩, .slice (some ⟨g1, 0, none⟩) 1 1, .slice none 0 0, .int .i64 3, .int .i64 7, .string ⟨#[]⟩, .slice none 0 0, .slice none 0 0, .int .i64 1, .int .i64 0, .string ⟨#[]⟩, .slice none 0 0, .slice none 0 0] (fillV3 _ _ _ _ _ _ _ _ _ _ _ _ _ _ _ rfl rfl rfl) rfl (by decide) (by decide) ?_
  intro g5 w105 hge5 sh5 hl5 hb5
  refine hK.out _ _ (S_call hb5 hHeld rfl) (fun hHeld => ?_)
  clear hK K
  (try simp only [Act.put, List.setIfInBounds_toArray, List.set_cons_zero, List.set_cons_succ])
  refine rg_do 6 rfl (by kernel_rfl) (by rfl) (fun K hK => ?_)
  have hso := sortw_any (some ⟨g1, 0, none⟩) g5 1 w105.heap.size w105 (sh5.more hl5) ((sh1.below ((bel_next (bel_next hb2 hb3) hb5).mono hl1)).more (Nat.le_trans hl1 (bel_next (bel_next hb2 hb3) hb5).size)) (by decide) (by decide) (Nat.le_refl _) (HT7.out _ hHeld).1 (HT7.out _ hHeld).2.1 (HT7.out _ hHeld).2.2
  go_simp
  (go_at_call 15; (with_reducible refine hso.mono ?_); (rintro e w106 ⟨A6, c6, rfl, HS6, hb6⟩))
  refine hK.out _ _ (S_call hb6 hHeld rfl) (fun hHeld => ?_)
  clear hK K
  (try simp only [Act.put, List.setIfInBounds_toArray, List.set_cons_zero, List.set_cons_succ])
  refine rg_in 7 rfl (by kernel_rfl) (by kernel_rfl) (by kernel_rfl) (by rfl) (v := ?_) (fun _ _ _ h => h) hHeld (fun w hSw => ?_) ?_
  rotate_left
  · (try dsimp only at hSw); go_simp <;> (with_reducible rfl)
  (try simp only [Act.put, List.setIfInBounds_toArray, List.set_cons_zero, List.set_cons_succ])
  refine rg_in 8 rfl (by kernel_rfl) (by kernel_rfl) (by kernel_rfl) (by rfl) (v := ?_) (fun _ _ _ h => h) hHeld (fun w hSw => ?_) ?_
  rotate_left
  · (try dsimp only at hSw); go_simp <;> (with_reducible rfl)
  (try simp only [Act.put, List.setIfInBounds_toArray, List.set_cons_zero, List.set_cons_succ])
  refine rg_in 9 rfl (by kernel_rfl) (by kernel_rfl) (by kernel_rfl) (by rfl) (v := ?_) (fun _ _ _ h => h) hHeld (fun w hSw => ?_) ?_
  rotate_left
  · (try dsimp only at hSw); go_simp <;> (with_reducible rfl)
  (try simp only [Act.put, List.setIfInBounds_toArray, List.set_cons_zero, List.set_cons_succ])
  refine rg_in 10 rfl (by kernel_rfl) (by kernel_rfl) (by kernel_rfl) (by rfl) (v := ?_) (fun _ _ _ h => h) hHeld (fun w hSw => ?_) ?_
  rotate_left
  · (try dsimp only at hSw); go_simp <;> (with_reducible rfl)
  (try simp only [Act.put, List.setIfInBounds_toArray, List.set_cons_zero, List.set_cons_succ])
  refine rg_in 11 rfl (by kernel_rfl) (by kernel_rfl) (by kernel_rfl) (by rfl) (v := ?_) (fun _ _ _ h => h) hHeld (fun w hSw => ?_) ?_
  rotate_left
  · (try dsimp only at hSw); go_simp <;> (with_reducible rfl)
  (try simp only [Act.put, List.setIfInBounds_toArray, List.set_cons_zero, List.set_cons_succ])
  refine wpAnyH_done (by kernel_rfl) ?_ _
  have hbA := bel_next hb7 hHeld
  clear v0 v1 v2 v3 v4 HV7 HV HT7 hk hb7 sh1 sh5 hso hge1 hge5 hl1 hl5 hb0 hb1 hb2 hb3 hb5 hb6
  go_wp2_with fail
  refine (in_any 1 _).mono ?_
  rintro e x1 ⟨rfl, hn⟩
  have HS6 := Lib.hid ((HS6.out.below hn).more hn.size)
  have hbA := bel_next hbA hn
  clear hn
  go_wp2_with fail
  refine (in_any 2 _).mono ?_
  rintro e x2 ⟨rfl, hn⟩
  have HS6 := Lib.hid ((HS6.out.below hn).more hn.size)
  have hbA := bel_next hbA hn
  clear hn
  go_wp2_with fail
  refine (in_any 3 _).mono ?_
  rintro e x3 ⟨rfl, hn⟩
  have HS6 := Lib.hid ((HS6.out.below hn).more hn.size)
  have hbA := bel_next hbA hn
  clear hn
  have R4 := shows_new x3 #[.int .i64 3, .int .i64 1, .string ⟨#[]⟩, .slice none 0 0, .slice none 0 0, .int .i64 3, .int .i64 2, .string ⟨#[]⟩, .slice none 0 0, .slice none 0 0, .int .i64 3, .int .i64 3, .string ⟨#[]⟩, .slice none 0 0, .slice none 0 0] 25 x3.heap.size 3 5 rfl rfl
  have hn0 := bel_alloc (Below.refl x3.heap.size x3) (.cells #[.int .i64 3, .int .i64 1, .string ⟨#[]⟩, .slice none 0 0, .slice none 0 0, .int .i64 3, .int .i64 2, .string ⟨#[]⟩, .slice none 0 0, .slice none 0 0, .int .i64 3, .int .i64 3, .string ⟨#[]⟩, .slice none 0 0, .slice none 0 0] 25)
  go_wp2_with fail
  refine (list1_any _ _ _ _).mono ?_
  rintro e x4 ⟨rfl, hn⟩
  have R4 := (R4.below (hn.mono (by simp))).more (Nat.le_trans (by simp) hn.size)
  have hn := bel_next hn0 hn
  have HS6 := Lib.hid ((HS6.out.below hn).more hn.size)
  have hbA := bel_next hbA hn
  clear hn hn0
  have hf := frontw_any (some ⟨x3.heap.size, 0, none⟩) 3 x4.heap.size x4 R4 (fun h => by cases h) (by decide) (by decide) (Nat.le_refl _) (HTx.out _ hbA).1 (HTx.out _ hbA).2.1
  clear R4
  go_wp2_with fail
  refine hf.mono ?_
  rintro e x5 ⟨rfl, hn⟩
  have HS6 := Lib.hid ((HS6.out.below hn).more hn.size)
  have hbA := bel_next hbA hn
  clear hn hf
  have HF := Lib.hid (VFive.new x5 (.int .i64 5) (.int .i64 0) (.string ⟨#[]⟩) (.slice (some ⟨x3.heap.size, 0, none⟩) 2 2) (.slice none 0 0) 25 x5.heap.size rfl)
  have hn := bel_alloc (Below.refl x5.heap.size x5) (.cells #[.int .i64 5, .int .i64 0, .string ⟨#[]⟩, .slice (some ⟨x3.heap.size, 0, none⟩) 2 2, .slice none 0 0] 25)
  have HS6 := Lib.hid ((HS6.out.below hn).more hn.size)
  have hbA := bel_next hbA hn
  clear hn
  go_upto_region 5 with fail
  generalize (x5.alloc (.cells #[.int .i64 5, .int .i64 0, .string ⟨#[]⟩, .slice (some ⟨x3.heap.size, 0, none⟩) 2 2, .slice none 0 0] 25)) = y0 at *
  go_wp2_with fail
  refine (in_any 1 _).mono ?_
  rintro e x6 ⟨rfl, hn⟩
  have HS6 := Lib.hid ((HS6.out.below hn).more hn.size)
  have HF := Lib.hid (HF.out.later hn)
  have hbA := bel_next hbA hn
  clear hn
  go_wp2_with fail
  refine (in_any 3 _).mono ?_
  rintro e x7 ⟨rfl, hn⟩
  have HS6 := Lib.hid ((HS6.out.below hn).more hn.size)
  have HF := Lib.hid (HF.out.later hn)
  have hbA := bel_next hbA hn
  clear hn
  go_wp2_with fail
  refine (in_any 3 _).mono ?_
  rintro e x8 ⟨rfl, hn⟩
  have HS6 := Lib.hid ((HS6.out.below hn).more hn.size)
  have HF := Lib.hid (HF.out.later hn)
  have hbA := bel_next hbA hn
  clear hn
  go_wp2_with fail
  refine (in_any 4 _).mono ?_
  rintro e x9 ⟨rfl, hn⟩
  have HS6 := Lib.hid ((HS6.out.below hn).more hn.size)
  have HF := Lib.hid (HF.out.later hn)
  have hbA := bel_next hbA hn
  clear hn
  have R5 := shows_new x9 #[.int .i64 3, .int .i64 1, .string ⟨#[]⟩, .slice none 0 0, .slice none 0 0, .int .i64 3, .int .i64 3, .string ⟨#[]⟩, .slice none 0 0, .slice none 0 0, .int .i64 3, .int .i64 3, .string ⟨#[]⟩, .slice none 0 0, .slice none 0 0, .int .i64 3, .int .i64 4, .string ⟨#[]⟩, .slice none 0 0, .slice none 0 0] 25 x9.heap.size 4 5 rfl rfl
  have hn0 := bel_alloc (Below.refl x9.heap.size x9) (.cells #[.int .i64 3, .int .i64 1, .string ⟨#[]⟩, .slice none 0 0, .slice none 0 0, .int .i64 3, .int .i64 3, .string ⟨#[]⟩, .slice none 0 0, .slice none 0 0, .int .i64 3, .int .i64 3, .string ⟨#[]⟩, .slice none 0 0, .slice none 0 0, .int .i64 3, .int .i64 4, .string ⟨#[]⟩, .slice none 0 0, .slice none 0 0] 25)
  go_wp2_with fail
  refine (in_any 3 _).mono ?_
  rintro e x10 ⟨rfl, hn⟩
  have R5 := (R5.below (hn.mono (by simp))).more (Nat.le_trans (by simp) hn.size)
  have hn := bel_next hn0 hn
  have HS6 := Lib.hid ((HS6.out.below hn).more hn.size)
  have HF := Lib.hid (HF.out.later hn)
  have hbA := bel_next hbA hn
  clear hn hn0
  have hp := placew1_any (some ⟨x9.heap.size, 0, none⟩) 4 x10.heap.size x10 R5 (Nat.le_refl _) (HTx.out _ hbA).1 (HTx.out _ hbA).2.1 (HTx.out _ hbA).2.2
  clear R5
  go_wp2_with fail
  refine hp.mono ?_
  rintro e x11 ⟨rfl, hn⟩
  have HS6 := Lib.hid ((HS6.out.below hn).more hn.size)
  have HF := Lib.hid (HF.out.later hn)
  have hbA := bel_next hbA hn
  clear hn hp
  go_wp2_with fail
  refine (in_any 1 _).mono ?_
  rintro e x12 ⟨rfl, hn⟩
  have HS6 := Lib.hid ((HS6.out.below hn).more hn.size)
  have HF := Lib.hid (HF.out.later hn)
  have hbA := bel_next hbA hn
  clear hn
  have hc := cmpw2_any x12 (HTx.out _ hbA).1 (HTx.out _ hbA).2.1 (HTx.out _ hbA).2.2
  go_wp2_with fail
  refine hc.mono ?_
  rintro e x13 ⟨rfl, hn⟩
  have HS6 := Lib.hid ((HS6.out.below hn).more hn.size)
  have HF := Lib.hid (HF.out.later hn)
  have hbA := bel_next hbA hn
  clear hn hc
  go_wp2_with fail
  refine (in_any 2 _).mono ?_
  rintro e x14 ⟨rfl, hn⟩
  have HS6 := Lib.hid ((HS6.out.below hn).more hn.size)
  have HF := Lib.hid (HF.out.later hn)
  have hbA := bel_next hbA hn
  clear hn
  go_wp2_with fail
  refine (in_any 1 _).mono ?_
  rintro e x15 ⟨rfl, hn⟩
  have HS6 := Lib.hid ((HS6.out.below hn).more hn.size)
  have HF := Lib.hid (HF.out.later hn)
  have hbA := bel_next hbA hn
  clear hn
  have R7 := shows_new x15 #[.int .i64 3, .int .i64 2, .string ⟨#[]⟩, .slice none 0 0, .slice none 0 0, .int .i64 3, .int .i64 1, .string ⟨#[]⟩, .slice none 0 0, .slice none 0 0] 25 x15.heap.size 2 5 rfl rfl
  have hn0 := bel_alloc (Below.refl x15.heap.size x15) (.cells #[.int .i64 3, .int .i64 2, .string ⟨#[]⟩, .slice none 0 0, .slice none 0 0, .int .i64 3, .int .i64 1, .string ⟨#[]⟩, .slice none 0 0, .slice none 0 0] 25)
  go_wp2_with fail
  refine (in_any 1 _).mono ?_
  rintro e x16 ⟨rfl, hn⟩
  have R7 := (R7.below (hn.mono (by simp))).more (Nat.le_trans (by simp) hn.size)
  have hn := bel_next hn0 hn
  have HS6 := Lib.hid ((HS6.out.below hn).more hn.size)
  have HF := Lib.hid (HF.out.later hn)
  have hbA := bel_next hbA hn
  clear hn hn0
  have hp := placew2_any (some ⟨x15.heap.size, 0, none⟩) 2 x16.heap.size x16 R7 (Nat.le_refl _) (HTx.out _ hbA).1 (HTx.out _ hbA).2.1 (HTx.out _ hbA).2.2
  clear R7
  go_wp2_with fail
  refine hp.mono ?_
  rintro e x17 ⟨rfl, hn⟩
  have HS6 := Lib.hid ((HS6.out.below hn).more hn.size)
  have HF := Lib.hid (HF.out.later hn)
  have hbA := bel_next hbA hn
  clear hn hp
  obtain ⟨b8, o8, rfl, _, hc8⟩ := HS6.out.2 (by decide)
  have n0 := hc8 0 (.int .i64 1) rfl
  have n1 := hc8 6 (.int .i64 7) rfl
  simp only [Nat.add_zero] at n0
  obtain ⟨⟨-, -, -, f3, -⟩, -⟩ := HF.out
  clear HS6 HF hc8
  go_wp2
  go_ret
  exact ⟨rfl, hbA⟩
end Go.Proofs.YtndolgbbochpjaaDoor
/-
  Layer 7, plain: fronts.
-/
namespace Go.Proofs.YtndolgbbochpjaaDoor
open Go.RowKit
set_option linter.unusedVariables false

theorem flat_take5 : ∀ (l : List VT) (m : Nat), (l.flatMap VT.cells).take (m * 5) = (l.take m).flatMap VT.cells
  | [], m => by simp
  | x :: l, 0 => by simp
  | x :: l, m + 1 => by
    rw [List.flatMap_cons, List.take_succ_cons, List.flatMap_cons, ← flat_take5 l m]
    have e : (m + 1) * 5 = x.cells.length + m * 5 := by rw [VT.cells_len]; omega
    rw [e, List.take_append, List.take_of_length_le (by omega), Nat.add_sub_cancel_left]
theorem front_lie {w : World} {B : Nat} {T : VT} (h : Lie w B T) (m : Nat) : Lie w B (frontV T m) := by
  obtain ⟨k, n, s, cA, cn, cc, kA, kn, kc, keys, kids⟩ := T
  by_cases hf : k = 5 ∧ m < cn
  · rw [show frontV (.mk k n s cA cn cc kA kn kc keys kids) m = .mk 5 0 ⟨#[]⟩ cA m m none 0 0 [] (kids.take m) from if_pos hf]
    cases h with
    | mk a1 a2 a3 a4 =>
      obtain ⟨_, _, _, h4, h5, h6, _⟩ := a3
      have hne : cA ≠ none := fun e => by
        subst e
        obtain ⟨b, off, x, h, -⟩ := kids_at a1 (show 0 < cn by omega)
        cases h
      have hs := a1.first (show m ≤ cn by omega)
      have hfl : (kids.flatMap VT.cells).take (m * 5) = (kids.take m).flatMap VT.cells := flat_take5 kids m
      rw [hfl] at hs
      exact .mk hs (Shows.zero none) ⟨by decide, by decide, by decide, Nat.le_refl _, by omega, fun e => absurd e hne, Nat.le_refl _, by decide, fun _ => rfl, by simp⟩ fun x hx => a4 x (List.mem_of_mem_take hx)
  · rw [show frontV (.mk k n s cA cn cc kA kn kc keys kids) m = .mk k n s cA cn cc kA kn kc keys kids from if_neg hf]
    exact h
theorem front_kids {w : World} {B : Nat} {T : VT} (h : Lie w B T) (hs : T.sized) (m : Nat) : (frontV T m).k = T.k ∧ (frontV T m).n = T.n ∧ (frontV T m).s = T.s ∧ (frontV T m).kids = (if T.k = 5 then T.kids.take m else T.kids) ∧ (frontV T m).keys = T.keys := by
  obtain ⟨f1, f2⟩ := fit_bare hs.1
  have hk := hs.2.2.1
  obtain ⟨k, n, s, cA, cn, cc, kA, kn, kc, keys, kids⟩ := T
  have hl : kids.length = cn := by
    cases h with
    | mk a1 a2 a3 a4 => exact kids_len a1
  simp only [VT.k, VT.n, VT.s, VT.keys] at f1 f2 hk
  by_cases hf : k = 5 ∧ m < cn
  · rw [show frontV (.mk k n s cA cn cc kA kn kc keys kids) m = .mk 5 0 ⟨#[]⟩ cA m m none 0 0 [] (kids.take m) from if_pos hf]
    obtain ⟨rfl, hm⟩ := hf
    exact ⟨rfl, (f1 (by decide) (by decide)).symm, (f2 (by decide)).symm, (if_pos rfl).symm, (hk (by decide)).symm⟩
  · rw [show frontV (.mk k n s cA cn cc kA kn kc keys kids) m = .mk k n s cA cn cc kA kn kc keys kids from if_neg hf]
    refine ⟨rfl, rfl, rfl, ?_, rfl⟩
    show kids = if k = 5 then kids.take m else kids
    by_cases h5 : k = 5
    · rw [if_pos h5, List.take_of_length_le (by omega)]
    · rw [if_neg h5]
theorem front_els {w : World} {B : Nat} {T : VT} (h : Lie w B T) (hs : T.sized) (m : Nat) : (frontV T m).els = if T.k = 5 then T.els.take m else T.els := by
  obtain ⟨a1, a2, a3, a4, a5⟩ := front_kids h hs m
  unfold VT.els
  rw [a1, a4, a5]
  by_cases h5 : T.k = 5
  · rw [if_pos h5, if_pos h5, if_neg (by omega), if_neg (by omega), List.map_take]
  · rw [if_neg h5, if_neg h5]
theorem front_e {w : World} {B : Nat} {T : VT} (h : Lie w B T) (hs : T.sized) (m : Nat) : (frontV T m).e = .mk T.k T.n T.s T.keys ((if T.k = 5 then T.kids.take m else T.kids).map VT.e) := by
  obtain ⟨a1, a2, a3, a4, a5⟩ := front_kids h hs m
  rw [e_of, a1, a2, a3, a4, a5]
theorem front_ok {w : World} {B : Nat} {T : VT} (h : Lie w B T) (hok : T.ok = true) (m : Nat) : (frontV T m).ok = true := by
  obtain ⟨k, n, s, cA, cn, cc, kA, kn, kc, keys, kids⟩ := T
  by_cases hf : k = 5 ∧ m < cn
  · rw [show frontV (.mk k n s cA cn cc kA kn kc keys kids) m = .mk 5 0 ⟨#[]⟩ cA m m none 0 0 [] (kids.take m) from if_pos hf]
    obtain ⟨rfl, hm⟩ := hf
    unfold VT.ok at hok ⊢
    simp only [Bool.and_eq_true, decide_eq_true_eq] at hok ⊢
    obtain ⟨h1, h2, h3⟩ := hok
    rw [dep_mk] at h1 ⊢
    rw [cnt_mk] at h2 ⊢
    rw [all_mk] at h3 ⊢
    simp only [Bool.and_eq_true, List.all_eq_true] at h3 ⊢
    have e := List.take_append_drop m kids
    rw [← e, List.map_append, maxL_append] at h1
    rw [← e, List.map_append, List.sum_append] at h2
    refine ⟨by omega, by omega, ?_, fun x hx => h3.2 x (List.mem_of_mem_take hx)⟩
    rw [fit_mk, strB_nil]
    have q1 : eleB 5 m = true := by unfold eleB eleQ shKids; simp
    have q2 : memB 5 m 0 [] = true := rfl
    rw [q1, q2]
    decide
  · rw [show frontV (.mk k n s cA cn cc kA kn kc keys kids) m = .mk k n s cA cn cc kA kn kc keys kids from if_neg hf]
    exact hok
theorem lex_front {α : Type} {f : α → α → Int} (hf : Cmp f) : ∀ (l : List α) (m : Nat), lexL f (l.take m) l ≤ 0
  | [], m => by simp [lexL]
  | x :: l, 0 => by simp [lexL]
  | x :: l, m + 1 => by
    rw [List.take_succ_cons, lexL, hf.self, thenI_0]
    exact lex_front hf l m
theorem lex_fronts {α : Type} {f : α → α → Int} (hf : Cmp f) : ∀ (l l' : List α) (m : Nat), lexL f l l' ≤ 0 → lexL f (l.take m) (l'.take m) ≤ 0
  | [], l', m, h => by
    rw [List.take_nil]
    cases l'.take m <;> simp [lexL]
  | x :: l, l', 0, h => by simp [lexL]
  | x :: l, [], m + 1, h => by simp [lexL] at h
  | x :: l, y :: l', m + 1, h => by
    rw [List.take_succ_cons, List.take_succ_cons, lexL]
    rw [lexL] at h
    unfold thenI at h ⊢
    by_cases hz : f x y = 0
    · rw [if_pos hz] at h ⊢
      exact lex_fronts hf l l' m h
    · rw [if_neg hz] at h ⊢
      exact h
theorem front_le {w : World} {B : Nat} {T : VT} (h : Lie w B T) (hok : T.ok = true) (m : Nat) : cmpV (frontV T m) T ≤ 0 := by
  have hs := Szd.sized (ok_szd h hok)
  obtain ⟨a1, a2, a3, -⟩ := front_kids h hs m
  have e := front_els h hs m
  have hr : rankV (frontV T m) = rankV T := by unfold rankV; rw [a1, a2]
  unfold cmpV
  rw [cmpF, hr, a2, a3, cmpQ_self, thenI_0, cmpQ_self, thenI_0, vcmp_self, thenI_0, e]
  by_cases h5 : T.k = 5
  · rw [if_pos h5]; exact lex_front (cmpE_is (cmpF_is 8)) _ _
  · rw [if_neg h5, (cmp_lex (cmpE_is (cmpF_is 8))).self]; exact Int.le_refl _
theorem fronts_le {w : World} {B : Nat} {T U : VT} (h : Lie w B T) (h' : Lie w B U) (hok : T.ok = true) (hok' : U.ok = true) (m : Nat) (hle : cmpV T U ≤ 0) : cmpV (frontV T m) (frontV U m) ≤ 0 := by
  have hs := Szd.sized (ok_szd h hok)
  have hs' := Szd.sized (ok_szd h' hok')
  obtain ⟨a1, a2, a3, -⟩ := front_kids h hs m
  obtain ⟨b1, b2, b3, -⟩ := front_kids h' hs' m
  have e := front_els h hs m
  have e' := front_els h' hs' m
  have hr : rankV (frontV T m) = rankV T := by unfold rankV; rw [a1, a2]
  have hr' : rankV (frontV U m) = rankV U := by unfold rankV; rw [b1, b2]
  unfold cmpV at hle ⊢
  rw [cmpF] at hle ⊢
  rw [hr, hr', a2, a3, b2, b3, e, e']
  by_cases hz : rankV T = rankV U
  · have hk := (rank_same hs.1 hs'.1 hz).1
    rw [hz, cmpQ_self, thenI_0] at hle ⊢
    rw [hk]
    by_cases h5 : U.k = 5
    · rw [if_pos h5, if_pos h5]
      have f1 := (fit_bare hs.1).1 (by omega) (by omega)
      have f2 := (fit_bare hs.1).2 (by omega)
      have g1 := (fit_bare hs'.1).1 (by omega) (by omega)
      have g2 := (fit_bare hs'.1).2 (by omega)
      rw [f1, g1, cmpQ_self, thenI_0, f2, g2, vcmp_self, thenI_0] at hle ⊢
      exact lex_fronts (cmpE_is (cmpF_is 8)) _ _ m hle
    · rw [if_neg h5, if_neg h5]
      exact hle
  · have hne : cmpQ (rankV T) (rankV U) ≠ 0 := fun e => hz (cmpQ_zero.1 e)
    unfold thenI at hle ⊢
    rw [if_neg hne] at hle ⊢
    exact hle
theorem fronts_same {w : World} {B : Nat} {T : VT} (h : Lie w B T) (hok : T.ok = true) (n m : Nat) : (frontV (frontV T n) m).e = (frontV T (min n m)).e := by
  have hs := Szd.sized (ok_szd h hok)
  have h2 := front_lie h n
  have hs2 := Szd.sized (ok_szd h2 (front_ok h hok n))
  obtain ⟨a1, a2, a3, a4, a5⟩ := front_kids h hs n
  rw [front_e h2 hs2 m, front_e h hs, a1, a2, a3, a4, a5]
  by_cases h5 : T.k = 5
  · rw [if_pos h5, if_pos h5, if_pos h5, List.take_take, Nat.min_comm]
  · rw [if_neg h5, if_neg h5, if_neg h5]
end Go.Proofs.YtndolgbbochpjaaDoor
/-
  CollateCuts: a front is not behind its value, fronts keep the order, fronts of fronts are fronts: the walk.
-/
namespace Go.Proofs.YtndolgbbochpjaaDoor
open Go.RowKit
set_option linter.unusedVariables false

def CmpPc (T U : VT) (v E : Int) : Prop := ((T.ok && U.ok) = true ∧ v = cmpV T U ∧ E = 0) ∨ ((T.ok && U.ok) = false ∧ v = 0 ∧ E = 140)
theorem comparePc_any (T U : VT) (B : Nat) (w : World) (hL : Lie w B T) (hL' : Lie w B U) (hB : B ≤ w.heap.size) (h1 : T.ok = true) (h2 : U.ok = true) (htab : UTab w) (hst : STab w) (hr : RTab w) :
    Calls Tryd.prog 11 #[T.agg, U.agg] w fun e w' => e = .returned (.tuple #[.int .i64 (cmpV T U), .int .i64 0]) ∧ Below w.heap.size w w' := by
  have h := compareT_any T U B w hL hL' hB htab hst hr
  unfold cmpT at h
  rw [h1, h2] at h
  exact h
def FrN (T : VT) (m : Nat) (X : VT) (E : Int) : Prop := (T.ok = false ∧ E = 140) ∨ (T.ok = true ∧ X = frontV T m ∧ E = 0)
theorem frontN_any (T : VT) (m : Nat) (B : Nat) (w : World) (hL : Lie w B T) (hB : B ≤ w.heap.size) (htab : UTab w) (hst : STab w) :
    Calls Tryd.prog 21 #[T.agg, .int .i64 (m : Int)] w fun e w' => ∃ X E, e = .returned (.tuple #[X.agg, .int .i64 E]) ∧ Hid (FrN T m X E) ∧ Hid (Lie w B X) ∧ Below w.heap.size w w' := by
  refine (frontT_any T m B w hL hB htab hst).mono ?_
  rintro e w' ⟨X, E, rfl, hP, hb⟩
  refine ⟨X, E, rfl, ?_, ?_, hb⟩
  · rcases hP.out with ⟨h1, _, h2⟩ | ⟨h1, ⟨h2, _⟩ | ⟨_, h3, h4⟩⟩
    · exact Lib.hid (.inl ⟨h1, h2⟩)
    · omega
    · rw [Int.toNat_natCast] at h3
      exact Lib.hid (.inr ⟨h1, h3, h4⟩)
  · rcases hP.out with ⟨_, rfl, _⟩ | ⟨h1, ⟨h2, _⟩ | ⟨_, rfl, h4⟩⟩
    · exact Lib.hid (lie_sc _ _ _ _ _ (by decide) (by decide) (by decide))
    · omega
    · exact Lib.hid (front_lie hL _)
theorem same_fronts {w : World} {B : Nat} {T : VT} (h : Lie w B T) (hok : T.ok = true) (n m : Nat) : sameR (frontV (frontV T n) m) (frontV T (min n m)) = true := by
  unfold sameR
  rw [front_ok (front_lie h n) (front_ok h hok n) m, front_ok h hok, (sameV_iff _ _).2 (fronts_same h hok n m)]
  rfl
set_option maxRecDepth 20000 in
set_option maxHeartbeats 4000000 in
theorem ccuts_any (w : World) (T U : VT) (na nb : Int) (B : Nat) (hL1 : Lie w B T) (hL2 : Lie w B U) (hB : B ≤ w.heap.size) (htab : UTab w) (hst : STab w) (hr : RTab w) :
    Calls Tryd.prog 9 #[T.agg, U.agg, .int .i64 na, .int .i64 nb] w fun e w' => e = .returned (.bool true) ∧ Below w.heap.size w w' := by
  have HTx := Lib.hid (fun W (h : Below w.heap.size w W) => (⟨htab.below h htab.lt, hst.below h hst.lt, hr.below h hr.lt⟩ : UTab W ∧ STab W ∧ RTab W))
  have HL1 := Lib.hid (fun W (h : Below w.heap.size w W) => hL1.later (h.mono hB))
  have HL2 := Lib.hid (fun W (h : Below w.heap.size w W) => hL2.later (h.mono hB))
  have HW := Lib.hid (fun W (h : Below w.heap.size w W) => cwakes_any W (HTx.out W h).1 (HTx.out W h).2.1 (HTx.out W h).2.2)
  have HF := Lib.hid (fun X (m : Nat) W (h : Below w.heap.size w W) (hX : Lie W B X) => frontN_any X m B W hX (Nat.le_trans hB h.size) (HTx.out W h).1 (HTx.out W h).2.1)
  have HC := Lib.hid (fun X Y W (h : Below w.heap.size w W) (hX : Lie W B X) (hY : Lie W B Y) (h1 : X.ok = true) (h2 : Y.ok = true) => comparePc_any X Y B W hX hY (Nat.le_trans hB h.size) h1 h2 (HTx.out W h).1 (HTx.out W h).2.1 (HTx.out W h).2.2)
  have HS := Lib.hid (fun X Y W (h : Below w.heap.size w W) (hX : Lie W B X) (hY : Lie W B Y) => same_any B W X Y hX hY (Nat.le_trans hB h.size) (HTx.out W h).1 (HTx.out W h).2.1)
  have HL10 := Lib.hid hL1
  have HL20 := Lib.hid hL2
  clear hL1 hL2 htab hst hr
  obtain ⟨u, hu⟩ : ∃ u : Nat, IntKind.u64.wrap na = (u : Int) := ⟨(IntKind.u64.wrap na).toNat, by
    have : 0 ≤ IntKind.u64.wrap na := by simp [IntKind.wrap, IntKind.bits, IntKind.signed]; omega
    omega⟩
  obtain ⟨v, hv⟩ : ∃ v : Nat, IntKind.u64.wrap nb = (v : Int) := ⟨(IntKind.u64.wrap nb).toNat, by
    have : 0 ≤ IntKind.u64.wrap nb := by simp [IntKind.wrap, IntKind.bits, IntKind.signed]; omega
    omega⟩
  obtain ⟨n1, hn1⟩ : ∃ n1, n1 = u % 20 := ⟨_, rfl⟩
  obtain ⟨m1, hm1⟩ : ∃ m1, m1 = v % 20 := ⟨_, rfl⟩
  have hu20 : (u : Int) % 20 = (n1 : Int) := by omega
  have hv20 : (v : Int) % 20 = (m1 : Int) := by omega
  have hn20 : n1 < 20 := by omega
  have hm20 : m1 < 20 := by omega
  have hu0 : (0 : Int) ≤ (u : Int) := by omega
  have hv0 : (0 : Int) ≤ (v : Int) := by omega
  have hnw : IntKind.i64.wrap (n1 : Int) = (n1 : Int) := by rw [IntKind.wrap_i64]; omega
  have hmw : IntKind.i64.wrap (m1 : Int) = (m1 : Int) := by rw [IntKind.wrap_i64]; omega
  clear hn1 hm1
  obtain ⟨k, n, s, cA, cn, cc, kA, kn, kc, keys, kids⟩ := T
  obtain ⟨k', n', s', cA', cn', cc', kA', kn', kc', keys', kids'⟩ := U
  have hb1 := bel_alloc (bel_alloc (Below.refl w.heap.size w) (.cells #[.int .i64 k, .int .i64 n, .string s, .slice cA cn cc, .slice kA kn kc] 25)) (.cells #[.int .i64 k', .int .i64 n', .string s', .slice cA' cn' cc', .slice kA' kn' kc'] 25)
  have HA := Lib.hid ((VFive.new w (.int .i64 k) (.int .i64 n) (.string s) (.slice cA cn cc) (.slice kA kn kc) 25 w.heap.size rfl).alloc (.cells #[.int .i64 k', .int .i64 n', .string s', .slice cA' cn' cc', .slice kA' kn' kc'] 25))
  have HB := Lib.hid (VFive.new (w.alloc (.cells #[.int .i64 k, .int .i64 n, .string s, .slice cA cn cc, .slice kA kn kc] 25)) (.int .i64 k') (.int .i64 n') (.string s') (.slice cA' cn' cc') (.slice kA' kn' kc') 25 (w.heap.size + 1) (World.size_alloc _ _))
  simp only [VT.agg]
  go_enter Tryd.func9, Tryd.ntmps9
  go_upto_region 1 with fail
  generalize ((w.alloc (.cells #[.int .i64 k, .int .i64 n, .string s, .slice cA cn cc, .slice kA kn kc] 25)).alloc (.cells #[.int .i64 k', .int .i64 n', .string s', .slice cA' cn' cc', .slice kA' kn' kc'] 25)) = w1 at *
  go_wp2_with fail
  refine (HW.out _ hb1).mono ?_
  rintro e w2 ⟨rfl, hn⟩
  have HA := Lib.hid (HA.out.later hn)
  have HB := Lib.hid (HB.out.later hn)
  have hb0 := hb1
  have hb1 := bel_next hb1 hn
  clear HW
  obtain ⟨⟨a0, a1, a2, a3, a4⟩, -⟩ := HA.out
  obtain ⟨⟨b0, b1, b2, b3, b4⟩, -⟩ := HB.out
  have hf := HF.out _ n1 w2 hb1 (HL1.out _ hb1)
  simp only [VT.agg] at hf
  go_wp2_with fail
  refine hf.mono ?_
  rintro e w3 ⟨X1, E1, rfl, HP1, HX1, hn⟩
  clear hf a0 a1 a2 a3 a4 b0 b1 b2 b3 b4
  have HA := Lib.hid (HA.out.later hn)
  have HB := Lib.hid (HB.out.later hn)
  have hb0 := hb1
  have hb1 := bel_next hb1 hn
  have HX1 := Lib.hid (HX1.out.later ((Below.mono hn (Nat.le_trans hB hb0.size))))
  clear hn hb0
  obtain ⟨xk, xn, xs, xcA, xcn, xcc, xkA, xkn, xkc, xkeys, xkids⟩ := X1
  simp only
  have hn := bel_alloc (Below.refl w3.heap.size w3) (.cells #[.int .i64 xk, .int .i64 xn, .string xs, .slice xcA xcn xcc, .slice xkA xkn xkc] 25)
  have HV1 := Lib.hid (VFive.new w3 (.int .i64 xk) (.int .i64 xn) (.string xs) (.slice xcA xcn xcc) (.slice xkA xkn xkc) 25 w3.heap.size rfl)
  have HA := Lib.hid (HA.out.later hn)
  have HB := Lib.hid (HB.out.later hn)
  have hb0 := hb1
  have hb1 := bel_next hb1 hn
  have HX1 := Lib.hid (HX1.out.later (Below.mono hn (Nat.le_trans hB hb0.size)))
  clear hn hb0
  go_upto_region 5 with fail
  generalize (w3.alloc (.cells #[.int .i64 xk, .int .i64 xn, .string xs, .slice xcA xcn xcc, .slice xkA xkn xkc] 25)) = w4 at *
  obtain ⟨⟨a0, a1, a2, a3, a4⟩, -⟩ := HA.out
  obtain ⟨⟨b0, b1, b2, b3, b4⟩, -⟩ := HB.out
  have hf := HF.out _ n1 w4 hb1 (HL2.out _ hb1)
  simp only [VT.agg] at hf
  go_wp2_with fail
  refine hf.mono ?_
  rintro e w5 ⟨X2, E2, rfl, HP2, HX2, hn⟩
  clear hf a0 a1 a2 a3 a4 b0 b1 b2 b3 b4
  have HA := Lib.hid (HA.out.later hn)
  have HB := Lib.hid (HB.out.later hn)
  have hb0 := hb1
  have hb1 := bel_next hb1 hn
  have HX2 := Lib.hid (HX2.out.later (Below.mono hn (Nat.le_trans hB hb0.size)))
  have HX1 := Lib.hid (HX1.out.later (Below.mono hn (Nat.le_trans hB hb0.size)))
  have HV1 := Lib.hid (HV1.out.later hn)
  clear hn hb0
  obtain ⟨yk, yn, ys, ycA, ycn, ycc, ykA, ykn, ykc, ykeys, ykids⟩ := X2
  simp only
  have hn := bel_alloc (Below.refl w5.heap.size w5) (.cells #[.int .i64 yk, .int .i64 yn, .string ys, .slice ycA ycn ycc, .slice ykA ykn ykc] 25)
  have HV2 := Lib.hid (VFive.new w5 (.int .i64 yk) (.int .i64 yn) (.string ys) (.slice ycA ycn ycc) (.slice ykA ykn ykc) 25 w5.heap.size rfl)
  have HA := Lib.hid (HA.out.later hn)
  have HB := Lib.hid (HB.out.later hn)
  have hb0 := hb1
  have hb1 := bel_next hb1 hn
  have HX2 := Lib.hid (HX2.out.later (Below.mono hn (Nat.le_trans hB hb0.size)))
  have HX1 := Lib.hid (HX1.out.later (Below.mono hn (Nat.le_trans hB hb0.size)))
  have HV1 := Lib.hid (HV1.out.later hn)
  clear hn hb0
  go_upto_region 6 with fail
  generalize (w5.alloc (.cells #[.int .i64 yk, .int .i64 yn, .string ys, .slice ycA ycn ycc, .slice ykA ykn ykc] 25)) = w6 at *
  rcases HP1.out with ⟨h1, rfl⟩ | ⟨h1, hX1, rfl⟩
  · have hE2 : E2 = 140 ∨ E2 = 0 := by
      rcases HP2.out with ⟨_, h⟩ | ⟨_, _, h⟩
      · exact .inl h
      · exact .inr h
    clear HP1 HP2 h1 HF HC HS
    rcases hE2 with rfl | rfl
    all_goals
      go_wp2
      go_ret
      exact ⟨rfl, hb1⟩
  · rcases HP2.out with ⟨h2, rfl⟩ | ⟨h2, hX2, rfl⟩
    · clear HP1 HP2 h1 h2 HF HC HS hX1
      go_wp2
      go_ret
      exact ⟨rfl, hb1⟩
    · have HE1 := Lib.hid hX1
      have HE2 := Lib.hid hX2
      have Hok1 := Lib.hid h1
      have Hok2 := Lib.hid h2
      have hq1 := front_ok HL10.out h1 n1
      have hq2 := front_ok HL20.out h2 n1
      rw [← hX1] at hq1
      rw [← hX2] at hq2
      have hle := front_le HL10.out h1 n1
      rw [← hX1] at hle
      have hles := fun hh => fronts_le HL10.out HL20.out h1 h2 n1 hh
      rw [← hX1, ← hX2] at hles
      have Hq1 := Lib.hid hq1
      have Hq2 := Lib.hid hq2
      have hc1 := HC.out _ _ w6 hb1 HX1.out (HL1.out _ hb1) hq1 h1
      have Hc2 := Lib.hid (fun W h => HC.out _ _ W h (HL1.out W h) (HL2.out W h) h1 h2)
      have Hc3 := Lib.hid (fun W h hx hy => HC.out _ _ W h hx hy hq1 hq2)
      have hboth : (¬ cmpV (.mk k n s cA cn cc kA kn kc keys kids) (.mk k' n' s' cA' cn' cc' kA' kn' kc' keys' kids') ≤ 0) ∨ (cmpV (.mk k n s cA cn cc kA kn kc keys kids) (.mk k' n' s' cA' cn' cc' kA' kn' kc' keys' kids') ≤ 0 ∧ cmpV (.mk xk xn xs xcA xcn xcc xkA xkn xkc xkeys xkids) (.mk yk yn ys ycA ycn ycc ykA ykn ykc ykeys ykids) ≤ 0) := by
        by_cases h : cmpV (.mk k n s cA cn cc kA kn kc keys kids) (.mk k' n' s' cA' cn' cc' kA' kn' kc' keys' kids') ≤ 0
        · exact .inr ⟨h, hles h⟩
        · exact .inl h
      have hsm := same_fronts HL10.out h1 n1 m1
      have Hsm := Lib.hid hsm
      clear hX1 hX2 h1 h2 hq1 hq2 hles hsm HP1 HP2 HC
      generalize cmpV (.mk xk xn xs xcA xcn xcc xkA xkn xkc xkeys xkids) (.mk k n s cA cn cc kA kn kc keys kids) = own at *
      generalize cmpV (.mk k n s cA cn cc kA kn kc keys kids) (.mk k' n' s' cA' cn' cc' kA' kn' kc' keys' kids') = both at *
      generalize cmpV (.mk xk xn xs xcA xcn xcc xkA xkn xkc xkeys xkids) (.mk yk yn ys ycA ycn ycc ykA ykn ykc ykeys ykids) = frs at *
      simp only [VT.agg] at hc1 Hc2 Hc3
      obtain ⟨⟨a0, a1, a2, a3, a4⟩, -⟩ := HA.out
      obtain ⟨⟨b0, b1, b2, b3, b4⟩, -⟩ := HB.out
      obtain ⟨⟨x0, x1, x2, x3, x4⟩, -⟩ := HV1.out
      obtain ⟨⟨y0, y1, y2, y3, y4⟩, -⟩ := HV2.out
      go_wp2_with fail
      refine hc1.mono ?_
      rintro e w7 ⟨rfl, hn⟩
      clear hc1 a0 a1 a2 a3 a4 b0 b1 b2 b3 b4 x0 x1 x2 x3 x4 y0 y1 y2 y3 y4
      have hlater := fun X (h : Lie _ B X) => h.later (Below.mono hn (Nat.le_trans hB hb1.size))
      have HX1 := Lib.hid (hlater _ HX1.out)
      have HX2 := Lib.hid (hlater _ HX2.out)
      have HV1 := Lib.hid (HV1.out.later hn)
      have HV2 := Lib.hid (HV2.out.later hn)
      have HA := Lib.hid (HA.out.later hn)
      have HB := Lib.hid (HB.out.later hn)
      have hb1 := bel_next hb1 hn
      clear hn hlater
      obtain ⟨⟨a0, a1, a2, a3, a4⟩, -⟩ := HA.out
      obtain ⟨⟨b0, b1, b2, b3, b4⟩, -⟩ := HB.out
      obtain ⟨⟨x0, x1, x2, x3, x4⟩, -⟩ := HV1.out
      obtain ⟨⟨y0, y1, y2, y3, y4⟩, -⟩ := HV2.out
      go_wp2_with fail
      refine (Hc2.out _ hb1).mono ?_
      rintro e w8 ⟨rfl, hn⟩
      clear Hc2 a0 a1 a2 a3 a4 b0 b1 b2 b3 b4 x0 x1 x2 x3 x4 y0 y1 y2 y3 y4
      have hlater := fun X (h : Lie _ B X) => h.later (Below.mono hn (Nat.le_trans hB hb1.size))
      have HX1 := Lib.hid (hlater _ HX1.out)
      have HX2 := Lib.hid (hlater _ HX2.out)
      have HV1 := Lib.hid (HV1.out.later hn)
      have HV2 := Lib.hid (HV2.out.later hn)
      have HA := Lib.hid (HA.out.later hn)
      have HB := Lib.hid (HB.out.later hn)
      have hb1 := bel_next hb1 hn
      clear hn hlater
      obtain ⟨⟨a0, a1, a2, a3, a4⟩, -⟩ := HA.out
      obtain ⟨⟨b0, b1, b2, b3, b4⟩, -⟩ := HB.out
      obtain ⟨⟨x0, x1, x2, x3, x4⟩, -⟩ := HV1.out
      obtain ⟨⟨y0, y1, y2, y3, y4⟩, -⟩ := HV2.out
      go_wp2_with fail
      refine (Hc3.out _ hb1 HX1.out HX2.out).mono ?_
      rintro e w9 ⟨rfl, hn⟩
      clear Hc3 a0 a1 a2 a3 a4 b0 b1 b2 b3 b4 x0 x1 x2 x3 x4 y0 y1 y2 y3 y4
      have hlater := fun X (h : Lie _ B X) => h.later (Below.mono hn (Nat.le_trans hB hb1.size))
      have HX1 := Lib.hid (hlater _ HX1.out)
      have HX2 := Lib.hid (hlater _ HX2.out)
      have HV1 := Lib.hid (HV1.out.later hn)
      have HV2 := Lib.hid (HV2.out.later hn)
      have HA := Lib.hid (HA.out.later hn)
      have HB := Lib.hid (HB.out.later hn)
      have hb1 := bel_next hb1 hn
      clear hn hlater
      go_upto_region 11 with fail
      go_cut [100] (fun s wx => s = .bool false ∧ w9 = wx)
      case first =>
        have ho : (0 < own) = False := by simp; omega
        rcases hboth with h | ⟨h, hh⟩
        · have h' : (both ≤ 0) = False := by simp; omega
          have h'' : 0 < both := by omega
          clear h
          go_wp2
          go_meet
          case rel => exact ⟨by first | rfl | simp, rfl⟩
        · have hf' : (0 < frs) = False := by simp; omega
          go_wp2
          go_meet
          case rel => exact ⟨by first | rfl | simp, rfl⟩
      case rest =>
        obtain ⟨rfl, rfl⟩ := hcut
        clear hboth hle
        obtain ⟨⟨a0, a1, a2, a3, a4⟩, -⟩ := HA.out
        obtain ⟨⟨b0, b1, b2, b3, b4⟩, -⟩ := HB.out
        obtain ⟨⟨x0, x1, x2, x3, x4⟩, -⟩ := HV1.out
        obtain ⟨⟨y0, y1, y2, y3, y4⟩, -⟩ := HV2.out
        have hf := HF.out _ m1 w9 hb1 HX1.out
        simp only [VT.agg] at hf
        go_wp2_with fail
        refine hf.mono ?_
        rintro e w10 ⟨X3, E3, rfl, HP3, HX3, hn⟩
        clear hf a0 a1 a2 a3 a4 b0 b1 b2 b3 b4 x0 x1 x2 x3 x4 y0 y1 y2 y3 y4
        have hX3 : X3 = frontV (frontV (.mk k n s cA cn cc kA kn kc keys kids) n1) m1 ∧ E3 = 0 := by
          rcases HP3.out with ⟨h, _⟩ | ⟨_, h, h2⟩
          · rw [Hq1.out] at h; cases h
          · rw [← HE1.out]; exact ⟨h, h2⟩
        obtain ⟨hX3, rfl⟩ := hX3
        have HE3 := Lib.hid hX3
        have hlx := HX3.out.later (Below.mono hn (Nat.le_trans hB hb1.size))
        have HX3 := Lib.hid hlx
        clear hX3 HP3 hlx
        have hlater := fun X (h : Lie _ B X) => h.later (Below.mono hn (Nat.le_trans hB hb1.size))
        have HX1 := Lib.hid (hlater _ HX1.out)
        have HX2 := Lib.hid (hlater _ HX2.out)
        have HV1 := Lib.hid (HV1.out.later hn)
        have HV2 := Lib.hid (HV2.out.later hn)
        have HA := Lib.hid (HA.out.later hn)
        have HB := Lib.hid (HB.out.later hn)
        have hb1 := bel_next hb1 hn
        clear hn hlater
        obtain ⟨zk, zn, zs, zcA, zcn, zcc, zkA, zkn, zkc, zkeys, zkids⟩ := X3
        simp only
        have hn := bel_alloc (Below.refl w10.heap.size w10) (.cells #[.int .i64 zk, .int .i64 zn, .string zs, .slice zcA zcn zcc, .slice zkA zkn zkc] 25)
        have HV3 := Lib.hid (VFive.new w10 (.int .i64 zk) (.int .i64 zn) (.string zs) (.slice zcA zcn zcc) (.slice zkA zkn zkc) 25 w10.heap.size rfl)
        have HX3 := Lib.hid (HX3.out.later (Below.mono hn (Nat.le_trans hB hb1.size)))
        have hlater := fun X (h : Lie _ B X) => h.later (Below.mono hn (Nat.le_trans hB hb1.size))
        have HX1 := Lib.hid (hlater _ HX1.out)
        have HX2 := Lib.hid (hlater _ HX2.out)
        have HV1 := Lib.hid (HV1.out.later hn)
        have HV2 := Lib.hid (HV2.out.later hn)
        have HA := Lib.hid (HA.out.later hn)
        have HB := Lib.hid (HB.out.later hn)
        have hb1 := bel_next hb1 hn
        clear hn hlater
        go_upto_region 14 with fail
        generalize (w10.alloc (.cells #[.int .i64 zk, .int .i64 zn, .string zs, .slice zcA zcn zcc, .slice zkA zkn zkc] 25)) = w11 at *
        obtain ⟨⟨a0, a1, a2, a3, a4⟩, -⟩ := HA.out
        obtain ⟨⟨b0, b1, b2, b3, b4⟩, -⟩ := HB.out
        obtain ⟨⟨x0, x1, x2, x3, x4⟩, -⟩ := HV1.out
        obtain ⟨⟨y0, y1, y2, y3, y4⟩, -⟩ := HV2.out
        obtain ⟨q, hq⟩ : ∃ q, q = min n1 m1 := ⟨_, rfl⟩
        have hqi : min (n1 : Int) (m1 : Int) = (q : Int) := by omega
        rw [← hq] at Hsm
        clear hq
        have hf := HF.out _ q w11 hb1 (HL1.out _ hb1)
        simp only [VT.agg] at hf
        go_wp2_with fail
        refine hf.mono ?_
        rintro e w12 ⟨X4, E4, rfl, HP4, HX4, hn⟩
        clear hf a0 a1 a2 a3 a4 b0 b1 b2 b3 b4 x0 x1 x2 x3 x4 y0 y1 y2 y3 y4
        have hX4 := HP4.out
        unfold FrN at hX4
        rw [show (VT.mk k n s cA cn cc kA kn kc keys kids).ok = true from Hok1.out] at hX4
        have hX4 : X4 = frontV (.mk k n s cA cn cc kA kn kc keys kids) q ∧ E4 = 0 := by
          rcases hX4 with ⟨h, _⟩ | ⟨_, h, h2⟩
          · cases h
          · exact ⟨h, h2⟩
        obtain ⟨hX4e, rfl⟩ := hX4
        have hsr := Hsm.out
        rw [← HE3.out, ← hX4e] at hsr
        have Hsr := Lib.hid hsr
        have hb2 := bel_next hb1 hn
        have hx3 := HX3.out.later (Below.mono hn (Nat.le_trans hB hb1.size))
        have hx4 := HX4.out.later (Below.mono hn (Nat.le_trans hB hb1.size))
        have HV3 := Lib.hid (HV3.out.later hn)
        clear hX4e HP4 hsr hn
        obtain ⟨tk, tn, ts, tcA, tcn, tcc, tkA, tkn, tkc, tkeys, tkids⟩ := X4
        simp only
        have hn := bel_alloc (Below.refl w12.heap.size w12) (.cells #[.int .i64 tk, .int .i64 tn, .string ts, .slice tcA tcn tcc, .slice tkA tkn tkc] 25)
        have HV4 := Lib.hid (VFive.new w12 (.int .i64 tk) (.int .i64 tn) (.string ts) (.slice tcA tcn tcc) (.slice tkA tkn tkc) 25 w12.heap.size rfl)
        have HV3 := Lib.hid (HV3.out.later hn)
        have hb3 := bel_next hb2 hn
        have hss := HS.out _ _ _ hb3 (hx3.later (Below.mono hn (Nat.le_trans hB hb2.size))) (hx4.later (Below.mono hn (Nat.le_trans hB hb2.size)))
        rw [Hsr.out] at hss
        simp only [VT.agg] at hss
        obtain ⟨⟨z0, z1, z2, z3, z4⟩, -⟩ := HV3.out
        obtain ⟨⟨t0, t1, t2, t3, t4⟩, -⟩ := HV4.out
        clear hx3 hx4 hn
        go_wp2_with fail
        refine hss.mono ?_
        rintro e w13 ⟨rfl, hn⟩
        go_wp2
        go_ret
        exact ⟨rfl, bel_next hb3 hn⟩
theorem collateCuts_walk (W : World) (T : VT) (hT : Lie W W.heap.size T) (U : VT) (hU : Lie W W.heap.size U) (a2 : Int) (w2 : (Lit.int .i64 a2).wf = true) (a3 : Int) (w3 : (Lit.int .i64 a3).wf = true) (htab : UTab W ∧ STab W ∧ RTab W) :
    Calls Tryd.prog 9 #[T.agg, U.agg, .int .i64 a2, .int .i64 a3] W fun e w' => e = .returned (.bool true) ∧ Below W.heap.size W w' :=
  ccuts_any W T U a2 a3 W.heap.size hT hU (Nat.le_refl _) htab.1 htab.2.1 htab.2.2
end Go.Proofs.YtndolgbbochpjaaDoor
/-
  Layer 1: the table of forms out of a row's condition: an array of structs of whole numbers holds what it reads as.
-/
namespace Go.Proofs.YtndolgbbochpjaaDoor
open Go.RowKit

section
variable {H : Type} {enc : TypeId × Value → H} {P : Program} {w : World} {base : Nat} {sp : Nat → Bool} {held : Bool} {k : IntKind}
def litRow (k : IntKind) (zs : List Int) : DataW H := .agg (zs.map fun z => .lit (.int k z))
theorem cells_of_struct {fuel : Nat} {t : TypeId} {fs : Array Field} {cs : List Value} {zs : List Int} {p : List MemPlace} (ht : P.underlying t = some (.struct fs)) (hn : P.cellsOf t = fs.size)
    (hf : ∀ (i : Nat) (f : Field), fs[i]? = some f → f.offset = i ∧ P.cellsOf f.type = 1 ∧ P.underlying f.type = some (.int k))
    (h : DataW.trod enc P w base sp held fuel t cs = some (litRow k zs, p)) : cs = zs.map fun z => Value.int k z := by
  obtain ⟨xs, n, _, hx, hl, hlen, hfx⟩ := DataW.trod_struct ht h
  have hxs : xs.map (·.1) = zs.map fun z => (DataW.lit (.int k z) : DataW H) := by
    have := congrArg Prod.fst hx
    simpa [litRow] using this.symm
  have hzl : zs.length = fs.size := by
    have := congrArg List.length hxs
    simp at this
    omega
  apply List.ext_getElem?
  intro i
  by_cases hi : i < fs.size
  · obtain ⟨h1, h2, h3⟩ := hf i fs[i] (Array.getElem?_eq_getElem hi)
    have hb := hfx i fs[i] (Array.getElem?_eq_getElem hi)
    rw [h1, h2, List.getElem?_eq_getElem (by omega)] at hb
    obtain ⟨z, hc, hz, _⟩ := DataW.trod_int h3 hb
    have e1 : cs[i]? = some (.int k z) := by
      have := congrArg (·[0]?) hc
      simpa [List.getElem?_take, List.getElem?_drop] using this
    have e2 : (xs.map (·.1))[i]? = some (DataW.lit (.int k z) : DataW H) := by
      rw [List.getElem?_map, List.getElem?_eq_getElem (by omega), hz]
      rfl
    rw [hxs] at e2
    simp only [List.getElem?_map, Option.map_eq_some_iff, DataW.lit.injEq, Lit.int.injEq, true_and] at e2
    obtain ⟨z', hz', rfl⟩ := e2
    simp [e1, hz']
  · rw [List.getElem?_eq_none (by omega), List.getElem?_eq_none (by simp; omega)]
theorem cells_of_rows {fuel : Nat} {t e : TypeId} {n m : Nat} {cs : List Value} {rows : List (List Int)} {p : List MemPlace} (ht : P.underlying t = some (.array n e)) (he : P.cellsOf e = m) (hct : P.cellsOf t = n * m)
    (hs : ∀ (cs' : List Value) (fuel' : Nat) (zs : List Int) (p' : List MemPlace), DataW.trod enc P w base sp held fuel' e cs' = some (litRow k zs, p') → cs' = zs.map fun z => Value.int k z)
    (h : DataW.trod enc P w base sp held fuel t cs = some (.agg (rows.map (litRow k)), p)) :
    cs.length = n * m ∧ rows.length = n ∧ ∀ i r, rows[i]? = some r → (cs.drop (i * m)).take m = r.map fun z => Value.int k z := by
  cases fuel with
  | zero => simp [DataW.trod] at h
  | succ fuel =>
    simp only [DataW.trod, ht, he, hct] at h
    split at h
    · rename_i hl
      obtain ⟨xs, hm, hx⟩ := Option.map_eq_some_iff.1 h
      have hxs : xs.map (·.1) = rows.map (litRow k) := by
        have := congrArg Prod.fst hx
        simpa using this
      have hxl : xs.length = n := by simpa using Lib.mapM_length hm
      have hzl : rows.length = n := by
        have := congrArg List.length hxs
        simp at this
        omega
      refine ⟨hl, hzl, fun i r hr => ?_⟩
      have hi : i < n := by rw [← hzl]; exact (List.getElem?_eq_some_iff.1 hr).1
      obtain ⟨b, hb, hf⟩ := Lib.mapM_at hm i i (by simp [hi])
      have h2 : (xs.map (·.1))[i]? = some (litRow k r) := by rw [hxs, List.getElem?_map, hr]; rfl
      rw [List.getElem?_map, hb] at h2
      have h3 : b.1 = litRow k r := by simpa using h2
      obtain ⟨b1, b2⟩ := b
      subst h3
      exact hs _ _ _ _ hf
    · cases h
end
theorem four (cs : List Value) (h : cs.length = 16) : cs = (cs.drop (0 * 4)).take 4 ++ ((cs.drop (1 * 4)).take 4 ++ ((cs.drop (2 * 4)).take 4 ++ (cs.drop (3 * 4)).take 4)) := by
  have e3 : (cs.drop (3 * 4)).take 4 = cs.drop 12 := List.take_of_length_le (by simp; omega)
  have e2 : (cs.drop (2 * 4)).take 4 ++ cs.drop 12 = cs.drop 8 := by
    have := List.take_append_drop 4 (cs.drop 8)
    rwa [List.drop_drop] at this
  have e1 : (cs.drop (1 * 4)).take 4 ++ cs.drop 8 = cs.drop 4 := by
    have := List.take_append_drop 4 (cs.drop 4)
    rwa [List.drop_drop] at this
  rw [e3, e2, e1]
  simp
set_option maxRecDepth 20000 in
theorem form_rows {W : World} {fuel : Nat} {cs : List Value} {zs : List Int} {p : List MemPlace} (h : DataW.trod (fun _ => ()) Tryd.prog W 0 (fun _ => true) false fuel 113 cs = some (litRow .i64 zs, p)) : cs = zs.map fun z => Value.int .i64 z :=
  cells_of_struct Tryd.underlying113 (by kernel_rfl) (fun i f hf => by
    match i, hf with
    | 0, hf => cases hf; exact ⟨rfl, by kernel_rfl, Tryd.underlying3⟩
    | 1, hf => cases hf; exact ⟨rfl, by kernel_rfl, Tryd.underlying3⟩
    | 2, hf => cases hf; exact ⟨rfl, by kernel_rfl, Tryd.underlying3⟩
    | 3, hf => cases hf; exact ⟨rfl, by kernel_rfl, Tryd.underlying3⟩
    | i + 4, hf => simp at hf) h
set_option maxRecDepth 20000 in
theorem gForms : Tryd.prog.globalNamed "davenport/utf.forms" = some 2 := by kernel_rfl
set_option maxRecDepth 20000 in
theorem gFormsType : (Tryd.prog.globals[2]?).map (·.type) = some 116 := by kernel_rfl
set_option maxRecDepth 20000 in
/-- The condition of a row gives the table. -/
theorem utab_of {W : World} (h : Lib.VarReads Tryd.prog W "davenport/utf.forms" Rows.laid_davenport_utf_forms) : UTab W := by
  obtain ⟨g', t', cs, fuel, p, hg', ht', hvar, hd⟩ := h
  obtain rfl := Option.some.inj (gForms.symm.trans hg')
  obtain rfl := Option.some.inj (gFormsType.symm.trans ht')
  obtain ⟨hl, -, hr⟩ := cells_of_rows (k := .i64) (m := 4) (rows := [[0, 127, 1, 0], [128, 2047, 2, 192], [2048, 65535, 3, 224], [65536, 1114111, 4, 240]]) Tryd.underlying116 (by kernel_rfl) (by kernel_rfl) (fun cs' f' zs p' h' => form_rows h') hd
  have e := four cs.toList hl
  rw [hr 0 _ rfl, hr 1 _ rfl, hr 2 _ rfl, hr 3 _ rfl] at e
  intro i v hi
  have hc := World.var?_cell gForms hvar i
  rw [Nat.zero_add, hc, ← Array.getElem?_toList, e]
  exact hi
end Go.Proofs.YtndolgbbochpjaaDoor
