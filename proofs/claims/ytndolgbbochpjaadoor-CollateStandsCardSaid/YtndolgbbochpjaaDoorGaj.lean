import Derived.Test.YtndolgbbochpjaaDoorGai
import Derived.Test.YtndolgbbochpjaaDoorGag
import Derived.Test.YtndolgbbochpjaaDoorGae
import Derived.Test.YtndolgbbochpjaaDoorGad
import Derived.Test.YtndolgbbochpjaaDoorGaa
import Derived.Lib.LaidTab
import Derived.Lib.LaidU8
/-
  Layer 7: the law's own wakes.
-/
namespace Go.Proofs.YtndolgbbochpjaaDoor
open Go.RowKit
set_option linter.unusedVariables false

section
variable {P : Program} {w : World} {o : Oper} {a : Act} {K : Act → World → Prop} {Q : Exit → Act → World → Prop}
theorem fillV1 (v0 v1 v2 v3 v4 : Value) (h : (Value.agg #[v0, v1, v2, v3, v4]).cells = #[v0, v1, v2, v3, v4]) : Instr.fill (fun q => some (q * 5, 5)) ((Array.range (1 * 5)).map ((scV 0 0 ⟨#[]⟩).agg.cells[· % (scV 0 0 ⟨#[]⟩).agg.cells.size]!)) [(0, .agg #[v0, v1, v2, v3, v4])] = some #[v0, v1, v2, v3, v4] := by
  have e : Array.range (1 * 5) = #[0, 1, 2, 3, 4] := by first | rfl | decide
  rw [e]
  simp [Instr.fill, h]
theorem fillV3 (v0 v1 v2 v3 v4 x0 x1 x2 x3 x4 y0 y1 y2 y3 y4 : Value) (h : (Value.agg #[v0, v1, v2, v3, v4]).cells = #[v0, v1, v2, v3, v4]) (hx : (Value.agg #[x0, x1, x2, x3, x4]).cells = #[x0, x1, x2, x3, x4]) (hy : (Value.agg #[y0, y1, y2, y3, y4]).cells = #[y0, y1, y2, y3, y4]) :
    Instr.fill (fun q => some (q * 5, 5)) ((Array.range (3 * 5)).map ((scV 0 0 ⟨#[]⟩).agg.cells[· % (scV 0 0 ⟨#[]⟩).agg.cells.size]!)) [(0, .agg #[v0, v1, v2, v3, v4]), (1, .agg #[x0, x1, x2, x3, x4]), (2, .agg #[y0, y1, y2, y3, y4])] = some #[v0, v1, v2, v3, v4, x0, x1, x2, x3, x4, y0, y1, y2, y3, y4] := by
  have e : Array.range (3 * 5) = #[0, 1, 2, 3, 4, 5, 6, 7, 8, 9, 10, 11, 12, 13, 14] := by first | rfl | decide
  rw [e]
  simp [Instr.fill, h, hx, hy]
/-- '[]T{..}'. -/
theorem step_rowN (t e : TypeId) (k : Nat) (xs : Array (Nat × Operand)) (ho : o.op = .buildSlice t k xs) (size : Nat) (i : TypeInfo) (z : Value) (ht : P.underlying t = some (.slice e)) (hi : P.info? e = some i) (hz : i.zero = some z) (hsize : i.size = size)
    (cells : Array Value) (hf : Instr.fill (fun q => some (q * size, size)) ((Array.range (k * size)).map (z.cells[· % z.cells.size]!)) (xs.toList.map fun p => (p.1, a.eval p.2)) = some cells) (hcs : cells.toList.length = k * size) (h0 : ¬ k * size = 0) (h24 : ¬ k * size > 2 ^ 24)
    (h : ∀ g w', w.heap.size ≤ g → Shows w' (g + 1) size (some ⟨g, 0, none⟩) k cells.toList → g + 1 ≤ w'.heap.size → Below w.heap.size w w' → K (a.put o.dst (.slice (some ⟨g, 0, none⟩) k k)) w') : o.wp P a w K Q := by
  refine wp_buildSlice t e k xs ho cells i z ht hi hz (by rw [hsize]; exact h24) (by rw [hsize]; exact h0) (by rw [hsize]; simpa using hf) ?_
  exact h w.heap.size (w.alloc (.cells cells e)) (Nat.le_refl _) (shows_new w cells e w.heap.size k size rfl hcs) (by rw [World.size_alloc]; exact Nat.le_refl _) ((Below.refl _ _).alloc (Nat.le_refl _) _)
end
theorem sortw_any (A : Option Addr) (g c B : Nat) (w : World) (h : Shows w B 5 (some ⟨g, 0, none⟩) 3 ([lsV A 1 c [inV 2], inV 7, scV 1 0 ⟨#[]⟩].flatMap VT.cells)) (hA : Shows w B 5 A 1 ([inV 2].flatMap VT.cells)) (hc : 1 ≤ c) (hcm : c ≤ 100) (hB : B ≤ w.heap.size) (htab : UTab w) (hst : STab w) (hr : RTab w) :
    Calls Tryd.prog 15 #[.slice (some ⟨g, 0, none⟩) 3 3] w fun e w' => ∃ A' c', e = .returned (.tuple #[.slice A' 3 c', .int .i64 0]) ∧ Hid (Shows w' w'.heap.size 5 A' 3 ([scV 1 0 ⟨#[]⟩, inV 7, lsV A 1 c [inV 2]].flatMap VT.cells)) ∧ Below w.heap.size w w' := by
  have hAn : A = none → c = 0 := fun e => by
    subst e
    obtain ⟨b, off, x, e, -⟩ := kids_at hA (by decide : 0 < 1)
    cases e
  have hL : ∀ x ∈ [lsV A 1 c [inV 2], inV 7, scV 1 0 ⟨#[]⟩], Lie w B x := by
    intro x hx
    simp only [List.mem_cons, List.not_mem_nil, or_false] at hx
    rcases hx with rfl | rfl | rfl
    · exact lie_lsS hA (fun x hx => by rw [List.mem_singleton] at hx; subst hx; exact lie_in _ _ _ (by decide)) hAn hc (Nat.le_trans hcm (by decide))
    · exact lie_in _ _ _ (by decide)
    · exact lie_sc _ _ _ _ _ (by decide) (by decide) (by decide)
  refine (sortT_any _ 3 3 B _ w h hL hB (by decide) (fun h => by cases h) (Nat.le_refl _) htab hst hr).mono ?_
  have hok : [lsV A 1 c [inV 2], inV 7, scV 1 0 ⟨#[]⟩].all VT.ok = true := by
    have := ints_ok A 1 c [2] (by decide)
    simp only [List.map_cons, List.map_nil] at this
    simp [this, in_ok, nil_ok]
  rintro e w' ⟨⟨h1, _⟩ | ⟨_, A', c', L2, rfl, HS, HP⟩, hb⟩
  · rw [hok] at h1; cases h1
  · obtain rfl := sort_wake HP.out.1 HP.out.2
    exact ⟨A', c', rfl, HS, hb⟩
theorem frontw_any (A : Option Addr) (c B : Nat) (w : World) (h : Shows w B 5 A 3 ([inV 1, inV 2, inV 3].flatMap VT.cells)) (hA : A = none → c = 0) (hc : 3 ≤ c) (hcm : c ≤ 100) (hB : B ≤ w.heap.size) (htab : UTab w) (hst : STab w) :
    Calls Tryd.prog 21 #[.agg #[.int .i64 5, .int .i64 0, .string ⟨#[]⟩, .slice A 3 c, .slice none 0 0], .int .i64 2] w fun e w' => e = .returned (.tuple #[.agg #[.int .i64 5, .int .i64 0, .string ⟨#[]⟩, .slice A 2 2, .slice none 0 0], .int .i64 0]) ∧ Below w.heap.size w w' := by
  refine (frontT_any (lsV A 3 c [inV 1, inV 2, inV 3]) 2 B w (lie_lsS h (fun x hx => by simp only [List.mem_cons, List.not_mem_nil, or_false] at hx; rcases hx with rfl | rfl | rfl <;> exact lie_in _ _ _ (by decide)) hA hc (Nat.le_trans hcm (by decide))) hB htab hst).mono ?_
  rintro e w' ⟨X, E, rfl, hP, hb⟩
  obtain ⟨rfl, rfl⟩ := front_wake hP.out
  exact ⟨rfl, hb⟩
theorem placew1_any (A : Option Addr) (c B : Nat) (w : World) (h : Shows w B 5 A 4 ([inV 1, inV 3, inV 3, inV 4].flatMap VT.cells)) (hB : B ≤ w.heap.size) (htab : UTab w) (hst : STab w) (hr : RTab w) :
    Calls Tryd.prog 16 #[.slice A 4 c, .agg #[.int .i64 3, .int .i64 3, .string ⟨#[]⟩, .slice none 0 0, .slice none 0 0]] w fun e w' => e = .returned (.tuple #[.int .i64 1, .int .i64 3, .int .i64 0]) ∧ Below w.heap.size w w' := by
  refine (placeT_any A 4 c B _ (inV 3) w h (fun x hx => by simp only [List.mem_cons, List.not_mem_nil, or_false] at hx; rcases hx with rfl | rfl | rfl | rfl <;> exact lie_in _ _ _ (by decide)) (lie_in _ _ _ (by decide)) hB (by decide) htab hst hr).mono ?_
  rintro e w' ⟨X, E, rfl, hP, hb⟩
  obtain ⟨rfl, rfl⟩ := place_wake1 hP.out
  exact ⟨rfl, hb⟩
theorem placew2_any (A : Option Addr) (c B : Nat) (w : World) (h : Shows w B 5 A 2 ([inV 2, inV 1].flatMap VT.cells)) (hB : B ≤ w.heap.size) (htab : UTab w) (hst : STab w) (hr : RTab w) :
    Calls Tryd.prog 16 #[.slice A 2 c, .agg #[.int .i64 3, .int .i64 1, .string ⟨#[]⟩, .slice none 0 0, .slice none 0 0]] w fun e w' => e = .returned (.tuple #[.int .i64 0, .int .i64 0, .int .i64 2]) ∧ Below w.heap.size w w' := by
  refine (placeT_any A 2 c B _ (inV 1) w h (fun x hx => by simp only [List.mem_cons, List.not_mem_nil, or_false] at hx; rcases hx with rfl | rfl <;> exact lie_in _ _ _ (by decide)) (lie_in _ _ _ (by decide)) hB (by decide) htab hst hr).mono ?_
  rintro e w' ⟨X, E, rfl, hP, hb⟩
  obtain ⟨rfl, rfl⟩ := place_wake2 hP.out
  exact ⟨rfl, hb⟩
theorem cmpw2_any (w : World) (htab : UTab w) (hst : STab w) (hr : RTab w) :
    Calls Tryd.prog 11 #[.agg #[.int .i64 0, .int .i64 0, .string ⟨#[]⟩, .slice none 0 0, .slice none 0 0], .agg #[.int .i64 3, .int .i64 1, .string ⟨#[]⟩, .slice none 0 0, .slice none 0 0]] w fun e w' => e = .returned (.tuple #[.int .i64 0, .int .i64 140]) ∧ Below w.heap.size w w' := by
  have h := compareT_any (scV 0 0 ⟨#[]⟩) (inV 1) w.heap.size w (lie_sc _ _ _ _ _ (by decide) (by decide) (by decide)) (lie_in _ _ _ (by decide)) (Nat.le_refl _) htab hst hr
  rw [cmp_wake2] at h
  exact h
theorem inC (n : Int) : (inV n).cells = [.int .i64 3, .int .i64 n, .string ⟨#[]⟩, .slice none 0 0, .slice none 0 0] := rfl
set_option maxRecDepth 20000 in
set_option maxHeartbeats 4000000 in
theorem cwakes_any (w : World) (htab : UTab w) (hst : STab w) (hr : RTab w) : Calls Tryd.prog 10 #[] w fun e w' => e = .returned (.bool true) ∧ Below w.heap.size w w' := by
  obtain ⟨iV, hiV, hzV, hsV, hbV⟩ := val_info
  have HTx := Lib.hid (fun W (h : Below w.heap.size w W) => (⟨htab.below h htab.lt, hst.below h hst.lt, hr.below h hr.lt⟩ : UTab W ∧ STab W ∧ RTab W))
  clear htab hst hr
  have hb1 := bel_alloc (Below.refl w.heap.size w) (.cells #[.int .i64 1, .int .i64 0, .string ⟨#[]⟩, .slice none 0 0, .slice none 0 0] 25)
  have HV := Lib.hid (VFive.new w (.int .i64 1) (.int .i64 0) (.string ⟨#[]⟩) (.slice none 0 0) (.slice none 0 0) 25 w.heap.size rfl)
  go_enter Tryd.func10, Tryd.ntmps10
  go_upto_region 2 with fail
  generalize (w.alloc (.cells #[.int .i64 1, .int .i64 0, .string ⟨#[]⟩, .slice none 0 0, .slice none 0 0] 25)) = w1 at *
  go_wp2_with fail
  refine (in_any 1 _).mono ?_
  rintro e w2 ⟨rfl, hb2⟩
  have hk := hb2
  have hb2 := bel_next hb1 hb2
  go_wp2_with fail
  refine (in_any 2 _).mono ?_
  rintro e w3 ⟨rfl, hb3⟩
  have hk := bel_next hk hb3
  have hb3 := bel_next hb2 hb3
  have S3 := Lib.hid (shows_new w3 #[.int .i64 3, .int .i64 1, .string ⟨#[]⟩, .slice none 0 0, .slice none 0 0, .int .i64 3, .int .i64 2, .string ⟨#[]⟩, .slice none 0 0, .slice none 0 0] 25 w3.heap.size 2 5 rfl rfl)
  have hb3a := bel_alloc hb3 (.cells #[.int .i64 3, .int .i64 1, .string ⟨#[]⟩, .slice none 0 0, .slice none 0 0, .int .i64 3, .int .i64 2, .string ⟨#[]⟩, .slice none 0 0, .slice none 0 0] 25)
  go_wp2_with fail
  refine (list1_any _ _ _ _).mono ?_
  rintro e w4 ⟨rfl, hb4⟩
  have hk := bel_next (bel_alloc hk _) hb4
  have S4 := Lib.hid ((S3.out.below (hb4.mono (by simp))).more (Nat.le_trans (by simp) hb4.size))
  have hb4 := bel_next hb3a hb4
  clear S3 hb3a
  go_wp2_with fail
  refine (in_any 1 _).mono ?_
  rintro e w5 ⟨rfl, hb5⟩
  have hk := bel_next hk hb5
  have S5 := Lib.hid ((S4.out.below hb5).more hb5.size)
  have hb5 := bel_next hb4 hb5
  clear S4
  have T5 := Lib.hid (shows_new w5 #[.int .i64 3, .int .i64 1, .string ⟨#[]⟩, .slice none 0 0, .slice none 0 0] 25 w5.heap.size 1 5 rfl rfl)
  have S5a := Lib.hid ((S5.out.alloc (Nat.le_refl _) (.cells #[.int .i64 3, .int .i64 1, .string ⟨#[]⟩, .slice none 0 0, .slice none 0 0] 25)).more (Nat.le_succ _))
  have hb5a := bel_alloc hb5 (.cells #[.int .i64 3, .int .i64 1, .string ⟨#[]⟩, .slice none 0 0, .slice none 0 0] 25)
  go_wp2_with fail
  refine (list1_any _ _ _ _).mono ?_
  rintro e w6 ⟨rfl, hb6⟩
  have hk := bel_next (bel_alloc hk _) hb6
  have T6 := (T5.out.below (hb6.mono (by simp))).more (Nat.le_trans (by simp) hb6.size)
  have S6 := (S5a.out.below (hb6.mono (by simp))).more (Nat.le_trans (by simp) hb6.size)
  have hb6 := bel_next hb5a hb6
  have hc := compareT_any (lsV (some ⟨w3.heap.size, 0, none⟩) 2 2 [inV 1, inV 2]) (lsV (some ⟨w5.heap.size, 0, none⟩) 1 1 [inV 1]) w6.heap.size w6 (lie_lsS S6 (fun x hx => by simp at hx; rcases hx with rfl | rfl <;> exact lie_in _ _ _ (by decide)) (fun h => by cases h) (Nat.le_refl _) (by decide)) (lie_lsS T6 (fun x hx => by simp at hx; subst hx; exact lie_in _ _ _ (by decide)) (fun h => by cases h) (Nat.le_refl _) (by decide)) (Nat.le_refl _) (HTx.out _ hb6).1 (HTx.out _ hb6).2.1 (HTx.out _ hb6).2.2
  rw [cmp_wake1] at hc
  simp only [VT.agg] at hc
  clear T5 S5 S5a T6 S6 hb5a hb2 hb3 hb4 hb5
  go_wp2_with fail
  refine hc.mono ?_
  rintro e w7 ⟨rfl, hb7⟩
  have hk := bel_next hk hb7
  have hb7 := bel_next hb6 hb7
  clear hc hb6
  go_upto_region 3 with fail
  have HV7 := Lib.hid (HV.out.later hk)
  have v0 : ∀ W, Below w7.heap.size w7 W → W.cell? ⟨w.heap.size, 0, none⟩ = some (.int .i64 1) := fun W h => (HV7.out.later h).1.1
  have v1 : ∀ W, Below w7.heap.size w7 W → W.cell? ⟨w.heap.size, 1, none⟩ = some (.int .i64 0) := fun W h => (HV7.out.later h).1.2.1
  have v2 : ∀ W, Below w7.heap.size w7 W → W.cell? ⟨w.heap.size, 2, none⟩ = some (.string ⟨#[]⟩) := fun W h => (HV7.out.later h).1.2.2.1
  have v3 : ∀ W, Below w7.heap.size w7 W → W.cell? ⟨w.heap.size, 3, none⟩ = some (.slice none 0 0) := fun W h => (HV7.out.later h).1.2.2.2.1
  have v4 : ∀ W, Below w7.heap.size w7 W → W.cell? ⟨w.heap.size, 4, none⟩ = some (.slice none 0 0) := fun W h => (HV7.out.later h).1.2.2.2.2
  have HT7 := Lib.hid (fun W (h : Below w7.heap.size w7 W) => HTx.out W (bel_next hb7 h))
  refine wp_region_held_drew (S := fun W => Below w7.heap.size w7 W) (by kernel_rfl) (below_drewN (Below.refl _ _) 1) (fun hHeld => ?_)
  refine rg_in 4 rfl (by kernel_rfl) (by kernel_rfl) (by kernel_rfl) (by rfl) (v := ?_) (fun _ _ _ h => h) hHeld (fun w hSw => ?_) ?_
  rotate_left
  · (try dsimp only at hSw); go_simp <;> (with_reducible rfl)
  (try simp only [Act.put, List.setIfInBounds_toArray, List.set_cons_zero, List.set_cons_succ])
  refine rg_do 0 rfl (by kernel_rfl) (by rfl) (fun K hK => ?_)
  go_simp
  (go_at_call 30; (with_reducible refine (in_any 2 _).mono ?_); (rintro e w100 ⟨rfl, hb0⟩))
  refine hK.out _ _ (S_call hb0 hHeld rfl) (fun hHeld => ?_)
  clear hK K
  (try simp only [Act.put, List.setIfInBounds_toArray, List.set_cons_zero, List.set_cons_succ])
  refine rg_do 1 rfl (by kernel_rfl) (by rfl) (fun K hK => ?_)
  refine step_rowN 22 25 1 _ rfl 5 iV _ Tryd.underlying22 hiV hzV hsV #[.int .i64 3, .int .i64 2, .string ⟨#[]⟩, .slice none 0 0, .slice none 0 0] (fillV1 _ _ _ _ _ rfl) rfl (by decide) (by decide) ?_
  intro g1 w101 hge1 sh1 hl1 hb1
  refine hK.out _ _ (S_call hb1 hHeld rfl) (fun hHeld => ?_)
  clear hK K
  (try simp only [Act.put, List.setIfInBounds_toArray, List.set_cons_zero, List.set_cons_succ])
  refine rg_do 2 rfl (by kernel_rfl) (by rfl) (fun K hK => ?_)
  go_simp
  (go_at_call 27; (with_reducible refine (list1_any _ _ _ _).mono ?_); (rintro e w102 ⟨rfl, hb2⟩))
  refine hK.out _ _ (S_call hb2 hHeld rfl) (fun hHeld => ?_)
  clear hK K
  (try simp only [Act.put, List.setIfInBounds_toArray, List.set_cons_zero, List.set_cons_succ])
  refine rg_do 3 rfl (by kernel_rfl) (by rfl) (fun K hK => ?_)
  go_simp
  (go_at_call 30; (with_reducible refine (in_any 7 _).mono ?_); (rintro e w103 ⟨rfl, hb3⟩))
  refine hK.out _ _ (S_call hb3 hHeld rfl) (fun hHeld => ?_)
  clear hK K
  (try simp only [Act.put, List.setIfInBounds_toArray, List.set_cons_zero, List.set_cons_succ])
  refine rg_do 5 rfl (by kernel_rfl) (by rfl) (fun K hK => ?_)
  refine step_rowN 22 25 3 _ rfl 5 iV _ Tryd.underlying22 hiV hzV hsV #[.int .i64 5, .int .i64 0, .string ⟨#[]⟩, .slice (some ⟨g1, 0, none⟩) 1 1, .slice none 0 0, .int .i64 3, .int .i64 7, .string ⟨#[]⟩, .slice none 0 0, .slice none 0 0, .int .i64 1, .int .i64 0, .string ⟨#[]⟩, .slice none 0 0, .slice none 0 0] (fillV3 _ _ _ _ _ _ _ _ _ _ _ _ _ _ _ rfl rfl rfl) rfl (by decide) (by decide) ?_
  intro g5 w105 hge5 sh5 hl5 hb5
  refine hK.out _ _ (S_call hb5 hHeld rfl) (fun hHeld => ?_)
  clear hK K
  (try simp only [Act.put, List.setIfInBounds_toArray, List.set_cons_zero, List.set_cons_succ])
  refine rg_do 6 rfl (by kernel_rfl) (by rfl) (fun K hK => ?_)
  have hso := sortw_any (some ⟨g1, 0, none⟩) g5 1 w105.heap.size w105 (sh5.more hl5) ((sh1.below ((bel_next (bel_next hb2 hb3) hb5).mono hl1)).more (Nat.le_trans hl1 (bel_next (bel_next hb2 hb3) hb5).size)) (by decide) (by decide) (Nat.le_refl _) (HT7.out _ hHeld).1 (HT7.out _ hHeld).2.1 (HT7.out _ hHeld).2.2
  go_simp
  (go_at_call 15; (with_reducible refine hso.mono ?_); (rintro e w106 ⟨A6, c6, rfl, HS6, hb6⟩))
  refine hK.out _ _ (S_call hb6 hHeld rfl) (fun hHeld => ?_)
  clear hK K
  (try simp only [Act.put, List.setIfInBounds_toArray, List.set_cons_zero, List.set_cons_succ])
  refine rg_in 7 rfl (by kernel_rfl) (by kernel_rfl) (by kernel_rfl) (by rfl) (v := ?_) (fun _ _ _ h => h) hHeld (fun w hSw => ?_) ?_
  rotate_left
  · (try dsimp only at hSw); go_simp <;> (with_reducible rfl)
  (try simp only [Act.put, List.setIfInBounds_toArray, List.set_cons_zero, List.set_cons_succ])
  refine rg_in 8 rfl (by kernel_rfl) (by kernel_rfl) (by kernel_rfl) (by rfl) (v := ?_) (fun _ _ _ h => h) hHeld (fun w hSw => ?_) ?_
  rotate_left
  · (try dsimp only at hSw); go_simp <;> (with_reducible rfl)
  (try simp only [Act.put, List.setIfInBounds_toArray, List.set_cons_zero, List.set_cons_succ])
  refine rg_in 9 rfl (by kernel_rfl) (by kernel_rfl) (by kernel_rfl) (by rfl) (v := ?_) (fun _ _ _ h => h) hHeld (fun w hSw => ?_) ?_
  rotate_left
  · (try dsimp only at hSw); go_simp <;> (with_reducible rfl)
  (try simp only [Act.put, List.setIfInBounds_toArray, List.set_cons_zero, List.set_cons_succ])
  refine rg_in 10 rfl (by kernel_rfl) (by kernel_rfl) (by kernel_rfl) (by rfl) (v := ?_) (fun _ _ _ h => h) hHeld (fun w hSw => ?_) ?_
  rotate_left
  · (try dsimp only at hSw); go_simp <;> (with_reducible rfl)
  (try simp only [Act.put, List.setIfInBounds_toArray, List.set_cons_zero, List.set_cons_succ])
  refine rg_in 11 rfl (by kernel_rfl) (by kernel_rfl) (by kernel_rfl) (by rfl) (v := ?_) (fun _ _ _ h => h) hHeld (fun w hSw => ?_) ?_
  rotate_left
  · (try dsimp only at hSw); go_simp <;> (with_reducible rfl)
  (try simp only [Act.put, List.setIfInBounds_toArray, List.set_cons_zero, List.set_cons_succ])
  refine wpAnyH_done (by kernel_rfl) ?_ _
  have hbA := bel_next hb7 hHeld
  clear v0 v1 v2 v3 v4 HV7 HV HT7 hk hb7 sh1 sh5 hso hge1 hge5 hl1 hl5 hb0 hb1 hb2 hb3 hb5 hb6
  go_wp2_with fail
  refine (in_any 1 _).mono ?_
  rintro e x1 ⟨rfl, hn⟩
  have HS6 := Lib.hid ((HS6.out.below hn).more hn.size)
  have hbA := bel_next hbA hn
  clear hn
  go_wp2_with fail
  refine (in_any 2 _).mono ?_
  rintro e x2 ⟨rfl, hn⟩
  have HS6 := Lib.hid ((HS6.out.below hn).more hn.size)
  have hbA := bel_next hbA hn
  clear hn
  go_wp2_with fail
  refine (in_any 3 _).mono ?_
  rintro e x3 ⟨rfl, hn⟩
  have HS6 := Lib.hid ((HS6.out.below hn).more hn.size)
  have hbA := bel_next hbA hn
  clear hn
  have R4 := shows_new x3 #[.int .i64 3, .int .i64 1, .string ⟨#[]⟩, .slice none 0 0, .slice none 0 0, .int .i64 3, .int .i64 2, .string ⟨#[]⟩, .slice none 0 0, .slice none 0 0, .int .i64 3, .int .i64 3, .string ⟨#[]⟩, .slice none 0 0, .slice none 0 0] 25 x3.heap.size 3 5 rfl rfl
  have hn0 := bel_alloc (Below.refl x3.heap.size x3) (.cells #[.int .i64 3, .int .i64 1, .string ⟨#[]⟩, .slice none 0 0, .slice none 0 0, .int .i64 3, .int .i64 2, .string ⟨#[]⟩, .slice none 0 0, .slice none 0 0, .int .i64 3, .int .i64 3, .string ⟨#[]⟩, .slice none 0 0, .slice none 0 0] 25)
  go_wp2_with fail
  refine (list1_any _ _ _ _).mono ?_
  rintro e x4 ⟨rfl, hn⟩
  have R4 := (R4.below (hn.mono (by simp))).more (Nat.le_trans (by simp) hn.size)
  have hn := bel_next hn0 hn
  have HS6 := Lib.hid ((HS6.out.below hn).more hn.size)
  have hbA := bel_next hbA hn
  clear hn hn0
  have hf := frontw_any (some ⟨x3.heap.size, 0, none⟩) 3 x4.heap.size x4 R4 (fun h => by cases h) (by decide) (by decide) (Nat.le_refl _) (HTx.out _ hbA).1 (HTx.out _ hbA).2.1
  clear R4
  go_wp2_with fail
  refine hf.mono ?_
  rintro e x5 ⟨rfl, hn⟩
  have HS6 := Lib.hid ((HS6.out.below hn).more hn.size)
  have hbA := bel_next hbA hn
  clear hn hf
  have HF := Lib.hid (VFive.new x5 (.int .i64 5) (.int .i64 0) (.string ⟨#[]⟩) (.slice (some ⟨x3.heap.size, 0, none⟩) 2 2) (.slice none 0 0) 25 x5.heap.size rfl)
  have hn := bel_alloc (Below.refl x5.heap.size x5) (.cells #[.int .i64 5, .int .i64 0, .string ⟨#[]⟩, .slice (some ⟨x3.heap.size, 0, none⟩) 2 2, .slice none 0 0] 25)
  have HS6 := Lib.hid ((HS6.out.below hn).more hn.size)
  have hbA := bel_next hbA hn
  clear hn
  go_upto_region 5 with fail
  generalize (x5.alloc (.cells #[.int .i64 5, .int .i64 0, .string ⟨#[]⟩, .slice (some ⟨x3.heap.size, 0, none⟩) 2 2, .slice none 0 0] 25)) = y0 at *
  go_wp2_with fail
  refine (in_any 1 _).mono ?_
  rintro e x6 ⟨rfl, hn⟩
  have HS6 := Lib.hid ((HS6.out.below hn).more hn.size)
  have HF := Lib.hid (HF.out.later hn)
  have hbA := bel_next hbA hn
  clear hn
  go_wp2_with fail
  refine (in_any 3 _).mono ?_
  rintro e x7 ⟨rfl, hn⟩
  have HS6 := Lib.hid ((HS6.out.below hn).more hn.size)
  have HF := Lib.hid (HF.out.later hn)
  have hbA := bel_next hbA hn
  clear hn
  go_wp2_with fail
  refine (in_any 3 _).mono ?_
  rintro e x8 ⟨rfl, hn⟩
  have HS6 := Lib.hid ((HS6.out.below hn).more hn.size)
  have HF := Lib.hid (HF.out.later hn)
  have hbA := bel_next hbA hn
  clear hn
  go_wp2_with fail
  refine (in_any 4 _).mono ?_
  rintro e x9 ⟨rfl, hn⟩
  have HS6 := Lib.hid ((HS6.out.below hn).more hn.size)
  have HF := Lib.hid (HF.out.later hn)
  have hbA := bel_next hbA hn
  clear hn
  have R5 := shows_new x9 #[.int .i64 3, .int .i64 1, .string ⟨#[]⟩, .slice none 0 0, .slice none 0 0, .int .i64 3, .int .i64 3, .string ⟨#[]⟩, .slice none 0 0, .slice none 0 0, .int .i64 3, .int .i64 3, .string ⟨#[]⟩, .slice none 0 0, .slice none 0 0, .int .i64 3, .int .i64 4, .string ⟨#[]⟩, .slice none 0 0, .slice none 0 0] 25 x9.heap.size 4 5 rfl rfl
  have hn0 := bel_alloc (Below.refl x9.heap.size x9) (.cells #[.int .i64 3, .int .i64 1, .string ⟨#[]⟩, .slice none 0 0, .slice none 0 0, .int .i64 3, .int .i64 3, .string ⟨#[]⟩, .slice none 0 0, .slice none 0 0, .int .i64 3, .int .i64 3, .string ⟨#[]⟩, .slice none 0 0, .slice none 0 0, .int .i64 3, .int .i64 4, .string ⟨#[]⟩, .slice none 0 0, .slice none 0 0] 25)
  go_wp2_with fail
  refine (in_any 3 _).mono ?_
  rintro e x10 ⟨rfl, hn⟩
  have R5 := (R5.below (hn.mono (by simp))).more (Nat.le_trans (by simp) hn.size)
  have hn := bel_next hn0 hn
  have HS6 := Lib.hid ((HS6.out.below hn).more hn.size)
  have HF := Lib.hid (HF.out.later hn)
  have hbA := bel_next hbA hn
  clear hn hn0
  have hp := placew1_any (some ⟨x9.heap.size, 0, none⟩) 4 x10.heap.size x10 R5 (Nat.le_refl _) (HTx.out _ hbA).1 (HTx.out _ hbA).2.1 (HTx.out _ hbA).2.2
  clear R5
  go_wp2_with fail
  refine hp.mono ?_
  rintro e x11 ⟨rfl, hn⟩
  have HS6 := Lib.hid ((HS6.out.below hn).more hn.size)
  have HF := Lib.hid (HF.out.later hn)
  have hbA := bel_next hbA hn
  clear hn hp
  go_wp2_with fail
  refine (in_any 1 _).mono ?_
  rintro e x12 ⟨rfl, hn⟩
  have HS6 := Lib.hid ((HS6.out.below hn).more hn.size)
  have HF := Lib.hid (HF.out.later hn)
  have hbA := bel_next hbA hn
  clear hn
  have hc := cmpw2_any x12 (HTx.out _ hbA).1 (HTx.out _ hbA).2.1 (HTx.out _ hbA).2.2
  go_wp2_with fail
  refine hc.mono ?_
  rintro e x13 ⟨rfl, hn⟩
  have HS6 := Lib.hid ((HS6.out.below hn).more hn.size)
  have HF := Lib.hid (HF.out.later hn)
  have hbA := bel_next hbA hn
  clear hn hc
  go_wp2_with fail
  refine (in_any 2 _).mono ?_
  rintro e x14 ⟨rfl, hn⟩
  have HS6 := Lib.hid ((HS6.out.below hn).more hn.size)
  have HF := Lib.hid (HF.out.later hn)
  have hbA := bel_next hbA hn
  clear hn
  go_wp2_with fail
  refine (in_any 1 _).mono ?_
  rintro e x15 ⟨rfl, hn⟩
  have HS6 := Lib.hid ((HS6.out.below hn).more hn.size)
  have HF := Lib.hid (HF.out.later hn)
  have hbA := bel_next hbA hn
  clear hn
  have R7 := shows_new x15 #[.int .i64 3, .int .i64 2, .string ⟨#[]⟩, .slice none 0 0, .slice none 0 0, .int .i64 3, .int .i64 1, .string ⟨#[]⟩, .slice none 0 0, .slice none 0 0] 25 x15.heap.size 2 5 rfl rfl
  have hn0 := bel_alloc (Below.refl x15.heap.size x15) (.cells #[.int .i64 3, .int .i64 2, .string ⟨#[]⟩, .slice none 0 0, .slice none 0 0, .int .i64 3, .int .i64 1, .string ⟨#[]⟩, .slice none 0 0, .slice none 0 0] 25)
  go_wp2_with fail
  refine (in_any 1 _).mono ?_
  rintro e x16 ⟨rfl, hn⟩
  have R7 := (R7.below (hn.mono (by simp))).more (Nat.le_trans (by simp) hn.size)
  have hn := bel_next hn0 hn
  have HS6 := Lib.hid ((HS6.out.below hn).more hn.size)
  have HF := Lib.hid (HF.out.later hn)
  have hbA := bel_next hbA hn
  clear hn hn0
  have hp := placew2_any (some ⟨x15.heap.size, 0, none⟩) 2 x16.heap.size x16 R7 (Nat.le_refl _) (HTx.out _ hbA).1 (HTx.out _ hbA).2.1 (HTx.out _ hbA).2.2
  clear R7
  go_wp2_with fail
  refine hp.mono ?_
  rintro e x17 ⟨rfl, hn⟩
  have HS6 := Lib.hid ((HS6.out.below hn).more hn.size)
  have HF := Lib.hid (HF.out.later hn)
  have hbA := bel_next hbA hn
  clear hn hp
  obtain ⟨b8, o8, rfl, _, hc8⟩ := HS6.out.2 (by decide)
  have n0 := hc8 0 (.int .i64 1) rfl
  have n1 := hc8 6 (.int .i64 7) rfl
  simp only [Nat.add_zero] at n0
  obtain ⟨⟨-, -, -, f3, -⟩, -⟩ := HF.out
  clear HS6 HF hc8
  go_wp2
  go_ret
  exact ⟨rfl, hbA⟩
end Go.Proofs.YtndolgbbochpjaaDoor
/-
  Layer 7, plain: fronts.
-/
namespace Go.Proofs.YtndolgbbochpjaaDoor
open Go.RowKit
set_option linter.unusedVariables false

theorem flat_take5 : ∀ (l : List VT) (m : Nat), (l.flatMap VT.cells).take (m * 5) = (l.take m).flatMap VT.cells
  | [], m => by simp
  | x :: l, 0 => by simp
  | x :: l, m + 1 => by
    rw [List.flatMap_cons, List.take_succ_cons, List.flatMap_cons, ← flat_take5 l m]
    have e : (m + 1) * 5 = x.cells.length + m * 5 := by rw [VT.cells_len]; omega
    rw [e, List.take_append, List.take_of_length_le (by omega), Nat.add_sub_cancel_left]
theorem front_lie {w : World} {B : Nat} {T : VT} (h : Lie w B T) (m : Nat) : Lie w B (frontV T m) := by
  obtain ⟨k, n, s, cA, cn, cc, kA, kn, kc, keys, kids⟩ := T
  by_cases hf : k = 5 ∧ m < cn
  · rw [show frontV (.mk k n s cA cn cc kA kn kc keys kids) m = .mk 5 0 ⟨#[]⟩ cA m m none 0 0 [] (kids.take m) from if_pos hf]
    cases h with
    | mk a1 a2 a3 a4 =>
      obtain ⟨_, _, _, h4, h5, h6, _⟩ := a3
      have hne : cA ≠ none := fun e => by
        subst e
        obtain ⟨b, off, x, h, -⟩ := kids_at a1 (show 0 < cn by omega)
        cases h
      have hs := a1.first (show m ≤ cn by omega)
      have hfl : (kids.flatMap VT.cells).take (m * 5) = (kids.take m).flatMap VT.cells := flat_take5 kids m
      rw [hfl] at hs
      exact .mk hs (Shows.zero none) ⟨by decide, by decide, by decide, Nat.le_refl _, by omega, fun e => absurd e hne, Nat.le_refl _, by decide, fun _ => rfl, by simp⟩ fun x hx => a4 x (List.mem_of_mem_take hx)
  · rw [show frontV (.mk k n s cA cn cc kA kn kc keys kids) m = .mk k n s cA cn cc kA kn kc keys kids from if_neg hf]
    exact h
theorem front_kids {w : World} {B : Nat} {T : VT} (h : Lie w B T) (hs : T.sized) (m : Nat) : (frontV T m).k = T.k ∧ (frontV T m).n = T.n ∧ (frontV T m).s = T.s ∧ (frontV T m).kids = (if T.k = 5 then T.kids.take m else T.kids) ∧ (frontV T m).keys = T.keys := by
  obtain ⟨f1, f2⟩ := fit_bare hs.1
  have hk := hs.2.2.1
  obtain ⟨k, n, s, cA, cn, cc, kA, kn, kc, keys, kids⟩ := T
  have hl : kids.length = cn := by
    cases h with
    | mk a1 a2 a3 a4 => exact kids_len a1
  simp only [VT.k, VT.n, VT.s, VT.keys] at f1 f2 hk
  by_cases hf : k = 5 ∧ m < cn
  · rw [show frontV (.mk k n s cA cn cc kA kn kc keys kids) m = .mk 5 0 ⟨#[]⟩ cA m m none 0 0 [] (kids.take m) from if_pos hf]
    obtain ⟨rfl, hm⟩ := hf
    exact ⟨rfl, (f1 (by decide) (by decide)).symm, (f2 (by decide)).symm, (if_pos rfl).symm, (hk (by decide)).symm⟩
  · rw [show frontV (.mk k n s cA cn cc kA kn kc keys kids) m = .mk k n s cA cn cc kA kn kc keys kids from if_neg hf]
    refine ⟨rfl, rfl, rfl, ?_, rfl⟩
    show kids = if k = 5 then kids.take m else kids
    by_cases h5 : k = 5
    · rw [if_pos h5, List.take_of_length_le (by omega)]
    · rw [if_neg h5]
theorem front_els {w : World} {B : Nat} {T : VT} (h : Lie w B T) (hs : T.sized) (m : Nat) : (frontV T m).els = if T.k = 5 then T.els.take m else T.els := by
  obtain ⟨a1, a2, a3, a4, a5⟩ := front_kids h hs m
  unfold VT.els
  rw [a1, a4, a5]
  by_cases h5 : T.k = 5
  · rw [if_pos h5, if_pos h5, if_neg (by omega), if_neg (by omega), List.map_take]
  · rw [if_neg h5, if_neg h5]
theorem front_e {w : World} {B : Nat} {T : VT} (h : Lie w B T) (hs : T.sized) (m : Nat) : (frontV T m).e = .mk T.k T.n T.s T.keys ((if T.k = 5 then T.kids.take m else T.kids).map VT.e) := by
  obtain ⟨a1, a2, a3, a4, a5⟩ := front_kids h hs m
  rw [e_of, a1, a2, a3, a4, a5]
theorem front_ok {w : World} {B : Nat} {T : VT} (h : Lie w B T) (hok : T.ok = true) (m : Nat) : (frontV T m).ok = true := by
  obtain ⟨k, n, s, cA, cn, cc, kA, kn, kc, keys, kids⟩ := T
  by_cases hf : k = 5 ∧ m < cn
  · rw [show frontV (.mk k n s cA cn cc kA kn kc keys kids) m = .mk 5 0 ⟨#[]⟩ cA m m none 0 0 [] (kids.take m) from if_pos hf]
    obtain ⟨rfl, hm⟩ := hf
    unfold VT.ok at hok ⊢
    simp only [Bool.and_eq_true, decide_eq_true_eq] at hok ⊢
    obtain ⟨h1, h2, h3⟩ := hok
    rw [dep_mk] at h1 ⊢
    rw [cnt_mk] at h2 ⊢
    rw [all_mk] at h3 ⊢
    simp only [Bool.and_eq_true, List.all_eq_true] at h3 ⊢
    have e := List.take_append_drop m kids
    rw [← e, List.map_append, maxL_append] at h1
    rw [← e, List.map_append, List.sum_append] at h2
    refine ⟨by omega, by omega, ?_, fun x hx => h3.2 x (List.mem_of_mem_take hx)⟩
    rw [fit_mk, strB_nil]
    have q1 : eleB 5 m = true := by unfold eleB eleQ shKids; simp
    have q2 : memB 5 m 0 [] = true := rfl
    rw [q1, q2]
    decide
  · rw [show frontV (.mk k n s cA cn cc kA kn kc keys kids) m = .mk k n s cA cn cc kA kn kc keys kids from if_neg hf]
    exact hok
theorem lex_front {α : Type} {f : α → α → Int} (hf : Cmp f) : ∀ (l : List α) (m : Nat), lexL f (l.take m) l ≤ 0
  | [], m => by simp [lexL]
  | x :: l, 0 => by simp [lexL]
  | x :: l, m + 1 => by
    rw [List.take_succ_cons, lexL, hf.self, thenI_0]
    exact lex_front hf l m
theorem lex_fronts {α : Type} {f : α → α → Int} (hf : Cmp f) : ∀ (l l' : List α) (m : Nat), lexL f l l' ≤ 0 → lexL f (l.take m) (l'.take m) ≤ 0
  | [], l', m, h => by
    rw [List.take_nil]
    cases l'.take m <;> simp [lexL]
  | x :: l, l', 0, h => by simp [lexL]
  | x :: l, [], m + 1, h => by simp [lexL] at h
  | x :: l, y :: l', m + 1, h => by
    rw [List.take_succ_cons, List.take_succ_cons, lexL]
    rw [lexL] at h
    unfold thenI at h ⊢
    by_cases hz : f x y = 0
    · rw [if_pos hz] at h ⊢
      exact lex_fronts hf l l' m h
    · rw [if_neg hz] at h ⊢
      exact h
theorem front_le {w : World} {B : Nat} {T : VT} (h : Lie w B T) (hok : T.ok = true) (m : Nat) : cmpV (frontV T m) T ≤ 0 := by
  have hs := Szd.sized (ok_szd h hok)
  obtain ⟨a1, a2, a3, -⟩ := front_kids h hs m
  have e := front_els h hs m
  have hr : rankV (frontV T m) = rankV T := by unfold rankV; rw [a1, a2]
  unfold cmpV
  rw [cmpF, hr, a2, a3, cmpQ_self, thenI_0, cmpQ_self, thenI_0, vcmp_self, thenI_0, e]
  by_cases h5 : T.k = 5
  · rw [if_pos h5]; exact lex_front (cmpE_is (cmpF_is 8)) _ _
  · rw [if_neg h5, (cmp_lex (cmpE_is (cmpF_is 8))).self]; exact Int.le_refl _
theorem fronts_le {w : World} {B : Nat} {T U : VT} (h : Lie w B T) (h' : Lie w B U) (hok : T.ok = true) (hok' : U.ok = true) (m : Nat) (hle : cmpV T U ≤ 0) : cmpV (frontV T m) (frontV U m) ≤ 0 := by
  have hs := Szd.sized (ok_szd h hok)
  have hs' := Szd.sized (ok_szd h' hok')
  obtain ⟨a1, a2, a3, -⟩ := front_kids h hs m
  obtain ⟨b1, b2, b3, -⟩ := front_kids h' hs' m
  have e := front_els h hs m
  have e' := front_els h' hs' m
  have hr : rankV (frontV T m) = rankV T := by unfold rankV; rw [a1, a2]
  have hr' : rankV (frontV U m) = rankV U := by unfold rankV; rw [b1, b2]
  unfold cmpV at hle ⊢
  rw [cmpF] at hle ⊢
  rw [hr, hr', a2, a3, b2, b3, e, e']
  by_cases hz : rankV T = rankV U
  · have hk := (rank_same hs.1 hs'.1 hz).1
    rw [hz, cmpQ_self, thenI_0] at hle ⊢
    rw [hk]
    by_cases h5 : U.k = 5
    · rw [if_pos h5, if_pos h5]
      have f1 := (fit_bare hs.1).1 (by omega) (by omega)
      have f2 := (fit_bare hs.1).2 (by omega)
      have g1 := (fit_bare hs'.1).1 (by omega) (by omega)
      have g2 := (fit_bare hs'.1).2 (by omega)
      rw [f1, g1, cmpQ_self, thenI_0, f2, g2, vcmp_self, thenI_0] at hle ⊢
      exact lex_fronts (cmpE_is (cmpF_is 8)) _ _ m hle
    · rw [if_neg h5, if_neg h5]
      exact hle
  · have hne : cmpQ (rankV T) (rankV U) ≠ 0 := fun e => hz (cmpQ_zero.1 e)
    unfold thenI at hle ⊢
    rw [if_neg hne] at hle ⊢
    exact hle
theorem fronts_same {w : World} {B : Nat} {T : VT} (h : Lie w B T) (hok : T.ok = true) (n m : Nat) : (frontV (frontV T n) m).e = (frontV T (min n m)).e := by
  have hs := Szd.sized (ok_szd h hok)
  have h2 := front_lie h n
  have hs2 := Szd.sized (ok_szd h2 (front_ok h hok n))
  obtain ⟨a1, a2, a3, a4, a5⟩ := front_kids h hs n
  rw [front_e h2 hs2 m, front_e h hs, a1, a2, a3, a4, a5]
  by_cases h5 : T.k = 5
  · rw [if_pos h5, if_pos h5, if_pos h5, List.take_take, Nat.min_comm]
  · rw [if_neg h5, if_neg h5, if_neg h5]
end Go.Proofs.YtndolgbbochpjaaDoor
/-
  Layer 7: the law's own some; where a value stands among values in order.
-/
namespace Go.Proofs.YtndolgbbochpjaaDoor
open Go.RowKit
set_option linter.unusedVariables false

theorem own_noneS {W : World} {b size n c : Nat} {e : TypeId} {A : Option Addr} {xs : List Value} (ho : W.ownsRow b e size (.slice A n c) n xs) : A = none → c = 0 := by
  intro hA
  rcases ho.2 with ⟨e, _⟩ | ⟨g, cap, cur, e, _⟩
  · injection e
  · injection e with e1; rw [hA] at e1; cases e1
theorem own_capS {W : World} {b size n c : Nat} {e : TypeId} {A : Option Addr} {xs : List Value} (ho : W.ownsRow b e size (.slice A n c) n xs) : n ≤ c := by
  rcases ho.2 with ⟨h, _⟩ | ⟨g, cap, cur, h, _, _, h1, h2, _⟩
  · injection h with h1 h2 h3; omega
  · injection h with e1 e2 e3; omega
set_option maxRecDepth 20000 in
set_option maxHeartbeats 1000000 in
theorem some_any (A0 : Option Addr) (n0 c0 B : Nat) (l0 : List VT) (w : World) (h0 : Shows w B 5 A0 n0 (l0.flatMap VT.cells)) (hB : B ≤ w.heap.size) (hc0 : n0 ≤ c0) (hM0 : c0 ≤ maxLen) :
    Calls Tryd.prog 14 #[.slice A0 n0 c0] w fun e w' => ∃ A c, e = .returned (.slice A (min n0 20) c) ∧ Hid (Shows w' w'.heap.size 5 A (min n0 20) ((l0.take (min n0 20)).flatMap VT.cells)) ∧ Hid (A = none → c = 0) ∧ min n0 20 ≤ c ∧ Below w.heap.size w w' := by
  obtain ⟨iV, hiV, hzV, hsV, hbV⟩ := val_info
  obtain ⟨m, hm⟩ : ∃ m, m = min n0 20 := ⟨_, rfl⟩
  rw [← hm]
  have hmi : min (n0 : Int) 20 = (m : Int) := by omega
  have hmj : (if (20 : Int) < (n0 : Int) then (20 : Int) else (n0 : Int)) = (m : Int) := by split <;> omega
  have hmle : m ≤ 20 := by omega
  have hmn : m ≤ n0 := by omega
  have hz1 : (0 : Int) ≤ m := by omega
  have hi1 : (m : Int) ≤ n0 := by omega
  have hj1 : (m : Int) ≤ c0 := by omega
  have hsh : Shows w B 5 A0 m ((l0.take m).flatMap VT.cells) := by have := h0.first hmn; rwa [flat_take5] at this
  generalize l0.take m = L at *
  have hone := vcells_one L
  have hown := World.ownsRow_lit (base := w.heap.size) (e := 25) (size := 5) w #[] 0 (Nat.le_refl _) (Nat.zero_le _) rfl
  have hs := hsh.alloc hB (.cells #[] 25)
  have hMx : 20 ≤ maxLen := by decide
  clear hm h0 hsh
  go_enter Tryd.func14, Tryd.ntmps14
  go_wp2_with (at_builtin; refine wpList_append_shows _ rfl _ _ 22 rfl w.heap.size 25 iV _ 5 80 Tryd.underlying22 hiV hzV hsV hbV rfl (by decide) _ _ _ rfl hown B _ m _ (L.flatMap VT.cells) rfl hs hone (by omega) (by omega) (by simp) ?_; intro A7 c7 w7 hown7 hgrow7 hb7)
  have ho : w7.ownsRow w.heap.size 25 5 (.slice A7 m c7) m (L.flatMap VT.cells) := by simpa using hown7
  have hbx : Below w.heap.size w w7 := ((Below.refl _ _).alloc (Nat.le_refl _) _).trans hb7
  clear hown7
  go_wp2
  go_ret
  exact ⟨A7, c7, by first | rfl | simp, Lib.hid (Shows.own ho), Lib.hid (own_noneS ho), own_capS ho, hbx⟩
/-- A value among values in order. -/
theorem stand_pure {L : List VT} (h : Rise L) {i : Nat} {v : VT} (hv : L[i]? = some v) : befN v L ≤ i ∧ i < uptN v L ∧ uptN v L = befN v L + L.countP (fun x => decide (cmpV x v = 0)) := by
  obtain ⟨hi, he⟩ := List.getElem?_eq_some_iff.1 hv
  have hp := List.pairwise_iff_getElem.1 h
  refine ⟨?_, ?_, ?_⟩
  · unfold befN
    conv => lhs; rw [← List.take_append_drop i L]
    rw [List.countP_append]
    have h1 : (L.take i).countP (fun x => decide (cmpV x v < 0)) ≤ i := Nat.le_trans List.countP_le_length (by simp; omega)
    have h2 : (L.drop i).countP (fun x => decide (cmpV x v < 0)) = 0 := by
      rw [List.countP_eq_zero]
      intro x hx
      obtain ⟨j, hj, rfl⟩ := List.getElem_of_mem hx
      simp only [List.getElem_drop, decide_eq_true_eq]
      by_cases hj0 : j = 0
      · subst hj0
        simp only [Nat.add_zero]
        rw [he, cmpV_is.self]
        decide
      · have := hp i (i + j) hi (by simp at hj; omega) (by omega)
        rw [he] at this
        have ht := cmpV_is.turn v (L[i + j]'(by simp at hj; omega))
        omega
    omega
  · unfold uptN
    conv => rhs; rw [← List.take_append_drop (i + 1) L]
    rw [List.countP_append]
    have h1 : (L.take (i + 1)).countP (fun x => decide (cmpV x v ≤ 0)) = (L.take (i + 1)).length := by
      rw [List.countP_eq_length]
      intro x hx
      obtain ⟨j, hj, rfl⟩ := List.getElem_of_mem hx
      simp only [List.getElem_take, decide_eq_true_eq]
      have hj' : j < i + 1 := by simp at hj; omega
      by_cases hji : j = i
      · subst hji
        rw [he, cmpV_is.self]
        exact Int.le_refl _
      · have := hp j i (by omega) hi (by omega)
        rwa [he] at this
    have h2 : (L.take (i + 1)).length = i + 1 := by simp; omega
    omega
  · unfold uptN befN
    clear h hp hv he hi
    induction L with
    | nil => rfl
    | cons x l ih =>
      simp only [List.countP_cons, ih]
      rcases cmpV_is.ones x v with h | h | h <;> rw [h] <;> simp <;> omega
theorem cnt_same {v y : VT} {w w' : World} {B B' : Nat} (hT : Lie w B v) (hU : Lie w' B' y) (h1 : v.ok = true) (h2 : y.ok = true) : sameR v y = decide (cmpV y v = 0) := by
  unfold sameR
  rw [h1, h2]
  have h := cmpV_zero hT hU h1 h2
  have ht := cmpV_is.turn v y
  by_cases hz : cmpV v y = 0
  · rw [(sameV_iff _ _).2 (h.1 hz), ht, hz]; rfl
  · have : sameV v y = false := bool_no (sameV_iff _ _) (fun e => hz (h.2 e))
    rw [this, ht]
    simp
    omega
end Go.Proofs.YtndolgbbochpjaaDoor
/-
  CollateStands: Sort gives the same values with the same multiplicities, in order, each where Place locates it: the walk.
-/
namespace Go.Proofs.YtndolgbbochpjaaDoor
open Go.RowKit
set_option linter.unusedVariables false

theorem place_ok {L : List VT} {v : VT} {X : Int × Int} {E : Int} (h : PlP L v X E) (hok : (L.all VT.ok && v.ok) = true) (hr : Rise L) : X = ((befN v L : Int), (uptN v L : Int)) ∧ E = 0 := by
  rcases h with ⟨h, _⟩ | ⟨_, ⟨h, _⟩ | ⟨_, h, h2⟩⟩
  · rw [hok] at h; cases h
  · exact absurd hr h
  · exact ⟨h, h2⟩
theorem cnt_snoc {f : VT → Bool} {L : List VT} {j : Nat} {x : VT} (h : L[j]? = some x) : (L.take (j + 1)).countP f = (L.take j).countP f + (if f x = true then 1 else 0) := by
  rw [List.take_add_one, h, List.countP_append]
  simp
/-- Where Place says that the value with an index stands, and how often it is there. -/
theorem placeS_any (A : Option Addr) (m c B : Nat) (L : List VT) (j : Nat) (v : VT) (w : World) (h : Shows w B 5 A m (L.flatMap VT.cells)) (hL : ∀ x ∈ L, Lie w B x ∧ x.ok = true) (hv : L[j]? = some v) (hr : Rise L) (hB : B ≤ w.heap.size) (hm : m ≤ 20) (htab : UTab w) (hst : STab w) (hrk : RTab w) :
    Calls Tryd.prog 16 #[.slice A m c, v.agg] w fun e w' => ∃ p q : Nat, e = .returned (.tuple #[.int .i64 p, .int .i64 q, .int .i64 0]) ∧ p ≤ j ∧ j < q ∧ Hid (q = p + L.countP (fun x => decide (cmpV x v = 0))) ∧ Below w.heap.size w w' := by
  have hmv := List.mem_of_getElem? hv
  refine (placeT_any A m c B L v w h (fun x hx => (hL x hx).1) (hL v hmv).1 hB (by omega) htab hst hrk).mono ?_
  rintro e w' ⟨X, E, rfl, hP, hb⟩
  obtain ⟨rfl, rfl⟩ := place_ok hP.out (by
    rw [(hL v hmv).2, Bool.and_true, List.all_eq_true]
    exact fun x hx => (hL x hx).2) hr
  obtain ⟨h1, h2, h3⟩ := stand_pure hr hv
  exact ⟨_, _, rfl, h1, h2, Lib.hid h3, hb⟩
set_option maxRecDepth 20000 in
set_option maxHeartbeats 4000000 in
theorem cstands_any (w : World) (A0 : Option Addr) (n0 c0 : Nat) (l0 : List VT) (B : Nat) (hB : B ≤ w.heap.size)
    (h0 : Shows w B 5 A0 n0 (l0.flatMap VT.cells)) (hl0 : ∀ x ∈ l0, Lie w B x) (hc0 : n0 ≤ c0) (hM0 : c0 ≤ maxLen) (htab : UTab w) (hst : STab w) (hr : RTab w) :
    Calls Tryd.prog 8 #[.slice A0 n0 c0] w fun e w' => e = .returned (.bool true) ∧ Below w.heap.size w w' := by
  have HTx := Lib.hid (fun W (h : Below w.heap.size w W) => (⟨htab.below h htab.lt, hst.below h hst.lt, hr.below h hr.lt⟩ : UTab W ∧ STab W ∧ RTab W))
  have HW := Lib.hid (fun W (h : Below w.heap.size w W) => cwakes_any W (HTx.out W h).1 (HTx.out W h).2.1 (HTx.out W h).2.2)
  have Hsm := Lib.hid (fun W (h : Below w.heap.size w W) => some_any A0 n0 c0 B l0 W (h0.below (h.mono hB)) (Nat.le_trans hB h.size) hc0 hM0)
  have hml : min n0 20 ≤ 20 := by omega
  have hlie : ∀ x ∈ l0.take (min n0 20), Lie w B x := fun x hx => hl0 x (List.mem_of_mem_take hx)
  generalize min n0 20 = m at *
  generalize l0.take m = L at *
  have HLie := Lib.hid (fun W (h : Below w.heap.size w W) x (hx : x ∈ L) => (((hlie x hx).later (h.mono hB)).more (Nat.le_trans hB h.size) : Lie W W.heap.size x))
  clear htab hst hr h0 hl0 hlie hc0 hM0
  go_enter Tryd.func8, Tryd.ntmps8
  go_wp2_with fail
  refine (HW.out _ (Below.refl _ _)).mono ?_
  rintro e w1 ⟨rfl, hb1⟩
  clear HW
  go_wp2_with fail
  refine (Hsm.out _ hb1).mono ?_
  rintro e w2 ⟨A1, c1, rfl, HS1, HA1, hc1, hn⟩
  have hb2 := bel_next hb1 hn
  have hso := sortT_any A1 m c1 w2.heap.size L w2 HS1.out (HLie.out _ hb2) (Nat.le_refl _) hml HA1.out hc1 (HTx.out _ hb2).1 (HTx.out _ hb2).2.1 (HTx.out _ hb2).2.2
  clear Hsm hn hb1
  go_wp2_with fail
  refine hso.mono ?_
  rintro e w3 ⟨⟨_, rfl⟩ | ⟨hok, A2, c2, L2, rfl, HS2, HP⟩, hn⟩
  · clear hso
    go_wp2
    go_ret
    exact ⟨rfl, bel_next hb2 hn⟩
  · have hb3 := bel_next hb2 hn
    have HS3 := Lib.hid ((HS1.out.below hn).more hn.size)
    have HL := Lib.hid (fun W (h : Below w3.heap.size w3 W) x (hx : x ∈ L) => (⟨HLie.out W (bel_next hb3 h) x hx, List.all_eq_true.1 hok x hx⟩ : Lie W W.heap.size x ∧ x.ok = true))
    have HL2 := Lib.hid (fun W (h : Below w3.heap.size w3 W) x (hx : x ∈ L2) => (HL.out W h x (HP.out.1.mem_iff.1 hx)))
    have HT3 := Lib.hid (fun W (h : Below w3.heap.size w3 W) => HTx.out W (bel_next hb3 h))
    clear hso hn HS1 HLie HTx hok hb2 HA1 hc1
    have hm20 : (m : Int) ≤ 20 := by omega
    go_wp2
    go_loopw [39] (fun i wr => ∃ j : Nat, j ≤ m ∧ i = .int .i64 j ∧ Below w3.heap.size w3 wr) (fun i _ => m - (intOf i).toNat)
    case atStart => exact ⟨0, Nat.zero_le _, rfl, Below.refl _ _⟩
    case round =>
      obtain ⟨j, hj, rfl, hbr⟩ := hrel
      by_cases hlt : j < m
      · obtain ⟨b, off, v, hA2, _, hv, h5⟩ := kids_at (HS2.out.below hbr) hlt
        subst hA2
        have hlt' : (j : Int) < (m : Int) := by omega
        have Hpl := Lib.hid (fun W (h : Below w3.heap.size w3 W) => placeS_any (some ⟨b, off, none⟩) m c2 W.heap.size L2 j v W ((HS2.out.below h).more h.size) (HL2.out W h) hv HP.out.2 (Nat.le_refl _) hml (HT3.out W h).1 (HT3.out W h).2.1 (HT3.out W h).2.2)
        have hmv := List.mem_of_getElem? hv
        have Hsame := Lib.hid (fun (t : Nat) (y : VT) (hy : L[t]? = some y) W (h : Below w3.heap.size w3 W) => (by
          have hx1 := HL2.out W h v hmv
          have hx2 := HL.out W h y (List.mem_of_getElem? hy)
          have h1 := same_any W.heap.size W v y hx1.1 hx2.1 (Nat.le_refl _) (HT3.out W h).1 (HT3.out W h).2.1
          rw [cnt_same hx1.1 hx2.1 hx1.2 hx2.2] at h1
          exact h1 : Calls Tryd.prog 25 #[v.agg, y.agg] W fun e w' => e = .returned (.bool (decide (cmpV y v = 0))) ∧ Below W.heap.size W w'))
        have Hcnt := Lib.hid (HP.out.1.countP_eq (fun x => decide (cmpV x v = 0)))
        obtain ⟨fz, hfz⟩ : ∃ fz : VT → Bool, fz = fun x => decide (cmpV x v = 0) := ⟨_, rfl⟩
        have hfy : ∀ y, decide (cmpV y v = 0) = fz y := fun y => by rw [hfz]
        simp only [hfy] at Hsame Hcnt Hpl
        clear hfy hfz hv hmv
        obtain ⟨k, n, s, cA, cn, cc, kA, kn, kc, keys, kids⟩ := v
        simp only [VT.agg] at Hsame Hpl
        obtain ⟨g0, g1, g2, g3, g4⟩ := h5
        have hb4 := bel_alloc hbr (.cells #[.int .i64 k, .int .i64 n, .string s, .slice cA cn cc, .slice kA kn kc] 25)
        have HV := Lib.hid (VFive.new wr (.int .i64 k) (.int .i64 n) (.string s) (.slice cA cn cc) (.slice kA kn kc) 25 wr.heap.size rfl)
        go_upto_region 12 with fail
        generalize (wr.alloc (.cells #[.int .i64 k, .int .i64 n, .string s, .slice cA cn cc, .slice kA kn kc] 25)) = w4 at *
        generalize wr.heap.size = g at *
        obtain ⟨⟨v0, v1, v2, v3, v4⟩, -⟩ := HV.out
        clear g0 g1 g2 g3 g4
        go_wp2_with fail
        refine (Hpl.out _ hb4).mono ?_
        rintro e w5 ⟨p, q, rfl, hpj, hjq, Hq, hn⟩
        have hb5 := bel_next hb4 hn
        have HV5 := Lib.hid (HV.out.later hn)
        clear v0 v1 v2 v3 v4 HV hn Hpl
        go_upto_region 13 with fail
        go_cut [62] (fun s wx => s = .bool false ∧ w5 = wx)
        case first =>
          have hc1 : ¬ (j : Int) < (p : Int) := by omega
          have hc2 : ¬ (q : Int) ≤ (j : Int) := by omega
          go_wp2
          go_meet
          case rel => exact ⟨by first | rfl | (simp; done) | (simp; omega), rfl⟩
        case rest =>
          obtain ⟨rfl, rfl⟩ := hcut
          go_wp2
          go_loopw [11, 65] (fun x i wr => ∃ (t u : Nat), t ≤ m ∧ i = .int .i64 t ∧ x = .int .i64 u ∧ u ≤ t ∧ Hid (u = (L.take t).countP fz) ∧ Below w5.heap.size w5 wr) (fun _ i _ => m - (intOf i).toNat)
          case atStart => exact ⟨0, 0, Nat.zero_le _, rfl, rfl, Nat.le_refl _, Lib.hid rfl, Below.refl _ _⟩
          case round =>
            obtain ⟨t, u, ht, rfl, rfl, hut, HU, hbt⟩ := hrel
            have hb6 := bel_next hb5 hbt
            by_cases hlt2 : t < m
            · obtain ⟨b3, off3, y, hA3, _, hy, h5⟩ := kids_at (HS3.out.below hb6) hlt2
              subst hA3
              have hlt2' : (t : Int) < (m : Int) := by omega
              have hsn := cnt_snoc (f := fz) hy
              have Hsm := Lib.hid (Hsame.out t y hy)
              have HU1 := Lib.hid (fun h : fz y = true => (by rw [hsn, if_pos h, HU.out] : u + 1 = (L.take (t + 1)).countP fz))
              have HU0 := Lib.hid (fun h : fz y = false => (by rw [hsn, if_neg (by rw [h]; decide), HU.out]; rfl : u = (L.take (t + 1)).countP fz))
              clear hy hsn HU
              generalize fz y = fb at *
              obtain ⟨yk, yn, ys, ycA, ycn, ycc, ykA, ykn, ykc, ykeys, ykids⟩ := y
              simp only at Hsm
              obtain ⟨g0, g1, g2, g3, g4⟩ := h5
              have hb7 := bel_alloc hbt (.cells #[.int .i64 yk, .int .i64 yn, .string ys, .slice ycA ycn ycc, .slice ykA ykn ykc] 25)
              have HY := VFive.new wr (.int .i64 yk) (.int .i64 yn) (.string ys) (.slice ycA ycn ycc) (.slice ykA ykn ykc) 25 wr.heap.size rfl
              have HV6 := HV5.out.later hb7
              obtain ⟨⟨y0, y1, y2, y3, y4⟩, -⟩ := HY
              obtain ⟨⟨v0, v1, v2, v3, v4⟩, -⟩ := HV6
              have hss := Hsm.out _ (bel_next hb5 hb7)
              cases fb
              · have Hn := Lib.hid (HU0.out rfl)
                clear HU0 HU1 Hsm
                go_wp2_with fail
                refine hss.mono ?_
                rintro e w7 ⟨rfl, hn⟩
                clear hss
                go_wp2
                go_roundw
                case rel => exact ⟨t + 1, u, by omega, by go_num, rfl, by omega, Hn, bel_next hb7 hn⟩
                case measure => simp [intOf]; omega
              · have Hn := Lib.hid (HU1.out rfl)
                clear HU0 HU1 Hsm
                go_wp2_with fail
                refine hss.mono ?_
                rintro e w7 ⟨rfl, hn⟩
                clear hss
                go_wp2
                go_roundw
                case rel => exact ⟨t + 1, u + 1, by omega, by go_num, by go_num, by omega, Hn, bel_next hb7 hn⟩
                case measure => simp [intOf]; omega
            · obtain rfl : t = m := by omega
              have hlenL : L.length = t := kids_len HS3.out
              have hu : u = L.countP fz := by rw [HU.out, List.take_of_length_le (by omega)]
              have hqp : IntKind.i64.wrap ((q : Int) - (p : Int)) = (u : Int) := by
                have h1 : q = p + L2.countP fz := Hq.out
                have h2 : L2.countP fz = L.countP fz := Hcnt.out
                rw [IntKind.wrap_i64]
                omega
              clear hu HU Hq Hcnt hlenL
              go_wp2
              go_roundw
              case rel => exact ⟨j + 1, by omega, by go_num, hb6⟩
              case measure => simp [intOf]; omega
      · obtain rfl : j = m := by omega
        go_wp2
        go_ret
        exact ⟨rfl, bel_next hb3 hbr⟩
theorem collateStands_walk (W : World) (a0 : Option Addr) (len0 cap0 : Nat) (l0 : List VT) (b0 : Shows W W.heap.size 5 a0 len0 (l0.flatMap VT.cells)) (ok0 : ∀ T ∈ l0, Lie W W.heap.size T) (z0 : a0 = none → cap0 = 0) (y0 : len0 ≤ cap0) (x0 : cap0 ≤ maxLen) (htab : UTab W ∧ STab W ∧ RTab W) :
    Calls Tryd.prog 8 #[.slice a0 len0 cap0] W fun e w' => e = .returned (.bool true) ∧ Below W.heap.size W w' :=
  cstands_any W a0 len0 cap0 l0 W.heap.size (Nat.le_refl _) b0 ok0 y0 x0 htab.1 htab.2.1 htab.2.2
end Go.Proofs.YtndolgbbochpjaaDoor
/-
  Layer 1: the table of forms out of a row's condition: an array of structs of whole numbers holds what it reads as.
-/
namespace Go.Proofs.YtndolgbbochpjaaDoor
open Go.RowKit

section
variable {H : Type} {enc : TypeId × Value → H} {P : Program} {w : World} {base : Nat} {sp : Nat → Bool} {held : Bool} {k : IntKind}
def litRow (k : IntKind) (zs : List Int) : DataW H := .agg (zs.map fun z => .lit (.int k z))
theorem cells_of_struct {fuel : Nat} {t : TypeId} {fs : Array Field} {cs : List Value} {zs : List Int} {p : List MemPlace} (ht : P.underlying t = some (.struct fs)) (hn : P.cellsOf t = fs.size)
    (hf : ∀ (i : Nat) (f : Field), fs[i]? = some f → f.offset = i ∧ P.cellsOf f.type = 1 ∧ P.underlying f.type = some (.int k))
    (h : DataW.trod enc P w base sp held fuel t cs = some (litRow k zs, p)) : cs = zs.map fun z => Value.int k z := by
  obtain ⟨xs, n, _, hx, hl, hlen, hfx⟩ := DataW.trod_struct ht h
  have hxs : xs.map (·.1) = zs.map fun z => (DataW.lit (.int k z) : DataW H) := by
    have := congrArg Prod.fst hx
    simpa [litRow] using this.symm
  have hzl : zs.length = fs.size := by
    have := congrArg List.length hxs
    simp at this
    omega
  apply List.ext_getElem?
  intro i
  by_cases hi : i < fs.size
  · obtain ⟨h1, h2, h3⟩ := hf i fs[i] (Array.getElem?_eq_getElem hi)
    have hb := hfx i fs[i] (Array.getElem?_eq_getElem hi)
    rw [h1, h2, List.getElem?_eq_getElem (by omega)] at hb
    obtain ⟨z, hc, hz, _⟩ := DataW.trod_int h3 hb
    have e1 : cs[i]? = some (.int k z) := by
      have := congrArg (·[0]?) hc
      simpa [List.getElem?_take, List.getElem?_drop] using this
    have e2 : (xs.map (·.1))[i]? = some (DataW.lit (.int k z) : DataW H) := by
      rw [List.getElem?_map, List.getElem?_eq_getElem (by omega), hz]
      rfl
    rw [hxs] at e2
    simp only [List.getElem?_map, Option.map_eq_some_iff, DataW.lit.injEq, Lit.int.injEq, true_and] at e2
    obtain ⟨z', hz', rfl⟩ := e2
    simp [e1, hz']
  · rw [List.getElem?_eq_none (by omega), List.getElem?_eq_none (by simp; omega)]
theorem cells_of_rows {fuel : Nat} {t e : TypeId} {n m : Nat} {cs : List Value} {rows : List (List Int)} {p : List MemPlace} (ht : P.underlying t = some (.array n e)) (he : P.cellsOf e = m) (hct : P.cellsOf t = n * m)
    (hs : ∀ (cs' : List Value) (fuel' : Nat) (zs : List Int) (p' : List MemPlace), DataW.trod enc P w base sp held fuel' e cs' = some (litRow k zs, p') → cs' = zs.map fun z => Value.int k z)
    (h : DataW.trod enc P w base sp held fuel t cs = some (.agg (rows.map (litRow k)), p)) :
    cs.length = n * m ∧ rows.length = n ∧ ∀ i r, rows[i]? = some r → (cs.drop (i * m)).take m = r.map fun z => Value.int k z := by
  cases fuel with
  | zero => simp [DataW.trod] at h
  | succ fuel =>
    simp only [DataW.trod, ht, he, hct] at h
    split at h
    · rename_i hl
      obtain ⟨xs, hm, hx⟩ := Option.map_eq_some_iff.1 h
      have hxs : xs.map (·.1) = rows.map (litRow k) := by
        have := congrArg Prod.fst hx
        simpa using this
      have hxl : xs.length = n := by simpa using Lib.mapM_length hm
      have hzl : rows.length = n := by
        have := congrArg List.length hxs
        simp at this
        omega
      refine ⟨hl, hzl, fun i r hr => ?_⟩
      have hi : i < n := by rw [← hzl]; exact (List.getElem?_eq_some_iff.1 hr).1
      obtain ⟨b, hb, hf⟩ := Lib.mapM_at hm i i (by simp [hi])
      have h2 : (xs.map (·.1))[i]? = some (litRow k r) := by rw [hxs, List.getElem?_map, hr]; rfl
      rw [List.getElem?_map, hb] at h2
      have h3 : b.1 = litRow k r := by simpa using h2
      obtain ⟨b1, b2⟩ := b
      subst h3
      exact hs _ _ _ _ hf
    · cases h
end
theorem four (cs : List Value) (h : cs.length = 16) : cs = (cs.drop (0 * 4)).take 4 ++ ((cs.drop (1 * 4)).take 4 ++ ((cs.drop (2 * 4)).take 4 ++ (cs.drop (3 * 4)).take 4)) := by
  have e3 : (cs.drop (3 * 4)).take 4 = cs.drop 12 := List.take_of_length_le (by simp; omega)
  have e2 : (cs.drop (2 * 4)).take 4 ++ cs.drop 12 = cs.drop 8 := by
    have := List.take_append_drop 4 (cs.drop 8)
    rwa [List.drop_drop] at this
  have e1 : (cs.drop (1 * 4)).take 4 ++ cs.drop 8 = cs.drop 4 := by
    have := List.take_append_drop 4 (cs.drop 4)
    rwa [List.drop_drop] at this
  rw [e3, e2, e1]
  simp
set_option maxRecDepth 20000 in
theorem form_rows {W : World} {fuel : Nat} {cs : List Value} {zs : List Int} {p : List MemPlace} (h : DataW.trod (fun _ => ()) Tryd.prog W 0 (fun _ => true) false fuel 113 cs = some (litRow .i64 zs, p)) : cs = zs.map fun z => Value.int .i64 z :=
  cells_of_struct Tryd.underlying113 (by kernel_rfl) (fun i f hf => by
    match i, hf with
    | 0, hf => cases hf; exact ⟨rfl, by kernel_rfl, Tryd.underlying3⟩
    | 1, hf => cases hf; exact ⟨rfl, by kernel_rfl, Tryd.underlying3⟩
    | 2, hf => cases hf; exact ⟨rfl, by kernel_rfl, Tryd.underlying3⟩
    | 3, hf => cases hf; exact ⟨rfl, by kernel_rfl, Tryd.underlying3⟩
    | i + 4, hf => simp at hf) h
set_option maxRecDepth 20000 in
theorem gForms : Tryd.prog.globalNamed "davenport/utf.forms" = some 2 := by kernel_rfl
set_option maxRecDepth 20000 in
theorem gFormsType : (Tryd.prog.globals[2]?).map (·.type) = some 116 := by kernel_rfl
set_option maxRecDepth 20000 in
/-- The condition of a row gives the table. -/
theorem utab_of {W : World} (h : Lib.VarReads Tryd.prog W "davenport/utf.forms" Rows.laid_davenport_utf_forms) : UTab W := by
  obtain ⟨g', t', cs, fuel, p, hg', ht', hvar, hd⟩ := h
  obtain rfl := Option.some.inj (gForms.symm.trans hg')
  obtain rfl := Option.some.inj (gFormsType.symm.trans ht')
  obtain ⟨hl, -, hr⟩ := cells_of_rows (k := .i64) (m := 4) (rows := [[0, 127, 1, 0], [128, 2047, 2, 192], [2048, 65535, 3, 224], [65536, 1114111, 4, 240]]) Tryd.underlying116 (by kernel_rfl) (by kernel_rfl) (fun cs' f' zs p' h' => form_rows h') hd
  have e := four cs.toList hl
  rw [hr 0 _ rfl, hr 1 _ rfl, hr 2 _ rfl, hr 3 _ rfl] at e
  intro i v hi
  have hc := World.var?_cell gForms hvar i
  rw [Nat.zero_add, hc, ← Array.getElem?_toList, e]
  exact hi
end Go.Proofs.YtndolgbbochpjaaDoor
/-
  A laid variable that is an array of structs of mixed kinds: its cells, out of what it reads as.
-/
namespace Go.Proofs.YtndolgbbochpjaaDoor
open Go.RowKit

section
variable {H : Type} {enc : TypeId × Value → H} {P : Program} {w : World} {base : Nat} {sp : Nat → Bool} {held : Bool}
theorem cells_of_rowsG {R : Type} {F : R → DataW H} {V : R → List Value} {fuel : Nat} {t e : TypeId} {n m : Nat} {cs : List Value} {rows : List R} {p : List MemPlace} (ht : P.underlying t = some (.array n e)) (he : P.cellsOf e = m) (hct : P.cellsOf t = n * m)
    (hs : ∀ (cs' : List Value) (fuel' : Nat) (r : R) (p' : List MemPlace), DataW.trod enc P w base sp held fuel' e cs' = some (F r, p') → cs' = V r)
    (h : DataW.trod enc P w base sp held fuel t cs = some (.agg (rows.map F), p)) :
    cs.length = n * m ∧ rows.length = n ∧ ∀ i r, rows[i]? = some r → (cs.drop (i * m)).take m = V r := by
  cases fuel with
  | zero => simp [DataW.trod] at h
  | succ fuel =>
    simp only [DataW.trod, ht, he, hct] at h
    split at h
    · rename_i hl
      obtain ⟨xs, hm, hx⟩ := Option.map_eq_some_iff.1 h
      have hxs : xs.map (·.1) = rows.map F := by
        have := congrArg Prod.fst hx
        simpa using this
      have hxl : xs.length = n := by simpa using Lib.mapM_length hm
      have hzl : rows.length = n := by
        have := congrArg List.length hxs
        simp at this
        omega
      refine ⟨hl, hzl, fun i r hr => ?_⟩
      have hi : i < n := by rw [← hzl]; exact (List.getElem?_eq_some_iff.1 hr).1
      obtain ⟨b, hb, hf⟩ := Lib.mapM_at hm i i (by simp [hi])
      have h2 : (xs.map (·.1))[i]? = some (F r) := by rw [hxs, List.getElem?_map, hr]; rfl
      rw [List.getElem?_map, hb] at h2
      have h3 : b.1 = F r := by simpa using h2
      obtain ⟨b1, b2⟩ := b
      subst h3
      exact hs _ _ _ _ hf
    · cases h
end
theorem chunk {cs L : List Value} {q m r : Nat} {v : Value} (h : (cs.drop (q * m)).take m = L) (hv : L[r]? = some v) : cs[q * m + r]? = some v := by
  rw [← h, List.getElem?_take] at hv
  split at hv
  · rwa [List.getElem?_drop] at hv
  · cases hv
end Go.Proofs.YtndolgbbochpjaaDoor
