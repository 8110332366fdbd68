import Derived.Test.YtinaecmpigenoaaDoorGac
import Derived.Test.YtinaecmpigenoaaDoorGab
import Derived.Deep.RegionHeld3
/-
  Package monoid: Tell, of the sum.
-/
namespace Go.Proofs.YtinaecmpigenoaaDoor
open Go.RowKit
attribute [local go_sem ↓] Go.wp_at_zero Go.wp_at_succ

theorem old_cell {w0 w3 w6 : World} {o : Obj} {C : Array Value} {t : TypeId} (h1 : Below (w0.alloc (.cells C t)).heap.size (w0.alloc (.cells C t)) w3) (h2 : Below (w3.alloc o).heap.size (w3.alloc o) w6) (k : Nat) {v : Value} (hk : C[k]? = some v) : w6.cell? ⟨w0.heap.size, k, none⟩ = some v ∧ w6.frozen? ⟨w0.heap.size, k, none⟩ = false := by
  have h3 := mnew_later h1 k hk
  have h4 := cell_keep h3 o
  exact ⟨mkept_later h2 h4, (h2.frozen (World.block_lt_of_cell? _ _ h4)).trans ((frozen_keep h3 o).trans (new_frozen h1 k))⟩
set_option maxRecDepth 20000 in
set_option maxHeartbeats 2000000 in
theorem tell_over (c i v le mo : Int) (w : World) (hv : R128 v) (hle : R64 le) (hmo : R64 mo) (hval : validB c i v le mo = true) (ho : ¬ v = IntKind.i64.wrap (loI v)) :
    Calls Tryd.prog 8 #[.int .i64 2, .agg #[.int .i64 c, .int .i64 i, .int .i64 (hiI v), .int .u64 (loI v), .int .i64 le, .int .i64 mo]] w fun e w' => e = .returned (.tuple #[.agg #[.int .i64 0, .int .i64 0, .string ⟨#[]⟩, .slice none 0 0, .slice none 0 0], .int .i64 5]) ∧ Below w.heap.size w w' := by
  have hc := fun W => mvalid_any c i v le mo W hv hle hmo
  unfold redV at hc
  rw [hval] at hc
  have hsm : smallV v = .tuple #[.int .i64 (IntKind.i64.wrap (loI v)), .bool false] := by unfold smallV; rw [decide_eq_false ho]
  have Hsm := Lib.hid hsm
  have Hc := Lib.hid hc
  clear hsm ho hval hc
  go_enter Tryd.func8, Tryd.ntmps8
  go_wp2_with fail
  refine (Hc.out _).mono ?_
  rintro e w1 ⟨rfl, hb1⟩
  go_wp2_with fail
  refine (known_any 2 _).mono ?_
  rintro e w2 ⟨rfl, hb2⟩
  rw [show knownB 2 = true by decide]
  go_wp2_with fail
  refine (kinds_any _).mono ?_
  rintro e w3 ⟨rfl, hb3⟩
  have i2 := kinds_at2 w3
  have hsz : (w.alloc (.cells #[.int .i64 c, .int .i64 i, .int .i64 (hiI v), .int .u64 (loI v), .int .i64 le, .int .i64 mo] 30)).heap.size = w.heap.size + 1 := by simp
  have hbw : Below w.heap.size w ((w.alloc (.cells #[.int .i64 c, .int .i64 i, .int .i64 (hiI v), .int .u64 (loI v), .int .i64 le, .int .i64 mo] 30)).alloc (.cells #[.int .i64 0, .int .i64 0, .string ⟨#[]⟩, .slice none 0 0, .slice none 0 0] 39)) := ((Below.refl _ _).alloc (Nat.le_refl _) _).alloc (by simp) _
  have hb03 := (hb1.trans (hb2.mono hb1.size)).trans (hb3.mono (Nat.le_trans hb1.size hb2.size))
  have hb3w : Below w.heap.size w w3 := hbw.trans (hb03.mono hbw.size)
  have hs4 : Six (w3.alloc (.cells #[.string ⟨#[95, 115, 117, 109]⟩, .bool true, .func (.func 28) #[] #[]] 59)) w.heap.size (.int .i64 c) (.int .i64 i) (.int .i64 (hiI v)) (.int .u64 (loI v)) (.int .i64 le) (.int .i64 mo) := (((Six.new w _ _ _ _ _ _ _).alloc _).below hb03 rfl).alloc _
  obtain ⟨⟨r0, r1, r2, r3, r4, r5⟩, -⟩ := hs4
  have hle1 : w.heap.size ≤ w.heap.size + 1 := Nat.le_succ _
  clear hbw hb1 hb2 hb3
  go_wp2_with fail
  refine (total_agg c i v le mo _).mono ?_
  rintro e w5 ⟨rfl, hb5⟩
  go_wp2_with fail
  refine (small_any v _ hv).mono ?_
  rintro e w6 ⟨rfl, hb6⟩
  rw [Hsm.out]
  have hb56 := hb5.trans (hb6.mono hb5.size)
  have k1 : w6.cell? ⟨w3.heap.size, 1, none⟩ = some (.bool true) := mnew_later hb56 1 rfl
  have e0 : w6.cell? ⟨w.heap.size + 1, 0, none⟩ = some (.int .i64 0) := by rw [← hsz]; exact (old_cell hb03 hb56 0 rfl).1
  have e1 : w6.cell? ⟨w.heap.size + 1, 1, none⟩ = some (.int .i64 0) := by rw [← hsz]; exact (old_cell hb03 hb56 1 rfl).1
  have e2 : w6.cell? ⟨w.heap.size + 1, 2, none⟩ = some (.string ⟨#[]⟩) := by rw [← hsz]; exact (old_cell hb03 hb56 2 rfl).1
  have e3 : w6.cell? ⟨w.heap.size + 1, 3, none⟩ = some (.slice none 0 0) := by rw [← hsz]; exact (old_cell hb03 hb56 3 rfl).1
  have e4 : w6.cell? ⟨w.heap.size + 1, 4, none⟩ = some (.slice none 0 0) := by rw [← hsz]; exact (old_cell hb03 hb56 4 rfl).1
  have f0 : w6.frozen? ⟨w.heap.size + 1, 0, none⟩ = false := by rw [← hsz]; exact (old_cell hb03 hb56 0 rfl).2
  have f1 : w6.frozen? ⟨w.heap.size + 1, 1, none⟩ = false := by rw [← hsz]; exact (old_cell hb03 hb56 1 rfl).2
  have f2 : w6.frozen? ⟨w.heap.size + 1, 2, none⟩ = false := by rw [← hsz]; exact (old_cell hb03 hb56 2 rfl).2
  have f3 : w6.frozen? ⟨w.heap.size + 1, 3, none⟩ = false := by rw [← hsz]; exact (old_cell hb03 hb56 3 rfl).2
  have f4 : w6.frozen? ⟨w.heap.size + 1, 4, none⟩ = false := by rw [← hsz]; exact (old_cell hb03 hb56 4 rfl).2
  have hb6w : Below w.heap.size w w6 := (hb3w.alloc hb3w.size _).trans (hb56.mono (by simp; have := hb3w.size; omega))
  clear r0 r1 r2 r3 r4 r5 hb5 hb6 hb56 hb03 hb3w hsz i2
  go_wp2
  refine bodyPost_ret (v := .tuple #[.agg #[.int .i64 0, .int .i64 0, .string ⟨#[]⟩, .slice none 0 0, .slice none 0 0], .int .i64 5]) ?_ rfl ⟨rfl, ((((hb6w.setCell hle1 _).setCell hle1 _).setCell hle1 _).setCell hle1 _).setCell hle1 _⟩
  simp [results, Tryd.results8, go_sem, *]

set_option maxRecDepth 20000 in
set_option maxHeartbeats 2000000 in
theorem tell_sum (c i v le mo : Int) (w : World) (hv : R128 v) (hle : R64 le) (hmo : R64 mo) (hval : validB c i v le mo = true) (ho : v = IntKind.i64.wrap (loI v)) :
    Calls Tryd.prog 8 #[.int .i64 2, .agg #[.int .i64 c, .int .i64 i, .int .i64 (hiI v), .int .u64 (loI v), .int .i64 le, .int .i64 mo]] w fun e w' => e = .returned (.tuple #[.agg #[.int .i64 3, .int .i64 v, .string ⟨#[]⟩, .slice none 0 0, .slice none 0 0], .int .i64 0]) ∧ Below w.heap.size w w' := by
  have hc := fun W => mvalid_any c i v le mo W hv hle hmo
  unfold redV at hc
  rw [hval] at hc
  have hsm : smallV v = .tuple #[.int .i64 (IntKind.i64.wrap (loI v)), .bool true] := by unfold smallV; rw [decide_eq_true ho]
  have htl := fun W => tellSum_any c i v le mo W
  unfold numV at htl
  rw [← ho] at htl hsm
  have Htl := Lib.hid htl
  have Hsm := Lib.hid hsm
  have Hc := Lib.hid hc
  clear hsm ho hval hc htl
  go_enter Tryd.func8, Tryd.ntmps8
  go_wp2_with fail
  refine (Hc.out _).mono ?_
  rintro e w1 ⟨rfl, hb1⟩
  go_wp2_with fail
  refine (known_any 2 _).mono ?_
  rintro e w2 ⟨rfl, hb2⟩
  rw [show knownB 2 = true by decide]
  go_wp2_with fail
  refine (kinds_any _).mono ?_
  rintro e w3 ⟨rfl, hb3⟩
  have i2 := kinds_at2 w3
  have hsz : (w.alloc (.cells #[.int .i64 c, .int .i64 i, .int .i64 (hiI v), .int .u64 (loI v), .int .i64 le, .int .i64 mo] 30)).heap.size = w.heap.size + 1 := by simp
  have hbw : Below w.heap.size w ((w.alloc (.cells #[.int .i64 c, .int .i64 i, .int .i64 (hiI v), .int .u64 (loI v), .int .i64 le, .int .i64 mo] 30)).alloc (.cells #[.int .i64 0, .int .i64 0, .string ⟨#[]⟩, .slice none 0 0, .slice none 0 0] 39)) := ((Below.refl _ _).alloc (Nat.le_refl _) _).alloc (by simp) _
  have hb03 := (hb1.trans (hb2.mono hb1.size)).trans (hb3.mono (Nat.le_trans hb1.size hb2.size))
  have hb3w : Below w.heap.size w w3 := hbw.trans (hb03.mono hbw.size)
  have hs4 : Six (w3.alloc (.cells #[.string ⟨#[95, 115, 117, 109]⟩, .bool true, .func (.func 28) #[] #[]] 59)) w.heap.size (.int .i64 c) (.int .i64 i) (.int .i64 (hiI v)) (.int .u64 (loI v)) (.int .i64 le) (.int .i64 mo) := (((Six.new w _ _ _ _ _ _ _).alloc _).below hb03 rfl).alloc _
  have Hs4 := Lib.hid hs4
  obtain ⟨⟨r0, r1, r2, r3, r4, r5⟩, -⟩ := hs4
  have hle1 : w.heap.size ≤ w.heap.size + 1 := Nat.le_succ _
  clear hbw hb1 hb2 hb3
  go_wp2_with fail
  refine (total_agg c i v le mo _).mono ?_
  rintro e w5 ⟨rfl, hb5⟩
  go_wp2_with fail
  refine (small_any v _ hv).mono ?_
  rintro e w6 ⟨rfl, hb6⟩
  rw [Hsm.out]
  have hb56 := hb5.trans (hb6.mono hb5.size)
  have k1 : w6.cell? ⟨w3.heap.size, 1, none⟩ = some (.bool true) := mnew_later hb56 1 rfl
  have k2 : w6.cell? ⟨w3.heap.size, 2, none⟩ = some (.func (.func 28) #[] #[]) := mnew_later hb56 2 rfl
  have hs6 := Hs4.out.below hb56 rfl
  clear r0 r1 r2 r3 r4 r5 i2
  obtain ⟨⟨r0, r1, r2, r3, r4, r5⟩, -⟩ := hs6
  have hb6w : Below w.heap.size w w6 := (hb3w.alloc hb3w.size _).trans (hb56.mono (by simp; have := hb3w.size; omega))
  have sb6 := hb6w.size
  go_wp2_with fail
  refine (Htl.out _).mono ?_
  rintro e w7 ⟨rfl, hb7⟩
  have hb57 := hb56.trans (hb7.mono hb56.size)
  have e0 : w7.cell? ⟨w.heap.size + 1, 0, none⟩ = some (.int .i64 0) := by rw [← hsz]; exact (old_cell hb03 hb57 0 rfl).1
  have e1 : w7.cell? ⟨w.heap.size + 1, 1, none⟩ = some (.int .i64 0) := by rw [← hsz]; exact (old_cell hb03 hb57 1 rfl).1
  have e2 : w7.cell? ⟨w.heap.size + 1, 2, none⟩ = some (.string ⟨#[]⟩) := by rw [← hsz]; exact (old_cell hb03 hb57 2 rfl).1
  have e3 : w7.cell? ⟨w.heap.size + 1, 3, none⟩ = some (.slice none 0 0) := by rw [← hsz]; exact (old_cell hb03 hb57 3 rfl).1
  have e4 : w7.cell? ⟨w.heap.size + 1, 4, none⟩ = some (.slice none 0 0) := by rw [← hsz]; exact (old_cell hb03 hb57 4 rfl).1
  have f0 : w7.frozen? ⟨w.heap.size + 1, 0, none⟩ = false := by rw [← hsz]; exact (old_cell hb03 hb57 0 rfl).2
  have f1 : w7.frozen? ⟨w.heap.size + 1, 1, none⟩ = false := by rw [← hsz]; exact (old_cell hb03 hb57 1 rfl).2
  have f2 : w7.frozen? ⟨w.heap.size + 1, 2, none⟩ = false := by rw [← hsz]; exact (old_cell hb03 hb57 2 rfl).2
  have f3 : w7.frozen? ⟨w.heap.size + 1, 3, none⟩ = false := by rw [← hsz]; exact (old_cell hb03 hb57 3 rfl).2
  have f4 : w7.frozen? ⟨w.heap.size + 1, 4, none⟩ = false := by rw [← hsz]; exact (old_cell hb03 hb57 4 rfl).2
  have hb7w : Below w.heap.size w w7 := hb6w.trans (hb7.mono sb6)
  clear r0 r1 r2 r3 r4 r5 k1 k2 hb5 hb6 hb7 hb56 hb57 hb03 hb3w hsz
  go_wp2
  refine bodyPost_ret (v := .tuple #[.agg #[.int .i64 3, .int .i64 v, .string ⟨#[]⟩, .slice none 0 0, .slice none 0 0], .int .i64 0]) ?_ rfl ⟨rfl, ((((hb7w.setCell hle1 _).setCell hle1 _).setCell hle1 _).setCell hle1 _).setCell hle1 _⟩
  simp [results, Tryd.results8, go_sem, *]
end Go.Proofs.YtinaecmpigenoaaDoor
/-
  Package monoid: what the kinds tell, but the sum.
-/
namespace Go.Proofs.YtinaecmpigenoaaDoor
open Go.RowKit
attribute [local go_sem ↓] Go.wp_at_zero Go.wp_at_succ

/-- Five cells of a variable of one's own. -/
def Five (w : World) (g : Nat) (a b c d e : Value) : Prop :=
    (w.cell? ⟨g, 0, none⟩ = some a ∧ w.cell? ⟨g, 1, none⟩ = some b ∧ w.cell? ⟨g, 2, none⟩ = some c ∧ w.cell? ⟨g, 3, none⟩ = some d ∧ w.cell? ⟨g, 4, none⟩ = some e) ∧
    (w.frozen? ⟨g, 0, none⟩ = false ∧ w.frozen? ⟨g, 1, none⟩ = false ∧ w.frozen? ⟨g, 2, none⟩ = false ∧ w.frozen? ⟨g, 3, none⟩ = false ∧ w.frozen? ⟨g, 4, none⟩ = false)
theorem Five.alloc {w : World} {g : Nat} {a b c d e : Value} (o : Obj) (h : Five w g a b c d e) : Five (w.alloc o) g a b c d e := by
  obtain ⟨⟨r0, r1, r2, r3, r4⟩, f0, f1, f2, f3, f4⟩ := h
  exact ⟨⟨cell_keep r0 o, cell_keep r1 o, cell_keep r2 o, cell_keep r3 o, cell_keep r4 o⟩, (frozen_keep r0 o).trans f0, (frozen_keep r1 o).trans f1, (frozen_keep r2 o).trans f2, (frozen_keep r3 o).trans f3, (frozen_keep r4 o).trans f4⟩
theorem Five.below {w w1 : World} {g B : Nat} {a b c d e : Value} (h : Five w g a b c d e) (hb : Below B w w1) (hB : B = w.heap.size) : Five w1 g a b c d e := by
  subst hB
  obtain ⟨⟨r0, r1, r2, r3, r4⟩, f0, f1, f2, f3, f4⟩ := h
  exact ⟨⟨mkept_later hb r0, mkept_later hb r1, mkept_later hb r2, mkept_later hb r3, mkept_later hb r4⟩, (hb.frozen (World.block_lt_of_cell? w _ r0)).trans f0, (hb.frozen (World.block_lt_of_cell? w _ r1)).trans f1, (hb.frozen (World.block_lt_of_cell? w _ r2)).trans f2, (hb.frozen (World.block_lt_of_cell? w _ r3)).trans f3, (hb.frozen (World.block_lt_of_cell? w _ r4)).trans f4⟩
theorem Five.new (w : World) (a b c d e : Value) (t : TypeId) (g : Nat) (hg : w.heap.size = g) : Five (w.alloc (.cells #[a, b, c, d, e] t)) g a b c d e := by
  subst hg
  have hb := Below.refl (w.alloc (.cells #[a, b, c, d, e] t)).heap.size (w.alloc (.cells #[a, b, c, d, e] t))
  exact ⟨⟨mnew_later hb 0 rfl, mnew_later hb 1 rfl, mnew_later hb 2 rfl, mnew_later hb 3 rfl, mnew_later hb 4 rfl⟩, new_frozen hb 0, new_frozen hb 1, new_frozen hb 2, new_frozen hb 3, new_frozen hb 4⟩
theorem below_set5 {B g : Nat} {w w1 : World} {a b c d e : Value} (h : Below B w w1) (hg : B ≤ g) : Below B w (((((w1.setCell ⟨g, 0, none⟩ a).setCell ⟨g, 1, none⟩ b).setCell ⟨g, 2, none⟩ c).setCell ⟨g, 3, none⟩ d).setCell ⟨g, 4, none⟩ e) :=
  ((((h.setCell hg a).setCell hg b).setCell hg c).setCell hg d).setCell hg e
theorem red_box (w : World) (c i v le mo : Int) : Below w.heap.size w ((w.alloc (.cells #[.int .i64 c, .int .i64 i, .int .i64 (hiI v), .int .u64 (loI v), .int .i64 le, .int .i64 mo] 30)).alloc (.cells #[.int .i64 0, .int .i64 0, .string ⟨#[]⟩, .slice none 0 0, .slice none 0 0] 39)) ∧ Five ((w.alloc (.cells #[.int .i64 c, .int .i64 i, .int .i64 (hiI v), .int .u64 (loI v), .int .i64 le, .int .i64 mo] 30)).alloc (.cells #[.int .i64 0, .int .i64 0, .string ⟨#[]⟩, .slice none 0 0, .slice none 0 0] 39)) (w.heap.size + 1) (.int .i64 0) (.int .i64 0) (.string ⟨#[]⟩) (.slice none 0 0) (.slice none 0 0) :=
  ⟨((Below.refl _ _).alloc (Nat.le_refl _) _).alloc (by simp) _, Five.new _ _ _ _ _ _ _ _ (by simp)⟩

/-- What there is of no number: null. -/
def extV (i n : Int) : Value := if i = 0 then .agg #[.int .i64 1, .int .i64 0, .string ⟨#[]⟩, .slice none 0 0, .slice none 0 0] else numV n
theorem extV_none (n : Int) : extV 0 n = .agg #[.int .i64 1, .int .i64 0, .string ⟨#[]⟩, .slice none 0 0, .slice none 0 0] := by unfold extV; rw [if_pos rfl]
theorem extV_some (i n : Int) (h : i ≠ 0) : extV i n = .agg #[.int .i64 3, .int .i64 n, .string ⟨#[]⟩, .slice none 0 0, .slice none 0 0] := by unfold extV; rw [if_neg h]; rfl
set_option maxRecDepth 20000 in
set_option maxHeartbeats 1000000 in
theorem extreme_any (c i v le mo n : Int) (w : World) : Calls Tryd.prog 30 #[.agg #[.int .i64 c, .int .i64 i, .int .i64 (hiI v), .int .u64 (loI v), .int .i64 le, .int .i64 mo], .int .i64 n] w fun e w' => e = .returned (extV i n) ∧ Below w.heap.size w w' := by
  obtain ⟨hb0, h5⟩ := red_box w c i v le mo
  have H5 := Lib.hid h5
  have hle1 : w.heap.size ≤ w.heap.size + 1 := Nat.le_succ _
  by_cases hi : i = 0
  · have Hr := Lib.hid (show extV i n = .agg #[.int .i64 1, .int .i64 0, .string ⟨#[]⟩, .slice none 0 0, .slice none 0 0] by rw [hi]; exact extV_none n)
    have hz : (i == 0) = true := by rw [hi]; rfl
    obtain ⟨⟨d0, d1, d2, d3, d4⟩, f0, f1, f2, f3, f4⟩ := h5
    clear hi
    go_enter Tryd.func30, Tryd.ntmps30
    go_wp2
    refine bodyPost_ret (v := .agg #[.int .i64 1, .int .i64 0, .string ⟨#[]⟩, .slice none 0 0, .slice none 0 0]) ?_ rfl ⟨by rw [Hr.out], ?_⟩
    · simp [results, Tryd.results30, go_sem, *]
    · exact ((Below.refl _ _).alloc (Nat.le_refl _) _).alloc (by simp) _
  · have Hr := Lib.hid (extV_some i n hi)
    have hz : (i == 0) = false := by rw [beq_eq_false_iff_ne]; exact hi
    have hn := number_any n
    clear hi h5
    go_enter Tryd.func30, Tryd.ntmps30
    go_wp2_with fail
    refine (hn _).mono ?_
    rintro e w1 ⟨rfl, hb1⟩
    obtain ⟨⟨d0, d1, d2, d3, d4⟩, f0, f1, f2, f3, f4⟩ := H5.out.below hb1 rfl
    have hb2 := hb0.trans (hb1.mono hb0.size)
    clear hb0 hb1 hn
    unfold numV
    go_wp2
    refine bodyPost_ret (v := .agg #[.int .i64 3, .int .i64 n, .string ⟨#[]⟩, .slice none 0 0, .slice none 0 0]) ?_ rfl ⟨by rw [Hr.out], below_set5 hb2 hle1⟩
    simp [results, Tryd.results30, go_sem, *]
set_option maxRecDepth 20000 in
set_option maxHeartbeats 1000000 in
theorem tellCount_any (c i v le mo : Int) (w : World) : Calls Tryd.prog 26 #[.agg #[.int .i64 c, .int .i64 i, .int .i64 (hiI v), .int .u64 (loI v), .int .i64 le, .int .i64 mo]] w fun e w' => e = .returned (numV c) ∧ Below w.heap.size w w' := by
  obtain ⟨hb0, h5⟩ := red_box w c i v le mo
  have H5 := Lib.hid h5
  have hle1 : w.heap.size ≤ w.heap.size + 1 := Nat.le_succ _
  have hn := number_any c
  clear h5
  go_enter Tryd.func26, Tryd.ntmps26
  go_wp2_with fail
  refine (hn _).mono ?_
  rintro e w1 ⟨rfl, hb1⟩
  obtain ⟨⟨d0, d1, d2, d3, d4⟩, f0, f1, f2, f3, f4⟩ := H5.out.below hb1 rfl
  have hb2 := hb0.trans (hb1.mono hb0.size)
  clear hb0 hb1 hn
  unfold numV
  go_wp2
  refine bodyPost_ret (v := .agg #[.int .i64 3, .int .i64 c, .string ⟨#[]⟩, .slice none 0 0, .slice none 0 0]) ?_ rfl ⟨rfl, below_set5 hb2 hle1⟩
  simp [results, Tryd.results26, go_sem, *]
set_option maxRecDepth 20000 in
set_option maxHeartbeats 1000000 in
theorem tellLeast_any (c i v le mo : Int) (w : World) : Calls Tryd.prog 29 #[.agg #[.int .i64 c, .int .i64 i, .int .i64 (hiI v), .int .u64 (loI v), .int .i64 le, .int .i64 mo]] w fun e w' => e = .returned (extV i le) ∧ Below w.heap.size w w' := by
  obtain ⟨hb0, h5⟩ := red_box w c i v le mo
  have H5 := Lib.hid h5
  have hle1 : w.heap.size ≤ w.heap.size + 1 := Nat.le_succ _
  have hn := extreme_any c i v le mo le
  obtain ⟨k, x, Hx⟩ : ∃ k x : Int, Hid (extV i le = .agg #[.int .i64 k, .int .i64 x, .string ⟨#[]⟩, .slice none 0 0, .slice none 0 0]) := by
    by_cases hi : i = 0
    · exact ⟨1, 0, Lib.hid (by rw [hi]; exact extV_none _)⟩
    · exact ⟨3, le, Lib.hid (extV_some i _ hi)⟩
  rw [Hx.out] at hn ⊢
  clear h5
  go_enter Tryd.func29, Tryd.ntmps29
  go_wp2_with fail
  refine (hn _).mono ?_
  rintro e w1 ⟨rfl, hb1⟩
  obtain ⟨⟨d0, d1, d2, d3, d4⟩, f0, f1, f2, f3, f4⟩ := H5.out.below hb1 rfl
  have hb2 := hb0.trans (hb1.mono hb0.size)
  clear hb0 hb1 hn
  go_wp2
  refine bodyPost_ret (v := .agg #[.int .i64 k, .int .i64 x, .string ⟨#[]⟩, .slice none 0 0, .slice none 0 0]) ?_ rfl ⟨rfl, below_set5 hb2 hle1⟩
  simp [results, Tryd.results29, go_sem, *]
set_option maxRecDepth 20000 in
set_option maxHeartbeats 1000000 in
theorem tellMost_any (c i v le mo : Int) (w : World) : Calls Tryd.prog 31 #[.agg #[.int .i64 c, .int .i64 i, .int .i64 (hiI v), .int .u64 (loI v), .int .i64 le, .int .i64 mo]] w fun e w' => e = .returned (extV i mo) ∧ Below w.heap.size w w' := by
  obtain ⟨hb0, h5⟩ := red_box w c i v le mo
  have H5 := Lib.hid h5
  have hle1 : w.heap.size ≤ w.heap.size + 1 := Nat.le_succ _
  have hn := extreme_any c i v le mo mo
  obtain ⟨k, x, Hx⟩ : ∃ k x : Int, Hid (extV i mo = .agg #[.int .i64 k, .int .i64 x, .string ⟨#[]⟩, .slice none 0 0, .slice none 0 0]) := by
    by_cases hi : i = 0
    · exact ⟨1, 0, Lib.hid (by rw [hi]; exact extV_none _)⟩
    · exact ⟨3, mo, Lib.hid (extV_some i _ hi)⟩
  rw [Hx.out] at hn ⊢
  clear h5
  go_enter Tryd.func31, Tryd.ntmps31
  go_wp2_with fail
  refine (hn _).mono ?_
  rintro e w1 ⟨rfl, hb1⟩
  obtain ⟨⟨d0, d1, d2, d3, d4⟩, f0, f1, f2, f3, f4⟩ := H5.out.below hb1 rfl
  have hb2 := hb0.trans (hb1.mono hb0.size)
  clear hb0 hb1 hn
  go_wp2
  refine bodyPost_ret (v := .agg #[.int .i64 k, .int .i64 x, .string ⟨#[]⟩, .slice none 0 0, .slice none 0 0]) ?_ rfl ⟨rfl, below_set5 hb2 hle1⟩
  simp [results, Tryd.results31, go_sem, *]
end Go.Proofs.YtinaecmpigenoaaDoor
/-
  Package monoid: Tell, but of the sum and of all.
-/
namespace Go.Proofs.YtinaecmpigenoaaDoor
open Go.RowKit
attribute [local go_sem ↓] Go.wp_at_zero Go.wp_at_succ

set_option maxRecDepth 20000 in
set_option maxHeartbeats 2000000 in
theorem tell_1 (c i v le mo : Int) (w : World) (hv : R128 v) (hle : R64 le) (hmo : R64 mo) (hval : validB c i v le mo = true) :
    Calls Tryd.prog 8 #[.int .i64 1, .agg #[.int .i64 c, .int .i64 i, .int .i64 (hiI v), .int .u64 (loI v), .int .i64 le, .int .i64 mo]] w fun e w' => e = .returned (.tuple #[numV c, .int .i64 0]) ∧ Below w.heap.size w w' := by
  have hc := fun W => mvalid_any c i v le mo W hv hle hmo
  unfold redV at hc
  rw [hval] at hc
  obtain ⟨x0, b0, Hsm⟩ : ∃ (x0 : Int) (b0 : Bool), Hid (smallV v = .tuple #[.int .i64 x0, .bool b0]) := ⟨_, _, Lib.hid rfl⟩
  have htl := fun W => tellCount_any c i v le mo W
  obtain ⟨k, x, Hx⟩ : ∃ k x : Int, Hid (numV c = .agg #[.int .i64 k, .int .i64 x, .string ⟨#[]⟩, .slice none 0 0, .slice none 0 0]) := ⟨3, c, Lib.hid rfl⟩
  rw [Hx.out] at htl ⊢
  have Htl := Lib.hid htl
  have Hc := Lib.hid hc
  obtain ⟨hbw, h5⟩ := red_box w c i v le mo
  have H5 := Lib.hid h5
  have hle1 : w.heap.size ≤ w.heap.size + 1 := Nat.le_succ _
  clear hval hc htl h5
  go_enter Tryd.func8, Tryd.ntmps8
  go_wp2_with fail
  refine (Hc.out _).mono ?_
  rintro e w1 ⟨rfl, hb1⟩
  go_wp2_with fail
  refine (known_any 1 _).mono ?_
  rintro e w2 ⟨rfl, hb2⟩
  rw [show knownB 1 = true by decide]
  go_wp2_with fail
  refine (kinds_any _).mono ?_
  rintro e w3 ⟨rfl, hb3⟩
  have ik := kinds_at1 w3
  have hb03 := (hb1.trans (hb2.mono hb1.size)).trans (hb3.mono (Nat.le_trans hb1.size hb2.size))
  have hb3w : Below w.heap.size w w3 := hbw.trans (hb03.mono hbw.size)
  have hs4 : Six (w3.alloc (.cells #[.string ⟨#[95, 99, 111, 117, 110, 116]⟩, .bool false, .func (.func 26) #[] #[]] 59)) w.heap.size (.int .i64 c) (.int .i64 i) (.int .i64 (hiI v)) (.int .u64 (loI v)) (.int .i64 le) (.int .i64 mo) := (((Six.new w _ _ _ _ _ _ _).alloc _).below hb03 rfl).alloc _
  have H54 := Lib.hid ((H5.out.below hb03 rfl).alloc (.cells #[.string ⟨#[95, 99, 111, 117, 110, 116]⟩, .bool false, .func (.func 26) #[] #[]] 59))
  have Hs4 := Lib.hid hs4
  obtain ⟨⟨r0, r1, r2, r3, r4, r5⟩, -⟩ := hs4
  clear hbw hb1 hb2 hb3 H5
  go_wp2_with fail
  refine (total_agg c i v le mo _).mono ?_
  rintro e w5 ⟨rfl, hb5⟩
  go_wp2_with fail
  refine (small_any v _ hv).mono ?_
  rintro e w6 ⟨rfl, hb6⟩
  rw [Hsm.out]
  have hb56 := hb5.trans (hb6.mono hb5.size)
  have k1 : w6.cell? ⟨w3.heap.size, 1, none⟩ = some (.bool false) := mnew_later hb56 1 rfl
  have k2 : w6.cell? ⟨w3.heap.size, 2, none⟩ = some (.func (.func 26) #[] #[]) := mnew_later hb56 2 rfl
  have hs6 := Hs4.out.below hb56 rfl
  have H56 := Lib.hid (H54.out.below hb56 rfl)
  clear r0 r1 r2 r3 r4 r5 ik H54
  obtain ⟨⟨r0, r1, r2, r3, r4, r5⟩, -⟩ := hs6
  have hb6w : Below w.heap.size w w6 := (hb3w.alloc hb3w.size _).trans (hb56.mono (by simp; have := hb3w.size; omega))
  have sb6 := hb6w.size
  go_wp2_with fail
  refine (Htl.out _).mono ?_
  rintro e w7 ⟨rfl, hb7⟩
  obtain ⟨⟨e0, e1, e2, e3, e4⟩, f0, f1, f2, f3, f4⟩ := H56.out.below hb7 rfl
  have hb7w : Below w.heap.size w w7 := hb6w.trans (hb7.mono sb6)
  clear r0 r1 r2 r3 r4 r5 k1 k2 hb5 hb6 hb7 hb56 hb03 hb3w
  go_wp2
  refine bodyPost_ret (v := .tuple #[.agg #[.int .i64 k, .int .i64 x, .string ⟨#[]⟩, .slice none 0 0, .slice none 0 0], .int .i64 0]) ?_ rfl ⟨rfl, below_set5 hb7w hle1⟩
  simp [results, Tryd.results8, go_sem, *]
set_option maxRecDepth 20000 in
set_option maxHeartbeats 2000000 in
theorem tell_3 (c i v le mo : Int) (w : World) (hv : R128 v) (hle : R64 le) (hmo : R64 mo) (hval : validB c i v le mo = true) :
    Calls Tryd.prog 8 #[.int .i64 3, .agg #[.int .i64 c, .int .i64 i, .int .i64 (hiI v), .int .u64 (loI v), .int .i64 le, .int .i64 mo]] w fun e w' => e = .returned (.tuple #[extV i le, .int .i64 0]) ∧ Below w.heap.size w w' := by
  have hc := fun W => mvalid_any c i v le mo W hv hle hmo
  unfold redV at hc
  rw [hval] at hc
  obtain ⟨x0, b0, Hsm⟩ : ∃ (x0 : Int) (b0 : Bool), Hid (smallV v = .tuple #[.int .i64 x0, .bool b0]) := ⟨_, _, Lib.hid rfl⟩
  have htl := fun W => tellLeast_any c i v le mo W
  obtain ⟨k, x, Hx⟩ : ∃ k x : Int, Hid (extV i le = .agg #[.int .i64 k, .int .i64 x, .string ⟨#[]⟩, .slice none 0 0, .slice none 0 0]) := by
    by_cases hi : i = 0
    · exact ⟨1, 0, Lib.hid (by rw [hi]; exact extV_none _)⟩
    · exact ⟨3, le, Lib.hid (extV_some i _ hi)⟩
  rw [Hx.out] at htl ⊢
  have Htl := Lib.hid htl
  have Hc := Lib.hid hc
  obtain ⟨hbw, h5⟩ := red_box w c i v le mo
  have H5 := Lib.hid h5
  have hle1 : w.heap.size ≤ w.heap.size + 1 := Nat.le_succ _
  clear hval hc htl h5
  go_enter Tryd.func8, Tryd.ntmps8
  go_wp2_with fail
  refine (Hc.out _).mono ?_
  rintro e w1 ⟨rfl, hb1⟩
  go_wp2_with fail
  refine (known_any 3 _).mono ?_
  rintro e w2 ⟨rfl, hb2⟩
  rw [show knownB 3 = true by decide]
  go_wp2_with fail
  refine (kinds_any _).mono ?_
  rintro e w3 ⟨rfl, hb3⟩
  have ik := kinds_at3 w3
  have hb03 := (hb1.trans (hb2.mono hb1.size)).trans (hb3.mono (Nat.le_trans hb1.size hb2.size))
  have hb3w : Below w.heap.size w w3 := hbw.trans (hb03.mono hbw.size)
  have hs4 : Six (w3.alloc (.cells #[.string ⟨#[95, 109, 105, 110]⟩, .bool false, .func (.func 29) #[] #[]] 59)) w.heap.size (.int .i64 c) (.int .i64 i) (.int .i64 (hiI v)) (.int .u64 (loI v)) (.int .i64 le) (.int .i64 mo) := (((Six.new w _ _ _ _ _ _ _).alloc _).below hb03 rfl).alloc _
  have H54 := Lib.hid ((H5.out.below hb03 rfl).alloc (.cells #[.string ⟨#[95, 109, 105, 110]⟩, .bool false, .func (.func 29) #[] #[]] 59))
  have Hs4 := Lib.hid hs4
  obtain ⟨⟨r0, r1, r2, r3, r4, r5⟩, -⟩ := hs4
  clear hbw hb1 hb2 hb3 H5
  go_wp2_with fail
  refine (total_agg c i v le mo _).mono ?_
  rintro e w5 ⟨rfl, hb5⟩
  go_wp2_with fail
  refine (small_any v _ hv).mono ?_
  rintro e w6 ⟨rfl, hb6⟩
  rw [Hsm.out]
  have hb56 := hb5.trans (hb6.mono hb5.size)
  have k1 : w6.cell? ⟨w3.heap.size, 1, none⟩ = some (.bool false) := mnew_later hb56 1 rfl
  have k2 : w6.cell? ⟨w3.heap.size, 2, none⟩ = some (.func (.func 29) #[] #[]) := mnew_later hb56 2 rfl
  have hs6 := Hs4.out.below hb56 rfl
  have H56 := Lib.hid (H54.out.below hb56 rfl)
  clear r0 r1 r2 r3 r4 r5 ik H54
  obtain ⟨⟨r0, r1, r2, r3, r4, r5⟩, -⟩ := hs6
  have hb6w : Below w.heap.size w w6 := (hb3w.alloc hb3w.size _).trans (hb56.mono (by simp; have := hb3w.size; omega))
  have sb6 := hb6w.size
  go_wp2_with fail
  refine (Htl.out _).mono ?_
  rintro e w7 ⟨rfl, hb7⟩
  obtain ⟨⟨e0, e1, e2, e3, e4⟩, f0, f1, f2, f3, f4⟩ := H56.out.below hb7 rfl
  have hb7w : Below w.heap.size w w7 := hb6w.trans (hb7.mono sb6)
  clear r0 r1 r2 r3 r4 r5 k1 k2 hb5 hb6 hb7 hb56 hb03 hb3w
  go_wp2
  refine bodyPost_ret (v := .tuple #[.agg #[.int .i64 k, .int .i64 x, .string ⟨#[]⟩, .slice none 0 0, .slice none 0 0], .int .i64 0]) ?_ rfl ⟨rfl, below_set5 hb7w hle1⟩
  simp [results, Tryd.results8, go_sem, *]
set_option maxRecDepth 20000 in
set_option maxHeartbeats 2000000 in
theorem tell_4 (c i v le mo : Int) (w : World) (hv : R128 v) (hle : R64 le) (hmo : R64 mo) (hval : validB c i v le mo = true) :
    Calls Tryd.prog 8 #[.int .i64 4, .agg #[.int .i64 c, .int .i64 i, .int .i64 (hiI v), .int .u64 (loI v), .int .i64 le, .int .i64 mo]] w fun e w' => e = .returned (.tuple #[extV i mo, .int .i64 0]) ∧ Below w.heap.size w w' := by
  have hc := fun W => mvalid_any c i v le mo W hv hle hmo
  unfold redV at hc
  rw [hval] at hc
  obtain ⟨x0, b0, Hsm⟩ : ∃ (x0 : Int) (b0 : Bool), Hid (smallV v = .tuple #[.int .i64 x0, .bool b0]) := ⟨_, _, Lib.hid rfl⟩
  have htl := fun W => tellMost_any c i v le mo W
  obtain ⟨k, x, Hx⟩ : ∃ k x : Int, Hid (extV i mo = .agg #[.int .i64 k, .int .i64 x, .string ⟨#[]⟩, .slice none 0 0, .slice none 0 0]) := by
    by_cases hi : i = 0
    · exact ⟨1, 0, Lib.hid (by rw [hi]; exact extV_none _)⟩
    · exact ⟨3, mo, Lib.hid (extV_some i _ hi)⟩
  rw [Hx.out] at htl ⊢
  have Htl := Lib.hid htl
  have Hc := Lib.hid hc
  obtain ⟨hbw, h5⟩ := red_box w c i v le mo
  have H5 := Lib.hid h5
  have hle1 : w.heap.size ≤ w.heap.size + 1 := Nat.le_succ _
  clear hval hc htl h5
  go_enter Tryd.func8, Tryd.ntmps8
  go_wp2_with fail
  refine (Hc.out _).mono ?_
  rintro e w1 ⟨rfl, hb1⟩
  go_wp2_with fail
  refine (known_any 4 _).mono ?_
  rintro e w2 ⟨rfl, hb2⟩
  rw [show knownB 4 = true by decide]
  go_wp2_with fail
  refine (kinds_any _).mono ?_
  rintro e w3 ⟨rfl, hb3⟩
  have ik := kinds_at4 w3
  have hb03 := (hb1.trans (hb2.mono hb1.size)).trans (hb3.mono (Nat.le_trans hb1.size hb2.size))
  have hb3w : Below w.heap.size w w3 := hbw.trans (hb03.mono hbw.size)
  have hs4 : Six (w3.alloc (.cells #[.string ⟨#[95, 109, 97, 120]⟩, .bool false, .func (.func 31) #[] #[]] 59)) w.heap.size (.int .i64 c) (.int .i64 i) (.int .i64 (hiI v)) (.int .u64 (loI v)) (.int .i64 le) (.int .i64 mo) := (((Six.new w _ _ _ _ _ _ _).alloc _).below hb03 rfl).alloc _
  have H54 := Lib.hid ((H5.out.below hb03 rfl).alloc (.cells #[.string ⟨#[95, 109, 97, 120]⟩, .bool false, .func (.func 31) #[] #[]] 59))
  have Hs4 := Lib.hid hs4
  obtain ⟨⟨r0, r1, r2, r3, r4, r5⟩, -⟩ := hs4
  clear hbw hb1 hb2 hb3 H5
  go_wp2_with fail
  refine (total_agg c i v le mo _).mono ?_
  rintro e w5 ⟨rfl, hb5⟩
  go_wp2_with fail
  refine (small_any v _ hv).mono ?_
  rintro e w6 ⟨rfl, hb6⟩
  rw [Hsm.out]
  have hb56 := hb5.trans (hb6.mono hb5.size)
  have k1 : w6.cell? ⟨w3.heap.size, 1, none⟩ = some (.bool false) := mnew_later hb56 1 rfl
  have k2 : w6.cell? ⟨w3.heap.size, 2, none⟩ = some (.func (.func 31) #[] #[]) := mnew_later hb56 2 rfl
  have hs6 := Hs4.out.below hb56 rfl
  have H56 := Lib.hid (H54.out.below hb56 rfl)
  clear r0 r1 r2 r3 r4 r5 ik H54
  obtain ⟨⟨r0, r1, r2, r3, r4, r5⟩, -⟩ := hs6
  have hb6w : Below w.heap.size w w6 := (hb3w.alloc hb3w.size _).trans (hb56.mono (by simp; have := hb3w.size; omega))
  have sb6 := hb6w.size
  go_wp2_with fail
  refine (Htl.out _).mono ?_
  rintro e w7 ⟨rfl, hb7⟩
  obtain ⟨⟨e0, e1, e2, e3, e4⟩, f0, f1, f2, f3, f4⟩ := H56.out.below hb7 rfl
  have hb7w : Below w.heap.size w w7 := hb6w.trans (hb7.mono sb6)
  clear r0 r1 r2 r3 r4 r5 k1 k2 hb5 hb6 hb7 hb56 hb03 hb3w
  go_wp2
  refine bodyPost_ret (v := .tuple #[.agg #[.int .i64 k, .int .i64 x, .string ⟨#[]⟩, .slice none 0 0, .slice none 0 0], .int .i64 0]) ?_ rfl ⟨rfl, below_set5 hb7w hle1⟩
  simp [results, Tryd.results8, go_sem, *]
set_option maxRecDepth 20000 in
set_option maxHeartbeats 2000000 in
theorem tell_bad (c i v le mo k : Int) (w : World) (hv : R128 v) (hle : R64 le) (hmo : R64 mo) (hval : validB c i v le mo = false) :
    Calls Tryd.prog 8 #[.int .i64 k, .agg #[.int .i64 c, .int .i64 i, .int .i64 (hiI v), .int .u64 (loI v), .int .i64 le, .int .i64 mo]] w fun e w' => e = .returned (.tuple #[.agg #[.int .i64 0, .int .i64 0, .string ⟨#[]⟩, .slice none 0 0, .slice none 0 0], .int .i64 230]) ∧ Below w.heap.size w w' := by
  have hc := fun W => mvalid_any c i v le mo W hv hle hmo
  unfold redV at hc
  rw [hval] at hc
  have Hc := Lib.hid hc
  obtain ⟨hbw, h5⟩ := red_box w c i v le mo
  have H5 := Lib.hid h5
  have hle1 : w.heap.size ≤ w.heap.size + 1 := Nat.le_succ _
  clear hval hc h5
  go_enter Tryd.func8, Tryd.ntmps8
  go_wp2_with fail
  refine (Hc.out _).mono ?_
  rintro e w1 ⟨rfl, hb1⟩
  obtain ⟨⟨e0, e1, e2, e3, e4⟩, f0, f1, f2, f3, f4⟩ := H5.out.below hb1 rfl
  have hb1w : Below w.heap.size w w1 := hbw.trans (hb1.mono hbw.size)
  clear hb1 hbw
  go_wp2
  refine bodyPost_ret (v := .tuple #[.agg #[.int .i64 0, .int .i64 0, .string ⟨#[]⟩, .slice none 0 0, .slice none 0 0], .int .i64 230]) ?_ rfl ⟨rfl, below_set5 hb1w hle1⟩
  simp [results, Tryd.results8, go_sem, *]
set_option maxRecDepth 20000 in
set_option maxHeartbeats 2000000 in
theorem tell_arg (c i v le mo k : Int) (w : World) (hv : R128 v) (hle : R64 le) (hmo : R64 mo) (hval : validB c i v le mo = true) (hk : knownB k = false) :
    Calls Tryd.prog 8 #[.int .i64 k, .agg #[.int .i64 c, .int .i64 i, .int .i64 (hiI v), .int .u64 (loI v), .int .i64 le, .int .i64 mo]] w fun e w' => e = .returned (.tuple #[.agg #[.int .i64 0, .int .i64 0, .string ⟨#[]⟩, .slice none 0 0, .slice none 0 0], .int .i64 2]) ∧ Below w.heap.size w w' := by
  have hc := fun W => mvalid_any c i v le mo W hv hle hmo
  unfold redV at hc
  rw [hval] at hc
  have Hc := Lib.hid hc
  have hkn := fun W => known_any k W
  rw [hk] at hkn
  have Hk := Lib.hid hkn
  obtain ⟨hbw, h5⟩ := red_box w c i v le mo
  have H5 := Lib.hid h5
  have hle1 : w.heap.size ≤ w.heap.size + 1 := Nat.le_succ _
  clear hval hc h5 hkn hk
  go_enter Tryd.func8, Tryd.ntmps8
  go_wp2_with fail
  refine (Hc.out _).mono ?_
  rintro e w1 ⟨rfl, hb1⟩
  go_wp2_with fail
  refine (Hk.out _).mono ?_
  rintro e w2 ⟨rfl, hb2⟩
  obtain ⟨⟨e0, e1, e2, e3, e4⟩, f0, f1, f2, f3, f4⟩ := (H5.out.below hb1 rfl).below hb2 rfl
  have hb1w : Below w.heap.size w w2 := hbw.trans ((hb1.trans (hb2.mono hb1.size)).mono hbw.size)
  clear hb1 hb2 hbw
  go_wp2
  refine bodyPost_ret (v := .tuple #[.agg #[.int .i64 0, .int .i64 0, .string ⟨#[]⟩, .slice none 0 0, .slice none 0 0], .int .i64 2]) ?_ rfl ⟨rfl, below_set5 hb1w hle1⟩
  simp [results, Tryd.results8, go_sem, *]
end Go.Proofs.YtinaecmpigenoaaDoor
/-
  Package monoid: stats.
-/
namespace Go.Proofs.YtinaecmpigenoaaDoor
open Go.RowKit
attribute [local go_sem ↓] Go.wp_at_zero Go.wp_at_succ

theorem five_at {B : Nat} {w w1 : World} {a b c d e : Value} {t : TypeId} (hb : Below B (w.alloc (.cells #[a, b, c, d, e] t)) w1) (hB : B = (w.alloc (.cells #[a, b, c, d, e] t)).heap.size) : Five w1 w.heap.size a b c d e := by
  subst hB
  exact (Five.new w a b c d e t _ rfl).below hb rfl
/-- The names of stats' parts. -/
def statKeys : List Value := [.string ⟨#[99, 111, 117, 110, 116]⟩, .string ⟨#[109, 97, 120]⟩, .string ⟨#[109, 105, 110]⟩, .string ⟨#[110, 117, 109, 98, 101, 114, 115]⟩, .string ⟨#[115, 117, 109]⟩]
/-- The parts of stats: count, greatest, least, numbers, sum. -/
def statKids (c k1 x1 k2 x2 i y : Int) : List Value := [.int .i64 3, .int .i64 c, .string ⟨#[]⟩, .slice none 0 0, .slice none 0 0, .int .i64 k1, .int .i64 x1, .string ⟨#[]⟩, .slice none 0 0, .slice none 0 0, .int .i64 k2, .int .i64 x2, .string ⟨#[]⟩, .slice none 0 0, .slice none 0 0, .int .i64 3, .int .i64 i, .string ⟨#[]⟩, .slice none 0 0, .slice none 0 0, .int .i64 3, .int .i64 y, .string ⟨#[]⟩, .slice none 0 0, .slice none 0 0]
theorem shows_lit (X : World) (C : Array Value) (t : TypeId) (n size g : Nat) (hC : C.size = n * size) (hg : X.heap.size = g) : Shows (X.alloc (.cells C t)) (X.heap.size + 1) size (some ⟨g, 0, none⟩) n C.toList := by
  subst hg
  refine ⟨by simpa using hC, fun _ => ⟨X.heap.size, 0, rfl, by omega, fun j u hu => ?_⟩⟩
  rw [Nat.zero_add]
  refine (World.cell?_alloc_new X C t j).trans ?_
  simpa using hu
theorem Shows.far {w : World} {B size n b off : Nat} {xs : List Value} (h : Shows w B size (some ⟨b, off, none⟩) n xs) {p : Addr} (hp : p.block ≠ b) (u : Value) : Shows (w.setCell p u) B size (some ⟨b, off, none⟩) n xs := by
  refine ⟨h.1, fun hn => ?_⟩
  obtain ⟨b', off', e, hb, hc⟩ := h.2 hn
  injection e with e
  injection e with e1 e2
  subst e1 e2
  exact ⟨b, off, rfl, hb, fun j u' hu => (World.cell?_setCell_other w p _ u (fun e => hp (by rw [e]))).trans (hc j u' hu)⟩
theorem Shows.far5 {w : World} {B size n b off g : Nat} {xs : List Value} (h : Shows w B size (some ⟨b, off, none⟩) n xs) (hp : g ≠ b) (u0 u1 u2 u3 u4 : Value) :
    Shows (((((w.setCell ⟨g, 0, none⟩ u0).setCell ⟨g, 1, none⟩ u1).setCell ⟨g, 2, none⟩ u2).setCell ⟨g, 3, none⟩ u3).setCell ⟨g, 4, none⟩ u4) B size (some ⟨b, off, none⟩) n xs :=
  ((((h.far (p := ⟨g, 0, none⟩) hp u0).far (p := ⟨g, 1, none⟩) hp u1).far (p := ⟨g, 2, none⟩) hp u2).far (p := ⟨g, 3, none⟩) hp u3).far (p := ⟨g, 4, none⟩) hp u4
theorem five_shows {w : World} {g : Nat} {a b c d e : Value} (h : Five w g a b c d e) : Shows w w.heap.size 1 (some ⟨g, 0, none⟩) 5 [a, b, c, d, e] := by
  obtain ⟨⟨r0, r1, r2, r3, r4⟩, -⟩ := h
  refine ⟨rfl, fun _ => ⟨g, 0, rfl, World.block_lt_of_cell? w _ r0, fun j u hu => ?_⟩⟩
  match j, hu with
  | 0, hu => simp at hu; subst hu; exact r0
  | 1, hu => simp at hu; subst hu; exact r1
  | 2, hu => simp at hu; subst hu; exact r2
  | 3, hu => simp at hu; subst hu; exact r3
  | 4, hu => simp at hu; subst hu; exact r4
  | j + 5, hu => simp at hu
theorem T_alloc {W0 w1 : World} {g : Nat} {o : Obj} (hg : g ≤ W0.heap.size) (h : Below g W0 w1) : Below g W0 (w1.alloc o) := h.alloc (Nat.le_trans hg h.size) _
theorem T_call {W0 w1 w2 : World} {B g : Nat} (hg : g ≤ W0.heap.size) (hb : Below B w1 w2) (h : Below g W0 w1) (hB : B = w1.heap.size) : Below g W0 w2 := h.trans (hb.mono (by rw [hB]; exact Nat.le_trans hg h.size))
/-- What stats hands back: an object of five parts. -/
def StatsP (w : World) (c k1 x1 k2 x2 i y : Int) (e : Ending) (w' : World) : Prop :=
  ∃ gk gs, e = .returned (.agg #[.int .i64 6, .int .i64 0, .string ⟨#[]⟩, .slice (some ⟨gk, 0, none⟩) 5 5, .slice (some ⟨gs, 0, none⟩) 5 5]) ∧ Shows w' w'.heap.size 5 (some ⟨gk, 0, none⟩) 5 (statKids c k1 x1 k2 x2 i y) ∧ Shows w' w'.heap.size 1 (some ⟨gs, 0, none⟩) 5 statKeys ∧ Below w.heap.size w w' ∧ w.heap.size + 1 < gk ∧ w.heap.size + 1 < gs

theorem set5_size (w : World) (g : Nat) (u0 u1 u2 u3 u4 : Value) : (((((w.setCell ⟨g, 0, none⟩ u0).setCell ⟨g, 1, none⟩ u1).setCell ⟨g, 2, none⟩ u2).setCell ⟨g, 3, none⟩ u3).setCell ⟨g, 4, none⟩ u4).heap.size = w.heap.size := by
  rw [size_set, size_set, size_set, size_set, size_set]
theorem stats_p1 {w W1 X : World} {gs gk : Nat} (c k1 x1 k2 x2 i y : Int) (t : TypeId) (hb : Below w.heap.size w W1) (hX : Below W1.heap.size W1 X) (hz : w.heap.size + 2 ≤ W1.heap.size) (kk : Five X gs (.string ⟨#[99, 111, 117, 110, 116]⟩) (.string ⟨#[109, 97, 120]⟩) (.string ⟨#[109, 105, 110]⟩) (.string ⟨#[110, 117, 109, 98, 101, 114, 115]⟩) (.string ⟨#[115, 117, 109]⟩)) (hgs : w.heap.size + 1 < gs) (hgk : X.heap.size = gk) :
    StatsP w c k1 x1 k2 x2 i y (.returned (.agg #[.int .i64 6, .int .i64 0, .string ⟨#[]⟩, .slice (some ⟨gk, 0, none⟩) 5 5, .slice (some ⟨gs, 0, none⟩) 5 5]))
      ((((((X.alloc (.cells #[.int .i64 3, .int .i64 c, .string ⟨#[]⟩, .slice none 0 0, .slice none 0 0, .int .i64 k1, .int .i64 x1, .string ⟨#[]⟩, .slice none 0 0, .slice none 0 0, .int .i64 k2, .int .i64 x2, .string ⟨#[]⟩, .slice none 0 0, .slice none 0 0, .int .i64 3, .int .i64 i, .string ⟨#[]⟩, .slice none 0 0, .slice none 0 0, .int .i64 3, .int .i64 y, .string ⟨#[]⟩, .slice none 0 0, .slice none 0 0] t)).setCell ⟨w.heap.size + 1, 0, none⟩ (.int .i64 6)).setCell ⟨w.heap.size + 1, 1, none⟩ (.int .i64 0)).setCell ⟨w.heap.size + 1, 2, none⟩ (.string ⟨#[]⟩)).setCell ⟨w.heap.size + 1, 3, none⟩ (.slice (some ⟨gk, 0, none⟩) 5 5)).setCell ⟨w.heap.size + 1, 4, none⟩ (.slice (some ⟨gs, 0, none⟩) 5 5)) := by
  have hs := hX.size
  have hbb := hb.trans (hX.mono hb.size)
  refine ⟨gk, gs, rfl, ?_, ?_, ?_, by omega, by omega⟩
  · refine Shows.far5 ?_ (by omega) _ _ _ _ _
    rw [set5_size]
    exact (shows_lit X #[.int .i64 3, .int .i64 c, .string ⟨#[]⟩, .slice none 0 0, .slice none 0 0, .int .i64 k1, .int .i64 x1, .string ⟨#[]⟩, .slice none 0 0, .slice none 0 0, .int .i64 k2, .int .i64 x2, .string ⟨#[]⟩, .slice none 0 0, .slice none 0 0, .int .i64 3, .int .i64 i, .string ⟨#[]⟩, .slice none 0 0, .slice none 0 0, .int .i64 3, .int .i64 y, .string ⟨#[]⟩, .slice none 0 0, .slice none 0 0] t 5 5 gk rfl hgk).more (by simp)
  · refine Shows.far5 ?_ (by omega) _ _ _ _ _
    rw [set5_size]
    exact ((five_shows kk).alloc (Nat.le_refl _) _).more (by simp)
  · exact below_set5 (hbb.alloc hbb.size _) (Nat.le_succ _)
theorem stats_p3 {w W1 X : World} {gs gk : Nat} (c k1 x1 k2 x2 i y : Int) (t t2 : TypeId) (hb : Below w.heap.size w W1) (hX : Below W1.heap.size W1 X) (hz : w.heap.size + 2 ≤ W1.heap.size) (hgk : X.heap.size = gk) (hgs : X.heap.size + 1 = gs) :
    StatsP w c k1 x1 k2 x2 i y (.returned (.agg #[.int .i64 6, .int .i64 0, .string ⟨#[]⟩, .slice (some ⟨gk, 0, none⟩) 5 5, .slice (some ⟨gs, 0, none⟩) 5 5]))
      (((((((X.alloc (.cells #[.int .i64 3, .int .i64 c, .string ⟨#[]⟩, .slice none 0 0, .slice none 0 0, .int .i64 k1, .int .i64 x1, .string ⟨#[]⟩, .slice none 0 0, .slice none 0 0, .int .i64 k2, .int .i64 x2, .string ⟨#[]⟩, .slice none 0 0, .slice none 0 0, .int .i64 3, .int .i64 i, .string ⟨#[]⟩, .slice none 0 0, .slice none 0 0, .int .i64 3, .int .i64 y, .string ⟨#[]⟩, .slice none 0 0, .slice none 0 0] t)).alloc (.cells #[.string ⟨#[99, 111, 117, 110, 116]⟩, .string ⟨#[109, 97, 120]⟩, .string ⟨#[109, 105, 110]⟩, .string ⟨#[110, 117, 109, 98, 101, 114, 115]⟩, .string ⟨#[115, 117, 109]⟩] t2)).setCell ⟨w.heap.size + 1, 0, none⟩ (.int .i64 6)).setCell ⟨w.heap.size + 1, 1, none⟩ (.int .i64 0)).setCell ⟨w.heap.size + 1, 2, none⟩ (.string ⟨#[]⟩)).setCell ⟨w.heap.size + 1, 3, none⟩ (.slice (some ⟨gk, 0, none⟩) 5 5)).setCell ⟨w.heap.size + 1, 4, none⟩ (.slice (some ⟨gs, 0, none⟩) 5 5)) := by
  have hs := hX.size
  have hbb := hb.trans (hX.mono hb.size)
  refine ⟨gk, gs, rfl, ?_, ?_, ?_, by omega, by omega⟩
  · refine Shows.far5 ?_ (by omega) _ _ _ _ _
    rw [set5_size]
    exact (((shows_lit X #[.int .i64 3, .int .i64 c, .string ⟨#[]⟩, .slice none 0 0, .slice none 0 0, .int .i64 k1, .int .i64 x1, .string ⟨#[]⟩, .slice none 0 0, .slice none 0 0, .int .i64 k2, .int .i64 x2, .string ⟨#[]⟩, .slice none 0 0, .slice none 0 0, .int .i64 3, .int .i64 i, .string ⟨#[]⟩, .slice none 0 0, .slice none 0 0, .int .i64 3, .int .i64 y, .string ⟨#[]⟩, .slice none 0 0, .slice none 0 0] t 5 5 gk rfl hgk).more (by simp)).alloc (Nat.le_refl _) _).more (by simp)
  · refine Shows.far5 ?_ (by omega) _ _ _ _ _
    rw [set5_size]
    exact (five_shows (Five.new (X.alloc (.cells #[.int .i64 3, .int .i64 c, .string ⟨#[]⟩, .slice none 0 0, .slice none 0 0, .int .i64 k1, .int .i64 x1, .string ⟨#[]⟩, .slice none 0 0, .slice none 0 0, .int .i64 k2, .int .i64 x2, .string ⟨#[]⟩, .slice none 0 0, .slice none 0 0, .int .i64 3, .int .i64 i, .string ⟨#[]⟩, .slice none 0 0, .slice none 0 0, .int .i64 3, .int .i64 y, .string ⟨#[]⟩, .slice none 0 0, .slice none 0 0] t)) (.string ⟨#[99, 111, 117, 110, 116]⟩) (.string ⟨#[109, 97, 120]⟩) (.string ⟨#[109, 105, 110]⟩) (.string ⟨#[110, 117, 109, 98, 101, 114, 115]⟩) (.string ⟨#[115, 117, 109]⟩) t2 gs (by simp; omega)))
  · exact below_set5 ((hbb.alloc hbb.size _).alloc (by simp; have := hbb.size; omega) _) (Nat.le_succ _)

set_option maxRecDepth 20000 in
set_option maxHeartbeats 8000000 in
theorem stats_any (c i v le mo k1 x1 k2 x2 y : Int) (w : World) (h1 : extV i mo = .agg #[.int .i64 k1, .int .i64 x1, .string ⟨#[]⟩, .slice none 0 0, .slice none 0 0]) (h2 : extV i le = .agg #[.int .i64 k2, .int .i64 x2, .string ⟨#[]⟩, .slice none 0 0, .slice none 0 0]) (hy : IntKind.i64.wrap (loI v) = y) :
    Calls Tryd.prog 32 #[.agg #[.int .i64 c, .int .i64 i, .int .i64 (hiI v), .int .u64 (loI v), .int .i64 le, .int .i64 mo]] w (StatsP w c k1 x1 k2 x2 i y) := by
  obtain ⟨hb0, h5⟩ := red_box w c i v le mo
  have e1 := fun W => extreme_any c i v le mo mo W
  have e2 := fun W => extreme_any c i v le mo le W
  rw [h1] at e1
  rw [h2] at e2
  have E1 := Lib.hid e1
  have E2 := Lib.hid e2
  have hn : ∀ (n : Int) (W : World), Calls Tryd.prog 27 #[.int .i64 n] W fun e w' => e = .returned (.agg #[.int .i64 3, .int .i64 n, .string ⟨#[]⟩, .slice none 0 0, .slice none 0 0]) ∧ Below W.heap.size W w' := fun n W => number_any n W
  have HN := Lib.hid hn
  have hsx := (Six.new w (.int .i64 c) (.int .i64 i) (.int .i64 (hiI v)) (.int .u64 (loI v)) (.int .i64 le) (.int .i64 mo) 30).alloc (.cells #[.int .i64 0, .int .i64 0, .string ⟨#[]⟩, .slice none 0 0, .slice none 0 0] 39)
  obtain ⟨W1, hW1⟩ : ∃ W1, (w.alloc (.cells #[.int .i64 c, .int .i64 i, .int .i64 (hiI v), .int .u64 (loI v), .int .i64 le, .int .i64 mo] 30)).alloc (.cells #[.int .i64 0, .int .i64 0, .string ⟨#[]⟩, .slice none 0 0, .slice none 0 0] 39) = W1 := ⟨_, rfl⟩
  rw [hW1] at hb0 h5 hsx
  have hz1 : w.heap.size + 2 ≤ W1.heap.size := by rw [← hW1]; simp
  have hle1 : w.heap.size ≤ w.heap.size + 1 := Nat.le_succ _
  have HW1 := Lib.hid hW1
  have HY := Lib.hid hy
  clear e1 e2 h1 h2 hn hW1 hy
  obtain ⟨⟨r0, r1, r2, r3, r4, r5⟩, -⟩ := hsx
  obtain ⟨⟨s0, s1, s2, s3, s4⟩, g0, g1, g2, g3, g4⟩ := h5
  have c0 : ∀ W, Below (w.heap.size + 1) W1 W → W.cell? ⟨w.heap.size, 0, none⟩ = some (.int .i64 c) := fun W h => (h.cell (p := ⟨w.heap.size, 0, none⟩) (Nat.lt_succ_self _)).trans r0
  have c1 : ∀ W, Below (w.heap.size + 1) W1 W → W.cell? ⟨w.heap.size, 1, none⟩ = some (.int .i64 i) := fun W h => (h.cell (p := ⟨w.heap.size, 1, none⟩) (Nat.lt_succ_self _)).trans r1
  have c2 : ∀ W, Below (w.heap.size + 1) W1 W → W.cell? ⟨w.heap.size, 2, none⟩ = some (.int .i64 (hiI v)) := fun W h => (h.cell (p := ⟨w.heap.size, 2, none⟩) (Nat.lt_succ_self _)).trans r2
  have c3 : ∀ W, Below (w.heap.size + 1) W1 W → W.cell? ⟨w.heap.size, 3, none⟩ = some (.int .u64 (loI v)) := fun W h => (h.cell (p := ⟨w.heap.size, 3, none⟩) (Nat.lt_succ_self _)).trans r3
  have c4 : ∀ W, Below (w.heap.size + 1) W1 W → W.cell? ⟨w.heap.size, 4, none⟩ = some (.int .i64 le) := fun W h => (h.cell (p := ⟨w.heap.size, 4, none⟩) (Nat.lt_succ_self _)).trans r4
  have c5 : ∀ W, Below (w.heap.size + 1) W1 W → W.cell? ⟨w.heap.size, 5, none⟩ = some (.int .i64 mo) := fun W h => (h.cell (p := ⟨w.heap.size, 5, none⟩) (Nat.lt_succ_self _)).trans r5
  have d0 : ∀ W, Below W1.heap.size W1 W → W.cell? ⟨w.heap.size + 1, 0, none⟩ = some (.int .i64 0) := fun W h => mkept_later h s0
  have d1 : ∀ W, Below W1.heap.size W1 W → W.cell? ⟨w.heap.size + 1, 1, none⟩ = some (.int .i64 0) := fun W h => mkept_later h s1
  have d2 : ∀ W, Below W1.heap.size W1 W → W.cell? ⟨w.heap.size + 1, 2, none⟩ = some (.string ⟨#[]⟩) := fun W h => mkept_later h s2
  have d3 : ∀ W, Below W1.heap.size W1 W → W.cell? ⟨w.heap.size + 1, 3, none⟩ = some (.slice none 0 0) := fun W h => mkept_later h s3
  have d4 : ∀ W, Below W1.heap.size W1 W → W.cell? ⟨w.heap.size + 1, 4, none⟩ = some (.slice none 0 0) := fun W h => mkept_later h s4
  have f0 : ∀ W, Below W1.heap.size W1 W → W.frozen? ⟨w.heap.size + 1, 0, none⟩ = false := fun W h => (h.frozen (p := ⟨w.heap.size + 1, 0, none⟩) (by show w.heap.size + 1 < _; omega)).trans g0
  have f1 : ∀ W, Below W1.heap.size W1 W → W.frozen? ⟨w.heap.size + 1, 1, none⟩ = false := fun W h => (h.frozen (p := ⟨w.heap.size + 1, 1, none⟩) (by show w.heap.size + 1 < _; omega)).trans g1
  have f2 : ∀ W, Below W1.heap.size W1 W → W.frozen? ⟨w.heap.size + 1, 2, none⟩ = false := fun W h => (h.frozen (p := ⟨w.heap.size + 1, 2, none⟩) (by show w.heap.size + 1 < _; omega)).trans g2
  have f3 : ∀ W, Below W1.heap.size W1 W → W.frozen? ⟨w.heap.size + 1, 3, none⟩ = false := fun W h => (h.frozen (p := ⟨w.heap.size + 1, 3, none⟩) (by show w.heap.size + 1 < _; omega)).trans g3
  have f4 : ∀ W, Below W1.heap.size W1 W → W.frozen? ⟨w.heap.size + 1, 4, none⟩ = false := fun W h => (h.frozen (p := ⟨w.heap.size + 1, 4, none⟩) (by show w.heap.size + 1 < _; omega)).trans g4
  clear r0 r1 r2 r3 r4 r5 s0 s1 s2 s3 s4 g0 g1 g2 g3 g4
  have hg1 : w.heap.size + 1 ≤ W1.heap.size := by omega
  have hS0 : Below W1.heap.size W1 W1.drew := (Below.refl _ _).drew
  have hS1 : ∀ o, Below W1.heap.size W1 (W1.alloc o).drew := fun o => ((Below.refl _ _).alloc (Nat.le_refl _) o).drew
  go_enter Tryd.func32, Tryd.ntmps32
  go_upto_region 1 with fail
  rw [HW1.out]
  clear HW1
  go_region_held3 (fun w' => Below (w.heap.size + 1) W1 w') (first | with_reducible assumption | with_reducible exact (Below.refl _ _).drew | with_reducible exact ((Below.refl _ _).alloc hg1 _).drew | ((with_reducible refine T_alloc hg1 ?_); with_reducible assumption) | ((with_reducible refine Below.mono (B := W1.heap.size) ?_ hg1); with_reducible assumption) | ((with_reducible refine below_set5 ?_ (Nat.le_refl _)); with_reducible assumption)) (first
    | (go_at_call 27; (with_reducible refine (HN.out _ _).mono ?_); rintro e wA ⟨rfl, hbA⟩; have hSA := mS_call (W0 := W1) hbA (by first | with_reducible assumption | with_reducible exact hS0 | with_reducible exact hS1 _ | ((with_reducible refine mS_alloc ?_); with_reducible assumption)) rfl; have hzA := hSA.size; have hSA1 := fun o => mS_alloc (o := o) hSA; have hSA2 := fun o o' => mS_alloc (o := o') (hSA1 o); (first | ((with_reducible have kk := Five.below kk hbA (by with_unfolding_all rfl)); obtain ⟨⟨q0, q1, q2, q3, q4⟩, -⟩ := id kk) | ((with_reducible have kk := five_at hbA (by with_unfolding_all rfl)); (try simp at kk); obtain ⟨⟨q0, q1, q2, q3, q4⟩, -⟩ := id kk) | ((with_reducible have kk := five_at (below_undrew hbA) (by with_unfolding_all rfl)); (try simp at kk); obtain ⟨⟨q0, q1, q2, q3, q4⟩, -⟩ := id kk) | skip))
    | (go_at_call 30; (with_reducible refine (E1.out _).mono ?_); rintro e wB ⟨rfl, hbB⟩; have hSB := mS_call (W0 := W1) hbB (by first | with_reducible assumption | with_reducible exact hS0 | with_reducible exact hS1 _ | ((with_reducible refine mS_alloc ?_); with_reducible assumption)) rfl; have hzB := hSB.size; have hSB1 := fun o => mS_alloc (o := o) hSB; have hSB2 := fun o o' => mS_alloc (o := o') (hSB1 o); (first | ((with_reducible have kk := Five.below kk hbB (by with_unfolding_all rfl)); obtain ⟨⟨q0, q1, q2, q3, q4⟩, -⟩ := id kk) | ((with_reducible have kk := five_at hbB (by with_unfolding_all rfl)); (try simp at kk); obtain ⟨⟨q0, q1, q2, q3, q4⟩, -⟩ := id kk) | ((with_reducible have kk := five_at (below_undrew hbB) (by with_unfolding_all rfl)); (try simp at kk); obtain ⟨⟨q0, q1, q2, q3, q4⟩, -⟩ := id kk) | skip))
    | (go_at_call 30; (with_reducible refine (E2.out _).mono ?_); rintro e wC ⟨rfl, hbC⟩; have hSC := mS_call (W0 := W1) hbC (by first | with_reducible assumption | with_reducible exact hS0 | with_reducible exact hS1 _ | ((with_reducible refine mS_alloc ?_); with_reducible assumption)) rfl; have hzC := hSC.size; have hSC1 := fun o => mS_alloc (o := o) hSC; have hSC2 := fun o o' => mS_alloc (o := o') (hSC1 o); (first | ((with_reducible have kk := Five.below kk hbC (by with_unfolding_all rfl)); obtain ⟨⟨q0, q1, q2, q3, q4⟩, -⟩ := id kk) | ((with_reducible have kk := five_at hbC (by with_unfolding_all rfl)); (try simp at kk); obtain ⟨⟨q0, q1, q2, q3, q4⟩, -⟩ := id kk) | ((with_reducible have kk := five_at (below_undrew hbC) (by with_unfolding_all rfl)); (try simp at kk); obtain ⟨⟨q0, q1, q2, q3, q4⟩, -⟩ := id kk) | skip)))
  all_goals
    go_wp2_with fail
    rw [HY.out]
    refine (fun v h p => bodyPost_ret (v := v) h rfl p) ?_ ?_ ?_
    rotate_left 1
    · simp [results, Tryd.results32, go_sem, *]
      rfl
    · first
        | with_reducible exact stats_p1 c k1 x1 k2 x2 i y _ hb0 hSA hz1 kk (by omega) rfl
        | with_reducible exact stats_p1 (X := wA.alloc _) c k1 x1 k2 x2 i y _ hb0 (hSA1 _) hz1 (Five.new _ _ _ _ _ _ _ _ (by with_unfolding_all rfl)) (by omega) (by simp)
        | with_reducible exact stats_p3 (X := wA) c k1 x1 k2 x2 i y _ _ hb0 hSA hz1 (by with_unfolding_all rfl) (by with_unfolding_all rfl)
end Go.Proofs.YtinaecmpigenoaaDoor
