/-
  Package monoid: Tell, of the sum.
-/
import Derived.Test.YtinaecmpigenoaaMonG
import Derived.Test.YtinaecmpigenoaaMonP
import Derived.Test.YtinaecmpigenoaaMonO
namespace Go.Proofs.Ytinaecmpigenoaa
open Go.RowKit
attribute [local go_sem ↓] Go.wp_at_zero Go.wp_at_succ

theorem old_cell {w0 w3 w6 : World} {o : Obj} {C : Array Value} {t : TypeId} (h1 : Below (w0.alloc (.cells C t)).heap.size (w0.alloc (.cells C t)) w3) (h2 : Below (w3.alloc o).heap.size (w3.alloc o) w6) (k : Nat) {v : Value} (hk : C[k]? = some v) : w6.cell? ⟨w0.heap.size, k, none⟩ = some v ∧ w6.frozen? ⟨w0.heap.size, k, none⟩ = false := by
  have h3 := new_later h1 k hk
  have h4 := cell_keep h3 o
  exact ⟨kept_later h2 h4, (h2.frozen (World.block_lt_of_cell? _ _ h4)).trans ((frozen_keep h3 o).trans (new_frozen h1 k))⟩
set_option maxRecDepth 20000 in
set_option maxHeartbeats 2000000 in
theorem tell_over (c i v le mo : Int) (w : World) (hv : R128 v) (hle : R64 le) (hmo : R64 mo) (hval : validB c i v le mo = true) (ho : ¬ v = IntKind.i64.wrap (loI v)) :
    Calls Try.prog 15 #[.int .i64 2, .agg #[.int .i64 c, .int .i64 i, .int .i64 (hiI v), .int .u64 (loI v), .int .i64 le, .int .i64 mo]] w fun e w' => e = .returned (.tuple #[.agg #[.int .i64 0, .int .i64 0, .string ⟨#[]⟩, .slice none 0 0, .slice none 0 0], .int .i64 5]) ∧ Below w.heap.size w w' := by
  have hc := fun W => valid_any c i v le mo W hv hle hmo
  unfold redV at hc
  rw [hval] at hc
  have hsm : smallV v = .tuple #[.int .i64 (IntKind.i64.wrap (loI v)), .bool false] := by unfold smallV; rw [decide_eq_false ho]
  have Hsm := Lib.hid hsm
  have Hc := Lib.hid hc
  clear hsm ho hval hc
  go_enter Try.func15, Try.ntmps15
  go_wp2_with fail
  refine (Hc.out _).mono ?_
  rintro e w1 ⟨rfl, hb1⟩
  go_wp2_with fail
  refine (known_any 2 _).mono ?_
  rintro e w2 ⟨rfl, hb2⟩
  rw [show knownB 2 = true by decide]
  go_wp2_with fail
  refine (kinds_any _).mono ?_
  rintro e w3 ⟨rfl, hb3⟩
  have i2 := kinds_at2 w3
  have hsz : (w.alloc (.cells #[.int .i64 c, .int .i64 i, .int .i64 (hiI v), .int .u64 (loI v), .int .i64 le, .int .i64 mo] 24)).heap.size = w.heap.size + 1 := by simp
  have hbw : Below w.heap.size w ((w.alloc (.cells #[.int .i64 c, .int .i64 i, .int .i64 (hiI v), .int .u64 (loI v), .int .i64 le, .int .i64 mo] 24)).alloc (.cells #[.int .i64 0, .int .i64 0, .string ⟨#[]⟩, .slice none 0 0, .slice none 0 0] 42)) := ((Below.refl _ _).alloc (Nat.le_refl _) _).alloc (by simp) _
  have hb03 := (hb1.trans (hb2.mono hb1.size)).trans (hb3.mono (Nat.le_trans hb1.size hb2.size))
  have hb3w : Below w.heap.size w w3 := hbw.trans (hb03.mono hbw.size)
  have hs4 : Six (w3.alloc (.cells #[.string ⟨#[95, 115, 117, 109]⟩, .bool true, .func (.func 45) #[] #[]] 80)) w.heap.size (.int .i64 c) (.int .i64 i) (.int .i64 (hiI v)) (.int .u64 (loI v)) (.int .i64 le) (.int .i64 mo) := (((Six.new w _ _ _ _ _ _ _).alloc _).below hb03 rfl).alloc _
  obtain ⟨⟨r0, r1, r2, r3, r4, r5⟩, -⟩ := hs4
  have hle1 : w.heap.size ≤ w.heap.size + 1 := Nat.le_succ _
  clear hbw hb1 hb2 hb3
  go_wp2_with fail
  refine (total_agg c i v le mo _).mono ?_
  rintro e w5 ⟨rfl, hb5⟩
  go_wp2_with fail
  refine (small_any v _ hv).mono ?_
  rintro e w6 ⟨rfl, hb6⟩
  rw [Hsm.out]
  have hb56 := hb5.trans (hb6.mono hb5.size)
  have k1 : w6.cell? ⟨w3.heap.size, 1, none⟩ = some (.bool true) := new_later hb56 1 rfl
  have e0 : w6.cell? ⟨w.heap.size + 1, 0, none⟩ = some (.int .i64 0) := by rw [← hsz]; exact (old_cell hb03 hb56 0 rfl).1
  have e1 : w6.cell? ⟨w.heap.size + 1, 1, none⟩ = some (.int .i64 0) := by rw [← hsz]; exact (old_cell hb03 hb56 1 rfl).1
  have e2 : w6.cell? ⟨w.heap.size + 1, 2, none⟩ = some (.string ⟨#[]⟩) := by rw [← hsz]; exact (old_cell hb03 hb56 2 rfl).1
  have e3 : w6.cell? ⟨w.heap.size + 1, 3, none⟩ = some (.slice none 0 0) := by rw [← hsz]; exact (old_cell hb03 hb56 3 rfl).1
  have e4 : w6.cell? ⟨w.heap.size + 1, 4, none⟩ = some (.slice none 0 0) := by rw [← hsz]; exact (old_cell hb03 hb56 4 rfl).1
  have f0 : w6.frozen? ⟨w.heap.size + 1, 0, none⟩ = false := by rw [← hsz]; exact (old_cell hb03 hb56 0 rfl).2
  have f1 : w6.frozen? ⟨w.heap.size + 1, 1, none⟩ = false := by rw [← hsz]; exact (old_cell hb03 hb56 1 rfl).2
  have f2 : w6.frozen? ⟨w.heap.size + 1, 2, none⟩ = false := by rw [← hsz]; exact (old_cell hb03 hb56 2 rfl).2
  have f3 : w6.frozen? ⟨w.heap.size + 1, 3, none⟩ = false := by rw [← hsz]; exact (old_cell hb03 hb56 3 rfl).2
  have f4 : w6.frozen? ⟨w.heap.size + 1, 4, none⟩ = false := by rw [← hsz]; exact (old_cell hb03 hb56 4 rfl).2
  have hb6w : Below w.heap.size w w6 := (hb3w.alloc hb3w.size _).trans (hb56.mono (by simp; have := hb3w.size; omega))
  clear r0 r1 r2 r3 r4 r5 hb5 hb6 hb56 hb03 hb3w hsz i2
  go_wp2
  refine bodyPost_ret (v := .tuple #[.agg #[.int .i64 0, .int .i64 0, .string ⟨#[]⟩, .slice none 0 0, .slice none 0 0], .int .i64 5]) ?_ rfl ⟨rfl, ((((hb6w.setCell hle1 _).setCell hle1 _).setCell hle1 _).setCell hle1 _).setCell hle1 _⟩
  simp [results, Try.results15, go_sem, *]

set_option maxRecDepth 20000 in
set_option maxHeartbeats 2000000 in
theorem tell_sum (c i v le mo : Int) (w : World) (hv : R128 v) (hle : R64 le) (hmo : R64 mo) (hval : validB c i v le mo = true) (ho : v = IntKind.i64.wrap (loI v)) :
    Calls Try.prog 15 #[.int .i64 2, .agg #[.int .i64 c, .int .i64 i, .int .i64 (hiI v), .int .u64 (loI v), .int .i64 le, .int .i64 mo]] w fun e w' => e = .returned (.tuple #[.agg #[.int .i64 3, .int .i64 v, .string ⟨#[]⟩, .slice none 0 0, .slice none 0 0], .int .i64 0]) ∧ Below w.heap.size w w' := by
  have hc := fun W => valid_any c i v le mo W hv hle hmo
  unfold redV at hc
  rw [hval] at hc
  have hsm : smallV v = .tuple #[.int .i64 (IntKind.i64.wrap (loI v)), .bool true] := by unfold smallV; rw [decide_eq_true ho]
  have htl := fun W => tellSum_any c i v le mo W
  unfold numV at htl
  rw [← ho] at htl hsm
  have Htl := Lib.hid htl
  have Hsm := Lib.hid hsm
  have Hc := Lib.hid hc
  clear hsm ho hval hc htl
  go_enter Try.func15, Try.ntmps15
  go_wp2_with fail
  refine (Hc.out _).mono ?_
  rintro e w1 ⟨rfl, hb1⟩
  go_wp2_with fail
  refine (known_any 2 _).mono ?_
  rintro e w2 ⟨rfl, hb2⟩
  rw [show knownB 2 = true by decide]
  go_wp2_with fail
  refine (kinds_any _).mono ?_
  rintro e w3 ⟨rfl, hb3⟩
  have i2 := kinds_at2 w3
  have hsz : (w.alloc (.cells #[.int .i64 c, .int .i64 i, .int .i64 (hiI v), .int .u64 (loI v), .int .i64 le, .int .i64 mo] 24)).heap.size = w.heap.size + 1 := by simp
  have hbw : Below w.heap.size w ((w.alloc (.cells #[.int .i64 c, .int .i64 i, .int .i64 (hiI v), .int .u64 (loI v), .int .i64 le, .int .i64 mo] 24)).alloc (.cells #[.int .i64 0, .int .i64 0, .string ⟨#[]⟩, .slice none 0 0, .slice none 0 0] 42)) := ((Below.refl _ _).alloc (Nat.le_refl _) _).alloc (by simp) _
  have hb03 := (hb1.trans (hb2.mono hb1.size)).trans (hb3.mono (Nat.le_trans hb1.size hb2.size))
  have hb3w : Below w.heap.size w w3 := hbw.trans (hb03.mono hbw.size)
  have hs4 : Six (w3.alloc (.cells #[.string ⟨#[95, 115, 117, 109]⟩, .bool true, .func (.func 45) #[] #[]] 80)) w.heap.size (.int .i64 c) (.int .i64 i) (.int .i64 (hiI v)) (.int .u64 (loI v)) (.int .i64 le) (.int .i64 mo) := (((Six.new w _ _ _ _ _ _ _).alloc _).below hb03 rfl).alloc _
  have Hs4 := Lib.hid hs4
  obtain ⟨⟨r0, r1, r2, r3, r4, r5⟩, -⟩ := hs4
  have hle1 : w.heap.size ≤ w.heap.size + 1 := Nat.le_succ _
  clear hbw hb1 hb2 hb3
  go_wp2_with fail
  refine (total_agg c i v le mo _).mono ?_
  rintro e w5 ⟨rfl, hb5⟩
  go_wp2_with fail
  refine (small_any v _ hv).mono ?_
  rintro e w6 ⟨rfl, hb6⟩
  rw [Hsm.out]
  have hb56 := hb5.trans (hb6.mono hb5.size)
  have k1 : w6.cell? ⟨w3.heap.size, 1, none⟩ = some (.bool true) := new_later hb56 1 rfl
  have k2 : w6.cell? ⟨w3.heap.size, 2, none⟩ = some (.func (.func 45) #[] #[]) := new_later hb56 2 rfl
  have hs6 := Hs4.out.below hb56 rfl
  clear r0 r1 r2 r3 r4 r5 i2
  obtain ⟨⟨r0, r1, r2, r3, r4, r5⟩, -⟩ := hs6
  have hb6w : Below w.heap.size w w6 := (hb3w.alloc hb3w.size _).trans (hb56.mono (by simp; have := hb3w.size; omega))
  have sb6 := hb6w.size
  go_wp2_with fail
  refine (Htl.out _).mono ?_
  rintro e w7 ⟨rfl, hb7⟩
  have hb57 := hb56.trans (hb7.mono hb56.size)
  have e0 : w7.cell? ⟨w.heap.size + 1, 0, none⟩ = some (.int .i64 0) := by rw [← hsz]; exact (old_cell hb03 hb57 0 rfl).1
  have e1 : w7.cell? ⟨w.heap.size + 1, 1, none⟩ = some (.int .i64 0) := by rw [← hsz]; exact (old_cell hb03 hb57 1 rfl).1
  have e2 : w7.cell? ⟨w.heap.size + 1, 2, none⟩ = some (.string ⟨#[]⟩) := by rw [← hsz]; exact (old_cell hb03 hb57 2 rfl).1
  have e3 : w7.cell? ⟨w.heap.size + 1, 3, none⟩ = some (.slice none 0 0) := by rw [← hsz]; exact (old_cell hb03 hb57 3 rfl).1
  have e4 : w7.cell? ⟨w.heap.size + 1, 4, none⟩ = some (.slice none 0 0) := by rw [← hsz]; exact (old_cell hb03 hb57 4 rfl).1
  have f0 : w7.frozen? ⟨w.heap.size + 1, 0, none⟩ = false := by rw [← hsz]; exact (old_cell hb03 hb57 0 rfl).2
  have f1 : w7.frozen? ⟨w.heap.size + 1, 1, none⟩ = false := by rw [← hsz]; exact (old_cell hb03 hb57 1 rfl).2
  have f2 : w7.frozen? ⟨w.heap.size + 1, 2, none⟩ = false := by rw [← hsz]; exact (old_cell hb03 hb57 2 rfl).2
  have f3 : w7.frozen? ⟨w.heap.size + 1, 3, none⟩ = false := by rw [← hsz]; exact (old_cell hb03 hb57 3 rfl).2
  have f4 : w7.frozen? ⟨w.heap.size + 1, 4, none⟩ = false := by rw [← hsz]; exact (old_cell hb03 hb57 4 rfl).2
  have hb7w : Below w.heap.size w w7 := hb6w.trans (hb7.mono sb6)
  clear r0 r1 r2 r3 r4 r5 k1 k2 hb5 hb6 hb7 hb56 hb57 hb03 hb3w hsz
  go_wp2
  refine bodyPost_ret (v := .tuple #[.agg #[.int .i64 3, .int .i64 v, .string ⟨#[]⟩, .slice none 0 0, .slice none 0 0], .int .i64 0]) ?_ rfl ⟨rfl, ((((hb7w.setCell hle1 _).setCell hle1 _).setCell hle1 _).setCell hle1 _).setCell hle1 _⟩
  simp [results, Try.results15, go_sem, *]
end Go.Proofs.Ytinaecmpigenoaa
