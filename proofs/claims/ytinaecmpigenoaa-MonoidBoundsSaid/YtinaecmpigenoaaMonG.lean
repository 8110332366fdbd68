/-
  Package monoid: Name, the sum's value, small.
-/
import Derived.Test.YtinaecmpigenoaaMonK
import Derived.Test.YtinaecmpigenoaaMonO
namespace Go.Proofs.Ytinaecmpigenoaa
open Go.RowKit
attribute [local go_sem ↓] Go.wp_at_zero Go.wp_at_succ

/-- The name of a kind. -/
def kindName (k : Int) : ByteArray := if k = 1 then ⟨#[95, 99, 111, 117, 110, 116]⟩ else if k = 2 then ⟨#[95, 115, 117, 109]⟩ else if k = 3 then ⟨#[95, 109, 105, 110]⟩ else if k = 4 then ⟨#[95, 109, 97, 120]⟩ else if k = 5 then ⟨#[95, 115, 116, 97, 116, 115]⟩ else ⟨#[]⟩
def nameE (k : Int) : Int := if knownB k = true then 0 else 2
theorem known_cases (k : Int) : (knownB k = true ∧ (k = 1 ∨ k = 2 ∨ k = 3 ∨ k = 4 ∨ k = 5)) ∨ (knownB k = false ∧ kindName k = ⟨#[]⟩) := by
  by_cases h : 1 ≤ k ∧ k ≤ 5
  · exact .inl ⟨decide_eq_true h, by omega⟩
  · refine .inr ⟨decide_eq_false h, ?_⟩
    unfold kindName
    rw [if_neg (by omega), if_neg (by omega), if_neg (by omega), if_neg (by omega), if_neg (by omega)]
theorem kinds_at1 (w : World) : (Instr.index 81 (.agg #[.string ⟨#[]⟩, .bool false, .nilFunc, .string ⟨#[95, 99, 111, 117, 110, 116]⟩, .bool false, .func (.func 43) #[] #[], .string ⟨#[95, 115, 117, 109]⟩, .bool true, .func (.func 45) #[] #[], .string ⟨#[95, 109, 105, 110]⟩, .bool false, .func (.func 46) #[] #[], .string ⟨#[95, 109, 97, 120]⟩, .bool false, .func (.func 48) #[] #[], .string ⟨#[95, 115, 116, 97, 116, 115]⟩, .bool true, .func (.func 49) #[] #[]]) (.int .i64 1)).run Try.prog w = .ok (.agg #[.string ⟨#[95, 99, 111, 117, 110, 116]⟩, .bool false, .func (.func 43) #[] #[]]) w := by kernel_rfl
theorem kinds_at2 (w : World) : (Instr.index 81 (.agg #[.string ⟨#[]⟩, .bool false, .nilFunc, .string ⟨#[95, 99, 111, 117, 110, 116]⟩, .bool false, .func (.func 43) #[] #[], .string ⟨#[95, 115, 117, 109]⟩, .bool true, .func (.func 45) #[] #[], .string ⟨#[95, 109, 105, 110]⟩, .bool false, .func (.func 46) #[] #[], .string ⟨#[95, 109, 97, 120]⟩, .bool false, .func (.func 48) #[] #[], .string ⟨#[95, 115, 116, 97, 116, 115]⟩, .bool true, .func (.func 49) #[] #[]]) (.int .i64 2)).run Try.prog w = .ok (.agg #[.string ⟨#[95, 115, 117, 109]⟩, .bool true, .func (.func 45) #[] #[]]) w := by kernel_rfl
theorem kinds_at3 (w : World) : (Instr.index 81 (.agg #[.string ⟨#[]⟩, .bool false, .nilFunc, .string ⟨#[95, 99, 111, 117, 110, 116]⟩, .bool false, .func (.func 43) #[] #[], .string ⟨#[95, 115, 117, 109]⟩, .bool true, .func (.func 45) #[] #[], .string ⟨#[95, 109, 105, 110]⟩, .bool false, .func (.func 46) #[] #[], .string ⟨#[95, 109, 97, 120]⟩, .bool false, .func (.func 48) #[] #[], .string ⟨#[95, 115, 116, 97, 116, 115]⟩, .bool true, .func (.func 49) #[] #[]]) (.int .i64 3)).run Try.prog w = .ok (.agg #[.string ⟨#[95, 109, 105, 110]⟩, .bool false, .func (.func 46) #[] #[]]) w := by kernel_rfl
theorem kinds_at4 (w : World) : (Instr.index 81 (.agg #[.string ⟨#[]⟩, .bool false, .nilFunc, .string ⟨#[95, 99, 111, 117, 110, 116]⟩, .bool false, .func (.func 43) #[] #[], .string ⟨#[95, 115, 117, 109]⟩, .bool true, .func (.func 45) #[] #[], .string ⟨#[95, 109, 105, 110]⟩, .bool false, .func (.func 46) #[] #[], .string ⟨#[95, 109, 97, 120]⟩, .bool false, .func (.func 48) #[] #[], .string ⟨#[95, 115, 116, 97, 116, 115]⟩, .bool true, .func (.func 49) #[] #[]]) (.int .i64 4)).run Try.prog w = .ok (.agg #[.string ⟨#[95, 109, 97, 120]⟩, .bool false, .func (.func 48) #[] #[]]) w := by kernel_rfl
theorem kinds_at5 (w : World) : (Instr.index 81 (.agg #[.string ⟨#[]⟩, .bool false, .nilFunc, .string ⟨#[95, 99, 111, 117, 110, 116]⟩, .bool false, .func (.func 43) #[] #[], .string ⟨#[95, 115, 117, 109]⟩, .bool true, .func (.func 45) #[] #[], .string ⟨#[95, 109, 105, 110]⟩, .bool false, .func (.func 46) #[] #[], .string ⟨#[95, 109, 97, 120]⟩, .bool false, .func (.func 48) #[] #[], .string ⟨#[95, 115, 116, 97, 116, 115]⟩, .bool true, .func (.func 49) #[] #[]]) (.int .i64 5)).run Try.prog w = .ok (.agg #[.string ⟨#[95, 115, 116, 97, 116, 115]⟩, .bool true, .func (.func 49) #[] #[]]) w := by kernel_rfl
theorem kinds_name1 (w : World) : (Instr.field 80 (.agg #[.string ⟨#[95, 99, 111, 117, 110, 116]⟩, .bool false, .func (.func 43) #[] #[]]) 0).run Try.prog w = .ok (.string ⟨#[95, 99, 111, 117, 110, 116]⟩) w := by kernel_rfl
theorem kinds_name2 (w : World) : (Instr.field 80 (.agg #[.string ⟨#[95, 115, 117, 109]⟩, .bool true, .func (.func 45) #[] #[]]) 0).run Try.prog w = .ok (.string ⟨#[95, 115, 117, 109]⟩) w := by kernel_rfl
theorem kinds_name3 (w : World) : (Instr.field 80 (.agg #[.string ⟨#[95, 109, 105, 110]⟩, .bool false, .func (.func 46) #[] #[]]) 0).run Try.prog w = .ok (.string ⟨#[95, 109, 105, 110]⟩) w := by kernel_rfl
theorem kinds_name4 (w : World) : (Instr.field 80 (.agg #[.string ⟨#[95, 109, 97, 120]⟩, .bool false, .func (.func 48) #[] #[]]) 0).run Try.prog w = .ok (.string ⟨#[95, 109, 97, 120]⟩) w := by kernel_rfl
theorem kinds_name5 (w : World) : (Instr.field 80 (.agg #[.string ⟨#[95, 115, 116, 97, 116, 115]⟩, .bool true, .func (.func 49) #[] #[]]) 0).run Try.prog w = .ok (.string ⟨#[95, 115, 116, 97, 116, 115]⟩) w := by kernel_rfl
set_option maxRecDepth 20000 in
set_option maxHeartbeats 1000000 in
theorem name_any (k : Int) (w : World) : Calls Try.prog 16 #[.int .i64 k] w fun e w' => e = .returned (.tuple #[.string (kindName k), .int .i64 (nameE k)]) ∧ Below w.heap.size w w' := by
  have hk := known_any k
  rcases known_cases k with ⟨hb, h⟩ | ⟨hb, h⟩
  · have HE := Lib.hid (show nameE k = 0 by unfold nameE; rw [if_pos hb])
    rw [hb] at hk
    clear hb
    rcases h with rfl | rfl | rfl | rfl | rfl
    all_goals
      go_enter Try.func16, Try.ntmps16
      go_wp2_with fail
      refine (hk _).mono ?_
      rintro e w1 ⟨rfl, hb1⟩
      go_wp2_with fail
      refine (kinds_any _).mono ?_
      rintro e w2 ⟨rfl, hb2⟩
      have hb3 := hb1.trans (hb2.mono hb1.size)
      clear hb1 hb2 hk
      have i1 := kinds_at1 w2
      have i2 := kinds_at2 w2
      have i3 := kinds_at3 w2
      have i4 := kinds_at4 w2
      have i5 := kinds_at5 w2
      have j1 := kinds_name1 w2
      have j2 := kinds_name2 w2
      have j3 := kinds_name3 w2
      have j4 := kinds_name4 w2
      have j5 := kinds_name5 w2
      go_wp2
      rw [HE.out]
      exact bodyPost_ret (v := .tuple #[.string (kindName _), .int .i64 0]) (by simp [results, Try.results16, go_sem]; rfl) rfl ⟨rfl, hb3⟩
  · have HE := Lib.hid (show nameE k = 2 by unfold nameE; rw [if_neg (by rw [hb]; decide)])
    have HN := Lib.hid h
    rw [hb] at hk
    clear hb h
    go_enter Try.func16, Try.ntmps16
    go_wp2_with fail
    refine (hk _).mono ?_
    rintro e w1 ⟨rfl, hb1⟩
    clear hk
    go_wp2
    rw [HE.out, HN.out]
    exact bodyPost_ret (v := .tuple #[.string ⟨#[]⟩, .int .i64 2]) (by simp [results, Try.results16, go_sem]) rfl ⟨rfl, hb1⟩

set_option maxRecDepth 20000 in
set_option maxHeartbeats 1000000 in
theorem tellSum_any (c i v le mo : Int) (w : World) : Calls Try.prog 45 #[.agg #[.int .i64 c, .int .i64 i, .int .i64 (hiI v), .int .u64 (loI v), .int .i64 le, .int .i64 mo]] w fun e w' => e = .returned (numV (IntKind.i64.wrap (loI v))) ∧ Below w.heap.size w w' := by
  have hn := number_any (IntKind.i64.wrap (loI v))
  generalize hx : IntKind.i64.wrap (loI v) = x at *
  have hb0 : Below w.heap.size w ((w.alloc (.cells #[.int .i64 c, .int .i64 i, .int .i64 (hiI v), .int .u64 (loI v), .int .i64 le, .int .i64 mo] 24)).alloc (.cells #[.int .i64 0, .int .i64 0, .string ⟨#[]⟩, .slice none 0 0, .slice none 0 0] 42)) := ((Below.refl _ _).alloc (Nat.le_refl _) _).alloc (by simp) _
  have hsz : (w.alloc (.cells #[.int .i64 c, .int .i64 i, .int .i64 (hiI v), .int .u64 (loI v), .int .i64 le, .int .i64 mo] 24)).heap.size = w.heap.size + 1 := by simp
  go_enter Try.func45, Try.ntmps45
  go_wp2_with fail
  refine (hn _).mono ?_
  rintro e w1 ⟨rfl, hb1⟩
  have d0 : w1.cell? ⟨w.heap.size + 1, 0, none⟩ = some (.int .i64 0) := by rw [← hsz]; exact new_later hb1 0 rfl
  have d1 : w1.cell? ⟨w.heap.size + 1, 1, none⟩ = some (.int .i64 0) := by rw [← hsz]; exact new_later hb1 1 rfl
  have d2 : w1.cell? ⟨w.heap.size + 1, 2, none⟩ = some (.string ⟨#[]⟩) := by rw [← hsz]; exact new_later hb1 2 rfl
  have d3 : w1.cell? ⟨w.heap.size + 1, 3, none⟩ = some (.slice none 0 0) := by rw [← hsz]; exact new_later hb1 3 rfl
  have d4 : w1.cell? ⟨w.heap.size + 1, 4, none⟩ = some (.slice none 0 0) := by rw [← hsz]; exact new_later hb1 4 rfl
  have f0 : w1.frozen? ⟨w.heap.size + 1, 0, none⟩ = false := by rw [← hsz]; exact new_frozen hb1 0
  have f1 : w1.frozen? ⟨w.heap.size + 1, 1, none⟩ = false := by rw [← hsz]; exact new_frozen hb1 1
  have f2 : w1.frozen? ⟨w.heap.size + 1, 2, none⟩ = false := by rw [← hsz]; exact new_frozen hb1 2
  have f3 : w1.frozen? ⟨w.heap.size + 1, 3, none⟩ = false := by rw [← hsz]; exact new_frozen hb1 3
  have f4 : w1.frozen? ⟨w.heap.size + 1, 4, none⟩ = false := by rw [← hsz]; exact new_frozen hb1 4
  have hb2 : Below w.heap.size w w1 := hb0.trans (hb1.mono hb0.size)
  have hle1 : w.heap.size ≤ w.heap.size + 1 := Nat.le_succ _
  clear hb0 hb1 hsz hn hx
  unfold numV
  go_wp2
  refine bodyPost_ret (v := .agg #[.int .i64 3, .int .i64 x, .string ⟨#[]⟩, .slice none 0 0, .slice none 0 0]) ?_ rfl ⟨rfl, ((((hb2.setCell hle1 _).setCell hle1 _).setCell hle1 _).setCell hle1 _).setCell hle1 _⟩
  simp [results, Try.results45, go_sem, *]
end Go.Proofs.Ytinaecmpigenoaa
