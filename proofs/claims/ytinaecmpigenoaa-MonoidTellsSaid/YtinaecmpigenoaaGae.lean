import Derived.Test.YtinaecmpigenoaaGad
import Derived.Test.YtinaecmpigenoaaGac
import Derived.Test.YtinaecmpigenoaaGaa
/-
  Package monoid: Name, the sum's value, small.
-/
namespace Go.Proofs.Ytinaecmpigenoaa
open Go.RowKit
attribute [local go_sem ↓] Go.wp_at_zero Go.wp_at_succ

/-- The name of a kind. -/
def kindName (k : Int) : ByteArray := if k = 1 then ⟨#[95, 99, 111, 117, 110, 116]⟩ else if k = 2 then ⟨#[95, 115, 117, 109]⟩ else if k = 3 then ⟨#[95, 109, 105, 110]⟩ else if k = 4 then ⟨#[95, 109, 97, 120]⟩ else if k = 5 then ⟨#[95, 115, 116, 97, 116, 115]⟩ else ⟨#[]⟩
def nameE (k : Int) : Int := if knownB k = true then 0 else 2
theorem known_cases (k : Int) : (knownB k = true ∧ (k = 1 ∨ k = 2 ∨ k = 3 ∨ k = 4 ∨ k = 5)) ∨ (knownB k = false ∧ kindName k = ⟨#[]⟩) := by
  by_cases h : 1 ≤ k ∧ k ≤ 5
  · exact .inl ⟨decide_eq_true h, by omega⟩
  · refine .inr ⟨decide_eq_false h, ?_⟩
    unfold kindName
    rw [if_neg (by omega), if_neg (by omega), if_neg (by omega), if_neg (by omega), if_neg (by omega)]
theorem kinds_at1 (w : World) : (Instr.index 81 (.agg #[.string ⟨#[]⟩, .bool false, .nilFunc, .string ⟨#[95, 99, 111, 117, 110, 116]⟩, .bool false, .func (.func 43) #[] #[], .string ⟨#[95, 115, 117, 109]⟩, .bool true, .func (.func 45) #[] #[], .string ⟨#[95, 109, 105, 110]⟩, .bool false, .func (.func 46) #[] #[], .string ⟨#[95, 109, 97, 120]⟩, .bool false, .func (.func 48) #[] #[], .string ⟨#[95, 115, 116, 97, 116, 115]⟩, .bool true, .func (.func 49) #[] #[]]) (.int .i64 1)).run Try.prog w = .ok (.agg #[.string ⟨#[95, 99, 111, 117, 110, 116]⟩, .bool false, .func (.func 43) #[] #[]]) w := by kernel_rfl
theorem kinds_at2 (w : World) : (Instr.index 81 (.agg #[.string ⟨#[]⟩, .bool false, .nilFunc, .string ⟨#[95, 99, 111, 117, 110, 116]⟩, .bool false, .func (.func 43) #[] #[], .string ⟨#[95, 115, 117, 109]⟩, .bool true, .func (.func 45) #[] #[], .string ⟨#[95, 109, 105, 110]⟩, .bool false, .func (.func 46) #[] #[], .string ⟨#[95, 109, 97, 120]⟩, .bool false, .func (.func 48) #[] #[], .string ⟨#[95, 115, 116, 97, 116, 115]⟩, .bool true, .func (.func 49) #[] #[]]) (.int .i64 2)).run Try.prog w = .ok (.agg #[.string ⟨#[95, 115, 117, 109]⟩, .bool true, .func (.func 45) #[] #[]]) w := by kernel_rfl
theorem kinds_at3 (w : World) : (Instr.index 81 (.agg #[.string ⟨#[]⟩, .bool false, .nilFunc, .string ⟨#[95, 99, 111, 117, 110, 116]⟩, .bool false, .func (.func 43) #[] #[], .string ⟨#[95, 115, 117, 109]⟩, .bool true, .func (.func 45) #[] #[], .string ⟨#[95, 109, 105, 110]⟩, .bool false, .func (.func 46) #[] #[], .string ⟨#[95, 109, 97, 120]⟩, .bool false, .func (.func 48) #[] #[], .string ⟨#[95, 115, 116, 97, 116, 115]⟩, .bool true, .func (.func 49) #[] #[]]) (.int .i64 3)).run Try.prog w = .ok (.agg #[.string ⟨#[95, 109, 105, 110]⟩, .bool false, .func (.func 46) #[] #[]]) w := by kernel_rfl
theorem kinds_at4 (w : World) : (Instr.index 81 (.agg #[.string ⟨#[]⟩, .bool false, .nilFunc, .string ⟨#[95, 99, 111, 117, 110, 116]⟩, .bool false, .func (.func 43) #[] #[], .string ⟨#[95, 115, 117, 109]⟩, .bool true, .func (.func 45) #[] #[], .string ⟨#[95, 109, 105, 110]⟩, .bool false, .func (.func 46) #[] #[], .string ⟨#[95, 109, 97, 120]⟩, .bool false, .func (.func 48) #[] #[], .string ⟨#[95, 115, 116, 97, 116, 115]⟩, .bool true, .func (.func 49) #[] #[]]) (.int .i64 4)).run Try.prog w = .ok (.agg #[.string ⟨#[95, 109, 97, 120]⟩, .bool false, .func (.func 48) #[] #[]]) w := by kernel_rfl
theorem kinds_at5 (w : World) : (Instr.index 81 (.agg #[.string ⟨#[]⟩, .bool false, .nilFunc, .string ⟨#[95, 99, 111, 117, 110, 116]⟩, .bool false, .func (.func 43) #[] #[], .string ⟨#[95, 115, 117, 109]⟩, .bool true, .func (.func 45) #[] #[], .string ⟨#[95, 109, 105, 110]⟩, .bool false, .func (.func 46) #[] #[], .string ⟨#[95, 109, 97, 120]⟩, .bool false, .func (.func 48) #[] #[], .string ⟨#[95, 115, 116, 97, 116, 115]⟩, .bool true, .func (.func 49) #[] #[]]) (.int .i64 5)).run Try.prog w = .ok (.agg #[.string ⟨#[95, 115, 116, 97, 116, 115]⟩, .bool true, .func (.func 49) #[] #[]]) w := by kernel_rfl
theorem kinds_name1 (w : World) : (Instr.field 80 (.agg #[.string ⟨#[95, 99, 111, 117, 110, 116]⟩, .bool false, .func (.func 43) #[] #[]]) 0).run Try.prog w = .ok (.string ⟨#[95, 99, 111, 117, 110, 116]⟩) w := by kernel_rfl
theorem kinds_name2 (w : World) : (Instr.field 80 (.agg #[.string ⟨#[95, 115, 117, 109]⟩, .bool true, .func (.func 45) #[] #[]]) 0).run Try.prog w = .ok (.string ⟨#[95, 115, 117, 109]⟩) w := by kernel_rfl
theorem kinds_name3 (w : World) : (Instr.field 80 (.agg #[.string ⟨#[95, 109, 105, 110]⟩, .bool false, .func (.func 46) #[] #[]]) 0).run Try.prog w = .ok (.string ⟨#[95, 109, 105, 110]⟩) w := by kernel_rfl
theorem kinds_name4 (w : World) : (Instr.field 80 (.agg #[.string ⟨#[95, 109, 97, 120]⟩, .bool false, .func (.func 48) #[] #[]]) 0).run Try.prog w = .ok (.string ⟨#[95, 109, 97, 120]⟩) w := by kernel_rfl
theorem kinds_name5 (w : World) : (Instr.field 80 (.agg #[.string ⟨#[95, 115, 116, 97, 116, 115]⟩, .bool true, .func (.func 49) #[] #[]]) 0).run Try.prog w = .ok (.string ⟨#[95, 115, 116, 97, 116, 115]⟩) w := by kernel_rfl
set_option maxRecDepth 20000 in
set_option maxHeartbeats 1000000 in
theorem name_any (k : Int) (w : World) : Calls Try.prog 16 #[.int .i64 k] w fun e w' => e = .returned (.tuple #[.string (kindName k), .int .i64 (nameE k)]) ∧ Below w.heap.size w w' := by
  have hk := known_any k
  rcases known_cases k with ⟨hb, h⟩ | ⟨hb, h⟩
  · have HE := Lib.hid (show nameE k = 0 by unfold nameE; rw [if_pos hb])
    rw [hb] at hk
    clear hb
    rcases h with rfl | rfl | rfl | rfl | rfl
    all_goals
      go_enter Try.func16, Try.ntmps16
      go_wp2_with fail
      refine (hk _).mono ?_
      rintro e w1 ⟨rfl, hb1⟩
      go_wp2_with fail
      refine (kinds_any _).mono ?_
      rintro e w2 ⟨rfl, hb2⟩
      have hb3 := hb1.trans (hb2.mono hb1.size)
      clear hb1 hb2 hk
      have i1 := kinds_at1 w2
      have i2 := kinds_at2 w2
      have i3 := kinds_at3 w2
      have i4 := kinds_at4 w2
      have i5 := kinds_at5 w2
      have j1 := kinds_name1 w2
      have j2 := kinds_name2 w2
      have j3 := kinds_name3 w2
      have j4 := kinds_name4 w2
      have j5 := kinds_name5 w2
      go_wp2
      rw [HE.out]
      exact bodyPost_ret (v := .tuple #[.string (kindName _), .int .i64 0]) (by simp [results, Try.results16, go_sem]; rfl) rfl ⟨rfl, hb3⟩
  · have HE := Lib.hid (show nameE k = 2 by unfold nameE; rw [if_neg (by rw [hb]; decide)])
    have HN := Lib.hid h
    rw [hb] at hk
    clear hb h
    go_enter Try.func16, Try.ntmps16
    go_wp2_with fail
    refine (hk _).mono ?_
    rintro e w1 ⟨rfl, hb1⟩
    clear hk
    go_wp2
    rw [HE.out, HN.out]
    exact bodyPost_ret (v := .tuple #[.string ⟨#[]⟩, .int .i64 2]) (by simp [results, Try.results16, go_sem]) rfl ⟨rfl, hb1⟩

set_option maxRecDepth 20000 in
set_option maxHeartbeats 1000000 in
theorem tellSum_any (c i v le mo : Int) (w : World) : Calls Try.prog 45 #[.agg #[.int .i64 c, .int .i64 i, .int .i64 (hiI v), .int .u64 (loI v), .int .i64 le, .int .i64 mo]] w fun e w' => e = .returned (numV (IntKind.i64.wrap (loI v))) ∧ Below w.heap.size w w' := by
  have hn := number_any (IntKind.i64.wrap (loI v))
  generalize hx : IntKind.i64.wrap (loI v) = x at *
  have hb0 : Below w.heap.size w ((w.alloc (.cells #[.int .i64 c, .int .i64 i, .int .i64 (hiI v), .int .u64 (loI v), .int .i64 le, .int .i64 mo] 24)).alloc (.cells #[.int .i64 0, .int .i64 0, .string ⟨#[]⟩, .slice none 0 0, .slice none 0 0] 42)) := ((Below.refl _ _).alloc (Nat.le_refl _) _).alloc (by simp) _
  have hsz : (w.alloc (.cells #[.int .i64 c, .int .i64 i, .int .i64 (hiI v), .int .u64 (loI v), .int .i64 le, .int .i64 mo] 24)).heap.size = w.heap.size + 1 := by simp
  go_enter Try.func45, Try.ntmps45
  go_wp2_with fail
  refine (hn _).mono ?_
  rintro e w1 ⟨rfl, hb1⟩
  have d0 : w1.cell? ⟨w.heap.size + 1, 0, none⟩ = some (.int .i64 0) := by rw [← hsz]; exact mnew_later hb1 0 rfl
  have d1 : w1.cell? ⟨w.heap.size + 1, 1, none⟩ = some (.int .i64 0) := by rw [← hsz]; exact mnew_later hb1 1 rfl
  have d2 : w1.cell? ⟨w.heap.size + 1, 2, none⟩ = some (.string ⟨#[]⟩) := by rw [← hsz]; exact mnew_later hb1 2 rfl
  have d3 : w1.cell? ⟨w.heap.size + 1, 3, none⟩ = some (.slice none 0 0) := by rw [← hsz]; exact mnew_later hb1 3 rfl
  have d4 : w1.cell? ⟨w.heap.size + 1, 4, none⟩ = some (.slice none 0 0) := by rw [← hsz]; exact mnew_later hb1 4 rfl
  have f0 : w1.frozen? ⟨w.heap.size + 1, 0, none⟩ = false := by rw [← hsz]; exact new_frozen hb1 0
  have f1 : w1.frozen? ⟨w.heap.size + 1, 1, none⟩ = false := by rw [← hsz]; exact new_frozen hb1 1
  have f2 : w1.frozen? ⟨w.heap.size + 1, 2, none⟩ = false := by rw [← hsz]; exact new_frozen hb1 2
  have f3 : w1.frozen? ⟨w.heap.size + 1, 3, none⟩ = false := by rw [← hsz]; exact new_frozen hb1 3
  have f4 : w1.frozen? ⟨w.heap.size + 1, 4, none⟩ = false := by rw [← hsz]; exact new_frozen hb1 4
  have hb2 : Below w.heap.size w w1 := hb0.trans (hb1.mono hb0.size)
  have hle1 : w.heap.size ≤ w.heap.size + 1 := Nat.le_succ _
  clear hb0 hb1 hsz hn hx
  unfold numV
  go_wp2
  refine bodyPost_ret (v := .agg #[.int .i64 3, .int .i64 x, .string ⟨#[]⟩, .slice none 0 0, .slice none 0 0]) ?_ rfl ⟨rfl, ((((hb2.setCell hle1 _).setCell hle1 _).setCell hle1 _).setCell hle1 _).setCell hle1 _⟩
  simp [results, Try.results45, go_sem, *]
end Go.Proofs.Ytinaecmpigenoaa
/-
  Package monoid: a sum as a number of 64 bits.
-/
namespace Go.Proofs.Ytinaecmpigenoaa
open Go.RowKit
attribute [local go_sem ↓] Go.wp_at_zero Go.wp_at_succ

theorem wrap_r64 (n : Int) : R64 (IntKind.i64.wrap n) := by rw [IntKind.wrap_i64]; unfold R64; omega
theorem wrap_lo (v : Int) (h : R64 v) : IntKind.i64.wrap (loI v) = v := by rw [IntKind.wrap_i64]; unfold R64 at h; unfold loI; omega
theorem halves_of (a b : Value) (w : World) : (Instr.field 75 (.agg #[a, b]) 0).run Try.prog w = .ok (.agg #[a, b]) w := by kernel_rfl
/-- The two results of small. -/
def smallV (v : Int) : Value := .tuple #[.int .i64 (IntKind.i64.wrap (loI v)), .bool (decide (v = IntKind.i64.wrap (loI v)))]
set_option maxRecDepth 20000 in
set_option maxHeartbeats 1000000 in
theorem small_any (v : Int) (w : World) (hv : R128 v) : Calls Try.prog 36 #[.agg #[.int .i64 (hiI v), .int .u64 (loI v)]] w fun e w' => e = .returned (smallV v) ∧ Below w.heap.size w w' := by
  have hb0 := (Below.refl w.heap.size w).alloc (Nat.le_refl _) (.cells #[.int .i64 (hiI v), .int .u64 (loI v)] 75)
  have hx64 := wrap_r64 (loI v)
  unfold smallV
  generalize hx : IntKind.i64.wrap (loI v) = x at *
  obtain ⟨W1, hW1⟩ : ∃ W1, w.alloc (.cells #[.int .i64 (hiI v), .int .u64 (loI v)] 75) = W1 := ⟨_, rfl⟩
  have c0 : ∀ W, Below W1.heap.size W1 W → W.cell? ⟨w.heap.size, 0, none⟩ = some (.int .i64 (hiI v)) := fun W h => mnew_later (by rw [hW1]; exact h) 0 rfl
  have c1 : ∀ W, Below W1.heap.size W1 W → W.cell? ⟨w.heap.size, 1, none⟩ = some (.int .u64 (loI v)) := fun W h => mnew_later (by rw [hW1]; exact h) 1 rfl
  have hb1 : Below w.heap.size w W1 := by rw [← hW1]; exact hb0
  have d0 := c0 W1 (Below.refl _ _)
  have d1 := c1 W1 (Below.refl _ _)
  clear hb0
  have hfl := fun W => halves_of (.int .i64 (hiI x)) (.int .u64 (loI x)) W
  have hinj := hl_inj v x hv (by unfold R64 at hx64; unfold R128; omega)
  by_cases a3 : hiI v = hiI x
  · have e3 : (hiI v == hiI x) = true := beq_iff_eq.2 a3
    by_cases a4 : loI v = loI x
    · have e4 : (loI v == loI x) = true := beq_iff_eq.2 a4
      rw [decide_eq_true (hinj.1 ⟨a3, a4⟩)]
      clear hinj a3 a4 hv
      go_enter Try.func36, Try.ntmps36
      go_wp2
      go_region_held3 (fun w' => Below W1.heap.size W1 w') (first | assumption | exact (Below.refl _ _).drew | (refine mS_call ?_ ?_ ?_; assumption; assumption; rfl)) ((go_at_call 31; with_reducible refine (sumOf_agg x _ hx64).mono ?_; rintro e wB ⟨rfl, hbB⟩; have hSB := mS_call hbB (by assumption) rfl))
      all_goals
        go_wp2
        exact bodyPost_ret (v := .tuple #[.int .i64 x, .bool true]) (by simp [results, Try.results36, go_sem]) rfl ⟨rfl, hb1.trans (Below.mono (B := W1.heap.size) (by assumption) hb1.size)⟩
    · have e4 : (loI v == loI x) = false := beq_no a4
      rw [decide_eq_false (fun h => a4 (hinj.2 h).2)]
      clear hinj a3 a4 hv
      go_enter Try.func36, Try.ntmps36
      go_wp2
      go_region_held3 (fun w' => Below W1.heap.size W1 w') (first | assumption | exact (Below.refl _ _).drew | (refine mS_call ?_ ?_ ?_; assumption; assumption; rfl)) ((go_at_call 31; with_reducible refine (sumOf_agg x _ hx64).mono ?_; rintro e wB ⟨rfl, hbB⟩; have hSB := mS_call hbB (by assumption) rfl))
      all_goals
        go_wp2
        exact bodyPost_ret (v := .tuple #[.int .i64 x, .bool false]) (by simp [results, Try.results36, go_sem]) rfl ⟨rfl, hb1.trans (Below.mono (B := W1.heap.size) (by assumption) hb1.size)⟩
  · have e3 : (hiI v == hiI x) = false := beq_no a3
    rw [decide_eq_false (fun h => a3 (hinj.2 h).1)]
    clear hinj a3 hv
    go_enter Try.func36, Try.ntmps36
    go_wp2
    go_region_held3 (fun w' => Below W1.heap.size W1 w') (first | assumption | exact (Below.refl _ _).drew | (refine mS_call ?_ ?_ ?_; assumption; assumption; rfl)) ((go_at_call 31; with_reducible refine (sumOf_agg x _ hx64).mono ?_; rintro e wB ⟨rfl, hbB⟩; have hSB := mS_call hbB (by assumption) rfl))
    all_goals
      go_wp2
      exact bodyPost_ret (v := .tuple #[.int .i64 x, .bool false]) (by simp [results, Try.results36, go_sem]) rfl ⟨rfl, hb1.trans (Below.mono (B := W1.heap.size) (by assumption) hb1.size)⟩
end Go.Proofs.Ytinaecmpigenoaa
/-
  Package monoid: Tell, of the sum.
-/
namespace Go.Proofs.Ytinaecmpigenoaa
open Go.RowKit
attribute [local go_sem ↓] Go.wp_at_zero Go.wp_at_succ

theorem old_cell {w0 w3 w6 : World} {o : Obj} {C : Array Value} {t : TypeId} (h1 : Below (w0.alloc (.cells C t)).heap.size (w0.alloc (.cells C t)) w3) (h2 : Below (w3.alloc o).heap.size (w3.alloc o) w6) (k : Nat) {v : Value} (hk : C[k]? = some v) : w6.cell? ⟨w0.heap.size, k, none⟩ = some v ∧ w6.frozen? ⟨w0.heap.size, k, none⟩ = false := by
  have h3 := mnew_later h1 k hk
  have h4 := cell_keep h3 o
  exact ⟨mkept_later h2 h4, (h2.frozen (World.block_lt_of_cell? _ _ h4)).trans ((frozen_keep h3 o).trans (new_frozen h1 k))⟩
set_option maxRecDepth 20000 in
set_option maxHeartbeats 2000000 in
theorem tell_over (c i v le mo : Int) (w : World) (hv : R128 v) (hle : R64 le) (hmo : R64 mo) (hval : validB c i v le mo = true) (ho : ¬ v = IntKind.i64.wrap (loI v)) :
    Calls Try.prog 15 #[.int .i64 2, .agg #[.int .i64 c, .int .i64 i, .int .i64 (hiI v), .int .u64 (loI v), .int .i64 le, .int .i64 mo]] w fun e w' => e = .returned (.tuple #[.agg #[.int .i64 0, .int .i64 0, .string ⟨#[]⟩, .slice none 0 0, .slice none 0 0], .int .i64 5]) ∧ Below w.heap.size w w' := by
  have hc := fun W => mvalid_any c i v le mo W hv hle hmo
  unfold redV at hc
  rw [hval] at hc
  have hsm : smallV v = .tuple #[.int .i64 (IntKind.i64.wrap (loI v)), .bool false] := by unfold smallV; rw [decide_eq_false ho]
  have Hsm := Lib.hid hsm
  have Hc := Lib.hid hc
  clear hsm ho hval hc
  go_enter Try.func15, Try.ntmps15
  go_wp2_with fail
  refine (Hc.out _).mono ?_
  rintro e w1 ⟨rfl, hb1⟩
  go_wp2_with fail
  refine (known_any 2 _).mono ?_
  rintro e w2 ⟨rfl, hb2⟩
  rw [show knownB 2 = true by decide]
  go_wp2_with fail
  refine (kinds_any _).mono ?_
  rintro e w3 ⟨rfl, hb3⟩
  have i2 := kinds_at2 w3
  have hsz : (w.alloc (.cells #[.int .i64 c, .int .i64 i, .int .i64 (hiI v), .int .u64 (loI v), .int .i64 le, .int .i64 mo] 24)).heap.size = w.heap.size + 1 := by simp
  have hbw : Below w.heap.size w ((w.alloc (.cells #[.int .i64 c, .int .i64 i, .int .i64 (hiI v), .int .u64 (loI v), .int .i64 le, .int .i64 mo] 24)).alloc (.cells #[.int .i64 0, .int .i64 0, .string ⟨#[]⟩, .slice none 0 0, .slice none 0 0] 42)) := ((Below.refl _ _).alloc (Nat.le_refl _) _).alloc (by simp) _
  have hb03 := (hb1.trans (hb2.mono hb1.size)).trans (hb3.mono (Nat.le_trans hb1.size hb2.size))
  have hb3w : Below w.heap.size w w3 := hbw.trans (hb03.mono hbw.size)
  have hs4 : Six (w3.alloc (.cells #[.string ⟨#[95, 115, 117, 109]⟩, .bool true, .func (.func 45) #[] #[]] 80)) w.heap.size (.int .i64 c) (.int .i64 i) (.int .i64 (hiI v)) (.int .u64 (loI v)) (.int .i64 le) (.int .i64 mo) := (((Six.new w _ _ _ _ _ _ _).alloc _).below hb03 rfl).alloc _
  obtain ⟨⟨r0, r1, r2, r3, r4, r5⟩, -⟩ := hs4
  have hle1 : w.heap.size ≤ w.heap.size + 1 := Nat.le_succ _
  clear hbw hb1 hb2 hb3
  go_wp2_with fail
  refine (total_agg c i v le mo _).mono ?_
  rintro e w5 ⟨rfl, hb5⟩
  go_wp2_with fail
  refine (small_any v _ hv).mono ?_
  rintro e w6 ⟨rfl, hb6⟩
  rw [Hsm.out]
  have hb56 := hb5.trans (hb6.mono hb5.size)
  have k1 : w6.cell? ⟨w3.heap.size, 1, none⟩ = some (.bool true) := mnew_later hb56 1 rfl
  have e0 : w6.cell? ⟨w.heap.size + 1, 0, none⟩ = some (.int .i64 0) := by rw [← hsz]; exact (old_cell hb03 hb56 0 rfl).1
  have e1 : w6.cell? ⟨w.heap.size + 1, 1, none⟩ = some (.int .i64 0) := by rw [← hsz]; exact (old_cell hb03 hb56 1 rfl).1
  have e2 : w6.cell? ⟨w.heap.size + 1, 2, none⟩ = some (.string ⟨#[]⟩) := by rw [← hsz]; exact (old_cell hb03 hb56 2 rfl).1
  have e3 : w6.cell? ⟨w.heap.size + 1, 3, none⟩ = some (.slice none 0 0) := by rw [← hsz]; exact (old_cell hb03 hb56 3 rfl).1
  have e4 : w6.cell? ⟨w.heap.size + 1, 4, none⟩ = some (.slice none 0 0) := by rw [← hsz]; exact (old_cell hb03 hb56 4 rfl).1
  have f0 : w6.frozen? ⟨w.heap.size + 1, 0, none⟩ = false := by rw [← hsz]; exact (old_cell hb03 hb56 0 rfl).2
  have f1 : w6.frozen? ⟨w.heap.size + 1, 1, none⟩ = false := by rw [← hsz]; exact (old_cell hb03 hb56 1 rfl).2
  have f2 : w6.frozen? ⟨w.heap.size + 1, 2, none⟩ = false := by rw [← hsz]; exact (old_cell hb03 hb56 2 rfl).2
  have f3 : w6.frozen? ⟨w.heap.size + 1, 3, none⟩ = false := by rw [← hsz]; exact (old_cell hb03 hb56 3 rfl).2
  have f4 : w6.frozen? ⟨w.heap.size + 1, 4, none⟩ = false := by rw [← hsz]; exact (old_cell hb03 hb56 4 rfl).2
  have hb6w : Below w.heap.size w w6 := (hb3w.alloc hb3w.size _).trans (hb56.mono (by simp; have := hb3w.size; omega))
  clear r0 r1 r2 r3 r4 r5 hb5 hb6 hb56 hb03 hb3w hsz i2
  go_wp2
  refine bodyPost_ret (v := .tuple #[.agg #[.int .i64 0, .int .i64 0, .string ⟨#[]⟩, .slice none 0 0, .slice none 0 0], .int .i64 5]) ?_ rfl ⟨rfl, ((((hb6w.setCell hle1 _).setCell hle1 _).setCell hle1 _).setCell hle1 _).setCell hle1 _⟩
  simp [results, Try.results15, go_sem, *]

set_option maxRecDepth 20000 in
set_option maxHeartbeats 2000000 in
theorem tell_sum (c i v le mo : Int) (w : World) (hv : R128 v) (hle : R64 le) (hmo : R64 mo) (hval : validB c i v le mo = true) (ho : v = IntKind.i64.wrap (loI v)) :
    Calls Try.prog 15 #[.int .i64 2, .agg #[.int .i64 c, .int .i64 i, .int .i64 (hiI v), .int .u64 (loI v), .int .i64 le, .int .i64 mo]] w fun e w' => e = .returned (.tuple #[.agg #[.int .i64 3, .int .i64 v, .string ⟨#[]⟩, .slice none 0 0, .slice none 0 0], .int .i64 0]) ∧ Below w.heap.size w w' := by
  have hc := fun W => mvalid_any c i v le mo W hv hle hmo
  unfold redV at hc
  rw [hval] at hc
  have hsm : smallV v = .tuple #[.int .i64 (IntKind.i64.wrap (loI v)), .bool true] := by unfold smallV; rw [decide_eq_true ho]
  have htl := fun W => tellSum_any c i v le mo W
  unfold numV at htl
  rw [← ho] at htl hsm
  have Htl := Lib.hid htl
  have Hsm := Lib.hid hsm
  have Hc := Lib.hid hc
  clear hsm ho hval hc htl
  go_enter Try.func15, Try.ntmps15
  go_wp2_with fail
  refine (Hc.out _).mono ?_
  rintro e w1 ⟨rfl, hb1⟩
  go_wp2_with fail
  refine (known_any 2 _).mono ?_
  rintro e w2 ⟨rfl, hb2⟩
  rw [show knownB 2 = true by decide]
  go_wp2_with fail
  refine (kinds_any _).mono ?_
  rintro e w3 ⟨rfl, hb3⟩
  have i2 := kinds_at2 w3
  have hsz : (w.alloc (.cells #[.int .i64 c, .int .i64 i, .int .i64 (hiI v), .int .u64 (loI v), .int .i64 le, .int .i64 mo] 24)).heap.size = w.heap.size + 1 := by simp
  have hbw : Below w.heap.size w ((w.alloc (.cells #[.int .i64 c, .int .i64 i, .int .i64 (hiI v), .int .u64 (loI v), .int .i64 le, .int .i64 mo] 24)).alloc (.cells #[.int .i64 0, .int .i64 0, .string ⟨#[]⟩, .slice none 0 0, .slice none 0 0] 42)) := ((Below.refl _ _).alloc (Nat.le_refl _) _).alloc (by simp) _
  have hb03 := (hb1.trans (hb2.mono hb1.size)).trans (hb3.mono (Nat.le_trans hb1.size hb2.size))
  have hb3w : Below w.heap.size w w3 := hbw.trans (hb03.mono hbw.size)
  have hs4 : Six (w3.alloc (.cells #[.string ⟨#[95, 115, 117, 109]⟩, .bool true, .func (.func 45) #[] #[]] 80)) w.heap.size (.int .i64 c) (.int .i64 i) (.int .i64 (hiI v)) (.int .u64 (loI v)) (.int .i64 le) (.int .i64 mo) := (((Six.new w _ _ _ _ _ _ _).alloc _).below hb03 rfl).alloc _
  have Hs4 := Lib.hid hs4
  obtain ⟨⟨r0, r1, r2, r3, r4, r5⟩, -⟩ := hs4
  have hle1 : w.heap.size ≤ w.heap.size + 1 := Nat.le_succ _
  clear hbw hb1 hb2 hb3
  go_wp2_with fail
  refine (total_agg c i v le mo _).mono ?_
  rintro e w5 ⟨rfl, hb5⟩
  go_wp2_with fail
  refine (small_any v _ hv).mono ?_
  rintro e w6 ⟨rfl, hb6⟩
  rw [Hsm.out]
  have hb56 := hb5.trans (hb6.mono hb5.size)
  have k1 : w6.cell? ⟨w3.heap.size, 1, none⟩ = some (.bool true) := mnew_later hb56 1 rfl
  have k2 : w6.cell? ⟨w3.heap.size, 2, none⟩ = some (.func (.func 45) #[] #[]) := mnew_later hb56 2 rfl
  have hs6 := Hs4.out.below hb56 rfl
  clear r0 r1 r2 r3 r4 r5 i2
  obtain ⟨⟨r0, r1, r2, r3, r4, r5⟩, -⟩ := hs6
  have hb6w : Below w.heap.size w w6 := (hb3w.alloc hb3w.size _).trans (hb56.mono (by simp; have := hb3w.size; omega))
  have sb6 := hb6w.size
  go_wp2_with fail
  refine (Htl.out _).mono ?_
  rintro e w7 ⟨rfl, hb7⟩
  have hb57 := hb56.trans (hb7.mono hb56.size)
  have e0 : w7.cell? ⟨w.heap.size + 1, 0, none⟩ = some (.int .i64 0) := by rw [← hsz]; exact (old_cell hb03 hb57 0 rfl).1
  have e1 : w7.cell? ⟨w.heap.size + 1, 1, none⟩ = some (.int .i64 0) := by rw [← hsz]; exact (old_cell hb03 hb57 1 rfl).1
  have e2 : w7.cell? ⟨w.heap.size + 1, 2, none⟩ = some (.string ⟨#[]⟩) := by rw [← hsz]; exact (old_cell hb03 hb57 2 rfl).1
  have e3 : w7.cell? ⟨w.heap.size + 1, 3, none⟩ = some (.slice none 0 0) := by rw [← hsz]; exact (old_cell hb03 hb57 3 rfl).1
  have e4 : w7.cell? ⟨w.heap.size + 1, 4, none⟩ = some (.slice none 0 0) := by rw [← hsz]; exact (old_cell hb03 hb57 4 rfl).1
  have f0 : w7.frozen? ⟨w.heap.size + 1, 0, none⟩ = false := by rw [← hsz]; exact (old_cell hb03 hb57 0 rfl).2
  have f1 : w7.frozen? ⟨w.heap.size + 1, 1, none⟩ = false := by rw [← hsz]; exact (old_cell hb03 hb57 1 rfl).2
  have f2 : w7.frozen? ⟨w.heap.size + 1, 2, none⟩ = false := by rw [← hsz]; exact (old_cell hb03 hb57 2 rfl).2
  have f3 : w7.frozen? ⟨w.heap.size + 1, 3, none⟩ = false := by rw [← hsz]; exact (old_cell hb03 hb57 3 rfl).2
  have f4 : w7.frozen? ⟨w.heap.size + 1, 4, none⟩ = false := by rw [← hsz]; exact (old_cell hb03 hb57 4 rfl).2
  have hb7w : Below w.heap.size w w7 := hb6w.trans (hb7.mono sb6)
  clear r0 r1 r2 r3 r4 r5 k1 k2 hb5 hb6 hb7 hb56 hb57 hb03 hb3w hsz
  go_wp2
  refine bodyPost_ret (v := .tuple #[.agg #[.int .i64 3, .int .i64 v, .string ⟨#[]⟩, .slice none 0 0, .slice none 0 0], .int .i64 0]) ?_ rfl ⟨rfl, ((((hb7w.setCell hle1 _).setCell hle1 _).setCell hle1 _).setCell hle1 _).setCell hle1 _⟩
  simp [results, Try.results15, go_sem, *]
end Go.Proofs.Ytinaecmpigenoaa
/-
  Package monoid: what the kinds tell, but the sum.
-/
namespace Go.Proofs.Ytinaecmpigenoaa
open Go.RowKit
attribute [local go_sem ↓] Go.wp_at_zero Go.wp_at_succ

/-- Five cells of a variable of one's own. -/
def Five (w : World) (g : Nat) (a b c d e : Value) : Prop :=
    (w.cell? ⟨g, 0, none⟩ = some a ∧ w.cell? ⟨g, 1, none⟩ = some b ∧ w.cell? ⟨g, 2, none⟩ = some c ∧ w.cell? ⟨g, 3, none⟩ = some d ∧ w.cell? ⟨g, 4, none⟩ = some e) ∧
    (w.frozen? ⟨g, 0, none⟩ = false ∧ w.frozen? ⟨g, 1, none⟩ = false ∧ w.frozen? ⟨g, 2, none⟩ = false ∧ w.frozen? ⟨g, 3, none⟩ = false ∧ w.frozen? ⟨g, 4, none⟩ = false)
theorem Five.alloc {w : World} {g : Nat} {a b c d e : Value} (o : Obj) (h : Five w g a b c d e) : Five (w.alloc o) g a b c d e := by
  obtain ⟨⟨r0, r1, r2, r3, r4⟩, f0, f1, f2, f3, f4⟩ := h
  exact ⟨⟨cell_keep r0 o, cell_keep r1 o, cell_keep r2 o, cell_keep r3 o, cell_keep r4 o⟩, (frozen_keep r0 o).trans f0, (frozen_keep r1 o).trans f1, (frozen_keep r2 o).trans f2, (frozen_keep r3 o).trans f3, (frozen_keep r4 o).trans f4⟩
theorem Five.below {w w1 : World} {g B : Nat} {a b c d e : Value} (h : Five w g a b c d e) (hb : Below B w w1) (hB : B = w.heap.size) : Five w1 g a b c d e := by
  subst hB
  obtain ⟨⟨r0, r1, r2, r3, r4⟩, f0, f1, f2, f3, f4⟩ := h
  exact ⟨⟨mkept_later hb r0, mkept_later hb r1, mkept_later hb r2, mkept_later hb r3, mkept_later hb r4⟩, (hb.frozen (World.block_lt_of_cell? w _ r0)).trans f0, (hb.frozen (World.block_lt_of_cell? w _ r1)).trans f1, (hb.frozen (World.block_lt_of_cell? w _ r2)).trans f2, (hb.frozen (World.block_lt_of_cell? w _ r3)).trans f3, (hb.frozen (World.block_lt_of_cell? w _ r4)).trans f4⟩
theorem Five.new (w : World) (a b c d e : Value) (t : TypeId) (g : Nat) (hg : w.heap.size = g) : Five (w.alloc (.cells #[a, b, c, d, e] t)) g a b c d e := by
  subst hg
  have hb := Below.refl (w.alloc (.cells #[a, b, c, d, e] t)).heap.size (w.alloc (.cells #[a, b, c, d, e] t))
  exact ⟨⟨mnew_later hb 0 rfl, mnew_later hb 1 rfl, mnew_later hb 2 rfl, mnew_later hb 3 rfl, mnew_later hb 4 rfl⟩, new_frozen hb 0, new_frozen hb 1, new_frozen hb 2, new_frozen hb 3, new_frozen hb 4⟩
theorem below_set5 {B g : Nat} {w w1 : World} {a b c d e : Value} (h : Below B w w1) (hg : B ≤ g) : Below B w (((((w1.setCell ⟨g, 0, none⟩ a).setCell ⟨g, 1, none⟩ b).setCell ⟨g, 2, none⟩ c).setCell ⟨g, 3, none⟩ d).setCell ⟨g, 4, none⟩ e) :=
  ((((h.setCell hg a).setCell hg b).setCell hg c).setCell hg d).setCell hg e
theorem red_box (w : World) (c i v le mo : Int) : Below w.heap.size w ((w.alloc (.cells #[.int .i64 c, .int .i64 i, .int .i64 (hiI v), .int .u64 (loI v), .int .i64 le, .int .i64 mo] 24)).alloc (.cells #[.int .i64 0, .int .i64 0, .string ⟨#[]⟩, .slice none 0 0, .slice none 0 0] 42)) ∧ Five ((w.alloc (.cells #[.int .i64 c, .int .i64 i, .int .i64 (hiI v), .int .u64 (loI v), .int .i64 le, .int .i64 mo] 24)).alloc (.cells #[.int .i64 0, .int .i64 0, .string ⟨#[]⟩, .slice none 0 0, .slice none 0 0] 42)) (w.heap.size + 1) (.int .i64 0) (.int .i64 0) (.string ⟨#[]⟩) (.slice none 0 0) (.slice none 0 0) :=
  ⟨((Below.refl _ _).alloc (Nat.le_refl _) _).alloc (by simp) _, Five.new _ _ _ _ _ _ _ _ (by simp)⟩

/-- What there is of no number: null. -/
def extV (i n : Int) : Value := if i = 0 then .agg #[.int .i64 1, .int .i64 0, .string ⟨#[]⟩, .slice none 0 0, .slice none 0 0] else numV n
theorem extV_none (n : Int) : extV 0 n = .agg #[.int .i64 1, .int .i64 0, .string ⟨#[]⟩, .slice none 0 0, .slice none 0 0] := by unfold extV; rw [if_pos rfl]
theorem extV_some (i n : Int) (h : i ≠ 0) : extV i n = .agg #[.int .i64 3, .int .i64 n, .string ⟨#[]⟩, .slice none 0 0, .slice none 0 0] := by unfold extV; rw [if_neg h]; rfl
set_option maxRecDepth 20000 in
set_option maxHeartbeats 1000000 in
theorem extreme_any (c i v le mo n : Int) (w : World) : Calls Try.prog 47 #[.agg #[.int .i64 c, .int .i64 i, .int .i64 (hiI v), .int .u64 (loI v), .int .i64 le, .int .i64 mo], .int .i64 n] w fun e w' => e = .returned (extV i n) ∧ Below w.heap.size w w' := by
  obtain ⟨hb0, h5⟩ := red_box w c i v le mo
  have H5 := Lib.hid h5
  have hle1 : w.heap.size ≤ w.heap.size + 1 := Nat.le_succ _
  by_cases hi : i = 0
  · have Hr := Lib.hid (show extV i n = .agg #[.int .i64 1, .int .i64 0, .string ⟨#[]⟩, .slice none 0 0, .slice none 0 0] by rw [hi]; exact extV_none n)
    have hz : (i == 0) = true := by rw [hi]; rfl
    obtain ⟨⟨d0, d1, d2, d3, d4⟩, f0, f1, f2, f3, f4⟩ := h5
    clear hi
    go_enter Try.func47, Try.ntmps47
    go_wp2
    refine bodyPost_ret (v := .agg #[.int .i64 1, .int .i64 0, .string ⟨#[]⟩, .slice none 0 0, .slice none 0 0]) ?_ rfl ⟨by rw [Hr.out], ?_⟩
    · simp [results, Try.results47, go_sem, *]
    · exact ((Below.refl _ _).alloc (Nat.le_refl _) _).alloc (by simp) _
  · have Hr := Lib.hid (extV_some i n hi)
    have hz : (i == 0) = false := by rw [beq_eq_false_iff_ne]; exact hi
    have hn := number_any n
    clear hi h5
    go_enter Try.func47, Try.ntmps47
    go_wp2_with fail
    refine (hn _).mono ?_
    rintro e w1 ⟨rfl, hb1⟩
    obtain ⟨⟨d0, d1, d2, d3, d4⟩, f0, f1, f2, f3, f4⟩ := H5.out.below hb1 rfl
    have hb2 := hb0.trans (hb1.mono hb0.size)
    clear hb0 hb1 hn
    unfold numV
    go_wp2
    refine bodyPost_ret (v := .agg #[.int .i64 3, .int .i64 n, .string ⟨#[]⟩, .slice none 0 0, .slice none 0 0]) ?_ rfl ⟨by rw [Hr.out], below_set5 hb2 hle1⟩
    simp [results, Try.results47, go_sem, *]
set_option maxRecDepth 20000 in
set_option maxHeartbeats 1000000 in
theorem tellCount_any (c i v le mo : Int) (w : World) : Calls Try.prog 43 #[.agg #[.int .i64 c, .int .i64 i, .int .i64 (hiI v), .int .u64 (loI v), .int .i64 le, .int .i64 mo]] w fun e w' => e = .returned (numV c) ∧ Below w.heap.size w w' := by
  obtain ⟨hb0, h5⟩ := red_box w c i v le mo
  have H5 := Lib.hid h5
  have hle1 : w.heap.size ≤ w.heap.size + 1 := Nat.le_succ _
  have hn := number_any c
  clear h5
  go_enter Try.func43, Try.ntmps43
  go_wp2_with fail
  refine (hn _).mono ?_
  rintro e w1 ⟨rfl, hb1⟩
  obtain ⟨⟨d0, d1, d2, d3, d4⟩, f0, f1, f2, f3, f4⟩ := H5.out.below hb1 rfl
  have hb2 := hb0.trans (hb1.mono hb0.size)
  clear hb0 hb1 hn
  unfold numV
  go_wp2
  refine bodyPost_ret (v := .agg #[.int .i64 3, .int .i64 c, .string ⟨#[]⟩, .slice none 0 0, .slice none 0 0]) ?_ rfl ⟨rfl, below_set5 hb2 hle1⟩
  simp [results, Try.results43, go_sem, *]
set_option maxRecDepth 20000 in
set_option maxHeartbeats 1000000 in
theorem tellLeast_any (c i v le mo : Int) (w : World) : Calls Try.prog 46 #[.agg #[.int .i64 c, .int .i64 i, .int .i64 (hiI v), .int .u64 (loI v), .int .i64 le, .int .i64 mo]] w fun e w' => e = .returned (extV i le) ∧ Below w.heap.size w w' := by
  obtain ⟨hb0, h5⟩ := red_box w c i v le mo
  have H5 := Lib.hid h5
  have hle1 : w.heap.size ≤ w.heap.size + 1 := Nat.le_succ _
  have hn := extreme_any c i v le mo le
  obtain ⟨k, x, Hx⟩ : ∃ k x : Int, Hid (extV i le = .agg #[.int .i64 k, .int .i64 x, .string ⟨#[]⟩, .slice none 0 0, .slice none 0 0]) := by
    by_cases hi : i = 0
    · exact ⟨1, 0, Lib.hid (by rw [hi]; exact extV_none _)⟩
    · exact ⟨3, le, Lib.hid (extV_some i _ hi)⟩
  rw [Hx.out] at hn ⊢
  clear h5
  go_enter Try.func46, Try.ntmps46
  go_wp2_with fail
  refine (hn _).mono ?_
  rintro e w1 ⟨rfl, hb1⟩
  obtain ⟨⟨d0, d1, d2, d3, d4⟩, f0, f1, f2, f3, f4⟩ := H5.out.below hb1 rfl
  have hb2 := hb0.trans (hb1.mono hb0.size)
  clear hb0 hb1 hn
  go_wp2
  refine bodyPost_ret (v := .agg #[.int .i64 k, .int .i64 x, .string ⟨#[]⟩, .slice none 0 0, .slice none 0 0]) ?_ rfl ⟨rfl, below_set5 hb2 hle1⟩
  simp [results, Try.results46, go_sem, *]
set_option maxRecDepth 20000 in
set_option maxHeartbeats 1000000 in
theorem tellMost_any (c i v le mo : Int) (w : World) : Calls Try.prog 48 #[.agg #[.int .i64 c, .int .i64 i, .int .i64 (hiI v), .int .u64 (loI v), .int .i64 le, .int .i64 mo]] w fun e w' => e = .returned (extV i mo) ∧ Below w.heap.size w w' := by
  obtain ⟨hb0, h5⟩ := red_box w c i v le mo
  have H5 := Lib.hid h5
  have hle1 : w.heap.size ≤ w.heap.size + 1 := Nat.le_succ _
  have hn := extreme_any c i v le mo mo
  obtain ⟨k, x, Hx⟩ : ∃ k x : Int, Hid (extV i mo = .agg #[.int .i64 k, .int .i64 x, .string ⟨#[]⟩, .slice none 0 0, .slice none 0 0]) := by
    by_cases hi : i = 0
    · exact ⟨1, 0, Lib.hid (by rw [hi]; exact extV_none _)⟩
    · exact ⟨3, mo, Lib.hid (extV_some i _ hi)⟩
  rw [Hx.out] at hn ⊢
  clear h5
  go_enter Try.func48, Try.ntmps48
  go_wp2_with fail
  refine (hn _).mono ?_
  rintro e w1 ⟨rfl, hb1⟩
  obtain ⟨⟨d0, d1, d2, d3, d4⟩, f0, f1, f2, f3, f4⟩ := H5.out.below hb1 rfl
  have hb2 := hb0.trans (hb1.mono hb0.size)
  clear hb0 hb1 hn
  go_wp2
  refine bodyPost_ret (v := .agg #[.int .i64 k, .int .i64 x, .string ⟨#[]⟩, .slice none 0 0, .slice none 0 0]) ?_ rfl ⟨rfl, below_set5 hb2 hle1⟩
  simp [results, Try.results48, go_sem, *]
end Go.Proofs.Ytinaecmpigenoaa
/-
  Package monoid: Tell, but of the sum and of all.
-/
namespace Go.Proofs.Ytinaecmpigenoaa
open Go.RowKit
attribute [local go_sem ↓] Go.wp_at_zero Go.wp_at_succ

set_option maxRecDepth 20000 in
set_option maxHeartbeats 2000000 in
theorem tell_1 (c i v le mo : Int) (w : World) (hv : R128 v) (hle : R64 le) (hmo : R64 mo) (hval : validB c i v le mo = true) :
    Calls Try.prog 15 #[.int .i64 1, .agg #[.int .i64 c, .int .i64 i, .int .i64 (hiI v), .int .u64 (loI v), .int .i64 le, .int .i64 mo]] w fun e w' => e = .returned (.tuple #[numV c, .int .i64 0]) ∧ Below w.heap.size w w' := by
  have hc := fun W => mvalid_any c i v le mo W hv hle hmo
  unfold redV at hc
  rw [hval] at hc
  obtain ⟨x0, b0, Hsm⟩ : ∃ (x0 : Int) (b0 : Bool), Hid (smallV v = .tuple #[.int .i64 x0, .bool b0]) := ⟨_, _, Lib.hid rfl⟩
  have htl := fun W => tellCount_any c i v le mo W
  obtain ⟨k, x, Hx⟩ : ∃ k x : Int, Hid (numV c = .agg #[.int .i64 k, .int .i64 x, .string ⟨#[]⟩, .slice none 0 0, .slice none 0 0]) := ⟨3, c, Lib.hid rfl⟩
  rw [Hx.out] at htl ⊢
  have Htl := Lib.hid htl
  have Hc := Lib.hid hc
  obtain ⟨hbw, h5⟩ := red_box w c i v le mo
  have H5 := Lib.hid h5
  have hle1 : w.heap.size ≤ w.heap.size + 1 := Nat.le_succ _
  clear hval hc htl h5
  go_enter Try.func15, Try.ntmps15
  go_wp2_with fail
  refine (Hc.out _).mono ?_
  rintro e w1 ⟨rfl, hb1⟩
  go_wp2_with fail
  refine (known_any 1 _).mono ?_
  rintro e w2 ⟨rfl, hb2⟩
  rw [show knownB 1 = true by decide]
  go_wp2_with fail
  refine (kinds_any _).mono ?_
  rintro e w3 ⟨rfl, hb3⟩
  have ik := kinds_at1 w3
  have hb03 := (hb1.trans (hb2.mono hb1.size)).trans (hb3.mono (Nat.le_trans hb1.size hb2.size))
  have hb3w : Below w.heap.size w w3 := hbw.trans (hb03.mono hbw.size)
  have hs4 : Six (w3.alloc (.cells #[.string ⟨#[95, 99, 111, 117, 110, 116]⟩, .bool false, .func (.func 43) #[] #[]] 80)) w.heap.size (.int .i64 c) (.int .i64 i) (.int .i64 (hiI v)) (.int .u64 (loI v)) (.int .i64 le) (.int .i64 mo) := (((Six.new w _ _ _ _ _ _ _).alloc _).below hb03 rfl).alloc _
  have H54 := Lib.hid ((H5.out.below hb03 rfl).alloc (.cells #[.string ⟨#[95, 99, 111, 117, 110, 116]⟩, .bool false, .func (.func 43) #[] #[]] 80))
  have Hs4 := Lib.hid hs4
  obtain ⟨⟨r0, r1, r2, r3, r4, r5⟩, -⟩ := hs4
  clear hbw hb1 hb2 hb3 H5
  go_wp2_with fail
  refine (total_agg c i v le mo _).mono ?_
  rintro e w5 ⟨rfl, hb5⟩
  go_wp2_with fail
  refine (small_any v _ hv).mono ?_
  rintro e w6 ⟨rfl, hb6⟩
  rw [Hsm.out]
  have hb56 := hb5.trans (hb6.mono hb5.size)
  have k1 : w6.cell? ⟨w3.heap.size, 1, none⟩ = some (.bool false) := mnew_later hb56 1 rfl
  have k2 : w6.cell? ⟨w3.heap.size, 2, none⟩ = some (.func (.func 43) #[] #[]) := mnew_later hb56 2 rfl
  have hs6 := Hs4.out.below hb56 rfl
  have H56 := Lib.hid (H54.out.below hb56 rfl)
  clear r0 r1 r2 r3 r4 r5 ik H54
  obtain ⟨⟨r0, r1, r2, r3, r4, r5⟩, -⟩ := hs6
  have hb6w : Below w.heap.size w w6 := (hb3w.alloc hb3w.size _).trans (hb56.mono (by simp; have := hb3w.size; omega))
  have sb6 := hb6w.size
  go_wp2_with fail
  refine (Htl.out _).mono ?_
  rintro e w7 ⟨rfl, hb7⟩
  obtain ⟨⟨e0, e1, e2, e3, e4⟩, f0, f1, f2, f3, f4⟩ := H56.out.below hb7 rfl
  have hb7w : Below w.heap.size w w7 := hb6w.trans (hb7.mono sb6)
  clear r0 r1 r2 r3 r4 r5 k1 k2 hb5 hb6 hb7 hb56 hb03 hb3w
  go_wp2
  refine bodyPost_ret (v := .tuple #[.agg #[.int .i64 k, .int .i64 x, .string ⟨#[]⟩, .slice none 0 0, .slice none 0 0], .int .i64 0]) ?_ rfl ⟨rfl, below_set5 hb7w hle1⟩
  simp [results, Try.results15, go_sem, *]
set_option maxRecDepth 20000 in
set_option maxHeartbeats 2000000 in
theorem tell_3 (c i v le mo : Int) (w : World) (hv : R128 v) (hle : R64 le) (hmo : R64 mo) (hval : validB c i v le mo = true) :
    Calls Try.prog 15 #[.int .i64 3, .agg #[.int .i64 c, .int .i64 i, .int .i64 (hiI v), .int .u64 (loI v), .int .i64 le, .int .i64 mo]] w fun e w' => e = .returned (.tuple #[extV i le, .int .i64 0]) ∧ Below w.heap.size w w' := by
  have hc := fun W => mvalid_any c i v le mo W hv hle hmo
  unfold redV at hc
  rw [hval] at hc
  obtain ⟨x0, b0, Hsm⟩ : ∃ (x0 : Int) (b0 : Bool), Hid (smallV v = .tuple #[.int .i64 x0, .bool b0]) := ⟨_, _, Lib.hid rfl⟩
  have htl := fun W => tellLeast_any c i v le mo W
  obtain ⟨k, x, Hx⟩ : ∃ k x : Int, Hid (extV i le = .agg #[.int .i64 k, .int .i64 x, .string ⟨#[]⟩, .slice none 0 0, .slice none 0 0]) := by
    by_cases hi : i = 0
    · exact ⟨1, 0, Lib.hid (by rw [hi]; exact extV_none _)⟩
    · exact ⟨3, le, Lib.hid (extV_some i _ hi)⟩
  rw [Hx.out] at htl ⊢
  have Htl := Lib.hid htl
  have Hc := Lib.hid hc
  obtain ⟨hbw, h5⟩ := red_box w c i v le mo
  have H5 := Lib.hid h5
  have hle1 : w.heap.size ≤ w.heap.size + 1 := Nat.le_succ _
  clear hval hc htl h5
  go_enter Try.func15, Try.ntmps15
  go_wp2_with fail
  refine (Hc.out _).mono ?_
  rintro e w1 ⟨rfl, hb1⟩
  go_wp2_with fail
  refine (known_any 3 _).mono ?_
  rintro e w2 ⟨rfl, hb2⟩
  rw [show knownB 3 = true by decide]
  go_wp2_with fail
  refine (kinds_any _).mono ?_
  rintro e w3 ⟨rfl, hb3⟩
  have ik := kinds_at3 w3
  have hb03 := (hb1.trans (hb2.mono hb1.size)).trans (hb3.mono (Nat.le_trans hb1.size hb2.size))
  have hb3w : Below w.heap.size w w3 := hbw.trans (hb03.mono hbw.size)
  have hs4 : Six (w3.alloc (.cells #[.string ⟨#[95, 109, 105, 110]⟩, .bool false, .func (.func 46) #[] #[]] 80)) w.heap.size (.int .i64 c) (.int .i64 i) (.int .i64 (hiI v)) (.int .u64 (loI v)) (.int .i64 le) (.int .i64 mo) := (((Six.new w _ _ _ _ _ _ _).alloc _).below hb03 rfl).alloc _
  have H54 := Lib.hid ((H5.out.below hb03 rfl).alloc (.cells #[.string ⟨#[95, 109, 105, 110]⟩, .bool false, .func (.func 46) #[] #[]] 80))
  have Hs4 := Lib.hid hs4
  obtain ⟨⟨r0, r1, r2, r3, r4, r5⟩, -⟩ := hs4
  clear hbw hb1 hb2 hb3 H5
  go_wp2_with fail
  refine (total_agg c i v le mo _).mono ?_
  rintro e w5 ⟨rfl, hb5⟩
  go_wp2_with fail
  refine (small_any v _ hv).mono ?_
  rintro e w6 ⟨rfl, hb6⟩
  rw [Hsm.out]
  have hb56 := hb5.trans (hb6.mono hb5.size)
  have k1 : w6.cell? ⟨w3.heap.size, 1, none⟩ = some (.bool false) := mnew_later hb56 1 rfl
  have k2 : w6.cell? ⟨w3.heap.size, 2, none⟩ = some (.func (.func 46) #[] #[]) := mnew_later hb56 2 rfl
  have hs6 := Hs4.out.below hb56 rfl
  have H56 := Lib.hid (H54.out.below hb56 rfl)
  clear r0 r1 r2 r3 r4 r5 ik H54
  obtain ⟨⟨r0, r1, r2, r3, r4, r5⟩, -⟩ := hs6
  have hb6w : Below w.heap.size w w6 := (hb3w.alloc hb3w.size _).trans (hb56.mono (by simp; have := hb3w.size; omega))
  have sb6 := hb6w.size
  go_wp2_with fail
  refine (Htl.out _).mono ?_
  rintro e w7 ⟨rfl, hb7⟩
  obtain ⟨⟨e0, e1, e2, e3, e4⟩, f0, f1, f2, f3, f4⟩ := H56.out.below hb7 rfl
  have hb7w : Below w.heap.size w w7 := hb6w.trans (hb7.mono sb6)
  clear r0 r1 r2 r3 r4 r5 k1 k2 hb5 hb6 hb7 hb56 hb03 hb3w
  go_wp2
  refine bodyPost_ret (v := .tuple #[.agg #[.int .i64 k, .int .i64 x, .string ⟨#[]⟩, .slice none 0 0, .slice none 0 0], .int .i64 0]) ?_ rfl ⟨rfl, below_set5 hb7w hle1⟩
  simp [results, Try.results15, go_sem, *]
set_option maxRecDepth 20000 in
set_option maxHeartbeats 2000000 in
theorem tell_4 (c i v le mo : Int) (w : World) (hv : R128 v) (hle : R64 le) (hmo : R64 mo) (hval : validB c i v le mo = true) :
    Calls Try.prog 15 #[.int .i64 4, .agg #[.int .i64 c, .int .i64 i, .int .i64 (hiI v), .int .u64 (loI v), .int .i64 le, .int .i64 mo]] w fun e w' => e = .returned (.tuple #[extV i mo, .int .i64 0]) ∧ Below w.heap.size w w' := by
  have hc := fun W => mvalid_any c i v le mo W hv hle hmo
  unfold redV at hc
  rw [hval] at hc
  obtain ⟨x0, b0, Hsm⟩ : ∃ (x0 : Int) (b0 : Bool), Hid (smallV v = .tuple #[.int .i64 x0, .bool b0]) := ⟨_, _, Lib.hid rfl⟩
  have htl := fun W => tellMost_any c i v le mo W
  obtain ⟨k, x, Hx⟩ : ∃ k x : Int, Hid (extV i mo = .agg #[.int .i64 k, .int .i64 x, .string ⟨#[]⟩, .slice none 0 0, .slice none 0 0]) := by
    by_cases hi : i = 0
    · exact ⟨1, 0, Lib.hid (by rw [hi]; exact extV_none _)⟩
    · exact ⟨3, mo, Lib.hid (extV_some i _ hi)⟩
  rw [Hx.out] at htl ⊢
  have Htl := Lib.hid htl
  have Hc := Lib.hid hc
  obtain ⟨hbw, h5⟩ := red_box w c i v le mo
  have H5 := Lib.hid h5
  have hle1 : w.heap.size ≤ w.heap.size + 1 := Nat.le_succ _
  clear hval hc htl h5
  go_enter Try.func15, Try.ntmps15
  go_wp2_with fail
  refine (Hc.out _).mono ?_
  rintro e w1 ⟨rfl, hb1⟩
  go_wp2_with fail
  refine (known_any 4 _).mono ?_
  rintro e w2 ⟨rfl, hb2⟩
  rw [show knownB 4 = true by decide]
  go_wp2_with fail
  refine (kinds_any _).mono ?_
  rintro e w3 ⟨rfl, hb3⟩
  have ik := kinds_at4 w3
  have hb03 := (hb1.trans (hb2.mono hb1.size)).trans (hb3.mono (Nat.le_trans hb1.size hb2.size))
  have hb3w : Below w.heap.size w w3 := hbw.trans (hb03.mono hbw.size)
  have hs4 : Six (w3.alloc (.cells #[.string ⟨#[95, 109, 97, 120]⟩, .bool false, .func (.func 48) #[] #[]] 80)) w.heap.size (.int .i64 c) (.int .i64 i) (.int .i64 (hiI v)) (.int .u64 (loI v)) (.int .i64 le) (.int .i64 mo) := (((Six.new w _ _ _ _ _ _ _).alloc _).below hb03 rfl).alloc _
  have H54 := Lib.hid ((H5.out.below hb03 rfl).alloc (.cells #[.string ⟨#[95, 109, 97, 120]⟩, .bool false, .func (.func 48) #[] #[]] 80))
  have Hs4 := Lib.hid hs4
  obtain ⟨⟨r0, r1, r2, r3, r4, r5⟩, -⟩ := hs4
  clear hbw hb1 hb2 hb3 H5
  go_wp2_with fail
  refine (total_agg c i v le mo _).mono ?_
  rintro e w5 ⟨rfl, hb5⟩
  go_wp2_with fail
  refine (small_any v _ hv).mono ?_
  rintro e w6 ⟨rfl, hb6⟩
  rw [Hsm.out]
  have hb56 := hb5.trans (hb6.mono hb5.size)
  have k1 : w6.cell? ⟨w3.heap.size, 1, none⟩ = some (.bool false) := mnew_later hb56 1 rfl
  have k2 : w6.cell? ⟨w3.heap.size, 2, none⟩ = some (.func (.func 48) #[] #[]) := mnew_later hb56 2 rfl
  have hs6 := Hs4.out.below hb56 rfl
  have H56 := Lib.hid (H54.out.below hb56 rfl)
  clear r0 r1 r2 r3 r4 r5 ik H54
  obtain ⟨⟨r0, r1, r2, r3, r4, r5⟩, -⟩ := hs6
  have hb6w : Below w.heap.size w w6 := (hb3w.alloc hb3w.size _).trans (hb56.mono (by simp; have := hb3w.size; omega))
  have sb6 := hb6w.size
  go_wp2_with fail
  refine (Htl.out _).mono ?_
  rintro e w7 ⟨rfl, hb7⟩
  obtain ⟨⟨e0, e1, e2, e3, e4⟩, f0, f1, f2, f3, f4⟩ := H56.out.below hb7 rfl
  have hb7w : Below w.heap.size w w7 := hb6w.trans (hb7.mono sb6)
  clear r0 r1 r2 r3 r4 r5 k1 k2 hb5 hb6 hb7 hb56 hb03 hb3w
  go_wp2
  refine bodyPost_ret (v := .tuple #[.agg #[.int .i64 k, .int .i64 x, .string ⟨#[]⟩, .slice none 0 0, .slice none 0 0], .int .i64 0]) ?_ rfl ⟨rfl, below_set5 hb7w hle1⟩
  simp [results, Try.results15, go_sem, *]
set_option maxRecDepth 20000 in
set_option maxHeartbeats 2000000 in
theorem tell_bad (c i v le mo k : Int) (w : World) (hv : R128 v) (hle : R64 le) (hmo : R64 mo) (hval : validB c i v le mo = false) :
    Calls Try.prog 15 #[.int .i64 k, .agg #[.int .i64 c, .int .i64 i, .int .i64 (hiI v), .int .u64 (loI v), .int .i64 le, .int .i64 mo]] w fun e w' => e = .returned (.tuple #[.agg #[.int .i64 0, .int .i64 0, .string ⟨#[]⟩, .slice none 0 0, .slice none 0 0], .int .i64 230]) ∧ Below w.heap.size w w' := by
  have hc := fun W => mvalid_any c i v le mo W hv hle hmo
  unfold redV at hc
  rw [hval] at hc
  have Hc := Lib.hid hc
  obtain ⟨hbw, h5⟩ := red_box w c i v le mo
  have H5 := Lib.hid h5
  have hle1 : w.heap.size ≤ w.heap.size + 1 := Nat.le_succ _
  clear hval hc h5
  go_enter Try.func15, Try.ntmps15
  go_wp2_with fail
  refine (Hc.out _).mono ?_
  rintro e w1 ⟨rfl, hb1⟩
  obtain ⟨⟨e0, e1, e2, e3, e4⟩, f0, f1, f2, f3, f4⟩ := H5.out.below hb1 rfl
  have hb1w : Below w.heap.size w w1 := hbw.trans (hb1.mono hbw.size)
  clear hb1 hbw
  go_wp2
  refine bodyPost_ret (v := .tuple #[.agg #[.int .i64 0, .int .i64 0, .string ⟨#[]⟩, .slice none 0 0, .slice none 0 0], .int .i64 230]) ?_ rfl ⟨rfl, below_set5 hb1w hle1⟩
  simp [results, Try.results15, go_sem, *]
set_option maxRecDepth 20000 in
set_option maxHeartbeats 2000000 in
theorem tell_arg (c i v le mo k : Int) (w : World) (hv : R128 v) (hle : R64 le) (hmo : R64 mo) (hval : validB c i v le mo = true) (hk : knownB k = false) :
    Calls Try.prog 15 #[.int .i64 k, .agg #[.int .i64 c, .int .i64 i, .int .i64 (hiI v), .int .u64 (loI v), .int .i64 le, .int .i64 mo]] w fun e w' => e = .returned (.tuple #[.agg #[.int .i64 0, .int .i64 0, .string ⟨#[]⟩, .slice none 0 0, .slice none 0 0], .int .i64 2]) ∧ Below w.heap.size w w' := by
  have hc := fun W => mvalid_any c i v le mo W hv hle hmo
  unfold redV at hc
  rw [hval] at hc
  have Hc := Lib.hid hc
  have hkn := fun W => known_any k W
  rw [hk] at hkn
  have Hk := Lib.hid hkn
  obtain ⟨hbw, h5⟩ := red_box w c i v le mo
  have H5 := Lib.hid h5
  have hle1 : w.heap.size ≤ w.heap.size + 1 := Nat.le_succ _
  clear hval hc h5 hkn hk
  go_enter Try.func15, Try.ntmps15
  go_wp2_with fail
  refine (Hc.out _).mono ?_
  rintro e w1 ⟨rfl, hb1⟩
  go_wp2_with fail
  refine (Hk.out _).mono ?_
  rintro e w2 ⟨rfl, hb2⟩
  obtain ⟨⟨e0, e1, e2, e3, e4⟩, f0, f1, f2, f3, f4⟩ := (H5.out.below hb1 rfl).below hb2 rfl
  have hb1w : Below w.heap.size w w2 := hbw.trans ((hb1.trans (hb2.mono hb1.size)).mono hbw.size)
  clear hb1 hb2 hbw
  go_wp2
  refine bodyPost_ret (v := .tuple #[.agg #[.int .i64 0, .int .i64 0, .string ⟨#[]⟩, .slice none 0 0, .slice none 0 0], .int .i64 2]) ?_ rfl ⟨rfl, below_set5 hb1w hle1⟩
  simp [results, Try.results15, go_sem, *]
end Go.Proofs.Ytinaecmpigenoaa
