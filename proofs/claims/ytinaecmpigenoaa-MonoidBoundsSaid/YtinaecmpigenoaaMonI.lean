/-
  Package monoid: Kind.
-/
import Derived.Test.YtinaecmpigenoaaMonG
namespace Go.Proofs.Ytinaecmpigenoaa
open Go.RowKit
attribute [local go_sem ↓] Go.wp_at_zero Go.wp_at_succ

/-- The kind of a name. -/
def kindOf (s : ByteArray) : Int := if s = ⟨#[95, 99, 111, 117, 110, 116]⟩ then 1 else if s = ⟨#[95, 115, 117, 109]⟩ then 2 else if s = ⟨#[95, 109, 105, 110]⟩ then 3 else if s = ⟨#[95, 109, 97, 120]⟩ then 4 else if s = ⟨#[95, 115, 116, 97, 116, 115]⟩ then 5 else 0
def kindE (s : ByteArray) : Int := if kindOf s = 0 then 4 else 0
theorem kinds_at0 (w : World) : (Instr.index 81 (.agg #[.string ⟨#[]⟩, .bool false, .nilFunc, .string ⟨#[95, 99, 111, 117, 110, 116]⟩, .bool false, .func (.func 43) #[] #[], .string ⟨#[95, 115, 117, 109]⟩, .bool true, .func (.func 45) #[] #[], .string ⟨#[95, 109, 105, 110]⟩, .bool false, .func (.func 46) #[] #[], .string ⟨#[95, 109, 97, 120]⟩, .bool false, .func (.func 48) #[] #[], .string ⟨#[95, 115, 116, 97, 116, 115]⟩, .bool true, .func (.func 49) #[] #[]]) (.int .i64 0)).run Try.prog w = .ok (.agg #[.string ⟨#[]⟩, .bool false, .nilFunc]) w := by kernel_rfl

theorem kind_is1 (s : ByteArray) (h : s = ⟨#[95, 99, 111, 117, 110, 116]⟩) : kindOf s = 1 ∧ kindE s = 0 := by subst h; decide
theorem kind_is2 (s : ByteArray) (h : s = ⟨#[95, 115, 117, 109]⟩) : kindOf s = 2 ∧ kindE s = 0 := by subst h; decide
theorem kind_is3 (s : ByteArray) (h : s = ⟨#[95, 109, 105, 110]⟩) : kindOf s = 3 ∧ kindE s = 0 := by subst h; decide
theorem kind_is4 (s : ByteArray) (h : s = ⟨#[95, 109, 97, 120]⟩) : kindOf s = 4 ∧ kindE s = 0 := by subst h; decide
theorem kind_is5 (s : ByteArray) (h : s = ⟨#[95, 115, 116, 97, 116, 115]⟩) : kindOf s = 5 ∧ kindE s = 0 := by subst h; decide
theorem kind_none (s : ByteArray) (h : ∀ j : Nat, 1 ≤ j → j < 6 → ¬ s = kindName j) : kindOf s = 0 ∧ kindE s = 4 := by
  have e : kindOf s = 0 := by
    unfold kindOf
    have h1 : ¬ s = ⟨#[95, 99, 111, 117, 110, 116]⟩ := h 1 (by decide) (by decide)
    have h2 : ¬ s = ⟨#[95, 115, 117, 109]⟩ := h 2 (by decide) (by decide)
    have h3 : ¬ s = ⟨#[95, 109, 105, 110]⟩ := h 3 (by decide) (by decide)
    have h4 : ¬ s = ⟨#[95, 109, 97, 120]⟩ := h 4 (by decide) (by decide)
    have h5 : ¬ s = ⟨#[95, 115, 116, 97, 116, 115]⟩ := h 5 (by decide) (by decide)
    rw [if_neg h1, if_neg h2, if_neg h3, if_neg h4, if_neg h5]
  exact ⟨e, by unfold kindE; rw [if_pos e]⟩
theorem names_next {s : ByteArray} {k : Nat} (h : ∀ j : Nat, 1 ≤ j → j < k → ¬ s = kindName j) (hq : ¬ s = kindName k) : ∀ j : Nat, 1 ≤ j → j < k + 1 → ¬ s = kindName j := by
  intro j h1 h2
  by_cases e : j = k
  · subst e; exact hq
  · exact h j h1 (by omega)
theorem str_no {s : ByteArray} {l : List UInt8} (h : ¬ s = ⟨⟨l⟩⟩) : (l == s.toList) = false := by
  rw [Bool.eq_false_iff]
  intro e
  have e2 : l = s.toList := by simpa using e
  rw [ByteArray.toList_eq] at e2
  apply h
  obtain ⟨⟨a⟩⟩ := s
  simp only at e2
  rw [e2]
set_option maxRecDepth 20000 in
set_option maxHeartbeats 2000000 in
theorem kind_any (s : ByteArray) (w : World) : Calls Try.prog 17 #[.string s] w fun e w' => e = .returned (.tuple #[.int .i64 (kindOf s), .int .i64 (kindE s)]) ∧ Below w.heap.size w w' := by
  go_enter Try.func17, Try.ntmps17
  go_wp2_with fail
  refine (kinds_any _).mono ?_
  rintro e w1 ⟨rfl, hb1⟩
  go_wp2_with fail
  go_loopw [7] (fun x wr => ∃ k : Nat, k ≤ 6 ∧ x = .int .i64 (k : Int) ∧ Below w.heap.size w wr ∧ Hid (∀ j : Nat, 1 ≤ j → j < k → ¬ s = kindName j)) (fun x _ => 6 - (intOf x).toNat)
  case atStart => exact ⟨0, Nat.zero_le _, rfl, hb1, Lib.hid (fun j h1 h2 => absurd h2 (Nat.not_lt_zero _))⟩
  case round =>
    obtain ⟨k, hk, rfl, hbr, Hno⟩ := hrel
    clear hb1
    have hcases : k = 0 ∨ k = 1 ∨ k = 2 ∨ k = 3 ∨ k = 4 ∨ k = 5 ∨ k = 6 := by omega
    rcases hcases with rfl | rfl | rfl | rfl | rfl | rfl | rfl
    · have i0 := kinds_at0 wr
      have h00 : ((0 : Nat) : Int) = 0 := rfl
      rw [h00]
      have sb := hbr.size
      clear hk h00
      go_wp2_with fail
      refine (known_any 0 _).mono ?_
      rintro e w2 ⟨rfl, hb2⟩
      have hkn : knownB 0 = false := by decide
      rw [hkn]
      have hbn : Below w.heap.size w w2 := (hbr.alloc sb _).trans (hb2.mono (by simp; omega))
      clear hb2 hbr
      go_wp2
      go_roundw
      case rel => exact ⟨1, by omega, rfl, hbn, Lib.hid (fun j h1 h2 => by omega)⟩
      case measure => simp [intOf]
    · have i0 := kinds_at1 wr
      have h00 : ((1 : Nat) : Int) = 1 := rfl
      rw [h00]
      have sb := hbr.size
      clear hk h00
      go_wp2_with fail
      refine (known_any 1 _).mono ?_
      rintro e w2 ⟨rfl, hb2⟩
      have hkn : knownB 1 = true := by decide
      rw [hkn]
      have hbn : Below w.heap.size w w2 := (hbr.alloc sb _).trans (hb2.mono (by simp; omega))
      have d0 : w2.cell? ⟨wr.heap.size, 0, none⟩ = some (.string ⟨#[95, 99, 111, 117, 110, 116]⟩) := new_later hb2 0 rfl
      clear hb2 hbr i0
      by_cases hq : s = ⟨#[95, 99, 111, 117, 110, 116]⟩
      · have HK := Lib.hid (kind_is1 s hq)
        subst hq
        clear Hno
        go_wp2
        exact bodyPost_ret (v := .tuple #[.int .i64 1, .int .i64 0]) (by simp [results, Try.results17, go_sem]) rfl ⟨by rw [HK.out.1, HK.out.2], hbn⟩
      · have hq2 : (([95, 99, 111, 117, 110, 116] : List UInt8) == s.toList) = false := str_no (l := [95, 99, 111, 117, 110, 116]) hq
        have Hn2 := Lib.hid (names_next (k := 1) Hno.out hq)
        clear hq Hno
        go_wp2
        go_roundw
        case rel => exact ⟨2, by omega, rfl, hbn, Hn2⟩
        case measure => simp [intOf]
    · have i0 := kinds_at2 wr
      have h00 : ((2 : Nat) : Int) = 2 := rfl
      rw [h00]
      have sb := hbr.size
      clear hk h00
      go_wp2_with fail
      refine (known_any 2 _).mono ?_
      rintro e w2 ⟨rfl, hb2⟩
      have hkn : knownB 2 = true := by decide
      rw [hkn]
      have hbn : Below w.heap.size w w2 := (hbr.alloc sb _).trans (hb2.mono (by simp; omega))
      have d0 : w2.cell? ⟨wr.heap.size, 0, none⟩ = some (.string ⟨#[95, 115, 117, 109]⟩) := new_later hb2 0 rfl
      clear hb2 hbr i0
      by_cases hq : s = ⟨#[95, 115, 117, 109]⟩
      · have HK := Lib.hid (kind_is2 s hq)
        subst hq
        clear Hno
        go_wp2
        exact bodyPost_ret (v := .tuple #[.int .i64 2, .int .i64 0]) (by simp [results, Try.results17, go_sem]) rfl ⟨by rw [HK.out.1, HK.out.2], hbn⟩
      · have hq2 : (([95, 115, 117, 109] : List UInt8) == s.toList) = false := str_no (l := [95, 115, 117, 109]) hq
        have Hn2 := Lib.hid (names_next (k := 2) Hno.out hq)
        clear hq Hno
        go_wp2
        go_roundw
        case rel => exact ⟨3, by omega, rfl, hbn, Hn2⟩
        case measure => simp [intOf]
    · have i0 := kinds_at3 wr
      have h00 : ((3 : Nat) : Int) = 3 := rfl
      rw [h00]
      have sb := hbr.size
      clear hk h00
      go_wp2_with fail
      refine (known_any 3 _).mono ?_
      rintro e w2 ⟨rfl, hb2⟩
      have hkn : knownB 3 = true := by decide
      rw [hkn]
      have hbn : Below w.heap.size w w2 := (hbr.alloc sb _).trans (hb2.mono (by simp; omega))
      have d0 : w2.cell? ⟨wr.heap.size, 0, none⟩ = some (.string ⟨#[95, 109, 105, 110]⟩) := new_later hb2 0 rfl
      clear hb2 hbr i0
      by_cases hq : s = ⟨#[95, 109, 105, 110]⟩
      · have HK := Lib.hid (kind_is3 s hq)
        subst hq
        clear Hno
        go_wp2
        exact bodyPost_ret (v := .tuple #[.int .i64 3, .int .i64 0]) (by simp [results, Try.results17, go_sem]) rfl ⟨by rw [HK.out.1, HK.out.2], hbn⟩
      · have hq2 : (([95, 109, 105, 110] : List UInt8) == s.toList) = false := str_no (l := [95, 109, 105, 110]) hq
        have Hn2 := Lib.hid (names_next (k := 3) Hno.out hq)
        clear hq Hno
        go_wp2
        go_roundw
        case rel => exact ⟨4, by omega, rfl, hbn, Hn2⟩
        case measure => simp [intOf]
    · have i0 := kinds_at4 wr
      have h00 : ((4 : Nat) : Int) = 4 := rfl
      rw [h00]
      have sb := hbr.size
      clear hk h00
      go_wp2_with fail
      refine (known_any 4 _).mono ?_
      rintro e w2 ⟨rfl, hb2⟩
      have hkn : knownB 4 = true := by decide
      rw [hkn]
      have hbn : Below w.heap.size w w2 := (hbr.alloc sb _).trans (hb2.mono (by simp; omega))
      have d0 : w2.cell? ⟨wr.heap.size, 0, none⟩ = some (.string ⟨#[95, 109, 97, 120]⟩) := new_later hb2 0 rfl
      clear hb2 hbr i0
      by_cases hq : s = ⟨#[95, 109, 97, 120]⟩
      · have HK := Lib.hid (kind_is4 s hq)
        subst hq
        clear Hno
        go_wp2
        exact bodyPost_ret (v := .tuple #[.int .i64 4, .int .i64 0]) (by simp [results, Try.results17, go_sem]) rfl ⟨by rw [HK.out.1, HK.out.2], hbn⟩
      · have hq2 : (([95, 109, 97, 120] : List UInt8) == s.toList) = false := str_no (l := [95, 109, 97, 120]) hq
        have Hn2 := Lib.hid (names_next (k := 4) Hno.out hq)
        clear hq Hno
        go_wp2
        go_roundw
        case rel => exact ⟨5, by omega, rfl, hbn, Hn2⟩
        case measure => simp [intOf]
    · have i0 := kinds_at5 wr
      have h00 : ((5 : Nat) : Int) = 5 := rfl
      rw [h00]
      have sb := hbr.size
      clear hk h00
      go_wp2_with fail
      refine (known_any 5 _).mono ?_
      rintro e w2 ⟨rfl, hb2⟩
      have hkn : knownB 5 = true := by decide
      rw [hkn]
      have hbn : Below w.heap.size w w2 := (hbr.alloc sb _).trans (hb2.mono (by simp; omega))
      have d0 : w2.cell? ⟨wr.heap.size, 0, none⟩ = some (.string ⟨#[95, 115, 116, 97, 116, 115]⟩) := new_later hb2 0 rfl
      clear hb2 hbr i0
      by_cases hq : s = ⟨#[95, 115, 116, 97, 116, 115]⟩
      · have HK := Lib.hid (kind_is5 s hq)
        subst hq
        clear Hno
        go_wp2
        exact bodyPost_ret (v := .tuple #[.int .i64 5, .int .i64 0]) (by simp [results, Try.results17, go_sem]) rfl ⟨by rw [HK.out.1, HK.out.2], hbn⟩
      · have hq2 : (([95, 115, 116, 97, 116, 115] : List UInt8) == s.toList) = false := str_no (l := [95, 115, 116, 97, 116, 115]) hq
        have Hn2 := Lib.hid (names_next (k := 5) Hno.out hq)
        clear hq Hno
        go_wp2
        go_roundw
        case rel => exact ⟨6, by omega, rfl, hbn, Hn2⟩
        case measure => simp [intOf]
    · have h00 : ((6 : Nat) : Int) = 6 := rfl
      rw [h00]
      have HK := Lib.hid (kind_none s Hno.out)
      clear hk h00 Hno
      go_wp2
      exact bodyPost_ret (v := .tuple #[.int .i64 0, .int .i64 4]) (by simp [results, Try.results17, go_sem]) rfl ⟨by rw [HK.out.1, HK.out.2], hbr⟩
end Go.Proofs.Ytinaecmpigenoaa
