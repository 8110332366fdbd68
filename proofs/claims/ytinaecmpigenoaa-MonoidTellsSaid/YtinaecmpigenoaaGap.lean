import Derived.Test.YtinaecmpigenoaaGao
import Derived.Test.YtinaecmpigenoaaGae
import Derived.Test.YtinaecmpigenoaaGai
import Derived.Test.YtinaecmpigenoaaGak
import Derived.Test.YtinaecmpigenoaaGac
/-
  Layer 4, the reference: Same.
-/
namespace Go.Proofs.Ytinaecmpigenoaa
open Go.RowKit
set_option linter.unusedVariables false

theorem sameR_comm (T T' : VT) : sameR T' T = sameR T T' := by
  unfold sameR
  have : sameV T' T = sameV T T' := by
    rw [Bool.eq_iff_iff, sameV_iff, sameV_iff]
    exact ⟨fun h => h.symm, fun h => h.symm⟩
  rw [this]
  cases T.ok <;> cases T'.ok <;> rfl
theorem sameR_refl (T : VT) : sameR T T = T.ok := by
  cases h : T.ok with
  | true => exact sameR_self T h
  | false => unfold sameR; rw [h]; rfl
theorem ok_all {T : VT} (h : T.ok = true) : T.all = true := by unfold VT.ok at h; simp only [Bool.and_eq_true] at h; exact h.2.2
set_option maxRecDepth 20000 in
set_option maxHeartbeats 4000000 in
theorem rsame_any (T T' : VT) (B : Nat) (w : World) (hL : Lie w B T) (hL' : Lie w B T') (hS : Sml 1048576 T) (hS' : Sml 1048576 T') (hB : B ≤ w.heap.size) :
    Calls Try.prog 21 #[T.agg, T'.agg] w fun e w' => e = .returned (.bool (sameR T T')) ∧ Below w.heap.size w w' := by
  have HR := Lib.hid (fun W (h : Below w.heap.size w W) => right_any T B W (hL.later (h.mono hB)) hS (Nat.le_trans hB h.size))
  have HR' := Lib.hid (fun W (h : Below w.heap.size w W) => right_any T' B W (hL'.later (h.mono hB)) hS' (Nat.le_trans hB h.size))
  have HO := Lib.hid (fun (h1 : T.ok = true) (h2 : T'.ok = true) W (h : Below w.heap.size w W) => rone_any T T' B W (hL.later (h.mono hB)) (hL'.later (h.mono hB)) (Nat.le_trans hB h.size) (ok_all h1) (ok_all h2))
  have HF := Lib.hid (show sameR T T' = (T.ok && (T'.ok && sameV T T')) by unfold sameR; cases T.ok <;> cases T'.ok <;> rfl)
  generalize sameV T T' = sv at *
  generalize sameR T T' = sr at *
  cases ok1 : T.ok
  · rw [ok1] at HR
    have HG := Lib.hid (show sr = false by rw [HF.out, ok1]; rfl)
    clear HO HF HR' hL hL' hS hS' ok1
    obtain ⟨k, n, s, cA, cn, cc, kA, kn, kc, keys, kids⟩ := T
    obtain ⟨k', n', s', cA', cn', cc', kA', kn', kc', keys', kids'⟩ := T'
    simp only [VT.agg] at HR ⊢
    have hb1 := bel_alloc (bel_alloc (Below.refl w.heap.size w) (.cells #[.int .i64 k, .int .i64 n, .string s, .slice cA cn cc, .slice kA kn kc] 42)) (.cells #[.int .i64 k', .int .i64 n', .string s', .slice cA' cn' cc', .slice kA' kn' kc'] 42)
    go_enter Try.func21, Try.ntmps21
    go_wp2_with fail
    refine (HR.out _ hb1).mono ?_
    rintro e w1 ⟨rfl, hb2⟩
    go_wp2
    go_ret
    exact ⟨vret_b (by rw [HG.out]), bel_next hb1 hb2⟩
  · rw [ok1] at HR
    cases ok2 : T'.ok
    · rw [ok2] at HR'
      have HG := Lib.hid (show sr = false by rw [HF.out, ok1, ok2]; rfl)
      clear HO HF hL hL' hS hS' ok1 ok2
      obtain ⟨k, n, s, cA, cn, cc, kA, kn, kc, keys, kids⟩ := T
      obtain ⟨k', n', s', cA', cn', cc', kA', kn', kc', keys', kids'⟩ := T'
      simp only [VT.agg] at HR HR' ⊢
      have hb1 := bel_alloc (bel_alloc (Below.refl w.heap.size w) (.cells #[.int .i64 k, .int .i64 n, .string s, .slice cA cn cc, .slice kA kn kc] 42)) (.cells #[.int .i64 k', .int .i64 n', .string s', .slice cA' cn' cc', .slice kA' kn' kc'] 42)
      have Hu := Lib.hid (VFive.new (w.alloc (.cells #[.int .i64 k, .int .i64 n, .string s, .slice cA cn cc, .slice kA kn kc] 42)) (.int .i64 k') (.int .i64 n') (.string s') (.slice cA' cn' cc') (.slice kA' kn' kc') 42 (w.heap.size + 1) (World.size_alloc _ _))
      go_enter Try.func21, Try.ntmps21
      go_wp2_with fail
      refine (HR.out _ hb1).mono ?_
      rintro e w1 ⟨rfl, hb2⟩
      obtain ⟨⟨y0, y1, y2, y3, y4⟩, -⟩ := Hu.out.later hb2
      have hb3 := bel_next hb1 hb2
      go_wp2_with fail
      refine (HR'.out _ hb3).mono ?_
      rintro e w2 ⟨rfl, hb4⟩
      go_wp2
      go_ret
      exact ⟨vret_b (by rw [HG.out]), bel_next hb3 hb4⟩
    · rw [ok2] at HR'
      have HG := Lib.hid (show sr = sv by rw [HF.out, ok1, ok2]; rfl)
      have HO := Lib.hid (HO.out ok1 ok2)
      clear HF hL hL' hS hS' ok1 ok2
      obtain ⟨k, n, s, cA, cn, cc, kA, kn, kc, keys, kids⟩ := T
      obtain ⟨k', n', s', cA', cn', cc', kA', kn', kc', keys', kids'⟩ := T'
      simp only [VT.agg] at HR HR' HO ⊢
      have hb1 := bel_alloc (bel_alloc (Below.refl w.heap.size w) (.cells #[.int .i64 k, .int .i64 n, .string s, .slice cA cn cc, .slice kA kn kc] 42)) (.cells #[.int .i64 k', .int .i64 n', .string s', .slice cA' cn' cc', .slice kA' kn' kc'] 42)
      have Hv := Lib.hid ((VFive.new w (.int .i64 k) (.int .i64 n) (.string s) (.slice cA cn cc) (.slice kA kn kc) 42 w.heap.size rfl).alloc (.cells #[.int .i64 k', .int .i64 n', .string s', .slice cA' cn' cc', .slice kA' kn' kc'] 42))
      have Hu := Lib.hid (VFive.new (w.alloc (.cells #[.int .i64 k, .int .i64 n, .string s, .slice cA cn cc, .slice kA kn kc] 42)) (.int .i64 k') (.int .i64 n') (.string s') (.slice cA' cn' cc') (.slice kA' kn' kc') 42 (w.heap.size + 1) (World.size_alloc _ _))
      go_enter Try.func21, Try.ntmps21
      go_wp2_with fail
      refine (HR.out _ hb1).mono ?_
      rintro e w1 ⟨rfl, hb2⟩
      obtain ⟨⟨y0, y1, y2, y3, y4⟩, -⟩ := Hu.out.later hb2
      have hb3 := bel_next hb1 hb2
      go_wp2_with fail
      refine (HR'.out _ hb3).mono ?_
      rintro e w2 ⟨rfl, hb4⟩
      have hb5 := bel_next hb3 hb4
      clear y0 y1 y2 y3 y4
      obtain ⟨⟨y0, y1, y2, y3, y4⟩, -⟩ := (Hu.out.later hb2).later hb4
      obtain ⟨⟨z0, z1, z2, z3, z4⟩, -⟩ := (Hv.out.later hb2).later hb4
      go_wp2_with fail
      refine (HO.out _ hb5).mono ?_
      rintro e w3 ⟨rfl, hb6⟩
      go_wp2
      go_ret
      exact ⟨vret_b (by rw [HG.out]), bel_next hb5 hb6⟩
end Go.Proofs.Ytinaecmpigenoaa
/-
  Package monoid: Kind.
-/
namespace Go.Proofs.Ytinaecmpigenoaa
open Go.RowKit
attribute [local go_sem ↓] Go.wp_at_zero Go.wp_at_succ

/-- The kind of a name. -/
def kindOf (s : ByteArray) : Int := if s = ⟨#[95, 99, 111, 117, 110, 116]⟩ then 1 else if s = ⟨#[95, 115, 117, 109]⟩ then 2 else if s = ⟨#[95, 109, 105, 110]⟩ then 3 else if s = ⟨#[95, 109, 97, 120]⟩ then 4 else if s = ⟨#[95, 115, 116, 97, 116, 115]⟩ then 5 else 0
def kindE (s : ByteArray) : Int := if kindOf s = 0 then 4 else 0
theorem kinds_at0 (w : World) : (Instr.index 81 (.agg #[.string ⟨#[]⟩, .bool false, .nilFunc, .string ⟨#[95, 99, 111, 117, 110, 116]⟩, .bool false, .func (.func 43) #[] #[], .string ⟨#[95, 115, 117, 109]⟩, .bool true, .func (.func 45) #[] #[], .string ⟨#[95, 109, 105, 110]⟩, .bool false, .func (.func 46) #[] #[], .string ⟨#[95, 109, 97, 120]⟩, .bool false, .func (.func 48) #[] #[], .string ⟨#[95, 115, 116, 97, 116, 115]⟩, .bool true, .func (.func 49) #[] #[]]) (.int .i64 0)).run Try.prog w = .ok (.agg #[.string ⟨#[]⟩, .bool false, .nilFunc]) w := by kernel_rfl

theorem kind_is1 (s : ByteArray) (h : s = ⟨#[95, 99, 111, 117, 110, 116]⟩) : kindOf s = 1 ∧ kindE s = 0 := by subst h; decide
theorem kind_is2 (s : ByteArray) (h : s = ⟨#[95, 115, 117, 109]⟩) : kindOf s = 2 ∧ kindE s = 0 := by subst h; decide
theorem kind_is3 (s : ByteArray) (h : s = ⟨#[95, 109, 105, 110]⟩) : kindOf s = 3 ∧ kindE s = 0 := by subst h; decide
theorem kind_is4 (s : ByteArray) (h : s = ⟨#[95, 109, 97, 120]⟩) : kindOf s = 4 ∧ kindE s = 0 := by subst h; decide
theorem kind_is5 (s : ByteArray) (h : s = ⟨#[95, 115, 116, 97, 116, 115]⟩) : kindOf s = 5 ∧ kindE s = 0 := by subst h; decide
theorem kind_none (s : ByteArray) (h : ∀ j : Nat, 1 ≤ j → j < 6 → ¬ s = kindName j) : kindOf s = 0 ∧ kindE s = 4 := by
  have e : kindOf s = 0 := by
    unfold kindOf
    have h1 : ¬ s = ⟨#[95, 99, 111, 117, 110, 116]⟩ := h 1 (by decide) (by decide)
    have h2 : ¬ s = ⟨#[95, 115, 117, 109]⟩ := h 2 (by decide) (by decide)
    have h3 : ¬ s = ⟨#[95, 109, 105, 110]⟩ := h 3 (by decide) (by decide)
    have h4 : ¬ s = ⟨#[95, 109, 97, 120]⟩ := h 4 (by decide) (by decide)
    have h5 : ¬ s = ⟨#[95, 115, 116, 97, 116, 115]⟩ := h 5 (by decide) (by decide)
    rw [if_neg h1, if_neg h2, if_neg h3, if_neg h4, if_neg h5]
  exact ⟨e, by unfold kindE; rw [if_pos e]⟩
theorem names_next {s : ByteArray} {k : Nat} (h : ∀ j : Nat, 1 ≤ j → j < k → ¬ s = kindName j) (hq : ¬ s = kindName k) : ∀ j : Nat, 1 ≤ j → j < k + 1 → ¬ s = kindName j := by
  intro j h1 h2
  by_cases e : j = k
  · subst e; exact hq
  · exact h j h1 (by omega)
theorem str_no {s : ByteArray} {l : List UInt8} (h : ¬ s = ⟨⟨l⟩⟩) : (l == s.toList) = false := by
  rw [Bool.eq_false_iff]
  intro e
  have e2 : l = s.toList := by simpa using e
  rw [ByteArray.toList_eq] at e2
  apply h
  obtain ⟨⟨a⟩⟩ := s
  simp only at e2
  rw [e2]
set_option maxRecDepth 20000 in
set_option maxHeartbeats 2000000 in
theorem kind_any (s : ByteArray) (w : World) : Calls Try.prog 17 #[.string s] w fun e w' => e = .returned (.tuple #[.int .i64 (kindOf s), .int .i64 (kindE s)]) ∧ Below w.heap.size w w' := by
  go_enter Try.func17, Try.ntmps17
  go_wp2_with fail
  refine (kinds_any _).mono ?_
  rintro e w1 ⟨rfl, hb1⟩
  go_wp2_with fail
  go_loopw [7] (fun x wr => ∃ k : Nat, k ≤ 6 ∧ x = .int .i64 (k : Int) ∧ Below w.heap.size w wr ∧ Hid (∀ j : Nat, 1 ≤ j → j < k → ¬ s = kindName j)) (fun x _ => 6 - (intOf x).toNat)
  case atStart => exact ⟨0, Nat.zero_le _, rfl, hb1, Lib.hid (fun j h1 h2 => absurd h2 (Nat.not_lt_zero _))⟩
  case round =>
    obtain ⟨k, hk, rfl, hbr, Hno⟩ := hrel
    clear hb1
    have hcases : k = 0 ∨ k = 1 ∨ k = 2 ∨ k = 3 ∨ k = 4 ∨ k = 5 ∨ k = 6 := by omega
    rcases hcases with rfl | rfl | rfl | rfl | rfl | rfl | rfl
    · have i0 := kinds_at0 wr
      have h00 : ((0 : Nat) : Int) = 0 := rfl
      rw [h00]
      have sb := hbr.size
      clear hk h00
      go_wp2_with fail
      refine (known_any 0 _).mono ?_
      rintro e w2 ⟨rfl, hb2⟩
      have hkn : knownB 0 = false := by decide
      rw [hkn]
      have hbn : Below w.heap.size w w2 := (hbr.alloc sb _).trans (hb2.mono (by simp; omega))
      clear hb2 hbr
      go_wp2
      go_roundw
      case rel => exact ⟨1, by omega, rfl, hbn, Lib.hid (fun j h1 h2 => by omega)⟩
      case measure => simp [intOf]
    · have i0 := kinds_at1 wr
      have h00 : ((1 : Nat) : Int) = 1 := rfl
      rw [h00]
      have sb := hbr.size
      clear hk h00
      go_wp2_with fail
      refine (known_any 1 _).mono ?_
      rintro e w2 ⟨rfl, hb2⟩
      have hkn : knownB 1 = true := by decide
      rw [hkn]
      have hbn : Below w.heap.size w w2 := (hbr.alloc sb _).trans (hb2.mono (by simp; omega))
      have d0 : w2.cell? ⟨wr.heap.size, 0, none⟩ = some (.string ⟨#[95, 99, 111, 117, 110, 116]⟩) := mnew_later hb2 0 rfl
      clear hb2 hbr i0
      by_cases hq : s = ⟨#[95, 99, 111, 117, 110, 116]⟩
      · have HK := Lib.hid (kind_is1 s hq)
        subst hq
        clear Hno
        go_wp2
        exact bodyPost_ret (v := .tuple #[.int .i64 1, .int .i64 0]) (by simp [results, Try.results17, go_sem]) rfl ⟨by rw [HK.out.1, HK.out.2], hbn⟩
      · have hq2 : (([95, 99, 111, 117, 110, 116] : List UInt8) == s.toList) = false := str_no (l := [95, 99, 111, 117, 110, 116]) hq
        have Hn2 := Lib.hid (names_next (k := 1) Hno.out hq)
        clear hq Hno
        go_wp2
        go_roundw
        case rel => exact ⟨2, by omega, rfl, hbn, Hn2⟩
        case measure => simp [intOf]
    · have i0 := kinds_at2 wr
      have h00 : ((2 : Nat) : Int) = 2 := rfl
      rw [h00]
      have sb := hbr.size
      clear hk h00
      go_wp2_with fail
      refine (known_any 2 _).mono ?_
      rintro e w2 ⟨rfl, hb2⟩
      have hkn : knownB 2 = true := by decide
      rw [hkn]
      have hbn : Below w.heap.size w w2 := (hbr.alloc sb _).trans (hb2.mono (by simp; omega))
      have d0 : w2.cell? ⟨wr.heap.size, 0, none⟩ = some (.string ⟨#[95, 115, 117, 109]⟩) := mnew_later hb2 0 rfl
      clear hb2 hbr i0
      by_cases hq : s = ⟨#[95, 115, 117, 109]⟩
      · have HK := Lib.hid (kind_is2 s hq)
        subst hq
        clear Hno
        go_wp2
        exact bodyPost_ret (v := .tuple #[.int .i64 2, .int .i64 0]) (by simp [results, Try.results17, go_sem]) rfl ⟨by rw [HK.out.1, HK.out.2], hbn⟩
      · have hq2 : (([95, 115, 117, 109] : List UInt8) == s.toList) = false := str_no (l := [95, 115, 117, 109]) hq
        have Hn2 := Lib.hid (names_next (k := 2) Hno.out hq)
        clear hq Hno
        go_wp2
        go_roundw
        case rel => exact ⟨3, by omega, rfl, hbn, Hn2⟩
        case measure => simp [intOf]
    · have i0 := kinds_at3 wr
      have h00 : ((3 : Nat) : Int) = 3 := rfl
      rw [h00]
      have sb := hbr.size
      clear hk h00
      go_wp2_with fail
      refine (known_any 3 _).mono ?_
      rintro e w2 ⟨rfl, hb2⟩
      have hkn : knownB 3 = true := by decide
      rw [hkn]
      have hbn : Below w.heap.size w w2 := (hbr.alloc sb _).trans (hb2.mono (by simp; omega))
      have d0 : w2.cell? ⟨wr.heap.size, 0, none⟩ = some (.string ⟨#[95, 109, 105, 110]⟩) := mnew_later hb2 0 rfl
      clear hb2 hbr i0
      by_cases hq : s = ⟨#[95, 109, 105, 110]⟩
      · have HK := Lib.hid (kind_is3 s hq)
        subst hq
        clear Hno
        go_wp2
        exact bodyPost_ret (v := .tuple #[.int .i64 3, .int .i64 0]) (by simp [results, Try.results17, go_sem]) rfl ⟨by rw [HK.out.1, HK.out.2], hbn⟩
      · have hq2 : (([95, 109, 105, 110] : List UInt8) == s.toList) = false := str_no (l := [95, 109, 105, 110]) hq
        have Hn2 := Lib.hid (names_next (k := 3) Hno.out hq)
        clear hq Hno
        go_wp2
        go_roundw
        case rel => exact ⟨4, by omega, rfl, hbn, Hn2⟩
        case measure => simp [intOf]
    · have i0 := kinds_at4 wr
      have h00 : ((4 : Nat) : Int) = 4 := rfl
      rw [h00]
      have sb := hbr.size
      clear hk h00
      go_wp2_with fail
      refine (known_any 4 _).mono ?_
      rintro e w2 ⟨rfl, hb2⟩
      have hkn : knownB 4 = true := by decide
      rw [hkn]
      have hbn : Below w.heap.size w w2 := (hbr.alloc sb _).trans (hb2.mono (by simp; omega))
      have d0 : w2.cell? ⟨wr.heap.size, 0, none⟩ = some (.string ⟨#[95, 109, 97, 120]⟩) := mnew_later hb2 0 rfl
      clear hb2 hbr i0
      by_cases hq : s = ⟨#[95, 109, 97, 120]⟩
      · have HK := Lib.hid (kind_is4 s hq)
        subst hq
        clear Hno
        go_wp2
        exact bodyPost_ret (v := .tuple #[.int .i64 4, .int .i64 0]) (by simp [results, Try.results17, go_sem]) rfl ⟨by rw [HK.out.1, HK.out.2], hbn⟩
      · have hq2 : (([95, 109, 97, 120] : List UInt8) == s.toList) = false := str_no (l := [95, 109, 97, 120]) hq
        have Hn2 := Lib.hid (names_next (k := 4) Hno.out hq)
        clear hq Hno
        go_wp2
        go_roundw
        case rel => exact ⟨5, by omega, rfl, hbn, Hn2⟩
        case measure => simp [intOf]
    · have i0 := kinds_at5 wr
      have h00 : ((5 : Nat) : Int) = 5 := rfl
      rw [h00]
      have sb := hbr.size
      clear hk h00
      go_wp2_with fail
      refine (known_any 5 _).mono ?_
      rintro e w2 ⟨rfl, hb2⟩
      have hkn : knownB 5 = true := by decide
      rw [hkn]
      have hbn : Below w.heap.size w w2 := (hbr.alloc sb _).trans (hb2.mono (by simp; omega))
      have d0 : w2.cell? ⟨wr.heap.size, 0, none⟩ = some (.string ⟨#[95, 115, 116, 97, 116, 115]⟩) := mnew_later hb2 0 rfl
      clear hb2 hbr i0
      by_cases hq : s = ⟨#[95, 115, 116, 97, 116, 115]⟩
      · have HK := Lib.hid (kind_is5 s hq)
        subst hq
        clear Hno
        go_wp2
        exact bodyPost_ret (v := .tuple #[.int .i64 5, .int .i64 0]) (by simp [results, Try.results17, go_sem]) rfl ⟨by rw [HK.out.1, HK.out.2], hbn⟩
      · have hq2 : (([95, 115, 116, 97, 116, 115] : List UInt8) == s.toList) = false := str_no (l := [95, 115, 116, 97, 116, 115]) hq
        have Hn2 := Lib.hid (names_next (k := 5) Hno.out hq)
        clear hq Hno
        go_wp2
        go_roundw
        case rel => exact ⟨6, by omega, rfl, hbn, Hn2⟩
        case measure => simp [intOf]
    · have h00 : ((6 : Nat) : Int) = 6 := rfl
      rw [h00]
      have HK := Lib.hid (kind_none s Hno.out)
      clear hk h00 Hno
      go_wp2
      exact bodyPost_ret (v := .tuple #[.int .i64 0, .int .i64 4]) (by simp [results, Try.results17, go_sem]) rfl ⟨by rw [HK.out.1, HK.out.2], hbr⟩
end Go.Proofs.Ytinaecmpigenoaa
/-
  Layer 13: Tell and the reference's Tell, whatever the reduction and the kind: the value that is told, as a tree.
-/
namespace Go.Proofs.Ytinaecmpigenoaa
open Go.RowKit
set_option linter.unusedVariables false

/-- The value that is told at a kind: nothing is said of where the parts of stats lie. -/
def ToldP (k c i v k1 x1 k2 x2 : Int) (X : VT) : Prop :=
  (k = 1 ∧ X = scV 3 c ⟨#[]⟩) ∨ (k = 2 ∧ X = scV 3 v ⟨#[]⟩) ∨ (k = 3 ∧ X = scV k2 x2 ⟨#[]⟩) ∨ (k = 4 ∧ X = scV k1 x1 ⟨#[]⟩) ∨ (k = 5 ∧ ∃ gk gs, X = statT gk gs c k1 x1 k2 x2 i v)
theorem told_same {k c i v k1 x1 k2 x2 : Int} {X Y : VT} (h1 : LeafK k1 x1) (h2 : LeafK k2 x2) (hX : ToldP k c i v k1 x1 k2 x2 X) (hY : ToldP k c i v k1 x1 k2 x2 Y) : sameR X Y = true := by
  rcases hX with ⟨rfl, rfl⟩ | ⟨rfl, rfl⟩ | ⟨rfl, rfl⟩ | ⟨rfl, rfl⟩ | ⟨rfl, gk, gs, rfl⟩
  · obtain ⟨_, rfl⟩ | ⟨h, _⟩ | ⟨h, _⟩ | ⟨h, _⟩ | ⟨h, _⟩ := hY
    · exact leaf_same (.inr rfl)
    all_goals exact absurd h (by decide)
  · obtain ⟨h, _⟩ | ⟨_, rfl⟩ | ⟨h, _⟩ | ⟨h, _⟩ | ⟨h, _⟩ := hY
    · exact absurd h (by decide)
    · exact leaf_same (.inr rfl)
    all_goals exact absurd h (by decide)
  · obtain ⟨h, _⟩ | ⟨h, _⟩ | ⟨_, rfl⟩ | ⟨h, _⟩ | ⟨h, _⟩ := hY
    · exact absurd h (by decide)
    · exact absurd h (by decide)
    · exact leaf_same h2
    all_goals exact absurd h (by decide)
  · obtain ⟨h, _⟩ | ⟨h, _⟩ | ⟨h, _⟩ | ⟨_, rfl⟩ | ⟨h, _⟩ := hY
    · exact absurd h (by decide)
    · exact absurd h (by decide)
    · exact absurd h (by decide)
    · exact leaf_same h1
    · exact absurd h (by decide)
  · obtain ⟨h, _⟩ | ⟨h, _⟩ | ⟨h, _⟩ | ⟨h, _⟩ | ⟨_, gk', gs', rfl⟩ := hY
    · exact absurd h (by decide)
    · exact absurd h (by decide)
    · exact absurd h (by decide)
    · exact absurd h (by decide)
    · unfold sameR
      rw [stat_ok h1 h2, stat_ok h1 h2, (sameV_iff _ _).2 (by unfold statT; rw [e_mk, e_mk])]
      rfl
theorem told_k {k c i v k1 x1 k2 x2 : Int} {X : VT} (h1 : LeafK k1 x1) (h2 : LeafK k2 x2) (hX : ToldP k c i v k1 x1 k2 x2 X) : (X.k == 0) = false := by
  have hl : ∀ {k x : Int}, LeafK k x → (k == 0) = false := fun h => by rcases h with ⟨rfl, _⟩ | rfl <;> decide
  rcases hX with ⟨_, rfl⟩ | ⟨_, rfl⟩ | ⟨_, rfl⟩ | ⟨_, rfl⟩ | ⟨_, gk, gs, rfl⟩
  · rfl
  · rfl
  · exact hl h2
  · exact hl h1
  · rfl
theorem sml_leaf (k x : Int) : Sml 1048576 (scV k x ⟨#[]⟩) := .mk (Nat.zero_le _) (fun x h => by cases h) (fun x h => by cases h)
theorem told_sml {k c i v k1 x1 k2 x2 : Int} {X : VT} (hX : ToldP k c i v k1 x1 k2 x2 X) : Sml 1048576 X := by
  rcases hX with ⟨_, rfl⟩ | ⟨_, rfl⟩ | ⟨_, rfl⟩ | ⟨_, rfl⟩ | ⟨_, gk, gs, rfl⟩
  · exact sml_leaf _ _
  · exact sml_leaf _ _
  · exact sml_leaf _ _
  · exact sml_leaf _ _
  · refine .mk (Nat.zero_le _) (fun x hx => ?_) (fun x hx => ?_)
    · simp only [List.mem_cons, List.not_mem_nil, or_false] at hx
      rcases hx with rfl | rfl | rfl | rfl | rfl <;> decide
    · simp only [List.mem_cons, List.not_mem_nil, or_false] at hx
      rcases hx with rfl | rfl | rfl | rfl | rfl <;> exact sml_leaf _ _
theorem ext_is {i n k x : Int} (h : extV i n = .agg #[.int .i64 k, .int .i64 x, .string ⟨#[]⟩, .slice none 0 0, .slice none 0 0]) : (i = 0 ∧ k = 1 ∧ x = 0) ∨ (i ≠ 0 ∧ k = 3 ∧ x = n) := by
  by_cases hi : i = 0
  · subst hi
    rw [extV_none] at h
    injection h with h
    simp at h
    exact .inl ⟨rfl, h.1.symm, h.2.symm⟩
  · rw [extV_some i n hi] at h
    injection h with h
    simp at h
    exact .inr ⟨hi, h.1.symm, h.2.symm⟩
section
variable (k c i v le mo : Int) (w : World) (hv : R128 v) (hle : R64 le) (hmo : R64 mo) (hval : validB c i v le mo = true) {k1 x1 k2 x2 : Int}
  (h1 : extV i mo = .agg #[.int .i64 k1, .int .i64 x1, .string ⟨#[]⟩, .slice none 0 0, .slice none 0 0]) (h2 : extV i le = .agg #[.int .i64 k2, .int .i64 x2, .string ⟨#[]⟩, .slice none 0 0, .slice none 0 0]) (l1 : LeafK k1 x1) (l2 : LeafK k2 x2) (b1 : R64 x1) (b2 : R64 x2)
include hv hle hmo hval h1 h2 l1 l2 b1 b2
theorem tellOk_any (hk : knownB k = true) (ho : k = 2 ∨ k = 5 → v = IntKind.i64.wrap (loI v)) :
    Calls Try.prog 15 #[.int .i64 k, .agg #[.int .i64 c, .int .i64 i, .int .i64 (hiI v), .int .u64 (loI v), .int .i64 le, .int .i64 mo]] w fun e w' => ∃ X : VT, e = .returned (.tuple #[X.agg, .int .i64 0]) ∧ Hid (ToldP k c i v k1 x1 k2 x2 X) ∧ Lie w' w'.heap.size X ∧ Below w.heap.size w w' := by
  have hb := (valid_bounds ⟨c, i, v, le, mo⟩ hval)
  have bc : R64 c := by have := hb.1; unfold R64; simp only at this; omega
  have bi : R64 i := by have a1 := hb.1.2; have a2 := hb.2.1; have a3 := hb.2.2; simp only at a1 a2 a3; unfold R64; omega
  have hkk : k = 1 ∨ k = 2 ∨ k = 3 ∨ k = 4 ∨ k = 5 := by
    rcases known_cases k with ⟨_, h⟩ | ⟨h, _⟩
    · exact h
    · rw [h] at hk; cases hk
  rcases hkk with rfl | rfl | rfl | rfl | rfl
  · refine (tell_1 c i v le mo w hv hle hmo hval).mono ?_
    rintro e w' ⟨rfl, hb⟩
    exact ⟨scV 3 c ⟨#[]⟩, rfl, Lib.hid (.inl ⟨rfl, rfl⟩), leaf_lie (.inr rfl) bc _ _, hb⟩
  · refine (tell_sum c i v le mo w hv hle hmo hval (ho (.inl rfl))).mono ?_
    rintro e w' ⟨rfl, hb⟩
    exact ⟨scV 3 v ⟨#[]⟩, rfl, Lib.hid (.inr (.inl ⟨rfl, rfl⟩)), leaf_lie (.inr rfl) (by rw [ho (.inl rfl)]; exact wrap_r64 _) _ _, hb⟩
  · refine (tell_3 c i v le mo w hv hle hmo hval).mono ?_
    rintro e w' ⟨rfl, hb⟩
    exact ⟨scV k2 x2 ⟨#[]⟩, by rw [h2]; rfl, Lib.hid (.inr (.inr (.inl ⟨rfl, rfl⟩))), leaf_lie l2 b2 _ _, hb⟩
  · refine (tell_4 c i v le mo w hv hle hmo hval).mono ?_
    rintro e w' ⟨rfl, hb⟩
    exact ⟨scV k1 x1 ⟨#[]⟩, by rw [h1]; rfl, Lib.hid (.inr (.inr (.inr (.inl ⟨rfl, rfl⟩)))), leaf_lie l1 b1 _ _, hb⟩
  · have hv5 := ho (.inr rfl)
    refine (tell_5 c i v le mo w hv hle hmo hval k1 x1 k2 x2 v h1 h2 hv5.symm rfl).mono ?_
    rintro e w' ⟨gk, gs, rfl, hk', hs', hb⟩
    exact ⟨statT gk gs c k1 x1 k2 x2 i v, rfl, Lib.hid (.inr (.inr (.inr (.inr ⟨rfl, gk, gs, rfl⟩)))), stat_lie l1 l2 b1 b2 bc bi (by rw [hv5]; exact wrap_r64 _) hk' hs', hb⟩
theorem refOk_any (hk : knownB k = true) (ho : k = 2 ∨ k = 5 → v = IntKind.i64.wrap (loI v)) :
    Calls Try.prog 20 #[.int .i64 k, .agg #[.int .i64 c, .int .i64 i, .int .i64 (hiI v), .int .u64 (loI v), .int .i64 le, .int .i64 mo]] w fun e w' => ∃ X : VT, e = .returned (.tuple #[X.agg, .bool true]) ∧ Hid (ToldP k c i v k1 x1 k2 x2 X) ∧ Lie w' w'.heap.size X ∧ Below w.heap.size w w' := by
  have hb := (valid_bounds ⟨c, i, v, le, mo⟩ hval)
  have bc : R64 c := by have := hb.1; unfold R64; simp only at this; omega
  have bi : R64 i := by have a1 := hb.1.2; have a2 := hb.2.1; have a3 := hb.2.2; simp only at a1 a2 a3; unfold R64; omega
  have hi0 : i = 0 ∨ 0 < i := by have := hb.2.1; simp only at this; omega
  have hkk : k = 1 ∨ k = 2 ∨ k = 3 ∨ k = 4 ∨ k = 5 := by
    rcases known_cases k with ⟨_, h⟩ | ⟨h, _⟩
    · exact h
    · rw [h] at hk; cases hk
  have e1 := ext_is h1
  have e2 := ext_is h2
  rcases hkk with rfl | rfl | rfl | rfl | rfl
  · have h : Calls Try.prog 20 #[.int .i64 1, .agg #[.int .i64 c, .int .i64 i, .int .i64 (hiI v), .int .u64 (loI v), .int .i64 le, .int .i64 mo]] w fun e w' => e = .returned (.tuple #[.agg #[.int .i64 3, .int .i64 c, .string ⟨#[]⟩, .slice none 0 0, .slice none 0 0], .bool true]) ∧ Below w.heap.size w w' := by
      rcases hi0 with hi | hi
      · exact refTell_1_none c i v le mo w hi
      · exact refTell_1_some c i v le mo w hi
    refine h.mono ?_
    rintro e w' ⟨rfl, hb⟩
    exact ⟨scV 3 c ⟨#[]⟩, rfl, Lib.hid (.inl ⟨rfl, rfl⟩), leaf_lie (.inr rfl) bc _ _, hb⟩
  · have hv5 := ho (.inl rfl)
    have h : Calls Try.prog 20 #[.int .i64 2, .agg #[.int .i64 c, .int .i64 i, .int .i64 (hiI v), .int .u64 (loI v), .int .i64 le, .int .i64 mo]] w fun e w' => e = .returned (.tuple #[.agg #[.int .i64 3, .int .i64 v, .string ⟨#[]⟩, .slice none 0 0, .slice none 0 0], .bool true]) ∧ Below w.heap.size w w' := by
      rcases hi0 with hi | hi
      · exact refTell_2_none c i v le mo w hi hv v hv5.symm rfl
      · exact refTell_2_some c i v le mo w hi hv v hv5.symm rfl
    refine h.mono ?_
    rintro e w' ⟨rfl, hb⟩
    exact ⟨scV 3 v ⟨#[]⟩, rfl, Lib.hid (.inr (.inl ⟨rfl, rfl⟩)), leaf_lie (.inr rfl) (by rw [hv5]; exact wrap_r64 _) _ _, hb⟩
  · rcases hi0 with hi | hi
    · obtain ⟨_, rfl, rfl⟩ : i = 0 ∧ k2 = 1 ∧ x2 = 0 := e2.elim id fun h => absurd hi h.1
      refine (refTell_3_none c i v le mo w hi).mono ?_
      rintro e w' ⟨rfl, hb⟩
      exact ⟨scV 1 0 ⟨#[]⟩, rfl, Lib.hid (.inr (.inr (.inl ⟨rfl, rfl⟩))), leaf_lie l2 b2 _ _, hb⟩
    · obtain ⟨_, rfl, rfl⟩ : i ≠ 0 ∧ k2 = 3 ∧ x2 = le := e2.elim (fun h => absurd h.1 (by omega)) id
      refine (refTell_3_some c i v x2 mo w hi).mono ?_
      rintro e w' ⟨rfl, hb⟩
      exact ⟨scV 3 x2 ⟨#[]⟩, rfl, Lib.hid (.inr (.inr (.inl ⟨rfl, rfl⟩))), leaf_lie l2 b2 _ _, hb⟩
  · rcases hi0 with hi | hi
    · obtain ⟨_, rfl, rfl⟩ : i = 0 ∧ k1 = 1 ∧ x1 = 0 := e1.elim id fun h => absurd hi h.1
      refine (refTell_4_none c i v le mo w hi).mono ?_
      rintro e w' ⟨rfl, hb⟩
      exact ⟨scV 1 0 ⟨#[]⟩, rfl, Lib.hid (.inr (.inr (.inr (.inl ⟨rfl, rfl⟩)))), leaf_lie l1 b1 _ _, hb⟩
    · obtain ⟨_, rfl, rfl⟩ : i ≠ 0 ∧ k1 = 3 ∧ x1 = mo := e1.elim (fun h => absurd h.1 (by omega)) id
      refine (refTell_4_some c i v le x1 w hi).mono ?_
      rintro e w' ⟨rfl, hb⟩
      exact ⟨scV 3 x1 ⟨#[]⟩, rfl, Lib.hid (.inr (.inr (.inr (.inl ⟨rfl, rfl⟩)))), leaf_lie l1 b1 _ _, hb⟩
  · have hv5 := ho (.inr rfl)
    have h : Calls Try.prog 20 #[.int .i64 5, .agg #[.int .i64 c, .int .i64 i, .int .i64 (hiI v), .int .u64 (loI v), .int .i64 le, .int .i64 mo]] w (RTellP w c k1 x1 k2 x2 i v) := by
      rcases hi0 with hi | hi
      · obtain ⟨_, rfl, rfl⟩ : i = 0 ∧ k1 = 1 ∧ x1 = 0 := e1.elim id fun h => absurd hi h.1
        obtain ⟨_, rfl, rfl⟩ : i = 0 ∧ k2 = 1 ∧ x2 = 0 := e2.elim id fun h => absurd hi h.1
        exact refTell_5_none c i v le mo w hi hv v hv5.symm rfl
      · obtain ⟨_, rfl, rfl⟩ : i ≠ 0 ∧ k1 = 3 ∧ x1 = mo := e1.elim (fun h => absurd h.1 (by omega)) id
        obtain ⟨_, rfl, rfl⟩ : i ≠ 0 ∧ k2 = 3 ∧ x2 = le := e2.elim (fun h => absurd h.1 (by omega)) id
        exact refTell_5_some c i v x2 x1 w hi hv v hv5.symm rfl
    refine h.mono ?_
    rintro e w' ⟨gk, gs, rfl, hk', hs', hb⟩
    exact ⟨statT gk gs c k1 x1 k2 x2 i v, rfl, Lib.hid (.inr (.inr (.inr (.inr ⟨rfl, gk, gs, rfl⟩)))), stat_lie l1 l2 b1 b2 bc bi (by rw [hv5]; exact wrap_r64 _) hk' hs', hb⟩
end
end Go.Proofs.Ytinaecmpigenoaa
/-
  Layer 13: the rows of wakes.
-/
namespace Go.Proofs.Ytinaecmpigenoaa
open Go.RowKit
attribute [local go_sem ↓] Go.wp_at_zero Go.wp_at_succ

set_option maxRecDepth 20000 in
set_option maxHeartbeats 1000000 in
theorem row_any (n : Int) (w : World) (h : R64 n) : Calls Try.prog 24 #[.int .i64 n] w fun e w' => e = .returned (.agg #[.int .i64 1, .int .i64 1, .int .i64 (hiI n), .int .u64 (loI n), .int .i64 n, .int .i64 n]) ∧ Below w.heap.size w w' := by
  have hb0 : Below w.heap.size w (w.alloc (.cells #[.int .i64 0, .int .i64 0, .int .i64 0, .int .u64 0, .int .i64 0, .int .i64 0] 24)) := (Below.refl _ _).alloc (Nat.le_refl _) _
  go_enter Try.func24, Try.ntmps24
  go_wp2_with fail
  refine (one_any _ _ _ _ _ _ true n _ h).mono ?_
  rintro e w1 ⟨rfl, hb1⟩
  obtain ⟨⟨r0, r1, r2, r3, r4, r5⟩, f0, f1, f2, f3, f4, f5⟩ := six_new rfl hb1
  have hb2 := hb0.trans (hb1.mono hb0.size)
  clear hb0 hb1
  rw [show oneV true n = .agg #[.int .i64 1, .int .i64 1, .int .i64 (hiI n), .int .u64 (loI n), .int .i64 n, .int .i64 n] from rfl]
  go_wp2
  refine bodyPost_ret (v := .agg #[.int .i64 1, .int .i64 1, .int .i64 (hiI n), .int .u64 (loI n), .int .i64 n, .int .i64 n]) ?_ rfl ⟨rfl, below_set6 hb2 (Nat.le_refl _)⟩
  simp [results, Try.results24, go_sem, *]
end Go.Proofs.Ytinaecmpigenoaa
/-
  Layer 13: wakes.
-/
namespace Go.Proofs.Ytinaecmpigenoaa
open Go.RowKit
attribute [local go_sem ↓] Go.wp_at_zero Go.wp_at_succ

/-- The reduction of a row, as numbers. -/
def rowT (n : Int) : RedT := ⟨1, 1, n, n, n⟩
theorem reds_new (w : World) (C : Array Value) (t : TypeId) (n : Nat) (l : List RedT) (hC : C.toList = l.flatMap RedT.cells) (hn : (l.flatMap RedT.cells).length = n * 6) : Reds (w.alloc (.cells C t)) (w.heap.size + 1) (some ⟨w.heap.size, 0, none⟩) n l := by
  refine ⟨hn, fun _ => ⟨w.heap.size, 0, rfl, by omega, fun j v hj => ?_⟩⟩
  rw [Nat.zero_add]
  refine (World.cell?_alloc_new w C t j).trans ?_
  rw [← hC] at hj
  simpa using hj
/-- The three rows of wakes. -/
def three : List RedT := [⟨1, 1, -1, -1, -1⟩, ⟨1, 0, 0, 0, 0⟩, ⟨1, 1, 3, 3, 3⟩]
theorem three_ok : ∀ r ∈ three, r.ok := by
  intro r hr
  unfold three at hr
  simp only [List.mem_cons, List.not_mem_nil, or_false] at hr
  rcases hr with rfl | rfl | rfl <;> (unfold RedT.ok R64 R128; simp only; omega)
theorem three_all : jall three = (⟨3, 2, 2, -1, 3⟩, 0) := by rfl
theorem three_join (w : World) : Calls Try.prog 13 #[.slice (some ⟨w.heap.size, 0, none⟩) 3 3] (w.alloc (.cells #[.int .i64 1, .int .i64 1, .int .i64 (hiI (-1)), .int .u64 (loI (-1)), .int .i64 (-1), .int .i64 (-1), .int .i64 1, .int .i64 0, .int .i64 0, .int .u64 0, .int .i64 0, .int .i64 0, .int .i64 1, .int .i64 1, .int .i64 (hiI (3)), .int .u64 (loI (3)), .int .i64 (3), .int .i64 (3)] 24)) fun e w' => e = .returned (.tuple #[.agg #[.int .i64 3, .int .i64 2, .int .i64 0, .int .u64 2, .int .i64 (-1), .int .i64 3], .int .i64 0]) ∧ Below (w.alloc (.cells #[.int .i64 1, .int .i64 1, .int .i64 (hiI (-1)), .int .u64 (loI (-1)), .int .i64 (-1), .int .i64 (-1), .int .i64 1, .int .i64 0, .int .i64 0, .int .u64 0, .int .i64 0, .int .i64 0, .int .i64 1, .int .i64 1, .int .i64 (hiI (3)), .int .u64 (loI (3)), .int .i64 (3), .int .i64 (3)] 24)).heap.size (w.alloc (.cells #[.int .i64 1, .int .i64 1, .int .i64 (hiI (-1)), .int .u64 (loI (-1)), .int .i64 (-1), .int .i64 (-1), .int .i64 1, .int .i64 0, .int .i64 0, .int .u64 0, .int .i64 0, .int .i64 0, .int .i64 1, .int .i64 1, .int .i64 (hiI (3)), .int .u64 (loI (3)), .int .i64 (3), .int .i64 (3)] 24)) w' := by
  refine (joinAll_any _ 3 3 (w.heap.size + 1) three _ (reds_new w #[.int .i64 1, .int .i64 1, .int .i64 (hiI (-1)), .int .u64 (loI (-1)), .int .i64 (-1), .int .i64 (-1), .int .i64 1, .int .i64 0, .int .i64 0, .int .u64 0, .int .i64 0, .int .i64 0, .int .i64 1, .int .i64 1, .int .i64 (hiI (3)), .int .u64 (loI (3)), .int .i64 (3), .int .i64 (3)] _ 3 three (by kernel_rfl) (by kernel_rfl)) (by simp) three_ok (by omega)).mono ?_
  rintro e w' ⟨rfl, hb⟩
  rw [three_all]
  exact ⟨by kernel_rfl, hb⟩
/-- The two rows of a Join of wakes. -/
def far : List RedT := [⟨3, 2, 2, -1, 3⟩, ⟨1073741824, 0, 0, 0, 0⟩]
theorem far_ok : ∀ r ∈ far, r.ok := by
  intro r hr
  unfold far at hr
  simp only [List.mem_cons, List.not_mem_nil, or_false] at hr
  rcases hr with rfl | rfl <;> (unfold RedT.ok R64 R128; simp only; omega)
theorem far_join (w : World) : Calls Try.prog 13 #[.slice (some ⟨w.heap.size, 0, none⟩) 2 2] (w.alloc (.cells #[.int .i64 3, .int .i64 2, .int .i64 0, .int .u64 2, .int .i64 (-1), .int .i64 3, .int .i64 1073741824, .int .i64 0, .int .i64 0, .int .u64 0, .int .i64 0, .int .i64 0] 24)) fun e w' => e = .returned (.tuple #[.agg #[.int .i64 0, .int .i64 0, .int .i64 0, .int .u64 0, .int .i64 0, .int .i64 0], .int .i64 5]) ∧ Below (w.alloc (.cells #[.int .i64 3, .int .i64 2, .int .i64 0, .int .u64 2, .int .i64 (-1), .int .i64 3, .int .i64 1073741824, .int .i64 0, .int .i64 0, .int .u64 0, .int .i64 0, .int .i64 0] 24)).heap.size (w.alloc (.cells #[.int .i64 3, .int .i64 2, .int .i64 0, .int .u64 2, .int .i64 (-1), .int .i64 3, .int .i64 1073741824, .int .i64 0, .int .i64 0, .int .u64 0, .int .i64 0, .int .i64 0] 24)) w' := by
  refine (joinAll_any _ 2 2 (w.heap.size + 1) far _ (reds_new w #[.int .i64 3, .int .i64 2, .int .i64 0, .int .u64 2, .int .i64 (-1), .int .i64 3, .int .i64 1073741824, .int .i64 0, .int .i64 0, .int .u64 0, .int .i64 0, .int .i64 0] _ 2 far (by kernel_rfl) (by kernel_rfl)) (by simp) far_ok (by omega)).mono ?_
  rintro e w' ⟨rfl, hb⟩
  exact ⟨by kernel_rfl, hb⟩
/-- The two rows of a Join of wakes. -/
def twice : List RedT := [⟨1, 1, 9223372036854775807, 9223372036854775807, 9223372036854775807⟩, ⟨1, 1, 9223372036854775807, 9223372036854775807, 9223372036854775807⟩]
theorem twice_ok : ∀ r ∈ twice, r.ok := by
  intro r hr
  unfold twice at hr
  simp only [List.mem_cons, List.not_mem_nil, or_false] at hr
  rcases hr with rfl | rfl <;> (unfold RedT.ok R64 R128; simp only; omega)
theorem twice_join (w : World) : Calls Try.prog 13 #[.slice (some ⟨w.heap.size, 0, none⟩) 2 2] (w.alloc (.cells #[.int .i64 1, .int .i64 1, .int .i64 (hiI 9223372036854775807), .int .u64 (loI 9223372036854775807), .int .i64 9223372036854775807, .int .i64 9223372036854775807, .int .i64 1, .int .i64 1, .int .i64 (hiI 9223372036854775807), .int .u64 (loI 9223372036854775807), .int .i64 9223372036854775807, .int .i64 9223372036854775807] 24)) fun e w' => e = .returned (.tuple #[.agg #[.int .i64 2, .int .i64 2, .int .i64 (hiI 18446744073709551614), .int .u64 (loI 18446744073709551614), .int .i64 9223372036854775807, .int .i64 9223372036854775807], .int .i64 0]) ∧ Below (w.alloc (.cells #[.int .i64 1, .int .i64 1, .int .i64 (hiI 9223372036854775807), .int .u64 (loI 9223372036854775807), .int .i64 9223372036854775807, .int .i64 9223372036854775807, .int .i64 1, .int .i64 1, .int .i64 (hiI 9223372036854775807), .int .u64 (loI 9223372036854775807), .int .i64 9223372036854775807, .int .i64 9223372036854775807] 24)).heap.size (w.alloc (.cells #[.int .i64 1, .int .i64 1, .int .i64 (hiI 9223372036854775807), .int .u64 (loI 9223372036854775807), .int .i64 9223372036854775807, .int .i64 9223372036854775807, .int .i64 1, .int .i64 1, .int .i64 (hiI 9223372036854775807), .int .u64 (loI 9223372036854775807), .int .i64 9223372036854775807, .int .i64 9223372036854775807] 24)) w' := by
  refine (joinAll_any _ 2 2 (w.heap.size + 1) twice _ (reds_new w #[.int .i64 1, .int .i64 1, .int .i64 (hiI 9223372036854775807), .int .u64 (loI 9223372036854775807), .int .i64 9223372036854775807, .int .i64 9223372036854775807, .int .i64 1, .int .i64 1, .int .i64 (hiI 9223372036854775807), .int .u64 (loI 9223372036854775807), .int .i64 9223372036854775807, .int .i64 9223372036854775807] _ 2 twice (by kernel_rfl) (by kernel_rfl)) (by simp) twice_ok (by omega)).mono ?_
  rintro e w' ⟨rfl, hb⟩
  exact ⟨by kernel_rfl, hb⟩
end Go.Proofs.Ytinaecmpigenoaa
/-
  Layer 13: wakes.
-/
namespace Go.Proofs.Ytinaecmpigenoaa
open Go.RowKit
attribute [local go_sem ↓] Go.wp_at_zero Go.wp_at_succ

theorem hl_2 : hiI 2 = 0 ∧ loI 2 = 2 := by unfold hiI loI wrap64; decide
theorem hl_5 : hiI 5 = 0 ∧ loI 5 = 5 := by unfold hiI loI wrap64; decide
theorem tell_two (w : World) : Calls Try.prog 15 #[.int .i64 2, .agg #[.int .i64 3, .int .i64 2, .int .i64 0, .int .u64 2, .int .i64 (-1), .int .i64 3]] w fun e w' => e = .returned (.tuple #[.agg #[.int .i64 3, .int .i64 2, .string ⟨#[]⟩, .slice none 0 0, .slice none 0 0], .int .i64 0]) ∧ Below w.heap.size w w' := by
  have h := tell_sum 3 2 2 (-1) 3 w (by unfold R128; omega) (by unfold R64; omega) (by unfold R64; omega) (by decide) (by decide)
  rw [hl_2.1, hl_2.2] at h
  exact h
theorem tell_twice (w : World) : Calls Try.prog 15 #[.int .i64 2, .agg #[.int .i64 2, .int .i64 2, .int .i64 (hiI 18446744073709551614), .int .u64 (loI 18446744073709551614), .int .i64 9223372036854775807, .int .i64 9223372036854775807]] w fun e w' => e = .returned (.tuple #[.agg #[.int .i64 0, .int .i64 0, .string ⟨#[]⟩, .slice none 0 0, .slice none 0 0], .int .i64 5]) ∧ Below w.heap.size w w' :=
  tell_over 2 2 18446744073709551614 9223372036854775807 9223372036854775807 w (by unfold R128; omega) (by unfold R64; omega) (by unfold R64; omega) (by decide) (by decide)
theorem check_bad (w : World) : Calls Try.prog 9 #[.agg #[.int .i64 1, .int .i64 1, .int .i64 0, .int .u64 5, .int .i64 4, .int .i64 5]] w fun e w' => e = .returned (.int .i64 230) ∧ Below w.heap.size w w' := by
  have h := mcheck_any 1 1 5 4 5 w (by unfold R128; omega) (by unfold R64; omega) (by unfold R64; omega)
  unfold redV at h
  rw [hl_5.1, hl_5.2, show redE 1 1 5 4 5 = 230 by decide] at h
  exact h
theorem kind_sum (w : World) : Calls Try.prog 17 #[.string ⟨#[95, 115, 117, 109]⟩] w fun e w' => e = .returned (.tuple #[.int .i64 2, .int .i64 0]) ∧ Below w.heap.size w w' := by
  refine (kind_any ⟨#[95, 115, 117, 109]⟩ w).mono ?_
  rintro e w' ⟨rfl, hb⟩
  rw [(kind_is2 _ rfl).1, (kind_is2 _ rfl).2]
  exact ⟨rfl, hb⟩
theorem far_at (w : World) (o : Obj) : Calls Try.prog 13 #[.slice (some ⟨w.heap.size + 1, 0, none⟩) 2 2] ((w.alloc o).alloc (.cells #[.int .i64 3, .int .i64 2, .int .i64 0, .int .u64 2, .int .i64 (-1), .int .i64 3, .int .i64 1073741824, .int .i64 0, .int .i64 0, .int .u64 0, .int .i64 0, .int .i64 0] 24)) fun e w' => e = .returned (.tuple #[.agg #[.int .i64 0, .int .i64 0, .int .i64 0, .int .u64 0, .int .i64 0, .int .i64 0], .int .i64 5]) ∧ Below (w.heap.size + 2) ((w.alloc o).alloc (.cells #[.int .i64 3, .int .i64 2, .int .i64 0, .int .u64 2, .int .i64 (-1), .int .i64 3, .int .i64 1073741824, .int .i64 0, .int .i64 0, .int .u64 0, .int .i64 0, .int .i64 0] 24)) w' := by
  have h := far_join (w.alloc o)
  rw [show (w.alloc o).heap.size = w.heap.size + 1 by simp] at h
  refine h.mono ?_
  rintro e w' ⟨rfl, hb⟩
  exact ⟨rfl, hb.mono (by simp)⟩
theorem cell_new5 {w : World} (a b c d e : Value) (t : TypeId) (k : Nat) {v : Value} (h : (#[a, b, c, d, e] : Array Value)[k]? = some v) : (w.alloc (.cells #[a, b, c, d, e] t)).cell? ⟨w.heap.size, k, none⟩ = some v := (World.cell?_alloc_new w _ t k).trans h

set_option maxRecDepth 100000 in
set_option maxHeartbeats 4000000 in
theorem wakes_any (w : World) : Calls Try.prog 8 #[] w fun e w' => e = .returned (.bool true) ∧ Below w.heap.size w w' := by
  go_enter Try.func8, Try.ntmps8
  go_wp2_with fail
  refine (row_any (-1) _ (by unfold R64; omega)).mono ?_
  rintro e w1 ⟨rfl, hb1⟩
  go_wp2_with fail
  refine (one_any _ _ _ _ _ _ false 9 _ (by unfold R64; omega)).mono ?_
  rintro e w2 ⟨rfl, hb2⟩
  rw [oneV_no]
  have hb2 := hb1.trans (hb2.mono hb1.size)
  clear hb1
  go_wp2_with fail
  refine (row_any 3 _ (by unfold R64; omega)).mono ?_
  rintro e w3 ⟨rfl, hb3⟩
  have hb3 := hb2.trans (hb3.mono hb2.size)
  clear hb2
  go_wp2_with fail
  refine (three_join w3).mono ?_
  rintro e w4 ⟨rfl, hb4⟩
  have hb4 := (hb3.alloc hb3.size _).trans (hb4.mono (by have := hb3.size; simp; omega))
  clear hb3
  have s4 := Six.new w4 (.int .i64 3) (.int .i64 2) (.int .i64 0) (.int .u64 2) (.int .i64 (-1)) (.int .i64 3) 24
  go_wp2_with fail
  refine (far_at w4 _).mono ?_
  rintro e w5 ⟨rfl, hb5⟩
  have s5 := (s4.alloc _).below hb5 (by simp)
  have hb5 := ((hb4.alloc hb4.size _).alloc (by have := hb4.size; simp; omega) _).trans (hb5.mono (by have := hb4.size; omega))
  have z45 : w4.heap.size < w5.heap.size := World.block_lt_of_cell? w5 _ s5.1.1
  clear hb4 s4
  have s5 := s5.alloc (.cells #[.int .i64 0, .int .i64 0, .int .i64 0, .int .u64 0, .int .i64 0, .int .i64 0] 24)
  have hb5 := hb5.alloc hb5.size (.cells #[.int .i64 0, .int .i64 0, .int .i64 0, .int .u64 0, .int .i64 0, .int .i64 0] 24)
  have S5 := Lib.hid s5
  obtain ⟨⟨r0, r1, r2, r3, r4, r5⟩, -⟩ := s5
  go_wp2_with fail
  refine (tell_two _).mono ?_
  rintro e w6 ⟨rfl, hb6⟩
  have s6 := S5.out.below hb6 rfl
  clear r0 r1 r2 r3 r4 r5 S5
  have hb6 := hb5.trans (hb6.mono hb5.size)
  clear hb5
  have s6 := s6.alloc (.cells #[.int .i64 3, .int .i64 2, .string ⟨#[]⟩, .slice none 0 0, .slice none 0 0] 42)
  have v6 := cell_new5 (w := w6) (.int .i64 3) (.int .i64 2) (.string ⟨#[]⟩) (.slice none 0 0) (.slice none 0 0) 42 1 rfl
  have hb6 := hb6.alloc hb6.size (.cells #[.int .i64 3, .int .i64 2, .string ⟨#[]⟩, .slice none 0 0, .slice none 0 0] 42)
  have S6 := Lib.hid s6
  have V6 := Lib.hid v6
  clear s6 v6
  go_wp2_with fail
  refine (row_any 9223372036854775807 _ (by unfold R64; omega)).mono ?_
  rintro e w7 ⟨rfl, hb7⟩
  have S7 := Lib.hid (S6.out.below hb7 rfl)
  have V7 := Lib.hid (mkept_later hb7 V6.out)
  have hb7 := hb6.trans (hb7.mono hb6.size)
  clear S6 V6 hb6
  go_wp2_with fail
  refine (row_any 9223372036854775807 _ (by unfold R64; omega)).mono ?_
  rintro e w8 ⟨rfl, hb8⟩
  have S8 := Lib.hid (S7.out.below hb8 rfl)
  have V8 := Lib.hid (mkept_later hb8 V7.out)
  have hb8 := hb7.trans (hb8.mono hb7.size)
  clear S7 V7 hb7
  go_wp2_with fail
  refine (twice_join w8).mono ?_
  rintro e w9 ⟨rfl, hb9⟩
  have S9 := Lib.hid ((S8.out.alloc _).below hb9 rfl)
  have V9 := Lib.hid (mkept_later hb9 (cell_keep V8.out _))
  have hb9 := (hb8.alloc hb8.size _).trans (hb9.mono (by have := hb8.size; simp; omega))
  clear S8 V8 hb8
  go_wp2_with fail
  refine (tell_twice _).mono ?_
  rintro e w10 ⟨rfl, hb10⟩
  have S10 := Lib.hid ((S9.out.alloc _).below hb10 rfl)
  have V10 := Lib.hid (mkept_later hb10 (cell_keep V9.out _))
  have hb10 := (hb9.alloc hb9.size _).trans (hb10.mono (by have := hb9.size; simp; omega))
  clear S9 V9 hb9
  go_wp2_with fail
  refine (check_bad _).mono ?_
  rintro e w11 ⟨rfl, hb11⟩
  have S11 := Lib.hid ((S10.out.alloc _).below hb11 rfl)
  have V11 := Lib.hid (mkept_later hb11 (cell_keep V10.out _))
  have hb11 := (hb10.alloc hb10.size _).trans (hb11.mono (by have := hb10.size; simp; omega))
  clear S10 V10 hb10
  go_wp2_with fail
  refine (kind_sum _).mono ?_
  rintro e w12 ⟨rfl, hb12⟩
  have S12 := S11.out.below hb12 rfl
  have V12 := mkept_later hb12 V11.out
  have hb12 := hb11.trans (hb12.mono hb11.size)
  clear S11 V11 hb11
  obtain ⟨⟨r0, r1, r2, r3, r4, r5⟩, -⟩ := S12
  go_wp2
  go_ret
  exact ⟨rfl, hb12⟩
end Go.Proofs.Ytinaecmpigenoaa
