/-
  Package doc: ids.
-/
import Derived.Test.YtedoajiapicpnaaDoorRows
import Derived.Test.YtedoajiapicpnaaDoorW
import Derived.Deep.QuietTactic
import Derived.BigQuiet
import Derived.BigRegion
import Derived.Lib.Hide
namespace Go.Proofs.YtedoajiapicpnaaDoor
open Go.RowKit

/-- A byte that an id may hold. -/
def okN (x : Nat) : Bool := decide (97 ≤ x ∧ x ≤ 122 ∨ 48 ≤ x ∧ x ≤ 57 ∨ x = 45)
def okAll (l : List UInt8) : Bool := l.all fun c => okN c.toNat
def idL (l : List UInt8) : Bool := decide (1 ≤ l.length ∧ l.length ≤ 24) && okAll l

/-- What Check answers. -/
def idErr (l : List UInt8) : Int := if idL l then 0 else 290
theorem str_at (s : ByteArray) (k : Nat) (h : k < s.size) : ((s[k]'h).toNat : Int) = at8 s.data.toList k := by
  unfold at8
  rw [List.getD_eq_getElem?_getD, List.getElem?_eq_getElem (by simpa using h)]
  rfl
theorem str_get (s : ByteArray) (k : Nat) (h : k < s.size) : s[k]'h = s.data.toList.getD k 0 := by
  rw [List.getD_eq_getElem?_getD, List.getElem?_eq_getElem (by simpa using h)]
  rfl
theorem str_len (s : ByteArray) : s.data.toList.length = s.size := by simp

theorem okN_cases (x : Nat) : x < 45 ∧ okN x = false ∨ x = 45 ∧ okN x = true ∨ (46 ≤ x ∧ x ≤ 47) ∧ okN x = false ∨ (48 ≤ x ∧ x ≤ 57) ∧ okN x = true ∨ (58 ≤ x ∧ x ≤ 96) ∧ okN x = false ∨ (97 ≤ x ∧ x ≤ 122) ∧ okN x = true ∨ 123 ≤ x ∧ okN x = false := by
  unfold okN
  simp only [decide_eq_true_eq, decide_eq_false_iff_not]
  omega

theorem okAll_snoc (l : List UInt8) (c : UInt8) (h : okAll l = true) (hc : okN c.toNat = true) : okAll (l ++ [c]) = true := by
  unfold okAll at *
  rw [List.all_append, h, Bool.true_and, List.all_cons, hc]
  rfl
theorem okAll_bad (l : List UInt8) (k : Nat) (hk : k < l.length) (hc : okN (l.getD k 0).toNat = false) : okAll l = false := by
  rw [List.getD_eq_getElem?_getD, List.getElem?_eq_getElem hk, Option.getD_some] at hc
  unfold okAll
  rw [List.all_eq_false]
  exact ⟨l[k], List.getElem_mem _, by rw [hc]; exact Bool.false_ne_true⟩

set_option maxHeartbeats 1000000 in
theorem allowed_any (x : Nat) (w : World) (hx : x < 256) :
    Calls Tryd.prog 31 #[.int .u8 (x : Int)] w fun e w' => e = .returned (.bool (okN x)) ∧ w = w' := by
  rcases okN_cases x with ⟨h, hr⟩ | ⟨h, hr⟩ | ⟨⟨h, h2⟩, hr⟩ | ⟨⟨h, h2⟩, hr⟩ | ⟨⟨h, h2⟩, hr⟩ | ⟨⟨h, h2⟩, hr⟩ | ⟨h, hr⟩ <;> (
    have Hr := Lib.hid hr
    clear hr
    go_enter Tryd.func31, Tryd.ntmps31
    go_wp2
    go_ret
    exact ⟨by rw [Hr.out]; first | rfl | (simp; done) | (simp; omega), rfl⟩)

set_option maxHeartbeats 1000000 in
theorem all_any (s : ByteArray) (w : World) (hs : s.size ≤ maxLen) :
    Calls Tryd.prog 30 #[.string s, (.func (.func 31) #[] #[])] w fun e w' => e = .returned (.bool (okAll s.data.toList)) ∧ w = w' := by
  unfold maxLen at hs
  have hl := str_len s
  have Hl := Lib.hid hl
  clear hl
  go_enter Tryd.func30, Tryd.ntmps30
  go_wp2
  go_loop [8] (fun i => ∃ k : Nat, k ≤ s.size ∧ i = .int .i64 k ∧ Hid (okAll (s.data.toList.take k) = true)) (fun i => s.size - (intOf i).toNat)
  case atStart => exact ⟨0, Nat.zero_le _, rfl, Lib.hid rfl⟩
  case round =>
    obtain ⟨k, hk, rfl, Ht⟩ := hrel
    by_cases hlt : k < s.size
    · have e1 := str_at s k hlt
      have hx := at8_hi s.data.toList k
      go_wp2_with fail
      refine (allowed_any (s.data.toList.getD k 0).toNat _ (s.data.toList.getD k 0).toNat_lt).mono ?_
      rintro e w1 ⟨rfl, rfl⟩
      have hsn := take_snoc s.data.toList k (by rw [Hl.out]; omega)
      by_cases ho : okN (s.data.toList.getD k 0).toNat = true
      · rw [ho]
        have Hr := Lib.hid (show okAll (s.data.toList.take (k + 1)) = true by
          rw [hsn]
          exact okAll_snoc _ _ Ht.out ho)
        clear hsn ho
        go_wp2
        go_round
        case rel => exact ⟨k + 1, by omega, by go_num, Hr⟩
        case measure => simp [intOf]; omega
      · have ho2 : okN (s.data.toList.getD k 0).toNat = false := by simpa using ho
        rw [ho2]
        have Hr := Lib.hid (show okAll s.data.toList = false from okAll_bad _ k (by rw [Hl.out]; omega) ho2)
        clear hsn ho ho2
        go_wp2
        go_ret
        exact ⟨by rw [Hr.out]; rfl, rfl⟩
    · have Hr := Lib.hid (show okAll s.data.toList = true by
        have := Ht.out
        rw [List.take_of_length_le (by rw [Hl.out]; omega)] at this
        exact this)
      go_wp2
      go_ret
      exact ⟨by rw [Hr.out]; rfl, rfl⟩

set_option maxHeartbeats 1000000 in
theorem check_any (s : ByteArray) (w : World) :
    Calls Tryd.prog 13 #[.string s] w fun e w' => e = .returned (.int .i64 (idErr s.data.toList)) ∧ w = w' := by
  have hl := str_len s
  by_cases h0 : 1 ≤ s.size ∧ s.size ≤ 24
  · obtain ⟨h1, h2⟩ := h0
    by_cases ho : okAll s.data.toList = true
    · have Hr := Lib.hid (show idErr s.data.toList = 0 by unfold idErr idL; rw [ho, hl, decide_eq_true ⟨h1, h2⟩]; rfl)
      have Ho := Lib.hid ho
      clear hl ho
      go_enter Tryd.func13, Tryd.ntmps13
      go_wp2_with fail
      refine (all_any s _ (by unfold maxLen; omega)).mono ?_
      rintro e w1 ⟨rfl, rfl⟩
      rw [Ho.out]
      go_wp2
      go_ret
      exact ⟨by rw [Hr.out]; rfl, rfl⟩
    · have ho2 : okAll s.data.toList = false := by simpa using ho
      have Hr := Lib.hid (show idErr s.data.toList = 290 by unfold idErr idL; rw [ho2, Bool.and_false]; rfl)
      have Ho := Lib.hid ho2
      clear hl ho ho2
      go_enter Tryd.func13, Tryd.ntmps13
      go_wp2_with fail
      refine (all_any s _ (by unfold maxLen; omega)).mono ?_
      rintro e w1 ⟨rfl, rfl⟩
      rw [Ho.out]
      go_wp2
      go_ret
      exact ⟨by rw [Hr.out]; rfl, rfl⟩
  · have Hr := Lib.hid (show idErr s.data.toList = 290 by unfold idErr idL; rw [hl, decide_eq_false h0]; rfl)
    clear hl
    by_cases h1 : s.size < 1
    · clear h0
      go_enter Tryd.func13, Tryd.ntmps13
      go_wp2
      go_ret
      exact ⟨by rw [Hr.out]; rfl, rfl⟩
    · have h2 : 24 < s.size := by omega
      clear h0
      go_enter Tryd.func13, Tryd.ntmps13
      go_wp2
      go_ret
      exact ⟨by rw [Hr.out]; rfl, rfl⟩

set_option maxHeartbeats 1000000 in
theorem refId_any (s : ByteArray) (w : World) :
    Calls Tryd.prog 12 #[.string s] w fun e w' => e = .returned (.bool (idL s.data.toList)) ∧ w = w' := by
  have hl := str_len s
  by_cases h0 : 1 ≤ s.size ∧ s.size ≤ 24
  · obtain ⟨h1, h2⟩ := h0
    have hi : idL s.data.toList = okAll s.data.toList := by unfold idL; rw [hl, decide_eq_true ⟨h1, h2⟩, Bool.true_and]
    rw [hi]
    have hz : ((s.size : Int) == 0) = false := beq_eq_false_iff_ne.2 (by omega)
    have Hl := Lib.hid hl
    clear hl hi
    go_enter Tryd.func12, Tryd.ntmps12
    go_wp2
    go_loop [3] (fun i => ∃ k : Nat, k ≤ s.size ∧ i = .int .i64 k ∧ Hid (okAll (s.data.toList.take k) = true)) (fun i => s.size - (intOf i).toNat)
    case atStart => exact ⟨0, Nat.zero_le _, rfl, Lib.hid rfl⟩
    case round =>
      obtain ⟨k, hk, rfl, Ht⟩ := hrel
      by_cases hlt : k < s.size
      · have hsn := take_snoc s.data.toList k (by rw [Hl.out]; omega)
        have e1 := str_at s k hlt
        have hx := (s.data.toList.getD k 0).toNat_lt
        have hg : at8 s.data.toList k = ((s.data.toList.getD k 0).toNat : Int) := rfl
        rw [hg] at e1
        clear hg
        have hc := okN_cases (s.data.toList.getD k 0).toNat
        have Hy := Lib.hid fun hy : okN (s.data.toList.getD k 0).toNat = true => (by rw [hsn]; exact okAll_snoc _ _ Ht.out hy : okAll (s.data.toList.take (k + 1)) = true)
        have Hn := Lib.hid fun hy : okN (s.data.toList.getD k 0).toNat = false => okAll_bad s.data.toList k (by rw [Hl.out]; omega) hy
        clear hsn
        generalize (s.data.toList.getD k 0).toNat = x at *
        rcases hc with ⟨h, hr⟩ | ⟨h, hr⟩ | ⟨⟨h, h2⟩, hr⟩ | ⟨⟨h, h2⟩, hr⟩ | ⟨⟨h, h2⟩, hr⟩ | ⟨⟨h, h2⟩, hr⟩ | ⟨h, hr⟩
        all_goals try have hb : ((x : Int) != 45) = true := bne_iff_ne.2 (by omega)
        all_goals try have hd : decide ((x : Int) < 48) = false := decide_eq_false (by omega)
        all_goals try have hd : decide ((57 : Int) < x) = false := decide_eq_false (by omega)
        all_goals
          first
          | have Hr := Lib.hid (Hy.out hr)
            clear hr Hy Hn
            go_wp2
            go_round
            case rel => exact ⟨k + 1, by omega, by go_num, Hr⟩
            case measure => simp [intOf]; omega
          | have Hr := Lib.hid (Hn.out hr)
            clear hr Hy Hn
            go_wp2
            go_ret
            exact ⟨by rw [Hr.out]; rfl, rfl⟩
      · have Hr := Lib.hid (show okAll s.data.toList = true by
          have := Ht.out
          rw [List.take_of_length_le (by rw [Hl.out]; omega)] at this
          exact this)
        go_wp2
        go_ret
        exact ⟨by rw [Hr.out]; rfl, rfl⟩
  · have Hr := Lib.hid (show idL s.data.toList = false by unfold idL; rw [hl, decide_eq_false h0]; rfl)
    clear hl
    by_cases h1 : s.size < 1
    · have h3 : s.size = 0 := by omega
      clear h0 h1
      go_enter Tryd.func12, Tryd.ntmps12
      go_wp2
      go_ret
      exact ⟨by rw [Hr.out]; rfl, rfl⟩
    · have h2 : 24 < s.size := by omega
      have hz : ((s.size : Int) == 0) = false := beq_eq_false_iff_ne.2 (by omega)
      clear h0
      go_enter Tryd.func12, Tryd.ntmps12
      go_wp2
      go_ret
      exact ⟨by rw [Hr.out]; rfl, rfl⟩
end Go.Proofs.YtedoajiapicpnaaDoor
