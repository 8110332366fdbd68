/-
  Layer 4: search among keys.
-/
import Derived.Test.YtnldiemggabdkaaDoorValG
import Derived.Test.YtnldiemggabdkaaDoorUtfO
namespace Go.Proofs.YtnldiemggabdkaaDoor
open Go.RowKit
set_option linter.unusedVariables false

theorem vless_iff (a b : UInt8) (x y : List UInt8) : Op.bytesLess (a :: x) (b :: y) = true ↔ a.toNat < b.toNat ∨ (a.toNat = b.toNat ∧ Op.bytesLess x y = true) := by
  rw [less_cons]
  by_cases h1 : a.toNat < b.toNat
  · rw [if_pos h1]; exact ⟨fun _ => .inl h1, fun _ => rfl⟩
  · rw [if_neg h1]
    by_cases h2 : a.toNat = b.toNat
    · rw [if_pos h2]; exact ⟨fun h => .inr ⟨h2, h⟩, fun h => h.elim (fun h => absurd h h1) (·.2)⟩
    · rw [if_neg h2]; exact ⟨fun h => (by cases h), fun h => h.elim (fun h => absurd h h1) fun h => absurd h.1 h2⟩
theorem vless_trans : ∀ (x y z : List UInt8), Op.bytesLess x y = true → Op.bytesLess y z = true → Op.bytesLess x z = true
  | x, y, [], _, h => by rw [less_nil] at h; cases h
  | x, [], z :: zs, h, _ => by rw [less_nil] at h; cases h
  | [], y :: ys, z :: zs, _, _ => rfl
  | x :: xs, y :: ys, z :: zs, h, g => by
    rw [vless_iff] at h g ⊢
    rcases h with h | ⟨h, h'⟩ <;> rcases g with g | ⟨g, g'⟩
    · exact .inl (by omega)
    · exact .inl (by omega)
    · exact .inl (by omega)
    · exact .inr ⟨by omega, vless_trans xs ys zs h' g'⟩
def vless (x y : ByteArray) : Bool := Op.bytesLess x.toList y.toList
theorem vless_tr {x y z : ByteArray} (h : vless x y = true) (g : vless y z = true) : vless x z = true := vless_trans _ _ _ h g
theorem vless_irr (x : ByteArray) : vless x x = false := less_same _
theorem vless_ne {x y : ByteArray} (h : vless x y = true) : x ≠ y := fun e => by rw [e, vless_irr] at h; cases h
/-- Keys in their order. -/
theorem keysB_ord {l : List ByteArray} (h : keysB l = true) : ∀ j i, i < j → j < l.length → vless (l.getD i ⟨#[]⟩) (l.getD j ⟨#[]⟩) = true := by
  intro j
  induction j with
  | zero => intro i h; omega
  | succ j ih =>
    intro i hi hj
    have hk := (keysB_iff l).1 h (j + 1) hj
    unfold keyOK at hk
    simp only [Bool.and_eq_true, Bool.or_eq_true, beq_iff_eq, Nat.add_sub_cancel] at hk
    have hk2 : vless (l.getD j ⟨#[]⟩) (l.getD (j + 1) ⟨#[]⟩) = true := by rcases hk.2 with h | h; omega; exact h
    by_cases e : i = j
    · rw [e]; exact hk2
    · exact vless_tr (ih i (by omega) (by omega)) hk2

/-- What search tells. -/
structure FindR (l : List ByteArray) (x : ByteArray) (i : Nat) (b : Bool) : Prop where
  yes : b = true → i < l.length ∧ l.getD i ⟨#[]⟩ = x
  no : b = false → ∀ j, j < l.length → l.getD j ⟨#[]⟩ ≠ x

set_option maxRecDepth 20000 in
set_option maxHeartbeats 2000000 in
theorem search_any (A : Option Addr) (n c : Nat) (l : List ByteArray) (x : ByteArray) (B : Nat) (w : World) (h : Shows w B 1 A n (l.map Value.string)) (hm : n ≤ 1000) (hord : ∀ j i, i < j → j < l.length → vless (l.getD i ⟨#[]⟩) (l.getD j ⟨#[]⟩) = true) :
    Calls Tryd.prog 57 #[.slice A n c, .string x] w fun e w' => ∃ (i : Nat) (b : Bool), e = .returned (.tuple #[.int .i64 i, .bool b]) ∧ FindR l x i b ∧ ∃ m, w' = w.drewN m := by
  have HL := Lib.hid (keys_len h)
  have HO := Lib.hid hord
  have HH := Lib.hid h
  clear h hord
  go_enter Tryd.func57, Tryd.ntmps57
  go_wp2
  go_loopw [6, 7] (fun a b wr => ∃ lo hi : Nat, lo ≤ hi ∧ hi ≤ n ∧ a = .int .i64 lo ∧ b = .int .i64 hi ∧ Hid ((∀ j, j < lo → vless (l.getD j ⟨#[]⟩) x = true) ∧ ∀ j, hi ≤ j → j < n → vless (l.getD j ⟨#[]⟩) x = false) ∧ wr = w) (fun a b _ => (intOf b).toNat - (intOf a).toNat)
  case atStart => exact ⟨0, n, Nat.zero_le _, Nat.le_refl _, rfl, rfl, Lib.hid ⟨fun j h => by omega, fun j h1 h2 => by omega⟩, rfl⟩
  case round =>
    obtain ⟨lo, hi, hlh, hhn, rfl, rfl, HI, rfl⟩ := hrel
    by_cases hlt : lo < hi
    · obtain ⟨m, hmd⟩ : ∃ m, m = (lo + hi) / 2 := ⟨_, rfl⟩
      have hq : ((lo : Int) + (hi : Int)).tdiv 2 = (m : Int) := by rw [Int.tdiv_eq_ediv_of_nonneg (by omega)]; omega
      have hq2 : ((lo : Int) + (hi : Int)) / 2 = (m : Int) := by omega
      have hm1 : lo ≤ m := by omega
      have hm2 : m < hi := by omega
      clear hmd
      have hw0 : RowKit.wrap64 ((lo : Int) + (hi : Int)) = (lo : Int) + hi := by unfold RowKit.wrap64; omega
      have hw : RowKit.wrap64 ((RowKit.wrap64 ((lo : Int) + (hi : Int))).tdiv 2) = (m : Int) := by rw [hw0, hq]; unfold RowKit.wrap64; omega
      obtain ⟨b, off, rfl, _, hc⟩ := key_at HH.out (i := m) (by omega)
      have hm3 : (m : Int) < n := by omega
      have hm4 : (0 : Int) ≤ m := by omega
      cases hv : Op.bytesLess (l.getD m ⟨#[]⟩).toList x.toList
      · have HI' := Lib.hid (show (∀ j, j < lo → vless (l.getD j ⟨#[]⟩) x = true) ∧ ∀ j, m ≤ j → j < n → vless (l.getD j ⟨#[]⟩) x = false from ⟨HI.out.1, fun j h1 h2 => by
          by_cases e : j = m
          · rw [e]; exact hv
          · cases hq : vless (l.getD j ⟨#[]⟩) x with
            | false => rfl
            | true => have := vless_tr (HO.out j m (by omega) (by rw [HL.out]; exact h2)) hq; unfold vless at this; rw [hv] at this; cases this⟩)
        generalize l.getD m ⟨#[]⟩ = y at *
        go_wp2
        go_roundw
        case rel => exact ⟨lo, m, hm1, by omega, rfl, rfl, HI', by first | rfl | trivial⟩
        case measure => simp [intOf]; omega
      · have HI' := Lib.hid (show (∀ j, j < m + 1 → vless (l.getD j ⟨#[]⟩) x = true) ∧ ∀ j, hi ≤ j → j < n → vless (l.getD j ⟨#[]⟩) x = false from ⟨fun j h1 => by
          by_cases e : j = m
          · rw [e]; exact hv
          · exact vless_tr (HO.out m j (by omega) (by rw [HL.out]; omega)) hv, HI.out.2⟩)
        generalize l.getD m ⟨#[]⟩ = y at *
        go_wp2
        go_roundw
        case rel => exact ⟨m + 1, hi, by omega, hhn, by go_num, rfl, HI', by first | rfl | trivial⟩
        case measure => simp [intOf]; omega
    · have e : lo = hi := by omega
      subst e
      by_cases hin : lo < n
      · obtain ⟨b, off, rfl, _, hc⟩ := key_at HH.out (i := lo) hin
        have hin' : (lo : Int) < n := by omega
        have hm4 : (0 : Int) ≤ lo := by omega
        by_cases hx : l.getD lo ⟨#[]⟩ = x
        · have hF := Lib.hid (show FindR l x lo true from ⟨fun _ => ⟨by rw [HL.out]; exact hin, hx⟩, fun h => by cases h⟩)
          have hs : ((l.getD lo ⟨#[]⟩).toList == x.toList) = true := by rw [hx]; exact str_eq x
          clear hx HI
          generalize l.getD lo ⟨#[]⟩ = y at *
          go_wp2
          go_quiet (fail)
          go_wp2
          go_ret2
          exact ⟨lo, true, rfl, hF.out, _, rfl⟩
        · have hF := Lib.hid (show FindR l x lo false from ⟨fun h => (by cases h), fun _ j hj e => by
            rcases Nat.lt_trichotomy j lo with h | h | h
            · exact vless_ne (HI.out.1 j h) e
            · exact hx (h ▸ e)
            · have h2 := HI.out.2 lo (Nat.le_refl _) hin
              have h3 := HO.out j lo h hj
              rw [e] at h3
              rw [h2] at h3; cases h3⟩)
          have hs := str_ne hx
          clear hx HI
          generalize l.getD lo ⟨#[]⟩ = y at *
          go_wp2
          go_quiet (fail)
          go_wp2
          go_ret2
          exact ⟨lo, false, rfl, hF.out, _, rfl⟩
      · have e : lo = n := by omega
        subst e
        have hF := Lib.hid (show FindR l x lo false from ⟨fun h => (by cases h), fun _ j hj e => vless_ne (HI.out.1 j (by rw [← HL.out]; exact hj)) e⟩)
        clear HI
        go_wp2
        go_quiet (fail)
        go_wp2
        go_ret2
        exact ⟨lo, false, rfl, hF.out, _, rfl⟩
end Go.Proofs.YtnldiemggabdkaaDoor
