import Derived.Test.YtnldiemggabdkaaDoorGaa
import Derived.Test.YtnldiemggabdkaaDoorGad
import Derived.Test.YtnldiemggabdkaaDoorRows
/-
  Layer 1, plain: the order of texts is the order of their code points.
-/
namespace Go.Proofs.YtnldiemggabdkaaDoor

theorem less_cons (a b : UInt8) (x y : List UInt8) : Op.bytesLess (a :: x) (b :: y) = if a.toNat < b.toNat then true else if a.toNat = b.toNat then Op.bytesLess x y else false := by
  simp only [Op.bytesLess]
  by_cases h : a.toNat < b.toNat
  · rw [if_pos h]
    have : a < b := h
    simp [this]
  · rw [if_neg h]
    have h' : ¬ a < b := h
    by_cases h2 : a.toNat = b.toNat
    · rw [if_pos h2]
      have : a = b := UInt8.toNat_inj.1 h2
      subst this
      simp [h']
    · rw [if_neg h2]
      have : ¬ a = b := fun e => h2 (by rw [e])
      simp [h', this]
theorem less_nil (x : List UInt8) : Op.bytesLess x [] = false := by cases x <;> rfl
theorem less_pre : ∀ (p x y : List UInt8), Op.bytesLess (p ++ x) (p ++ y) = Op.bytesLess x y
  | [], _, _ => rfl
  | a :: p, x, y => by
    show Op.bytesLess (a :: (p ++ x)) (a :: (p ++ y)) = _
    rw [less_cons, if_neg (by omega), if_pos rfl, less_pre p x y]
theorem less_same (p : List UInt8) : Op.bytesLess p p = false := by
  have := less_pre p [] []
  simpa [less_nil] using this
/-- The bytes of a lesser code point are less, whatever stands behind. -/
theorem less_enc (c d : Nat) (hc : isCp c = true) (hd : isCp d = true) (h : c < d) (x y : List UInt8) :
    Op.bytesLess (encL c ++ x) (encL d ++ y) = true ∧ Op.bytesLess (encL d ++ y) (encL c ++ x) = false := by
  have hc := (isCp_iff _).1 hc
  have hd := (isCp_iff _).1 hd
  have k1 : c / 64 / 64 = c / 4096 := Nat.div_div_eq_div_mul c 64 64
  have k2 : c / 4096 / 64 = c / 262144 := Nat.div_div_eq_div_mul c 4096 64
  have k3 : d / 64 / 64 = d / 4096 := Nat.div_div_eq_div_mul d 64 64
  have k4 : d / 4096 / 64 = d / 262144 := Nat.div_div_eq_div_mul d 4096 64
  unfold encL
  by_cases c1 : c < 128
  · rw [if_pos c1]
    by_cases d1 : d < 128
    · rw [if_pos d1]
      simp only [List.cons_append, List.nil_append, less_cons, b8_toNat c (by omega), b8_toNat d (by omega)]
      rw [if_pos h, if_neg (by omega), if_neg (by omega)]; exact ⟨rfl, rfl⟩
    · rw [if_neg d1]
      by_cases d2 : d < 2048
      · rw [if_pos d2]
        simp only [List.cons_append, List.nil_append, less_cons, b8_toNat c (by omega), b8_toNat (192 + d / 64) (by omega)]
        rw [if_pos (by omega), if_neg (by omega), if_neg (by omega)]; exact ⟨rfl, rfl⟩
      · rw [if_neg d2]
        by_cases d3 : d < 65536
        · rw [if_pos d3]
          simp only [List.cons_append, List.nil_append, less_cons, b8_toNat c (by omega), b8_toNat (224 + d / 4096) (by omega)]
          rw [if_pos (by omega), if_neg (by omega), if_neg (by omega)]; exact ⟨rfl, rfl⟩
        · rw [if_neg d3]
          simp only [List.cons_append, List.nil_append, less_cons, b8_toNat c (by omega), b8_toNat (240 + d / 262144) (by omega)]
          rw [if_pos (by omega), if_neg (by omega), if_neg (by omega)]; exact ⟨rfl, rfl⟩
  · rw [if_neg c1, if_neg (show ¬ d < 128 by omega)]
    by_cases c2 : c < 2048
    · rw [if_pos c2]
      by_cases d2 : d < 2048
      · rw [if_pos d2]
        simp only [List.cons_append, List.nil_append, less_cons, b8_toNat (192 + c / 64) (by omega), b8_toNat (192 + d / 64) (by omega), b8_toNat (128 + c % 64) (by omega), b8_toNat (128 + d % 64) (by omega)]
        by_cases e : c / 64 < d / 64
        · rw [if_pos (by omega), if_neg (by omega), if_neg (by omega)]; exact ⟨rfl, rfl⟩
        · rw [if_neg (by omega), if_pos (by omega), if_pos (by omega), if_neg (by omega), if_pos (by omega), if_neg (by omega), if_neg (by omega)]; exact ⟨rfl, rfl⟩
      · rw [if_neg d2]
        by_cases d3 : d < 65536
        · rw [if_pos d3]
          simp only [List.cons_append, List.nil_append, less_cons, b8_toNat (192 + c / 64) (by omega), b8_toNat (224 + d / 4096) (by omega)]
          rw [if_pos (by omega), if_neg (by omega), if_neg (by omega)]; exact ⟨rfl, rfl⟩
        · rw [if_neg d3]
          simp only [List.cons_append, List.nil_append, less_cons, b8_toNat (192 + c / 64) (by omega), b8_toNat (240 + d / 262144) (by omega)]
          rw [if_pos (by omega), if_neg (by omega), if_neg (by omega)]; exact ⟨rfl, rfl⟩
    · rw [if_neg c2, if_neg (show ¬ d < 2048 by omega)]
      by_cases c3 : c < 65536
      · rw [if_pos c3]
        by_cases d3 : d < 65536
        · rw [if_pos d3]
          simp only [List.cons_append, List.nil_append, less_cons, b8_toNat (224 + c / 4096) (by omega), b8_toNat (224 + d / 4096) (by omega), b8_toNat (128 + c / 64 % 64) (by omega), b8_toNat (128 + d / 64 % 64) (by omega), b8_toNat (128 + c % 64) (by omega), b8_toNat (128 + d % 64) (by omega)]
          have q1 : c = c / 4096 * 4096 + c / 64 % 64 * 64 + c % 64 := by omega
          have q2 : d = d / 4096 * 4096 + d / 64 % 64 * 64 + d % 64 := by omega
          have q3 : c / 64 % 64 < 64 := by omega
          have q4 : d / 64 % 64 < 64 := by omega
          have q5 : c % 64 < 64 := by omega
          have q6 : d % 64 < 64 := by omega
          clear k1 k2 k3 k4
          generalize c / 4096 = c2 at *
          generalize c / 64 % 64 = c1 at *
          generalize c % 64 = c0 at *
          generalize d / 4096 = d2 at *
          generalize d / 64 % 64 = d1 at *
          generalize d % 64 = d0 at *
          constructor <;> (repeat' split) <;> first | rfl | (exfalso; omega)
        · rw [if_neg d3]
          simp only [List.cons_append, List.nil_append, less_cons, b8_toNat (224 + c / 4096) (by omega), b8_toNat (240 + d / 262144) (by omega)]
          rw [if_pos (by omega), if_neg (by omega), if_neg (by omega)]; exact ⟨rfl, rfl⟩
      · rw [if_neg c3, if_neg (show ¬ d < 65536 by omega)]
        simp only [List.cons_append, List.nil_append, less_cons, b8_toNat (240 + c / 262144) (by omega), b8_toNat (240 + d / 262144) (by omega), b8_toNat (128 + c / 4096 % 64) (by omega), b8_toNat (128 + d / 4096 % 64) (by omega), b8_toNat (128 + c / 64 % 64) (by omega), b8_toNat (128 + d / 64 % 64) (by omega), b8_toNat (128 + c % 64) (by omega), b8_toNat (128 + d % 64) (by omega)]
        have q1 : c = c / 262144 * 262144 + c / 4096 % 64 * 4096 + c / 64 % 64 * 64 + c % 64 := by omega
        have q2 : d = d / 262144 * 262144 + d / 4096 % 64 * 4096 + d / 64 % 64 * 64 + d % 64 := by omega
        have q3 : c / 64 % 64 < 64 := by omega
        have q4 : d / 64 % 64 < 64 := by omega
        have q5 : c % 64 < 64 := by omega
        have q6 : d % 64 < 64 := by omega
        have q7 : c / 4096 % 64 < 64 := by omega
        have q8 : d / 4096 % 64 < 64 := by omega
        clear k1 k2 k3 k4
        generalize c / 262144 = c3' at *
        generalize c / 4096 % 64 = c2' at *
        generalize c / 64 % 64 = c1' at *
        generalize c % 64 = c0 at *
        generalize d / 262144 = d3' at *
        generalize d / 4096 % 64 = d2' at *
        generalize d / 64 % 64 = d1' at *
        generalize d % 64 = d0 at *
        constructor <;> (repeat' split) <;> first | rfl | (exfalso; omega)

/-- How two rows of numbers compare: -1, 0, 1. -/
def cmpN : List Nat → List Nat → Int
  | [], [] => 0
  | [], _ :: _ => -1
  | _ :: _, [] => 1
  | a :: x, b :: y => if a < b then -1 else if b < a then 1 else cmpN x y
theorem cmpN_zero : ∀ x y : List Nat, cmpN x y = 0 ↔ x = y
  | [], [] => by simp [cmpN]
  | [], _ :: _ => by simp [cmpN]
  | _ :: _, [] => by simp [cmpN]
  | a :: x, b :: y => by
    simp only [cmpN]
    by_cases h : a < b
    · rw [if_pos h]; simp; omega
    · rw [if_neg h]
      by_cases h2 : b < a
      · rw [if_pos h2]; simp; omega
      · rw [if_neg h2, cmpN_zero x y]
        have : a = b := by omega
        simp [this]
/-- The byte order of two texts is the order of their code points. -/
theorem less_text : ∀ x y : List Nat, allCp x → allCp y → Op.bytesLess (textL x) (textL y) = decide (cmpN x y < 0)
  | [], [], _, _ => rfl
  | [], d :: y, _, _ => by
    rw [textL_cons]
    have := encL_len_pos d
    rcases h : encL d with _ | ⟨b, r⟩
    · rw [h] at this; simp at this
    · rfl
  | c :: x, [], _, _ => by
    rw [textL_nil, less_nil]
    rfl
  | c :: x, d :: y, hx, hy => by
    rw [textL_cons, textL_cons]
    have hc := hx c (by simp)
    have hd := hy d (by simp)
    by_cases h : c < d
    · have e : cmpN (c :: x) (d :: y) = -1 := by simp only [cmpN]; rw [if_pos h]
      rw [(less_enc c d hc hd h _ _).1, e]; rfl
    · by_cases h2 : d < c
      · have e : cmpN (c :: x) (d :: y) = 1 := by simp only [cmpN]; rw [if_neg h, if_pos h2]
        rw [(less_enc d c hd hc h2 _ _).2, e]; rfl
      · have e : cmpN (c :: x) (d :: y) = cmpN x y := by simp only [cmpN]; rw [if_neg h, if_neg h2]
        obtain rfl : c = d := by omega
        rw [less_pre, e]
        exact less_text x y (fun a ha => hx a (by simp [ha])) (fun a ha => hy a (by simp [ha]))
end Go.Proofs.YtnldiemggabdkaaDoor
/-
  Layer 4: search among keys.
-/
namespace Go.Proofs.YtnldiemggabdkaaDoor
open Go.RowKit
set_option linter.unusedVariables false

theorem vless_iff (a b : UInt8) (x y : List UInt8) : Op.bytesLess (a :: x) (b :: y) = true ↔ a.toNat < b.toNat ∨ (a.toNat = b.toNat ∧ Op.bytesLess x y = true) := by
  rw [less_cons]
  by_cases h1 : a.toNat < b.toNat
  · rw [if_pos h1]; exact ⟨fun _ => .inl h1, fun _ => rfl⟩
  · rw [if_neg h1]
    by_cases h2 : a.toNat = b.toNat
    · rw [if_pos h2]; exact ⟨fun h => .inr ⟨h2, h⟩, fun h => h.elim (fun h => absurd h h1) (·.2)⟩
    · rw [if_neg h2]; exact ⟨fun h => (by cases h), fun h => h.elim (fun h => absurd h h1) fun h => absurd h.1 h2⟩
theorem vless_trans : ∀ (x y z : List UInt8), Op.bytesLess x y = true → Op.bytesLess y z = true → Op.bytesLess x z = true
  | x, y, [], _, h => by rw [less_nil] at h; cases h
  | x, [], z :: zs, h, _ => by rw [less_nil] at h; cases h
  | [], y :: ys, z :: zs, _, _ => rfl
  | x :: xs, y :: ys, z :: zs, h, g => by
    rw [vless_iff] at h g ⊢
    rcases h with h | ⟨h, h'⟩ <;> rcases g with g | ⟨g, g'⟩
    · exact .inl (by omega)
    · exact .inl (by omega)
    · exact .inl (by omega)
    · exact .inr ⟨by omega, vless_trans xs ys zs h' g'⟩
def vless (x y : ByteArray) : Bool := Op.bytesLess x.toList y.toList
theorem vless_tr {x y z : ByteArray} (h : vless x y = true) (g : vless y z = true) : vless x z = true := vless_trans _ _ _ h g
theorem vless_irr (x : ByteArray) : vless x x = false := less_same _
theorem vless_ne {x y : ByteArray} (h : vless x y = true) : x ≠ y := fun e => by rw [e, vless_irr] at h; cases h
/-- Keys in their order. -/
theorem keysB_ord {l : List ByteArray} (h : keysB l = true) : ∀ j i, i < j → j < l.length → vless (l.getD i ⟨#[]⟩) (l.getD j ⟨#[]⟩) = true := by
  intro j
  induction j with
  | zero => intro i h; omega
  | succ j ih =>
    intro i hi hj
    have hk := (keysB_iff l).1 h (j + 1) hj
    unfold keyOK at hk
    simp only [Bool.and_eq_true, Bool.or_eq_true, beq_iff_eq, Nat.add_sub_cancel] at hk
    have hk2 : vless (l.getD j ⟨#[]⟩) (l.getD (j + 1) ⟨#[]⟩) = true := by rcases hk.2 with h | h; omega; exact h
    by_cases e : i = j
    · rw [e]; exact hk2
    · exact vless_tr (ih i (by omega) (by omega)) hk2

/-- What search tells. -/
structure FindR (l : List ByteArray) (x : ByteArray) (i : Nat) (b : Bool) : Prop where
  yes : b = true → i < l.length ∧ l.getD i ⟨#[]⟩ = x
  no : b = false → ∀ j, j < l.length → l.getD j ⟨#[]⟩ ≠ x

set_option maxRecDepth 20000 in
set_option maxHeartbeats 2000000 in
theorem search_any (A : Option Addr) (n c : Nat) (l : List ByteArray) (x : ByteArray) (B : Nat) (w : World) (h : Shows w B 1 A n (l.map Value.string)) (hm : n ≤ 1000) (hord : ∀ j i, i < j → j < l.length → vless (l.getD i ⟨#[]⟩) (l.getD j ⟨#[]⟩) = true) :
    Calls Tryd.prog 57 #[.slice A n c, .string x] w fun e w' => ∃ (i : Nat) (b : Bool), e = .returned (.tuple #[.int .i64 i, .bool b]) ∧ FindR l x i b ∧ ∃ m, w' = w.drewN m := by
  have HL := Lib.hid (keys_len h)
  have HO := Lib.hid hord
  have HH := Lib.hid h
  clear h hord
  go_enter Tryd.func57, Tryd.ntmps57
  go_wp2
  go_loopw [6, 7] (fun a b wr => ∃ lo hi : Nat, lo ≤ hi ∧ hi ≤ n ∧ a = .int .i64 lo ∧ b = .int .i64 hi ∧ Hid ((∀ j, j < lo → vless (l.getD j ⟨#[]⟩) x = true) ∧ ∀ j, hi ≤ j → j < n → vless (l.getD j ⟨#[]⟩) x = false) ∧ wr = w) (fun a b _ => (intOf b).toNat - (intOf a).toNat)
  case atStart => exact ⟨0, n, Nat.zero_le _, Nat.le_refl _, rfl, rfl, Lib.hid ⟨fun j h => by omega, fun j h1 h2 => by omega⟩, rfl⟩
  case round =>
    obtain ⟨lo, hi, hlh, hhn, rfl, rfl, HI, rfl⟩ := hrel
    by_cases hlt : lo < hi
    · obtain ⟨m, hmd⟩ : ∃ m, m = (lo + hi) / 2 := ⟨_, rfl⟩
      have hq : ((lo : Int) + (hi : Int)).tdiv 2 = (m : Int) := by rw [Int.tdiv_eq_ediv_of_nonneg (by omega)]; omega
      have hq2 : ((lo : Int) + (hi : Int)) / 2 = (m : Int) := by omega
      have hm1 : lo ≤ m := by omega
      have hm2 : m < hi := by omega
      clear hmd
      have hw0 : RowKit.wrap64 ((lo : Int) + (hi : Int)) = (lo : Int) + hi := by unfold RowKit.wrap64; omega
      have hw : RowKit.wrap64 ((RowKit.wrap64 ((lo : Int) + (hi : Int))).tdiv 2) = (m : Int) := by rw [hw0, hq]; unfold RowKit.wrap64; omega
      obtain ⟨b, off, rfl, _, hc⟩ := key_at HH.out (i := m) (by omega)
      have hm3 : (m : Int) < n := by omega
      have hm4 : (0 : Int) ≤ m := by omega
      cases hv : Op.bytesLess (l.getD m ⟨#[]⟩).toList x.toList
      · have HI' := Lib.hid (show (∀ j, j < lo → vless (l.getD j ⟨#[]⟩) x = true) ∧ ∀ j, m ≤ j → j < n → vless (l.getD j ⟨#[]⟩) x = false from ⟨HI.out.1, fun j h1 h2 => by
          by_cases e : j = m
          · rw [e]; exact hv
          · cases hq : vless (l.getD j ⟨#[]⟩) x with
            | false => rfl
            | true => have := vless_tr (HO.out j m (by omega) (by rw [HL.out]; exact h2)) hq; unfold vless at this; rw [hv] at this; cases this⟩)
        generalize l.getD m ⟨#[]⟩ = y at *
        go_wp2
        go_roundw
        case rel => exact ⟨lo, m, hm1, by omega, rfl, rfl, HI', by first | rfl | trivial⟩
        case measure => simp [intOf]; omega
      · have HI' := Lib.hid (show (∀ j, j < m + 1 → vless (l.getD j ⟨#[]⟩) x = true) ∧ ∀ j, hi ≤ j → j < n → vless (l.getD j ⟨#[]⟩) x = false from ⟨fun j h1 => by
          by_cases e : j = m
          · rw [e]; exact hv
          · exact vless_tr (HO.out m j (by omega) (by rw [HL.out]; omega)) hv, HI.out.2⟩)
        generalize l.getD m ⟨#[]⟩ = y at *
        go_wp2
        go_roundw
        case rel => exact ⟨m + 1, hi, by omega, hhn, by go_num, rfl, HI', by first | rfl | trivial⟩
        case measure => simp [intOf]; omega
    · have e : lo = hi := by omega
      subst e
      by_cases hin : lo < n
      · obtain ⟨b, off, rfl, _, hc⟩ := key_at HH.out (i := lo) hin
        have hin' : (lo : Int) < n := by omega
        have hm4 : (0 : Int) ≤ lo := by omega
        by_cases hx : l.getD lo ⟨#[]⟩ = x
        · have hF := Lib.hid (show FindR l x lo true from ⟨fun _ => ⟨by rw [HL.out]; exact hin, hx⟩, fun h => by cases h⟩)
          have hs : ((l.getD lo ⟨#[]⟩).toList == x.toList) = true := by rw [hx]; exact str_eq x
          clear hx HI
          generalize l.getD lo ⟨#[]⟩ = y at *
          go_wp2
          go_quiet (fail)
          go_wp2
          go_ret2
          exact ⟨lo, true, rfl, hF.out, _, rfl⟩
        · have hF := Lib.hid (show FindR l x lo false from ⟨fun h => (by cases h), fun _ j hj e => by
            rcases Nat.lt_trichotomy j lo with h | h | h
            · exact vless_ne (HI.out.1 j h) e
            · exact hx (h ▸ e)
            · have h2 := HI.out.2 lo (Nat.le_refl _) hin
              have h3 := HO.out j lo h hj
              rw [e] at h3
              rw [h2] at h3; cases h3⟩)
          have hs := str_ne hx
          clear hx HI
          generalize l.getD lo ⟨#[]⟩ = y at *
          go_wp2
          go_quiet (fail)
          go_wp2
          go_ret2
          exact ⟨lo, false, rfl, hF.out, _, rfl⟩
      · have e : lo = n := by omega
        subst e
        have hF := Lib.hid (show FindR l x lo false from ⟨fun h => (by cases h), fun _ j hj e => vless_ne (HI.out.1 j (by rw [← HL.out]; exact hj)) e⟩)
        clear HI
        go_wp2
        go_quiet (fail)
        go_wp2
        go_ret2
        exact ⟨lo, false, rfl, hF.out, _, rfl⟩
end Go.Proofs.YtnldiemggabdkaaDoor
/-
  Layer 4: what a value is kept in; checked, member.
-/
namespace Go.Proofs.YtnldiemggabdkaaDoor
open Go.RowKit
set_option linter.unusedVariables false

/-- Five cells of a variable of one's own. -/
def VFive (w : World) (g : Nat) (a b c d e : Value) : Prop :=
    (w.cell? ⟨g, 0, none⟩ = some a ∧ w.cell? ⟨g, 1, none⟩ = some b ∧ w.cell? ⟨g, 2, none⟩ = some c ∧ w.cell? ⟨g, 3, none⟩ = some d ∧ w.cell? ⟨g, 4, none⟩ = some e) ∧
    (w.frozen? ⟨g, 0, none⟩ = false ∧ w.frozen? ⟨g, 1, none⟩ = false ∧ w.frozen? ⟨g, 2, none⟩ = false ∧ w.frozen? ⟨g, 3, none⟩ = false ∧ w.frozen? ⟨g, 4, none⟩ = false)
theorem VFive.alloc {w : World} {g : Nat} {a b c d e : Value} (o : Obj) (h : VFive w g a b c d e) : VFive (w.alloc o) g a b c d e := by
  obtain ⟨⟨r0, r1, r2, r3, r4⟩, f0, f1, f2, f3, f4⟩ := h
  exact ⟨⟨cell_keep r0 o, cell_keep r1 o, cell_keep r2 o, cell_keep r3 o, cell_keep r4 o⟩, (frozen_keep r0 o).trans f0, (frozen_keep r1 o).trans f1, (frozen_keep r2 o).trans f2, (frozen_keep r3 o).trans f3, (frozen_keep r4 o).trans f4⟩
theorem VFive.later {w w1 : World} {g : Nat} {a b c d e : Value} (h : VFive w g a b c d e) (hb : Below w.heap.size w w1) : VFive w1 g a b c d e := by
  obtain ⟨⟨r0, r1, r2, r3, r4⟩, f0, f1, f2, f3, f4⟩ := h
  have l := World.block_lt_of_cell? w _ r0
  exact ⟨⟨kept_later hb r0, kept_later hb r1, kept_later hb r2, kept_later hb r3, kept_later hb r4⟩, (hb.frozen (p := ⟨g, 0, none⟩) l).trans f0, (hb.frozen (p := ⟨g, 1, none⟩) l).trans f1, (hb.frozen (p := ⟨g, 2, none⟩) l).trans f2, (hb.frozen (p := ⟨g, 3, none⟩) l).trans f3, (hb.frozen (p := ⟨g, 4, none⟩) l).trans f4⟩
theorem VFive.new (w : World) (a b c d e : Value) (t : TypeId) (g : Nat) (hg : w.heap.size = g) : VFive (w.alloc (.cells #[a, b, c, d, e] t)) g a b c d e := by
  subst hg
  exact ⟨⟨by simp [go_sem], by simp [go_sem], by simp [go_sem], by simp [go_sem], by simp [go_sem]⟩, by simp [go_sem], by simp [go_sem], by simp [go_sem], by simp [go_sem], by simp [go_sem]⟩
theorem vbelow_set5 {B g : Nat} {w w1 : World} {a b c d e : Value} (h : Below B w w1) (hg : B ≤ g) : Below B w (((((w1.setCell ⟨g, 0, none⟩ a).setCell ⟨g, 1, none⟩ b).setCell ⟨g, 2, none⟩ c).setCell ⟨g, 3, none⟩ d).setCell ⟨g, 4, none⟩ e) :=
  ((((h.setCell hg a).setCell hg b).setCell hg c).setCell hg d).setCell hg e
/-- A value's box and the box of what is told. -/
theorem vbox2 (w : World) (k n : Int) (s : ByteArray) (cA : Option Addr) (cn cc : Nat) (kA : Option Addr) (kn kc : Nat) (W : World) (hW : W = (w.alloc (.cells #[.int .i64 k, .int .i64 n, .string s, .slice cA cn cc, .slice kA kn kc] 25)).alloc (.cells #[.int .i64 0, .int .i64 0, .string ⟨#[]⟩, .slice none 0 0, .slice none 0 0] 25)) :
    Below w.heap.size w W ∧ W.heap.size = w.heap.size + 2 ∧ VFive W w.heap.size (.int .i64 k) (.int .i64 n) (.string s) (.slice cA cn cc) (.slice kA kn kc) ∧ VFive W (w.heap.size + 1) (.int .i64 0) (.int .i64 0) (.string ⟨#[]⟩) (.slice none 0 0) (.slice none 0 0) := by
  subst hW
  exact ⟨bel_alloc (bel_alloc (Below.refl _ _) _) _, by simp, (VFive.new _ _ _ _ _ _ _ _ rfl).alloc _, VFive.new _ _ _ _ _ _ _ _ (by simp)⟩

/-- The value there is not. -/
def zV : Value := .agg #[.int .i64 0, .int .i64 0, .string ⟨#[]⟩, .slice none 0 0, .slice none 0 0]
set_option maxRecDepth 20000 in
theorem checked_any (B : Nat) (w : World) (T : VT) (hL : Lie w B T) (hB : B ≤ w.heap.size) (htab : UTab w) (hst : STab w) :
    Calls Tryd.prog 46 #[T.agg] w fun e w' => e = .returned (.tuple #[if T.ok = true then T.agg else zV, .int .i64 (if T.ok = true then 0 else 140)]) ∧ Below w.heap.size w w' := by
  obtain ⟨k, n, s, cA, cn, cc, kA, kn, kc, keys, kids⟩ := T
  obtain ⟨hb, hsz, hv, hz⟩ := vbox2 w k n s cA cn cc kA kn kc _ rfl
  have hm := valid_any B _ (.mk k n s cA cn cc kA kn kc keys kids) (hL.later (hb.mono hB)) (Nat.le_trans hB hb.size) (htab.below hb htab.lt) (hst.below hb hst.lt)
  simp only [VT.agg] at hm ⊢
  have hle1 : w.heap.size ≤ w.heap.size + 1 := Nat.le_succ _
  have Hv := Lib.hid hv
  have Hz := Lib.hid hz
  clear hL hsz hv hz
  cases h : VT.ok (.mk k n s cA cn cc kA kn kc keys kids)
  · rw [h] at hm
    clear h
    go_enter Tryd.func46, Tryd.ntmps46
    go_wp2_with fail
    refine hm.mono ?_
    rintro e w1 ⟨rfl, hb1⟩
    obtain ⟨⟨e0, e1, e2, e3, e4⟩, f0, f1, f2, f3, f4⟩ := Hz.out.later hb1
    have hb2 := bel_next hb hb1
    clear hb hb1
    go_wp2
    refine bodyPost_ret (v := .tuple #[.agg #[.int .i64 0, .int .i64 0, .string ⟨#[]⟩, .slice none 0 0, .slice none 0 0], .int .i64 140]) ?_ rfl ⟨rfl, vbelow_set5 hb2 hle1⟩
    simp [results, Tryd.results46, go_sem, *]
  · rw [h] at hm
    clear h
    go_enter Tryd.func46, Tryd.ntmps46
    go_wp2_with fail
    refine hm.mono ?_
    rintro e w1 ⟨rfl, hb1⟩
    obtain ⟨⟨e0, e1, e2, e3, e4⟩, f0, f1, f2, f3, f4⟩ := Hz.out.later hb1
    obtain ⟨⟨d0, d1, d2, d3, d4⟩, -⟩ := Hv.out.later hb1
    have hb2 := bel_next hb hb1
    clear hb hb1
    go_wp2
    refine bodyPost_ret (v := .tuple #[.agg #[.int .i64 k, .int .i64 n, .string s, .slice cA cn cc, .slice kA kn kc], .int .i64 0]) ?_ rfl ⟨rfl, vbelow_set5 hb2 hle1⟩
    simp [results, Tryd.results46, go_sem, *]

theorem search_bel (A : Option Addr) (n c : Nat) (l : List ByteArray) (x : ByteArray) (B : Nat) (w : World) (h : Shows w B 1 A n (l.map Value.string)) (hm : n ≤ 1000) (hord : ∀ j i, i < j → j < l.length → vless (l.getD i ⟨#[]⟩) (l.getD j ⟨#[]⟩) = true) :
    Calls Tryd.prog 57 #[.slice A n c, .string x] w fun e w' => ∃ (i : Nat) (b : Bool), e = .returned (.tuple #[.int .i64 i, .bool b]) ∧ FindR l x i b ∧ Below w.heap.size w w' := by
  refine (search_any A n c l x B w h hm hord).mono ?_
  rintro e w' ⟨i, b, rfl, hF, m, rfl⟩
  exact ⟨i, b, rfl, hF, below_drewN (Below.refl _ _) m⟩

/-- What there is at a key. -/
def getK : List ByteArray → List VT → ByteArray → Option VT
  | k :: ks, t :: ts, x => if k = x then some t else getK ks ts x
  | _, _, _ => none
theorem getK_some : ∀ (ks : List ByteArray) (ts : List VT) (x : ByteArray) (i : Nat), i < ks.length → i < ts.length → ks.getD i ⟨#[]⟩ = x → (∀ j, j < i → ks.getD j ⟨#[]⟩ ≠ x) → getK ks ts x = ts[i]?
  | k :: ks, t :: ts, x, 0, _, _, h, _ => by
    have : k = x := by simpa using h
    rw [getK, if_pos this]; rfl
  | k :: ks, t :: ts, x, i + 1, h1, h2, h, hn => by
    have h0 : k ≠ x := by simpa using hn 0 (by omega)
    rw [getK, if_neg h0, getK_some ks ts x i (by simpa using h1) (by simpa using h2) (by simpa using h) (fun j hj => by simpa using hn (j + 1) (by omega))]
    simp
theorem getK_none : ∀ (ks : List ByteArray) (ts : List VT) (x : ByteArray), (∀ j, j < ks.length → ks.getD j ⟨#[]⟩ ≠ x) → getK ks ts x = none
  | [], _, _, _ => by simp [getK]
  | _ :: _, [], _, _ => by simp [getK]
  | k :: ks, t :: ts, x, h => by
    have h0 : k ≠ x := by simpa using h 0 (by simp)
    rw [getK, if_neg h0]
    exact getK_none ks ts x fun j hj => by simpa using h (j + 1) (by simpa using hj)
def VT.get (T : VT) (x : ByteArray) : Option VT := if T.k = 6 then getK T.keys T.kids x else none
/-- What is told of what there is. -/
def memR : Option VT → Value
  | some T => .tuple #[T.agg, .bool true]
  | none => .tuple #[zV, .bool false]
/-- What a right value has. -/
theorem ok_keys {k n : Int} {s : ByteArray} {cA : Option Addr} {cn cc : Nat} {kA : Option Addr} {kn kc : Nat} {keys : List ByteArray} {kids : List VT} (h : (VT.mk k n s cA cn cc kA kn kc keys kids).ok = true) (hlen : kids.length = cn) :
    cn ≤ 255 ∧ (if k = 6 then kn = cn ∧ keysB keys = true else kn = 0) := by
  unfold VT.ok at h
  rw [all_mk] at h
  simp only [Bool.and_eq_true, decide_eq_true_eq, fit_mk] at h
  obtain ⟨_, hc, ⟨_, _, _, _, hm⟩, _⟩ := h
  have hc2 : cn ≤ 255 := by
    rw [cnt_mk] at hc
    have : ∀ l : List VT, l.length ≤ (l.map VT.cnt).sum := by
      intro l
      induction l with
      | nil => simp
      | cons x l ih =>
        have : 1 ≤ x.cnt := by cases x; rw [cnt_mk]; omega
        simp only [List.length_cons, List.map_cons, List.sum_cons]; omega
    have := this kids
    omega
  refine ⟨hc2, ?_⟩
  unfold memB memQ shKeys at hm
  by_cases e : k = 6
  · rw [if_pos e]
    rw [if_pos (by rw [e]; rfl), Bool.and_eq_true, beq_iff_eq] at hm
    exact hm
  · rw [if_neg e]
    rw [if_neg (by simpa using e), beq_iff_eq] at hm
    exact hm

set_option maxRecDepth 20000 in
set_option maxHeartbeats 1000000 in
theorem member_any (B : Nat) (w : World) (T : VT) (x : ByteArray) (hL : Lie w B T) (hB : B ≤ w.heap.size) (hok : T.ok = true) :
    Calls Tryd.prog 42 #[T.agg, .string x] w fun e w' => e = .returned (memR (T.get x)) ∧ Below w.heap.size w w' := by
  obtain ⟨k, n, s, cA, cn, cc, kA, kn, kc, keys, kids⟩ := T
  obtain ⟨hb, hsz, hv, hz⟩ := vbox2 w k n s cA cn cc kA kn kc _ rfl
  have hL' := hL
  cases hL' with | mk hc hk hzz hkid =>
  have hlc := kids_len hc
  have hlk := keys_len hk
  obtain ⟨h255, hkk⟩ := ok_keys hok hlc
  have hord : ∀ j i, i < j → j < keys.length → vless (keys.getD i ⟨#[]⟩) (keys.getD j ⟨#[]⟩) = true := by
    by_cases e : k = 6
    · rw [if_pos e] at hkk
      exact keysB_ord hkk.2
    · rw [if_neg e] at hkk
      intro j i _ h; omega
  have hkn : kn ≤ 1000 := by
    by_cases e : k = 6
    · rw [if_pos e] at hkk; omega
    · rw [if_neg e] at hkk; omega
  have hs := search_bel kA kn kc keys x B _ (hk.below (hb.mono hB)) hkn hord
  simp only [VT.agg] at ⊢
  have hle1 : w.heap.size ≤ w.heap.size + 1 := Nat.le_succ _
  have Hv := Lib.hid hv
  have Hz := Lib.hid hz
  have HC := Lib.hid (hc.below (hb.mono hB))
  have Hord := Lib.hid hord
  have HK := Lib.hid hkk
  have HG := Lib.hid (show (VT.mk k n s cA cn cc kA kn kc keys kids).get x = if k = 6 then getK keys kids x else none from rfl)
  have Hlc := Lib.hid hlc
  have Hlk := Lib.hid hlk
  clear hL hsz hv hz hk hc hord hkk hok hkid hzz hlc hlk
  go_enter Tryd.func42, Tryd.ntmps42
  go_wp2_with fail
  refine hs.mono ?_
  rintro e W ⟨i, b, rfl, hF, hb1⟩
  obtain ⟨⟨e0, e1, e2, e3, e4⟩, f0, f1, f2, f3, f4⟩ := Hz.out.later hb1
  obtain ⟨⟨d0, d1, d2, d3, d4⟩, -⟩ := Hv.out.later hb1
  have HC1 := Lib.hid (HC.out.below (hb1.mono (Nat.le_trans hB hb.size)))
  have Hb2 := Lib.hid (bel_next hb hb1)
  clear hb hb1 hs Hz Hv HC
  by_cases e : k = 6
  · subst e
    cases b
    · have hN := Lib.hid (show (VT.mk 6 n s cA cn cc kA kn kc keys kids).get x = none by rw [HG.out, if_pos rfl]; exact getK_none _ _ _ (hF.no rfl))
      clear hF
      go_wp2
      rw [hN.out]
      refine bodyPost_ret (v := .tuple #[.agg #[.int .i64 0, .int .i64 0, .string ⟨#[]⟩, .slice none 0 0, .slice none 0 0], .bool false]) ?_ rfl ⟨rfl, vbelow_set5 Hb2.out hle1⟩
      simp [results, Tryd.results42, go_sem, *]
    · obtain ⟨hi, hx⟩ := hF.yes rfl
      have hkk := HK.out
      rw [if_pos rfl] at hkk
      have hin : i < cn := by rw [Hlk.out] at hi; omega
      have hG := Lib.hid (show (VT.mk 6 n s cA cn cc kA kn kc keys kids).get x = kids[i]? by
        rw [HG.out, if_pos rfl]
        exact getK_some _ _ _ _ hi (by rw [Hlc.out]; exact hin) hx fun j hj e => vless_ne (Hord.out i j hj hi) (e.trans hx.symm))
      obtain ⟨b, off, T', rfl, _, hT', h5⟩ := kids_at HC1.out hin
      obtain ⟨k', n', s', cA', cn', cc', kA', kn', kc', keys', kids'⟩ := T'
      obtain ⟨g0, g1, g2, g3, g4⟩ := h5
      have HT := Lib.hid hT'
      have hin' : (i : Int) < cn := by omega
      have hi0 : (0 : Int) ≤ i := by omega
      clear hF hi hx hkk hT'
      go_wp2
      rw [hG.out, HT.out]
      refine bodyPost_ret (v := .tuple #[.agg #[.int .i64 k', .int .i64 n', .string s', .slice cA' cn' cc', .slice kA' kn' kc'], .bool true]) ?_ rfl ⟨rfl, vbelow_set5 Hb2.out hle1⟩
      simp [results, Tryd.results42, go_sem, *]
  · have hN := Lib.hid (show (VT.mk k n s cA cn cc kA kn kc keys kids).get x = none by rw [HG.out, if_neg e])
    have he : (k != 6) = true := by rw [bne_iff_ne]; exact e
    clear hF
    go_wp2
    rw [hN.out]
    refine bodyPost_ret (v := .tuple #[.agg #[.int .i64 0, .int .i64 0, .string ⟨#[]⟩, .slice none 0 0, .slice none 0 0], .bool false]) ?_ rfl ⟨rfl, vbelow_set5 Hb2.out hle1⟩
    simp [results, Tryd.results42, go_sem, *]
end Go.Proofs.YtnldiemggabdkaaDoor
/-
  Layer 4: Path, Get, At.
-/
namespace Go.Proofs.YtnldiemggabdkaaDoor
open Go.RowKit
set_option linter.unusedVariables false

theorem VFive.set5 {w : World} {g : Nat} {a b c d e a' b' c' d' e' : Value} (h : VFive w g a b c d e) : VFive (((((w.setCell ⟨g, 0, none⟩ a').setCell ⟨g, 1, none⟩ b').setCell ⟨g, 2, none⟩ c').setCell ⟨g, 3, none⟩ d').setCell ⟨g, 4, none⟩ e') g a' b' c' d' e' := by
  obtain ⟨⟨r0, r1, r2, r3, r4⟩, f0, f1, f2, f3, f4⟩ := h
  exact ⟨⟨by simp [go_sem, *], by simp [go_sem, *], by simp [go_sem, *], by simp [go_sem, *], by simp [go_sem, *]⟩, by simp [go_sem, *], by simp [go_sem, *], by simp [go_sem, *], by simp [go_sem, *], by simp [go_sem, *]⟩
theorem VFive.keep {w w1 : World} {g : Nat} {a b c d e : Value} (h : VFive w g a b c d e) (hb : w1.heap[g]? = w.heap[g]?) : VFive w1 g a b c d e := by
  obtain ⟨⟨r0, r1, r2, r3, r4⟩, f0, f1, f2, f3, f4⟩ := h
  have hc : ∀ o, w1.cell? ⟨g, o, none⟩ = w.cell? ⟨g, o, none⟩ := fun o => by simp only [World.cell?, hb]
  have hf : ∀ o, w1.frozen? ⟨g, o, none⟩ = w.frozen? ⟨g, o, none⟩ := fun o => by simp only [World.frozen?, hb]
  exact ⟨⟨(hc _).trans r0, (hc _).trans r1, (hc _).trans r2, (hc _).trans r3, (hc _).trans r4⟩, (hf _).trans f0, (hf _).trans f1, (hf _).trans f2, (hf _).trans f3, (hf _).trans f4⟩
theorem set5_other (w : World) (g k : Nat) (a b c d e : Value) (h : k ≠ g) : (((((w.setCell ⟨g, 0, none⟩ a).setCell ⟨g, 1, none⟩ b).setCell ⟨g, 2, none⟩ c).setCell ⟨g, 3, none⟩ d).setCell ⟨g, 4, none⟩ e).heap[k]? = w.heap[k]? := by
  rw [Below.heap_setCell _ _ _ _ h, Below.heap_setCell _ _ _ _ h, Below.heap_setCell _ _ _ _ h, Below.heap_setCell _ _ _ _ h, Below.heap_setCell _ _ _ _ h]

theorem getK_mem : ∀ (ks : List ByteArray) (ts : List VT) (x : ByteArray) (T : VT), getK ks ts x = some T → T ∈ ts
  | k :: ks, t :: ts, x, T, h => by
    rw [getK] at h
    split at h
    · injection h with h; simp [h]
    · exact List.mem_cons_of_mem _ (getK_mem ks ts x T h)
  | [], _, _, _, h => by simp [getK] at h
  | _ :: _, [], _, _, h => by simp [getK] at h
theorem get_mem {T T' : VT} {x : ByteArray} (h : T.get x = some T') : T' ∈ T.kids := by
  unfold VT.get at h
  split at h
  · exact getK_mem _ _ _ _ h
  · cases h
theorem maxL_le {l : List Nat} {x : Nat} (h : x ∈ l) : x ≤ maxL l := by
  induction l with
  | nil => cases h
  | cons y l ih =>
    rw [maxL_cons]
    rcases List.mem_cons.1 h with rfl | h
    · omega
    · have := ih h; omega
theorem sum_le {l : List Nat} {x : Nat} (h : x ∈ l) : x ≤ l.sum := by
  induction l with
  | nil => cases h
  | cons y l ih =>
    rw [List.sum_cons]
    rcases List.mem_cons.1 h with rfl | h
    · omega
    · have := ih h; omega
/-- The kids of a right value are right. -/
theorem ok_kid {T T' : VT} (h : T.ok = true) (hm : T' ∈ T.kids) : T'.ok = true := by
  obtain ⟨k, n, s, cA, cn, cc, kA, kn, kc, keys, kids⟩ := T
  unfold VT.ok at h ⊢
  rw [all_mk, dep_mk, cnt_mk] at h
  simp only [Bool.and_eq_true, decide_eq_true_eq, List.all_eq_true] at h ⊢
  have h1 := maxL_le (List.mem_map_of_mem (f := VT.dep) (show T' ∈ kids from hm))
  have h2 := sum_le (List.mem_map_of_mem (f := VT.cnt) (show T' ∈ kids from hm))
  exact ⟨by omega, by omega, h.2.2.2 T' hm⟩
theorem lie_kid {w : World} {B : Nat} {T T' : VT} (h : Lie w B T) (hm : T' ∈ T.kids) : Lie w B T' := by
  cases h with
  | mk _ _ _ hk => exact hk T' hm

/-- Where a path leads. -/
def pathR : VT → List ByteArray → Option VT
  | T, [] => some T
  | T, x :: r => match T.get x with
    | some T' => pathR T' r
    | none => none

set_option maxRecDepth 20000 in
set_option maxHeartbeats 2000000 in
theorem path_any (B : Nat) (w : World) (T : VT) (A : Option Addr) (m c : Nat) (path : List ByteArray) (B2 : Nat) (hL : Lie w B T) (hB : B ≤ w.heap.size) (hS : Shows w B2 1 A m (path.map Value.string)) (hB2 : B2 ≤ w.heap.size) (hm : m ≤ maxLen) (htab : UTab w) (hst : STab w) :
    Calls Tryd.prog 24 #[T.agg, .slice A m c] w fun e w' => e = .returned (memR (if T.ok = true then pathR T path else none)) ∧ Below w.heap.size w w' := by
  unfold maxLen at hm
  cases hok : T.ok
  · obtain ⟨k, n, s, cA, cn, cc, kA, kn, kc, keys, kids⟩ := T
    obtain ⟨hb, hsz, hv, hz⟩ := vbox2 w k n s cA cn cc kA kn kc _ rfl
    have hvd := valid_any B _ (.mk k n s cA cn cc kA kn kc keys kids) (hL.later (hb.mono hB)) (Nat.le_trans hB hb.size) (htab.below hb htab.lt) (hst.below hb hst.lt)
    rw [hok] at hvd
    simp only [VT.agg] at hvd ⊢
    have hle1 : w.heap.size ≤ w.heap.size + 1 := Nat.le_succ _
    have Hz := Lib.hid hz
    clear hL hS hsz hv hz hok
    go_enter Tryd.func24, Tryd.ntmps24
    go_wp2_with fail
    refine hvd.mono ?_
    rintro e w1 ⟨rfl, hb1⟩
    obtain ⟨⟨e0, e1, e2, e3, e4⟩, f0, f1, f2, f3, f4⟩ := Hz.out.later hb1
    have hb2 := bel_next hb hb1
    clear hb hb1
    go_wp2
    refine bodyPost_ret (v := .tuple #[.agg #[.int .i64 0, .int .i64 0, .string ⟨#[]⟩, .slice none 0 0, .slice none 0 0], .bool false]) ?_ rfl ⟨rfl, vbelow_set5 hb2 hle1⟩
    simp [results, Tryd.results24, go_sem, *]
  · obtain ⟨P, hP⟩ : ∃ P, P = pathR T path := ⟨_, rfl⟩
    rw [if_pos rfl, ← hP]
    obtain ⟨k, n, s, cA, cn, cc, kA, kn, kc, keys, kids⟩ := T
    obtain ⟨hb, hsz, hv, hz⟩ := vbox2 w k n s cA cn cc kA kn kc _ rfl
    have hvd := valid_any B _ (.mk k n s cA cn cc kA kn kc keys kids) (hL.later (hb.mono hB)) (Nat.le_trans hB hb.size) (htab.below hb htab.lt) (hst.below hb hst.lt)
    rw [hok] at hvd
    simp only [VT.agg] at hvd ⊢
    have hle0 : w.heap.size ≤ w.heap.size := Nat.le_refl _
    have hle1 : w.heap.size ≤ w.heap.size + 1 := Nat.le_succ _
    have Hz := Lib.hid hz
    have Hv := Lib.hid hv
    have HL := Lib.hid hL
    have HS := Lib.hid hS
    have Hok := Lib.hid hok
    have HP := Lib.hid hP
    have Hlen := Lib.hid (keys_len hS)
    clear hL hS hv hz hok hP
    go_enter Tryd.func24, Tryd.ntmps24
    go_wp2_with fail
    refine hvd.mono ?_
    rintro e w1 ⟨rfl, hb1⟩
    have hz1 := Hz.out.later hb1
    have hv1 := Hv.out.later hb1
    have hb2 := bel_next hb hb1
    have hsz1 := hb1.size
    rw [hsz] at hsz1
    clear hb hb1 hvd Hz Hv hsz
    go_wp2
    go_loopw [16] (fun i wr => ∃ (j : Nat) (T' : VT), j ≤ m ∧ i = .int .i64 j ∧ Hid (Lie w B T' ∧ T'.ok = true ∧ P = pathR T' (path.drop j)) ∧ Hid (VFive wr w.heap.size (.int .i64 T'.k) (.int .i64 T'.n) (.string T'.s) (T'.cells.getD 3 undef) (T'.cells.getD 4 undef)) ∧ Hid (VFive wr (w.heap.size + 1) (.int .i64 0) (.int .i64 0) (.string ⟨#[]⟩) (.slice none 0 0) (.slice none 0 0)) ∧ Below w.heap.size w wr ∧ w.heap.size + 2 ≤ wr.heap.size) (fun i _ => m - (intOf i).toNat)
    case atStart => exact ⟨0, .mk k n s cA cn cc kA kn kc keys kids, Nat.zero_le _, rfl, Lib.hid ⟨HL.out, Hok.out, by rw [List.drop_zero]; exact HP.out⟩, Lib.hid hv1, Lib.hid hz1, hb2, hsz1⟩
    case round =>
      obtain ⟨j, T', hj, rfl, HI, Hv, Hz, hbr, hsr⟩ := hrel
      obtain ⟨k', n', s', cA', cn', cc', kA', kn', kc', keys', kids'⟩ := T'
      have Hv' := Lib.hid (show VFive wr w.heap.size (.int .i64 k') (.int .i64 n') (.string s') (.slice cA' cn' cc') (.slice kA' kn' kc') from Hv.out)
      obtain ⟨⟨d0, d1, d2, d3, d4⟩, q0, q1, q2, q3, q4⟩ := Hv'.out
      by_cases hlt : j < m
      · obtain ⟨b, off, rfl, _, hc⟩ := key_at (HS.out.below (hbr.mono hB2)) hlt
        have hlt' : (j : Int) < m := by omega
        have hj0 : (0 : Int) ≤ j := by omega
        have hjl : j < path.length := by rw [Hlen.out]; exact hlt
        have hd : path.drop j = path.getD j ⟨#[]⟩ :: path.drop (j + 1) := by
          rw [List.drop_eq_getElem_cons hjl, List.getD_eq_getElem?_getD, List.getElem?_eq_getElem hjl]; rfl
        have hmem := member_any B wr (.mk k' n' s' cA' cn' cc' kA' kn' kc' keys' kids') (path.getD j ⟨#[]⟩) (HI.out.1.later (hbr.mono hB)) (Nat.le_trans hB hbr.size) HI.out.2.1
        have HPj := Lib.hid (HI.out.2.2.trans (by rw [hd]))
        generalize path.getD j ⟨#[]⟩ = x at *
        simp only [VT.agg] at hmem
        cases hg : VT.get (.mk k' n' s' cA' cn' cc' kA' kn' kc' keys' kids') x with
        | none =>
          rw [hg] at hmem
          have HN := Lib.hid (show P = none by rw [HPj.out, pathR, hg])
          clear hd hg HI HPj
          simp only [memR, zV] at hmem
          go_wp2_with fail
          refine hmem.mono ?_
          rintro e w2 ⟨rfl, hb3⟩
          obtain ⟨⟨e0, e1, e2, e3, e4⟩, f0, f1, f2, f3, f4⟩ := ((Hz.out.later hb3).alloc (.cells #[.int .i64 0, .int .i64 0, .string ⟨#[]⟩, .slice none 0 0, .slice none 0 0] 25))
          have hb4 := bel_alloc (bel_next hbr hb3) (.cells #[.int .i64 0, .int .i64 0, .string ⟨#[]⟩, .slice none 0 0, .slice none 0 0] 25)
          clear d0 d1 d2 d3 d4 q0 q1 q2 q3 q4 hc hb3
          go_wp2
          rw [HN.out]
          refine bodyPost_ret (v := .tuple #[.agg #[.int .i64 0, .int .i64 0, .string ⟨#[]⟩, .slice none 0 0, .slice none 0 0], .bool false]) ?_ rfl ⟨rfl, vbelow_set5 hb4 hle1⟩
          simp [results, Tryd.results24, go_sem, *]
        | some T2 =>
          rw [hg] at hmem
          have HI2 := Lib.hid (show Lie w B T2 ∧ T2.ok = true ∧ P = pathR T2 (path.drop (j + 1)) from ⟨lie_kid HI.out.1 (get_mem hg), ok_kid HI.out.2.1 (get_mem hg), by rw [HPj.out, pathR, hg]⟩)
          clear hd hg HI HPj
          obtain ⟨k2, n2, s2, cA2, cn2, cc2, kA2, kn2, kc2, keys2, kids2⟩ := T2
          simp only [memR, VT.agg] at hmem
          go_wp2_with fail
          refine hmem.mono ?_
          rintro e w2 ⟨rfl, hb3⟩
          have HZ2 := Lib.hid (((Hz.out.later hb3).alloc (.cells #[.int .i64 k2, .int .i64 n2, .string s2, .slice cA2 cn2 cc2, .slice kA2 kn2 kc2] 25)))
          have HV2 := Lib.hid (((Hv'.out.later hb3).alloc (.cells #[.int .i64 k2, .int .i64 n2, .string s2, .slice cA2 cn2 cc2, .slice kA2 kn2 kc2] 25)))
          obtain ⟨⟨e0, e1, e2, e3, e4⟩, f0, f1, f2, f3, f4⟩ := HV2.out
          have hb4 := bel_alloc (bel_next hbr hb3) (.cells #[.int .i64 k2, .int .i64 n2, .string s2, .slice cA2 cn2 cc2, .slice kA2 kn2 kc2] 25)
          have hs4 : w.heap.size + 2 ≤ (w2.alloc (.cells #[.int .i64 k2, .int .i64 n2, .string s2, .slice cA2 cn2 cc2, .slice kA2 kn2 kc2] 25)).heap.size := by have := hb3.size; simp; omega
          clear d0 d1 d2 d3 d4 q0 q1 q2 q3 q4 hc hb3 hbr
          go_wp2
          go_roundw
          case rel => exact ⟨j + 1, .mk k2 n2 s2 cA2 cn2 cc2 kA2 kn2 kc2 keys2 kids2, by omega, by go_num, HI2, Lib.hid HV2.out.set5, Lib.hid (HZ2.out.keep (set5_other _ _ _ _ _ _ _ _ (by omega))), vbelow_set5 hb4 hle0, by simpa [World.setCell] using hs4⟩
          case measure => simp [intOf]; omega
      · have e : j = m := by omega
        subst e
        have HN := Lib.hid (show P = some (.mk k' n' s' cA' cn' cc' kA' kn' kc' keys' kids') by rw [HI.out.2.2, ← Hlen.out, List.drop_length]; rfl)
        obtain ⟨⟨e0, e1, e2, e3, e4⟩, f0, f1, f2, f3, f4⟩ := Hz.out
        clear HI
        go_wp2
        rw [HN.out]
        refine bodyPost_ret (v := .tuple #[.agg #[.int .i64 k', .int .i64 n', .string s', .slice cA' cn' cc', .slice kA' kn' kc'], .bool true]) ?_ rfl ⟨rfl, vbelow_set5 hbr hle1⟩
        simp [results, Tryd.results24, go_sem, *]
end Go.Proofs.YtnldiemggabdkaaDoor
/-
  Layer 4: slices.Clone at pairs and at values.
-/
namespace Go.Proofs.YtnldiemggabdkaaDoor
open Go.RowKit
set_option linter.unusedVariables false

/-- A pair: its key and its value. -/
abbrev PT := ByteArray × VT
def pCells (p : PT) : List Value := .string p.1 :: p.2.cells
theorem pCells_len (p : PT) : (pCells p).length = 6 := by unfold pCells; simp [VT.cells_len]
theorem cells_one (T : VT) : ∀ u ∈ T.cells, u.oneCell' = true := by
  obtain ⟨k, n, s, cA, cn, cc, kA, kn, kc, keys, kids⟩ := T
  intro u hu
  simp only [VT.cells, List.mem_cons, List.not_mem_nil, or_false] at hu
  rcases hu with rfl | rfl | rfl | rfl | rfl <;> rfl
theorem vcells_one (l : List VT) : ∀ u ∈ l.flatMap VT.cells, u.oneCell' = true := by
  intro u hu
  obtain ⟨T, _, h⟩ := List.mem_flatMap.1 hu
  exact cells_one T u h
theorem pcells_one (l : List PT) : ∀ u ∈ l.flatMap pCells, u.oneCell' = true := by
  intro u hu
  obtain ⟨p, _, h⟩ := List.mem_flatMap.1 hu
  rcases List.mem_cons.1 h with rfl | h
  · rfl
  · exact cells_one _ u h
set_option maxRecDepth 20000 in
theorem pair_info : ∃ i, Tryd.prog.info? 48 = some i ∧ i.zero = some (.agg #[.string ⟨#[]⟩, .int .i64 0, .int .i64 0, .string ⟨#[]⟩, .slice none 0 0, .slice none 0 0]) ∧ i.size = 6 ∧ i.bytes = 96 := ⟨Tryd.t48, by kernel_rfl, by kernel_rfl, by kernel_rfl, by kernel_rfl⟩
set_option maxRecDepth 20000 in
theorem val_info : ∃ i, Tryd.prog.info? 25 = some i ∧ i.zero = some (.agg #[.int .i64 0, .int .i64 0, .string ⟨#[]⟩, .slice none 0 0, .slice none 0 0]) ∧ i.size = 5 ∧ i.bytes = 80 := ⟨Tryd.t25, by kernel_rfl, by kernel_rfl, by kernel_rfl, by kernel_rfl⟩
set_option maxRecDepth 20000 in
theorem vstr_info : ∃ i, Tryd.prog.info? 9 = some i ∧ i.zero = some (.string ⟨#[]⟩) ∧ i.size = 1 ∧ i.bytes = 16 := ⟨Tryd.t9, by kernel_rfl, by kernel_rfl, by kernel_rfl, by kernel_rfl⟩

def GivesRow (e : TypeId) (size n : Nat) (xs : List Value) (w : World) (en : Ending) (w' : World) : Prop := ∃ A c, en = .returned (.slice A n c) ∧ w'.ownsRow w.heap.size e size (.slice A n c) n xs ∧ Below w.heap.size w w'
set_option maxRecDepth 20000 in
set_option maxHeartbeats 1000000 in
theorem cloneP_any (A : Option Addr) (n c : Nat) (l : List Value) (B : Nat) (w : World) (h : Shows w B 6 A n l) (h1 : ∀ u ∈ l, u.oneCell' = true) (hA : A = none → c = 0) (hB : B ≤ w.heap.size) (hn : n ≤ 1000) :
    Calls Tryd.prog 47 #[.slice A n c] w (GivesRow 48 6 n l w) := by
  have hnil := fun (W : World) (a : Option Addr) (n c : Nat) => Lib.run_eql_slice_nil (P := Tryd.prog) W 41 48 a n c 0 0 Tryd.underlying41
  rcases A with _ | a
  · obtain rfl := hA rfl
    have hn0 : n = 0 := by
      rcases Nat.eq_zero_or_pos n with h0 | h0
      · exact h0
      · obtain ⟨_, _, h, _⟩ := h.2 h0
        cases h
    subst hn0
    have hl : l = [] := List.eq_nil_of_length_eq_zero (by rw [h.1])
    subst hl
    go_enter Tryd.func47, Tryd.ntmps47
    go_wp2
    go_ret
    exact ⟨none, 0, rfl, World.ownsRow_nil _ _ _ _, Below.refl _ _⟩
  · obtain ⟨i0, hi, hz0, hz1, hz2⟩ := pair_info
    have hown := World.ownsRow_made (base := w.heap.size) (e := 48) (size := 6) w #[] 0 (Nat.le_refl _) (Nat.zero_le _) rfl
    have hs := (h.more hB).below ((Below.refl w.heap.size w).alloc (Nat.le_refl _) (.cells #[] 48))
    go_enter Tryd.func47, Tryd.ntmps47
    go_wp2_with (at_builtin; refine wpList_append_shows _ rfl _ _ _ rfl w.heap.size 48 i0 (.agg #[.string ⟨#[]⟩, .int .i64 0, .int .i64 0, .string ⟨#[]⟩, .slice none 0 0, .slice none 0 0]) 6 96 Tryd.underlying41 hi hz0 hz1 hz2 rfl (by decide) _ _ _ rfl hown w.heap.size _ _ _ l rfl hs h1 ?c3 ?c4 ?c5 ?_)
    case c3 => unfold maxLen; omega
    case c4 => omega
    case c5 => simp
    · intro A' c' w1 hown' _ hbel
      go_wp2
      go_ret
      exact ⟨A', c', by simp, by simpa using hown', ((Below.refl _ _).alloc (Nat.le_refl _) _).trans hbel⟩
set_option maxRecDepth 20000 in
set_option maxHeartbeats 1000000 in
theorem cloneV_any (A : Option Addr) (n c : Nat) (l : List Value) (B : Nat) (w : World) (h : Shows w B 5 A n l) (h1 : ∀ u ∈ l, u.oneCell' = true) (hA : A = none → c = 0) (hB : B ≤ w.heap.size) (hn : n ≤ 1000) :
    Calls Tryd.prog 51 #[.slice A n c] w (GivesRow 25 5 n l w) := by
  have hnil := fun (W : World) (a : Option Addr) (n c : Nat) => Lib.run_eql_slice_nil (P := Tryd.prog) W 22 25 a n c 0 0 Tryd.underlying22
  rcases A with _ | a
  · obtain rfl := hA rfl
    have hn0 : n = 0 := by
      rcases Nat.eq_zero_or_pos n with h0 | h0
      · exact h0
      · obtain ⟨_, _, h, _⟩ := h.2 h0
        cases h
    subst hn0
    have hl : l = [] := List.eq_nil_of_length_eq_zero (by rw [h.1])
    subst hl
    go_enter Tryd.func51, Tryd.ntmps51
    go_wp2
    go_ret
    exact ⟨none, 0, rfl, World.ownsRow_nil _ _ _ _, Below.refl _ _⟩
  · obtain ⟨i0, hi, hz0, hz1, hz2⟩ := val_info
    have hown := World.ownsRow_made (base := w.heap.size) (e := 25) (size := 5) w #[] 0 (Nat.le_refl _) (Nat.zero_le _) rfl
    have hs := (h.more hB).below ((Below.refl w.heap.size w).alloc (Nat.le_refl _) (.cells #[] 25))
    go_enter Tryd.func51, Tryd.ntmps51
    go_wp2_with (at_builtin; refine wpList_append_shows _ rfl _ _ _ rfl w.heap.size 25 i0 (.agg #[.int .i64 0, .int .i64 0, .string ⟨#[]⟩, .slice none 0 0, .slice none 0 0]) 5 80 Tryd.underlying22 hi hz0 hz1 hz2 rfl (by decide) _ _ _ rfl hown w.heap.size _ _ _ l rfl hs h1 ?c3 ?c4 ?c5 ?_)
    case c3 => unfold maxLen; omega
    case c4 => omega
    case c5 => simp
    · intro A' c' w1 hown' _ hbel
      go_wp2
      go_ret
      exact ⟨A', c', by simp, by simpa using hown', ((Below.refl _ _).alloc (Nat.le_refl _) _).trans hbel⟩
end Go.Proofs.YtnldiemggabdkaaDoor
