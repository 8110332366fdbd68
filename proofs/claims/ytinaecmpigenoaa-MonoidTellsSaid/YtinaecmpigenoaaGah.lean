import Derived.Test.YtinaecmpigenoaaGaf
import Derived.Test.YtinaecmpigenoaaGag
import Derived.Test.YtinaecmpigenoaaRows
import Derived.BigRegion
import Derived.Laws.EntriesVeiled
import Derived.Deep.WholeRow
import Derived.Deep.RegionHeld3
import Derived.Deep.CutBlock
import Derived.Deep.DeepCutAuto
import Derived.Lib.OwnKind
import Derived.Lib.BufferWrite
import Derived.Test.YtinaecmpigenoaaGac
/-
  Layer 1, plain: the order of texts is the order of their code points.
-/
namespace Go.Proofs.Ytinaecmpigenoaa

theorem less_cons (a b : UInt8) (x y : List UInt8) : Op.bytesLess (a :: x) (b :: y) = if a.toNat < b.toNat then true else if a.toNat = b.toNat then Op.bytesLess x y else false := by
  simp only [Op.bytesLess]
  by_cases h : a.toNat < b.toNat
  · rw [if_pos h]
    have : a < b := h
    simp [this]
  · rw [if_neg h]
    have h' : ¬ a < b := h
    by_cases h2 : a.toNat = b.toNat
    · rw [if_pos h2]
      have : a = b := UInt8.toNat_inj.1 h2
      subst this
      simp [h']
    · rw [if_neg h2]
      have : ¬ a = b := fun e => h2 (by rw [e])
      simp [h', this]
theorem less_nil (x : List UInt8) : Op.bytesLess x [] = false := by cases x <;> rfl
theorem less_pre : ∀ (p x y : List UInt8), Op.bytesLess (p ++ x) (p ++ y) = Op.bytesLess x y
  | [], _, _ => rfl
  | a :: p, x, y => by
    show Op.bytesLess (a :: (p ++ x)) (a :: (p ++ y)) = _
    rw [less_cons, if_neg (by omega), if_pos rfl, less_pre p x y]
theorem less_same (p : List UInt8) : Op.bytesLess p p = false := by
  have := less_pre p [] []
  simpa [less_nil] using this
/-- The bytes of a lesser code point are less, whatever stands behind. -/
theorem less_enc (c d : Nat) (hc : isCp c = true) (hd : isCp d = true) (h : c < d) (x y : List UInt8) :
    Op.bytesLess (encL c ++ x) (encL d ++ y) = true ∧ Op.bytesLess (encL d ++ y) (encL c ++ x) = false := by
  have hc := (isCp_iff _).1 hc
  have hd := (isCp_iff _).1 hd
  have k1 : c / 64 / 64 = c / 4096 := Nat.div_div_eq_div_mul c 64 64
  have k2 : c / 4096 / 64 = c / 262144 := Nat.div_div_eq_div_mul c 4096 64
  have k3 : d / 64 / 64 = d / 4096 := Nat.div_div_eq_div_mul d 64 64
  have k4 : d / 4096 / 64 = d / 262144 := Nat.div_div_eq_div_mul d 4096 64
  unfold encL
  by_cases c1 : c < 128
  · rw [if_pos c1]
    by_cases d1 : d < 128
    · rw [if_pos d1]
      simp only [List.cons_append, List.nil_append, less_cons, b8_toNat c (by omega), b8_toNat d (by omega)]
      rw [if_pos h, if_neg (by omega), if_neg (by omega)]; exact ⟨rfl, rfl⟩
    · rw [if_neg d1]
      by_cases d2 : d < 2048
      · rw [if_pos d2]
        simp only [List.cons_append, List.nil_append, less_cons, b8_toNat c (by omega), b8_toNat (192 + d / 64) (by omega)]
        rw [if_pos (by omega), if_neg (by omega), if_neg (by omega)]; exact ⟨rfl, rfl⟩
      · rw [if_neg d2]
        by_cases d3 : d < 65536
        · rw [if_pos d3]
          simp only [List.cons_append, List.nil_append, less_cons, b8_toNat c (by omega), b8_toNat (224 + d / 4096) (by omega)]
          rw [if_pos (by omega), if_neg (by omega), if_neg (by omega)]; exact ⟨rfl, rfl⟩
        · rw [if_neg d3]
          simp only [List.cons_append, List.nil_append, less_cons, b8_toNat c (by omega), b8_toNat (240 + d / 262144) (by omega)]
          rw [if_pos (by omega), if_neg (by omega), if_neg (by omega)]; exact ⟨rfl, rfl⟩
  · rw [if_neg c1, if_neg (show ¬ d < 128 by omega)]
    by_cases c2 : c < 2048
    · rw [if_pos c2]
      by_cases d2 : d < 2048
      · rw [if_pos d2]
        simp only [List.cons_append, List.nil_append, less_cons, b8_toNat (192 + c / 64) (by omega), b8_toNat (192 + d / 64) (by omega), b8_toNat (128 + c % 64) (by omega), b8_toNat (128 + d % 64) (by omega)]
        by_cases e : c / 64 < d / 64
        · rw [if_pos (by omega), if_neg (by omega), if_neg (by omega)]; exact ⟨rfl, rfl⟩
        · rw [if_neg (by omega), if_pos (by omega), if_pos (by omega), if_neg (by omega), if_pos (by omega), if_neg (by omega), if_neg (by omega)]; exact ⟨rfl, rfl⟩
      · rw [if_neg d2]
        by_cases d3 : d < 65536
        · rw [if_pos d3]
          simp only [List.cons_append, List.nil_append, less_cons, b8_toNat (192 + c / 64) (by omega), b8_toNat (224 + d / 4096) (by omega)]
          rw [if_pos (by omega), if_neg (by omega), if_neg (by omega)]; exact ⟨rfl, rfl⟩
        · rw [if_neg d3]
          simp only [List.cons_append, List.nil_append, less_cons, b8_toNat (192 + c / 64) (by omega), b8_toNat (240 + d / 262144) (by omega)]
          rw [if_pos (by omega), if_neg (by omega), if_neg (by omega)]; exact ⟨rfl, rfl⟩
    · rw [if_neg c2, if_neg (show ¬ d < 2048 by omega)]
      by_cases c3 : c < 65536
      · rw [if_pos c3]
        by_cases d3 : d < 65536
        · rw [if_pos d3]
          simp only [List.cons_append, List.nil_append, less_cons, b8_toNat (224 + c / 4096) (by omega), b8_toNat (224 + d / 4096) (by omega), b8_toNat (128 + c / 64 % 64) (by omega), b8_toNat (128 + d / 64 % 64) (by omega), b8_toNat (128 + c % 64) (by omega), b8_toNat (128 + d % 64) (by omega)]
          have q1 : c = c / 4096 * 4096 + c / 64 % 64 * 64 + c % 64 := by omega
          have q2 : d = d / 4096 * 4096 + d / 64 % 64 * 64 + d % 64 := by omega
          have q3 : c / 64 % 64 < 64 := by omega
          have q4 : d / 64 % 64 < 64 := by omega
          have q5 : c % 64 < 64 := by omega
          have q6 : d % 64 < 64 := by omega
          clear k1 k2 k3 k4
          generalize c / 4096 = c2 at *
          generalize c / 64 % 64 = c1 at *
          generalize c % 64 = c0 at *
          generalize d / 4096 = d2 at *
          generalize d / 64 % 64 = d1 at *
          generalize d % 64 = d0 at *
          constructor <;> (repeat' split) <;> first | rfl | (exfalso; omega)
        · rw [if_neg d3]
          simp only [List.cons_append, List.nil_append, less_cons, b8_toNat (224 + c / 4096) (by omega), b8_toNat (240 + d / 262144) (by omega)]
          rw [if_pos (by omega), if_neg (by omega), if_neg (by omega)]; exact ⟨rfl, rfl⟩
      · rw [if_neg c3, if_neg (show ¬ d < 65536 by omega)]
        simp only [List.cons_append, List.nil_append, less_cons, b8_toNat (240 + c / 262144) (by omega), b8_toNat (240 + d / 262144) (by omega), b8_toNat (128 + c / 4096 % 64) (by omega), b8_toNat (128 + d / 4096 % 64) (by omega), b8_toNat (128 + c / 64 % 64) (by omega), b8_toNat (128 + d / 64 % 64) (by omega), b8_toNat (128 + c % 64) (by omega), b8_toNat (128 + d % 64) (by omega)]
        have q1 : c = c / 262144 * 262144 + c / 4096 % 64 * 4096 + c / 64 % 64 * 64 + c % 64 := by omega
        have q2 : d = d / 262144 * 262144 + d / 4096 % 64 * 4096 + d / 64 % 64 * 64 + d % 64 := by omega
        have q3 : c / 64 % 64 < 64 := by omega
        have q4 : d / 64 % 64 < 64 := by omega
        have q5 : c % 64 < 64 := by omega
        have q6 : d % 64 < 64 := by omega
        have q7 : c / 4096 % 64 < 64 := by omega
        have q8 : d / 4096 % 64 < 64 := by omega
        clear k1 k2 k3 k4
        generalize c / 262144 = c3' at *
        generalize c / 4096 % 64 = c2' at *
        generalize c / 64 % 64 = c1' at *
        generalize c % 64 = c0 at *
        generalize d / 262144 = d3' at *
        generalize d / 4096 % 64 = d2' at *
        generalize d / 64 % 64 = d1' at *
        generalize d % 64 = d0 at *
        constructor <;> (repeat' split) <;> first | rfl | (exfalso; omega)

/-- How two rows of numbers compare: -1, 0, 1. -/
def cmpN : List Nat → List Nat → Int
  | [], [] => 0
  | [], _ :: _ => -1
  | _ :: _, [] => 1
  | a :: x, b :: y => if a < b then -1 else if b < a then 1 else cmpN x y
theorem cmpN_zero : ∀ x y : List Nat, cmpN x y = 0 ↔ x = y
  | [], [] => by simp [cmpN]
  | [], _ :: _ => by simp [cmpN]
  | _ :: _, [] => by simp [cmpN]
  | a :: x, b :: y => by
    simp only [cmpN]
    by_cases h : a < b
    · rw [if_pos h]; simp; omega
    · rw [if_neg h]
      by_cases h2 : b < a
      · rw [if_pos h2]; simp; omega
      · rw [if_neg h2, cmpN_zero x y]
        have : a = b := by omega
        simp [this]
/-- The byte order of two texts is the order of their code points. -/
theorem less_text : ∀ x y : List Nat, allCp x → allCp y → Op.bytesLess (textL x) (textL y) = decide (cmpN x y < 0)
  | [], [], _, _ => rfl
  | [], d :: y, _, _ => by
    rw [textL_cons]
    have := encL_len_pos d
    rcases h : encL d with _ | ⟨b, r⟩
    · rw [h] at this; simp at this
    · rfl
  | c :: x, [], _, _ => by
    rw [textL_nil, less_nil]
    rfl
  | c :: x, d :: y, hx, hy => by
    rw [textL_cons, textL_cons]
    have hc := hx c (by simp)
    have hd := hy d (by simp)
    by_cases h : c < d
    · have e : cmpN (c :: x) (d :: y) = -1 := by simp only [cmpN]; rw [if_pos h]
      rw [(less_enc c d hc hd h _ _).1, e]; rfl
    · by_cases h2 : d < c
      · have e : cmpN (c :: x) (d :: y) = 1 := by simp only [cmpN]; rw [if_neg h, if_pos h2]
        rw [(less_enc d c hd hc h2 _ _).2, e]; rfl
      · have e : cmpN (c :: x) (d :: y) = cmpN x y := by simp only [cmpN]; rw [if_neg h, if_neg h2]
        obtain rfl : c = d := by omega
        rw [less_pre, e]
        exact less_text x y (fun a ha => hx a (by simp [ha])) (fun a ha => hy a (by simp [ha]))
end Go.Proofs.Ytinaecmpigenoaa
/-
  Layer 4: search among keys.
-/
namespace Go.Proofs.Ytinaecmpigenoaa
open Go.RowKit
set_option linter.unusedVariables false

theorem vless_iff (a b : UInt8) (x y : List UInt8) : Op.bytesLess (a :: x) (b :: y) = true ↔ a.toNat < b.toNat ∨ (a.toNat = b.toNat ∧ Op.bytesLess x y = true) := by
  rw [less_cons]
  by_cases h1 : a.toNat < b.toNat
  · rw [if_pos h1]; exact ⟨fun _ => .inl h1, fun _ => rfl⟩
  · rw [if_neg h1]
    by_cases h2 : a.toNat = b.toNat
    · rw [if_pos h2]; exact ⟨fun h => .inr ⟨h2, h⟩, fun h => h.elim (fun h => absurd h h1) (·.2)⟩
    · rw [if_neg h2]; exact ⟨fun h => (by cases h), fun h => h.elim (fun h => absurd h h1) fun h => absurd h.1 h2⟩
theorem vless_trans : ∀ (x y z : List UInt8), Op.bytesLess x y = true → Op.bytesLess y z = true → Op.bytesLess x z = true
  | x, y, [], _, h => by rw [less_nil] at h; cases h
  | x, [], z :: zs, h, _ => by rw [less_nil] at h; cases h
  | [], y :: ys, z :: zs, _, _ => rfl
  | x :: xs, y :: ys, z :: zs, h, g => by
    rw [vless_iff] at h g ⊢
    rcases h with h | ⟨h, h'⟩ <;> rcases g with g | ⟨g, g'⟩
    · exact .inl (by omega)
    · exact .inl (by omega)
    · exact .inl (by omega)
    · exact .inr ⟨by omega, vless_trans xs ys zs h' g'⟩
def vless (x y : ByteArray) : Bool := Op.bytesLess x.toList y.toList
theorem vless_tr {x y z : ByteArray} (h : vless x y = true) (g : vless y z = true) : vless x z = true := vless_trans _ _ _ h g
theorem vless_irr (x : ByteArray) : vless x x = false := less_same _
theorem vless_ne {x y : ByteArray} (h : vless x y = true) : x ≠ y := fun e => by rw [e, vless_irr] at h; cases h
/-- Keys in their order. -/
theorem keysB_ord {l : List ByteArray} (h : keysB l = true) : ∀ j i, i < j → j < l.length → vless (l.getD i ⟨#[]⟩) (l.getD j ⟨#[]⟩) = true := by
  intro j
  induction j with
  | zero => intro i h; omega
  | succ j ih =>
    intro i hi hj
    have hk := (keysB_iff l).1 h (j + 1) hj
    unfold keyOK at hk
    simp only [Bool.and_eq_true, Bool.or_eq_true, beq_iff_eq, Nat.add_sub_cancel] at hk
    have hk2 : vless (l.getD j ⟨#[]⟩) (l.getD (j + 1) ⟨#[]⟩) = true := by rcases hk.2 with h | h; omega; exact h
    by_cases e : i = j
    · rw [e]; exact hk2
    · exact vless_tr (ih i (by omega) (by omega)) hk2

/-- What search tells. -/
structure FindR (l : List ByteArray) (x : ByteArray) (i : Nat) (b : Bool) : Prop where
  yes : b = true → i < l.length ∧ l.getD i ⟨#[]⟩ = x
  no : b = false → ∀ j, j < l.length → l.getD j ⟨#[]⟩ ≠ x

end Go.Proofs.Ytinaecmpigenoaa
/-
  Layer 4: what a value is kept in; checked, member.
-/
namespace Go.Proofs.Ytinaecmpigenoaa
open Go.RowKit
set_option linter.unusedVariables false

/-- Five cells of a variable of one's own. -/
def VFive (w : World) (g : Nat) (a b c d e : Value) : Prop :=
    (w.cell? ⟨g, 0, none⟩ = some a ∧ w.cell? ⟨g, 1, none⟩ = some b ∧ w.cell? ⟨g, 2, none⟩ = some c ∧ w.cell? ⟨g, 3, none⟩ = some d ∧ w.cell? ⟨g, 4, none⟩ = some e) ∧
    (w.frozen? ⟨g, 0, none⟩ = false ∧ w.frozen? ⟨g, 1, none⟩ = false ∧ w.frozen? ⟨g, 2, none⟩ = false ∧ w.frozen? ⟨g, 3, none⟩ = false ∧ w.frozen? ⟨g, 4, none⟩ = false)
theorem VFive.alloc {w : World} {g : Nat} {a b c d e : Value} (o : Obj) (h : VFive w g a b c d e) : VFive (w.alloc o) g a b c d e := by
  obtain ⟨⟨r0, r1, r2, r3, r4⟩, f0, f1, f2, f3, f4⟩ := h
  exact ⟨⟨cell_keep r0 o, cell_keep r1 o, cell_keep r2 o, cell_keep r3 o, cell_keep r4 o⟩, (frozen_keep r0 o).trans f0, (frozen_keep r1 o).trans f1, (frozen_keep r2 o).trans f2, (frozen_keep r3 o).trans f3, (frozen_keep r4 o).trans f4⟩
theorem VFive.later {w w1 : World} {g : Nat} {a b c d e : Value} (h : VFive w g a b c d e) (hb : Below w.heap.size w w1) : VFive w1 g a b c d e := by
  obtain ⟨⟨r0, r1, r2, r3, r4⟩, f0, f1, f2, f3, f4⟩ := h
  have l := World.block_lt_of_cell? w _ r0
  exact ⟨⟨kept_later hb r0, kept_later hb r1, kept_later hb r2, kept_later hb r3, kept_later hb r4⟩, (hb.frozen (p := ⟨g, 0, none⟩) l).trans f0, (hb.frozen (p := ⟨g, 1, none⟩) l).trans f1, (hb.frozen (p := ⟨g, 2, none⟩) l).trans f2, (hb.frozen (p := ⟨g, 3, none⟩) l).trans f3, (hb.frozen (p := ⟨g, 4, none⟩) l).trans f4⟩
theorem VFive.new (w : World) (a b c d e : Value) (t : TypeId) (g : Nat) (hg : w.heap.size = g) : VFive (w.alloc (.cells #[a, b, c, d, e] t)) g a b c d e := by
  subst hg
  exact ⟨⟨by simp [go_sem], by simp [go_sem], by simp [go_sem], by simp [go_sem], by simp [go_sem]⟩, by simp [go_sem], by simp [go_sem], by simp [go_sem], by simp [go_sem], by simp [go_sem]⟩
theorem vbelow_set5 {B g : Nat} {w w1 : World} {a b c d e : Value} (h : Below B w w1) (hg : B ≤ g) : Below B w (((((w1.setCell ⟨g, 0, none⟩ a).setCell ⟨g, 1, none⟩ b).setCell ⟨g, 2, none⟩ c).setCell ⟨g, 3, none⟩ d).setCell ⟨g, 4, none⟩ e) :=
  ((((h.setCell hg a).setCell hg b).setCell hg c).setCell hg d).setCell hg e
/-- A value's box and the box of what is told. -/
theorem vbox2 (w : World) (k n : Int) (s : ByteArray) (cA : Option Addr) (cn cc : Nat) (kA : Option Addr) (kn kc : Nat) (W : World) (hW : W = (w.alloc (.cells #[.int .i64 k, .int .i64 n, .string s, .slice cA cn cc, .slice kA kn kc] 42)).alloc (.cells #[.int .i64 0, .int .i64 0, .string ⟨#[]⟩, .slice none 0 0, .slice none 0 0] 42)) :
    Below w.heap.size w W ∧ W.heap.size = w.heap.size + 2 ∧ VFive W w.heap.size (.int .i64 k) (.int .i64 n) (.string s) (.slice cA cn cc) (.slice kA kn kc) ∧ VFive W (w.heap.size + 1) (.int .i64 0) (.int .i64 0) (.string ⟨#[]⟩) (.slice none 0 0) (.slice none 0 0) := by
  subst hW
  exact ⟨bel_alloc (bel_alloc (Below.refl _ _) _) _, by simp, (VFive.new _ _ _ _ _ _ _ _ rfl).alloc _, VFive.new _ _ _ _ _ _ _ _ (by simp)⟩

/-- The value there is not. -/
def zV : Value := .agg #[.int .i64 0, .int .i64 0, .string ⟨#[]⟩, .slice none 0 0, .slice none 0 0]
/-- What there is at a key. -/
def getK : List ByteArray → List VT → ByteArray → Option VT
  | k :: ks, t :: ts, x => if k = x then some t else getK ks ts x
  | _, _, _ => none
theorem getK_some : ∀ (ks : List ByteArray) (ts : List VT) (x : ByteArray) (i : Nat), i < ks.length → i < ts.length → ks.getD i ⟨#[]⟩ = x → (∀ j, j < i → ks.getD j ⟨#[]⟩ ≠ x) → getK ks ts x = ts[i]?
  | k :: ks, t :: ts, x, 0, _, _, h, _ => by
    have : k = x := by simpa using h
    rw [getK, if_pos this]; rfl
  | k :: ks, t :: ts, x, i + 1, h1, h2, h, hn => by
    have h0 : k ≠ x := by simpa using hn 0 (by omega)
    rw [getK, if_neg h0, getK_some ks ts x i (by simpa using h1) (by simpa using h2) (by simpa using h) (fun j hj => by simpa using hn (j + 1) (by omega))]
    simp
theorem getK_none : ∀ (ks : List ByteArray) (ts : List VT) (x : ByteArray), (∀ j, j < ks.length → ks.getD j ⟨#[]⟩ ≠ x) → getK ks ts x = none
  | [], _, _, _ => by simp [getK]
  | _ :: _, [], _, _ => by simp [getK]
  | k :: ks, t :: ts, x, h => by
    have h0 : k ≠ x := by simpa using h 0 (by simp)
    rw [getK, if_neg h0]
    exact getK_none ks ts x fun j hj => by simpa using h (j + 1) (by simpa using hj)
def VT.get (T : VT) (x : ByteArray) : Option VT := if T.k = 6 then getK T.keys T.kids x else none
/-- What is told of what there is. -/
def memR : Option VT → Value
  | some T => .tuple #[T.agg, .bool true]
  | none => .tuple #[zV, .bool false]
/-- What a right value has. -/
theorem ok_keys {k n : Int} {s : ByteArray} {cA : Option Addr} {cn cc : Nat} {kA : Option Addr} {kn kc : Nat} {keys : List ByteArray} {kids : List VT} (h : (VT.mk k n s cA cn cc kA kn kc keys kids).ok = true) (hlen : kids.length = cn) :
    cn ≤ 255 ∧ (if k = 6 then kn = cn ∧ keysB keys = true else kn = 0) := by
  unfold VT.ok at h
  rw [all_mk] at h
  simp only [Bool.and_eq_true, decide_eq_true_eq, fit_mk] at h
  obtain ⟨_, hc, ⟨_, _, _, _, hm⟩, _⟩ := h
  have hc2 : cn ≤ 255 := by
    rw [cnt_mk] at hc
    have : ∀ l : List VT, l.length ≤ (l.map VT.cnt).sum := by
      intro l
      induction l with
      | nil => simp
      | cons x l ih =>
        have : 1 ≤ x.cnt := by cases x; rw [cnt_mk]; omega
        simp only [List.length_cons, List.map_cons, List.sum_cons]; omega
    have := this kids
    omega
  refine ⟨hc2, ?_⟩
  unfold memB memQ shKeys at hm
  by_cases e : k = 6
  · rw [if_pos e]
    rw [if_pos (by rw [e]; rfl), Bool.and_eq_true, beq_iff_eq] at hm
    exact hm
  · rw [if_neg e]
    rw [if_neg (by simpa using e), beq_iff_eq] at hm
    exact hm

end Go.Proofs.Ytinaecmpigenoaa
/-
  Layer 4: Path, Get, At.
-/
namespace Go.Proofs.Ytinaecmpigenoaa
open Go.RowKit
set_option linter.unusedVariables false

theorem VFive.set5 {w : World} {g : Nat} {a b c d e a' b' c' d' e' : Value} (h : VFive w g a b c d e) : VFive (((((w.setCell ⟨g, 0, none⟩ a').setCell ⟨g, 1, none⟩ b').setCell ⟨g, 2, none⟩ c').setCell ⟨g, 3, none⟩ d').setCell ⟨g, 4, none⟩ e') g a' b' c' d' e' := by
  obtain ⟨⟨r0, r1, r2, r3, r4⟩, f0, f1, f2, f3, f4⟩ := h
  exact ⟨⟨by simp [go_sem, *], by simp [go_sem, *], by simp [go_sem, *], by simp [go_sem, *], by simp [go_sem, *]⟩, by simp [go_sem, *], by simp [go_sem, *], by simp [go_sem, *], by simp [go_sem, *], by simp [go_sem, *]⟩
theorem VFive.keep {w w1 : World} {g : Nat} {a b c d e : Value} (h : VFive w g a b c d e) (hb : w1.heap[g]? = w.heap[g]?) : VFive w1 g a b c d e := by
  obtain ⟨⟨r0, r1, r2, r3, r4⟩, f0, f1, f2, f3, f4⟩ := h
  have hc : ∀ o, w1.cell? ⟨g, o, none⟩ = w.cell? ⟨g, o, none⟩ := fun o => by simp only [World.cell?, hb]
  have hf : ∀ o, w1.frozen? ⟨g, o, none⟩ = w.frozen? ⟨g, o, none⟩ := fun o => by simp only [World.frozen?, hb]
  exact ⟨⟨(hc _).trans r0, (hc _).trans r1, (hc _).trans r2, (hc _).trans r3, (hc _).trans r4⟩, (hf _).trans f0, (hf _).trans f1, (hf _).trans f2, (hf _).trans f3, (hf _).trans f4⟩
theorem set5_other (w : World) (g k : Nat) (a b c d e : Value) (h : k ≠ g) : (((((w.setCell ⟨g, 0, none⟩ a).setCell ⟨g, 1, none⟩ b).setCell ⟨g, 2, none⟩ c).setCell ⟨g, 3, none⟩ d).setCell ⟨g, 4, none⟩ e).heap[k]? = w.heap[k]? := by
  rw [Below.heap_setCell _ _ _ _ h, Below.heap_setCell _ _ _ _ h, Below.heap_setCell _ _ _ _ h, Below.heap_setCell _ _ _ _ h, Below.heap_setCell _ _ _ _ h]

theorem getK_mem : ∀ (ks : List ByteArray) (ts : List VT) (x : ByteArray) (T : VT), getK ks ts x = some T → T ∈ ts
  | k :: ks, t :: ts, x, T, h => by
    rw [getK] at h
    split at h
    · injection h with h; simp [h]
    · exact List.mem_cons_of_mem _ (getK_mem ks ts x T h)
  | [], _, _, _, h => by simp [getK] at h
  | _ :: _, [], _, _, h => by simp [getK] at h
theorem get_mem {T T' : VT} {x : ByteArray} (h : T.get x = some T') : T' ∈ T.kids := by
  unfold VT.get at h
  split at h
  · exact getK_mem _ _ _ _ h
  · cases h
theorem maxL_le {l : List Nat} {x : Nat} (h : x ∈ l) : x ≤ maxL l := by
  induction l with
  | nil => cases h
  | cons y l ih =>
    rw [maxL_cons]
    rcases List.mem_cons.1 h with rfl | h
    · omega
    · have := ih h; omega
theorem sum_le {l : List Nat} {x : Nat} (h : x ∈ l) : x ≤ l.sum := by
  induction l with
  | nil => cases h
  | cons y l ih =>
    rw [List.sum_cons]
    rcases List.mem_cons.1 h with rfl | h
    · omega
    · have := ih h; omega
/-- The kids of a right value are right. -/
theorem ok_kid {T T' : VT} (h : T.ok = true) (hm : T' ∈ T.kids) : T'.ok = true := by
  obtain ⟨k, n, s, cA, cn, cc, kA, kn, kc, keys, kids⟩ := T
  unfold VT.ok at h ⊢
  rw [all_mk, dep_mk, cnt_mk] at h
  simp only [Bool.and_eq_true, decide_eq_true_eq, List.all_eq_true] at h ⊢
  have h1 := maxL_le (List.mem_map_of_mem (f := VT.dep) (show T' ∈ kids from hm))
  have h2 := sum_le (List.mem_map_of_mem (f := VT.cnt) (show T' ∈ kids from hm))
  exact ⟨by omega, by omega, h.2.2.2 T' hm⟩
theorem lie_kid {w : World} {B : Nat} {T T' : VT} (h : Lie w B T) (hm : T' ∈ T.kids) : Lie w B T' := by
  cases h with
  | mk _ _ _ hk => exact hk T' hm

/-- Where a path leads. -/
def pathR : VT → List ByteArray → Option VT
  | T, [] => some T
  | T, x :: r => match T.get x with
    | some T' => pathR T' r
    | none => none

end Go.Proofs.Ytinaecmpigenoaa
/-
  Layer 4: slices.Clone at pairs and at values.
-/
namespace Go.Proofs.Ytinaecmpigenoaa
open Go.RowKit
set_option linter.unusedVariables false

/-- A pair: its key and its value. -/
abbrev PT := ByteArray × VT
def pCells (p : PT) : List Value := .string p.1 :: p.2.cells
theorem pCells_len (p : PT) : (pCells p).length = 6 := by unfold pCells; simp [VT.cells_len]
theorem cells_one (T : VT) : ∀ u ∈ T.cells, u.oneCell' = true := by
  obtain ⟨k, n, s, cA, cn, cc, kA, kn, kc, keys, kids⟩ := T
  intro u hu
  simp only [VT.cells, List.mem_cons, List.not_mem_nil, or_false] at hu
  rcases hu with rfl | rfl | rfl | rfl | rfl <;> rfl
theorem vcells_one (l : List VT) : ∀ u ∈ l.flatMap VT.cells, u.oneCell' = true := by
  intro u hu
  obtain ⟨T, _, h⟩ := List.mem_flatMap.1 hu
  exact cells_one T u h
theorem pcells_one (l : List PT) : ∀ u ∈ l.flatMap pCells, u.oneCell' = true := by
  intro u hu
  obtain ⟨p, _, h⟩ := List.mem_flatMap.1 hu
  rcases List.mem_cons.1 h with rfl | h
  · rfl
  · exact cells_one _ u h
set_option maxRecDepth 20000 in
theorem val_info : ∃ i, Try.prog.info? 42 = some i ∧ i.zero = some (.agg #[.int .i64 0, .int .i64 0, .string ⟨#[]⟩, .slice none 0 0, .slice none 0 0]) ∧ i.size = 5 ∧ i.bytes = 80 := ⟨Try.t42, by kernel_rfl, by kernel_rfl, by kernel_rfl, by kernel_rfl⟩
set_option maxRecDepth 20000 in
theorem vstr_info : ∃ i, Try.prog.info? 9 = some i ∧ i.zero = some (.string ⟨#[]⟩) ∧ i.size = 1 ∧ i.bytes = 16 := ⟨Try.t9, by kernel_rfl, by kernel_rfl, by kernel_rfl, by kernel_rfl⟩

def GivesRow (e : TypeId) (size n : Nat) (xs : List Value) (w : World) (en : Ending) (w' : World) : Prop := ∃ A c, en = .returned (.slice A n c) ∧ w'.ownsRow w.heap.size e size (.slice A n c) n xs ∧ Below w.heap.size w w'
end Go.Proofs.Ytinaecmpigenoaa
/-
  Layer 4: the comparison of pairs; sorting two.
-/
namespace Go.Proofs.Ytinaecmpigenoaa
open Go.RowKit
set_option linter.unusedVariables false

theorem vtri : ∀ x y : List UInt8, Op.bytesLess x y = false → Op.bytesLess y x = false → x = y
  | [], [], _, _ => rfl
  | [], _ :: _, h, _ => by cases h
  | _ :: _, [], _, h => by cases h
  | a :: x, b :: y, h, g => by
    rw [less_cons] at h g
    by_cases h1 : a.toNat < b.toNat
    · rw [if_pos h1] at h; cases h
    · rw [if_neg h1] at h
      by_cases h2 : b.toNat < a.toNat
      · rw [if_pos h2] at g; cases g
      · have e : a.toNat = b.toNat := by omega
        rw [if_neg h2, if_pos e.symm] at g
        rw [if_pos e] at h
        rw [vtri x y h g, UInt8.toNat_inj.1 e]
def vcmp (x y : ByteArray) : Int := if vless x y = true then -1 else if vless y x = true then 1 else 0
/-- Twelve cells of a row of one's own: two pairs. -/
structure VTwelve (w : World) (g : Nat) (a0 a1 a2 a3 a4 a5 b0 b1 b2 b3 b4 b5 : Value) : Prop where
  c : w.cell? ⟨g, 0, none⟩ = some a0 ∧ w.cell? ⟨g, 1, none⟩ = some a1 ∧ w.cell? ⟨g, 2, none⟩ = some a2 ∧ w.cell? ⟨g, 3, none⟩ = some a3 ∧ w.cell? ⟨g, 4, none⟩ = some a4 ∧ w.cell? ⟨g, 5, none⟩ = some a5 ∧
    w.cell? ⟨g, 6, none⟩ = some b0 ∧ w.cell? ⟨g, 7, none⟩ = some b1 ∧ w.cell? ⟨g, 8, none⟩ = some b2 ∧ w.cell? ⟨g, 9, none⟩ = some b3 ∧ w.cell? ⟨g, 10, none⟩ = some b4 ∧ w.cell? ⟨g, 11, none⟩ = some b5
  f : ∀ i, w.frozen? ⟨g, i, none⟩ = false
theorem VTwelve.later {w w1 : World} {g : Nat} {a0 a1 a2 a3 a4 a5 b0 b1 b2 b3 b4 b5 : Value} (h : VTwelve w g a0 a1 a2 a3 a4 a5 b0 b1 b2 b3 b4 b5) (hb : Below w.heap.size w w1) : VTwelve w1 g a0 a1 a2 a3 a4 a5 b0 b1 b2 b3 b4 b5 := by
  obtain ⟨⟨r0, r1, r2, r3, r4, r5, r6, r7, r8, r9, r10, r11⟩, hf⟩ := h
  have l := World.block_lt_of_cell? w _ r0
  exact ⟨⟨kept_later hb r0, kept_later hb r1, kept_later hb r2, kept_later hb r3, kept_later hb r4, kept_later hb r5, kept_later hb r6, kept_later hb r7, kept_later hb r8, kept_later hb r9, kept_later hb r10, kept_later hb r11⟩, fun i => (hb.frozen (p := ⟨g, i, none⟩) l).trans (hf i)⟩
theorem VTwelve.swap {w : World} {g : Nat} {x : ByteArray} {ak an : Int} {at' : ByteArray} {acA : Option Addr} {acn acc : Nat} {akA : Option Addr} {akn akc : Nat} {y : ByteArray} {bk bn : Int} {bt' : ByteArray} {bcA : Option Addr} {bcn bcc : Nat} {bkA : Option Addr} {bkn bkc : Nat} (h : VTwelve w g (.string x) (.int .i64 ak) (.int .i64 an) (.string at') (.slice acA acn acc) (.slice akA akn akc) (.string y) (.int .i64 bk) (.int .i64 bn) (.string bt') (.slice bcA bcn bcc) (.slice bkA bkn bkc)) :
    VTwelve ((((((((((((w.setCell ⟨g, 6, none⟩ (.string x)).setCell ⟨g, 7, none⟩ (.int .i64 ak)).setCell ⟨g, 8, none⟩ (.int .i64 an)).setCell ⟨g, 9, none⟩ (.string at')).setCell ⟨g, 10, none⟩ (.slice acA acn acc)).setCell ⟨g, 11, none⟩ (.slice akA akn akc)).setCell ⟨g, 0, none⟩ (.string y)).setCell ⟨g, 1, none⟩ (.int .i64 bk)).setCell ⟨g, 2, none⟩ (.int .i64 bn)).setCell ⟨g, 3, none⟩ (.string bt')).setCell ⟨g, 4, none⟩ (.slice bcA bcn bcc)).setCell ⟨g, 5, none⟩ (.slice bkA bkn bkc)).drew g (.string y) (.int .i64 bk) (.int .i64 bn) (.string bt') (.slice bcA bcn bcc) (.slice bkA bkn bkc) (.string x) (.int .i64 ak) (.int .i64 an) (.string at') (.slice acA acn acc) (.slice akA akn akc) := by
  obtain ⟨⟨r0, r1, r2, r3, r4, r5, r6, r7, r8, r9, r10, r11⟩, hf⟩ := h
  refine VTwelve.later ⟨⟨?_, ?_, ?_, ?_, ?_, ?_, ?_, ?_, ?_, ?_, ?_, ?_⟩, ?_⟩ (below_drewN (Below.refl _ _) 1)
  all_goals first | (intro i; simp [go_sem, hf]; done) | (simp [go_sem, *]; done)
theorem VTwelve.swap_below {w : World} {g n : Nat} (hn : n ≤ g) (x : ByteArray) (ak an : Int) (at' : ByteArray) (acA : Option Addr) (acn acc : Nat) (akA : Option Addr) (akn akc : Nat) (y : ByteArray) (bk bn : Int) (bt' : ByteArray) (bcA : Option Addr) (bcn bcc : Nat) (bkA : Option Addr) (bkn bkc : Nat) : Below n w ((((((((((((w.setCell ⟨g, 6, none⟩ (.string x)).setCell ⟨g, 7, none⟩ (.int .i64 ak)).setCell ⟨g, 8, none⟩ (.int .i64 an)).setCell ⟨g, 9, none⟩ (.string at')).setCell ⟨g, 10, none⟩ (.slice acA acn acc)).setCell ⟨g, 11, none⟩ (.slice akA akn akc)).setCell ⟨g, 0, none⟩ (.string y)).setCell ⟨g, 1, none⟩ (.int .i64 bk)).setCell ⟨g, 2, none⟩ (.int .i64 bn)).setCell ⟨g, 3, none⟩ (.string bt')).setCell ⟨g, 4, none⟩ (.slice bcA bcn bcc)).setCell ⟨g, 5, none⟩ (.slice bkA bkn bkc)).drew :=
  below_drewN (((((((((((((Below.refl n w).setCell hn (.string x)).setCell hn (.int .i64 ak)).setCell hn (.int .i64 an)).setCell hn (.string at')).setCell hn (.slice acA acn acc)).setCell hn (.slice akA akn akc)).setCell hn (.string y)).setCell hn (.int .i64 bk)).setCell hn (.int .i64 bn)).setCell hn (.string bt')).setCell hn (.slice bcA bcn bcc)).setCell hn (.slice bkA bkn bkc)) 1
end Go.Proofs.Ytinaecmpigenoaa
/-
  Layer 4: Object, whatever sorts its pairs.
-/
namespace Go.Proofs.Ytinaecmpigenoaa
open Go.RowKit
set_option linter.unusedVariables false

theorem own_ne {W : World} {b1 b2 : Nat} {e1 e2 : TypeId} {s1 s2 n1 n2 : Nat} {v1 v2 : Value} {x1 x2 : List Value} (h1 : W.ownsRow b1 e1 s1 v1 n1 x1) (h2 : W.ownsRow b2 e2 s2 v2 n2 x2) (he : e1 ≠ e2) : v1.ownBlock = none ∨ v1.ownBlock ≠ v2.ownBlock := by
  cases h : v1.ownBlock with
  | none => exact .inl rfl
  | some g =>
    refine .inr fun e => ?_
    obtain ⟨c, fz, k1⟩ := Lib.ownsRow_kind h1 g h
    obtain ⟨c', fz', k2⟩ := Lib.ownsRow_kind h2 g e.symm
    rw [k1] at k2
    injection k2 with k2
    injection k2 with _ k2
    exact he k2
theorem pflat_len (l : List PT) : (l.flatMap pCells).length = l.length * 6 := by
  induction l with
  | nil => rfl
  | cons x l ih => rw [List.flatMap_cons, List.length_append, ih, pCells_len, List.length_cons]; omega
theorem pflat_get : ∀ (l : List PT) (i j : Nat) (hi : i < l.length) (_ : j < 6), (l.flatMap pCells)[i * 6 + j]? = (pCells (l[i]'hi))[j]?
  | x :: l, 0, j, _, hj => by
    rw [List.flatMap_cons, List.getElem?_append_left (by rw [pCells_len]; omega)]
    simp
  | x :: l, i + 1, j, hi, hj => by
    have e : (i + 1) * 6 + j = (pCells x).length + (i * 6 + j) := by rw [pCells_len]; omega
    rw [List.flatMap_cons, e, List.getElem?_append_right (by omega), Nat.add_sub_cancel_left, pflat_get l i j (by simpa using hi) hj]
    simp
/-- The six cells of a pair at an address. -/
def Cell6 (w : World) (b o : Nat) (x : ByteArray) : VT → Prop
  | .mk k n s cA cn cc kA kn kc _ _ =>
    w.cell? ⟨b, o, none⟩ = some (.string x) ∧ w.cell? ⟨b, o + 1, none⟩ = some (.int .i64 k) ∧ w.cell? ⟨b, o + 2, none⟩ = some (.int .i64 n) ∧ w.cell? ⟨b, o + 3, none⟩ = some (.string s) ∧ w.cell? ⟨b, o + 4, none⟩ = some (.slice cA cn cc) ∧ w.cell? ⟨b, o + 5, none⟩ = some (.slice kA kn kc)
theorem pair_at {w : World} {B : Nat} {A : Option Addr} {n : Nat} {l : List PT} (h : Shows w B 6 A n (l.flatMap pCells)) {i : Nat} (hi : i < n) :
    ∃ b off x T, A = some ⟨b, off, none⟩ ∧ b < B ∧ l[i]? = some (x, T) ∧ Cell6 w b (off + i * 6) x T := by
  obtain ⟨b, off, rfl, hb, hc⟩ := h.2 (by omega)
  have hl : i < l.length := by have := h.1; rw [pflat_len] at this; omega
  have hg := fun j (hj : j < 6) => pflat_get l i j hl hj
  refine ⟨b, off, l[i].1, l[i].2, rfl, hb, List.getElem?_eq_getElem hl, ?_⟩
  cases hx : l[i] with
  | mk x T =>
    cases T with
    | mk k n s cA cn cc kA kn kc keys kids =>
      rw [hx] at hg
      exact ⟨hc (i * 6 + 0) _ ((hg 0 (by omega)).trans rfl), hc (i * 6 + 1) _ ((hg 1 (by omega)).trans rfl), hc (i * 6 + 2) _ ((hg 2 (by omega)).trans rfl), hc (i * 6 + 3) _ ((hg 3 (by omega)).trans rfl), hc (i * 6 + 4) _ ((hg 4 (by omega)).trans rfl), hc (i * 6 + 5) _ ((hg 5 (by omega)).trans rfl)⟩
theorem pairs_len {w : World} {B : Nat} {A : Option Addr} {n : Nat} {l : List PT} (h : Shows w B 6 A n (l.flatMap pCells)) : l.length = n := by have := h.1; rw [pflat_len] at this; omega
theorem VFive.set4 {w : World} {g : Nat} {a b c d e e' : Value} (h : VFive w g a b c d e) : VFive (w.setCell ⟨g, 4, none⟩ e') g a b c d e' := by
  obtain ⟨⟨r0, r1, r2, r3, r4⟩, f0, f1, f2, f3, f4⟩ := h
  exact ⟨⟨by simp [go_sem, *], by simp [go_sem, *], by simp [go_sem, *], by simp [go_sem, *], by simp [go_sem, *]⟩, by simp [go_sem, *], by simp [go_sem, *], by simp [go_sem, *], by simp [go_sem, *], by simp [go_sem, *]⟩
theorem VFive.set3 {w : World} {g : Nat} {a b c d e d' : Value} (h : VFive w g a b c d e) : VFive (w.setCell ⟨g, 3, none⟩ d') g a b c d' e := by
  obtain ⟨⟨r0, r1, r2, r3, r4⟩, f0, f1, f2, f3, f4⟩ := h
  exact ⟨⟨by simp [go_sem, *], by simp [go_sem, *], by simp [go_sem, *], by simp [go_sem, *], by simp [go_sem, *]⟩, by simp [go_sem, *], by simp [go_sem, *], by simp [go_sem, *], by simp [go_sem, *], by simp [go_sem, *]⟩
theorem VFive.upto {w w1 : World} {g B : Nat} {a b c d e : Value} (h : VFive w g a b c d e) (hb : Below B w w1) (hg : g < B) (hB : B ≤ w.heap.size) : VFive w1 g a b c d e := by
  refine h.keep (hb.block g hg)
/-- Object half done. -/
structure ObjJ (W : World) (rb vb : Nat) (L : List PT) (j : Nat) (kA cA : Option Addr) (kc cc : Nat) : Prop where
  v : VFive W vb (.int .i64 6) (.int .i64 0) (.string ⟨#[]⟩) (.slice cA j cc) (.slice kA j kc)
  r : VFive W rb (.int .i64 0) (.int .i64 0) (.string ⟨#[]⟩) (.slice none 0 0) (.slice none 0 0)
  ks : W.ownsRow (vb + 1) 9 1 (.slice kA j kc) j ((L.take j).map fun p => Value.string p.1)
  cs : W.ownsRow (vb + 1) 42 5 (.slice cA j cc) j ((L.take j).flatMap fun p => p.2.cells)
theorem ObjJ.later {W W' : World} {rb vb : Nat} {L : List PT} {j : Nat} {kA cA : Option Addr} {kc cc : Nat} (h : ObjJ W rb vb L j kA cA kc cc) (hb : Below W.heap.size W W') : ObjJ W' rb vb L j kA cA kc cc :=
  ⟨h.v.later hb, h.r.later hb, own_below h.ks hb, own_below h.cs hb⟩
theorem VFive.lt {w : World} {g : Nat} {a b c d e : Value} (h : VFive w g a b c d e) : g < w.heap.size := World.block_lt_of_cell? w _ h.1.1
theorem own_set {W : World} {b vb i : Nat} {e : TypeId} {s n : Nat} {v u : Value} {x : List Value} (h : W.ownsRow b e s v n x) (hv : vb < b) : (W.setCell ⟨vb, i, none⟩ u).ownsRow b e s v n x :=
  h.kept (Lib.grownBy_setCell W vb i u) (by
    cases hq : v.ownBlock with
    | none => exact .inl rfl
    | some g => exact .inr fun e => by injection e with e; have := (h.lt g hq).1; omega)
/-- Has a list of pairs two keys in a row that are one? -/
def keyAt (L : List PT) (i : Nat) : ByteArray := (L.map Prod.fst).getD i ⟨#[]⟩
def dupJ (L : List PT) (j : Nat) : Bool := decide (0 < j) && ((keyAt L (j - 1)).toList == (keyAt L j).toList)
theorem keyAt_of {L : List PT} {i : Nat} {x : ByteArray} {T : VT} (h : L[i]? = some (x, T)) : keyAt L i = x := by
  unfold keyAt
  rw [List.getD_eq_getElem?_getD, List.getElem?_map, h]; rfl
theorem shows5_new (W : World) (a b c d e : Value) (t : TypeId) (g : Nat) (hg : W.heap.size = g) : Shows (W.alloc (.cells #[a, b, c, d, e] t)) (g + 1) 5 (some ⟨g, 0, none⟩) 1 [a, b, c, d, e] := by
  subst hg
  refine ⟨rfl, fun _ => ⟨W.heap.size, 0, rfl, Nat.lt_succ_self _, fun i v hv => ?_⟩⟩
  rw [Nat.zero_add]
  exact (Box.new W #[a, b, c, d, e] t i v (by simpa using hv)).1
theorem ptake_snoc {L : List PT} {j : Nat} {p : PT} (h : L[j]? = some p) : L.take (j + 1) = L.take j ++ [p] := by
  rw [List.take_add_one, h]; rfl
section
variable {W0 wc W7 W9 : World} {rb vb : Nat} {L : List PT} {j : Nat} {kA cA A7 A9 : Option Addr} {kc cc c7 c9 : Nat} {x : ByteArray} {T : VT}
theorem obj_two (hv7 : VFive W7 vb (.int .i64 6) (.int .i64 0) (.string ⟨#[]⟩) (.slice cA j cc) (.slice kA j kc)) (hr7 : VFive W7 rb (.int .i64 0) (.int .i64 0) (.string ⟨#[]⟩) (.slice none 0 0) (.slice none 0 0)) (hrb : rb < vb) (hp : L[j]? = some (x, T))
    (hk : (W7.setCell ⟨vb, 4, none⟩ (.slice A7 (j + 1) c7)).ownsRow (vb + 1) 9 1 (.slice A7 (j + 1) c7) (j + 1) ((L.take j).map (fun p => Value.string p.1) ++ [.string x]))
    (hc : (W7.setCell ⟨vb, 4, none⟩ (.slice A7 (j + 1) c7)).ownsRow (vb + 1) 42 5 (.slice cA j cc) j ((L.take j).flatMap fun p => p.2.cells)) {o : Obj}
    (hg9 : ((W7.setCell ⟨vb, 4, none⟩ (.slice A7 (j + 1) c7)).alloc o).grownBy W9 (Value.slice cA j cc).ownBlock) (hb9 : Below (vb + 1) ((W7.setCell ⟨vb, 4, none⟩ (.slice A7 (j + 1) c7)).alloc o) W9)
    (hown9 : W9.ownsRow (vb + 1) 42 5 (.slice A9 (j + 1) c9) (j + 1) ((L.take j).flatMap (fun p => p.2.cells) ++ T.cells)) :
    VFive W9 vb (.int .i64 6) (.int .i64 0) (.string ⟨#[]⟩) (.slice cA j cc) (.slice A7 (j + 1) c7) ∧ ObjJ (W9.setCell ⟨vb, 3, none⟩ (.slice A9 (j + 1) c9)) rb vb L (j + 1) A7 A9 c7 c9 := by
  have hv8 := (hv7.set4 (e' := .slice A7 (j + 1) c7)).alloc o
  have hr8 := (hr7.keep (Below.heap_setCell W7 ⟨vb, 4, none⟩ (.slice A7 (j + 1) c7) rb (by show rb ≠ vb; omega))).alloc o
  have hl8 := hv8.lt
  have hv9 := hv8.upto hb9 (Nat.lt_succ_self _) (by omega)
  have hr9 := hr8.upto hb9 (by omega) (by omega)
  refine ⟨hv9, hv9.set3, hr9.keep (Below.heap_setCell W9 ⟨vb, 3, none⟩ (.slice A9 (j + 1) c9) rb (by show rb ≠ vb; omega)), ?_, ?_⟩
  · rw [ptake_snoc hp, List.map_append]
    exact own_set ((hk.alloc o).kept hg9 (own_ne (hk.alloc o) (hc.alloc o) (by decide))) (Nat.lt_succ_self _)
  · rw [ptake_snoc hp, List.flatMap_append]
    exact own_set (by simpa using hown9) (Nat.lt_succ_self _)
theorem obj_bel {B0 : Nat} {o o' : Obj} {u u' : Value} (h : Below B0 W0 wc) (hv : B0 ≤ vb) (hs : B0 ≤ wc.heap.size) (hb7 : Below (vb + 1) (wc.alloc o) W7) (hb9 : Below (vb + 1) ((W7.setCell ⟨vb, 4, none⟩ u).alloc o') W9) : Below B0 W0 (W9.setCell ⟨vb, 3, none⟩ u') := by
  have h1 := h.alloc hs o
  have h2 := h1.trans (hb7.mono (by omega))
  have h3 := h2.setCell (p := ⟨vb, 4, none⟩) hv u
  have h4 := h3.alloc (by have := hb7.size; rw [World.size_alloc] at this; rw [size_set]; omega) o'
  exact (h4.trans (hb9.mono (by omega))).setCell hv u'
end
theorem own_set5 {W : World} {b g : Nat} {e : TypeId} {s n : Nat} {v a1 a2 a3 a4 a5 : Value} {x : List Value} (h : W.ownsRow b e s v n x) (hv : g < b) : (((((W.setCell ⟨g, 0, none⟩ a1).setCell ⟨g, 1, none⟩ a2).setCell ⟨g, 2, none⟩ a3).setCell ⟨g, 3, none⟩ a4).setCell ⟨g, 4, none⟩ a5).ownsRow b e s v n x :=
  own_set (own_set (own_set (own_set (own_set h hv) hv) hv) hv) hv
theorem flat_map {L : List PT} : L.flatMap (fun p => p.2.cells) = (L.map Prod.snd).flatMap VT.cells := by rw [List.flatMap_map]
theorem obj_lie {W : World} {b b' n kc cc : Nat} {kA cA : Option Addr} {L : List PT} (hk : W.ownsRow b 9 1 (.slice kA n kc) n (L.map fun p => Value.string p.1)) (hc : W.ownsRow b' 42 5 (.slice cA n cc) n (L.flatMap fun p => p.2.cells))
    (hL : ∀ p ∈ L, Lie W W.heap.size p.2 ∧ p.1.size ≤ maxLen) : Lie W W.heap.size (.mk 6 0 ⟨#[]⟩ cA n cc kA n kc (L.map Prod.fst) (L.map Prod.snd)) := by
  have hk1 : n ≤ kc ∧ kc ≤ maxLen ∧ (kA = none → kc = 0) := by
    rcases hk.2 with ⟨h, _⟩ | ⟨g, cap, cur, h, _, _, h1, h2, _⟩
    · injection h with h1 h2 h3; subst h1 h2 h3; exact ⟨Nat.le_refl _, Nat.zero_le _, fun _ => rfl⟩
    · injection h with e1 e2 e3; subst e1 e3; exact ⟨h1, h2, fun h => by cases h⟩
  have hc1 : n ≤ cc ∧ cc ≤ maxLen ∧ (cA = none → cc = 0) := by
    rcases hc.2 with ⟨h, _⟩ | ⟨g, cap, cur, h, _, _, h1, h2, _⟩
    · injection h with h1 h2 h3; subst h1 h2 h3; exact ⟨Nat.le_refl _, Nat.zero_le _, fun _ => rfl⟩
    · injection h with e1 e2 e3; subst e1 e3; exact ⟨h1, h2, fun h => by cases h⟩
  refine .mk (by rw [← flat_map]; exact Shows.own hc) (by rw [List.map_map]; exact Shows.own hk) ⟨by decide, by decide, by decide, hc1.1, hc1.2.1, hc1.2.2, hk1.1, hk1.2.1, hk1.2.2, ?_⟩ ?_
  · intro x hx
    obtain ⟨p, hp, rfl⟩ := List.mem_map.1 hx
    exact (hL p hp).2
  · intro x hx
    obtain ⟨p, hp, rfl⟩ := List.mem_map.1 hx
    exact (hL p hp).1
end Go.Proofs.Ytinaecmpigenoaa
/-
  Layer 1: Points.
-/
namespace Go.Proofs.Ytinaecmpigenoaa
open Go.RowKit Go.Shelf

set_option maxRecDepth 20000 in
theorem i64_info : ∃ i, Try.prog.info? 3 = some i ∧ i.zero = some (.int .i64 0) ∧ i.size = 1 ∧ i.bytes = 8 := ⟨Try.t3, by kernel_rfl, by kernel_rfl, by kernel_rfl, by kernel_rfl⟩
def OutIs (n₀ B : Nat) (pre : List Nat) (W : World) : Prop := ∃ v, Boxed W B 56 v ∧ W.ownsRow n₀ 3 1 v pre.length ((nats pre).map iv)
theorem OutIs.below {n₀ B : Nat} {pre : List Nat} {W W' : World} (h : OutIs n₀ B pre W) (hb : Below W.heap.size W W') : OutIs n₀ B pre W' := by
  obtain ⟨v, h1, h2⟩ := h
  exact ⟨v, boxed_below h1 hb, own_below h2 hb⟩
end Go.Proofs.Ytinaecmpigenoaa
/-
  Layer 4: Null, Int, Bool, Text, Get, At, Len, List.
-/
namespace Go.Proofs.Ytinaecmpigenoaa
open Go.RowKit
set_option linter.unusedVariables false

def scV (k n : Int) (s : ByteArray) : VT := .mk k n s none 0 0 none 0 0 [] []
theorem lie_sc (k n : Int) (s : ByteArray) (w : World) (B : Nat) (hk : (Lit.int .i64 k).wf = true) (hn : (Lit.int .i64 n).wf = true) (hs : s.size ≤ maxLen) : Lie w B (scV k n s) :=
  .mk ⟨rfl, fun h => absurd h (by decide)⟩ ⟨rfl, fun h => absurd h (by decide)⟩ ⟨hk, hn, hs, Nat.le_refl _, Nat.zero_le _, fun _ => rfl, Nat.le_refl _, Nat.zero_le _, fun _ => rfl, fun x h => by cases h⟩ (fun x h => by cases h)
/-- What checked tells. -/
def chkR (T : VT) : Value := if T.ok = true then .tuple #[T.agg, .int .i64 0] else .tuple #[zV, .int .i64 140]
theorem path_one (T : VT) (x : ByteArray) : pathR T [x] = T.get x := by
  rw [pathR]
  cases T.get x with
  | none => rfl
  | some T' => rfl
/-- What Len tells. -/
def lenR (T : VT) : Value := if T.ok = true then (if T.k = 4 then .tuple #[.int .i64 ((nats (ptsL T.s.data.toList).1).length : Nat), .bool true] else if (T.k == 5 || T.k == 6) = true then .tuple #[.int .i64 (T.kids.length : Nat), .bool true] else .tuple #[.int .i64 0, .bool false]) else .tuple #[.int .i64 0, .bool false]
end Go.Proofs.Ytinaecmpigenoaa
/-
  Layer 4: Len; At.
-/
namespace Go.Proofs.Ytinaecmpigenoaa
open Go.RowKit
set_option linter.unusedVariables false

theorem ok_fit {k n : Int} {s : ByteArray} {cA : Option Addr} {cn cc : Nat} {kA : Option Addr} {kn kc : Nat} {keys : List ByteArray} {kids : List VT} (h : (VT.mk k n s cA cn cc kA kn kc keys kids).ok = true) : (VT.mk k n s cA cn cc kA kn kc keys kids).fit = true := by
  unfold VT.ok at h
  rw [all_mk] at h
  simp only [Bool.and_eq_true] at h
  exact h.2.2.1
theorem ok_text {n : Int} {s : ByteArray} {cA : Option Addr} {cn cc : Nat} {kA : Option Addr} {kn kc : Nat} {keys : List ByteArray} {kids : List VT} (h : (VT.mk 4 n s cA cn cc kA kn kc keys kids).ok = true) : (ptsL s.data.toList).2 = s.data.toList.length := by
  have := ok_fit h
  rw [fit_mk] at this
  simp only [Bool.and_eq_true] at this
  have hs := this.2.2.1
  unfold strB strQ at hs
  rw [Bool.or_eq_true, Bool.and_eq_true] at hs
  rcases hs with hs | ⟨_, hs⟩
  · have he : s.data.toList = [] := by rw [← ByteArray.toList_eq]; exact List.isEmpty_iff.1 hs
    rw [he, pts_zero (l := []) rfl]; rfl
  · unfold validS at hs
    exact of_decide_eq_true hs
/-- What At tells. -/
def atR (T : VT) (i : Int) : Option VT := if T.ok = true ∧ T.k = 5 ∧ 0 ≤ i then T.kids[i.toNat]? else none
end Go.Proofs.Ytinaecmpigenoaa
/-
  Layer 4: Object of two pairs.
-/
namespace Go.Proofs.Ytinaecmpigenoaa
open Go.RowKit
set_option linter.unusedVariables false

def sort2 (p q : PT) : List PT := if vless q.1 p.1 = true then [q, p] else [p, q]
theorem list12 {α : Type} {a0 a1 a2 a3 a4 a5 a6 a7 a8 a9 a10 a11 : α} {i : Nat} {v : α} (h : [a0, a1, a2, a3, a4, a5, a6, a7, a8, a9, a10, a11][i]? = some v) (P : Nat → α → Prop) (h0 : P 0 a0) (h1 : P 1 a1) (h2 : P 2 a2) (h3 : P 3 a3) (h4 : P 4 a4) (h5 : P 5 a5) (h6 : P 6 a6) (h7 : P 7 a7) (h8 : P 8 a8) (h9 : P 9 a9) (h10 : P 10 a10) (h11 : P 11 a11) : P i v := by
  match i, h with
  | 0, h => injection h with h; subst h; exact h0
  | 1, h => injection h with h; subst h; exact h1
  | 2, h => injection h with h; subst h; exact h2
  | 3, h => injection h with h; subst h; exact h3
  | 4, h => injection h with h; subst h; exact h4
  | 5, h => injection h with h; subst h; exact h5
  | 6, h => injection h with h; subst h; exact h6
  | 7, h => injection h with h; subst h; exact h7
  | 8, h => injection h with h; subst h; exact h8
  | 9, h => injection h with h; subst h; exact h9
  | 10, h => injection h with h; subst h; exact h10
  | 11, h => injection h with h; subst h; exact h11
  | i + 12, h => cases h
theorem VTwelve.shows {w : World} {g c : Nat} {x y : ByteArray} {ak an : Int} {a3 : ByteArray} {acA : Option Addr} {acn acc : Nat} {akA : Option Addr} {akn akc : Nat} {ka : List ByteArray} {da : List VT} {bk bn : Int} {b3 : ByteArray} {bcA : Option Addr} {bcn bcc : Nat} {bkA : Option Addr} {bkn bkc : Nat} {kb : List ByteArray} {db : List VT}
    (h : VTwelve w g (.string x) (.int .i64 ak) (.int .i64 an) (.string a3) (.slice acA acn acc) (.slice akA akn akc) (.string y) (.int .i64 bk) (.int .i64 bn) (.string b3) (.slice bcA bcn bcc) (.slice bkA bkn bkc)) :
    Shows w w.heap.size 6 (some ⟨g, 0, none⟩) 2 ([(x, VT.mk ak an a3 acA acn acc akA akn akc ka da), (y, VT.mk bk bn b3 bcA bcn bcc bkA bkn bkc kb db)].flatMap pCells) := by
  obtain ⟨⟨r0, r1, r2, r3, r4, r5, r6, r7, r8, r9, r10, r11⟩, -⟩ := h
  refine ⟨rfl, fun _ => ⟨g, 0, rfl, World.block_lt_of_cell? w _ r0, fun i v hv => ?_⟩⟩
  rw [Nat.zero_add]
  exact list12 (P := fun i v => w.cell? ⟨g, i, none⟩ = some v) hv r0 r1 r2 r3 r4 r5 r6 r7 r8 r9 r10 r11
/-- What Object tells of n pairs, in the order that sorting leaves. -/
def ObjR (n : Nat) (L' : List PT) (w w' : World) (e : Ending) : Prop := Below w.heap.size w w' ∧
      (((∃ j, j < n ∧ dupJ L' j = true) ∧ e = .returned (.tuple #[zV, .int .i64 141])) ∨
       ((∀ j, j < n → dupJ L' j = false) ∧ ∃ kA kc cA cc, Lie w' w'.heap.size (.mk 6 0 ⟨#[]⟩ cA n cc kA n kc (L'.map Prod.fst) (L'.map Prod.snd)) ∧
        e = .returned (.tuple #[if VT.ok (.mk 6 0 ⟨#[]⟩ cA n cc kA n kc (L'.map Prod.fst) (L'.map Prod.snd)) = true then VT.agg (.mk 6 0 ⟨#[]⟩ cA n cc kA n kc (L'.map Prod.fst) (L'.map Prod.snd)) else zV, .int .i64 (if VT.ok (.mk 6 0 ⟨#[]⟩ cA n cc kA n kc (L'.map Prod.fst) (L'.map Prod.snd)) = true then 0 else 140)])))
theorem strB_nil (k : Int) : strB k ⟨#[]⟩ = true := by unfold strB strQ; rw [ByteArray.toList_eq]; rfl
theorem pts_cps (cps : List Nat) (l : List UInt8) (h : allCp cps) (hl : l = textL cps) : ptsL l = (cps, l.length) := by
  have := pts_text cps [] h
  rw [pts_zero (l := []) rfl, List.append_nil, List.append_nil, Nat.add_zero] at this
  rw [hl, this]
theorem validS_of (cps : List Nat) (s : ByteArray) (h : allCp cps) (hl : s.data.toList = textL cps) : validS s = true := by
  unfold validS
  rw [pts_cps cps _ h hl]
  exact decide_eq_true rfl
theorem valid_a : validS ⟨#[97]⟩ = true := validS_of [97] _ (by intro c hc; simp at hc; subst hc; decide) (by decide)
theorem valid_b : validS ⟨#[98]⟩ = true := validS_of [98] _ (by intro c hc; simp at hc; subst hc; decide) (by decide)
theorem valid_e : validS ⟨#[195, 169]⟩ = true := validS_of [233] _ (by intro c hc; simp at hc; subst hc; decide) (by decide)
end Go.Proofs.Ytinaecmpigenoaa
/-
  Layer 4: wakes.
-/
namespace Go.Proofs.Ytinaecmpigenoaa
open Go.RowKit
set_option linter.unusedVariables false

theorem shows_new (W : World) (cs : Array Value) (t : TypeId) (g n size : Nat) (hg : W.heap.size = g) (hl : cs.toList.length = n * size) : Shows (W.alloc (.cells cs t)) (g + 1) size (some ⟨g, 0, none⟩) n cs.toList := by
  subst hg
  refine ⟨hl, fun _ => ⟨W.heap.size, 0, rfl, Nat.lt_succ_self _, fun i v hv => ?_⟩⟩
  rw [Nat.zero_add]
  exact (Box.new W cs t i v (by simpa using hv)).1
abbrev tAB (cA : Option Addr) (cc : Nat) (kA : Option Addr) (kc : Nat) : VT := .mk 6 0 ⟨#[]⟩ cA 2 cc kA 2 kc [⟨#[97]⟩, ⟨#[98]⟩] [scV 1 0 ⟨#[]⟩, scV 3 1 ⟨#[]⟩]
section
variable {cA : Option Addr} {cc : Nat} {kA : Option Addr} {kc : Nat}
theorem sc_cnt (k n : Int) (s : ByteArray) : (scV k n s).cnt = 1 := by unfold scV; rw [cnt_mk]; rfl
theorem sc_dep (k n : Int) (s : ByteArray) : (scV k n s).dep = hN (k == 5 || k == 6) := by unfold scV; rw [dep_mk]; rfl
theorem sc_all (k n : Int) (s : ByteArray) : (scV k n s).all = (scV k n s).fit := by unfold scV; rw [all_mk]; simp
theorem ab_dep : (tAB cA cc kA kc).dep = 1 := by rw [dep_mk]; simp [sc_dep, maxL, hN]
theorem ab_cnt : (tAB cA cc kA kc).cnt = 3 := by rw [cnt_mk]; simp [sc_cnt]
theorem ab_b : (tAB cA cc kA kc).get ⟨#[98]⟩ = some (scV 3 1 ⟨#[]⟩) := by
  show (if (6 : Int) = 6 then getK _ _ _ else none) = _
  rw [if_pos rfl]
  show getK [⟨#[97]⟩, ⟨#[98]⟩] [scV 1 0 ⟨#[]⟩, scV 3 1 ⟨#[]⟩] ⟨#[98]⟩ = _
  rw [getK, if_neg (by decide), getK, if_pos rfl]
theorem ab_c : (tAB cA cc kA kc).get ⟨#[99]⟩ = none := by
  show (if (6 : Int) = 6 then getK _ _ _ else none) = _
  rw [if_pos rfl]
  show getK [⟨#[97]⟩, ⟨#[98]⟩] [scV 1 0 ⟨#[]⟩, scV 3 1 ⟨#[]⟩] ⟨#[99]⟩ = _
  rw [getK, if_neg (by decide), getK, if_neg (by decide), getK]
  intro _ _ _ _ h; cases h
end
theorem sc_ok (k n : Int) (s : ByteArray) (hk : (k == 5 || k == 6) = false) (hf : (scV k n s).fit = true) : (scV k n s).ok = true := by
  unfold VT.ok
  rw [sc_dep, sc_cnt, sc_all, hf, hk]
  rfl
theorem e_ok : (scV 4 0 ⟨#[195, 169]⟩).ok = true := by
  refine sc_ok _ _ _ (by decide) ?_
  unfold scV
  rw [fit_mk]
  simp only [Bool.and_eq_true]
  refine ⟨by decide, by decide, ?_, by decide, by decide⟩
  unfold strB strQ
  rw [valid_e]
  simp [shText]
theorem z_ok : (scV 0 0 ⟨#[]⟩).ok = false := by
  unfold VT.ok
  rw [sc_all]
  have : (scV 0 0 ⟨#[]⟩).fit = false := by unfold scV; rw [fit_mk]; rfl
  rw [this]; simp
theorem e_len : lenR (scV 4 0 ⟨#[195, 169]⟩) = .tuple #[.int .i64 1, .bool true] := by
  unfold lenR
  rw [if_pos e_ok, if_pos (show (scV 4 0 ⟨#[195, 169]⟩).k = 4 from rfl)]
  show Value.tuple #[.int .i64 ((nats (ptsL [195, 169]).1).length : Nat), .bool true] = _
  rw [pts_cps [233] [195, 169] (by intro c hc; simp at hc; subst hc; decide) (by decide)]
  rfl
end Go.Proofs.Ytinaecmpigenoaa
/-
  Layer 4: arguments: a value, a list of values, pairs, keys.
-/
namespace Go.Proofs.Ytinaecmpigenoaa
open Go.ChangeShapes Go.WideShapes Go.ChangeAt Go.RowKit Go.Deep
set_option linter.unusedVariables false

section
variable {H : Type} {enc : TypeId × Value → H} {P : Program} {w W : World} {base b0 : Nat} {spare : Nat → Bool} {held : Bool} {r : Reach} {t e : TypeId} {v : Value} {d : DataW H} {p : List MemPlace}
/-- A row of things that came in, one by one. -/
theorem open_rows {α : Type} (f : α → List Value) (z : α) (k : Nat) (hk : 0 < k) (hf : ∀ x, (f x).length = k) (Q : α → Prop) {fuel : Nat} {cs : List Value} {x : DataW H × List MemPlace} (ht : P.underlying t = some (.slice e)) (hC : P.cellsOf e = k)
    (hQ : ∀ n cs y, n < fuel → cs.length = k → DataW.trod enc P w base spare held n e cs = some y → ∃ x : α, cs = f x ∧ Q x)
    (h : DataW.trod enc P w base spare held fuel t cs = some x) : ∃ (A : Option Addr) (n c : Nat) (l : List α), cs = [.slice A n c] ∧ Shows w w.heap.size k A n (l.flatMap f) ∧ (∀ x ∈ l, Q x) ∧ (A = none → c = 0) ∧ n ≤ c ∧ c ≤ maxLen := by
  rcases DataW.trod_slice ht h with ⟨hcs, _⟩ | ⟨a, len, cap, elems, rest, n, hn, hcs, _, _, hl, hm, hlen, hi, _, _⟩
  · exact ⟨none, 0, 0, [], hcs, ⟨by simp, fun h => absurd h (by decide)⟩, by simp, fun _ => rfl, Nat.le_refl _, Nat.zero_le _⟩
  · have hF : ∀ i, ∃ r : α, i < len → Q r ∧ ∀ j u, (f r)[j]? = some u → w.cell? (a.add (i * k + j)) = some u := by
      intro i
      by_cases hin : i < len
      · have h2 := hi i hin
        rw [List.getElem?_eq_getElem (by rw [hlen]; exact hin)] at h2
        obtain ⟨cs', hc, htr⟩ := Option.bind_eq_some_iff.1 h2
        obtain ⟨_, hlen', hat⟩ := World.cells?_some hc
        rw [hC] at hlen' hat
        obtain ⟨r, rfl, hr⟩ := hQ n cs' _ (by omega) hlen' htr
        refine ⟨r, fun _ => ⟨hr, fun j u hu => ?_⟩⟩
        have hj : j < k := by have := (List.getElem?_eq_some_iff.1 hu).1; rw [hlen'] at this; exact this
        have := hat j hj
        rw [hu] at this
        rw [← this, ← Go.Deep.add_add]
      · exact ⟨z, fun h => absurd h hin⟩
    refine ⟨some a, len, cap, (List.range len).map fun i => Classical.choose (hF i), hcs, shows_rows f k hk hf _ fun i hi j u hu => (Classical.choose_spec (hF i) hi).2 j u hu, ?_, nofun, hl, hm⟩
    intro r hr
    obtain ⟨i, hi, rfl⟩ := List.mem_map.1 hr
    exact (Classical.choose_spec (hF i) (List.mem_range.1 hi)).1
theorem flat_one (l : List ByteArray) : l.flatMap (fun s => [Value.string s]) = l.map Value.string := by
  induction l with
  | nil => rfl
  | cons x l ih => rw [List.flatMap_cons, ih]; rfl
theorem open_keys {fuel : Nat} {cs : List Value} {x : DataW H × List MemPlace} (ht : P.underlying t = some (.slice e)) (hC : P.cellsOf e = 1) (he : P.underlying e = some .string) (h : DataW.trod enc P w base spare held fuel t cs = some x) :
    ∃ (A : Option Addr) (n c : Nat) (l : List ByteArray), cs = [.slice A n c] ∧ Shows w w.heap.size 1 A n (l.map Value.string) ∧ (∀ x ∈ l, x.size ≤ maxLen) ∧ (A = none → c = 0) ∧ n ≤ c ∧ c ≤ maxLen := by
  obtain ⟨A, n, c, l, h1, h2, h3⟩ := open_rows (fun s : ByteArray => [Value.string s]) ⟨#[]⟩ 1 (by decide) (fun _ => rfl) (fun s => s.size ≤ maxLen) ht hC (fun n cs y _ _ hy => by
    obtain ⟨s, e, _, hs⟩ := DataW.trod_string he hy
    exact ⟨s, e, hs⟩) h
  rw [flat_one] at h2
  exact ⟨A, n, c, l, h1, h2, h3⟩
variable {f0 f1 f2 f3 f4 : Field} {ek : TypeId}
/-- A value that came in. -/
theorem trod_value (ht : P.underlying t = some (.struct #[f0, f1, f2, f3, f4])) (hone : oneCellFields P #[f0, f1, f2, f3, f4] = true) (hC : P.cellsOf t = 5)
    (k0 : P.underlying f0.type = some (.int .i64)) (k1 : P.underlying f1.type = some (.int .i64)) (k2 : P.underlying f2.type = some .string) (k3 : P.underlying f3.type = some (.slice t)) (k4 : P.underlying f4.type = some (.slice ek)) (k5 : P.underlying ek = some .string) (hk : P.cellsOf ek = 1) :
    ∀ (fuel : Nat) (cs : List Value) (x : DataW H × List MemPlace), cs.length = 5 → DataW.trod enc P w base spare held fuel t cs = some x → ∃ T : VT, cs = T.cells ∧ Lie w w.heap.size T := by
  intro fuel
  induction fuel using Nat.strongRecOn with
  | ind fuel ih =>
    intro cs x hsz h
    match cs, hsz with
    | [c0, c1, c2, c3, c4], _ =>
      obtain ⟨xs, n, hn, hx, _, hlen, hg⟩ := DataW.trod_struct ht h
      obtain ⟨o0, q0⟩ := hone_of hone 0 f0 rfl
      obtain ⟨o1, q1⟩ := hone_of hone 1 f1 rfl
      obtain ⟨o2, q2⟩ := hone_of hone 2 f2 rfl
      obtain ⟨o3, q3⟩ := hone_of hone 3 f3 rfl
      obtain ⟨o4, q4⟩ := hone_of hone 4 f4 rfl
      match xs, hlen with
      | [y0, y1, y2, y3, y4], _ =>
        have hy0 : DataW.trod enc P w base spare held n f0.type [c0] = some y0 := by simpa [o0, q0] using hg 0 f0 rfl
        have hy1 : DataW.trod enc P w base spare held n f1.type [c1] = some y1 := by simpa [o1, q1] using hg 1 f1 rfl
        have hy2 : DataW.trod enc P w base spare held n f2.type [c2] = some y2 := by simpa [o2, q2] using hg 2 f2 rfl
        have hy3 : DataW.trod enc P w base spare held n f3.type [c3] = some y3 := by simpa [o3, q3] using hg 3 f3 rfl
        have hy4 : DataW.trod enc P w base spare held n f4.type [c4] = some y4 := by simpa [o4, q4] using hg 4 f4 rfl
        obtain ⟨z0, e0, _, w0⟩ := DataW.trod_int k0 hy0
        obtain ⟨z1, e1, _, w1⟩ := DataW.trod_int k1 hy1
        obtain ⟨s, e2, _, hs⟩ := DataW.trod_string k2 hy2
        obtain ⟨A3, n3, d3, l3, e3, hS3, hL3, a3, b3, m3⟩ := open_rows VT.cells (scV 0 0 ⟨#[]⟩) 5 (by decide) VT.cells_len (Lie w w.heap.size) k3 hC (fun n' cs' y hn' hl' hy' => ih n' (by omega) cs' y hl' hy') hy3
        obtain ⟨A4, n4, d4, l4, e4, hS4, hL4, a4, b4, m4⟩ := open_keys k4 hk k5 hy4
        simp at e0 e1 e2 e3 e4
        subst e0 e1 e2 e3 e4
        exact ⟨.mk z0 z1 s A3 n3 d3 A4 n4 d4 l4 l3, rfl, .mk hS3 hS4 ⟨w0, w1, hs, b3, m3, a3, b4, m4, a4, hL4⟩ hL3⟩
theorem came_value (ht : P.underlying t = some (.struct #[f0, f1, f2, f3, f4])) (hone : oneCellFields P #[f0, f1, f2, f3, f4] = true) (hC : P.cellsOf t = 5)
    (k0 : P.underlying f0.type = some (.int .i64)) (k1 : P.underlying f1.type = some (.int .i64)) (k2 : P.underlying f2.type = some .string) (k3 : P.underlying f3.type = some (.slice t)) (k4 : P.underlying f4.type = some (.slice ek)) (k5 : P.underlying ek = some .string) (hk : P.cellsOf ek = 1)
    (hv : Value.okWide P W r b0 t v) (h : DataW.Trod enc P w base spare held t v d p) : ∃ T : VT, v = T.agg ∧ Lie w w.heap.size T := by
  obtain ⟨cs, rfl, hsz⟩ := okWide_struct ht hv
  obtain ⟨fuel, hf⟩ := h
  obtain ⟨T, hT, hL⟩ := trod_value ht hone hC k0 k1 k2 k3 k4 k5 hk fuel cs.toList _ (by simpa using hsz.trans hC) (by simpa [Value.cells] using hf)
  refine ⟨T, ?_, hL⟩
  rw [← Array.toArray_toList (xs := cs), hT]
  cases T; rfl
theorem came_values {A : Option Addr} {n c : Nat} (hu : P.underlying e = some (.slice t)) (ht : P.underlying t = some (.struct #[f0, f1, f2, f3, f4])) (hone : oneCellFields P #[f0, f1, f2, f3, f4] = true) (hC : P.cellsOf t = 5)
    (k0 : P.underlying f0.type = some (.int .i64)) (k1 : P.underlying f1.type = some (.int .i64)) (k2 : P.underlying f2.type = some .string) (k3 : P.underlying f3.type = some (.slice t)) (k4 : P.underlying f4.type = some (.slice ek)) (k5 : P.underlying ek = some .string) (hk : P.cellsOf ek = 1)
    (h : DataW.Trod enc P w base spare held e (.slice A n c) d p) : ∃ l : List VT, Shows w w.heap.size 5 A n (l.flatMap VT.cells) ∧ (∀ T ∈ l, Lie w w.heap.size T) ∧ (A = none → c = 0) ∧ n ≤ c ∧ c ≤ maxLen := by
  obtain ⟨fuel, hf⟩ := h
  obtain ⟨A', n', c', l, hcs, h2, h3, h4⟩ := open_rows VT.cells (scV 0 0 ⟨#[]⟩) 5 (by decide) VT.cells_len (Lie w w.heap.size) hu hC (fun n' cs' y _ hl' hy' => trod_value ht hone hC k0 k1 k2 k3 k4 k5 hk n' cs' y hl' hy') hf
  simp [Value.cells] at hcs
  obtain ⟨rfl, rfl, rfl⟩ := hcs
  exact ⟨l, h2, h3, h4⟩
theorem came_keys {A : Option Addr} {n c : Nat} (hu : P.underlying t = some (.slice e)) (hC : P.cellsOf e = 1) (he : P.underlying e = some .string) (h : DataW.Trod enc P w base spare held t (.slice A n c) d p) :
    ∃ l : List ByteArray, Shows w w.heap.size 1 A n (l.map Value.string) ∧ (∀ x ∈ l, x.size ≤ maxLen) ∧ (A = none → c = 0) ∧ n ≤ c ∧ c ≤ maxLen := by
  obtain ⟨fuel, hf⟩ := h
  obtain ⟨A', n', c', l, hcs, h2, h3, h4⟩ := open_keys hu hC he hf
  simp [Value.cells] at hcs
  obtain ⟨rfl, rfl, rfl⟩ := hcs
  exact ⟨l, h2, h3, h4⟩
end
end Go.Proofs.Ytinaecmpigenoaa
