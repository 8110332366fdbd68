/-
  Layer 4: what a value is kept in; checked, member.
-/
import Derived.Test.YtnldiemggabdkaaDoorValH
namespace Go.Proofs.YtnldiemggabdkaaDoor
open Go.RowKit
set_option linter.unusedVariables false

/-- Five cells of a variable of one's own. -/
def VFive (w : World) (g : Nat) (a b c d e : Value) : Prop :=
    (w.cell? ⟨g, 0, none⟩ = some a ∧ w.cell? ⟨g, 1, none⟩ = some b ∧ w.cell? ⟨g, 2, none⟩ = some c ∧ w.cell? ⟨g, 3, none⟩ = some d ∧ w.cell? ⟨g, 4, none⟩ = some e) ∧
    (w.frozen? ⟨g, 0, none⟩ = false ∧ w.frozen? ⟨g, 1, none⟩ = false ∧ w.frozen? ⟨g, 2, none⟩ = false ∧ w.frozen? ⟨g, 3, none⟩ = false ∧ w.frozen? ⟨g, 4, none⟩ = false)
theorem VFive.alloc {w : World} {g : Nat} {a b c d e : Value} (o : Obj) (h : VFive w g a b c d e) : VFive (w.alloc o) g a b c d e := by
  obtain ⟨⟨r0, r1, r2, r3, r4⟩, f0, f1, f2, f3, f4⟩ := h
  exact ⟨⟨cell_keep r0 o, cell_keep r1 o, cell_keep r2 o, cell_keep r3 o, cell_keep r4 o⟩, (frozen_keep r0 o).trans f0, (frozen_keep r1 o).trans f1, (frozen_keep r2 o).trans f2, (frozen_keep r3 o).trans f3, (frozen_keep r4 o).trans f4⟩
theorem VFive.later {w w1 : World} {g : Nat} {a b c d e : Value} (h : VFive w g a b c d e) (hb : Below w.heap.size w w1) : VFive w1 g a b c d e := by
  obtain ⟨⟨r0, r1, r2, r3, r4⟩, f0, f1, f2, f3, f4⟩ := h
  have l := World.block_lt_of_cell? w _ r0
  exact ⟨⟨kept_later hb r0, kept_later hb r1, kept_later hb r2, kept_later hb r3, kept_later hb r4⟩, (hb.frozen (p := ⟨g, 0, none⟩) l).trans f0, (hb.frozen (p := ⟨g, 1, none⟩) l).trans f1, (hb.frozen (p := ⟨g, 2, none⟩) l).trans f2, (hb.frozen (p := ⟨g, 3, none⟩) l).trans f3, (hb.frozen (p := ⟨g, 4, none⟩) l).trans f4⟩
theorem VFive.new (w : World) (a b c d e : Value) (t : TypeId) (g : Nat) (hg : w.heap.size = g) : VFive (w.alloc (.cells #[a, b, c, d, e] t)) g a b c d e := by
  subst hg
  exact ⟨⟨by simp [go_sem], by simp [go_sem], by simp [go_sem], by simp [go_sem], by simp [go_sem]⟩, by simp [go_sem], by simp [go_sem], by simp [go_sem], by simp [go_sem], by simp [go_sem]⟩
theorem vbelow_set5 {B g : Nat} {w w1 : World} {a b c d e : Value} (h : Below B w w1) (hg : B ≤ g) : Below B w (((((w1.setCell ⟨g, 0, none⟩ a).setCell ⟨g, 1, none⟩ b).setCell ⟨g, 2, none⟩ c).setCell ⟨g, 3, none⟩ d).setCell ⟨g, 4, none⟩ e) :=
  ((((h.setCell hg a).setCell hg b).setCell hg c).setCell hg d).setCell hg e
/-- A value's box and the box of what is told. -/
theorem vbox2 (w : World) (k n : Int) (s : ByteArray) (cA : Option Addr) (cn cc : Nat) (kA : Option Addr) (kn kc : Nat) (W : World) (hW : W = (w.alloc (.cells #[.int .i64 k, .int .i64 n, .string s, .slice cA cn cc, .slice kA kn kc] 25)).alloc (.cells #[.int .i64 0, .int .i64 0, .string ⟨#[]⟩, .slice none 0 0, .slice none 0 0] 25)) :
    Below w.heap.size w W ∧ W.heap.size = w.heap.size + 2 ∧ VFive W w.heap.size (.int .i64 k) (.int .i64 n) (.string s) (.slice cA cn cc) (.slice kA kn kc) ∧ VFive W (w.heap.size + 1) (.int .i64 0) (.int .i64 0) (.string ⟨#[]⟩) (.slice none 0 0) (.slice none 0 0) := by
  subst hW
  exact ⟨bel_alloc (bel_alloc (Below.refl _ _) _) _, by simp, (VFive.new _ _ _ _ _ _ _ _ rfl).alloc _, VFive.new _ _ _ _ _ _ _ _ (by simp)⟩

/-- The value there is not. -/
def zV : Value := .agg #[.int .i64 0, .int .i64 0, .string ⟨#[]⟩, .slice none 0 0, .slice none 0 0]
set_option maxRecDepth 20000 in
theorem checked_any (B : Nat) (w : World) (T : VT) (hL : Lie w B T) (hB : B ≤ w.heap.size) (htab : UTab w) (hst : STab w) :
    Calls Tryd.prog 46 #[T.agg] w fun e w' => e = .returned (.tuple #[if T.ok = true then T.agg else zV, .int .i64 (if T.ok = true then 0 else 140)]) ∧ Below w.heap.size w w' := by
  obtain ⟨k, n, s, cA, cn, cc, kA, kn, kc, keys, kids⟩ := T
  obtain ⟨hb, hsz, hv, hz⟩ := vbox2 w k n s cA cn cc kA kn kc _ rfl
  have hm := valid_any B _ (.mk k n s cA cn cc kA kn kc keys kids) (hL.later (hb.mono hB)) (Nat.le_trans hB hb.size) (htab.below hb htab.lt) (hst.below hb hst.lt)
  simp only [VT.agg] at hm ⊢
  have hle1 : w.heap.size ≤ w.heap.size + 1 := Nat.le_succ _
  have Hv := Lib.hid hv
  have Hz := Lib.hid hz
  clear hL hsz hv hz
  cases h : VT.ok (.mk k n s cA cn cc kA kn kc keys kids)
  · rw [h] at hm
    clear h
    go_enter Tryd.func46, Tryd.ntmps46
    go_wp2_with fail
    refine hm.mono ?_
    rintro e w1 ⟨rfl, hb1⟩
    obtain ⟨⟨e0, e1, e2, e3, e4⟩, f0, f1, f2, f3, f4⟩ := Hz.out.later hb1
    have hb2 := bel_next hb hb1
    clear hb hb1
    go_wp2
    refine bodyPost_ret (v := .tuple #[.agg #[.int .i64 0, .int .i64 0, .string ⟨#[]⟩, .slice none 0 0, .slice none 0 0], .int .i64 140]) ?_ rfl ⟨rfl, vbelow_set5 hb2 hle1⟩
    simp [results, Tryd.results46, go_sem, *]
  · rw [h] at hm
    clear h
    go_enter Tryd.func46, Tryd.ntmps46
    go_wp2_with fail
    refine hm.mono ?_
    rintro e w1 ⟨rfl, hb1⟩
    obtain ⟨⟨e0, e1, e2, e3, e4⟩, f0, f1, f2, f3, f4⟩ := Hz.out.later hb1
    obtain ⟨⟨d0, d1, d2, d3, d4⟩, -⟩ := Hv.out.later hb1
    have hb2 := bel_next hb hb1
    clear hb hb1
    go_wp2
    refine bodyPost_ret (v := .tuple #[.agg #[.int .i64 k, .int .i64 n, .string s, .slice cA cn cc, .slice kA kn kc], .int .i64 0]) ?_ rfl ⟨rfl, vbelow_set5 hb2 hle1⟩
    simp [results, Tryd.results46, go_sem, *]

theorem search_bel (A : Option Addr) (n c : Nat) (l : List ByteArray) (x : ByteArray) (B : Nat) (w : World) (h : Shows w B 1 A n (l.map Value.string)) (hm : n ≤ 1000) (hord : ∀ j i, i < j → j < l.length → vless (l.getD i ⟨#[]⟩) (l.getD j ⟨#[]⟩) = true) :
    Calls Tryd.prog 57 #[.slice A n c, .string x] w fun e w' => ∃ (i : Nat) (b : Bool), e = .returned (.tuple #[.int .i64 i, .bool b]) ∧ FindR l x i b ∧ Below w.heap.size w w' := by
  refine (search_any A n c l x B w h hm hord).mono ?_
  rintro e w' ⟨i, b, rfl, hF, m, rfl⟩
  exact ⟨i, b, rfl, hF, below_drewN (Below.refl _ _) m⟩

/-- What there is at a key. -/
def getK : List ByteArray → List VT → ByteArray → Option VT
  | k :: ks, t :: ts, x => if k = x then some t else getK ks ts x
  | _, _, _ => none
theorem getK_some : ∀ (ks : List ByteArray) (ts : List VT) (x : ByteArray) (i : Nat), i < ks.length → i < ts.length → ks.getD i ⟨#[]⟩ = x → (∀ j, j < i → ks.getD j ⟨#[]⟩ ≠ x) → getK ks ts x = ts[i]?
  | k :: ks, t :: ts, x, 0, _, _, h, _ => by
    have : k = x := by simpa using h
    rw [getK, if_pos this]; rfl
  | k :: ks, t :: ts, x, i + 1, h1, h2, h, hn => by
    have h0 : k ≠ x := by simpa using hn 0 (by omega)
    rw [getK, if_neg h0, getK_some ks ts x i (by simpa using h1) (by simpa using h2) (by simpa using h) (fun j hj => by simpa using hn (j + 1) (by omega))]
    simp
theorem getK_none : ∀ (ks : List ByteArray) (ts : List VT) (x : ByteArray), (∀ j, j < ks.length → ks.getD j ⟨#[]⟩ ≠ x) → getK ks ts x = none
  | [], _, _, _ => by simp [getK]
  | _ :: _, [], _, _ => by simp [getK]
  | k :: ks, t :: ts, x, h => by
    have h0 : k ≠ x := by simpa using h 0 (by simp)
    rw [getK, if_neg h0]
    exact getK_none ks ts x fun j hj => by simpa using h (j + 1) (by simpa using hj)
def VT.get (T : VT) (x : ByteArray) : Option VT := if T.k = 6 then getK T.keys T.kids x else none
/-- What is told of what there is. -/
def memR : Option VT → Value
  | some T => .tuple #[T.agg, .bool true]
  | none => .tuple #[zV, .bool false]
/-- What a right value has. -/
theorem ok_keys {k n : Int} {s : ByteArray} {cA : Option Addr} {cn cc : Nat} {kA : Option Addr} {kn kc : Nat} {keys : List ByteArray} {kids : List VT} (h : (VT.mk k n s cA cn cc kA kn kc keys kids).ok = true) (hlen : kids.length = cn) :
    cn ≤ 255 ∧ (if k = 6 then kn = cn ∧ keysB keys = true else kn = 0) := by
  unfold VT.ok at h
  rw [all_mk] at h
  simp only [Bool.and_eq_true, decide_eq_true_eq, fit_mk] at h
  obtain ⟨_, hc, ⟨_, _, _, _, hm⟩, _⟩ := h
  have hc2 : cn ≤ 255 := by
    rw [cnt_mk] at hc
    have : ∀ l : List VT, l.length ≤ (l.map VT.cnt).sum := by
      intro l
      induction l with
      | nil => simp
      | cons x l ih =>
        have : 1 ≤ x.cnt := by cases x; rw [cnt_mk]; omega
        simp only [List.length_cons, List.map_cons, List.sum_cons]; omega
    have := this kids
    omega
  refine ⟨hc2, ?_⟩
  unfold memB memQ shKeys at hm
  by_cases e : k = 6
  · rw [if_pos e]
    rw [if_pos (by rw [e]; rfl), Bool.and_eq_true, beq_iff_eq] at hm
    exact hm
  · rw [if_neg e]
    rw [if_neg (by simpa using e), beq_iff_eq] at hm
    exact hm

set_option maxRecDepth 20000 in
set_option maxHeartbeats 1000000 in
theorem member_any (B : Nat) (w : World) (T : VT) (x : ByteArray) (hL : Lie w B T) (hB : B ≤ w.heap.size) (hok : T.ok = true) :
    Calls Tryd.prog 42 #[T.agg, .string x] w fun e w' => e = .returned (memR (T.get x)) ∧ Below w.heap.size w w' := by
  obtain ⟨k, n, s, cA, cn, cc, kA, kn, kc, keys, kids⟩ := T
  obtain ⟨hb, hsz, hv, hz⟩ := vbox2 w k n s cA cn cc kA kn kc _ rfl
  have hL' := hL
  cases hL' with | mk hc hk hzz hkid =>
  have hlc := kids_len hc
  have hlk := keys_len hk
  obtain ⟨h255, hkk⟩ := ok_keys hok hlc
  have hord : ∀ j i, i < j → j < keys.length → vless (keys.getD i ⟨#[]⟩) (keys.getD j ⟨#[]⟩) = true := by
    by_cases e : k = 6
    · rw [if_pos e] at hkk
      exact keysB_ord hkk.2
    · rw [if_neg e] at hkk
      intro j i _ h; omega
  have hkn : kn ≤ 1000 := by
    by_cases e : k = 6
    · rw [if_pos e] at hkk; omega
    · rw [if_neg e] at hkk; omega
  have hs := search_bel kA kn kc keys x B _ (hk.below (hb.mono hB)) hkn hord
  simp only [VT.agg] at ⊢
  have hle1 : w.heap.size ≤ w.heap.size + 1 := Nat.le_succ _
  have Hv := Lib.hid hv
  have Hz := Lib.hid hz
  have HC := Lib.hid (hc.below (hb.mono hB))
  have Hord := Lib.hid hord
  have HK := Lib.hid hkk
  have HG := Lib.hid (show (VT.mk k n s cA cn cc kA kn kc keys kids).get x = if k = 6 then getK keys kids x else none from rfl)
  have Hlc := Lib.hid hlc
  have Hlk := Lib.hid hlk
  clear hL hsz hv hz hk hc hord hkk hok hkid hzz hlc hlk
  go_enter Tryd.func42, Tryd.ntmps42
  go_wp2_with fail
  refine hs.mono ?_
  rintro e W ⟨i, b, rfl, hF, hb1⟩
  obtain ⟨⟨e0, e1, e2, e3, e4⟩, f0, f1, f2, f3, f4⟩ := Hz.out.later hb1
  obtain ⟨⟨d0, d1, d2, d3, d4⟩, -⟩ := Hv.out.later hb1
  have HC1 := Lib.hid (HC.out.below (hb1.mono (Nat.le_trans hB hb.size)))
  have Hb2 := Lib.hid (bel_next hb hb1)
  clear hb hb1 hs Hz Hv HC
  by_cases e : k = 6
  · subst e
    cases b
    · have hN := Lib.hid (show (VT.mk 6 n s cA cn cc kA kn kc keys kids).get x = none by rw [HG.out, if_pos rfl]; exact getK_none _ _ _ (hF.no rfl))
      clear hF
      go_wp2
      rw [hN.out]
      refine bodyPost_ret (v := .tuple #[.agg #[.int .i64 0, .int .i64 0, .string ⟨#[]⟩, .slice none 0 0, .slice none 0 0], .bool false]) ?_ rfl ⟨rfl, vbelow_set5 Hb2.out hle1⟩
      simp [results, Tryd.results42, go_sem, *]
    · obtain ⟨hi, hx⟩ := hF.yes rfl
      have hkk := HK.out
      rw [if_pos rfl] at hkk
      have hin : i < cn := by rw [Hlk.out] at hi; omega
      have hG := Lib.hid (show (VT.mk 6 n s cA cn cc kA kn kc keys kids).get x = kids[i]? by
        rw [HG.out, if_pos rfl]
        exact getK_some _ _ _ _ hi (by rw [Hlc.out]; exact hin) hx fun j hj e => vless_ne (Hord.out i j hj hi) (e.trans hx.symm))
      obtain ⟨b, off, T', rfl, _, hT', h5⟩ := kids_at HC1.out hin
      obtain ⟨k', n', s', cA', cn', cc', kA', kn', kc', keys', kids'⟩ := T'
      obtain ⟨g0, g1, g2, g3, g4⟩ := h5
      have HT := Lib.hid hT'
      have hin' : (i : Int) < cn := by omega
      have hi0 : (0 : Int) ≤ i := by omega
      clear hF hi hx hkk hT'
      go_wp2
      rw [hG.out, HT.out]
      refine bodyPost_ret (v := .tuple #[.agg #[.int .i64 k', .int .i64 n', .string s', .slice cA' cn' cc', .slice kA' kn' kc'], .bool true]) ?_ rfl ⟨rfl, vbelow_set5 Hb2.out hle1⟩
      simp [results, Tryd.results42, go_sem, *]
  · have hN := Lib.hid (show (VT.mk k n s cA cn cc kA kn kc keys kids).get x = none by rw [HG.out, if_neg e])
    have he : (k != 6) = true := by rw [bne_iff_ne]; exact e
    clear hF
    go_wp2
    rw [hN.out]
    refine bodyPost_ret (v := .tuple #[.agg #[.int .i64 0, .int .i64 0, .string ⟨#[]⟩, .slice none 0 0, .slice none 0 0], .bool false]) ?_ rfl ⟨rfl, vbelow_set5 Hb2.out hle1⟩
    simp [results, Tryd.results42, go_sem, *]
end Go.Proofs.YtnldiemggabdkaaDoor
