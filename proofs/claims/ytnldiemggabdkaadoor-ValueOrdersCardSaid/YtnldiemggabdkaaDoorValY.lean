/-
  Layer 4: Object of two pairs.
-/
import Derived.Test.YtnldiemggabdkaaDoorValX
namespace Go.Proofs.YtnldiemggabdkaaDoor
open Go.RowKit
set_option linter.unusedVariables false

def sort2 (p q : PT) : List PT := if vless q.1 p.1 = true then [q, p] else [p, q]
theorem list12 {α : Type} {a0 a1 a2 a3 a4 a5 a6 a7 a8 a9 a10 a11 : α} {i : Nat} {v : α} (h : [a0, a1, a2, a3, a4, a5, a6, a7, a8, a9, a10, a11][i]? = some v) (P : Nat → α → Prop) (h0 : P 0 a0) (h1 : P 1 a1) (h2 : P 2 a2) (h3 : P 3 a3) (h4 : P 4 a4) (h5 : P 5 a5) (h6 : P 6 a6) (h7 : P 7 a7) (h8 : P 8 a8) (h9 : P 9 a9) (h10 : P 10 a10) (h11 : P 11 a11) : P i v := by
  match i, h with
  | 0, h => injection h with h; subst h; exact h0
  | 1, h => injection h with h; subst h; exact h1
  | 2, h => injection h with h; subst h; exact h2
  | 3, h => injection h with h; subst h; exact h3
  | 4, h => injection h with h; subst h; exact h4
  | 5, h => injection h with h; subst h; exact h5
  | 6, h => injection h with h; subst h; exact h6
  | 7, h => injection h with h; subst h; exact h7
  | 8, h => injection h with h; subst h; exact h8
  | 9, h => injection h with h; subst h; exact h9
  | 10, h => injection h with h; subst h; exact h10
  | 11, h => injection h with h; subst h; exact h11
  | i + 12, h => cases h
theorem VTwelve.shows {w : World} {g c : Nat} {x y : ByteArray} {ak an : Int} {a3 : ByteArray} {acA : Option Addr} {acn acc : Nat} {akA : Option Addr} {akn akc : Nat} {ka : List ByteArray} {da : List VT} {bk bn : Int} {b3 : ByteArray} {bcA : Option Addr} {bcn bcc : Nat} {bkA : Option Addr} {bkn bkc : Nat} {kb : List ByteArray} {db : List VT}
    (h : VTwelve w g (.string x) (.int .i64 ak) (.int .i64 an) (.string a3) (.slice acA acn acc) (.slice akA akn akc) (.string y) (.int .i64 bk) (.int .i64 bn) (.string b3) (.slice bcA bcn bcc) (.slice bkA bkn bkc)) :
    Shows w w.heap.size 6 (some ⟨g, 0, none⟩) 2 ([(x, VT.mk ak an a3 acA acn acc akA akn akc ka da), (y, VT.mk bk bn b3 bcA bcn bcc bkA bkn bkc kb db)].flatMap pCells) := by
  obtain ⟨⟨r0, r1, r2, r3, r4, r5, r6, r7, r8, r9, r10, r11⟩, -⟩ := h
  refine ⟨rfl, fun _ => ⟨g, 0, rfl, World.block_lt_of_cell? w _ r0, fun i v hv => ?_⟩⟩
  rw [Nat.zero_add]
  exact list12 (P := fun i v => w.cell? ⟨g, i, none⟩ = some v) hv r0 r1 r2 r3 r4 r5 r6 r7 r8 r9 r10 r11
theorem sorts_two (p q : PT) : ∀ A c W base, World.ownsRow W base 48 6 (.slice A 2 c) 2 ([p, q].flatMap pCells) → base ≤ W.heap.size → Calls Tryd.prog 48 #[.slice A 2 c, .func (.func 49) #[] #[]] W fun e w' => e = .returned (.tuple #[]) ∧ Below base W w' ∧ Hid (Shows w' w'.heap.size 6 A 2 ((sort2 p q).flatMap pCells)) := by
  intro A c W base hown hbase
  obtain ⟨x, T⟩ := p
  obtain ⟨y, U⟩ := q
  obtain ⟨ak, an, a3, acA, acn, acc, akA, akn, akc, ka, da⟩ := T
  obtain ⟨bk, bn, b3, bcA, bcn, bcc, bkA, bkn, bkc, kb, db⟩ := U
  obtain ⟨g, cap, e, -, -⟩ := hown.form (by decide)
  injection e with e1 _ e3
  subst e1 e3
  have hg := (hown.lt g rfl).1
  have hc := fun j hj => hown.cellAt j hj
  have h12 : VTwelve W g (.string x) (.int .i64 ak) (.int .i64 an) (.string a3) (.slice acA acn acc) (.slice akA akn akc) (.string y) (.int .i64 bk) (.int .i64 bn) (.string b3) (.slice bcA bcn bcc) (.slice bkA bkn bkc) :=
    ⟨⟨hc 0 (by decide), hc 1 (by decide), hc 2 (by decide), hc 3 (by decide), hc 4 (by decide), hc 5 (by decide), hc 6 (by decide), hc 7 (by decide), hc 8 (by decide), hc 9 (by decide), hc 10 (by decide), hc 11 (by decide)⟩, fun i => hown.frozenAt i⟩
  refine (sortFunc2 g c x ak an a3 acA acn acc akA akn akc y bk bn b3 bcA bcn bcc bkA bkn bkc W h12).mono ?_
  rintro e w' ⟨rfl, hb, h⟩
  refine ⟨rfl, hb.mono (by omega), Lib.hid ?_⟩
  unfold sort2
  by_cases hv : vless y x = true
  · rw [if_pos hv]; exact (h.out.1 hv).shows (c := c)
  · rw [if_neg hv]; exact (h.out.2 (by simpa using hv)).shows (c := c)
/-- What Object tells of n pairs, in the order that sorting leaves. -/
def ObjR (n : Nat) (L' : List PT) (w w' : World) (e : Ending) : Prop := Below w.heap.size w w' ∧
      (((∃ j, j < n ∧ dupJ L' j = true) ∧ e = .returned (.tuple #[zV, .int .i64 141])) ∨
       ((∀ j, j < n → dupJ L' j = false) ∧ ∃ kA kc cA cc, Lie w' w'.heap.size (.mk 6 0 ⟨#[]⟩ cA n cc kA n kc (L'.map Prod.fst) (L'.map Prod.snd)) ∧
        e = .returned (.tuple #[if VT.ok (.mk 6 0 ⟨#[]⟩ cA n cc kA n kc (L'.map Prod.fst) (L'.map Prod.snd)) = true then VT.agg (.mk 6 0 ⟨#[]⟩ cA n cc kA n kc (L'.map Prod.fst) (L'.map Prod.snd)) else zV, .int .i64 (if VT.ok (.mk 6 0 ⟨#[]⟩ cA n cc kA n kc (L'.map Prod.fst) (L'.map Prod.snd)) = true then 0 else 140)])))
theorem object_two (p q : PT) (g B : Nat) (w : World) (h : Shows w B 6 (some ⟨g, 0, none⟩) 2 ([p, q].flatMap pCells)) (hB : B ≤ w.heap.size) (hp : Lie w B p.2 ∧ p.1.size ≤ maxLen) (hq : Lie w B q.2 ∧ q.1.size ≤ maxLen) (htab : UTab w) (hst : STab w) :
    Calls Tryd.prog 30 #[.slice (some ⟨g, 0, none⟩) 2 2] w fun e w' => ObjR 2 (sort2 p q) w w' e :=
  object_any _ 2 2 [p, q] (sort2 p q) B w h (fun h => by cases h) hB (by decide) (by unfold sort2; split <;> rfl) (by unfold sort2; intro x hx; split at hx <;> simp at hx <;> rcases hx with rfl | rfl <;> assumption) htab hst (sorts_two p q)
theorem strB_nil (k : Int) : strB k ⟨#[]⟩ = true := by unfold strB strQ; rw [ByteArray.toList_eq]; rfl
theorem pts_cps (cps : List Nat) (l : List UInt8) (h : allCp cps) (hl : l = textL cps) : ptsL l = (cps, l.length) := by
  have := pts_text cps [] h
  rw [pts_zero (l := []) rfl, List.append_nil, List.append_nil, Nat.add_zero] at this
  rw [hl, this]
theorem validS_of (cps : List Nat) (s : ByteArray) (h : allCp cps) (hl : s.data.toList = textL cps) : validS s = true := by
  unfold validS
  rw [pts_cps cps _ h hl]
  exact decide_eq_true rfl
theorem valid_a : validS ⟨#[97]⟩ = true := validS_of [97] _ (by intro c hc; simp at hc; subst hc; decide) (by decide)
theorem valid_b : validS ⟨#[98]⟩ = true := validS_of [98] _ (by intro c hc; simp at hc; subst hc; decide) (by decide)
theorem valid_e : validS ⟨#[195, 169]⟩ = true := validS_of [233] _ (by intro c hc; simp at hc; subst hc; decide) (by decide)
/-- The two objects of wakes. -/
theorem object_ab (g B : Nat) (w : World) (h : Shows w B 6 (some ⟨g, 0, none⟩) 2 ([((⟨#[98]⟩ : ByteArray), scV 3 1 ⟨#[]⟩), ((⟨#[97]⟩ : ByteArray), scV 1 0 ⟨#[]⟩)].flatMap pCells)) (hB : B ≤ w.heap.size) (htab : UTab w) (hst : STab w) :
    Calls Tryd.prog 30 #[.slice (some ⟨g, 0, none⟩) 2 2] w fun e w' => Below w.heap.size w w' ∧ ∃ kA kc cA cc, Lie w' w'.heap.size (.mk 6 0 ⟨#[]⟩ cA 2 cc kA 2 kc [⟨#[97]⟩, ⟨#[98]⟩] [scV 1 0 ⟨#[]⟩, scV 3 1 ⟨#[]⟩]) ∧ (VT.mk 6 0 ⟨#[]⟩ cA 2 cc kA 2 kc [⟨#[97]⟩, ⟨#[98]⟩] [scV 1 0 ⟨#[]⟩, scV 3 1 ⟨#[]⟩]).ok = true ∧ e = .returned (.tuple #[.agg #[.int .i64 6, .int .i64 0, .string ⟨#[]⟩, .slice cA 2 cc, .slice kA 2 kc], .int .i64 0]) := by
  refine (object_two _ _ g B w h hB ⟨lie_sc 3 1 _ _ _ (by decide) (by decide) (by decide), by decide⟩ ⟨lie_sc 1 0 _ _ _ (by decide) (by decide) (by decide), by decide⟩ htab hst).mono ?_
  rintro e w' ⟨hb, h⟩
  refine ⟨hb, ?_⟩
  have hs : sort2 ((⟨#[98]⟩ : ByteArray), scV 3 1 ⟨#[]⟩) ((⟨#[97]⟩ : ByteArray), scV 1 0 ⟨#[]⟩) = [((⟨#[97]⟩ : ByteArray), scV 1 0 ⟨#[]⟩), ((⟨#[98]⟩ : ByteArray), scV 3 1 ⟨#[]⟩)] := by unfold sort2; rw [if_pos (by show vless ⟨#[97]⟩ ⟨#[98]⟩ = true; unfold vless; rw [ByteArray.toList_eq, ByteArray.toList_eq]; decide)]
  rw [hs] at h
  rcases h with ⟨⟨j, hj, hd⟩, -⟩ | ⟨-, kA, kc, cA, cc, hL, rfl⟩
  · exfalso
    rcases (show j = 0 ∨ j = 1 by omega) with rfl | rfl
    · cases hd
    · revert hd; show dupJ _ 1 = true → False; unfold dupJ; rw [ByteArray.toList_eq, ByteArray.toList_eq]; decide
  · have hok : (VT.mk 6 0 ⟨#[]⟩ cA 2 cc kA 2 kc [⟨#[97]⟩, ⟨#[98]⟩] [scV 1 0 ⟨#[]⟩, scV 3 1 ⟨#[]⟩]).ok = true := by
      have e0 : ∀ k n : Int, (scV k n ⟨#[]⟩).cnt = 1 := fun k n => by unfold scV; rw [cnt_mk]; rfl
      have d0 : ∀ k n : Int, (scV k n ⟨#[]⟩).dep = hN (k == 5 || k == 6) := fun k n => by unfold scV; rw [dep_mk]; rfl
      have a0 : ∀ k n : Int, (scV k n ⟨#[]⟩).all = (scV k n ⟨#[]⟩).fit := fun k n => by unfold scV; rw [all_mk]; simp
      have f1 : (scV 1 0 ⟨#[]⟩).fit = true := by unfold scV; rw [fit_mk, strB_nil]; decide
      have f3 : (scV 3 1 ⟨#[]⟩).fit = true := by unfold scV; rw [fit_mk, strB_nil]; decide
      have f6 : (VT.mk 6 0 ⟨#[]⟩ cA 2 cc kA 2 kc [⟨#[97]⟩, ⟨#[98]⟩] [scV 1 0 ⟨#[]⟩, scV 3 1 ⟨#[]⟩]).fit = true := by
        rw [fit_mk]
        simp only [Bool.and_eq_true]
        refine ⟨by decide, by decide, strB_nil _, by decide, ?_⟩
        unfold memB memQ
        rw [if_pos (by decide), Bool.and_eq_true]
        refine ⟨by decide, (keysB_iff _).2 fun i hi => ?_⟩
        have va : validS ⟨#[97]⟩ = true := valid_a
        have vb : validS ⟨#[98]⟩ = true := valid_b
        rcases (show i = 0 ∨ i = 1 by simp at hi; omega) with rfl | rfl
        · unfold keyOK; simp [va]
        · unfold keyOK; simp [vb]; decide
      unfold VT.ok
      rw [dep_mk, cnt_mk, all_mk, f6]
      simp [e0, d0, a0, f1, f3, maxL, hN]
    exact ⟨kA, kc, cA, cc, hL, hok, by
      have hok' : VT.ok (.mk 6 0 ⟨#[]⟩ cA 2 cc kA 2 kc ([((⟨#[97]⟩ : ByteArray), scV 1 0 ⟨#[]⟩), ((⟨#[98]⟩ : ByteArray), scV 3 1 ⟨#[]⟩)].map Prod.fst) ([((⟨#[97]⟩ : ByteArray), scV 1 0 ⟨#[]⟩), ((⟨#[98]⟩ : ByteArray), scV 3 1 ⟨#[]⟩)].map Prod.snd)) = true := hok
      rw [if_pos hok', if_pos hok']; rfl⟩
theorem object_aa (g B : Nat) (w : World) (h : Shows w B 6 (some ⟨g, 0, none⟩) 2 ([((⟨#[97]⟩ : ByteArray), scV 3 1 ⟨#[]⟩), ((⟨#[97]⟩ : ByteArray), scV 3 2 ⟨#[]⟩)].flatMap pCells)) (hB : B ≤ w.heap.size) (htab : UTab w) (hst : STab w) :
    Calls Tryd.prog 30 #[.slice (some ⟨g, 0, none⟩) 2 2] w fun e w' => Below w.heap.size w w' ∧ e = .returned (.tuple #[.agg #[.int .i64 0, .int .i64 0, .string ⟨#[]⟩, .slice none 0 0, .slice none 0 0], .int .i64 141]) := by
  refine (object_two _ _ g B w h hB ⟨lie_sc 3 1 _ _ _ (by decide) (by decide) (by decide), by decide⟩ ⟨lie_sc 3 2 _ _ _ (by decide) (by decide) (by decide), by decide⟩ htab hst).mono ?_
  rintro e w' ⟨hb, h⟩
  refine ⟨hb, ?_⟩
  have hs : sort2 ((⟨#[97]⟩ : ByteArray), scV 3 1 ⟨#[]⟩) ((⟨#[97]⟩ : ByteArray), scV 3 2 ⟨#[]⟩) = [((⟨#[97]⟩ : ByteArray), scV 3 1 ⟨#[]⟩), ((⟨#[97]⟩ : ByteArray), scV 3 2 ⟨#[]⟩)] := by unfold sort2; rw [if_neg (by rw [vless_irr]; decide)]
  rw [hs] at h
  rcases h with ⟨-, rfl⟩ | ⟨hd, -⟩
  · rfl
  · exfalso
    have := hd 1 (by decide)
    revert this; unfold dupJ; rw [ByteArray.toList_eq, ByteArray.toList_eq]; decide
end Go.Proofs.YtnldiemggabdkaaDoor
