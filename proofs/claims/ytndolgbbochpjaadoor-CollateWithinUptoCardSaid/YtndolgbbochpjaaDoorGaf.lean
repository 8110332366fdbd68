import Derived.Test.YtndolgbbochpjaaDoorGae
import Derived.Test.YtndolgbbochpjaaDoorGad
import Derived.Deep.RegionHeld3
import Derived.ArgAppend
import Derived.Test.YtndolgbbochpjaaDoorGaa
/-
  Layer 7, plain: the order of values, as trees.
-/
namespace Go.Proofs.YtndolgbbochpjaaDoor
open Go.RowKit
set_option linter.unusedVariables false

/-- One number after another: the first that is not 0. -/
def thenI (a b : Int) : Int := if a = 0 then b else a
def cmpQ (a b : Int) : Int := if a < b then -1 else if b < a then 1 else 0
/-- A comparison of any things: -1, 0 or 1, turned by turning, and transitive. -/
structure Cmp {α : Type} (f : α → α → Int) : Prop where
  turn : ∀ a b, f b a = - f a b
  ones : ∀ a b, f a b = -1 ∨ f a b = 0 ∨ f a b = 1
  tr : ∀ a b c, f a b ≤ 0 → f b c ≤ 0 → f a c ≤ 0 ∧ (f a c = 0 → f a b = 0 ∧ f b c = 0)
theorem Cmp.self {α : Type} {f : α → α → Int} (h : Cmp f) (a : α) : f a a = 0 := by have := h.turn a a; omega
theorem Cmp.eqv {α : Type} {f : α → α → Int} (h : Cmp f) {a b c : α} (h1 : f a b = 0) (h2 : f b c = 0) : f a c = 0 := by
  have h3 := (h.tr a b c (by omega) (by omega)).1
  have h4 := (h.tr c b a (by rw [h.turn b c]; omega) (by rw [h.turn a b]; omega)).1
  have := h.turn a c
  omega
theorem cmpQ_is : Cmp cmpQ := by
  refine ⟨fun a b => ?_, fun a b => ?_, fun a b c => ?_⟩ <;> unfold cmpQ <;> repeat' split <;> omega
theorem cmp_on {α β : Type} {f : β → β → Int} (h : Cmp f) (g : α → β) : Cmp fun a b => f (g a) (g b) := ⟨fun a b => h.turn _ _, fun a b => h.ones _ _, fun a b c => h.tr _ _ _⟩
theorem cmp_zero {α : Type} : Cmp fun (_ _ : α) => 0 := ⟨fun _ _ => rfl, fun _ _ => .inr (.inl rfl), fun _ _ _ _ _ => ⟨by omega, fun _ => ⟨rfl, rfl⟩⟩⟩
theorem cmp_then {α : Type} {f g : α → α → Int} (hf : Cmp f) (hg : Cmp g) : Cmp fun a b => thenI (f a b) (g a b) := by
  refine ⟨fun a b => ?_, fun a b => ?_, fun a b c => ?_⟩
  · unfold thenI
    have h1 := hf.turn a b
    have h2 := hg.turn a b
    repeat' split
    all_goals omega
  · unfold thenI
    have h1 := hf.ones a b
    have h2 := hg.ones a b
    repeat' split
    all_goals omega
  · unfold thenI
    have h1 := hf.tr a b c
    have h2 := hg.tr a b c
    have h3 := hf.tr c a b
    have h4 := hf.turn a b
    have h5 := hf.turn b c
    have h6 := hf.turn a c
    have h7 := @Cmp.eqv _ _ hf a b c
    repeat' split
    all_goals omega
theorem cmpB_is : Cmp vcmp := by
  refine ⟨fun a b => ?_, fun a b => ?_, fun a b c => ?_⟩
  · have t := @vless_tr a b a
    have r := vless_irr a
    unfold vcmp
    generalize vless a b = p at *
    generalize vless b a = q at *
    cases p <;> cases q <;> simp_all
  · unfold vcmp
    repeat' split
    all_goals omega
  · have t1 := @vless_tr a b c
    have t2 := @vless_tr c b a
    have t3 := @vless_tr b a c
    have t4 := @vless_tr a c b
    have t5 := @vless_tr c a b
    have t6 := @vless_tr b c a
    have e1 : vless a b = false → vless b a = false → vless a c = vless b c ∧ vless c a = vless c b := fun h g => by have := vtri _ _ h g; unfold vless; rw [this]; exact ⟨rfl, rfl⟩
    have e2 : vless b c = false → vless c b = false → vless b a = vless c a ∧ vless a b = vless a c := fun h g => by have := vtri _ _ h g; unfold vless; rw [this]; exact ⟨rfl, rfl⟩
    have e3 : vless a c = false → vless c a = false → vless a b = vless c b ∧ vless b a = vless b c := fun h g => by have := vtri _ _ h g; unfold vless; rw [this]; exact ⟨rfl, rfl⟩
    unfold vcmp
    generalize vless a b = ab at *
    generalize vless b a = ba at *
    generalize vless b c = bc at *
    generalize vless c b = cb at *
    generalize vless a c = ac at *
    generalize vless c a = ca at *
    revert t1 t2 t3 t4 t5 t6 e1 e2 e3
    cases ab <;> cases ba <;> cases bc <;> cases cb <;> cases ac <;> cases ca <;> simp
/-- Element by element. -/
def lexL {α : Type} (f : α → α → Int) : List α → List α → Int
  | [], [] => 0
  | [], _ :: _ => -1
  | _ :: _, [] => 1
  | x :: l, y :: m => thenI (f x y) (lexL f l m)
theorem cmp_lex {α : Type} {f : α → α → Int} (hf : Cmp f) : Cmp (lexL f) := by
  have h1 : ∀ a b, lexL f b a = - lexL f a b := by
    intro a
    induction a with
    | nil => intro b; cases b <;> rfl
    | cons x a ih =>
      intro b
      cases b with
      | nil => rfl
      | cons y b =>
        have := ih b
        have := hf.turn x y
        unfold lexL thenI
        repeat' split
        all_goals omega
  have h2 : ∀ a b, lexL f a b = -1 ∨ lexL f a b = 0 ∨ lexL f a b = 1 := by
    intro a
    induction a with
    | nil => intro b; cases b <;> simp [lexL]
    | cons x a ih =>
      intro b
      cases b with
      | nil => simp [lexL]
      | cons y b =>
        have := ih b
        have := hf.ones x y
        unfold lexL thenI
        split <;> omega
  refine ⟨h1, h2, ?_⟩
  intro a
  induction a with
  | nil =>
    intro b c
    cases b <;> cases c <;> simp [lexL]
  | cons x a ih =>
    intro b c
    cases b with
    | nil => simp [lexL]
    | cons y b =>
      cases c with
      | nil => simp [lexL]
      | cons z c =>
        have i := ih b c
        have k1 := hf.tr x y z
        have k2 := hf.tr z x y
        have k4 := hf.turn x y
        have k5 := hf.turn y z
        have k6 := hf.turn x z
        have k7 := @Cmp.eqv _ _ hf x y z
        unfold lexL thenI
        repeat' split
        all_goals omega
/-- Where a value's kind stands. -/
def rankV (T : VT) : Int := if T.k = 2 then 2 + T.n else if 2 < T.k then T.k + 1 else T.k
/-- Keys (none: the empty ones) with the kids. -/
def VT.els (T : VT) : List (ByteArray × VT) := if T.k = 6 then T.keys.zip T.kids else T.kids.map fun x => (⟨#[]⟩, x)
def cmpE (f : VT → VT → Int) (x y : ByteArray × VT) : Int := thenI (vcmp x.1 y.1) (f x.2 y.2)
/-- The order of two values, as deep as a number says. -/
def cmpF : Nat → VT → VT → Int
  | 0, _, _ => 0
  | d + 1, T, U => thenI (cmpQ (rankV T) (rankV U)) (thenI (cmpQ T.n U.n) (thenI (vcmp T.s U.s) (lexL (cmpE (cmpF d)) T.els U.els)))
theorem cmpE_is {f : VT → VT → Int} (h : Cmp f) : Cmp (cmpE f) := cmp_then (cmp_on cmpB_is Prod.fst) (cmp_on h Prod.snd)
theorem cmpF_is : ∀ d, Cmp (cmpF d)
  | 0 => cmp_zero
  | d + 1 => cmp_then (cmp_on cmpQ_is rankV) (cmp_then (cmp_on cmpQ_is VT.n) (cmp_then (cmp_on cmpB_is VT.s) (cmp_on (cmp_lex (cmpE_is (cmpF_is d))) VT.els)))
end Go.Proofs.YtndolgbbochpjaaDoor
/-
  Layer 7, plain: the order is 0 just where two values are the same.
-/
namespace Go.Proofs.YtndolgbbochpjaaDoor
open Go.RowKit
set_option linter.unusedVariables false

theorem bytes_inj {a b : ByteArray} (h : a.toList = b.toList) : a = b := by
  rw [ByteArray.toList_eq, ByteArray.toList_eq] at h
  cases a; cases b
  simpa using h
theorem vcmp_zero {a b : ByteArray} (h : vcmp a b = 0) : a = b := by
  unfold vcmp at h
  by_cases h1 : vless a b = true
  · rw [if_pos h1] at h; cases h
  · by_cases h2 : vless b a = true
    · rw [if_neg h1, if_pos h2] at h; cases h
    · exact bytes_inj (vtri _ _ (Bool.eq_false_iff.2 h1) (Bool.eq_false_iff.2 h2))
theorem thenI_zero {a b : Int} : thenI a b = 0 ↔ a = 0 ∧ b = 0 := by unfold thenI; split <;> simp_all
theorem cmpQ_zero {a b : Int} : cmpQ a b = 0 ↔ a = b := by unfold cmpQ; repeat' split <;> omega
theorem lex_to {f : VT → VT → Int} : ∀ (l m : List (ByteArray × VT)), (∀ p ∈ l, ∀ q ∈ m, f p.2 q.2 = 0 → p.2.e = q.2.e) → lexL (cmpE f) l m = 0 → l.map Prod.fst = m.map Prod.fst ∧ l.map (fun p => p.2.e) = m.map fun p => p.2.e
  | [], [], _, _ => ⟨rfl, rfl⟩
  | [], _ :: _, _, h => by simp [lexL] at h
  | _ :: _, [], _, h => by simp [lexL] at h
  | x :: l, y :: m, hf, h => by
    unfold lexL cmpE at h
    rw [thenI_zero, thenI_zero] at h
    obtain ⟨⟨h1, h2⟩, h3⟩ := h
    obtain ⟨i1, i2⟩ := lex_to l m (fun p hp q hq => hf p (List.mem_cons_of_mem _ hp) q (List.mem_cons_of_mem _ hq)) h3
    simp only [List.map_cons]
    rw [i1, i2, vcmp_zero h1, hf x (List.mem_cons_self ..) y (List.mem_cons_self ..) h2]
    exact ⟨rfl, rfl⟩
theorem lex_of {f : VT → VT → Int} : ∀ (l m : List (ByteArray × VT)), (∀ p ∈ l, ∀ q ∈ m, p.2.e = q.2.e → f p.2 q.2 = 0) → l.map Prod.fst = m.map Prod.fst → l.map (fun p => p.2.e) = m.map (fun p => p.2.e) → lexL (cmpE f) l m = 0
  | [], [], _, _, _ => rfl
  | [], _ :: _, _, h, _ => by simp at h
  | _ :: _, [], _, h, _ => by simp at h
  | x :: l, y :: m, hf, h, g => by
    simp only [List.map_cons, List.cons.injEq] at h g
    unfold lexL cmpE
    rw [thenI_zero, thenI_zero]
    refine ⟨⟨?_, hf x (List.mem_cons_self ..) y (List.mem_cons_self ..) g.1⟩, lex_of l m (fun p hp q hq => hf p (List.mem_cons_of_mem _ hp) q (List.mem_cons_of_mem _ hq)) h.2 g.2⟩
    rw [h.1]
    exact cmpB_is.self _
theorem le_maxL {x : Nat} : ∀ {l : List Nat}, x ∈ l → x ≤ maxL l
  | [], h => by cases h
  | y :: l, h => by
    rw [maxL_cons]
    rcases List.mem_cons.1 h with rfl | h
    · omega
    · have := le_maxL h; omega
theorem dep_kid {T x : VT} (h : (T.k == 5 || T.k == 6) = true) (hx : x ∈ T.kids) : x.dep + 1 ≤ T.dep := by
  obtain ⟨k, n, s, cA, cn, cc, kA, kn, kc, keys, kids⟩ := T
  rw [dep_mk, show (k == 5 || k == 6) = true from h]
  have : x.dep ≤ maxL (kids.map VT.dep) := le_maxL (List.mem_map_of_mem (f := VT.dep) hx)
  simp [hN]
  omega
/-- Right for their kinds: the numbers of the trees that lie, too. -/
def VT.sized (T : VT) : Prop := T.fit = true ∧ (T.k = 6 → T.keys.length = T.kids.length) ∧ (T.k ≠ 6 → T.keys = []) ∧ ((T.k == 5 || T.k == 6) = false → T.kids = [])
inductive VT.Szd : VT → Prop
  | mk {T : VT} (h : T.sized) (hk : ∀ x ∈ T.kids, x.Szd) : T.Szd
theorem lie_szd (B : Nat) (w : World) : ∀ T : VT, Lie w B T → T.all = true → T.Szd := by
  intro T
  induction T using VT.ind with
  | h k n s cA cn cc kA kn kc keys kids ih =>
    intro hL ha
    cases hL with
    | mk hc hk hz hl =>
      have h1 := kids_len hc
      have h2 := keys_len hk
      rw [all_mk] at ha
      simp only [Bool.and_eq_true, List.all_eq_true] at ha
      obtain ⟨hf, hal⟩ := ha
      refine .mk ⟨hf, ?_, ?_, ?_⟩ fun x hx => ih x hx (hl x hx) (hal x hx)
      all_goals (rw [fit_mk] at hf; simp only [Bool.and_eq_true] at hf; obtain ⟨hf1, hf2, hf3, hf4, hf5⟩ := hf; unfold memB memQ shKeys at hf5; unfold eleB eleQ shKids at hf4)
      · intro h6
        rw [show VT.k (.mk k n s cA cn cc kA kn kc keys kids) = k from rfl] at h6
        subst h6
        simp at hf5
        show keys.length = kids.length
        omega
      · intro h6
        rw [show VT.k (.mk k n s cA cn cc kA kn kc keys kids) = k from rfl] at h6
        simp [h6] at hf5
        show keys = []
        exact List.eq_nil_of_length_eq_zero (by omega)
      · intro h6
        rw [show VT.k (.mk k n s cA cn cc kA kn kc keys kids) = k from rfl] at h6
        rw [h6] at hf4
        simp at hf4
        show kids = []
        exact List.eq_nil_of_length_eq_zero (by omega)
theorem els_fst {T : VT} (h : T.sized) : T.els.map Prod.fst = if T.k = 6 then T.keys else T.kids.map fun _ => ⟨#[]⟩ := by
  unfold VT.els
  by_cases h6 : T.k = 6
  · rw [if_pos h6, if_pos h6, List.map_fst_zip (by rw [h.2.1 h6]; exact Nat.le_refl _)]
  · rw [if_neg h6, if_neg h6, List.map_map]; rfl
theorem els_snd {T : VT} (h : T.sized) : T.els.map Prod.snd = T.kids := by
  unfold VT.els
  by_cases h6 : T.k = 6
  · rw [if_pos h6, List.map_snd_zip (by rw [h.2.1 h6]; exact Nat.le_refl _)]
  · rw [if_neg h6, List.map_map]; exact List.map_id _
theorem els_e {T : VT} (h : T.sized) : T.els.map (fun p => p.2.e) = T.kids.map VT.e := by
  rw [← els_snd h, List.map_map]; rfl
theorem e_of (T : VT) : T.e = .mk T.k T.n T.s T.keys (T.kids.map VT.e) := by cases T; exact e_mk ..
theorem fit_kn {T : VT} (h : T.fit = true) : 1 ≤ T.k ∧ T.k ≤ 6 ∧ (T.k = 2 → 0 ≤ T.n ∧ T.n ≤ 1) := by
  obtain ⟨k, n, s, cA, cn, cc, kA, kn, kc, keys, kids⟩ := T
  rw [fit_mk] at h
  simp only [Bool.and_eq_true] at h
  obtain ⟨h1, h2, -⟩ := h
  unfold shKnown at h1
  simp only [Bool.and_eq_true, decide_eq_true_eq] at h1
  refine ⟨h1.1, h1.2, fun hk => ?_⟩
  rw [show VT.k (.mk k n s cA cn cc kA kn kc keys kids) = k from rfl] at hk
  subst hk
  unfold numB numQ shWide shTop at h2
  have h3 : 0 ≤ n ∧ n ≤ 1 := by simpa using h2
  exact h3
theorem rank_kind {T U : VT} (hT : T.fit = true) (hU : U.fit = true) (h : rankV T = rankV U) (hn : T.n = U.n) : T.k = U.k := by
  have h1 := fit_kn hT
  have h2 := fit_kn hU
  unfold rankV at h
  split at h <;> split at h <;> (try split at h) <;> (try split at h) <;> omega
theorem cmpF_to : ∀ (d : Nat) (T U : VT), T.Szd → U.Szd → T.dep ≤ d → cmpF (d + 1) T U = 0 → T.e = U.e := by
  intro d
  induction d with
  | zero =>
    intro T U hT hU hd h
    cases hT with
    | mk hT hTk =>
    cases hU with
    | mk hU hUk =>
    rw [cmpF, thenI_zero, thenI_zero, thenI_zero, cmpQ_zero, cmpQ_zero] at h
    obtain ⟨h1, h2, h3, h4⟩ := h
    have hk := rank_kind hT.1 hU.1 h1 h2
    have hs := vcmp_zero h3
    have h0 : T.kids = [] := by
      refine hT.2.2.2 ?_
      obtain ⟨k, n, s, cA, cn, cc, kA, kn, kc, keys, kids⟩ := T
      rw [dep_mk] at hd
      cases hh : (k == 5 || k == 6) with
      | false => exact hh
      | true => rw [hh] at hd; simp [hN] at hd
    obtain ⟨i1, i2⟩ := lex_to _ _ (fun p hp => by
      have : p.2 ∈ T.els.map Prod.snd := List.mem_map_of_mem hp
      rw [els_snd hT, h0] at this; cases this) h4
    rw [els_fst hT, els_fst hU, hk] at i1
    rw [els_e hT, els_e hU] at i2
    have hkeys : T.keys = U.keys := by
      by_cases h6 : U.k = 6
      · rwa [if_pos h6, if_pos h6] at i1
      · rw [hT.2.2.1 (by rw [hk]; exact h6), hU.2.2.1 h6]
    rw [e_of T, e_of U, hk, h2, hs, hkeys, i2]
  | succ d ih =>
    intro T U hT hU hd h
    cases hT with
    | mk hT hTk =>
    cases hU with
    | mk hU hUk =>
    rw [cmpF, thenI_zero, thenI_zero, thenI_zero, cmpQ_zero, cmpQ_zero] at h
    obtain ⟨h1, h2, h3, h4⟩ := h
    have hk := rank_kind hT.1 hU.1 h1 h2
    have hs := vcmp_zero h3
    obtain ⟨i1, i2⟩ := lex_to _ _ (fun p hp q hq hz => by
      have m1 : p.2 ∈ T.els.map Prod.snd := List.mem_map_of_mem hp
      have m2 : q.2 ∈ U.els.map Prod.snd := List.mem_map_of_mem hq
      rw [els_snd hT] at m1
      rw [els_snd hU] at m2
      refine ih _ _ (hTk _ m1) (hUk _ m2) ?_ hz
      have := dep_kid (by
        cases h5 : (T.k == 5 || T.k == 6) with
        | true => rfl
        | false => rw [hT.2.2.2 h5] at m1; cases m1) m1
      omega) h4
    rw [els_fst hT, els_fst hU, hk] at i1
    rw [els_e hT, els_e hU] at i2
    have hkeys : T.keys = U.keys := by
      by_cases h6 : U.k = 6
      · rwa [if_pos h6, if_pos h6] at i1
      · rw [hT.2.2.1 (by rw [hk]; exact h6), hU.2.2.1 h6]
    rw [e_of T, e_of U, hk, h2, hs, hkeys, i2]
theorem cmpF_of : ∀ (d : Nat) (T U : VT), T.Szd → U.Szd → T.e = U.e → cmpF d T U = 0 := by
  intro d
  induction d with
  | zero => intro T U _ _ _; rfl
  | succ d ih =>
    intro T U hT hU h
    cases hT with
    | mk hT hTk =>
    cases hU with
    | mk hU hUk =>
    rw [e_of T, e_of U] at h
    injection h with h1 h2 h3 h4 h5
    rw [cmpF, thenI_zero, thenI_zero, thenI_zero, cmpQ_zero, cmpQ_zero]
    refine ⟨by unfold rankV; rw [h1, h2], h2, by rw [h3]; exact cmpB_is.self _, lex_of _ _ (fun p hp q hq hz => ?_) ?_ (by rw [els_e hT, els_e hU, h5])⟩
    · have m1 : p.2 ∈ T.els.map Prod.snd := List.mem_map_of_mem hp
      have m2 : q.2 ∈ U.els.map Prod.snd := List.mem_map_of_mem hq
      rw [els_snd hT] at m1
      rw [els_snd hU] at m2
      exact ih _ _ (hTk _ m1) (hUk _ m2) hz
    · rw [els_fst hT, els_fst hU, h1, h4]
      split
      · rfl
      · have : T.kids.length = U.kids.length := by have := congrArg List.length h5; simpa using this
        rw [List.map_const', List.map_const', this]
/-- The order. -/
def cmpV (T U : VT) : Int := cmpF 9 T U
theorem cmpV_is : Cmp cmpV := cmpF_is 9
theorem ok_szd {B : Nat} {w : World} {T : VT} (h : Lie w B T) (hok : T.ok = true) : T.Szd := lie_szd B w T h (by unfold VT.ok at hok; simp only [Bool.and_eq_true] at hok; exact hok.2.2)
theorem cmpV_zero {B B' : Nat} {w w' : World} {T U : VT} (hT : Lie w B T) (hU : Lie w' B' U) (h1 : T.ok = true) (h2 : U.ok = true) : cmpV T U = 0 ↔ T.e = U.e := by
  constructor
  · exact cmpF_to 8 T U (ok_szd hT h1) (ok_szd hU h2) (by have := h1; unfold VT.ok at this; simp only [Bool.and_eq_true, decide_eq_true_eq] at this; exact this.1)
  · exact cmpF_of 9 T U (ok_szd hT h1) (ok_szd hU h2)
end Go.Proofs.YtndolgbbochpjaaDoor
/-
  A region that draws its order, walked by hand, operation by operation: taken first (wanted, or passed over), or carried out; steps that hand on an unnamed world with what it holds. No program in sight.
-/
namespace Go.Proofs.YtndolgbbochpjaaDoor
open Go.RowKit
set_option linter.unusedVariables false

section
variable {P : Program} {l : List Oper} {Q : Exit → Act → World → Prop} {S : World → Prop}

/-- Operation i is wanted, and yields in every world that meets S: it is taken first. -/
theorem rg_in (i : Nat) {oi : Oper} {v : Value} {fuel : Nat} {listed : Array Bool} {a : Act} {w : World} (hi : l[i]? = some oi)
    (hs : Region.noSelect l.toArray = true) (hf : Region.free .any l.toArray listed i = true) (hr : (Region.ready .any l.toArray listed).contains i = true)
    (hw : Region.wanted oi (yielded l.toArray a.tmps) = true) (hQ : ∀ c a w, Q (.panic c) (a.put oi.dst v) w → Q (.panic c) a w) (hS : S w) (hv : ∀ w, S w → (execOp a.eval oi).run P w = .ok (.value v) w)
    (h : wpAnyH P .any l.toArray Q S fuel (listed.setIfInBounds i true) (a.put oi.dst v) w) : wpAnyH P .any l.toArray Q S (fuel + 1) listed a w :=
  wpAnyH_take (by rw [List.getElem?_toArray]; exact hi) hs hf hr hQ (.inl ⟨hw, hv⟩) hS h
/-- Operation i is not wanted: it is passed over. -/
theorem rg_off (i : Nat) {oi : Oper} {fuel : Nat} {listed : Array Bool} {a : Act} {w : World} (hi : l[i]? = some oi)
    (hs : Region.noSelect l.toArray = true) (hf : Region.free .any l.toArray listed i = true) (hr : (Region.ready .any l.toArray listed).contains i = true)
    (hw : Region.wanted oi (yielded l.toArray a.tmps) = false) (hQ : ∀ c a w, Q (.panic c) (a.put oi.dst undef) w → Q (.panic c) a w) (hS : S w)
    (h : wpAnyH P .any l.toArray Q S fuel (listed.setIfInBounds i true) (a.put oi.dst undef) w) : wpAnyH P .any l.toArray Q S (fuel + 1) listed a w :=
  wpAnyH_take (by rw [List.getElem?_toArray]; exact hi) hs hf hr hQ (.inr ⟨hw, rfl⟩) hS h
/-- Operation i alone may come up: it is carried out. -/
theorem rg_do (i : Nat) {oi : Oper} {fuel : Nat} {listed : Array Bool} {a : Act} {w : World} (hi : l[i]? = some oi)
    (hr : Region.ready .any l.toArray listed = [i])
    (hw : Region.wanted oi (yielded l.toArray a.tmps) = true)
    (h : ∀ K' : Act → World → Prop, Shut (∀ a w, S w → (S w → wpAnyH P .any l.toArray Q S fuel (listed.setIfInBounds i true) a w) → K' a w) → Oper.wp P oi a w K' Q) : wpAnyH P .any l.toArray Q S (fuel + 1) listed a w :=
  wpAnyH_ready hr (by simp) (AllReadyH.cons (by rw [List.getElem?_toArray]; exact hi) (fun K hK => by rw [if_pos hw]; exact h K hK) AllReadyH.nil)
/-- One of several that may come up. -/
theorem rg_cons {i : Nat} {oi : Oper} {rs : List Nat} {fuel : Nat} {listed : Array Bool} {a : Act} {w : World} (hi : l[i]? = some oi)
    (hw : Region.wanted oi (yielded l.toArray a.tmps) = true)
    (h : ∀ K' : Act → World → Prop, Shut (∀ a w, S w → (S w → wpAnyH P .any l.toArray Q S fuel (listed.setIfInBounds i true) a w) → K' a w) → Oper.wp P oi a w K' Q)
    (hs : AllReadyH P .any l.toArray Q S fuel listed a w rs) : AllReadyH P .any l.toArray Q S fuel listed a w (i :: rs) :=
  AllReadyH.cons (by rw [List.getElem?_toArray]; exact hi) (fun K hK => by rw [if_pos hw]; exact h K hK) hs
end

section
variable {P : Program} {w w' : World} {o : Oper} {a : Act} {K : Act → World → Prop} {Q : Exit → Act → World → Prop}
theorem blk_later {g : Nat} {x : Obj} (h : w.heap[g]? = some x) (hb : Below w.heap.size w w') : w'.heap[g]? = some x := (hb.block g (Array.getElem?_eq_some_iff.1 h).1).trans h
theorem blk_lt {g : Nat} {x : Obj} (h : w.heap[g]? = some x) : g < w.heap.size := (Array.getElem?_eq_some_iff.1 h).1
theorem blk_other {g : Nat} {x : Obj} {r : Option Nat} (h : w.heap[g]? = some x) (hg : w.grownBy w' r) (hne : some g ≠ r) : w'.heap[g]? = some x := (hg.block g (blk_lt h) hne).trans h
theorem own_later {base : Nat} {e : TypeId} {size n : Nat} {v : Value} {xs : List Value} (h : w.ownsRow base e size v n xs) (hb : Below w.heap.size w w') : w'.ownsRow base e size v n xs :=
  h.kept (row := none) ⟨hb.os, hb.tape, hb.output, hb.size, fun k hk _ => hb.block k hk⟩ (by cases hv : v.ownBlock; exact .inl rfl; exact .inr (by simp))
/-- A row of one element type and a block of another are apart. -/
theorem own_blk_ne {base g : Nat} {e t : TypeId} {size n : Nat} {v : Value} {xs : List Value} {C : Array Value} {fr : Nat × Nat} (h : w.ownsRow base e size v n xs) (hb : w.heap[g]? = some (.cells C t fr)) (hne : t ≠ e) : some g ≠ v.ownBlock := by
  rcases h.2 with ⟨rfl, _⟩ | ⟨k, cap, cur, rfl, _, hk, _⟩
  · simp [Value.ownBlock]
  · intro hg
    simp only [Value.ownBlock, Option.some.injEq] at hg
    subst hg
    rw [hb] at hk
    simp only [Option.some.injEq, Obj.cells.injEq] at hk
    exact hne hk.2.1
/-- '[]T{}'. -/
theorem step_row0 (t e : TypeId) (ho : o.op = .buildSlice t 0 #[]) (base size : Nat) (i : TypeInfo) (ht : P.underlying t = some (.slice e)) (hi : P.info? e = some i) (hbase : base ≤ w.heap.size)
    (h : ∀ g w', w.heap.size ≤ g → w'.ownsRow base e size (.slice (some ⟨g, 0, none⟩) 0 0) 0 [] → Below w.heap.size w w' → K (a.put o.dst (.slice (some ⟨g, 0, none⟩) 0 0)) w') : o.wp P a w K Q := by
  have h0 := h w.heap.size (w.alloc (.cells #[] e)) (Nat.le_refl _) (World.ownsRow_lit w #[] 0 hbase (Nat.zero_le _) (by simp)) ((Below.refl _ _).alloc (Nat.le_refl _) _)
  have hrun : (Instr.buildSlice t 0 #[]).run P w = .ok (.slice (some ⟨w.heap.size, 0, none⟩) 0 0) (w.alloc (.cells #[] e)) := by
    simp only [Instr.buildSlice, sizeOf, typeInfo]
    simp [run_underlying ht, hi, Instr.fill, newRow, Result.andThen]
    rw [Array.eq_empty_of_size_eq_zero (xs := Array.map (fun x => (default : Value)) (Array.range 0)) (by simp)]
  unfold Oper.wp execOp
  simp only [ho, List.map_toArray, List.map_nil, Sem.run_bind, Sem.run_pure, hrun, Result.andThen_ok]
  exact h0
/-- A new variable. -/
theorem step_alloc (t : TypeId) (ho : o.op = .alloc t) (i : TypeInfo) (z : Value) (hi : P.info? t = some i) (hz : i.zero = some z)
    (h : ∀ g w', w.heap.size ≤ g → w'.heap[g]? = some (.cells z.cells t) → Below w.heap.size w w' → K (a.put o.dst (.pointer (some ⟨g, 0, none⟩))) w') : o.wp P a w K Q := by
  have h0 := h w.heap.size (w.alloc (.cells z.cells t)) (Nat.le_refl _) (heap_alloc_new w _) ((Below.refl _ _).alloc (Nat.le_refl _) _)
  have hrun : (Instr.alloc t true (.tuple #[])).run P w = .ok (.pointer (some ⟨w.heap.size, 0, none⟩)) (w.alloc (.cells z.cells t)) := by
    simp only [Instr.alloc, zeroValue, typeInfo, newVar]
    simp [hi, hz, newRow, Result.andThen]
  unfold Oper.wp execOp
  simp only [ho, Sem.run_bind, Sem.run_pure, hrun, Result.andThen_ok]
  exact h0
/-- append onto '[]T{}'. -/
theorem step_app0 (s x : Operand) (t : TypeId) (ho : o.op = .call { callee := .builtin .append, args := #[s, x], argTypes := #[t, t] })
    (base : Nat) (e : TypeId) (i : TypeInfo) (z : Value) (size bytes : Nat) (ht : P.underlying t = some (.slice e)) (hi : P.info? e = some i) (hz : i.zero = some z)
    (hsize : i.size = size) (hby : i.bytes = bytes) (hzs : z.cells.size = size) (hsz : 0 < size)
    (g : Nat) (hs : a.eval s = .slice (some ⟨g, 0, none⟩) 0 0) (hown : w.ownsRow base e size (.slice (some ⟨g, 0, none⟩) 0 0) 0 [])
    (B : Nat) (A : Option Addr) (m c : Nat) (news : List Value) (hx : a.eval x = .slice A m c) (hr : Shows w B size A m news) (h1 : ∀ u ∈ news, u.oneCell' = true)
    (h63 : m ≤ maxLen) (hbytes : m * bytes ≤ 140737488355328) (hbase : base ≤ w.heap.size)
    (h : ∀ A' c' w', w'.ownsRow base e size (.slice A' m c') m news → Below w.heap.size w w' → K (a.put o.dst (.slice A' m c')) w') : o.wp P a w K Q := by
  rcases Nat.eq_zero_or_pos m with rfl | hm
  · obtain rfl : news = [] := List.eq_nil_of_length_eq_zero (by simpa using hr.1)
    have hrun : (Builtin.append_ #[t, t] o.type #[.slice (some ⟨g, 0, none⟩) 0 0, .slice A 0 c]).run P w = .ok (.slice (some ⟨g, 0, none⟩) 0 0) w := by
      cases A <;> simp [Builtin.append_, run_underlying ht, sizeOf, typeInfo, hi, Builtin.lenOf, Builtin.firstCells, loadCells, loadCellsFrom, storeCells, Result.andThen]
    unfold Oper.wp execOp
    simp only [ho, resolve, invoke, builtin, Sem.run_bind, Sem.run_pure, Result.andThen_ok, List.map_toArray, List.map_cons, List.map_nil, hs, hx, hrun]
    exact h _ _ w hown (Below.refl _ _)
  · obtain ⟨b, off, rfl, hb, hc⟩ := hr.2 hm
    obtain ⟨v', w', hrun, r1, r2⟩ := run_append_arg_grows (P := P) w t o.type e i z size bytes ht hi hz hsize hby hzs hsz ⟨g, 0, none⟩ 0 0 [] (by simp) (by simp) ⟨b, off, none⟩ m c news hr.1 (fun j u hu => by rw [addr_add]; exact hc j u hu) (by omega) (by omega) (by simpa using hbytes)
    unfold Oper.wp
    simp [execOp, ho, resolve, invoke, builtin, hs, hx, hrun, Result.andThen]
    have r1' : w'.ownsRow base e size v' m news := by
      simpa using own_base r1 hbase
    obtain ⟨A', c', rfl, _, _⟩ := own_form r1'
    exact h A' c' w' r1' ⟨r2.os, r2.tape, r2.output, r2.size, fun k hk => r2.block k hk (by simp)⟩
end
end Go.Proofs.YtndolgbbochpjaaDoor
/-
  Layer 4: List.
-/
namespace Go.Proofs.YtndolgbbochpjaaDoor
open Go.RowKit
set_option linter.unusedVariables false

def chkT (T : VT) : VT := if T.ok = true then T else scV 0 0 ⟨#[]⟩
def chkE (T : VT) : Int := if T.ok = true then 0 else 140
theorem chkR_T (T : VT) : chkR T = .tuple #[(chkT T).agg, .int .i64 (chkE T)] := by unfold chkR chkT chkE; split <;> rfl
theorem chkT_ok {T : VT} (h : T.ok = true) : chkT T = T := by unfold chkT; rw [if_pos h]
theorem chkE_ok {T : VT} (h : T.ok = true) : chkE T = 0 := by unfold chkE; rw [if_pos h]
theorem chkE_no {T : VT} (h : T.ok = false) : chkE T = 140 := by unfold chkE; rw [h]; rfl
theorem chkT_no {T : VT} (h : T.ok = false) : chkT T = scV 0 0 ⟨#[]⟩ := by unfold chkT; rw [h]; rfl
/-- A list of these. -/
abbrev lsV (A : Option Addr) (n c : Nat) (l : List VT) : VT := .mk 5 0 ⟨#[]⟩ A n c none 0 0 [] l
theorem lie_ls {W : World} {b n c : Nat} {A : Option Addr} {l : List VT} (ho : W.ownsRow b 25 5 (.slice A n c) n (l.flatMap VT.cells)) (hl : ∀ x ∈ l, Lie W W.heap.size x) : Lie W W.heap.size (lsV A n c l) := by
  have hf := own_form ho
  obtain ⟨A', c', e, h1, h2⟩ := hf
  injection e with e1 e2 e3
  subst e1; subst e3
  refine .mk (Shows.own ho) (Shows.zero none) ⟨by decide, by decide, by decide, h1, h2, ?_, Nat.le_refl _, by decide, fun _ => rfl, by simp⟩ hl
  intro hA
  rcases ho.2 with ⟨e, _⟩ | ⟨g, cap, cur, e, _⟩
  · injection e
  · injection e with e1; rw [hA] at e1; cases e1
end Go.Proofs.YtndolgbbochpjaaDoor
/-
  Layer 7, plain: what the order of two values is within rows and objects that are the same but for them; the order does not ask how deep it may go.
-/
namespace Go.Proofs.YtndolgbbochpjaaDoor
open Go.RowKit
set_option linter.unusedVariables false

theorem lexW_like {α : Type} {f g : α → α → Int} : ∀ (l m : List α), (∀ x ∈ l, ∀ y ∈ m, f x y = g x y) → lexL f l m = lexL g l m
  | [], [], _ => rfl
  | [], _ :: _, _ => rfl
  | _ :: _, [], _ => rfl
  | x :: l, y :: m, h => by
    unfold lexL
    rw [h x (List.mem_cons_self ..) y (List.mem_cons_self ..), lexW_like l m fun a ha b hb => h a (List.mem_cons_of_mem _ ha) b (List.mem_cons_of_mem _ hb)]
/-- The order of two values does not ask how deep it may go, once it may go as deep as the first of them is. -/
theorem cmpW_up : ∀ (d : Nat) (T U : VT), T.Szd → U.Szd → T.dep ≤ d → cmpF (d + 2) T U = cmpF (d + 1) T U := by
  intro d
  induction d with
  | zero =>
    intro T U hT hU hd
    cases hT with
    | mk hT hTk =>
    cases hU with
    | mk hU hUk =>
    have h0 : T.kids = [] := by
      refine hT.2.2.2 ?_
      obtain ⟨k, n, s, cA, cn, cc, kA, kn, kc, keys, kids⟩ := T
      rw [dep_mk] at hd
      cases hh : (k == 5 || k == 6) with
      | false => exact hh
      | true => rw [hh] at hd; simp [hN] at hd
    rw [cmpF, cmpF]
    rw [lexW_like _ _ (fun p hp => by
      have : p.2 ∈ T.els.map Prod.snd := List.mem_map_of_mem hp
      rw [els_snd hT, h0] at this; cases this)]
  | succ d ih =>
    intro T U hT hU hd
    cases hT with
    | mk hT hTk =>
    cases hU with
    | mk hU hUk =>
    have he : lexL (cmpE (cmpF (d + 2))) T.els U.els = lexL (cmpE (cmpF (d + 1))) T.els U.els := lexW_like _ _ (fun p hp q hq => by
      have m1 : p.2 ∈ T.els.map Prod.snd := List.mem_map_of_mem hp
      have m2 : q.2 ∈ U.els.map Prod.snd := List.mem_map_of_mem hq
      rw [els_snd hT] at m1
      rw [els_snd hU] at m2
      have hk : p.2.dep ≤ d := by
        have := dep_kid (by
          cases h5 : (T.k == 5 || T.k == 6) with
          | true => rfl
          | false => rw [hT.2.2.2 h5] at m1; cases m1) m1
        omega
      unfold cmpE
      rw [ih _ _ (hTk _ m1) (hUk _ m2) hk])
    show thenI _ (thenI _ (thenI _ (lexL (cmpE (cmpF (d + 2))) T.els U.els))) = thenI _ (thenI _ (thenI _ (lexL (cmpE (cmpF (d + 1))) T.els U.els)))
    rw [he]
theorem lexW_front {α : Type} {f : α → α → Int} (hf : Cmp f) (a b : List α) : ∀ l : List α, lexL f (l ++ a) (l ++ b) = lexL f a b
  | [] => rfl
  | x :: l => by
    show thenI (f x x) (lexL f (l ++ a) (l ++ b)) = _
    rw [hf.self, lexW_front hf a b l]; rfl
theorem lexW_two {α : Type} {f : α → α → Int} (hf : Cmp f) (a b z : α) : lexL f [a, z] [b, z] = f a b := by
  show thenI (f a b) (thenI (f z z) 0) = _
  rw [hf.self]
  unfold thenI
  split <;> simp_all
/-- Two rows that are the same but for one value. -/
theorem cmpW_row {d : Nat} {A A' : Option Addr} {n c n' c' : Nat} {l : List VT} {a b z : VT} : cmpF (d + 1) (lsV A n c (l ++ [a, z])) (lsV A' n' c' (l ++ [b, z])) = cmpF d a b := by
  have he : ∀ (A : Option Addr) (n c : Nat) (m : List VT), (lsV A n c m).els = m.map fun x => ((⟨#[]⟩ : ByteArray), x) := fun A n c m => rfl
  rw [cmpF, he, he, List.map_append, List.map_append, lexW_front (cmpE_is (cmpF_is d))]
  have h := lexW_two (cmpE_is (cmpF_is d)) ((⟨#[]⟩ : ByteArray), a) ((⟨#[]⟩ : ByteArray), b) ((⟨#[]⟩ : ByteArray), z)
  rw [show rankV (lsV A n c (l ++ [a, z])) = rankV (lsV A' n' c' (l ++ [b, z])) from rfl, cmpQ_is.self, show VT.n (lsV A n c (l ++ [a, z])) = VT.n (lsV A' n' c' (l ++ [b, z])) from rfl, cmpQ_is.self, show VT.s (lsV A n c (l ++ [a, z])) = VT.s (lsV A' n' c' (l ++ [b, z])) from rfl, cmpB_is.self]
  show lexL _ [((⟨#[]⟩ : ByteArray), a), ((⟨#[]⟩ : ByteArray), z)] [((⟨#[]⟩ : ByteArray), b), ((⟨#[]⟩ : ByteArray), z)] = _
  rw [h]
  unfold cmpE thenI
  rw [cmpB_is.self]; rfl
/-- Two objects that are the same but for the first member's value. -/
theorem cmpW_obj {d : Nat} {A A' K K' : Option Addr} {n c n' c' kn kc kn' kc' : Nat} {p q : ByteArray} {a b z : VT} : cmpF (d + 1) (.mk 6 0 ⟨#[]⟩ A n c K kn kc [p, q] [a, z]) (.mk 6 0 ⟨#[]⟩ A' n' c' K' kn' kc' [p, q] [b, z]) = cmpF d a b := by
  have he : ∀ (A : Option Addr) (n c : Nat) (K : Option Addr) (kn kc : Nat) (x : VT), (VT.mk 6 0 ⟨#[]⟩ A n c K kn kc [p, q] [x, z]).els = [(p, x), (q, z)] := fun A n c K kn kc x => rfl
  rw [cmpF, he, he, lexW_two (cmpE_is (cmpF_is d))]
  show thenI (cmpQ _ _) (thenI (cmpQ _ _) (thenI (vcmp _ _) (cmpE (cmpF d) (p, a) (p, b)))) = _
  rw [show cmpQ (rankV (.mk 6 0 ⟨#[]⟩ A n c K kn kc [p, q] [a, z])) (rankV (.mk 6 0 ⟨#[]⟩ A' n' c' K' kn' kc' [p, q] [b, z])) = 0 from cmpQ_is.self _]
  rw [show cmpQ (VT.n (.mk 6 0 ⟨#[]⟩ A n c K kn kc [p, q] [a, z])) (VT.n (.mk 6 0 ⟨#[]⟩ A' n' c' K' kn' kc' [p, q] [b, z])) = 0 from cmpQ_is.self _]
  rw [show vcmp (VT.s (.mk 6 0 ⟨#[]⟩ A n c K kn kc [p, q] [a, z])) (VT.s (.mk 6 0 ⟨#[]⟩ A' n' c' K' kn' kc' [p, q] [b, z])) = 0 from cmpB_is.self _]
  unfold cmpE thenI
  rw [cmpB_is.self]; rfl
theorem cmpW_down {a b : VT} (ha : a.Szd) (hb : b.Szd) (hd : a.dep ≤ 7) : cmpF 8 a b = cmpV a b := (cmpW_up 7 a b ha hb hd).symm
theorem dep_inW {T x : VT} (h : T.ok = true) (h5 : (T.k == 5 || T.k == 6) = true) (hx : x ∈ T.kids) : x.dep ≤ 7 := by
  have := dep_kid h5 hx
  unfold VT.ok at h
  simp only [Bool.and_eq_true, decide_eq_true_eq] at h
  have := h.1
  omega
theorem cmpV_rowW {A A' : Option Addr} {n c n' c' : Nat} {l : List VT} {a b z : VT} (ha : a.Szd) (hb : b.Szd) (h : (lsV A n c (l ++ [a, z])).ok = true) : cmpV (lsV A n c (l ++ [a, z])) (lsV A' n' c' (l ++ [b, z])) = cmpV a b := by
  show cmpF 9 _ _ = _
  rw [cmpW_row, cmpW_down ha hb (dep_inW h rfl (by show a ∈ l ++ [a, z]; simp))]
theorem cmpV_objW {A A' K K' : Option Addr} {n c n' c' kn kc kn' kc' : Nat} {p q : ByteArray} {a b z : VT} (ha : a.Szd) (hb : b.Szd) (h : (VT.mk 6 0 ⟨#[]⟩ A n c K kn kc [p, q] [a, z]).ok = true) : cmpV (.mk 6 0 ⟨#[]⟩ A n c K kn kc [p, q] [a, z]) (.mk 6 0 ⟨#[]⟩ A' n' c' K' kn' kc' [p, q] [b, z]) = cmpV a b := by
  show cmpF 9 _ _ = _
  rw [cmpW_obj, cmpW_down ha hb (dep_inW h rfl (by show a ∈ [a, z]; simp))]
end Go.Proofs.YtndolgbbochpjaaDoor
/-
  Layer 7, plain: the elements of a value one after another.
-/
namespace Go.Proofs.YtndolgbbochpjaaDoor
open Go.RowKit
set_option linter.unusedVariables false

theorem els_len {T : VT} (h : T.sized) : T.els.length = T.kids.length := by have := congrArg List.length (els_snd h); simpa using this
theorem els_at {T : VT} (h : T.sized) {i : Nat} {x : VT} (hx : T.kids[i]? = some x) : T.els[i]? = some (if T.k = 6 then T.keys.getD i ⟨#[]⟩ else ⟨#[]⟩, x) := by
  unfold VT.els
  by_cases h6 : T.k = 6
  · rw [if_pos h6, if_pos h6]
    have hi : i < T.keys.length := by rw [h.2.1 h6]; exact (List.getElem?_eq_some_iff.1 hx).1
    rw [List.getElem?_zip_eq_some]
    exact ⟨by rw [List.getD_eq_getElem?_getD, List.getElem?_eq_getElem hi]; rfl, hx⟩
  · rw [if_neg h6, if_neg h6, List.getElem?_map, hx]; rfl
theorem lex_step {α : Type} {f : α → α → Int} {l m : List α} {i : Nat} {x y : α} (hl : l[i]? = some x) (hm : m[i]? = some y) : lexL f (l.drop i) (m.drop i) = thenI (f x y) (lexL f (l.drop (i + 1)) (m.drop (i + 1))) := by
  obtain ⟨h1, rfl⟩ := List.getElem?_eq_some_iff.1 hl
  obtain ⟨h2, rfl⟩ := List.getElem?_eq_some_iff.1 hm
  rw [List.drop_eq_getElem_cons h1, List.drop_eq_getElem_cons h2, lexL]
theorem lex_end {α : Type} {f : α → α → Int} {l m : List α} {i : Nat} (h1 : i ≤ l.length) (h2 : i ≤ m.length) (h3 : i = l.length ∨ i = m.length) : lexL f (l.drop i) (m.drop i) = cmpQ l.length m.length := by
  have a1 : (l.drop i).length = l.length - i := List.length_drop
  have a2 : (m.drop i).length = m.length - i := List.length_drop
  generalize l.drop i = a at *
  generalize m.drop i = b at *
  unfold cmpQ
  cases a with
  | nil =>
    cases b with
    | nil => simp at a1 a2; rw [if_neg (by omega), if_neg (by omega)]; rfl
    | cons y b => simp at a1 a2; rw [if_pos (by omega)]; rfl
  | cons x a =>
    cases b with
    | nil => simp at a1 a2; rw [if_neg (by omega), if_pos (by omega)]; rfl
    | cons y b => simp at a1 a2; omega
end Go.Proofs.YtndolgbbochpjaaDoor
/-
  Layer 7: the frame that grows alone; cmp.Compare at whole numbers; rank and shared.
-/
namespace Go.Proofs.YtndolgbbochpjaaDoor
open Go.RowKit
set_option linter.unusedVariables false

/-- Nothing that lay has changed, and no draw is taken back. -/
def Fr (w w' : World) : Prop := Below w.heap.size w w' ∧ w.drawn ≤ w'.drawn
theorem Fr.refl (w : World) : Fr w w := ⟨Below.refl _ _, Nat.le_refl _⟩
theorem Fr.next {a b c : World} (h : Fr a b) (k : Fr b c) : Fr a c := ⟨bel_next h.1 k.1, Nat.le_trans h.2 k.2⟩
theorem Fr.alloc {a b : World} (h : Fr a b) (o : Obj) : Fr a (b.alloc o) := ⟨bel_alloc h.1 o, h.2⟩
theorem Fr.drewN {a b : World} (h : Fr a b) (k : Nat) : Fr a (b.drewN k) := ⟨below_drewN h.1 k, Nat.le_trans h.2 (Nat.le_add_right _ _)⟩
theorem Fr.grow {a b : World} (h : Fr a b) : ∃ q os, b = Go.Sort.grow (a.drewN q) os := by
  obtain ⟨⟨h1, h2, h3, h4, h5⟩, h6⟩ := h
  refine ⟨b.drawn - a.drawn, b.heap.extract a.heap.size b.heap.size, ?_⟩
  obtain ⟨bh, bt, bd, bo, bp⟩ := b
  simp only at *
  subst h1 h2 h3
  have e1 : a.drawn + (bd - a.drawn) = bd := by omega
  have e2 : a.heap ++ bh.extract a.heap.size bh.size = bh := by
    apply Array.ext_getElem?
    intro i
    by_cases hi : i < a.heap.size
    · rw [Array.getElem?_append_left hi]; exact (h5 i hi).symm
    · rw [Array.getElem?_append_right (by omega), Array.getElem?_extract]
      simp only [show a.heap.size + (i - a.heap.size) = i by omega]
      by_cases h : i < bh.size
      · rw [if_pos (by omega)]
      · rw [if_neg (by omega), Array.getElem?_eq_none (by omega)]
  unfold Go.Sort.grow World.drewN
  simp only [e1, e2]

set_option maxRecDepth 20000 in
theorem nanI_any (a : Int) (w : World) : Calls Tryd.prog 66 #[.int .i64 a] w fun e w' => e = .returned (.bool false) ∧ w' = w := by
  have hs : (a != a) = false := by simp
  go_enter Tryd.func66, Tryd.ntmps66
  go_wp2
  go_ret
  exact ⟨rfl, rfl⟩
set_option maxRecDepth 20000 in
theorem nanJ_any (a : Int) (w : World) : Calls Tryd.prog 67 #[.int .i64 a] w fun e w' => e = .returned (.bool false) ∧ w' = w := by
  have hs : (a != a) = false := by simp
  go_enter Tryd.func67, Tryd.ntmps67
  go_wp2
  go_ret
  exact ⟨rfl, rfl⟩
set_option maxRecDepth 20000 in
theorem cmpI_any (a b : Int) (w : World) : Calls Tryd.prog 55 #[.int .i64 a, .int .i64 b] w fun e w' => e = .returned (.int .i64 (cmpQ a b)) ∧ w' = w := by
  rcases (show a < b ∨ b < a ∨ a = b by omega) with h | h | h
  · rw [show cmpQ a b = -1 from if_pos h]
    go_enter Tryd.func55, Tryd.ntmps55
    go_wp2_with (go_at_call 66; refine (nanI_any _ _).mono ?_; rintro e w' ⟨rfl, rfl⟩)
    go_ret
    exact ⟨rfl, rfl⟩
  · have h' : ¬ a < b := by omega
    rw [show cmpQ a b = 1 by unfold cmpQ; rw [if_neg h', if_pos h]]
    go_enter Tryd.func55, Tryd.ntmps55
    go_wp2_with (go_at_call 66; refine (nanI_any _ _).mono ?_; rintro e w' ⟨rfl, rfl⟩)
    go_ret
    exact ⟨rfl, rfl⟩
  · subst h
    have h' : ¬ a < a := by omega
    rw [show cmpQ a a = 0 by unfold cmpQ; rw [if_neg h', if_neg h']]
    go_enter Tryd.func55, Tryd.ntmps55
    go_wp2_with (go_at_call 66; refine (nanI_any _ _).mono ?_; rintro e w' ⟨rfl, rfl⟩)
    go_ret
    exact ⟨rfl, rfl⟩
set_option maxRecDepth 20000 in
theorem cmpJ_any (a b : Int) (w : World) : Calls Tryd.prog 57 #[.int .i64 a, .int .i64 b] w fun e w' => e = .returned (.int .i64 (cmpQ a b)) ∧ w' = w := by
  rcases (show a < b ∨ b < a ∨ a = b by omega) with h | h | h
  · rw [show cmpQ a b = -1 from if_pos h]
    go_enter Tryd.func57, Tryd.ntmps57
    go_wp2_with (go_at_call 67; refine (nanJ_any _ _).mono ?_; rintro e w' ⟨rfl, rfl⟩)
    go_ret
    exact ⟨rfl, rfl⟩
  · have h' : ¬ a < b := by omega
    rw [show cmpQ a b = 1 by unfold cmpQ; rw [if_neg h', if_pos h]]
    go_enter Tryd.func57, Tryd.ntmps57
    go_wp2_with (go_at_call 67; refine (nanJ_any _ _).mono ?_; rintro e w' ⟨rfl, rfl⟩)
    go_ret
    exact ⟨rfl, rfl⟩
  · subst h
    have h' : ¬ a < a := by omega
    rw [show cmpQ a a = 0 by unfold cmpQ; rw [if_neg h', if_neg h']]
    go_enter Tryd.func57, Tryd.ntmps57
    go_wp2_with (go_at_call 67; refine (nanJ_any _ _).mono ?_; rintro e w' ⟨rfl, rfl⟩)
    go_ret
    exact ⟨rfl, rfl⟩

/-- The ranks. -/
def rtab : List Value := [.int .i64 0, .int .i64 1, .int .i64 2, .int .i64 4, .int .i64 5, .int .i64 6, .int .i64 7]
def RTab (w : World) : Prop := w.rangeAt 0 0 rtab
theorem RTab.lt {w : World} (h : RTab w) : 0 < w.heap.size := World.block_lt_of_cell? w _ (h 0 _ rfl)
theorem RTab.below {w w' : World} {B : Nat} (h : RTab w) (hb : Below B w w') (hB : 0 < B) : RTab w' := fun i v hi => (hb.cell (p := ⟨0, 0 + i, none⟩) hB).trans (h i v hi)
theorem RTab.fr {w w' : World} (h : RTab w) (hb : Fr w w') : RTab w' := h.below hb.1 h.lt
set_option maxRecDepth 20000 in
theorem rank_any (T : VT) (w : World) (hf : T.fit = true) (hr : RTab w) : Calls Tryd.prog 56 #[T.agg] w fun e w' => e = .returned (.int .i64 (rankV T)) ∧ Fr w w' := by
  obtain ⟨h1, h2, h3⟩ := fit_kn hf
  clear hf
  obtain ⟨k, n, s, cA, cn, cc, kA, kn, kc, keys, kids⟩ := T
  have hb := (Fr.refl w).alloc (.cells #[.int .i64 k, .int .i64 n, .string s, .slice cA cn cc, .slice kA kn kc] 25)
  have hr' := hr.fr hb
  have HV := VFive.new w (.int .i64 k) (.int .i64 n) (.string s) (.slice cA cn cc) (.slice kA kn kc) 25 w.heap.size rfl
  simp only [VT.k, VT.n] at h1 h2 h3
  simp only [VT.agg]
  obtain ⟨⟨v0, v1, v2, v3, v4⟩, -⟩ := HV
  by_cases hk2 : k = 2
  · subst hk2
    have c := hr' 2 _ rfl
    rw [show rankV (.mk 2 n s cA cn cc kA kn kc keys kids) = 2 + n from if_pos rfl]
    have hw : IntKind.i64.wrap (2 + n) = 2 + n := by rw [IntKind.wrap_i64]; have := h3 rfl; omega
    have hw' : IntKind.i64.wrap n = n := by rw [IntKind.wrap_i64]; have := h3 rfl; omega
    clear hr hr' h1 h2 h3
    simp only [Nat.zero_add] at c
    go_enter Tryd.func56, Tryd.ntmps56
    go_wp2
    go_quiet (fail)
    go_wp2
    go_ret
    exact ⟨by first | rfl | simp [hw], hb.drewN _⟩
  · rw [show rankV (.mk k n s cA cn cc kA kn kc keys kids) = (if 2 < k then k + 1 else k) from if_neg hk2]
    clear h3
    have hk : k = 1 ∨ k = 3 ∨ k = 4 ∨ k = 5 ∨ k = 6 := by omega
    rcases hk with rfl | rfl | rfl | rfl | rfl
    · have c := hr' 1 _ rfl
      clear hr hr' h1 h2 hk2
      simp only [Nat.zero_add] at c
      go_enter Tryd.func56, Tryd.ntmps56
      go_wp2
      go_ret
      exact ⟨rfl, hb⟩
    · have c := hr' 3 _ rfl
      clear hr hr' h1 h2 hk2
      simp only [Nat.zero_add] at c
      go_enter Tryd.func56, Tryd.ntmps56
      go_wp2
      go_ret
      exact ⟨rfl, hb⟩
    · have c := hr' 4 _ rfl
      clear hr hr' h1 h2 hk2
      simp only [Nat.zero_add] at c
      go_enter Tryd.func56, Tryd.ntmps56
      go_wp2
      go_ret
      exact ⟨rfl, hb⟩
    · have c := hr' 5 _ rfl
      clear hr hr' h1 h2 hk2
      simp only [Nat.zero_add] at c
      go_enter Tryd.func56, Tryd.ntmps56
      go_wp2
      go_ret
      exact ⟨rfl, hb⟩
    · have c := hr' 6 _ rfl
      clear hr hr' h1 h2 hk2
      simp only [Nat.zero_add] at c
      go_enter Tryd.func56, Tryd.ntmps56
      go_wp2
      go_ret
      exact ⟨rfl, hb⟩
set_option maxRecDepth 20000 in
theorem shared_any (a b c e a' b' c' e' : Value) (cA cA' : Option Addr) (cn cc cn' cc' : Nat) (w : World) :
    Calls Tryd.prog 60 #[.agg #[a, b, c, .slice cA cn cc, e, a', b', c', .slice cA' cn' cc', e']] w fun e w' => e = .returned (.int .i64 (min cn cn' : Nat)) ∧ Fr w w' := by
  have hb := (Fr.refl w).alloc (.cells #[a, b, c, .slice cA cn cc, e, a', b', c', .slice cA' cn' cc', e'] 72)
  have c3 : (w.alloc (.cells #[a, b, c, .slice cA cn cc, e, a', b', c', .slice cA' cn' cc', e'] 72)).cell? ⟨w.heap.size, 3, none⟩ = some (.slice cA cn cc) := by simp [go_sem]
  have c8 : (w.alloc (.cells #[a, b, c, .slice cA cn cc, e, a', b', c', .slice cA' cn' cc', e'] 72)).cell? ⟨w.heap.size, 8, none⟩ = some (.slice cA' cn' cc') := by simp [go_sem]
  go_enter Tryd.func60, Tryd.ntmps60
  go_wp2
  all_goals (go_ret; exact ⟨by first | (rw [show min cn cn' = cn from by omega]; rfl) | (rw [show min cn cn' = cn' from by omega]; rfl), hb⟩)
end Go.Proofs.YtndolgbbochpjaaDoor
