import Derived.Test.YtndolgbbochpjaaDoorGag
import Derived.Test.YtndolgbbochpjaaDoorGad
import Derived.Great.BuildSlice
/-
  Layer 7: slices.SortStableFunc by compare, at 20 values or fewer: the stable sort and its caller; slices.IsSortedFunc.
-/
namespace Go.Proofs.YtndolgbbochpjaaDoor
open Go.RowKit
set_option linter.unusedVariables false

/-- Sorted in place. -/
def Srtd (W w' : World) (g : Nat) (L : List VT) : Prop := ∃ L2, Held w' g L2 ∧ L2.Perm L ∧ Rise L2 ∧ Below g W w' ∧ W.drawn ≤ w'.drawn
set_option maxRecDepth 20000 in
set_option maxHeartbeats 1000000 in
theorem stable_any (g n c : Nat) (L : List VT) (B : Nat) (W : World) (h : Held W g L) (hl : L.length = n) (hB : B ≤ W.heap.size) (hBg : B ≤ g) (hg : g < W.heap.size) (hn : n ≤ 20) (hL : ∀ x ∈ L, Lie W B x ∧ x.ok = true) (hr : RTab W)
    (hrB : 0 < B) :
    Calls Tryd.prog 50 #[.slice (some ⟨g, 0, none⟩) n c, .int .i64 n, .func (.func 33) #[] #[]] W fun e w' => e = .returned (.tuple #[]) ∧ Srtd W w' g L := by
  have hc := ins_any g n c L B 0 n W h hl hB hBg hg hn (Nat.zero_le _) (Nat.le_refl _) hL hr hrB
  by_cases h20 : n = 20
  · subst h20
    have Hag := Lib.hid (fun (w1 : World) (L2 : List VT) (h1 : Held w1 g L2) (h2 : Below g W w1) (h3 : L2.Perm L) => ins_any g 20 c L2 B 20 20 w1 h1 (by rw [h3.length_eq, hl]) (Nat.le_trans hB h2.size) hBg (by have := h2.size; omega) (Nat.le_refl _) (Nat.le_refl _) (Nat.le_refl _)
      (fun x hx => ⟨(hL x (h3.mem_iff.1 hx)).1.later (h2.mono hBg), (hL x (h3.mem_iff.1 hx)).2⟩) (hr.below h2 (by omega)) hrB)
    have Hc := Lib.hid hc
    clear hc h hl hL hr hrB hB hBg hg hn
    go_enter Tryd.func50, Tryd.ntmps50
    go_wp2
    go_loopw [7, 8] (fun a b wr => (a = .int .i64 0 ∧ b = .int .i64 20 ∧ W = wr) ∨ (a = .int .i64 20 ∧ b = .int .i64 40 ∧ Hid (Srtd W wr g L))) (fun _ b _ => 40 - (intOf b).toNat)
    case atStart => exact .inl ⟨rfl, rfl, rfl⟩
    case round =>
      rcases hrel with ⟨rfl, rfl, rfl⟩ | ⟨rfl, rfl, HS⟩
      · have hc := Hc.out
        go_wp2_with fail
        refine hc.mono ?_
        rintro e w1 ⟨rfl, L2, a1, a2, a3, a4, a5, a6⟩
        have HS := Lib.hid (show Srtd W w1 g L from ⟨L2, a1, a4, a5 trivial trivial, a2, a3⟩)
        clear a1 a2 a3 a4 a5 a6 hc
        go_wp2
        go_roundw
        case rel => exact .inr ⟨by first | rfl | simp, by first | rfl | simp, HS⟩
        case measure => simp [intOf]
      · obtain ⟨L2, a1, a4, a5, a2, a3⟩ := HS.out
        have hc := Hag.out wr L2 a1 a2 a4
        clear a1
        go_wp2_with fail
        refine hc.mono ?_
        rintro e w1 ⟨rfl, L3, b1, b2, b3, b4, b5, b6⟩
        obtain rfl := b6 trivial
        have HS2 := Lib.hid (show Srtd W w1 g L from ⟨L3, b1, a4, a5, a2.trans b2, Nat.le_trans a3 b3⟩)
        clear b1 b2 b3 b4 b5 b6 a2 a3 a4 a5 hc HS
        go_wp2
        go_loopw [6] (fun s wr => s = .int .i64 20 ∧ w1 = wr) (fun _ _ => 0)
        case atStart => exact ⟨rfl, rfl⟩
        case round =>
          obtain ⟨rfl, rfl⟩ := hrel
          go_wp2
          go_end0
          exact ⟨rfl, HS2.out⟩
  · have h1 : ((20 : Int) ≤ (n : Int)) = False := by simp; omega
    have h2 : ((20 : Int) < (n : Int)) = False := by simp; omega
    clear h hl hL hr hrB hB hBg hg hn h20
    have Hc := Lib.hid hc
    clear hc
    go_enter Tryd.func50, Tryd.ntmps50
    go_wp2
    go_loopw [7, 8] (fun a b wr => a = .int .i64 0 ∧ b = .int .i64 20 ∧ W = wr) (fun _ b _ => 0)
    case atStart => exact ⟨rfl, rfl, rfl⟩
    case round =>
      obtain ⟨rfl, rfl, rfl⟩ := hrel
      have hc := Hc.out
      go_wp2_with fail
      refine hc.mono ?_
      rintro e w1 ⟨rfl, L2, a1, a2, a3, a4, a5, a6⟩
      have HS := Lib.hid (show Srtd W w1 g L from ⟨L2, a1, a4, a5 trivial trivial, a2, a3⟩)
      clear a1 a2 a3 a4 a5 a6 hc
      go_wp2
      go_loopw [6] (fun s wr => s = .int .i64 20 ∧ w1 = wr) (fun _ _ => 0)
      case atStart => exact ⟨rfl, rfl⟩
      case round =>
        obtain ⟨rfl, rfl⟩ := hrel
        go_wp2
        go_end0
        exact ⟨rfl, HS.out⟩
set_option maxRecDepth 20000 in
theorem stable_none (A : Option Addr) (c : Nat) (fv : Value) (w : World) : Calls Tryd.prog 50 #[.slice A 0 c, .int .i64 0, fv] w fun e w' => e = .returned (.tuple #[]) ∧ w' = w := by
  have hc := ins_none A 0 c 0 fv w (Nat.zero_le _)
  have Hc := Lib.hid hc
  clear hc
  go_enter Tryd.func50, Tryd.ntmps50
  go_wp2
  go_loopw [7, 8] (fun a b wr => a = .int .i64 0 ∧ b = .int .i64 20 ∧ wr = w) (fun _ b _ => 0)
  case atStart => exact ⟨rfl, rfl, rfl⟩
  case round =>
    obtain ⟨rfl, rfl, rfl⟩ := hrel
    have hc := Hc.out
    go_wp2_with fail
    refine hc.mono ?_
    rintro e w1 ⟨rfl, rfl⟩
    clear hc
    go_wp2
    go_loopw [6] (fun s wr' => s = .int .i64 20 ∧ w1 = wr') (fun _ _ => 0)
    case atStart => exact ⟨rfl, rfl⟩
    case round =>
      obtain ⟨rfl, rfl⟩ := hrel
      go_wp2
      go_end0
      exact ⟨rfl, rfl⟩
theorem held_own {W : World} {base g n c : Nat} {L : List VT} (h : W.ownsRow base 25 5 (.slice (some ⟨g, 0, none⟩) n c) n (L.flatMap VT.cells)) : Held W g L := by
  intro t u hu
  refine ⟨?_, h.frozenAt t⟩
  rw [h.cellAt t (by have := (List.getElem?_eq_some_iff.1 hu).1; have := h.1; omega)]
  exact hu
theorem held_shows {W : World} {B g n : Nat} {L : List VT} (hn : L.length = n) (hg : g < B) (h : Held W g L) : Shows W B 5 (some ⟨g, 0, none⟩) n (L.flatMap VT.cells) :=
  ⟨by rw [vflat_len, hn], fun _ => ⟨g, 0, rfl, hg, fun j u hu => by rw [Nat.zero_add]; exact (h j u hu).1⟩⟩
set_option maxRecDepth 20000 in
theorem sortS_any (A : Option Addr) (n c base : Nat) (L : List VT) (B : Nat) (W : World) (h : W.ownsRow base 25 5 (.slice A n c) n (L.flatMap VT.cells)) (hB : B ≤ W.heap.size) (hBb : B ≤ base) (hn : n ≤ 20) (hL : ∀ x ∈ L, Lie W B x ∧ x.ok = true) (hr : RTab W)
    (hrB : 0 < B) :
    Calls Tryd.prog 37 #[.slice A n c, .func (.func 33) #[] #[]] W fun e w' => e = .returned (.tuple #[]) ∧
      ∃ L2, Hid (Shows w' w'.heap.size 5 A n (L2.flatMap VT.cells)) ∧ Hid (L2.Perm L ∧ Rise L2) ∧ Below base W w' ∧ W.drawn ≤ w'.drawn := by
  have hlen : L.length = n := by have := h.1; rw [vflat_len] at this; omega
  rcases Nat.eq_zero_or_pos n with rfl | hpos
  · obtain rfl : L = [] := List.eq_nil_of_length_eq_zero hlen
    have hs := stable_none A c (.func (.func 33) #[] #[]) W
    go_enter Tryd.func37, Tryd.ntmps37
    go_wp2_with fail
    refine hs.mono ?_
    rintro e w1 ⟨rfl, rfl⟩
    go_wp2
    go_end0
    exact ⟨rfl, [], Lib.hid (Shows.zero A), Lib.hid ⟨.refl _, .nil⟩, Below.refl _ _, Nat.le_refl _⟩
  · obtain ⟨g, cap, hv, hlo, hlt⟩ := h.form hpos
    obtain rfl : A = some ⟨g, 0, none⟩ := by injection hv
    have hs := stable_any g n c L B W (held_own h) hlen hB (by omega) hlt hn hL hr hrB
    clear h hL hr
    go_enter Tryd.func37, Tryd.ntmps37
    go_wp2_with fail
    refine hs.mono ?_
    rintro e w1 ⟨rfl, L2, a1, a2, a3, a4, a5⟩
    have h1 := Lib.hid (held_shows (B := w1.heap.size) (by rw [a2.length_eq, hlen]) (by have := a4.size; omega) a1)
    clear a1 hs
    go_wp2
    go_end0
    exact ⟨rfl, L2, h1, Lib.hid ⟨a2, a3⟩, a4.mono hlo, a5⟩
end Go.Proofs.YtndolgbbochpjaaDoor
/-
  Layer 7: checked, of each of its kinds, by what the work given to it says.
-/
namespace Go.Proofs.YtndolgbbochpjaaDoor
open Go.RowKit
set_option linter.unusedVariables false

/-- Rows of values. -/
structure RowT where
  A : Option Addr
  n : Nat
  c : Nat
  L : List VT
def RowT.val (r : RowT) : Value := .slice r.A r.n r.c
def okR (R : List RowT) : Bool := R.all fun r => r.L.all VT.ok
structure RowsOf (w : World) (B : Nat) (A : Option Addr) (n : Nat) (R : List RowT) : Prop where
  shows : Shows w B 1 A n (R.map RowT.val)
  vals : ∀ r ∈ R, Shows w B 5 r.A r.n (r.L.flatMap VT.cells) ∧ (∀ T ∈ r.L, Lie w B T) ∧ r.n ≤ 1000
theorem row_at {w : World} {B : Nat} {A : Option Addr} {n : Nat} {R : List RowT} (h : RowsOf w B A n R) {i : Nat} (hi : i < n) :
    ∃ b off r, A = some ⟨b, off, none⟩ ∧ b < B ∧ R[i]? = some r ∧ w.cell? ⟨b, off + i, none⟩ = some r.val := by
  have hl : R.length = n := by have := h.shows.1; simpa using this
  obtain ⟨b, off, rfl, hb, hc⟩ := h.shows.2 (by omega)
  have hr : R[i]? = some (R[i]'(by omega)) := List.getElem?_eq_getElem (by omega)
  exact ⟨b, off, _, rfl, hb, hr, hc i _ (by rw [List.getElem?_map, hr]; rfl)⟩
theorem RowsOf.below {w w' : World} {B : Nat} {A : Option Addr} {n : Nat} {R : List RowT} (h : RowsOf w B A n R) (hb : Below B w w') : RowsOf w' B A n R :=
  ⟨h.shows.below hb, fun r hr => ⟨(h.vals r hr).1.below hb, fun T hT => ((h.vals r hr).2.1 T hT).later hb, (h.vals r hr).2.2⟩⟩
theorem all_take {α : Type} {p : α → Bool} {l : List α} {i : Nat} {x : α} (hx : l[i]? = some x) (h : (l.take i).all p = true) (hp : p x = true) : (l.take (i + 1)).all p = true := by
  rw [List.take_add_one, hx, List.all_append, h]
  simp [hp]
theorem all_no {α : Type} {p : α → Bool} {l : List α} {i : Nat} {x : α} (hx : l[i]? = some x) (hp : p x = false) : l.all p = false := by
  rw [← Bool.not_eq_true, List.all_eq_true]
  intro h
  have := h x (List.mem_of_getElem? hx)
  rw [hp] at this
  cases this
theorem all_whole {α : Type} {p : α → Bool} {l : List α} {i : Nat} (hi : l.length ≤ i) (h : (l.take i).all p = true) : l.all p = true := by rwa [List.take_of_length_le hi] at h
/-- Two cells of one's own. -/
def VTwo (w : World) (g : Nat) (a b : Value) : Prop := (w.cell? ⟨g, 0, none⟩ = some a ∧ w.cell? ⟨g, 1, none⟩ = some b) ∧ w.frozen? ⟨g, 0, none⟩ = false ∧ w.frozen? ⟨g, 1, none⟩ = false
theorem VTwo.new (w : World) (a b : Value) (t : TypeId) (g : Nat) (hg : w.heap.size = g) : VTwo (w.alloc (.cells #[a, b] t)) g a b := by
  subst hg
  exact ⟨⟨by simp [go_sem], by simp [go_sem]⟩, by simp [go_sem], by simp [go_sem]⟩
theorem VTwo.keep {w w1 : World} {g : Nat} {a b : Value} (h : VTwo w g a b) (hb : w1.heap[g]? = w.heap[g]?) : VTwo w1 g a b := by
  obtain ⟨⟨r0, r1⟩, f0, f1⟩ := h
  have hc : ∀ o, w1.cell? ⟨g, o, none⟩ = w.cell? ⟨g, o, none⟩ := fun o => by simp only [World.cell?, hb]
  have hf : ∀ o, w1.frozen? ⟨g, o, none⟩ = w.frozen? ⟨g, o, none⟩ := fun o => by simp only [World.frozen?, hb]
  exact ⟨⟨(hc 0).trans r0, (hc 1).trans r1⟩, (hf 0).trans f0, (hf 1).trans f1⟩
theorem VTwo.later {w w1 : World} {g : Nat} {a b : Value} (h : VTwo w g a b) (hb : Below w.heap.size w w1) : VTwo w1 g a b :=
  h.keep (hb.block g (World.block_lt_of_cell? w _ h.1.1))
theorem VTwo.alloc {w : World} {g : Nat} {a b : Value} (o : Obj) (h : VTwo w g a b) : VTwo (w.alloc o) g a b := h.later ((Below.refl _ _).alloc (Nat.le_refl _) o)
theorem VTwo.set2 {w : World} {g : Nat} {a b a' b' : Value} (h : VTwo w g a b) : VTwo ((w.setCell ⟨g, 0, none⟩ a').setCell ⟨g, 1, none⟩ b') g a' b' := by
  obtain ⟨⟨r0, r1⟩, f0, f1⟩ := h
  exact ⟨⟨by simp [go_sem, *], by simp [go_sem, *]⟩, by simp [go_sem, *], by simp [go_sem, *]⟩
theorem VTwo.set1 {w : World} {g : Nat} {a b b' : Value} (h : VTwo w g a b) : VTwo (w.setCell ⟨g, 1, none⟩ b') g a b' := by
  obtain ⟨⟨r0, r1⟩, f0, f1⟩ := h
  exact ⟨⟨by simp [go_sem, *], by simp [go_sem, *]⟩, by simp [go_sem, *], by simp [go_sem, *]⟩
theorem below_set2 {B g : Nat} {w w1 : World} {a b : Value} (h : Below B w w1) (hg : B ≤ g) : Below B w ((w1.setCell ⟨g, 0, none⟩ a).setCell ⟨g, 1, none⟩ b) := (h.setCell hg a).setCell hg b
set_option maxRecDepth 20000 in
set_option maxHeartbeats 2000000 in
theorem chkI_any (p q : Nat) (Q : Value → Int → World → World → Prop) (A : Option Addr) (n c B : Nat) (R : List RowT) (w : World) (h : RowsOf w B A n R) (hB : B ≤ w.heap.size) (hn : n ≤ 1000) (htab : UTab w) (hst : STab w)
    (hW : okR R = true → ∀ W, Below w.heap.size w W → Calls Tryd.prog 32 #[.pointer (some ⟨p, 0, none⟩), .pointer (some ⟨q, 0, none⟩)] W fun e w' => ∃ v E, e = .returned (.tuple #[v, .int .i64 E]) ∧ Q v E W w') :
    Calls Tryd.prog 31 #[.func (.func 32) #[] #[.pointer (some ⟨p, 0, none⟩), .pointer (some ⟨q, 0, none⟩)], .slice A n c] w fun e w' =>
      (okR R = false ∧ e = .returned (.tuple #[.int .i64 0, .int .i64 140]) ∧ Below w.heap.size w w') ∨ (okR R = true ∧ ∃ v E W, e = .returned (.tuple #[v, .int .i64 E]) ∧ Below w.heap.size w W ∧ Q v E W w') := by
  have HR := Lib.hid (fun W (hb : Below w.heap.size w W) => h.below (hb.mono hB))
  have Hln := Lib.hid (by have := h.shows.1; simpa using this : R.length = n)
  have HCk := Lib.hid (fun (r : RowT) (hr : r ∈ R) (T : VT) (hT : T ∈ r.L) W (hb : Below w.heap.size w W) => vcheck_any B W T (((h.vals r hr).2.1 T hT).later (hb.mono hB)) (Nat.le_trans hB hb.size) (htab.below hb htab.lt) (hst.below hb hst.lt))
  have HW := Lib.hid hW
  clear h htab hst hW
  go_enter Tryd.func31, Tryd.ntmps31
  go_wp2
  go_loopw [14] (fun i wr => ∃ j : Nat, j ≤ n ∧ i = .int .i64 j ∧ Hid ((R.take j).all (fun r => r.L.all VT.ok) = true) ∧ Below w.heap.size w wr) (fun i _ => n - (intOf i).toNat)
  case atStart => exact ⟨0, Nat.zero_le _, rfl, Lib.hid rfl, Below.refl _ _⟩
  case round =>
    obtain ⟨j, hj, rfl, HJ, hbr⟩ := hrel
    by_cases hlt : j < n
    · obtain ⟨b, off, r, rfl, _, hr, hc⟩ := row_at (HR.out wr hbr) hlt
      have hmr := List.mem_of_getElem? hr
      have Hr := Lib.hid hr
      have Hmr := Lib.hid hmr
      obtain ⟨hs5, -, hrn⟩ := (HR.out wr hbr).vals r hmr
      have hrl := Lib.hid (kids_len hs5)
      clear hr hmr hs5
      obtain ⟨A', n', c', L'⟩ := r
      simp only [RowT.val] at hc
      have Hrl := Lib.hid (show L'.length = n' from hrl.out)
      simp only at hrn
      have hlt' : (j : Int) < (n : Int) := by omega
      go_wp2
      go_loopw [20] (fun i wr' => ∃ t : Nat, t ≤ n' ∧ i = .int .i64 t ∧ Hid ((L'.take t).all VT.ok = true) ∧ Below w.heap.size w wr') (fun i _ => n' - (intOf i).toNat)
      case atStart => exact ⟨0, Nat.zero_le _, rfl, Lib.hid rfl, hbr⟩
      case round =>
        obtain ⟨t, ht, rfl, HT, hbt⟩ := hrel
        by_cases hlt2 : t < n'
        · obtain ⟨b', off', T, hA', _, hT, h5⟩ := kids_at ((HR.out wr hbt).vals _ Hmr.out).1 hlt2
          simp only at hA' hT
          subst hA'
          have hck := HCk.out _ Hmr.out T (List.mem_of_getElem? hT)
          have Hyes := Lib.hid (fun hok : T.ok = true => all_take hT HT.out hok)
          have Hno := Lib.hid (fun hok : T.ok = false => (by
            unfold okR
            exact all_no Hr.out (all_no hT hok) : okR R = false))
          generalize hok : T.ok = ok at *
          obtain ⟨k, m, s, cA, cn, cc, kA, kn, kc, keys, kids⟩ := T
          simp only [VT.agg] at hck
          have Hck := Lib.hid hck
          clear hok hT hck
          obtain ⟨g0, g1, g2, g3, g4⟩ := h5
          have hlt2' : (t : Int) < (n' : Int) := by omega
          have hb2 := bel_alloc hbt (.cells #[.int .i64 k, .int .i64 m, .string s, .slice cA cn cc, .slice kA kn kc] 25)
          have HV := VFive.new wr (.int .i64 k) (.int .i64 m) (.string s) (.slice cA cn cc) (.slice kA kn kc) 25 wr.heap.size rfl
          obtain ⟨⟨v0, v1, v2, v3, v4⟩, -⟩ := HV
          have hck := Hck.out _ hb2
          cases ok
          · have Hn := Lib.hid (Hno.out rfl)
            clear Hyes Hno HT HJ
            go_wp2_with fail
            refine hck.mono ?_
            rintro e w5 ⟨rfl, hb5⟩
            clear hck
            go_wp2
            go_ret2
            exact .inl ⟨Hn.out, rfl, bel_next hb2 hb5⟩
          · have Hy := Lib.hid (Hyes.out rfl)
            clear Hyes Hno HT
            go_wp2_with fail
            refine hck.mono ?_
            rintro e w5 ⟨rfl, hb5⟩
            clear hck
            go_wp2
            go_roundw
            case rel => exact ⟨t + 1, by omega, by go_num, Hy, bel_next hb2 hb5⟩
            case measure => simp [intOf]; omega
        · obtain rfl : t = n' := by omega
          have Hw := Lib.hid (all_take Hr.out HJ.out (show L'.all VT.ok = true from all_whole (by have := Hrl.out; omega) HT.out))
          clear HT HJ Hr
          go_wp2
          go_roundw
          case rel => exact ⟨j + 1, by omega, by go_num, Hw, hbt⟩
          case measure => simp [intOf]; omega
    · obtain rfl : j = n := by omega
      have Hy := Lib.hid (show okR R = true from all_whole (by have := Hln.out; omega) HJ.out)
      have hw := HW.out Hy.out wr hbr
      clear HJ HR HCk
      go_wp2_with fail
      refine hw.mono ?_
      rintro e w5 ⟨v, E, rfl, hq⟩
      go_wp2
      go_ret2
      exact .inr ⟨Hy.out, v, E, wr, rfl, hbr, hq⟩
set_option maxRecDepth 20000 in
set_option maxHeartbeats 2000000 in
theorem chkS_any (p : Nat) (Q : Value → Int → World → World → Prop) (A : Option Addr) (n c B : Nat) (R : List RowT) (w : World) (h : RowsOf w B A n R) (hB : B ≤ w.heap.size) (hn : n ≤ 1000) (htab : UTab w) (hst : STab w)
    (hW : okR R = true → ∀ W, Below w.heap.size w W → Calls Tryd.prog 35 #[.pointer (some ⟨p, 0, none⟩)] W fun e w' => ∃ v E, e = .returned (.tuple #[v, .int .i64 E]) ∧ Q v E W w') :
    Calls Tryd.prog 34 #[.func (.func 35) #[] #[.pointer (some ⟨p, 0, none⟩)], .slice A n c] w fun e w' =>
      (okR R = false ∧ e = .returned (.tuple #[.slice none 0 0, .int .i64 140]) ∧ Below w.heap.size w w') ∨ (okR R = true ∧ ∃ v E W, e = .returned (.tuple #[v, .int .i64 E]) ∧ Below w.heap.size w W ∧ Q v E W w') := by
  have HR := Lib.hid (fun W (hb : Below w.heap.size w W) => h.below (hb.mono hB))
  have Hln := Lib.hid (by have := h.shows.1; simpa using this : R.length = n)
  have HCk := Lib.hid (fun (r : RowT) (hr : r ∈ R) (T : VT) (hT : T ∈ r.L) W (hb : Below w.heap.size w W) => vcheck_any B W T (((h.vals r hr).2.1 T hT).later (hb.mono hB)) (Nat.le_trans hB hb.size) (htab.below hb htab.lt) (hst.below hb hst.lt))
  have HW := Lib.hid hW
  clear h htab hst hW
  go_enter Tryd.func34, Tryd.ntmps34
  go_wp2
  go_loopw [14] (fun i wr => ∃ j : Nat, j ≤ n ∧ i = .int .i64 j ∧ Hid ((R.take j).all (fun r => r.L.all VT.ok) = true) ∧ Below w.heap.size w wr) (fun i _ => n - (intOf i).toNat)
  case atStart => exact ⟨0, Nat.zero_le _, rfl, Lib.hid rfl, Below.refl _ _⟩
  case round =>
    obtain ⟨j, hj, rfl, HJ, hbr⟩ := hrel
    by_cases hlt : j < n
    · obtain ⟨b, off, r, rfl, _, hr, hc⟩ := row_at (HR.out wr hbr) hlt
      have hmr := List.mem_of_getElem? hr
      have Hr := Lib.hid hr
      have Hmr := Lib.hid hmr
      obtain ⟨hs5, -, hrn⟩ := (HR.out wr hbr).vals r hmr
      have hrl := Lib.hid (kids_len hs5)
      clear hr hmr hs5
      obtain ⟨A', n', c', L'⟩ := r
      simp only [RowT.val] at hc
      have Hrl := Lib.hid (show L'.length = n' from hrl.out)
      simp only at hrn
      have hlt' : (j : Int) < (n : Int) := by omega
      go_wp2
      go_loopw [20] (fun i wr' => ∃ t : Nat, t ≤ n' ∧ i = .int .i64 t ∧ Hid ((L'.take t).all VT.ok = true) ∧ Below w.heap.size w wr') (fun i _ => n' - (intOf i).toNat)
      case atStart => exact ⟨0, Nat.zero_le _, rfl, Lib.hid rfl, hbr⟩
      case round =>
        obtain ⟨t, ht, rfl, HT, hbt⟩ := hrel
        by_cases hlt2 : t < n'
        · obtain ⟨b', off', T, hA', _, hT, h5⟩ := kids_at ((HR.out wr hbt).vals _ Hmr.out).1 hlt2
          simp only at hA' hT
          subst hA'
          have hck := HCk.out _ Hmr.out T (List.mem_of_getElem? hT)
          have Hyes := Lib.hid (fun hok : T.ok = true => all_take hT HT.out hok)
          have Hno := Lib.hid (fun hok : T.ok = false => (by
            unfold okR
            exact all_no Hr.out (all_no hT hok) : okR R = false))
          generalize hok : T.ok = ok at *
          obtain ⟨k, m, s, cA, cn, cc, kA, kn, kc, keys, kids⟩ := T
          simp only [VT.agg] at hck
          have Hck := Lib.hid hck
          clear hok hT hck
          obtain ⟨g0, g1, g2, g3, g4⟩ := h5
          have hlt2' : (t : Int) < (n' : Int) := by omega
          have hb2 := bel_alloc hbt (.cells #[.int .i64 k, .int .i64 m, .string s, .slice cA cn cc, .slice kA kn kc] 25)
          have HV := VFive.new wr (.int .i64 k) (.int .i64 m) (.string s) (.slice cA cn cc) (.slice kA kn kc) 25 wr.heap.size rfl
          obtain ⟨⟨v0, v1, v2, v3, v4⟩, -⟩ := HV
          have hck := Hck.out _ hb2
          cases ok
          · have Hn := Lib.hid (Hno.out rfl)
            clear Hyes Hno HT HJ
            go_wp2_with fail
            refine hck.mono ?_
            rintro e w5 ⟨rfl, hb5⟩
            clear hck
            go_wp2
            go_ret2
            exact .inl ⟨Hn.out, rfl, bel_next hb2 hb5⟩
          · have Hy := Lib.hid (Hyes.out rfl)
            clear Hyes Hno HT
            go_wp2_with fail
            refine hck.mono ?_
            rintro e w5 ⟨rfl, hb5⟩
            clear hck
            go_wp2
            go_roundw
            case rel => exact ⟨t + 1, by omega, by go_num, Hy, bel_next hb2 hb5⟩
            case measure => simp [intOf]; omega
        · obtain rfl : t = n' := by omega
          have Hw := Lib.hid (all_take Hr.out HJ.out (show L'.all VT.ok = true from all_whole (by have := Hrl.out; omega) HT.out))
          clear HT HJ Hr
          go_wp2
          go_roundw
          case rel => exact ⟨j + 1, by omega, by go_num, Hw, hbt⟩
          case measure => simp [intOf]; omega
    · obtain rfl : j = n := by omega
      have Hy := Lib.hid (show okR R = true from all_whole (by have := Hln.out; omega) HJ.out)
      have hw := HW.out Hy.out wr hbr
      clear HJ HR HCk
      go_wp2_with fail
      refine hw.mono ?_
      rintro e w5 ⟨v, E, rfl, hq⟩
      go_wp2
      go_ret2
      exact .inr ⟨Hy.out, v, E, wr, rfl, hbr, hq⟩
set_option maxRecDepth 20000 in
set_option maxHeartbeats 2000000 in
theorem chkV_any (p q : Nat) (Q : VT → Int → Prop) (A : Option Addr) (n c B : Nat) (R : List RowT) (w : World) (h : RowsOf w B A n R) (hB : B ≤ w.heap.size) (hn : n ≤ 1000) (htab : UTab w) (hst : STab w)
    (hW : okR R = true → ∀ W, Below w.heap.size w W → Calls Tryd.prog 45 #[.pointer (some ⟨p, 0, none⟩), .pointer (some ⟨q, 0, none⟩)] W fun e w' => ∃ X E, e = .returned (.tuple #[X.agg, .int .i64 E]) ∧ Q X E ∧ Below W.heap.size W w') :
    Calls Tryd.prog 44 #[.func (.func 45) #[] #[.pointer (some ⟨p, 0, none⟩), .pointer (some ⟨q, 0, none⟩)], .slice A n c] w fun e w' =>
      ((okR R = false ∧ e = .returned (.tuple #[.agg #[.int .i64 0, .int .i64 0, .string ⟨#[]⟩, .slice none 0 0, .slice none 0 0], .int .i64 140])) ∨ (okR R = true ∧ ∃ X E, e = .returned (.tuple #[X.agg, .int .i64 E]) ∧ Q X E)) ∧ Below w.heap.size w w' := by
  have HR := Lib.hid (fun W (hb : Below w.heap.size w W) => h.below (hb.mono hB))
  have Hln := Lib.hid (by have := h.shows.1; simpa using this : R.length = n)
  have HCk := Lib.hid (fun (r : RowT) (hr : r ∈ R) (T : VT) (hT : T ∈ r.L) W (hb : Below w.heap.size w W) => vcheck_any B W T (((h.vals r hr).2.1 T hT).later (hb.mono hB)) (Nat.le_trans hB hb.size) (htab.below hb htab.lt) (hst.below hb hst.lt))
  have HW := Lib.hid hW
  clear h htab hst hW
  go_enter Tryd.func44, Tryd.ntmps44
  have hb0 := bel_alloc (bel_alloc (Below.refl w.heap.size w) (.cells #[.int .i64 0, .int .i64 0, .string ⟨#[]⟩, .slice none 0 0, .slice none 0 0] 25)) (.cells #[.int .i64 0, .int .i64 0, .string ⟨#[]⟩, .slice none 0 0, .slice none 0 0] 25)
  have HV4 := Lib.hid ((VFive.new w (.int .i64 0) (.int .i64 0) (.string ⟨#[]⟩) (.slice none 0 0) (.slice none 0 0) 25 w.heap.size rfl).alloc (.cells #[.int .i64 0, .int .i64 0, .string ⟨#[]⟩, .slice none 0 0, .slice none 0 0] 25))
  have HV6 := Lib.hid (VFive.new (w.alloc (.cells #[.int .i64 0, .int .i64 0, .string ⟨#[]⟩, .slice none 0 0, .slice none 0 0] 25)) (.int .i64 0) (.int .i64 0) (.string ⟨#[]⟩) (.slice none 0 0) (.slice none 0 0) 25 (w.heap.size + 1) (World.size_alloc _ _))
  go_upto_region 2 with fail
  generalize ((w.alloc (.cells #[.int .i64 0, .int .i64 0, .string ⟨#[]⟩, .slice none 0 0, .slice none 0 0] 25)).alloc (.cells #[.int .i64 0, .int .i64 0, .string ⟨#[]⟩, .slice none 0 0, .slice none 0 0] 25)) = W0 at *
  go_wp2
  go_loopw [14] (fun i wr => ∃ j : Nat, j ≤ n ∧ i = .int .i64 j ∧ Hid ((R.take j).all (fun r => r.L.all VT.ok) = true) ∧ Below W0.heap.size W0 wr) (fun i _ => n - (intOf i).toNat)
  case atStart => exact ⟨0, Nat.zero_le _, rfl, Lib.hid rfl, Below.refl _ _⟩
  case round =>
    obtain ⟨j, hj, rfl, HJ, hbr⟩ := hrel
    by_cases hlt : j < n
    · obtain ⟨b, off, r, rfl, _, hr, hc⟩ := row_at (HR.out wr (bel_next hb0 hbr)) hlt
      have hmr := List.mem_of_getElem? hr
      have Hr := Lib.hid hr
      have Hmr := Lib.hid hmr
      obtain ⟨hs5, -, hrn⟩ := (HR.out wr (bel_next hb0 hbr)).vals r hmr
      have hrl := Lib.hid (kids_len hs5)
      clear hr hmr hs5
      obtain ⟨A', n', c', L'⟩ := r
      simp only [RowT.val] at hc
      have Hrl := Lib.hid (show L'.length = n' from hrl.out)
      simp only at hrn
      have hlt' : (j : Int) < (n : Int) := by omega
      go_wp2
      go_loopw [20] (fun i wr' => ∃ t : Nat, t ≤ n' ∧ i = .int .i64 t ∧ Hid ((L'.take t).all VT.ok = true) ∧ Below W0.heap.size W0 wr') (fun i _ => n' - (intOf i).toNat)
      case atStart => exact ⟨0, Nat.zero_le _, rfl, Lib.hid rfl, hbr⟩
      case round =>
        obtain ⟨t, ht, rfl, HT, hbt⟩ := hrel
        by_cases hlt2 : t < n'
        · obtain ⟨b', off', T, hA', _, hT, h5⟩ := kids_at ((HR.out wr (bel_next hb0 hbt)).vals _ Hmr.out).1 hlt2
          simp only at hA' hT
          subst hA'
          have hck := HCk.out _ Hmr.out T (List.mem_of_getElem? hT)
          have Hyes := Lib.hid (fun hok : T.ok = true => all_take hT HT.out hok)
          have Hno := Lib.hid (fun hok : T.ok = false => (by
            unfold okR
            exact all_no Hr.out (all_no hT hok) : okR R = false))
          generalize hok : T.ok = ok at *
          obtain ⟨k, m, s, cA, cn, cc, kA, kn, kc, keys, kids⟩ := T
          simp only [VT.agg] at hck
          have Hck := Lib.hid hck
          clear hok hT hck
          obtain ⟨g0, g1, g2, g3, g4⟩ := h5
          have hlt2' : (t : Int) < (n' : Int) := by omega
          have hb2 := bel_alloc hbt (.cells #[.int .i64 k, .int .i64 m, .string s, .slice cA cn cc, .slice kA kn kc] 25)
          have HV := VFive.new wr (.int .i64 k) (.int .i64 m) (.string s) (.slice cA cn cc) (.slice kA kn kc) 25 wr.heap.size rfl
          obtain ⟨⟨v0, v1, v2, v3, v4⟩, -⟩ := HV
          have hck := Hck.out _ (bel_next hb0 hb2)
          cases ok
          · have Hn := Lib.hid (Hno.out rfl)
            clear Hyes Hno HT HJ
            go_wp2_with fail
            refine hck.mono ?_
            rintro e w5 ⟨rfl, hb5⟩
            clear hck
            have hb6 := bel_next hb2 hb5
            obtain ⟨⟨z0, z1, z2, z3, z4⟩, -⟩ := HV6.out.later hb6
            obtain ⟨⟨y0, y1, y2, y3, y4⟩, f0, f1, f2, f3, f4⟩ := HV4.out.later hb6
            clear v0 v1 v2 v3 v4
            go_wp2
            refine bodyPost_ret (v := .tuple #[.agg #[.int .i64 0, .int .i64 0, .string ⟨#[]⟩, .slice none 0 0, .slice none 0 0], .int .i64 140]) ?_ rfl ⟨.inl ⟨Hn.out, rfl⟩, vbelow_set5 (bel_next hb0 hb6) (Nat.le_refl _)⟩
            simp [results, Tryd.results44, go_sem, *]
          · have Hy := Lib.hid (Hyes.out rfl)
            clear Hyes Hno HT
            go_wp2_with fail
            refine hck.mono ?_
            rintro e w5 ⟨rfl, hb5⟩
            clear hck
            go_wp2
            go_roundw
            case rel => exact ⟨t + 1, by omega, by go_num, Hy, bel_next hb2 hb5⟩
            case measure => simp [intOf]; omega
        · obtain rfl : t = n' := by omega
          have Hw := Lib.hid (all_take Hr.out HJ.out (show L'.all VT.ok = true from all_whole (by have := Hrl.out; omega) HT.out))
          clear HT HJ Hr
          go_wp2
          go_roundw
          case rel => exact ⟨j + 1, by omega, by go_num, Hw, hbt⟩
          case measure => simp [intOf]; omega
    · obtain rfl : j = n := by omega
      have Hy := Lib.hid (show okR R = true from all_whole (by have := Hln.out; omega) HJ.out)
      have hw := HW.out Hy.out wr (bel_next hb0 hbr)
      clear HJ HR HCk
      go_wp2_with fail
      refine hw.mono ?_
      rintro e w5 ⟨X, E, rfl, hq, hb5⟩
      have hb6 := bel_next hbr hb5
      obtain ⟨⟨y0, y1, y2, y3, y4⟩, f0, f1, f2, f3, f4⟩ := HV4.out.later hb6
      obtain ⟨k, m, s, cA, cn, cc, kA, kn, kc, keys, kids⟩ := X
      simp only [VT.agg]
      clear hw hb5
      have Hq := Lib.hid hq
      clear hq
      go_wp2
      refine bodyPost_ret (v := .tuple #[.agg #[.int .i64 k, .int .i64 m, .string s, .slice cA cn cc, .slice kA kn kc], .int .i64 E]) ?_ rfl ⟨.inr ⟨Hy.out, ⟨k, m, s, cA, cn, cc, kA, kn, kc, keys, kids⟩, E, rfl, Hq.out⟩, vbelow_set5 (bel_next hb0 hb6) (Nat.le_refl _)⟩
      simp [results, Tryd.results44, go_sem, *]
set_option maxRecDepth 20000 in
set_option maxHeartbeats 2000000 in
theorem chkP_any (p q : Nat) (Q : Int × Int → Int → Prop) (A : Option Addr) (n c B : Nat) (R : List RowT) (w : World) (h : RowsOf w B A n R) (hB : B ≤ w.heap.size) (hn : n ≤ 1000) (htab : UTab w) (hst : STab w)
    (hW : okR R = true → ∀ W, Below w.heap.size w W → Calls Tryd.prog 39 #[.pointer (some ⟨p, 0, none⟩), .pointer (some ⟨q, 0, none⟩)] W fun e w' => ∃ X E, e = .returned (.tuple #[.agg #[.int .i64 X.1, .int .i64 X.2], .int .i64 E]) ∧ Q X E ∧ Below W.heap.size W w') :
    Calls Tryd.prog 38 #[.func (.func 39) #[] #[.pointer (some ⟨p, 0, none⟩), .pointer (some ⟨q, 0, none⟩)], .slice A n c] w fun e w' =>
      ((okR R = false ∧ e = .returned (.tuple #[.agg #[.int .i64 0, .int .i64 0], .int .i64 140])) ∨ (okR R = true ∧ ∃ X E, e = .returned (.tuple #[.agg #[.int .i64 X.1, .int .i64 X.2], .int .i64 E]) ∧ Q X E)) ∧ Below w.heap.size w w' := by
  have HR := Lib.hid (fun W (hb : Below w.heap.size w W) => h.below (hb.mono hB))
  have Hln := Lib.hid (by have := h.shows.1; simpa using this : R.length = n)
  have HCk := Lib.hid (fun (r : RowT) (hr : r ∈ R) (T : VT) (hT : T ∈ r.L) W (hb : Below w.heap.size w W) => vcheck_any B W T (((h.vals r hr).2.1 T hT).later (hb.mono hB)) (Nat.le_trans hB hb.size) (htab.below hb htab.lt) (hst.below hb hst.lt))
  have HW := Lib.hid hW
  clear h htab hst hW
  go_enter Tryd.func38, Tryd.ntmps38
  have hb0 := bel_alloc (bel_alloc (Below.refl w.heap.size w) (.cells #[.int .i64 0, .int .i64 0] 60)) (.cells #[.int .i64 0, .int .i64 0] 60)
  have HV4 := Lib.hid ((VTwo.new w (.int .i64 0) (.int .i64 0) 60 w.heap.size rfl).alloc (.cells #[.int .i64 0, .int .i64 0] 60))
  have HV6 := Lib.hid (VTwo.new (w.alloc (.cells #[.int .i64 0, .int .i64 0] 60)) (.int .i64 0) (.int .i64 0) 60 (w.heap.size + 1) (World.size_alloc _ _))
  go_upto_region 2 with fail
  generalize ((w.alloc (.cells #[.int .i64 0, .int .i64 0] 60)).alloc (.cells #[.int .i64 0, .int .i64 0] 60)) = W0 at *
  go_wp2
  go_loopw [14] (fun i wr => ∃ j : Nat, j ≤ n ∧ i = .int .i64 j ∧ Hid ((R.take j).all (fun r => r.L.all VT.ok) = true) ∧ Below W0.heap.size W0 wr) (fun i _ => n - (intOf i).toNat)
  case atStart => exact ⟨0, Nat.zero_le _, rfl, Lib.hid rfl, Below.refl _ _⟩
  case round =>
    obtain ⟨j, hj, rfl, HJ, hbr⟩ := hrel
    by_cases hlt : j < n
    · obtain ⟨b, off, r, rfl, _, hr, hc⟩ := row_at (HR.out wr (bel_next hb0 hbr)) hlt
      have hmr := List.mem_of_getElem? hr
      have Hr := Lib.hid hr
      have Hmr := Lib.hid hmr
      obtain ⟨hs5, -, hrn⟩ := (HR.out wr (bel_next hb0 hbr)).vals r hmr
      have hrl := Lib.hid (kids_len hs5)
      clear hr hmr hs5
      obtain ⟨A', n', c', L'⟩ := r
      simp only [RowT.val] at hc
      have Hrl := Lib.hid (show L'.length = n' from hrl.out)
      simp only at hrn
      have hlt' : (j : Int) < (n : Int) := by omega
      go_wp2
      go_loopw [20] (fun i wr' => ∃ t : Nat, t ≤ n' ∧ i = .int .i64 t ∧ Hid ((L'.take t).all VT.ok = true) ∧ Below W0.heap.size W0 wr') (fun i _ => n' - (intOf i).toNat)
      case atStart => exact ⟨0, Nat.zero_le _, rfl, Lib.hid rfl, hbr⟩
      case round =>
        obtain ⟨t, ht, rfl, HT, hbt⟩ := hrel
        by_cases hlt2 : t < n'
        · obtain ⟨b', off', T, hA', _, hT, h5⟩ := kids_at ((HR.out wr (bel_next hb0 hbt)).vals _ Hmr.out).1 hlt2
          simp only at hA' hT
          subst hA'
          have hck := HCk.out _ Hmr.out T (List.mem_of_getElem? hT)
          have Hyes := Lib.hid (fun hok : T.ok = true => all_take hT HT.out hok)
          have Hno := Lib.hid (fun hok : T.ok = false => (by
            unfold okR
            exact all_no Hr.out (all_no hT hok) : okR R = false))
          generalize hok : T.ok = ok at *
          obtain ⟨k, m, s, cA, cn, cc, kA, kn, kc, keys, kids⟩ := T
          simp only [VT.agg] at hck
          have Hck := Lib.hid hck
          clear hok hT hck
          obtain ⟨g0, g1, g2, g3, g4⟩ := h5
          have hlt2' : (t : Int) < (n' : Int) := by omega
          have hb2 := bel_alloc hbt (.cells #[.int .i64 k, .int .i64 m, .string s, .slice cA cn cc, .slice kA kn kc] 25)
          have HV := VFive.new wr (.int .i64 k) (.int .i64 m) (.string s) (.slice cA cn cc) (.slice kA kn kc) 25 wr.heap.size rfl
          obtain ⟨⟨v0, v1, v2, v3, v4⟩, -⟩ := HV
          have hck := Hck.out _ (bel_next hb0 hb2)
          cases ok
          · have Hn := Lib.hid (Hno.out rfl)
            clear Hyes Hno HT HJ
            go_wp2_with fail
            refine hck.mono ?_
            rintro e w5 ⟨rfl, hb5⟩
            clear hck
            have hb6 := bel_next hb2 hb5
            obtain ⟨⟨z0, z1⟩, -⟩ := HV6.out.later hb6
            obtain ⟨⟨y0, y1⟩, f0, f1⟩ := HV4.out.later hb6
            clear v0 v1 v2 v3 v4
            go_wp2
            refine bodyPost_ret (v := .tuple #[.agg #[.int .i64 0, .int .i64 0], .int .i64 140]) ?_ rfl ⟨.inl ⟨Hn.out, rfl⟩, below_set2 (bel_next hb0 hb6) (Nat.le_refl _)⟩
            simp [results, Tryd.results38, go_sem, *]
          · have Hy := Lib.hid (Hyes.out rfl)
            clear Hyes Hno HT
            go_wp2_with fail
            refine hck.mono ?_
            rintro e w5 ⟨rfl, hb5⟩
            clear hck
            go_wp2
            go_roundw
            case rel => exact ⟨t + 1, by omega, by go_num, Hy, bel_next hb2 hb5⟩
            case measure => simp [intOf]; omega
        · obtain rfl : t = n' := by omega
          have Hw := Lib.hid (all_take Hr.out HJ.out (show L'.all VT.ok = true from all_whole (by have := Hrl.out; omega) HT.out))
          clear HT HJ Hr
          go_wp2
          go_roundw
          case rel => exact ⟨j + 1, by omega, by go_num, Hw, hbt⟩
          case measure => simp [intOf]; omega
    · obtain rfl : j = n := by omega
      have Hy := Lib.hid (show okR R = true from all_whole (by have := Hln.out; omega) HJ.out)
      have hw := HW.out Hy.out wr (bel_next hb0 hbr)
      clear HJ HR HCk
      go_wp2_with fail
      refine hw.mono ?_
      rintro e w5 ⟨X, E, rfl, hq, hb5⟩
      have hb6 := bel_next hbr hb5
      obtain ⟨⟨y0, y1⟩, f0, f1⟩ := HV4.out.later hb6
      obtain ⟨pa, pb⟩ := X
      simp only
      clear hw hb5
      have Hq := Lib.hid hq
      clear hq
      go_wp2
      refine bodyPost_ret (v := .tuple #[.agg #[.int .i64 pa, .int .i64 pb], .int .i64 E]) ?_ rfl ⟨.inr ⟨Hy.out, ⟨pa, pb⟩, E, rfl, Hq.out⟩, below_set2 (bel_next hb0 hb6) (Nat.le_refl _)⟩
      simp [results, Tryd.results38, go_sem, *]
end Go.Proofs.YtndolgbbochpjaaDoor
/-
  Layer 7: Compare and Sort.
-/
namespace Go.Proofs.YtndolgbbochpjaaDoor
open Go.RowKit
set_option linter.unusedVariables false

set_option maxRecDepth 20000 in
theorem cmpW_any (T U : VT) (B p q : Nat) (w : World) (hL : Lie w B T) (hL' : Lie w B U) (h1 : T.ok = true) (h2 : U.ok = true) (hB : B ≤ w.heap.size) (hr : RTab w)
    (hp : ∀ i v, T.cells[i]? = some v → w.cell? ⟨p, i, none⟩ = some v) (hq : ∀ i v, U.cells[i]? = some v → w.cell? ⟨q, i, none⟩ = some v) :
    Calls Tryd.prog 32 #[.pointer (some ⟨p, 0, none⟩), .pointer (some ⟨q, 0, none⟩)] w fun e w' => e = .returned (.tuple #[.int .i64 (cmpV T U), .int .i64 0]) ∧ Below w.heap.size w w' := by
  have hc := compareV_any T U B w hL hL' h1 h2 hB hr
  generalize cmpV T U = r at *
  clear hL hL' h1 h2 hr
  obtain ⟨k, n, s, cA, cn, cc, kA, kn, kc, keys, kids⟩ := T
  obtain ⟨k', n', s', cA', cn', cc', kA', kn', kc', keys', kids'⟩ := U
  simp only [VT.agg] at hc
  have v0 := hp 0 _ rfl
  have v1 := hp 1 _ rfl
  have v2 := hp 2 _ rfl
  have v3 := hp 3 _ rfl
  have v4 := hp 4 _ rfl
  have u0 := hq 0 _ rfl
  have u1 := hq 1 _ rfl
  have u2 := hq 2 _ rfl
  have u3 := hq 3 _ rfl
  have u4 := hq 4 _ rfl
  clear hp hq
  go_enter Tryd.func32, Tryd.ntmps32
  go_wp2_with fail
  refine hc.mono ?_
  rintro e w1 ⟨rfl, hb⟩
  go_wp2
  go_ret2
  exact ⟨rfl, hb.1⟩
theorem two_rows {w : World} {B g : Nat} {T U : VT} (hL : Lie w B T) (hL' : Lie w B U) (h : ∀ i v, (T.cells ++ U.cells)[i]? = some v → w.cell? ⟨g, i, none⟩ = some v) (hg : g < B) (h1 : w.cell? ⟨g + 1, 0, none⟩ = some (.slice (some ⟨g, 0, none⟩) 2 2)) (hg1 : g + 1 < B) :
    RowsOf w B (some ⟨g + 1, 0, none⟩) 1 [⟨some ⟨g, 0, none⟩, 2, 2, [T, U]⟩] := by
  refine ⟨⟨rfl, fun _ => ⟨g + 1, 0, rfl, hg1, fun i v hv => ?_⟩⟩, fun r hr => ?_⟩
  · cases i with
    | zero => injection hv with hv; subst hv; exact h1
    | succ i => simp at hv
  · rw [List.mem_singleton] at hr
    subst hr
    refine ⟨⟨by rw [vflat_len]; rfl, fun _ => ⟨g, 0, rfl, hg, fun i v hv => ?_⟩⟩, fun X hX => ?_, by show (2 : Nat) ≤ 1000; omega⟩
    · rw [Nat.zero_add]
      exact h i v (by simpa using hv)
    · rcases List.mem_cons.1 hX with rfl | hX
      · exact hL
      · rw [List.mem_singleton] at hX; subst hX; exact hL'
theorem five_cells {w : World} {g : Nat} {a b c d e : Value} (h : VFive w g a b c d e) : ∀ i v, [a, b, c, d, e][i]? = some v → w.cell? ⟨g, i, none⟩ = some v := by
  obtain ⟨⟨r0, r1, r2, r3, r4⟩, -⟩ := h
  intro i v hv
  match i, hv with
  | 0, hv => injection hv with hv; subst hv; exact r0
  | 1, hv => injection hv with hv; subst hv; exact r1
  | 2, hv => injection hv with hv; subst hv; exact r2
  | 3, hv => injection hv with hv; subst hv; exact r3
  | 4, hv => injection hv with hv; subst hv; exact r4
  | i + 5, hv => simp at hv
theorem ten_cells {w : World} {g : Nat} {a b c d e a' b' c' d' e' : Value} (h : Ten w g a b c d e a' b' c' d' e') : ∀ i v, [a, b, c, d, e, a', b', c', d', e'][i]? = some v → w.cell? ⟨g, i, none⟩ = some v := by
  obtain ⟨⟨r0, r1, r2, r3, r4⟩, s0, s1, s2, s3, s4⟩ := h
  intro i v hv
  match i, hv with
  | 0, hv => injection hv with hv; subst hv; exact r0
  | 1, hv => injection hv with hv; subst hv; exact r1
  | 2, hv => injection hv with hv; subst hv; exact r2
  | 3, hv => injection hv with hv; subst hv; exact r3
  | 4, hv => injection hv with hv; subst hv; exact r4
  | 5, hv => injection hv with hv; subst hv; exact s0
  | 6, hv => injection hv with hv; subst hv; exact s1
  | 7, hv => injection hv with hv; subst hv; exact s2
  | 8, hv => injection hv with hv; subst hv; exact s3
  | 9, hv => injection hv with hv; subst hv; exact s4
  | i + 10, hv => simp at hv
def cmpT (T U : VT) : Value := if (T.ok && U.ok) = true then .tuple #[.int .i64 (cmpV T U), .int .i64 0] else .tuple #[.int .i64 0, .int .i64 140]
set_option maxRecDepth 20000 in
set_option maxHeartbeats 1000000 in
theorem compareT_any (T U : VT) (B : Nat) (w : World) (hL : Lie w B T) (hL' : Lie w B U) (hB : B ≤ w.heap.size) (htab : UTab w) (hst : STab w) (hr : RTab w) :
    Calls Tryd.prog 11 #[T.agg, U.agg] w fun e w' => e = .returned (cmpT T U) ∧ Below w.heap.size w w' := by
  obtain ⟨k, n, s, cA, cn, cc, kA, kn, kc, keys, kids⟩ := T
  obtain ⟨k', n', s', cA', cn', cc', kA', kn', kc', keys', kids'⟩ := U
  have hb := bel_alloc (bel_alloc (bel_alloc (bel_alloc (Below.refl w.heap.size w) (.cells #[.int .i64 k, .int .i64 n, .string s, .slice cA cn cc, .slice kA kn kc] 25)) (.cells #[.int .i64 k', .int .i64 n', .string s', .slice cA' cn' cc', .slice kA' kn' kc'] 25)) (.cells #[.int .i64 k, .int .i64 n, .string s, .slice cA cn cc, .slice kA kn kc, .int .i64 k', .int .i64 n', .string s', .slice cA' cn' cc', .slice kA' kn' kc'] 25)) (.cells #[.slice (some ⟨w.heap.size + 2, 0, none⟩) 2 2] 22)
  have hsz : ((((w.alloc (.cells #[.int .i64 k, .int .i64 n, .string s, .slice cA cn cc, .slice kA kn kc] 25)).alloc (.cells #[.int .i64 k', .int .i64 n', .string s', .slice cA' cn' cc', .slice kA' kn' kc'] 25)).alloc (.cells #[.int .i64 k, .int .i64 n, .string s, .slice cA cn cc, .slice kA kn kc, .int .i64 k', .int .i64 n', .string s', .slice cA' cn' cc', .slice kA' kn' kc'] 25)).alloc (.cells #[.slice (some ⟨w.heap.size + 2, 0, none⟩) 2 2] 22)).heap.size = w.heap.size + 4 := by simp
  have c1 := (((VFive.new w (.int .i64 k) (.int .i64 n) (.string s) (.slice cA cn cc) (.slice kA kn kc) 25 w.heap.size rfl).alloc (.cells #[.int .i64 k', .int .i64 n', .string s', .slice cA' cn' cc', .slice kA' kn' kc'] 25)).alloc (.cells #[.int .i64 k, .int .i64 n, .string s, .slice cA cn cc, .slice kA kn kc, .int .i64 k', .int .i64 n', .string s', .slice cA' cn' cc', .slice kA' kn' kc'] 25)).alloc (.cells #[.slice (some ⟨w.heap.size + 2, 0, none⟩) 2 2] 22)
  have c2 := ((VFive.new (w.alloc (.cells #[.int .i64 k, .int .i64 n, .string s, .slice cA cn cc, .slice kA kn kc] 25)) (.int .i64 k') (.int .i64 n') (.string s') (.slice cA' cn' cc') (.slice kA' kn' kc') 25 (w.heap.size + 1) (World.size_alloc _ _)).alloc (.cells #[.int .i64 k, .int .i64 n, .string s, .slice cA cn cc, .slice kA kn kc, .int .i64 k', .int .i64 n', .string s', .slice cA' cn' cc', .slice kA' kn' kc'] 25)).alloc (.cells #[.slice (some ⟨w.heap.size + 2, 0, none⟩) 2 2] 22)
  have c3 := (Ten.new ((w.alloc (.cells #[.int .i64 k, .int .i64 n, .string s, .slice cA cn cc, .slice kA kn kc] 25)).alloc (.cells #[.int .i64 k', .int .i64 n', .string s', .slice cA' cn' cc', .slice kA' kn' kc'] 25)) (.int .i64 k) (.int .i64 n) (.string s) (.slice cA cn cc) (.slice kA kn kc) (.int .i64 k') (.int .i64 n') (.string s') (.slice cA' cn' cc') (.slice kA' kn' kc') 25 (w.heap.size + 2) (by simp)).later ((Below.refl _ _).alloc (Nat.le_refl _) (.cells #[.slice (some ⟨w.heap.size + 2, 0, none⟩) 2 2] 22))
  have c4 : ((((w.alloc (.cells #[.int .i64 k, .int .i64 n, .string s, .slice cA cn cc, .slice kA kn kc] 25)).alloc (.cells #[.int .i64 k', .int .i64 n', .string s', .slice cA' cn' cc', .slice kA' kn' kc'] 25)).alloc (.cells #[.int .i64 k, .int .i64 n, .string s, .slice cA cn cc, .slice kA kn kc, .int .i64 k', .int .i64 n', .string s', .slice cA' cn' cc', .slice kA' kn' kc'] 25)).alloc (.cells #[.slice (some ⟨w.heap.size + 2, 0, none⟩) 2 2] 22)).cell? ⟨w.heap.size + 2 + 1, 0, none⟩ = some (.slice (some ⟨w.heap.size + 2, 0, none⟩) 2 2) := by
    have := (Box.new (((w.alloc (.cells #[.int .i64 k, .int .i64 n, .string s, .slice cA cn cc, .slice kA kn kc] 25)).alloc (.cells #[.int .i64 k', .int .i64 n', .string s', .slice cA' cn' cc', .slice kA' kn' kc'] 25)).alloc (.cells #[.int .i64 k, .int .i64 n, .string s, .slice cA cn cc, .slice kA kn kc, .int .i64 k', .int .i64 n', .string s', .slice cA' cn' cc', .slice kA' kn' kc'] 25)) #[.slice (some ⟨w.heap.size + 2, 0, none⟩) 2 2] 22 0 _ rfl).1
    have e : (((w.alloc (.cells #[.int .i64 k, .int .i64 n, .string s, .slice cA cn cc, .slice kA kn kc] 25)).alloc (.cells #[.int .i64 k', .int .i64 n', .string s', .slice cA' cn' cc', .slice kA' kn' kc'] 25)).alloc (.cells #[.int .i64 k, .int .i64 n, .string s, .slice cA cn cc, .slice kA kn kc, .int .i64 k', .int .i64 n', .string s', .slice cA' cn' cc', .slice kA' kn' kc'] 25)).heap.size = w.heap.size + 2 + 1 := by simp
    rwa [e] at this
  have hrow := two_rows (B := ((((w.alloc (.cells #[.int .i64 k, .int .i64 n, .string s, .slice cA cn cc, .slice kA kn kc] 25)).alloc (.cells #[.int .i64 k', .int .i64 n', .string s', .slice cA' cn' cc', .slice kA' kn' kc'] 25)).alloc (.cells #[.int .i64 k, .int .i64 n, .string s, .slice cA cn cc, .slice kA kn kc, .int .i64 k', .int .i64 n', .string s', .slice cA' cn' cc', .slice kA' kn' kc'] 25)).alloc (.cells #[.slice (some ⟨w.heap.size + 2, 0, none⟩) 2 2] 22)).heap.size) ((hL.later (hb.mono hB)).more (Nat.le_trans hB hb.size)) ((hL'.later (hb.mono hB)).more (Nat.le_trans hB hb.size)) (ten_cells c3) (by rw [hsz]; omega) c4 (by rw [hsz]; omega)
  have hck := chkI_any w.heap.size (w.heap.size + 1) (fun v E W w' => v = .int .i64 (cmpV (.mk k n s cA cn cc kA kn kc keys kids) (.mk k' n' s' cA' cn' cc' kA' kn' kc' keys' kids')) ∧ E = 0 ∧ Below W.heap.size W w') _ 1 1 _ _ ((((w.alloc (.cells #[.int .i64 k, .int .i64 n, .string s, .slice cA cn cc, .slice kA kn kc] 25)).alloc (.cells #[.int .i64 k', .int .i64 n', .string s', .slice cA' cn' cc', .slice kA' kn' kc'] 25)).alloc (.cells #[.int .i64 k, .int .i64 n, .string s, .slice cA cn cc, .slice kA kn kc, .int .i64 k', .int .i64 n', .string s', .slice cA' cn' cc', .slice kA' kn' kc'] 25)).alloc (.cells #[.slice (some ⟨w.heap.size + 2, 0, none⟩) 2 2] 22)) hrow (Nat.le_refl _) (by decide) (htab.below hb htab.lt) (hst.below hb hst.lt) (fun hok W hbW => by
    have hok' : (VT.mk k n s cA cn cc kA kn kc keys kids).ok = true ∧ (VT.mk k' n' s' cA' cn' cc' kA' kn' kc' keys' kids').ok = true := by simpa [okR] using hok
    have hb2 := bel_next hb hbW
    refine (cmpW_any _ _ B w.heap.size (w.heap.size + 1) W (hL.later (hb2.mono hB)) (hL'.later (hb2.mono hB)) hok'.1 hok'.2 (Nat.le_trans hB hb2.size) (hr.below hb2 hr.lt) (five_cells (c1.later hbW)) (five_cells (c2.later hbW))).mono ?_
    rintro e w' ⟨rfl, hb3⟩
    exact ⟨_, _, rfl, rfl, rfl, hb3⟩)
  have Hp := Lib.hid (fun h : okR [⟨some ⟨w.heap.size + 2, 0, none⟩, 2, 2, [.mk k n s cA cn cc kA kn kc keys kids, .mk k' n' s' cA' cn' cc' kA' kn' kc' keys' kids']⟩] = false => (by
    have : ((VT.mk k n s cA cn cc kA kn kc keys kids).ok && (VT.mk k' n' s' cA' cn' cc' kA' kn' kc' keys' kids').ok) = false := by rw [← h]; simp [okR]
    unfold cmpT; rw [this]; rfl : cmpT (.mk k n s cA cn cc kA kn kc keys kids) (.mk k' n' s' cA' cn' cc' kA' kn' kc' keys' kids') = .tuple #[.int .i64 0, .int .i64 140]))
  have Hq := Lib.hid (fun h : okR [⟨some ⟨w.heap.size + 2, 0, none⟩, 2, 2, [.mk k n s cA cn cc kA kn kc keys kids, .mk k' n' s' cA' cn' cc' kA' kn' kc' keys' kids']⟩] = true => (by
    have : ((VT.mk k n s cA cn cc kA kn kc keys kids).ok && (VT.mk k' n' s' cA' cn' cc' kA' kn' kc' keys' kids').ok) = true := by rw [← h]; simp [okR]
    unfold cmpT; rw [this]; rfl : cmpT (.mk k n s cA cn cc kA kn kc keys kids) (.mk k' n' s' cA' cn' cc' kA' kn' kc' keys' kids') = .tuple #[.int .i64 (cmpV (.mk k n s cA cn cc kA kn kc keys kids) (.mk k' n' s' cA' cn' cc' kA' kn' kc' keys' kids')), .int .i64 0]))
  obtain ⟨⟨v0, v1, v2, v3, v4⟩, -⟩ := c1
  obtain ⟨⟨u0, u1, u2, u3, u4⟩, -⟩ := c2
  simp only [VT.agg]
  generalize cmpT (.mk k n s cA cn cc kA kn kc keys kids) (.mk k' n' s' cA' cn' cc' kA' kn' kc' keys' kids') = cr at *
  generalize cmpV (.mk k n s cA cn cc kA kn kc keys kids) (.mk k' n' s' cA' cn' cc' kA' kn' kc' keys' kids') = cv at *
  clear hL hL' htab hst hr hrow c3 c4 hsz
  go_enter Tryd.func11, Tryd.ntmps11
  go_wp2_with fail
  refine hck.mono ?_
  rintro e w1 (⟨h1, rfl, hb1⟩ | ⟨h1, v, E, W, rfl, hbW, rfl, rfl, hb1⟩)
  · have h2 := Lib.hid (Hp.out h1)
    clear hck h1 Hp Hq
    go_wp2
    go_ret2
    exact ⟨by rw [h2.out]; rfl, bel_next hb hb1⟩
  · have h2 := Lib.hid (Hq.out h1)
    clear hck h1 Hp Hq
    go_wp2
    go_ret2
    exact ⟨by rw [h2.out]; rfl, bel_next hb (bel_next hbW hb1)⟩
end Go.Proofs.YtndolgbbochpjaaDoor
/-
  Layer 7: Sort.
-/
namespace Go.Proofs.YtndolgbbochpjaaDoor
open Go.RowKit
set_option linter.unusedVariables false

set_option maxRecDepth 20000 in
set_option maxHeartbeats 1000000 in
theorem sortW_any (A : Option Addr) (n c B p : Nat) (L : List VT) (w : World) (h : Shows w B 5 A n (L.flatMap VT.cells)) (hL : ∀ x ∈ L, Lie w B x ∧ x.ok = true) (hB : B ≤ w.heap.size) (hn : n ≤ 20) (hA : A = none → c = 0) (hnc : n ≤ c) (hr : RTab w)
    (hp : w.cell? ⟨p, 0, none⟩ = some (.slice A n c)) :
    Calls Tryd.prog 35 #[.pointer (some ⟨p, 0, none⟩)] w fun e w' =>
      ∃ v E, e = .returned (.tuple #[v, .int .i64 E]) ∧ (∃ A' c' L2, v = .slice A' n c' ∧ E = 0 ∧ Hid (Shows w' w'.heap.size 5 A' n (L2.flatMap VT.cells)) ∧ Hid (L2.Perm L ∧ Rise L2) ∧ Below w.heap.size w w') := by
  have Hs := Lib.hid (fun A1 c1 w1 (ho : w1.ownsRow w.heap.size 25 5 (.slice A1 n c1) n (L.flatMap VT.cells)) (hb : Below w.heap.size w w1) =>
    sortS_any A1 n c1 w.heap.size L w.heap.size w1 ho hb.size (Nat.le_refl _) hn (fun x hx => ⟨(((hL x hx).1.more hB).later hb), (hL x hx).2⟩) (hr.below hb hr.lt) hr.lt)
  have hcl := cloneV_any A n c (L.flatMap VT.cells) B w h (vcells_one L) hA hB (by omega)
  clear h hL hr
  go_enter Tryd.func35, Tryd.ntmps35
  go_wp2_with fail
  refine hcl.mono ?_
  rintro e w1 ⟨A1, c1, rfl, ho, hb1⟩
  have hs := Hs.out A1 c1 w1 ho hb1
  clear hcl ho
  go_wp2_with fail
  refine hs.mono ?_
  rintro e w2 ⟨rfl, L2, H1, H2, hb2, -⟩
  clear hs
  go_wp2
  go_ret2
  exact ⟨_, _, rfl, A1, c1, L2, rfl, rfl, H1, H2, hb1.trans hb2⟩
theorem one_row {w : World} {B g n c : Nat} {A : Option Addr} {L : List VT} (h : Shows w B 5 A n (L.flatMap VT.cells)) (hL : ∀ x ∈ L, Lie w B x) (hn : n ≤ 1000) (h1 : w.cell? ⟨g, 0, none⟩ = some (.slice A n c)) (hg : g < B) :
    RowsOf w B (some ⟨g, 0, none⟩) 1 [⟨A, n, c, L⟩] := by
  refine ⟨⟨rfl, fun _ => ⟨g, 0, rfl, hg, fun i v hv => ?_⟩⟩, fun r hr => ?_⟩
  · cases i with
    | zero => injection hv with hv; subst hv; exact h1
    | succ i => simp at hv
  · rw [List.mem_singleton] at hr
    subst hr
    exact ⟨h, hL, hn⟩
set_option maxRecDepth 20000 in
set_option maxHeartbeats 1000000 in
theorem sortT_any (A : Option Addr) (n c B : Nat) (L : List VT) (w : World) (h : Shows w B 5 A n (L.flatMap VT.cells)) (hL : ∀ x ∈ L, Lie w B x) (hB : B ≤ w.heap.size) (hn : n ≤ 20) (hA : A = none → c = 0) (hnc : n ≤ c) (htab : UTab w) (hst : STab w) (hr : RTab w) :
    Calls Tryd.prog 15 #[.slice A n c] w fun e w' => (((L.all VT.ok) = false ∧ e = .returned (.tuple #[.slice none 0 0, .int .i64 140])) ∨
      (L.all VT.ok = true ∧ ∃ A' c' L2, e = .returned (.tuple #[.slice A' n c', .int .i64 0]) ∧ Hid (Shows w' w'.heap.size 5 A' n (L2.flatMap VT.cells)) ∧ Hid (L2.Perm L ∧ Rise L2))) ∧ Below w.heap.size w w' := by
  have hb := bel_alloc (bel_alloc (Below.refl w.heap.size w) (.cells #[.slice A n c] 22)) (.cells #[.slice A n c] 22)
  have hsz : ((w.alloc (.cells #[.slice A n c] 22)).alloc (.cells #[.slice A n c] 22)).heap.size = w.heap.size + 2 := by simp
  have c1 : ((w.alloc (.cells #[.slice A n c] 22)).alloc (.cells #[.slice A n c] 22)).cell? ⟨w.heap.size, 0, none⟩ = some (.slice A n c) := by
    have := ((Box.new w #[.slice A n c] 22).alloc (.cells #[.slice A n c] 22) 0 _ rfl).1
    exact this
  have c2 : ((w.alloc (.cells #[.slice A n c] 22)).alloc (.cells #[.slice A n c] 22)).cell? ⟨w.heap.size + 1, 0, none⟩ = some (.slice A n c) := by
    have := (Box.new (w.alloc (.cells #[.slice A n c] 22)) #[.slice A n c] 22 0 _ rfl).1
    have e : (w.alloc (.cells #[.slice A n c] 22)).heap.size = w.heap.size + 1 := by simp
    rwa [e] at this
  have hrow := one_row (B := ((w.alloc (.cells #[.slice A n c] 22)).alloc (.cells #[.slice A n c] 22)).heap.size) ((h.below (hb.mono hB)).more (Nat.le_trans hB hb.size)) (fun x hx => ((hL x hx).later (hb.mono hB)).more (Nat.le_trans hB hb.size)) (by omega) c2 (by rw [hsz]; omega)
  have hck := chkS_any w.heap.size (fun v E W w' => ∃ A' c' L2, v = .slice A' n c' ∧ E = 0 ∧ Hid (Shows w' w'.heap.size 5 A' n (L2.flatMap VT.cells)) ∧ Hid (L2.Perm L ∧ Rise L2) ∧ Below W.heap.size W w') _ 1 1 _ _ ((w.alloc (.cells #[.slice A n c] 22)).alloc (.cells #[.slice A n c] 22)) hrow (Nat.le_refl _) (by decide) (htab.below hb htab.lt) (hst.below hb hst.lt) (fun hok W hbW => by
    have hok' : ∀ x ∈ L, x.ok = true := by simpa [okR] using hok
    have hb2 := bel_next hb hbW
    have hlt : w.heap.size < ((w.alloc (.cells #[.slice A n c] 22)).alloc (.cells #[.slice A n c] 22)).heap.size := by rw [hsz]; omega
    exact sortW_any A n c B w.heap.size L W (h.below (hb2.mono hB)) (fun x hx => ⟨(hL x hx).later (hb2.mono hB), hok' x hx⟩) (Nat.le_trans hB hb2.size) hn hA hnc (hr.below hb2 hr.lt) ((hbW.cell (p := ⟨w.heap.size, 0, none⟩) hlt).trans c1))
  have HO := Lib.hid (by simp [okR] : okR [(⟨A, n, c, L⟩ : RowT)] = L.all VT.ok)
  clear h hL htab hst hr hrow hsz
  go_enter Tryd.func15, Tryd.ntmps15
  go_wp2_with fail
  refine hck.mono ?_
  rintro e w1 (⟨h1, rfl, hb1⟩ | ⟨h1, v, E, W, rfl, hbW, A1, c1', L2, rfl, rfl, H1, H2, hb1⟩)
  · rw [HO.out] at h1
    have h2 := Lib.hid h1
    clear hck h1
    go_wp2
    go_ret2
    exact ⟨.inl ⟨h2.out, rfl⟩, bel_next hb hb1⟩
  · rw [HO.out] at h1
    have h2 := Lib.hid h1
    clear hck h1
    go_wp2
    go_ret2
    exact ⟨.inr ⟨h2.out, A1, c1', L2, rfl, H1, H2⟩, bel_next hb (bel_next hbW hb1)⟩
end Go.Proofs.YtndolgbbochpjaaDoor
