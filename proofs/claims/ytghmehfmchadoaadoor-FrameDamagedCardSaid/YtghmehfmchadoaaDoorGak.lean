import Derived.Test.YtghmehfmchadoaaDoorGaj
import Derived.Test.YtghmehfmchadoaaDoorGae
import Derived.Test.YtghmehfmchadoaaDoorGaf
import Derived.Sort.CutIn
import Derived.WalkMore
import Derived.Deep.QuietTactic
import Derived.BigQuiet
import Derived.Test.YtghmehfmchadoaaDoorGab
/-
  Layer 11: read.
-/
namespace Go.Proofs.YtghmehfmchadoaaDoor
open Go.RowKit Go.Shelf
set_option linter.unusedVariables false
attribute [local go_sem] Oper.semAt_some

/-- The data bytes at a place, as the program sees them. -/
def lineP (X : FileT) (a : Nat) : List (UInt8 × Nat) := if at8 X.all (a - a % 64) = 0 then Fra.pastP a ((rowR X a).drop (a % 64)) else []
/-- What read gives. -/
def RdP (X : FileT) (a : Nat) (w : World) (e : Ending) (w' : World) : Prop :=
  ∃ (p : PcT) (nx : Nat), e = .returned (.tuple #[.slice p.A p.n p.c, .int .i64 (nx : Nat)]) ∧ (p.l, nx) = Fra.rdGo (lineP X a) [] a 7 ∧ p.Ok w' w'.heap.size ∧ Below w.heap.size w w' ∧ (∀ g, g < w.heap.size → AwayP p g) ∧ p.n ≤ 4400 ∧ nx ≤ 600000
/-- The size behind one more byte. -/
def szN (out : List UInt8) (size : Nat) : Nat := if out.length = 2 then 6 + ((out.getD 0 0).toNat * 256 + (out.getD 1 0).toNat) else size
theorem rd_step (x : UInt8) (e : Nat) (q : List (UInt8 × Nat)) (out : List UInt8) (next size : Nat) : Fra.rdGo ((x, e) :: q) out next size = if 4102 < szN (out ++ [x]) size ∨ (out ++ [x]).length = szN (out ++ [x]) size then (out ++ [x], e) else Fra.rdGo q (out ++ [x]) e (szN (out ++ [x]) size) := rfl
theorem past_here {l : List UInt8} {s i : Nat} (hi : i < l.length) (h : (s + i) % 64 ≠ 0) : Fra.pastP (s + i) (l.drop i) = (l.getD i 0, s + i + 1) :: Fra.pastP (s + i + 1) (l.drop (i + 1)) := by
  rw [List.drop_eq_getElem_cons hi, Fra.pastP_in _ _ h, List.getD_eq_getElem?_getD, List.getElem?_eq_getElem hi]
  rfl
theorem past_skip {l : List UInt8} {s i : Nat} (hi : i < l.length) (h : (s + i) % 64 = 0) (h0 : at8 l i = 0) : Fra.pastP (s + i) (l.drop i) = Fra.pastP (s + (i + 1)) (l.drop (i + 1)) := by
  have hx : l[i] = 0 := by
    unfold at8 at h0
    rw [List.getD_eq_getElem?_getD, List.getElem?_eq_getElem hi] at h0
    have h0 : ((l[i]).toNat : Int) = 0 := h0
    apply UInt8.toNat_inj.1
    show _ = 0
    omega
  rw [List.drop_eq_getElem_cons hi, hx, Fra.pastP_at _ h]
  rfl
theorem past_stop {l : List UInt8} {s i : Nat} (h : l.length ≤ i ∨ (i < l.length ∧ (s + i) % 64 = 0 ∧ at8 l i ≠ 0)) : Fra.pastP (s + i) (l.drop i) = [] := by
  rcases h with h | ⟨hi, h, h0⟩
  · rw [List.drop_eq_nil_of_le h, Fra.pastP_nil]
  · rw [List.drop_eq_getElem_cons hi, Fra.pastP_off _ h]
    intro e
    apply h0
    unfold at8
    rw [List.getD_eq_getElem?_getD, List.getElem?_eq_getElem hi]
    show ((l[i]).toNat : Int) = 0
    rw [e]
    rfl
/-- The memory between two rounds, with the bytes that are read. -/
def PJ (w : World) (lp : Obj) (X : FileT) (a : Nat) (p : PcT) (i : Nat) (W : World) : Prop :=
  ∃ v out next size, RM w.heap.size w lp v out next size W ∧ p.Ok W W.heap.size ∧ p.l = rowR X a ∧ Awy p w.heap.size ∧ Apt p v ∧ Fra.rdGo (Fra.pastP (a - a % 64 + i) (p.l.drop i)) out next size = Fra.rdGo (lineP X a) [] a 7 ∧ out.length ≤ i ∧ i ≤ 4288 ∧ next ≤ 600000 ∧ size ≤ 70000
def PX (w : World) (l1 l2 : Obj) (X : FileT) (a : Nat) (W : World) : Prop :=
  ∃ v out next size lp, (lp = l1 ∨ lp = l2) ∧ RM w.heap.size w lp v out next size W ∧ (out, next) = Fra.rdGo (lineP X a) [] a 7 ∧ out.length ≤ 4300 ∧ next ≤ 600000
theorem RM.drewN {n : Nat} {w : World} {lp : Obj} {v : Value} {out : List UInt8} {next size : Nat} {W : World} (h : RM n w lp v out next size W) (k : Nat) : RM n w lp v out next size (W.drewN k) := ⟨h.b1, h.own, h.b2, h.b3, h.d, h.r, below_drewN h.bel k⟩
theorem read_lay (w W1 : World) (X : FileT) (a : Nat) (h : (((((w.alloc (.cells #[.slice X.F.A X.F.n X.F.c, .slice X.lA X.ln X.lc, .int .i64 X.fuse, .int .i64 X.fault, .bool X.off] 25)).alloc (.cells #[.slice none 0 0] 22)).alloc (.cells #[.int .i64 (a : Nat)] 3)).alloc (.cells #[.int .i64 7] 3)).alloc (.cells #[.slice X.F.A X.F.n X.F.c, .slice X.lA X.ln X.lc, .int .i64 X.fuse, .int .i64 X.fault, .bool X.off] 25)).alloc (.cells #[.int .i64 (a : Nat)] 3) = W1) :
    Boxed W1 (w.heap.size + 1) 22 (.slice none 0 0) ∧ Boxed W1 (w.heap.size + 1 + 1) 3 (.int .i64 (a : Nat)) ∧ Boxed W1 (w.heap.size + 1 + 1 + 1) 3 (.int .i64 ((7 : Nat) : Int)) ∧
    FBox W1 (w.heap.size + 1 + 1 + 1 + 1) X ∧ W1.cell? ⟨w.heap.size + 1 + 1 + 1 + 1 + 1, 0, none⟩ = some (.int .i64 (a : Nat)) ∧ Below w.heap.size w W1 := by
  generalize hw1 : w.alloc (.cells #[.slice X.F.A X.F.n X.F.c, .slice X.lA X.ln X.lc, .int .i64 X.fuse, .int .i64 X.fault, .bool X.off] 25) = w1 at h
  have s1 : w1.heap.size = w.heap.size + 1 := by rw [← hw1, World.size_alloc]
  have e1 := Boxed.new w1 22 (.slice none 0 0)
  generalize hw2 : w1.alloc (.cells #[.slice none 0 0] 22) = w2 at *
  have s2 : w2.heap.size = w.heap.size + 1 + 1 := by rw [← hw2, World.size_alloc, s1]
  have e2 := Boxed.new w2 3 (.int .i64 (a : Nat))
  generalize hw3 : w2.alloc (.cells #[.int .i64 (a : Nat)] 3) = w3 at *
  have s3 : w3.heap.size = w.heap.size + 1 + 1 + 1 := by rw [← hw3, World.size_alloc, s2]
  have e3 := Boxed.new w3 3 (.int .i64 ((7 : Nat) : Int))
  have hx : w3.alloc (.cells #[.int .i64 7] 3) = w3.alloc (.cells #[.int .i64 ((7 : Nat) : Int)] 3) := rfl
  rw [hx] at h
  generalize hw4 : w3.alloc (.cells #[.int .i64 ((7 : Nat) : Int)] 3) = w4 at *
  have s4 : w4.heap.size = w.heap.size + 1 + 1 + 1 + 1 := by rw [← hw4, World.size_alloc, s3]
  have e4 := FBox.new w4 X 25
  generalize hw5 : w4.alloc (.cells #[.slice X.F.A X.F.n X.F.c, .slice X.lA X.ln X.lc, .int .i64 X.fuse, .int .i64 X.fault, .bool X.off] 25) = w5 at *
  have s5 : w5.heap.size = w.heap.size + 1 + 1 + 1 + 1 + 1 := by rw [← hw5, World.size_alloc, s4]
  have e5 := Boxed.new w5 3 (.int .i64 (a : Nat))
  rw [s1] at e1
  rw [s2] at e2
  rw [s3] at e3
  rw [s4] at e4
  rw [s5] at e5
  subst h
  refine ⟨?_, ?_, ?_, ?_, e5.cell, ?_⟩
  · rw [← hw5, ← hw4, ← hw3]; exact (((e1.alloc _).alloc _).alloc _).alloc _
  · rw [← hw5, ← hw4]; exact ((e2.alloc _).alloc _).alloc _
  · rw [← hw5]; exact (e3.alloc _).alloc _
  · exact e4.later (bel_alloc (Below.refl _ _) _)
  · rw [← hw5, ← hw4, ← hw3, ← hw2, ← hw1]
    exact bel_alloc (bel_alloc (bel_alloc (bel_alloc (bel_alloc (bel_alloc (Below.refl _ _) _) _) _) _) _) _
/-- The end: what lies in the own row is handed back. -/
theorem read_end {w W : World} {X : FileT} {lp lq : Obj} {a : Nat} {A : Option Addr} {c next size : Nat} {out : List UInt8} (h : RM w.heap.size w lp (.slice A out.length c) out next size W) (hlq : lq.isCells = false) (hrd : (out, next) = Fra.rdGo (lineP X a) [] a 7) (h1 : out.length ≤ 4300) (h2 : next ≤ 600000) :
    RdP X a w (.returned (.tuple #[.slice A out.length c, .int .i64 (next : Nat)])) (W.putObj (w.heap.size + 6) lq) := by
  have hlt := h.lt
  have ho := ownsRow_putObj h.own lq h.d rfl
  obtain ⟨o1, o2, o3⟩ := own_facts ho
  exact ⟨⟨A, out.length, c, out⟩, next, rfl, hrd, ⟨Bytes.own ho, o1, o2, o3⟩, h.bel.grown (grownBy_putObj' W (w.heap.size + 6) lq) (by omega) (fun k e => by cases e; omega), fun g hg => own_away ho (by omega), by show out.length ≤ 4400; omega, h2⟩
theorem wrap_small (x : Int) (h : 0 ≤ x ∧ x ≤ 1000000) : IntKind.i64.wrap x = x := by rw [IntKind.wrap_i64]; omega
theorem size_sum {u0 u1 sz : Nat} (h0 : u0 < 256) (h1 : u1 < 256) (h : sz = 6 + (u0 * 256 + u1)) : IntKind.i64.wrap (IntKind.i64.wrap (6 + IntKind.i64.wrap (IntKind.i64.wrap (u0 : Int) * 256)) + IntKind.i64.wrap (u1 : Int)) = (sz : Int) := by
  rw [wrap_small (u0 : Int) (by omega), wrap_small (u1 : Int) (by omega), wrap_small ((u0 : Int) * 256) (by omega), wrap_small (6 + (u0 : Int) * 256) (by omega), wrap_small (6 + (u0 : Int) * 256 + (u1 : Int)) (by omega)]
  omega
theorem sz_le (out : List UInt8) (size : Nat) (h : size ≤ 70000) : szN out size ≤ 70000 := by
  unfold szN
  split
  · have := (out.getD 0 0).toNat_lt; have := (out.getD 1 0).toNat_lt; omega
  · exact h
set_option maxRecDepth 100000 in
set_option maxHeartbeats 8000000 in
theorem read_any (X : FileT) (a B : Nat) (w : World) (hL : LieF w B X) (hB : B ≤ w.heap.size) (hr : X.right = true) (ha : a < X.all.length) (ha64 : a % 64 ≠ 0) :
    Calls Tryd.prog 41 #[X.agg, .int .i64 (a : Nat)] w (RdP X a w) := by
  have hmax := (right_all hL hr).2
  have hda := fun W => data_any X (a : Int) W
  simp only [FileT.agg, PcT.val] at hda ⊢
  obtain ⟨i0, hi, hz0, hz1, hz2⟩ := u8_info
  refine (callsIn_wide (n := 6)).1 ?_
  refine callsIn_of_wp_marks Tryd.func41 rfl trivial ?_ rfl
  simp only [Tryd.ntmps41, List.size_toArray, List.length_cons, List.length_nil, Nat.reduceAdd, Nat.reduceSub, Array.replicate_succ, Array.replicate_zero, List.push_toArray, List.append_toArray, List.nil_append, List.cons_append]
  refine wpIn_wide.2 ?_
  go_wp2_with fail
  go_step3
  go_wp2_with fail
  go_step3
  go_wp2_with fail
  refine (hda _).mono ?_
  rintro e W1 ⟨rfl, hW1⟩
  clear hda
  go_wp2
  refine (wpIn_wide (n := 6)).1 ?_
  refine range_open rfl (by omega) (gf := 70) (lb := #[.pointer (some ⟨w.heap.size + 1 + 1 + 1 + 1 + 1, 0, none⟩), .pointer (some ⟨w.heap.size + 1 + 1 + 1 + 1, 0, none⟩)]) rfl trivial (enters_of Tryd.func70 (by kernel_rfl) rfl) ?_
  have hsz : W1.heap.size = w.heap.size + 6 := by rw [← hW1]; simp
  obtain ⟨j1, j2, j3, jf, jc, hb1⟩ := read_lay w W1 X a hW1
  clear hW1
  rw [hsz]
  intro fn hfn
  generalize hrec : recOf fn _ _ _ _ _ = rec
  have J0 : RM w.heap.size w (.loop (rec .ready none)) (.slice none 0 0) [] a 7 ((W1.alloc (.deferred (some []))).alloc (.loop (rec .ready none))) ∧ FBox ((W1.alloc (.deferred (some []))).alloc (.loop (rec .ready none))) (w.heap.size + 1 + 1 + 1 + 1) X ∧ ((W1.alloc (.deferred (some []))).alloc (.loop (rec .ready none))).cell? ⟨w.heap.size + 1 + 1 + 1 + 1 + 1, 0, none⟩ = some (.int .i64 (a : Nat)) := by
    have hbb := bel_alloc (bel_alloc (Below.refl W1.heap.size W1) (.deferred (some []))) (.loop (rec .ready none))
    refine ⟨⟨(j1.alloc _).alloc _, World.ownsRow_nil _ _ _ _, (j2.alloc _).alloc _, (j3.alloc _).alloc _, ?_, ?_, hb1.trans (hbb.mono hb1.size)⟩, jf.later hbb, kept_later hbb jc⟩
    · have h := World.alloc_heap_new W1 (.deferred (some []))
      rw [hsz] at h
      exact (Below.heap_alloc _ _ _ (by simp [hsz])).trans h
    · have h := World.alloc_heap_new (W1.alloc (.deferred (some []))) (.loop (rec .ready none))
      rw [World.size_alloc, hsz] at h
      exact h
  have hrl := row_len X a
  have hcall := data_in 5 (by omega) (w.heap.size + 7) (w.heap.size + 1 + 1 + 1 + 1) (w.heap.size + 1 + 1 + 1 + 1 + 1) (w.heap.size + 8) X a
    (fun W => RM w.heap.size w (.loop (rec .ready none)) (.slice none 0 0) [] a 7 W ∧ FBox W (w.heap.size + 1 + 1 + 1 + 1) X ∧ W.cell? ⟨w.heap.size + 1 + 1 + 1 + 1 + 1, 0, none⟩ = some (.int .i64 (a : Nat)))
    (PJ w (.loop (rec .ready none)) X a) (PX w (.loop (rec .ready none)) (.loop (rec .done (some (.exit 0)))) X a) hr ha ha64 ?h0 ?hB ?hZ ?h3 ?hS ?hE ?hY _ J0
  case h0 =>
    rintro W ⟨hm, hf, hc⟩
    exact ⟨hf, hc, (hL.later (hm.bel.mono hB)).more (Nat.le_trans hB hm.bel.size), hm.lt⟩
  case hB =>
    rintro W W' p ⟨hm, hf, hc⟩ hb hpo hpl hpa h0
    refine ⟨_, [], a, 7, hm.later hb, hpo, hpl, fun g h1 h2 => hpa g (by omega) (hL.away (by omega)), fun b off e hn q => (by cases q), ?_, Nat.zero_le _, by omega, by omega, by omega⟩
    unfold lineP
    rw [if_pos h0, hpl, show a - a % 64 + a % 64 = a by omega]
  case hZ =>
    rintro W W' ⟨hm, hf, hc⟩ hb h0
    exact ⟨_, [], a, 7, _, .inl rfl, hm.later hb, by unfold lineP; rw [if_neg h0]; rfl, by simp, by omega⟩
  case h3 =>
    rintro p i W ⟨v, out, next, size, hm, hpo, hpl, -⟩
    exact ⟨hpo, hpl⟩
  case hS =>
    rintro p i W ⟨v, out, next, size, hm, hpo, hpl, hw, hp, hrd, h1, h2, h3, h4⟩ hi h64 h0
    have hpn : p.n ≤ 4288 := by rw [← hpo.len, hpl, hrl]; omega
    exact ⟨v, out, next, size, hm, hpo, hpl, hw, hp, by rw [← past_skip (by rw [hpo.len]; exact hi) (by omega) h0]; exact hrd, by omega, by omega, h3, h4⟩
  case hE =>
    rintro p i W ⟨v, out, next, size, hm, hpo, hpl, hw, hp, hrd, h1, h2, h3, h4⟩ h
    refine ⟨v, out, next, size, _, .inl rfl, hm, ?_, by omega, h3⟩
    rw [past_stop] at hrd
    · exact hrd
    · by_cases hpi : p.n ≤ i
      · exact .inl (by rw [hpo.len]; exact hpi)
      · rcases h with h | ⟨h5, h6⟩
        · exact absurd h hpi
        · exact .inr ⟨by rw [hpo.len]; omega, by omega, h6⟩
  case hY =>
    rintro p i W ⟨v, out, next, size, hm, hpo, hpl, hwy, hpt, hrd, hol, hi88, hnx, hsz7⟩ hin h64
    have hpn : p.n ≤ 4288 := by rw [← hpo.len, hpl, hrl]; omega
    have hl5 := hm.r
    rw [← hrec] at hl5
    refine round_open hfn hl5 rfl ?_
    simp only [hrec]
    obtain ⟨x, hx⟩ : ∃ x, p.l.getD i 0 = x := ⟨_, rfl⟩
    obtain ⟨z, hz⟩ : ∃ z, a - a % 64 + i + 1 = z := ⟨_, rfl⟩
    have hz6 : z ≤ 600000 := by omega
    have hstep := past_here (l := p.l) (s := a - a % 64) (i := i) (by rw [hpo.len]; exact hin) (by omega)
    rw [hx, hz] at hstep
    rw [hstep, rd_step] at hrd
    have hu : at8 p.l i = (x.toNat : Int) := by unfold at8; rw [hx]
    rw [hu, hz]
    have HN : ∀ v' out' W', out' = out ++ [x] → RM w.heap.size w (.loop (rec .busy none)) v' out' z (szN out' size) W' → p.Ok W' W'.heap.size → Apt p v' → ¬ (4102 < szN out' size ∨ out'.length = szN out' size) → PJ w (.loop (rec .ready none)) X a p (i + 1) (W'.putObj (w.heap.size + 7) (.loop (rec .ready none))) := by
      rintro v' out' W' rfl h1 h2 h3 h4
      refine ⟨v', out ++ [x], z, szN (out ++ [x]) size, h1.turn rfl _, pc_turn h2 hwy, hpl, hwy, h3, ?_, by rw [List.length_append]; simp; omega, by omega, hz6, sz_le _ _ hsz7⟩
      rw [show a - a % 64 + (i + 1) = z by omega, ← hrd, if_neg h4]
    have HX : ∀ v' out' W', out' = out ++ [x] → RM w.heap.size w (.loop (rec .busy none)) v' out' z (szN out' size) W' → (4102 < szN out' size ∨ out'.length = szN out' size) → PX w (.loop (rec .ready none)) (.loop (rec .done (some (.exit 0)))) X a (W'.putObj (w.heap.size + 7) (.loop (rec .done (some (.exit 0))))) := by
      rintro v' out' W' rfl h1 h4
      refine ⟨v', out ++ [x], z, szN (out ++ [x]) size, _, .inr rfl, h1.turn rfl _, ?_, by rw [List.length_append]; simp; omega, hz6⟩
      rw [← hrd, if_pos h4]
    have HNX := Lib.hid (And.intro HN HX)
    have hszl := sz_le (out ++ [x]) size hsz7
    clear hl5 J0 j1 j2 j3 jf jc hL hr ha ha64 hmax hstep hu hrd hx hz HN HX hpl hin h64 hrl hb1 hsz
    gi_wp2
    have hr2 := hm.later (bel_alloc (Below.refl W.heap.size W) (.cells #[.int .u8 (x.toNat : Int), .int .i64 (z : Int)] 95))
    have hpo2 := (hpo.later (bel_alloc (Below.refl W.heap.size W) (.cells #[.int .u8 (x.toNat : Int), .int .i64 (z : Int)] 95))).more (bel_alloc (Below.refl W.heap.size W) (.cells #[.int .u8 (x.toNat : Int), .int .i64 (z : Int)] 95)).size
    have hS2 : (W.alloc (.cells #[.int .u8 (x.toNat : Int), .int .i64 (z : Int)] 95)).heap[W.heap.size]? = some (.cells #[.int .u8 (x.toNat : Int), .int .i64 (z : Int)] 95 (0, 0)) := World.alloc_heap_new W _
    refine ⟨hr2.r, ?_⟩
    have hr3 := hr2.turn rfl (.loop (rec .busy none))
    have hpo3 := pc_turn (lp' := .loop (rec .busy none)) hpo2 hwy
    have hlt := hm.lt
    have hS3 := (World.putObj_heap_other (o := .loop (rec .busy none)) (show W.heap.size ≠ w.heap.size + 7 by omega)).trans hS2
    generalize (W.alloc (.cells #[.int .u8 (x.toNat : Int), .int .i64 (z : Int)] 95)).putObj (w.heap.size + 7) (.loop (rec .busy none)) = W3 at *
    have hSn : w.heap.size + 7 < W.heap.size := hlt
    generalize W.heap.size = S0 at *
    clear hm hpo hS2 hr2 hpo2 hlt
    have hr4 := hr3.drew
    have hpo4 : p.Ok W3.drew W3.drew.heap.size := pc_keep hpo3 (Nat.le_refl _) (fun _ _ _ _ _ => rfl)
    have HSb : W3.drew.heap[S0]? = some (.cells #[.int .u8 (x.toNat : Int), .int .i64 (z : Int)] 95 (0, 0)) := hS3
    have HS5 := HSb
    have hty : 95 ≠ 5 := by decide
    have hne2 : S0 ≠ w.heap.size + 1 + 1 := by omega
    have hnew := bytes_new W3.drew [x] #[.int .u8 (x.toNat : Int)] 5 (0, 0) rfl
    have h63 : out.length + 1 ≤ maxLen := by unfold maxLen; omega
    have hbt : (out.length + 1) * 1 ≤ 140737488355328 := by omega
    have hbs : w.heap.size + 6 ≤ (W3.drew.alloc (.cells #[.int .u8 (x.toNat : Int)] 5)).heap.size := by
      have := hr4.lt
      rw [World.size_alloc]
      omega
    have d0 : ∀ W' : World, W'.heap[S0]? = some (.cells #[.int .u8 (x.toNat : Int), .int .i64 (z : Int)] 95 (0, 0)) → W'.cell? ⟨S0, 0, none⟩ = some (.int .u8 (x.toNat : Int)) := fun W' h => by simp [World.cell?, h]
    have d1 : ∀ W' : World, W'.heap[S0]? = some (.cells #[.int .u8 (x.toNat : Int), .int .i64 (z : Int)] 95 (0, 0)) → W'.cell? ⟨S0, 1, none⟩ = some (.int .i64 (z : Int)) := fun W' h => by simp [World.cell?, h]
    gi_wp2
    refine region_round (S := fun W' => W'.heap[S0]? = some (.cells #[.int .u8 (x.toNat : Int), .int .i64 (z : Int)] 95 (0, 0))) (by kernel_rfl) (noDefer_spec (by rfl)) (by rintro ⟨_, _, h⟩; exact h) HS5 (fun hHeld => ?_)
    refine rg_in 1 rfl (by kernel_rfl) (by kernel_rfl) (by kernel_rfl) (by rfl) (v := ?_) (fun _ _ _ h => h) hHeld (fun w hSw => ?_) ?_
    rotate_left
    · (try dsimp only at hSw); go_simp <;> (with_reducible rfl)
    (try simp only [Act.put, List.setIfInBounds_toArray, List.set_cons_zero, List.set_cons_succ])
    refine rg_in 2 rfl (by kernel_rfl) (by kernel_rfl) (by kernel_rfl) (by rfl) (v := ?_) (fun _ _ _ h => h) hHeld (fun w hSw => ?_) ?_
    rotate_left
    · (try dsimp only at hSw); go_simp <;> (with_reducible rfl)
    (try simp only [Act.put, List.setIfInBounds_toArray, List.set_cons_zero, List.set_cons_succ])
    refine rg_in 5 rfl (by kernel_rfl) (by kernel_rfl) (by kernel_rfl) (by rfl) (v := ?_) (fun _ _ _ h => h) hHeld (fun w hSw => ?_) ?_
    rotate_left
    · (try dsimp only at hSw); go_simp <;> (with_reducible rfl)
    (try simp only [Act.put, List.setIfInBounds_toArray, List.set_cons_zero, List.set_cons_succ])
    refine rg_in 6 rfl (by kernel_rfl) (by kernel_rfl) (by kernel_rfl) (by rfl) (v := ?_) (fun _ _ _ h => h) hHeld (fun w hSw => ?_) ?_
    rotate_left
    · (try dsimp only at hSw); go_simp <;> (with_reducible rfl)
    (try simp only [Act.put, List.setIfInBounds_toArray, List.set_cons_zero, List.set_cons_succ])
    refine wpAnyH_ready (rs := [0, 3]) (by kernel_rfl) (by simp) ?_
    refine rg_cons rfl (by rfl) (fun K hK => ?_) ?_
    · have hcl := hr4.b1.cell
      go_simp
      clear hcl
      refine hK.out _ _ hHeld (fun hHeld => ?_)
      clear hK K
      (try simp only [Act.put, List.setIfInBounds_toArray, List.set_cons_zero, List.set_cons_succ])
      refine rg_do 3 rfl (by kernel_rfl) (by rfl) (fun K hK => ?_)
      go_simp
      refine hK.out _ _ (blk_later hHeld (bel_alloc (Below.refl _ _) _)) (fun hHeld => ?_)
      clear hK K
      (try simp only [Act.put, List.setIfInBounds_toArray, List.set_cons_zero, List.set_cons_succ])
      refine rg_do 4 rfl (by kernel_rfl) (by rfl) (fun K hK => ?_)
      refine step_appO _ _ 22 rfl (w.heap.size + 6) 5 i0 (.int .u8 0) 1 1 Tryd.underlying22 hi hz0 hz1 hz2 rfl (by decide) _ _ _ rfl (hr4.own.alloc _) (W3.heap.size + 1) W3.heap.size 1 1 ([x].map bv) rfl hnew (bv_one _) h63 hbt hbs ?_
      intro A7 c7 w7 own7 hg7 hbel7 hor7
      have htk := hr4.took (x := x) rfl HSb hty hSn (bel_alloc (Below.refl _ _) _) hg7 own7 z
      have htp := pc_took (u := .int .i64 (z : Nat)) hpo4 hpt hwy (bel_alloc (Below.refl _ _) _) hg7 hor7
      refine hK.out _ _ htk.2.1 (fun hHeld => ?_)
      clear hK K
      (try simp only [Act.put, List.setIfInBounds_toArray, List.set_cons_zero, List.set_cons_succ])
      refine rg_do 7 rfl (by kernel_rfl) (by rfl) (fun K hK => ?_)
      have hcl := htk.1.cell
      have hcf := htk.1.frozen
      go_simp
      clear hcl hcf
      refine hK.out _ _ htk.2.2.1 (fun hHeld => ?_)
      clear hK K
      (try simp only [Act.put, List.setIfInBounds_toArray, List.set_cons_zero, List.set_cons_succ])
      refine rg_do 8 rfl (by kernel_rfl) (by rfl) (fun K hK => ?_)
      have hcl := htk.2.2.2.1.cell
      have hcf := htk.2.2.2.1.frozen
      go_simp
      clear hcl hcf
      refine hK.out _ _ ((Below.heap_setCell _ _ _ _ hne2).trans htk.2.2.1) (fun hHeld => ?_)
      clear hK K
      (try simp only [Act.put, List.setIfInBounds_toArray, List.set_cons_zero, List.set_cons_succ])
      refine wpAnyH_done (by kernel_rfl) ?_ _
      have hr7 := htk.2.2.2.2
      have hpo7 := htp.1
      have hpt7 := htp.2
      generalize ((w7.setCell ⟨w.heap.size + 1, 0, none⟩ (.slice A7 (out.length + 1) c7)).setCell ⟨w.heap.size + 1 + 1, 0, none⟩ (.int .i64 (z : Nat))) = W7 at *
      clear hHeld htk htp own7 hg7 hbel7 hor7 hr3 hpo3 hS3 hr4 hpo4 HSb HS5 hnew hbs hbt h63 d0 d1 hpt
      have hml : (out ++ [x]).length = out.length + 1 := by simp
      have hm88 : out.length + 1 ≤ 4289 := by omega
      clear hol
      generalize out ++ [x] = o2 at *
      generalize out.length + 1 = m at *
      have hown7 : W7.ownsRow (w.heap.size + 6) 5 1 (.slice A7 m c7) m (o2.map bv) := by
        have := hr7.own
        rwa [hml] at this
      have k1 := hr7.b1.cell
      have k3 := hr7.b3.cell
      have hm0 : (0 : Int) ≤ (m : Int) := by omega
      obtain ⟨sz, hsz⟩ : ∃ sz, szN o2 size = sz := ⟨_, rfl⟩
      rw [hsz] at hszl
      gi_upto_if 24 with fail
      gi_cut [] from 25 (fun wx => Hid (RM w.heap.size w (.loop (rec .busy none)) (.slice A7 m c7) o2 z sz wx) ∧ Hid (p.Ok wx wx.heap.size))
      case first =>
        by_cases hm2 : m = 2
        · subst hm2
          have hb7 := Bytes.own hown7
          obtain ⟨E, off, hA, hEB, hc0⟩ := hb7.cell (k := 0) (by omega)
          obtain ⟨E', off', hA', hEB', hc1⟩ := hb7.cell (k := 1) (by omega)
          rw [hA] at hA'
          injection hA' with hA'
          injection hA' with e1 e2
          subst e1 e2
          rw [Nat.add_zero] at hc0
          have hE6 := (hown7.lt E (by rw [hA]; rfl)).1
          obtain ⟨u0, hu0⟩ : ∃ u0, (o2.getD 0 0).toNat = u0 := ⟨_, rfl⟩
          obtain ⟨u1, hu1⟩ : ∃ u1, (o2.getD 1 0).toNat = u1 := ⟨_, rfl⟩
          have hl0 : u0 < 256 := by rw [← hu0]; exact (o2.getD 0 0).toNat_lt
          have hl1 : u1 < 256 := by rw [← hu1]; exact (o2.getD 1 0).toNat_lt
          rw [show at8 o2 0 = (u0 : Int) from congrArg Int.ofNat hu0] at hc0
          rw [show at8 o2 1 = (u1 : Int) from congrArg Int.ofNat hu1] at hc1
          have hszv : sz = 6 + (u0 * 256 + u1) := by rw [← hsz]; unfold szN; rw [hml, if_pos rfl, hu0, hu1]
          have Hsv := Lib.hid (show IntKind.i64.wrap (IntKind.i64.wrap (6 + IntKind.i64.wrap (IntKind.i64.wrap (u0 : Int) * 256)) + IntKind.i64.wrap (u1 : Int)) = (sz : Int) from size_sum hl0 hl1 hszv)
          subst hA
          have HRM := Lib.hid (hr7.sized sz)
          have HPO := Lib.hid (pc_sized (u := .int .i64 (sz : Nat)) hpo7 hwy)
          have k1l := World.block_lt_of_cell? _ _ k1
          have y0 : ∀ W' : World, OnlyG (w.heap.size + 1 + 1 + 1) W7 W' → W'.cell? ⟨w.heap.size + 1, 0, none⟩ = some (.slice (some ⟨E, off, none⟩) 2 c7) := fun W' h => (World.cell?_of_block (h _ k1l (by show w.heap.size + 1 ≠ _; omega))).trans k1
          have y1 : ∀ W' : World, OnlyG (w.heap.size + 1 + 1 + 1) W7 W' → W'.cell? ⟨E, off, none⟩ = some (.int .u8 (u0 : Int)) := fun W' h => (World.cell?_of_block (h _ hEB (by show E ≠ _; omega))).trans hc0
          have y2 : ∀ W' : World, OnlyG (w.heap.size + 1 + 1 + 1) W7 W' → W'.cell? ⟨E, off + 1, none⟩ = some (.int .u8 (u1 : Int)) := fun W' h => (World.cell?_of_block (h _ hEB (by show E ≠ _; omega))).trans hc1
          have HS7 : OnlyG (w.heap.size + 1 + 1 + 1) W7 W7.drew := fun _ _ _ => rfl
          clear hb7 hu0 hu1 hszv hsz hml hown7 k1 k1l hc0 hc1 HNX hpo7 hpt7 hwy
          gi_wp2
          refine region_round (S := fun W' => OnlyG (w.heap.size + 1 + 1 + 1) W7 W') (by kernel_rfl) (noDefer_spec (by rfl)) (by rintro ⟨_, _, h⟩; exact h) HS7 (fun hHeld => ?_)
          refine rg_in 0 rfl (by kernel_rfl) (by kernel_rfl) (by kernel_rfl) (by rfl) (v := ?_) (fun _ _ _ h => h) hHeld (fun w hSw => ?_) ?_
          rotate_left
          · (try dsimp only at hSw); go_simp <;> (with_reducible rfl)
          (try simp only [Act.put, List.setIfInBounds_toArray, List.set_cons_zero, List.set_cons_succ])
          refine rg_in 1 rfl (by kernel_rfl) (by kernel_rfl) (by kernel_rfl) (by rfl) (v := ?_) (fun _ _ _ h => h) hHeld (fun w hSw => ?_) ?_
          rotate_left
          · (try dsimp only at hSw); go_simp <;> (with_reducible rfl)
          (try simp only [Act.put, List.setIfInBounds_toArray, List.set_cons_zero, List.set_cons_succ])
          refine rg_in 2 rfl (by kernel_rfl) (by kernel_rfl) (by kernel_rfl) (by rfl) (v := ?_) (fun _ _ _ h => h) hHeld (fun w hSw => ?_) ?_
          rotate_left
          · (try dsimp only at hSw); go_simp <;> (with_reducible rfl)
          (try simp only [Act.put, List.setIfInBounds_toArray, List.set_cons_zero, List.set_cons_succ])
          refine rg_in 3 rfl (by kernel_rfl) (by kernel_rfl) (by kernel_rfl) (by rfl) (v := ?_) (fun _ _ _ h => h) hHeld (fun w hSw => ?_) ?_
          rotate_left
          · (try dsimp only at hSw); go_simp <;> (with_reducible rfl)
          (try simp only [Act.put, List.setIfInBounds_toArray, List.set_cons_zero, List.set_cons_succ])
          refine rg_in 4 rfl (by kernel_rfl) (by kernel_rfl) (by kernel_rfl) (by rfl) (v := ?_) (fun _ _ _ h => h) hHeld (fun w hSw => ?_) ?_
          rotate_left
          · (try dsimp only at hSw); go_simp <;> (with_reducible rfl)
          (try simp only [Act.put, List.setIfInBounds_toArray, List.set_cons_zero, List.set_cons_succ])
          refine rg_in 5 rfl (by kernel_rfl) (by kernel_rfl) (by kernel_rfl) (by rfl) (v := ?_) (fun _ _ _ h => h) hHeld (fun w hSw => ?_) ?_
          rotate_left
          · (try dsimp only at hSw); go_simp <;> (with_reducible rfl)
          (try simp only [Act.put, List.setIfInBounds_toArray, List.set_cons_zero, List.set_cons_succ])
          refine rg_in 6 rfl (by kernel_rfl) (by kernel_rfl) (by kernel_rfl) (by rfl) (v := ?_) (fun _ _ _ h => h) hHeld (fun w hSw => ?_) ?_
          rotate_left
          · (try dsimp only at hSw); go_simp <;> (with_reducible rfl)
          (try simp only [Act.put, List.setIfInBounds_toArray, List.set_cons_zero, List.set_cons_succ])
          refine rg_in 7 rfl (by kernel_rfl) (by kernel_rfl) (by kernel_rfl) (by rfl) (v := ?_) (fun _ _ _ h => h) hHeld (fun w hSw => ?_) ?_
          rotate_left
          · (try dsimp only at hSw); go_simp <;> (with_reducible rfl)
          (try simp only [Act.put, List.setIfInBounds_toArray, List.set_cons_zero, List.set_cons_succ])
          refine rg_in 8 rfl (by kernel_rfl) (by kernel_rfl) (by kernel_rfl) (by rfl) (v := ?_) (fun _ _ _ h => h) hHeld (fun w hSw => ?_) ?_
          rotate_left
          · (try dsimp only at hSw); go_simp <;> (with_reducible rfl)
          (try simp only [Act.put, List.setIfInBounds_toArray, List.set_cons_zero, List.set_cons_succ])
          refine rg_in 9 rfl (by kernel_rfl) (by kernel_rfl) (by kernel_rfl) (by rfl) (v := ?_) (fun _ _ _ h => h) hHeld (fun w hSw => ?_) ?_
          rotate_left
          · (try dsimp only at hSw); go_simp <;> (with_reducible rfl)
          (try simp only [Act.put, List.setIfInBounds_toArray, List.set_cons_zero, List.set_cons_succ])
          refine rg_in 10 rfl (by kernel_rfl) (by kernel_rfl) (by kernel_rfl) (by rfl) (v := ?_) (fun _ _ _ h => h) hHeld (fun w hSw => ?_) ?_
          rotate_left
          · (try dsimp only at hSw); go_simp <;> (with_reducible rfl)
          (try simp only [Act.put, List.setIfInBounds_toArray, List.set_cons_zero, List.set_cons_succ])
          refine rg_do 11 rfl (by kernel_rfl) (by rfl) (fun K hK => ?_)
          have hcl := hr7.b3.cell
          have hcf := hr7.b3.frozen
          go_simp
          clear hcl hcf
          refine hK.out _ _ (OnlyG.set hHeld 0 _) (fun hHeld => ?_)
          clear hK K
          (try simp only [Act.put, List.setIfInBounds_toArray, List.set_cons_zero, List.set_cons_succ])
          refine wpAnyH_done (by kernel_rfl) ?_ _
          clear hHeld y0 y1 y2 hr7
          gi_wp2
          gi_meet
          case rel => rw [Hsv.out]; exact ⟨Lib.hid HRM.out.drew, Lib.hid (pc_keep HPO.out (Nat.le_refl _) (fun _ _ _ _ _ => rfl))⟩
        · have hmf : ((m : Int) == 2) = false := by rw [beq_eq_false_iff_ne]; omega
          have hszv : sz = size := by rw [← hsz]; unfold szN; rw [hml, if_neg hm2]
          rw [← hszv] at hr7
          have HRM := Lib.hid hr7
          have HPO := Lib.hid hpo7
          clear hr7 hpo7 hszv hm2
          gi_wp2
          gi_meet
          case rel => exact ⟨HRM, HPO⟩
      case rest =>
        obtain ⟨HRM, HPO⟩ := hcut
        have k1' := HRM.out.b1.cell
        have k3' := HRM.out.b3.cell
        have hszn := Lib.hid hsz
        have hml2 := Lib.hid hml
        have hsz0 : (0 : Int) ≤ (sz : Int) := by omega
        clear k1 k3 hr7 hpo7 hown7 hsz hml
        by_cases hbig : 4102 < sz
        · have hb1 : ((4102 : Int) < (sz : Int)) = True := by simp; omega
          have HE := Lib.hid (HNX.out.2 _ o2 wc rfl (by rw [hszn.out]; exact HRM.out) (.inl (by rw [hszn.out]; exact hbig)))
          have hrr := HRM.out.r
          clear HNX HRM HPO hbig
          gi_wp2
          exact ⟨hrr, false, rfl, nofun, fun _ => HE.out⟩
        · have hb1 : ((4102 : Int) < (sz : Int)) = False := by simp; omega
          by_cases heq : m = sz
          · have hb2 : ((m : Int) == (sz : Int)) = true := by rw [beq_iff_eq]; omega
            have HE := Lib.hid (HNX.out.2 _ o2 wc rfl (by rw [hszn.out]; exact HRM.out) (.inr (by rw [hszn.out, hml2.out]; exact heq)))
            have hrr := HRM.out.r
            clear HNX HRM HPO hbig heq
            gi_wp2
            exact ⟨hrr, false, rfl, nofun, fun _ => HE.out⟩
          · have hb2 : ((m : Int) == (sz : Int)) = false := by rw [beq_eq_false_iff_ne]; omega
            have HE := Lib.hid (HNX.out.1 _ o2 wc rfl (by rw [hszn.out]; exact HRM.out) HPO.out hpt7 (by rw [hszn.out, hml2.out]; omega))
            have hrr := HRM.out.r
            clear HNX HRM HPO hbig heq
            gi_wp2
            exact ⟨hrr, true, rfl, fun _ => HE.out, nofun⟩
    refine rg_cons rfl (by rfl) (fun K hK => ?_) ?_
    · go_simp
      refine hK.out _ _ (blk_later hHeld (bel_alloc (Below.refl _ _) _)) (fun hHeld => ?_)
      clear hK K
      (try simp only [Act.put, List.setIfInBounds_toArray, List.set_cons_zero, List.set_cons_succ])
      refine rg_do 0 rfl (by kernel_rfl) (by rfl) (fun K hK => ?_)
      have hcl : (W3.alloc (.cells #[.int .u8 (x.toNat : Int)] 5)).cell? ⟨w.heap.size + 1, 0, none⟩ = some v := (hr3.later (bel_alloc (Below.refl W3.heap.size W3) (.cells #[.int .u8 (x.toNat : Int)] 5))).b1.cell
      go_simp
      clear hcl
      refine hK.out _ _ hHeld (fun hHeld => ?_)
      clear hK K
      (try simp only [Act.put, List.setIfInBounds_toArray, List.set_cons_zero, List.set_cons_succ])
      refine rg_do 4 rfl (by kernel_rfl) (by rfl) (fun K hK => ?_)
      refine step_appO _ _ 22 rfl (w.heap.size + 6) 5 i0 (.int .u8 0) 1 1 Tryd.underlying22 hi hz0 hz1 hz2 rfl (by decide) _ _ _ rfl (hr4.own.alloc _) (W3.heap.size + 1) W3.heap.size 1 1 ([x].map bv) rfl hnew (bv_one _) h63 hbt hbs ?_
      intro A7 c7 w7 own7 hg7 hbel7 hor7
      have htk := hr4.took (x := x) rfl HSb hty hSn (bel_alloc (Below.refl _ _) _) hg7 own7 z
      have htp := pc_took (u := .int .i64 (z : Nat)) hpo4 hpt hwy (bel_alloc (Below.refl _ _) _) hg7 hor7
      refine hK.out _ _ htk.2.1 (fun hHeld => ?_)
      clear hK K
      (try simp only [Act.put, List.setIfInBounds_toArray, List.set_cons_zero, List.set_cons_succ])
      refine rg_do 7 rfl (by kernel_rfl) (by rfl) (fun K hK => ?_)
      have hcl := htk.1.cell
      have hcf := htk.1.frozen
      go_simp
      clear hcl hcf
      refine hK.out _ _ htk.2.2.1 (fun hHeld => ?_)
      clear hK K
      (try simp only [Act.put, List.setIfInBounds_toArray, List.set_cons_zero, List.set_cons_succ])
      refine rg_do 8 rfl (by kernel_rfl) (by rfl) (fun K hK => ?_)
      have hcl := htk.2.2.2.1.cell
      have hcf := htk.2.2.2.1.frozen
      go_simp
      clear hcl hcf
      refine hK.out _ _ ((Below.heap_setCell _ _ _ _ hne2).trans htk.2.2.1) (fun hHeld => ?_)
      clear hK K
      (try simp only [Act.put, List.setIfInBounds_toArray, List.set_cons_zero, List.set_cons_succ])
      refine wpAnyH_done (by kernel_rfl) ?_ _
      have hr7 := htk.2.2.2.2
      have hpo7 := htp.1
      have hpt7 := htp.2
      generalize ((w7.setCell ⟨w.heap.size + 1, 0, none⟩ (.slice A7 (out.length + 1) c7)).setCell ⟨w.heap.size + 1 + 1, 0, none⟩ (.int .i64 (z : Nat))) = W7 at *
      clear hHeld htk htp own7 hg7 hbel7 hor7 hr3 hpo3 hS3 hr4 hpo4 HSb HS5 hnew hbs hbt h63 d0 d1 hpt
      have hml : (out ++ [x]).length = out.length + 1 := by simp
      have hm88 : out.length + 1 ≤ 4289 := by omega
      clear hol
      generalize out ++ [x] = o2 at *
      generalize out.length + 1 = m at *
      have hown7 : W7.ownsRow (w.heap.size + 6) 5 1 (.slice A7 m c7) m (o2.map bv) := by
        have := hr7.own
        rwa [hml] at this
      have k1 := hr7.b1.cell
      have k3 := hr7.b3.cell
      have hm0 : (0 : Int) ≤ (m : Int) := by omega
      obtain ⟨sz, hsz⟩ : ∃ sz, szN o2 size = sz := ⟨_, rfl⟩
      rw [hsz] at hszl
      gi_upto_if 24 with fail
      gi_cut [] from 25 (fun wx => Hid (RM w.heap.size w (.loop (rec .busy none)) (.slice A7 m c7) o2 z sz wx) ∧ Hid (p.Ok wx wx.heap.size))
      case first =>
        by_cases hm2 : m = 2
        · subst hm2
          have hb7 := Bytes.own hown7
          obtain ⟨E, off, hA, hEB, hc0⟩ := hb7.cell (k := 0) (by omega)
          obtain ⟨E', off', hA', hEB', hc1⟩ := hb7.cell (k := 1) (by omega)
          rw [hA] at hA'
          injection hA' with hA'
          injection hA' with e1 e2
          subst e1 e2
          rw [Nat.add_zero] at hc0
          have hE6 := (hown7.lt E (by rw [hA]; rfl)).1
          obtain ⟨u0, hu0⟩ : ∃ u0, (o2.getD 0 0).toNat = u0 := ⟨_, rfl⟩
          obtain ⟨u1, hu1⟩ : ∃ u1, (o2.getD 1 0).toNat = u1 := ⟨_, rfl⟩
          have hl0 : u0 < 256 := by rw [← hu0]; exact (o2.getD 0 0).toNat_lt
          have hl1 : u1 < 256 := by rw [← hu1]; exact (o2.getD 1 0).toNat_lt
          rw [show at8 o2 0 = (u0 : Int) from congrArg Int.ofNat hu0] at hc0
          rw [show at8 o2 1 = (u1 : Int) from congrArg Int.ofNat hu1] at hc1
          have hszv : sz = 6 + (u0 * 256 + u1) := by rw [← hsz]; unfold szN; rw [hml, if_pos rfl, hu0, hu1]
          have Hsv := Lib.hid (show IntKind.i64.wrap (IntKind.i64.wrap (6 + IntKind.i64.wrap (IntKind.i64.wrap (u0 : Int) * 256)) + IntKind.i64.wrap (u1 : Int)) = (sz : Int) from size_sum hl0 hl1 hszv)
          subst hA
          have HRM := Lib.hid (hr7.sized sz)
          have HPO := Lib.hid (pc_sized (u := .int .i64 (sz : Nat)) hpo7 hwy)
          have k1l := World.block_lt_of_cell? _ _ k1
          have y0 : ∀ W' : World, OnlyG (w.heap.size + 1 + 1 + 1) W7 W' → W'.cell? ⟨w.heap.size + 1, 0, none⟩ = some (.slice (some ⟨E, off, none⟩) 2 c7) := fun W' h => (World.cell?_of_block (h _ k1l (by show w.heap.size + 1 ≠ _; omega))).trans k1
          have y1 : ∀ W' : World, OnlyG (w.heap.size + 1 + 1 + 1) W7 W' → W'.cell? ⟨E, off, none⟩ = some (.int .u8 (u0 : Int)) := fun W' h => (World.cell?_of_block (h _ hEB (by show E ≠ _; omega))).trans hc0
          have y2 : ∀ W' : World, OnlyG (w.heap.size + 1 + 1 + 1) W7 W' → W'.cell? ⟨E, off + 1, none⟩ = some (.int .u8 (u1 : Int)) := fun W' h => (World.cell?_of_block (h _ hEB (by show E ≠ _; omega))).trans hc1
          have HS7 : OnlyG (w.heap.size + 1 + 1 + 1) W7 W7.drew := fun _ _ _ => rfl
          clear hb7 hu0 hu1 hszv hsz hml hown7 k1 k1l hc0 hc1 HNX hpo7 hpt7 hwy
          gi_wp2
          refine region_round (S := fun W' => OnlyG (w.heap.size + 1 + 1 + 1) W7 W') (by kernel_rfl) (noDefer_spec (by rfl)) (by rintro ⟨_, _, h⟩; exact h) HS7 (fun hHeld => ?_)
          refine rg_in 0 rfl (by kernel_rfl) (by kernel_rfl) (by kernel_rfl) (by rfl) (v := ?_) (fun _ _ _ h => h) hHeld (fun w hSw => ?_) ?_
          rotate_left
          · (try dsimp only at hSw); go_simp <;> (with_reducible rfl)
          (try simp only [Act.put, List.setIfInBounds_toArray, List.set_cons_zero, List.set_cons_succ])
          refine rg_in 1 rfl (by kernel_rfl) (by kernel_rfl) (by kernel_rfl) (by rfl) (v := ?_) (fun _ _ _ h => h) hHeld (fun w hSw => ?_) ?_
          rotate_left
          · (try dsimp only at hSw); go_simp <;> (with_reducible rfl)
          (try simp only [Act.put, List.setIfInBounds_toArray, List.set_cons_zero, List.set_cons_succ])
          refine rg_in 2 rfl (by kernel_rfl) (by kernel_rfl) (by kernel_rfl) (by rfl) (v := ?_) (fun _ _ _ h => h) hHeld (fun w hSw => ?_) ?_
          rotate_left
          · (try dsimp only at hSw); go_simp <;> (with_reducible rfl)
          (try simp only [Act.put, List.setIfInBounds_toArray, List.set_cons_zero, List.set_cons_succ])
          refine rg_in 3 rfl (by kernel_rfl) (by kernel_rfl) (by kernel_rfl) (by rfl) (v := ?_) (fun _ _ _ h => h) hHeld (fun w hSw => ?_) ?_
          rotate_left
          · (try dsimp only at hSw); go_simp <;> (with_reducible rfl)
          (try simp only [Act.put, List.setIfInBounds_toArray, List.set_cons_zero, List.set_cons_succ])
          refine rg_in 4 rfl (by kernel_rfl) (by kernel_rfl) (by kernel_rfl) (by rfl) (v := ?_) (fun _ _ _ h => h) hHeld (fun w hSw => ?_) ?_
          rotate_left
          · (try dsimp only at hSw); go_simp <;> (with_reducible rfl)
          (try simp only [Act.put, List.setIfInBounds_toArray, List.set_cons_zero, List.set_cons_succ])
          refine rg_in 5 rfl (by kernel_rfl) (by kernel_rfl) (by kernel_rfl) (by rfl) (v := ?_) (fun _ _ _ h => h) hHeld (fun w hSw => ?_) ?_
          rotate_left
          · (try dsimp only at hSw); go_simp <;> (with_reducible rfl)
          (try simp only [Act.put, List.setIfInBounds_toArray, List.set_cons_zero, List.set_cons_succ])
          refine rg_in 6 rfl (by kernel_rfl) (by kernel_rfl) (by kernel_rfl) (by rfl) (v := ?_) (fun _ _ _ h => h) hHeld (fun w hSw => ?_) ?_
          rotate_left
          · (try dsimp only at hSw); go_simp <;> (with_reducible rfl)
          (try simp only [Act.put, List.setIfInBounds_toArray, List.set_cons_zero, List.set_cons_succ])
          refine rg_in 7 rfl (by kernel_rfl) (by kernel_rfl) (by kernel_rfl) (by rfl) (v := ?_) (fun _ _ _ h => h) hHeld (fun w hSw => ?_) ?_
          rotate_left
          · (try dsimp only at hSw); go_simp <;> (with_reducible rfl)
          (try simp only [Act.put, List.setIfInBounds_toArray, List.set_cons_zero, List.set_cons_succ])
          refine rg_in 8 rfl (by kernel_rfl) (by kernel_rfl) (by kernel_rfl) (by rfl) (v := ?_) (fun _ _ _ h => h) hHeld (fun w hSw => ?_) ?_
          rotate_left
          · (try dsimp only at hSw); go_simp <;> (with_reducible rfl)
          (try simp only [Act.put, List.setIfInBounds_toArray, List.set_cons_zero, List.set_cons_succ])
          refine rg_in 9 rfl (by kernel_rfl) (by kernel_rfl) (by kernel_rfl) (by rfl) (v := ?_) (fun _ _ _ h => h) hHeld (fun w hSw => ?_) ?_
          rotate_left
          · (try dsimp only at hSw); go_simp <;> (with_reducible rfl)
          (try simp only [Act.put, List.setIfInBounds_toArray, List.set_cons_zero, List.set_cons_succ])
          refine rg_in 10 rfl (by kernel_rfl) (by kernel_rfl) (by kernel_rfl) (by rfl) (v := ?_) (fun _ _ _ h => h) hHeld (fun w hSw => ?_) ?_
          rotate_left
          · (try dsimp only at hSw); go_simp <;> (with_reducible rfl)
          (try simp only [Act.put, List.setIfInBounds_toArray, List.set_cons_zero, List.set_cons_succ])
          refine rg_do 11 rfl (by kernel_rfl) (by rfl) (fun K hK => ?_)
          have hcl := hr7.b3.cell
          have hcf := hr7.b3.frozen
          go_simp
          clear hcl hcf
          refine hK.out _ _ (OnlyG.set hHeld 0 _) (fun hHeld => ?_)
          clear hK K
          (try simp only [Act.put, List.setIfInBounds_toArray, List.set_cons_zero, List.set_cons_succ])
          refine wpAnyH_done (by kernel_rfl) ?_ _
          clear hHeld y0 y1 y2 hr7
          gi_wp2
          gi_meet
          case rel => rw [Hsv.out]; exact ⟨Lib.hid HRM.out.drew, Lib.hid (pc_keep HPO.out (Nat.le_refl _) (fun _ _ _ _ _ => rfl))⟩
        · have hmf : ((m : Int) == 2) = false := by rw [beq_eq_false_iff_ne]; omega
          have hszv : sz = size := by rw [← hsz]; unfold szN; rw [hml, if_neg hm2]
          rw [← hszv] at hr7
          have HRM := Lib.hid hr7
          have HPO := Lib.hid hpo7
          clear hr7 hpo7 hszv hm2
          gi_wp2
          gi_meet
          case rel => exact ⟨HRM, HPO⟩
      case rest =>
        obtain ⟨HRM, HPO⟩ := hcut
        have k1' := HRM.out.b1.cell
        have k3' := HRM.out.b3.cell
        have hszn := Lib.hid hsz
        have hml2 := Lib.hid hml
        have hsz0 : (0 : Int) ≤ (sz : Int) := by omega
        clear k1 k3 hr7 hpo7 hown7 hsz hml
        by_cases hbig : 4102 < sz
        · have hb1 : ((4102 : Int) < (sz : Int)) = True := by simp; omega
          have HE := Lib.hid (HNX.out.2 _ o2 wc rfl (by rw [hszn.out]; exact HRM.out) (.inl (by rw [hszn.out]; exact hbig)))
          have hrr := HRM.out.r
          clear HNX HRM HPO hbig
          gi_wp2
          exact ⟨hrr, false, rfl, nofun, fun _ => HE.out⟩
        · have hb1 : ((4102 : Int) < (sz : Int)) = False := by simp; omega
          by_cases heq : m = sz
          · have hb2 : ((m : Int) == (sz : Int)) = true := by rw [beq_iff_eq]; omega
            have HE := Lib.hid (HNX.out.2 _ o2 wc rfl (by rw [hszn.out]; exact HRM.out) (.inr (by rw [hszn.out, hml2.out]; exact heq)))
            have hrr := HRM.out.r
            clear HNX HRM HPO hbig heq
            gi_wp2
            exact ⟨hrr, false, rfl, nofun, fun _ => HE.out⟩
          · have hb2 : ((m : Int) == (sz : Int)) = false := by rw [beq_eq_false_iff_ne]; omega
            have HE := Lib.hid (HNX.out.1 _ o2 wc rfl (by rw [hszn.out]; exact HRM.out) HPO.out hpt7 (by rw [hszn.out, hml2.out]; omega))
            have hrr := HRM.out.r
            clear HNX HRM HPO hbig heq
            gi_wp2
            exact ⟨hrr, true, rfl, fun _ => HE.out, nofun⟩
    exact AllReadyH.nil
  refine hcall.mono ?_
  rintro e B1 ⟨hv, v, out, next, size, lp, hlp, hm, hrd, hol, hnx⟩
  obtain ⟨A4, c4, rfl, -, -⟩ := own_form hm.own
  clear hcall J0 j1 j2 j3 jf jc hrec hfn hb1 hL
  rcases hlp with rfl | rfl
  · refine ⟨hv, .ready, none, hm.r, by simp, ?_⟩
    have hr5 := hm.turn rfl (.loop (rec .exhausted none))
    generalize B1.putObj (w.heap.size + 7) (.loop (rec .exhausted none)) = W5 at *
    have HE := Lib.hid (fun k => read_end (hr5.drewN k) (lq := .deferred none) rfl hrd hol hnx)
    have hK := fun k => (hr5.drewN k).d
    have k1 := hr5.b1.cell
    have k2 := hr5.b2.cell
    clear hm hr5 hrd hol hnx hv
    generalize out.length = j at *
    unfold goesOn
    dsimp only
    go_wp2
    go_quiet (fail)
    go_wp2
    have hK2 := hK nq
    rw [Exit.noGoto_ret]
    refine ⟨by simp, .inl ⟨_, _, rfl, run_takeDeferred hK2, ?_⟩⟩
    refine ⟨_, ?_, HE.out nq⟩
    clear HE hK hK2
    simp [results, Tryd.results41, go_sem, *]
  · refine ⟨hv, .done, _, hm.r, by simp, ?_⟩
    have hr5 := hm.turn rfl (.loop (rec .exhausted (some (.exit 0))))
    generalize B1.putObj (w.heap.size + 7) (.loop (rec .exhausted (some (.exit 0)))) = W5 at *
    have HE := Lib.hid (fun k => read_end (hr5.drewN k) (lq := .deferred none) rfl hrd hol hnx)
    have hK := fun k => (hr5.drewN k).d
    have k1 := hr5.b1.cell
    have k2 := hr5.b2.cell
    clear hm hr5 hrd hol hnx hv
    generalize out.length = j at *
    unfold goesOn
    refine wpIn_wide.2 ?_
    go_wp2
    go_quiet (fail)
    go_wp2
    have hK2 := hK nq
    rw [Exit.noGoto_ret]
    refine ⟨by simp, .inl ⟨_, _, rfl, run_takeDeferred hK2, ?_⟩⟩
    refine ⟨_, ?_, HE.out nq⟩
    clear HE hK hK2
    simp [results, Tryd.results41, go_sem, *]
end Go.Proofs.YtghmehfmchadoaaDoor
/-
  Layer 11: Get.
-/
namespace Go.Proofs.YtghmehfmchadoaaDoor
open Go.RowKit
set_option linter.unusedVariables false

theorem line_get (X : FileT) (a : Nat) (ha : a < X.all.length) (ha64 : a % 64 ≠ 0) : Fra.getP (lineP X a) = Fra.getL X.all a := by
  unfold lineP Fra.getL Fra.startB
  have h64 : (a % 64 == 0) = false := beq_eq_false_iff_ne.2 ha64
  rw [decide_eq_true ha, h64]
  by_cases h : X.all.getD (a - a % 64) 0 = 0
  · have h0 : at8 X.all (a - a % 64) = 0 := by unfold at8; rw [h]; rfl
    rw [if_pos h0, h]
    exact Fra.window X.all a _ ha64 rfl ha
  · have h0 : at8 X.all (a - a % 64) ≠ 0 := fun e => h (by
      unfold at8 at e
      have e : ((X.all.getD (a - a % 64) 0).toNat : Int) = 0 := e
      apply UInt8.toNat_inj.1
      show _ = 0
      omega)
    have hb : (X.all.getD (a - a % 64) 0 == 0) = false := beq_eq_false_iff_ne.2 h
    rw [if_neg h0, hb]
    rfl
theorem line_taken (X : FileT) (a : Nat) (ha : a < X.all.length) (ha64 : a % 64 ≠ 0) {b : List UInt8} {nx : Nat} (h : (b, nx) = Fra.rdGo (lineP X a) [] a 7) : Fra.takenL b nx = Fra.getL X.all a := by
  rw [← line_get X a ha ha64, ← Fra.rd_get (lineP X a) a, ← h]
/-- What Get gives. -/
def GetP (g : Option (List UInt8 × Nat)) (w : World) (e : Ending) (w' : World) : Prop :=
  Below w.heap.size w w' ∧ ((g = none ∧ e = .returned (.tuple #[.slice none 0 0, .int .i64 0, .int .i64 210])) ∨ ∃ (p : PcT) (nx : Nat), g = some (p.l, nx) ∧ e = .returned (.tuple #[.slice p.A p.n p.c, .int .i64 (nx : Nat), .int .i64 0]) ∧ p.Ok w' w'.heap.size ∧ (∀ g, g < w.heap.size → AwayP p g))
set_option maxRecDepth 20000 in
set_option maxHeartbeats 2000000 in
theorem get_bad (X : FileT) (a : Int) (B : Nat) (w : World) (hL : LieF w B X) (hB : B ≤ w.heap.size) (hN : ∀ p ∈ X.Q, p.n ≤ 1048576) (hr : X.right = false) :
    Calls Tryd.prog 20 #[X.agg, .int .i64 a] w fun e w' => e = .returned (.tuple #[.slice none 0 0, .int .i64 0, .int .i64 200]) ∧ Below w.heap.size w w' := by
  have hb1 := bel_alloc (Below.refl w.heap.size w) (.cells #[.slice X.F.A X.F.n X.F.c, .slice X.lA X.ln X.lc, .int .i64 X.fuse, .int .i64 X.fault, .bool X.off] 25)
  obtain ⟨f0, f1, f2, f3, f4⟩ := FBox.new w X 25
  have hch := checkF_any X B _ (hL.later (hb1.mono hB)) (Nat.le_trans hB hb1.size) hN
  rw [hr] at hch
  simp only [FileT.agg, PcT.val] at hch ⊢
  clear hr
  go_enter Tryd.func20, Tryd.ntmps20
  go_wp2_with fail
  refine hch.mono ?_
  rintro e w2 ⟨rfl, hb2⟩
  have hb3 := bel_next hb1 hb2
  clear f0 f1 f2 f3 f4 hch hb1 hb2
  go_wp2
  (try rw [Exit.noGoto_ret])
  go_ret3
  exact ⟨rfl, hb3⟩
set_option maxRecDepth 20000 in
set_option maxHeartbeats 2000000 in
theorem get_no (X : FileT) (a : Int) (B : Nat) (w : World) (hL : LieF w B X) (hB : B ≤ w.heap.size) (hr : X.right = true) (h : a < 0 ∨ (X.all.length : Int) ≤ a ∨ a % 64 = 0) :
    Calls Tryd.prog 20 #[X.agg, .int .i64 a] w fun e w' => e = .returned (.tuple #[.slice none 0 0, .int .i64 0, .int .i64 210]) ∧ Below w.heap.size w w' := by
  have hb1 := bel_alloc (Below.refl w.heap.size w) (.cells #[.slice X.F.A X.F.n X.F.c, .slice X.lA X.ln X.lc, .int .i64 X.fuse, .int .i64 X.fault, .bool X.off] 25)
  have HX := FBox.new w X 25
  obtain ⟨hlong, hmax⟩ := right_all hL hr
  have hch := checkF_any X B _ (hL.later (hb1.mono hB)) (Nat.le_trans hB hb1.size) (right_rows hL hr).1
  rw [if_pos hr] at hch
  have hln := Lib.hid (fun W (h : Below w.heap.size w W) => lenF_any X B W (hL.later (h.mono hB)) (Nat.le_trans hB h.size) (right_rows hL hr).1)
  rw [hr, hlong] at hln
  simp only [if_true] at hln
  simp only [FileT.agg, PcT.val] at hch hln ⊢
  generalize X.all.length = L at *
  clear hr hlong hL
  by_cases h0 : a < 0
  · have h0' : (a < 0) = True := by simp; omega
    obtain ⟨f0, f1, f2, f3, f4⟩ := HX
    clear h
    go_enter Tryd.func20, Tryd.ntmps20
    go_wp2_with fail
    refine hch.mono ?_
    rintro e w2 ⟨rfl, hb2⟩
    have hb3 := bel_next hb1 hb2
    clear f0 f1 f2 f3 f4 hch hb1 hb2
    go_wp2
    (try rw [Exit.noGoto_ret])
    go_ret3
    exact ⟨rfl, hb3⟩
  · have h0' : ¬ a < 0 := h0
    have ha0 : 0 ≤ a := by omega
    by_cases h1 : (L : Int) ≤ a
    · have h1' : ¬ a < (L : Int) := by omega
      go_enter Tryd.func20, Tryd.ntmps20
      obtain ⟨f0, f1, f2, f3, f4⟩ := HX
      clear h
      go_wp2_with fail
      refine hch.mono ?_
      rintro e w2 ⟨rfl, hb2⟩
      have hb3 := bel_next hb1 hb2
      obtain ⟨g0, g1, g2, g3, g4⟩ := FBox.later (X := X) ⟨f0, f1, f2, f3, f4⟩ hb2
      clear f0 f1 f2 f3 f4 hch hb1 hb2
      go_wp2_with fail
      refine (hln.out _ hb3).mono ?_
      rintro e w3 ⟨rfl, hb4⟩
      have hb5 := bel_next hb3 hb4
      clear g0 g1 g2 g3 g4 hb3 hb4 hln
      go_wp2
      (try rw [Exit.noGoto_ret])
      go_ret3
      exact ⟨rfl, hb5⟩
    · have h1' : a < (L : Int) := by omega
      have h2 : a % 64 = 0 := by omega
      have h2' : (a % 64 == 0) = true := by rw [beq_iff_eq]; exact h2
      go_enter Tryd.func20, Tryd.ntmps20
      obtain ⟨f0, f1, f2, f3, f4⟩ := HX
      clear h h2
      go_wp2_with fail
      refine hch.mono ?_
      rintro e w2 ⟨rfl, hb2⟩
      have hb3 := bel_next hb1 hb2
      obtain ⟨g0, g1, g2, g3, g4⟩ := FBox.later (X := X) ⟨f0, f1, f2, f3, f4⟩ hb2
      clear f0 f1 f2 f3 f4 hch hb1 hb2
      go_wp2_with fail
      refine (hln.out _ hb3).mono ?_
      rintro e w3 ⟨rfl, hb4⟩
      have hb5 := bel_next hb3 hb4
      clear g0 g1 g2 g3 g4 hb3 hb4 hln
      go_wp2
      (try rw [Exit.noGoto_ret])
      go_ret3
      exact ⟨rfl, hb5⟩
end Go.Proofs.YtghmehfmchadoaaDoor
