import Derived.Test.YtlknmpnjhbdlhaaDoorGah
import Derived.Test.YtlknmpnjhbdlhaaDoorGad
import Derived.Lib.OwnKind
import Derived.Deep.CutBlock
/-
  Layer 10: span: the bytes of a file from one place to another.
-/
namespace Go.Proofs.YtlknmpnjhbdlhaaDoor
open Go.RowKit Go.Shelf
attribute [local go_sem] Oper.semAt_some
set_option linter.unusedVariables false

def isDefer : Op → Bool
  | .defer _ => true
  | _ => false
theorem noDefer_spec {ops : List Oper} (h : ops.all (fun o => !isDefer o.op) = true) : ∀ o ∈ ops.toArray, ∀ c, o.op ≠ .defer c := fun o ho c e => by
  have := (List.all_eq_true.1 h) o (by simpa using ho)
  rw [e] at this
  cases this
/-- What lies between two places. -/
def between (l : List UInt8) (a e : Nat) : List UInt8 := (l.take e).drop a
theorem between_app (M l : List UInt8) (a e : Nat) : between (M ++ l) a e = between M a e ++ (l.take (e - M.length)).drop (a - M.length) := by
  unfold between
  rw [List.take_append, List.drop_append, List.length_take]
  by_cases h : M.length ≤ e
  · rw [Nat.min_eq_right h]
  · have : e - M.length = 0 := by omega
    rw [this]
    simp
theorem between_over (M l : List UInt8) (a e : Nat) (h : e ≤ M.length) : between (M ++ l) a e = between M a e := by
  rw [between_app]
  have : e - M.length = 0 := by omega
  rw [this]
  simp
theorem between_len (l : List UInt8) (a d : Nat) : (between l a (a + d)).length ≤ d := by
  unfold between
  rw [List.length_drop, List.length_take]
  omega
theorem joinQ (X : FileT) : joinP X.Q = X.all := by unfold FileT.Q FileT.all; rw [joinP_cons]
theorem joinQ_len {w : World} {B : Nat} {X : FileT} (h : LieF w B X) (k : Nat) : (joinP (X.Q.take k)).length = sumN (X.Q.take k) := by
  refine sumN_len (w := w) (B := B) fun p hp => ?_
  rcases List.mem_cons.1 (List.mem_of_mem_take hp) with rfl | hp
  · exact h.firm
  · exact h.loose p hp
theorem sumQ_all {w : World} {B : Nat} {X : FileT} (h : LieF w B X) (k : Nat) : sumN (X.Q.take k) ≤ X.all.length := by
  have e := sumN_take X.Q k
  have : X.all.length = sumN X.Q := by
    rw [← joinQ]
    refine sumN_len (w := w) (B := B) fun p hp => ?_
    rcases List.mem_cons.1 hp with rfl | hp
    · exact h.firm
    · exact h.loose p hp
  omega
/-- What span gives. -/
def SpanP (X : FileT) (a n : Nat) (w : World) (e : Ending) (w' : World) : Prop :=
  ∃ p : PcT, e = .returned (.slice p.A p.n p.c) ∧ p.l = between X.all a (a + n) ∧ p.Ok w' w'.heap.size ∧ Below w.heap.size w w' ∧ ∀ g, g < w.heap.size → AwayF X g → AwayP p g
/-- The memory between two pieces: n blocks lay when span began. -/
structure SJ (n : Nat) (w : World) (X : FileT) (lp : Obj) (a d : Nat) (l : List UInt8) (W : World) : Prop where
  b1 : Boxed W (n + 1) 3 (.int .i64 (a : Nat))
  b2 : Boxed W (n + 1 + 1) 3 (.int .i64 (d : Nat))
  b4 : ∃ A c, Boxed W (n + 1 + 1 + 1 + 1) 34 (.slice A l.length c) ∧ W.ownsRow (n + 3) 5 1 (.slice A l.length c) l.length (l.map bv)
  f : W.heap[n + 1 + 1 + 1 + 1 + 1]? = some (.cells #[.slice X.F.A X.F.n X.F.c, .slice X.lA X.ln X.lc, .int .i64 X.fuse, .int .i64 X.fault, .bool X.off] 37)
  d : W.heap[n + 6]? = some (.deferred (some []))
  r : W.heap[n + 7]? = some lp
  bel : Below n w W
theorem slow_row {W : World} {base : Nat} {e : TypeId} {v : Value} {k : Nat} {xs : List Value} (h : W.ownsRow base e 1 v k xs) {S : Nat} (hS : S < base) : some S ≠ v.ownBlock := fun e' => by
  have := (h.lt S e'.symm).1
  omega
theorem sno_row {W : World} {base : Nat} {e : TypeId} {v : Value} {k : Nat} {xs : List Value} (h : W.ownsRow base e 1 v k xs) {S : Nat} {o : Obj} (hS : W.heap[S]? = some o) (ho : ∀ c fz, o ≠ .cells c e fz) : some S ≠ v.ownBlock := fun e' => by
  obtain ⟨c', fz, h2⟩ := Lib.ownsRow_kind h S e'.symm
  rw [hS] at h2
  injection h2 with h2
  exact ho _ _ h2
section
variable {n : Nat} {w : World} {X : FileT} {lp : Obj} {a d : Nat} {l : List UInt8} {W W' : World}
theorem SJ.lt (h : SJ n w X lp a d l W) : n + 7 < W.heap.size := (Array.getElem?_eq_some_iff.1 h.r).1
theorem SJ.drew (h : SJ n w X lp a d l W) : SJ n w X lp a d l W.drew := ⟨h.b1, h.b2, h.b4, h.f, h.d, h.r, below_drewN h.bel 1⟩
theorem SJ.turn (h : SJ n w X lp a d l W) (hl : lp.isCells = false) (hw : lp.isWalk = false) (lp' : Obj) : SJ n w X lp' a d l (W.putObj (n + 7) lp') := by
  obtain ⟨A, c, h1, h2⟩ := h.b4
  have o : ∀ {k : Nat} {x : Obj}, W.heap[k]? = some x → k ≠ n + 7 → (W.putObj (n + 7) lp').heap[k]? = some x := fun hk hne => (World.putObj_heap_other hne).trans hk
  have hlt := h.lt
  exact ⟨o h.b1 (by omega), o h.b2 (by omega), ⟨A, c, o h1 (by omega), ownsRow_putObj h2 _ h.r hl⟩, o h.f (by omega), o h.d (by omega), World.putObj_heap_same hlt, h.bel.grown (grownBy_putObj' W (n + 7) lp') (by omega) (fun k e => by cases e; omega)⟩
theorem SJ.fcell (h : SJ n w X lp a d l W) : W.cell? ⟨n + 1 + 1 + 1 + 1 + 1, 0, none⟩ = some (.slice X.F.A X.F.n X.F.c) ∧ W.cell? ⟨n + 1 + 1 + 1 + 1 + 1, 1, none⟩ = some (.slice X.lA X.ln X.lc) :=
  ⟨by simp [World.cell?, h.f], by simp [World.cell?, h.f]⟩
theorem SJ.keep (h : SJ n w X lp a d l W) {v : Value} {k : Nat} {xs : List Value} {w7 : World} (hown : W.ownsRow (n + 3) 5 1 v k xs) (hg : W.grownBy w7 v.ownBlock) {j : Nat} {o : Obj} (hj : W.heap[j]? = some o) (hne : j < n + 3 ∨ ∀ c fz, o ≠ .cells c 5 fz) : w7.heap[j]? = some o :=
  (hg.block j (Array.getElem?_eq_some_iff.1 hj).1 (by rcases hne with h | h; exact slow_row hown h; exact sno_row hown hj h)).trans hj
theorem SJ.old (h : SJ n w X lp a d l W) {A : Option Addr} {c : Nat} {w7 : World} (hb : Boxed W (n + 1 + 1 + 1 + 1) 34 (.slice A l.length c)) (hown : W.ownsRow (n + 3) 5 1 (.slice A l.length c) l.length (l.map bv)) (hg : W.grownBy w7 (Value.slice A l.length c).ownBlock) :
    Boxed w7 (n + 1 + 1 + 1 + 1) 34 (.slice A l.length c) := h.keep hown hg hb (.inr (fun _ _ e => by injection e with _ e; exact absurd e (by decide)))
theorem SJ.took (h : SJ n w X lp a d l W) (hlp : lp.isCells = false) {A A' : Option Addr} {c c' m : Nat} {w7 : World} {news : List UInt8} (hb : Boxed W (n + 1 + 1 + 1 + 1) 34 (.slice A l.length c)) (hown : W.ownsRow (n + 3) 5 1 (.slice A l.length c) l.length (l.map bv)) (hg : W.grownBy w7 (Value.slice A l.length c).ownBlock)
    (hown7 : w7.ownsRow (n + 3) 5 1 (.slice A' (l.length + m) c') (l.length + m) (l.map bv ++ news.map bv)) (hm : news.length = m) : SJ n w X lp a d (l ++ news) (w7.setCell ⟨n + 1 + 1 + 1 + 1, 0, none⟩ (.slice A' (l.length + m) c')) := by
  have hlt := h.lt
  have nl : ∀ c fz, lp ≠ .cells c 5 fz := fun c fz e => by rw [e] at hlp; cases hlp
  have f : ∀ {k : Nat} {o : Obj} (u : Value) (Z : World), Z.heap[k]? = some o → k ≠ n + 1 + 1 + 1 + 1 → (Z.setCell ⟨n + 1 + 1 + 1 + 1, 0, none⟩ u).heap[k]? = some o := fun {k o} u Z hZ hne => (Below.heap_setCell Z _ u k hne).trans hZ
  have g1 := h.keep hown hg h.b1 (.inl (by omega))
  have g2 := h.keep hown hg h.b2 (.inl (by omega))
  have g4 := h.old hb hown hg
  have gf := h.keep hown hg h.f (.inr (fun _ _ e => by injection e with _ e; exact absurd e (by decide)))
  have gd := h.keep hown hg h.d (.inr (fun _ _ e => by cases e))
  have gr := h.keep hown hg h.r (.inr nl)
  have hb7 : Below n w w7 := h.bel.grown hg (by omega) (fun k e => by have := (hown.lt k e).1; omega)
  refine ⟨f _ _ g1 (by omega), f _ _ g2 (by omega), ⟨A', c', ?_, ?_⟩, f _ _ gf (by omega), f _ _ gd (by omega), f _ _ gr (by omega), hb7.setCell (by show n ≤ n + 1 + 1 + 1 + 1; omega) _⟩
  · rw [List.length_append, hm]
    exact g4.set _
  · rw [List.length_append, List.map_append, hm]
    have g4' : w7.heap[n + 1 + 1 + 1 + 1]? = some (.cells #[.slice A l.length c] 34) := g4
    have hne := sno_row hown7 g4' (fun _ _ e => by injection e with _ e; exact absurd e (by decide))
    exact hown7.kept (row := some (n + 1 + 1 + 1 + 1)) ⟨rfl, rfl, rfl, Nat.le_of_eq (size_set _ _ _).symm, fun k hk hk2 => Below.heap_setCell w7 _ _ k (fun e => hk2 (by rw [e]))⟩ (.inr (fun e => hne e.symm))
end
theorem span_lay (w W1 : World) (X : FileT) (a d : Nat) (hd : d ≤ maxLen) (h : (((((w.alloc (.cells #[.slice X.F.A X.F.n X.F.c, .slice X.lA X.ln X.lc, .int .i64 X.fuse, .int .i64 X.fault, .bool X.off] 37)).alloc (.cells #[.int .i64 (a : Nat)] 3)).alloc (.cells #[.int .i64 (d : Nat)] 3)).alloc (.cells (madeCells #[.int .u8 0] d) 5)).alloc (.cells #[.slice (some ⟨w.heap.size + 1 + 1 + 1, 0, none⟩) 0 d] 34)).alloc (.cells #[.slice X.F.A X.F.n X.F.c, .slice X.lA X.ln X.lc, .int .i64 X.fuse, .int .i64 X.fault, .bool X.off] 37) = W1) :
    Boxed W1 (w.heap.size + 1) 3 (.int .i64 (a : Nat)) ∧ Boxed W1 (w.heap.size + 1 + 1) 3 (.int .i64 (d : Nat)) ∧ Boxed W1 (w.heap.size + 1 + 1 + 1 + 1) 34 (.slice (some ⟨w.heap.size + 1 + 1 + 1, 0, none⟩) 0 d) ∧
    W1.ownsRow (w.heap.size + 3) 5 1 (.slice (some ⟨w.heap.size + 1 + 1 + 1, 0, none⟩) 0 d) 0 [] ∧
    W1.heap[w.heap.size + 1 + 1 + 1 + 1 + 1]? = some (.cells #[.slice X.F.A X.F.n X.F.c, .slice X.lA X.ln X.lc, .int .i64 X.fuse, .int .i64 X.fault, .bool X.off] 37) ∧ Below w.heap.size w W1 := by
  generalize hw1 : w.alloc (.cells #[.slice X.F.A X.F.n X.F.c, .slice X.lA X.ln X.lc, .int .i64 X.fuse, .int .i64 X.fault, .bool X.off] 37) = w1 at h
  have s1 : w1.heap.size = w.heap.size + 1 := by rw [← hw1, World.size_alloc]
  have e1 := Boxed.new w1 3 (.int .i64 (a : Nat))
  generalize hw2 : w1.alloc (.cells #[.int .i64 (a : Nat)] 3) = w2 at *
  have s2 : w2.heap.size = w.heap.size + 1 + 1 := by rw [← hw2, World.size_alloc, s1]
  have e2 := Boxed.new w2 3 (.int .i64 (d : Nat))
  generalize hw3 : w2.alloc (.cells #[.int .i64 (d : Nat)] 3) = w3 at *
  have s3 : w3.heap.size = w.heap.size + 1 + 1 + 1 := by rw [← hw3, World.size_alloc, s2]
  have e3 := own_zeros (base := w.heap.size + 3) (e := 5) w3 (.int .u8 0) 0 d (by omega) (Nat.zero_le _) hd
  generalize hw4 : w3.alloc (.cells (madeCells #[.int .u8 0] d) 5) = w4 at *
  have s4 : w4.heap.size = w.heap.size + 1 + 1 + 1 + 1 := by rw [← hw4, World.size_alloc, s3]
  have e4 := Boxed.new w4 34 (.slice (some ⟨w.heap.size + 1 + 1 + 1, 0, none⟩) 0 d)
  generalize hw5 : w4.alloc (.cells #[.slice (some ⟨w.heap.size + 1 + 1 + 1, 0, none⟩) 0 d] 34) = w5 at *
  have s5 : w5.heap.size = w.heap.size + 1 + 1 + 1 + 1 + 1 := by rw [← hw5, World.size_alloc, s4]
  rw [s1] at e1
  rw [s2] at e2
  rw [s3] at e3
  rw [s4] at e4
  subst h
  refine ⟨?_, ?_, ?_, ?_, ?_, ?_⟩
  · rw [← hw5, ← hw4, ← hw3]; exact (((e1.alloc _).alloc _).alloc _).alloc _
  · rw [← hw5, ← hw4]; exact ((e2.alloc _).alloc _).alloc _
  · exact e4.alloc _
  · rw [← hw5]; exact (e3.alloc _).alloc _
  · have h := World.alloc_heap_new w5 (.cells #[.slice X.F.A X.F.n X.F.c, .slice X.lA X.ln X.lc, .int .i64 X.fuse, .int .i64 X.fault, .bool X.off] 37)
    rw [s5] at h
    exact h
  · rw [← hw5, ← hw4, ← hw3, ← hw2, ← hw1]
    exact bel_alloc (bel_alloc (bel_alloc (bel_alloc (bel_alloc (bel_alloc (Below.refl _ _) _) _) _) _) _) _
/-- The end: what lies in the own row is handed back. -/
theorem span_end {w W : World} {X : FileT} {lp lq : Obj} {a d : Nat} {A : Option Addr} {c : Nat} (h : SJ w.heap.size w X lp a d (between X.all a (a + d)) W) (hown : W.ownsRow (w.heap.size + 3) 5 1 (.slice A (between X.all a (a + d)).length c) (between X.all a (a + d)).length ((between X.all a (a + d)).map bv)) (hlq : lq.isCells = false) :
    SpanP X a d w (.returned (.slice A (between X.all a (a + d)).length c)) (W.putObj (w.heap.size + 6) lq) := by
  have hlt := h.lt
  have hd : W.heap[w.heap.size + 6]? = some (.deferred (some [])) := h.d
  have ho := ownsRow_putObj hown lq hd rfl
  obtain ⟨o1, o2, o3⟩ := own_facts ho
  exact ⟨⟨A, (between X.all a (a + d)).length, c, between X.all a (a + d)⟩, rfl, rfl, ⟨Bytes.own ho, o1, o2, o3⟩, h.bel.grown (grownBy_putObj' W (w.heap.size + 6) lq) (by omega) (fun k e => by cases e; omega), fun g hg _ => own_away ho (by show g < w.heap.size + 3; omega)⟩
theorem span_firm {w W : World} {B a d : Nat} {X : FileT} (hL : LieF w B X) (hB : B ≤ w.heap.size) (hb : Below w.heap.size w W) (hc : a + d ≤ X.F.n) :
    (d = 0 → SpanP X a d w (.returned (.slice X.F.A 0 0)) W) ∧ (¬ d = 0 → SpanP X a d w (.returned (.slice (X.F.A.map fun x => x.add a) d d)) W) := by
  have hbt : between X.all a (a + d) = between X.F.l a (a + d) := by
    unfold FileT.all
    exact between_over _ _ _ _ (by rw [hL.firm.len]; exact hc)
  refine ⟨fun h0 => ?_, fun h0 => ?_⟩
  · subst h0
    refine ⟨⟨X.F.A, 0, 0, []⟩, rfl, ?_, ⟨Bytes.zero _, fun _ => rfl, Nat.le_refl _, by unfold maxLen; exact Nat.zero_le _⟩, hb, fun g _ _ b off _ hn => absurd hn (Nat.lt_irrefl 0)⟩
    rw [hbt]
    unfold between
    rw [Nat.add_zero, List.drop_eq_nil_of_le (by rw [List.length_take]; omega)]
  · have hF := (hL.firm.here.below (hb.mono hB)).more (Nat.le_trans hB hb.size)
    have h := (hF.first hc).cut (k := a) (cap := a + d) (by omega) (Nat.le_refl _)
    rw [if_neg (by omega), show a + d - a = d by omega] at h
    obtain ⟨b, off, hA, hb0, _⟩ := hL.firm.here.2 (by omega)
    have hm := hL.firm.most
    have hf := hL.firm.fits
    refine ⟨⟨X.F.A.map fun x => x.add a, d, d, between X.F.l a (a + d)⟩, rfl, hbt.symm, ⟨h, fun hn => ?_, Nat.le_refl _, by show d ≤ maxLen; omega⟩, hb, fun g hg ha b' off' hA' _ => ?_⟩
    · rw [hA] at hn
      cases hn
    · have := ha.firm b off hA (by omega)
      simp only [hA, Option.map_some, addr_add, Option.some.injEq, Addr.mk.injEq] at hA'
      omega
/-- The two boxes hold their numbers. -/
structure SpS (w : World) (a d : Nat) (W : World) : Prop where
  c1 : W.cell? ⟨w.heap.size + 1, 0, none⟩ = some (.int .i64 (a : Nat))
  c2 : W.cell? ⟨w.heap.size + 1 + 1, 0, none⟩ = some (.int .i64 (d : Nat))
set_option maxRecDepth 100000 in
set_option maxHeartbeats 4000000 in
theorem span_any (X : FileT) (a d : Nat) (B : Nat) (w : World) (hL : LieF w B X) (hB : B ≤ w.heap.size) (hN : ∀ p ∈ X.Q, p.n ≤ 1048576) (hl : X.long ≤ 524288) (had : a + d ≤ X.all.length) (hal : X.all.length ≤ 524288) :
    Calls Tryd.prog 61 #[X.agg, .int .i64 a, .int .i64 d] w (SpanP X a d w) := by
  simp only [FileT.agg, PcT.val]
  have hs1 : IntKind.i64.wrap ((a : Int) + (d : Int)) = (a : Int) + (d : Int) := by rw [IntKind.wrap_i64]; omega
  have hs2 : wrap64 ((a : Int) + (d : Int)) = (a : Int) + (d : Int) := by unfold wrap64; omega
  by_cases hc : a + d ≤ X.F.n
  · have hc1 : ((a : Int) + (d : Int) ≤ (X.F.n : Int)) = True := by simp; omega
    have hFc := hL.firm.fits
    have i1 : (0 : Int) ≤ (a : Int) := by omega
    have i2 : (a : Int) ≤ (a : Int) + (d : Int) := by omega
    have i3 : (a : Int) + (d : Int) ≤ (X.F.c : Int) := by omega
    have hb1 := bel_alloc (bel_alloc (bel_alloc (Below.refl w.heap.size w) (.cells #[.slice X.F.A X.F.n X.F.c, .slice X.lA X.ln X.lc, .int .i64 X.fuse, .int .i64 X.fault, .bool X.off] 37)) (.cells #[.int .i64 (a : Nat)] 3)) (.cells #[.int .i64 (d : Nat)] 3)
    obtain ⟨HE0, HE1⟩ := span_firm hL hB hb1 hc
    clear hc hL hN
    have HE0' := Lib.hid HE0
    have HE1' := Lib.hid HE1
    clear HE0 HE1
    go_enter Tryd.func61, Tryd.ntmps61
    go_wp2
    all_goals
      go_ret
      first | exact HE0'.out (by omega) | exact HE1'.out (by omega)
  · have hc1 : ((a : Int) + (d : Int) ≤ (X.F.n : Int)) = False := by simp; omega
    have hmk : ∀ W, (Instr.makeSlice 34 (.int .i64 0) (.int .i64 (d : Int))).run Tryd.prog W = .ok (.slice (some ⟨W.heap.size, 0, none⟩) 0 d) (W.alloc (.cells (madeCells #[.int .u8 0] d) 5)) := by
      intro W
      obtain ⟨i0, hi, hz0, hz1, hz2⟩ := u8_info
      have h := run_make_one (P := Tryd.prog) (t := 34) (e := 5) Tryd.underlying34 hi hz0 rfl hz1 .i64 .i64 0 (d : Int) (by omega) (by omega) (by rw [hz2]; omega) (by omega) W
      simpa using h
    refine (callsIn_wide (n := 6)).1 ?_
    refine callsIn_of_wp_marks Tryd.func61 rfl trivial ?_ rfl
    simp only [Tryd.ntmps61, List.size_toArray, List.length_cons, List.length_nil, Nat.reduceAdd, Nat.reduceSub, Array.replicate_succ, Array.replicate_zero, List.push_toArray, List.append_toArray, List.nil_append, List.cons_append]
    refine wpIn_wide.2 ?_
    go_wp2_with fail
    refine (pieces_any _ _ _ _ _ _ _ _ _ _).mono ?_
    rintro e W1 ⟨rfl, hW1⟩
    go_wp2
    refine (wpIn_wide (n := 6)).1 ?_
    refine range_open rfl (by omega) (gf := 76) (lb := #[.pointer (some ⟨w.heap.size + 1 + 1 + 1 + 1 + 1, 0, none⟩)]) rfl trivial (enters_of Tryd.func76 (by kernel_rfl) rfl) ?_
    have hsz : W1.heap.size = w.heap.size + 6 := by rw [← hW1]; simp
    obtain ⟨j1, j2, j4, jo, jf, hb1⟩ := span_lay w W1 X a d (by unfold maxLen; omega) hW1
    clear hW1 hmk
    rw [hsz]
    intro fn hfn
    generalize hrec : recOf fn _ _ _ _ _ = rec
    have J0 : SJ w.heap.size w X (.loop (rec .ready none)) a d (between (joinP (X.Q.take 0)) a (a + d)) ((W1.alloc (.deferred (some []))).alloc (.loop (rec .ready none))) := by
      have e0 : between (joinP (X.Q.take 0)) a (a + d) = [] := by simp [between, joinP]
      rw [e0]
      refine ⟨(j1.alloc _).alloc _, (j2.alloc _).alloc _, ⟨_, _, (j4.alloc _).alloc _, (jo.alloc _).alloc _⟩, ?_, ?_, ?_, bel_alloc (bel_alloc hb1 _) _⟩
      · exact (Below.heap_alloc _ _ _ (by simp [hsz])).trans ((Below.heap_alloc _ _ _ (by omega)).trans jf)
      · have h := World.alloc_heap_new W1 (.deferred (some []))
        rw [hsz] at h
        exact (Below.heap_alloc _ _ _ (by simp [hsz])).trans h
      · have h := World.alloc_heap_new (W1.alloc (.deferred (some []))) (.loop (rec .ready none))
        rw [World.size_alloc, hsz] at h
        exact h
    have HLie := Lib.hid hL
    have hcall := pieces1_in 5 (by omega) (w.heap.size + 7) (w.heap.size + 1 + 1 + 1 + 1 + 1) B X (fun k W => SJ w.heap.size w X (.loop (rec .ready none)) a d (between (joinP (X.Q.take k)) a (a + d)) W) (fun W => SJ w.heap.size w X (.loop (rec .done (some (.exit 0)))) a d (between X.all a (a + d)) W) _ (Nat.le_trans hL.fits hL.most)
      (fun k W h => ⟨h.fcell.1, h.fcell.2, hL.row.below (h.bel.mono hB)⟩) ?hY J0
    case hY =>
      rintro k p W hr hp
      have hl5 := hr.r
      rw [← hrec] at hl5
      refine round_openR hfn hl5 rfl ?_
      simp only [hrec]
      have HB := Lib.hid (Nat.le_trans (sumQ_all hL (k + 1)) hal)
      have hmB := Nat.le_trans (sumQ_all hL k) hal
      have hpn := hN p (List.mem_of_getElem? hp)
      have hok : ∀ W', Below w.heap.size w W' → p.Ok W' B := fun W' hb => by
        rcases List.mem_cons.1 (List.mem_of_getElem? hp) with rfl | hq
        · exact (hL.later (hb.mono hB)).firm
        · exact (hL.later (hb.mono hB)).loose p hq
      have hjn := joinQ_len hL k
      have hjt := joinP_take hp
      generalize hM : joinP (X.Q.take k) = M at *
      generalize sumN (X.Q.take k) = m at *
      have HQ := Lib.hid (show between (joinP (X.Q.take (k + 1))) a (a + d) = between M a (a + d) ++ (p.l.take (a + d - m)).drop (a - m) by rw [hjt, between_app, hjn])
      have HE := Lib.hid (show a + d ≤ m → between X.all a (a + d) = between M a (a + d) from fun h => by
        have : X.all = M ++ joinP (X.Q.drop k) := by rw [← hM, ← joinP_append, List.take_append_drop, joinQ]
        rw [this, between_over _ _ _ _ (by omega)])
      have hbl := between_len M a d
      clear hl5 J0 j1 j2 j4 jo jf hp hjt hjn hM
      generalize between M a (a + d) = out at *
      gi_wp2
      refine ⟨hr.r, ?_⟩
      have hr3 := hr.turn rfl rfl (.loop (rec .busy none))
      have hpl3 := hok _ hr3.bel
      generalize W.putObj (w.heap.size + 7) (.loop (rec .busy none)) = W4 at *
      clear hr hL hN hok hb1 hsz
      gi_wp2
      have hr4 := hr3.drew
      have HS7 : SpS w a d W4.drew := ⟨hr4.b1.cell, hr4.b2.cell⟩
      have x1 : ∀ W, SpS w a d W → W.cell? ⟨w.heap.size + 1, 0, none⟩ = some (.int .i64 (a : Nat)) := fun W h => h.c1
      have x2 : ∀ W, SpS w a d W → W.cell? ⟨w.heap.size + 1 + 1, 0, none⟩ = some (.int .i64 (d : Nat)) := fun W h => h.c2
      have e1 : IntKind.i64.wrap ((a : Int) - (m : Int)) = (a : Int) - (m : Int) := by rw [IntKind.wrap_i64]; omega
      have e2 : wrap64 ((a : Int) - (m : Int)) = (a : Int) - (m : Int) := by unfold wrap64; omega
      have e3 : IntKind.i64.wrap ((a : Int) + (d : Int) - (m : Int)) = (a : Int) + (d : Int) - (m : Int) := by rw [IntKind.wrap_i64]; omega
      have e4 : wrap64 ((a : Int) + (d : Int) - (m : Int)) = (a : Int) + (d : Int) - (m : Int) := by unfold wrap64; omega
      have k1 := hr3.b1.cell
      have k2 := hr3.b2.cell
      have mx : (if (a : Int) - (m : Int) < 0 then 0 else (a : Int) - (m : Int)) = ((a - m : Nat) : Int) := by split <;> omega
      by_cases hmd : a + d ≤ m
      · have HX := Lib.hid (HE.out hmd)
        have hge : ((a : Int) + (d : Int) ≤ (m : Int)) = True := by simp; omega
        have mn : (if (p.n : Int) < (a : Int) + (d : Int) - (m : Int) then (p.n : Int) else (a : Int) + (d : Int) - (m : Int)) = (a : Int) + (d : Int) - (m : Int) := by split <;> omega
        have hlt : (((a - m : Nat) : Int) < (a : Int) + (d : Int) - (m : Int)) = False := by simp; omega
        clear hmd
        refine region_round (S := fun W => SpS w a d W) (by kernel_rfl) (noDefer_spec (by rfl)) (by rintro ⟨_, _, h⟩; exact h) HS7 (fun hHeld => ?_)
        refine rg_in 0 rfl (by kernel_rfl) (by kernel_rfl) (by kernel_rfl) (by rfl) (v := ?_) (fun _ _ _ h => h) hHeld (fun w hSw => ?_) ?_
        rotate_left
        · (try dsimp only at hSw); go_simp <;> (with_reducible rfl)
        (try simp only [Act.put, List.setIfInBounds_toArray, List.set_cons_zero, List.set_cons_succ])
        refine rg_in 1 rfl (by kernel_rfl) (by kernel_rfl) (by kernel_rfl) (by rfl) (v := ?_) (fun _ _ _ h => h) hHeld (fun w hSw => ?_) ?_
        rotate_left
        · (try dsimp only at hSw); go_simp <;> (with_reducible rfl)
        (try simp only [Act.put, List.setIfInBounds_toArray, List.set_cons_zero, List.set_cons_succ])
        refine rg_in 2 rfl (by kernel_rfl) (by kernel_rfl) (by kernel_rfl) (by rfl) (v := ?_) (fun _ _ _ h => h) hHeld (fun w hSw => ?_) ?_
        rotate_left
        · (try dsimp only at hSw); go_simp <;> (with_reducible rfl)
        (try simp only [Act.put, List.setIfInBounds_toArray, List.set_cons_zero, List.set_cons_succ])
        refine rg_in 3 rfl (by kernel_rfl) (by kernel_rfl) (by kernel_rfl) (by rfl) (v := ?_) (fun _ _ _ h => h) hHeld (fun w hSw => ?_) ?_
        rotate_left
        · (try dsimp only at hSw); go_simp <;> (with_reducible rfl)
        (try simp only [Act.put, List.setIfInBounds_toArray, List.set_cons_zero, List.set_cons_succ])
        refine rg_in 4 rfl (by kernel_rfl) (by kernel_rfl) (by kernel_rfl) (by rfl) (v := ?_) (fun _ _ _ h => h) hHeld (fun w hSw => ?_) ?_
        rotate_left
        · (try dsimp only at hSw); go_simp <;> (with_reducible rfl)
        (try simp only [Act.put, List.setIfInBounds_toArray, List.set_cons_zero, List.set_cons_succ])
        refine rg_in 5 rfl (by kernel_rfl) (by kernel_rfl) (by kernel_rfl) (by rfl) (v := ?_) (fun _ _ _ h => h) hHeld (fun w hSw => ?_) ?_
        rotate_left
        · (try dsimp only at hSw); go_simp <;> (with_reducible rfl)
        (try simp only [Act.put, List.setIfInBounds_toArray, List.set_cons_zero, List.set_cons_succ])
        refine rg_in 6 rfl (by kernel_rfl) (by kernel_rfl) (by kernel_rfl) (by rfl) (v := ?_) (fun _ _ _ h => h) hHeld (fun w hSw => ?_) ?_
        rotate_left
        · (try dsimp only at hSw); go_simp <;> (with_reducible rfl)
        (try simp only [Act.put, List.setIfInBounds_toArray, List.set_cons_zero, List.set_cons_succ])
        refine rg_in 7 rfl (by kernel_rfl) (by kernel_rfl) (by kernel_rfl) (by rfl) (v := ?_) (fun _ _ _ h => h) hHeld (fun w hSw => ?_) ?_
        rotate_left
        · (try dsimp only at hSw); go_simp <;> (with_reducible rfl)
        (try simp only [Act.put, List.setIfInBounds_toArray, List.set_cons_zero, List.set_cons_succ])
        refine rg_in 8 rfl (by kernel_rfl) (by kernel_rfl) (by kernel_rfl) (by rfl) (v := ?_) (fun _ _ _ h => h) hHeld (fun w hSw => ?_) ?_
        rotate_left
        · (try dsimp only at hSw); go_simp <;> (with_reducible rfl)
        (try simp only [Act.put, List.setIfInBounds_toArray, List.set_cons_zero, List.set_cons_succ])
        refine rg_in 9 rfl (by kernel_rfl) (by kernel_rfl) (by kernel_rfl) (by rfl) (v := ?_) (fun _ _ _ h => h) hHeld (fun w hSw => ?_) ?_
        rotate_left
        · (try dsimp only at hSw); go_simp <;> (with_reducible rfl)
        (try simp only [Act.put, List.setIfInBounds_toArray, List.set_cons_zero, List.set_cons_succ])
        refine rg_in 10 rfl (by kernel_rfl) (by kernel_rfl) (by kernel_rfl) (by rfl) (v := ?_) (fun _ _ _ h => h) hHeld (fun w hSw => ?_) ?_
        rotate_left
        · (try dsimp only at hSw); go_simp <;> (with_reducible rfl)
        (try simp only [Act.put, List.setIfInBounds_toArray, List.set_cons_zero, List.set_cons_succ])
        refine rg_in 11 rfl (by kernel_rfl) (by kernel_rfl) (by kernel_rfl) (by rfl) (v := ?_) (fun _ _ _ h => h) hHeld (fun w hSw => ?_) ?_
        rotate_left
        · (try dsimp only at hSw); go_simp <;> (with_reducible rfl)
        (try simp only [Act.put, List.setIfInBounds_toArray, List.set_cons_zero, List.set_cons_succ])
        refine rg_in 12 rfl (by kernel_rfl) (by kernel_rfl) (by kernel_rfl) (by rfl) (v := ?_) (fun _ _ _ h => h) hHeld (fun w hSw => ?_) ?_
        rotate_left
        · (try dsimp only at hSw); go_simp <;> (with_reducible rfl)
        (try simp only [Act.put, List.setIfInBounds_toArray, List.set_cons_zero, List.set_cons_succ])
        refine rg_in 13 rfl (by kernel_rfl) (by kernel_rfl) (by kernel_rfl) (by rfl) (v := ?_) (fun _ _ _ h => h) hHeld (fun w hSw => ?_) ?_
        rotate_left
        · (try dsimp only at hSw); go_simp <;> (with_reducible rfl)
        (try simp only [Act.put, List.setIfInBounds_toArray, List.set_cons_zero, List.set_cons_succ])
        refine wpAnyH_done (by kernel_rfl) ?_ _
        clear hHeld x1 x2 HS7
        gi_wp2
        exact ⟨hr4.r, .inr ⟨rfl, by rw [HX.out]; exact hr4.turn rfl rfl _⟩⟩
      · obtain ⟨hh, hhe⟩ : ∃ hh, hh = min (a + d - m) p.n := ⟨_, rfl⟩
        have mn : (if (p.n : Int) < (a : Int) + (d : Int) - (m : Int) then (p.n : Int) else (a : Int) + (d : Int) - (m : Int)) = (hh : Int) := by split <;> omega
        have hge : ((a : Int) + (d : Int) ≤ (m : Int)) = False := by simp; omega
        have htk : p.l.take (a + d - m) = p.l.take hh := by
          rw [hhe]
          by_cases h : a + d - m ≤ p.n
          · rw [Nat.min_eq_left h]
          · rw [Nat.min_eq_right (by omega), List.take_of_length_le (by rw [hpl3.len]; omega), List.take_of_length_le (by rw [hpl3.len]; omega)]
        rw [htk] at HQ
        have hhn : hh ≤ p.n := by omega
        have hpc := hpl3.fits
        have hpm := hpl3.most
        unfold maxLen at hpm
        have hpll := hpl3.len
        have hd2 : d ≤ 524288 := by omega
        generalize a - m = lo at *
        clear hhe htk HE hmd
        by_cases hlh : lo < hh
        · have hlt : ((lo : Int) < (hh : Int)) = True := by simp; omega
          have i0' : (0 : Int) ≤ (lo : Int) := by omega
          have i1 : (lo : Int) ≤ (hh : Int) := by omega
          have i2 : (hh : Int) ≤ (p.c : Int) := by omega
          have i3 : ¬ p.c = lo := by omega
          obtain ⟨A4, c4, hb4, hown4⟩ := hr4.drew.b4
          have hcut := ((((hpl3.here.first hhn).cut (k := lo) (cap := p.c) (by omega) (by omega)).drew).drew)
          rw [if_neg i3] at hcut
          have hcl9 := Lib.hid (show ((p.l.take hh).drop lo).length = hh - lo by rw [List.length_drop, List.length_take]; omega)
          have hr5 := hr4.drew
          have HS9 : True := trivial
          obtain ⟨i0, hi, hz0, hz1, hz2⟩ := u8_info
          have hlt7 := hr4.lt
          have h63 : out.length + (hh - lo) ≤ maxLen := by clear e1 e2 e3 e4 mx mn hs1 hs2; unfold maxLen; omega
          have hbt : (out.length + (hh - lo)) * 1 ≤ 140737488355328 := by clear e1 e2 e3 e4 mx mn hs1 hs2; omega
          have hbs : w.heap.size + 3 ≤ W4.drew.drew.heap.size := by show w.heap.size + 3 ≤ W4.heap.size; have : w.heap.size + 7 < W4.heap.size := hlt7; omega
          clear hpll hpm hlh
          refine region_round (S := fun W => SpS w a d W) (by kernel_rfl) (noDefer_spec (by rfl)) (by rintro ⟨_, _, h⟩; exact h) HS7 (fun hHeld => ?_)
          refine rg_in 0 rfl (by kernel_rfl) (by kernel_rfl) (by kernel_rfl) (by rfl) (v := ?_) (fun _ _ _ h => h) hHeld (fun w hSw => ?_) ?_
          rotate_left
          · (try dsimp only at hSw); go_simp <;> (with_reducible rfl)
          (try simp only [Act.put, List.setIfInBounds_toArray, List.set_cons_zero, List.set_cons_succ])
          refine rg_in 1 rfl (by kernel_rfl) (by kernel_rfl) (by kernel_rfl) (by rfl) (v := ?_) (fun _ _ _ h => h) hHeld (fun w hSw => ?_) ?_
          rotate_left
          · (try dsimp only at hSw); go_simp <;> (with_reducible rfl)
          (try simp only [Act.put, List.setIfInBounds_toArray, List.set_cons_zero, List.set_cons_succ])
          refine rg_in 2 rfl (by kernel_rfl) (by kernel_rfl) (by kernel_rfl) (by rfl) (v := ?_) (fun _ _ _ h => h) hHeld (fun w hSw => ?_) ?_
          rotate_left
          · (try dsimp only at hSw); go_simp <;> (with_reducible rfl)
          (try simp only [Act.put, List.setIfInBounds_toArray, List.set_cons_zero, List.set_cons_succ])
          refine rg_in 3 rfl (by kernel_rfl) (by kernel_rfl) (by kernel_rfl) (by rfl) (v := ?_) (fun _ _ _ h => h) hHeld (fun w hSw => ?_) ?_
          rotate_left
          · (try dsimp only at hSw); go_simp <;> (with_reducible rfl)
          (try simp only [Act.put, List.setIfInBounds_toArray, List.set_cons_zero, List.set_cons_succ])
          refine rg_in 4 rfl (by kernel_rfl) (by kernel_rfl) (by kernel_rfl) (by rfl) (v := ?_) (fun _ _ _ h => h) hHeld (fun w hSw => ?_) ?_
          rotate_left
          · (try dsimp only at hSw); go_simp <;> (with_reducible rfl)
          (try simp only [Act.put, List.setIfInBounds_toArray, List.set_cons_zero, List.set_cons_succ])
          refine rg_in 5 rfl (by kernel_rfl) (by kernel_rfl) (by kernel_rfl) (by rfl) (v := ?_) (fun _ _ _ h => h) hHeld (fun w hSw => ?_) ?_
          rotate_left
          · (try dsimp only at hSw); go_simp <;> (with_reducible rfl)
          (try simp only [Act.put, List.setIfInBounds_toArray, List.set_cons_zero, List.set_cons_succ])
          refine rg_in 6 rfl (by kernel_rfl) (by kernel_rfl) (by kernel_rfl) (by rfl) (v := ?_) (fun _ _ _ h => h) hHeld (fun w hSw => ?_) ?_
          rotate_left
          · (try dsimp only at hSw); go_simp <;> (with_reducible rfl)
          (try simp only [Act.put, List.setIfInBounds_toArray, List.set_cons_zero, List.set_cons_succ])
          refine rg_in 7 rfl (by kernel_rfl) (by kernel_rfl) (by kernel_rfl) (by rfl) (v := ?_) (fun _ _ _ h => h) hHeld (fun w hSw => ?_) ?_
          rotate_left
          · (try dsimp only at hSw); go_simp <;> (with_reducible rfl)
          (try simp only [Act.put, List.setIfInBounds_toArray, List.set_cons_zero, List.set_cons_succ])
          refine rg_in 8 rfl (by kernel_rfl) (by kernel_rfl) (by kernel_rfl) (by rfl) (v := ?_) (fun _ _ _ h => h) hHeld (fun w hSw => ?_) ?_
          rotate_left
          · (try dsimp only at hSw); go_simp <;> (with_reducible rfl)
          (try simp only [Act.put, List.setIfInBounds_toArray, List.set_cons_zero, List.set_cons_succ])
          refine rg_in 9 rfl (by kernel_rfl) (by kernel_rfl) (by kernel_rfl) (by rfl) (v := ?_) (fun _ _ _ h => h) hHeld (fun w hSw => ?_) ?_
          rotate_left
          · (try dsimp only at hSw); go_simp <;> (with_reducible rfl)
          (try simp only [Act.put, List.setIfInBounds_toArray, List.set_cons_zero, List.set_cons_succ])
          refine rg_in 10 rfl (by kernel_rfl) (by kernel_rfl) (by kernel_rfl) (by rfl) (v := ?_) (fun _ _ _ h => h) hHeld (fun w hSw => ?_) ?_
          rotate_left
          · (try dsimp only at hSw); go_simp <;> (with_reducible rfl)
          (try simp only [Act.put, List.setIfInBounds_toArray, List.set_cons_zero, List.set_cons_succ])
          refine rg_in 11 rfl (by kernel_rfl) (by kernel_rfl) (by kernel_rfl) (by rfl) (v := ?_) (fun _ _ _ h => h) hHeld (fun w hSw => ?_) ?_
          rotate_left
          · (try dsimp only at hSw); go_simp <;> (with_reducible rfl)
          (try simp only [Act.put, List.setIfInBounds_toArray, List.set_cons_zero, List.set_cons_succ])
          refine rg_in 12 rfl (by kernel_rfl) (by kernel_rfl) (by kernel_rfl) (by rfl) (v := ?_) (fun _ _ _ h => h) hHeld (fun w hSw => ?_) ?_
          rotate_left
          · (try dsimp only at hSw); go_simp <;> (with_reducible rfl)
          (try simp only [Act.put, List.setIfInBounds_toArray, List.set_cons_zero, List.set_cons_succ])
          refine rg_in 13 rfl (by kernel_rfl) (by kernel_rfl) (by kernel_rfl) (by rfl) (v := ?_) (fun _ _ _ h => h) hHeld (fun w hSw => ?_) ?_
          rotate_left
          · (try dsimp only at hSw); go_simp <;> (with_reducible rfl)
          (try simp only [Act.put, List.setIfInBounds_toArray, List.set_cons_zero, List.set_cons_succ])
          refine wpAnyH_done (by kernel_rfl) ?_ _
          clear hHeld x1 x2 HS7
          gi_wp2
          refine region_round (S := fun _ => True) (by kernel_rfl) (noDefer_spec (by rfl)) (by rintro ⟨_, _, h⟩; exact h) HS9 (fun hHeld => ?_)
          refine rg_in 1 rfl (by kernel_rfl) (by kernel_rfl) (by kernel_rfl) (by rfl) (v := ?_) (fun _ _ _ h => h) hHeld (fun w hSw => ?_) ?_
          rotate_left
          · (try dsimp only at hSw); go_simp <;> (with_reducible rfl)
          (try simp only [Act.put, List.setIfInBounds_toArray, List.set_cons_zero, List.set_cons_succ])
          refine rg_in 2 rfl (by kernel_rfl) (by kernel_rfl) (by kernel_rfl) (by rfl) (v := ?_) (fun _ _ _ h => h) hHeld (fun w hSw => ?_) ?_
          rotate_left
          · (try dsimp only at hSw); go_simp <;> (with_reducible rfl)
          (try simp only [Act.put, List.setIfInBounds_toArray, List.set_cons_zero, List.set_cons_succ])
          refine rg_in 3 rfl (by kernel_rfl) (by kernel_rfl) (by kernel_rfl) (by rfl) (v := ?_) (fun _ _ _ h => h) hHeld (fun w hSw => ?_) ?_
          rotate_left
          · (try dsimp only at hSw); go_simp <;> (with_reducible rfl)
          (try simp only [Act.put, List.setIfInBounds_toArray, List.set_cons_zero, List.set_cons_succ])
          refine rg_in 4 rfl (by kernel_rfl) (by kernel_rfl) (by kernel_rfl) (by rfl) (v := ?_) (fun _ _ _ h => h) hHeld (fun w hSw => ?_) ?_
          rotate_left
          · (try dsimp only at hSw); go_simp <;> (with_reducible rfl)
          (try simp only [Act.put, List.setIfInBounds_toArray, List.set_cons_zero, List.set_cons_succ])
          refine rg_do 0 rfl (by kernel_rfl) (by rfl) (fun K hK => ?_)
          have hcl := hb4.cell
          go_simp
          clear hcl
          refine hK.out _ _ trivial (fun hHeld => ?_)
          clear hK K
          (try simp only [Act.put, List.setIfInBounds_toArray, List.set_cons_zero, List.set_cons_succ])
          refine rg_do 5 rfl (by kernel_rfl) (by rfl) (fun K hK => ?_)
          refine wp_append_shows _ _ _ 34 rfl (w.heap.size + 3) 5 i0 (.int .u8 0) 1 1 Tryd.underlying34 hi hz0 hz1 hz2 rfl (by decide) _ _ _ rfl hown4 B _ (hh - lo) _ (((p.l.take hh).drop lo).map bv) rfl hcut (bv_one _) h63 hbt hbs ?_
          intro A7 c7 w7 hown7 hgrow7 hbel7
          refine hK.out _ _ trivial (fun hHeld => ?_)
          clear hK K
          (try simp only [Act.put, List.setIfInBounds_toArray, List.set_cons_zero, List.set_cons_succ])
          refine rg_do 6 rfl (by kernel_rfl) (by rfl) (fun K hK => ?_)
          have hcl := (hr5.old hb4 hown4 hgrow7).cell
          have hcf := (hr5.old hb4 hown4 hgrow7).frozen
          go_simp
          clear hcl hcf
          refine hK.out _ _ trivial (fun hHeld => ?_)
          clear hK K
          (try simp only [Act.put, List.setIfInBounds_toArray, List.set_cons_zero, List.set_cons_succ])
          refine wpAnyH_done (by kernel_rfl) ?_ _
          have hr9 := hr5.took rfl hb4 hown4 hgrow7 hown7 hcl9.out
          have k1' := hr9.b1.cell
          have k2' := hr9.b2.cell
          clear hgrow7 hown7 hbel7
          gi_wp2
          exact ⟨hr9.r, .inl ⟨rfl, by rw [HQ.out]; exact hr9.turn rfl rfl _, HB.out⟩⟩
        · have hlt : ((lo : Int) < (hh : Int)) = False := by simp; omega
          have hnil : (p.l.take hh).drop lo = [] := List.drop_eq_nil_of_le (by rw [List.length_take]; omega)
          rw [hnil, List.append_nil] at HQ
          clear hnil hpll hpm hpc hlh
          refine region_round (S := fun W => SpS w a d W) (by kernel_rfl) (noDefer_spec (by rfl)) (by rintro ⟨_, _, h⟩; exact h) HS7 (fun hHeld => ?_)
          refine rg_in 0 rfl (by kernel_rfl) (by kernel_rfl) (by kernel_rfl) (by rfl) (v := ?_) (fun _ _ _ h => h) hHeld (fun w hSw => ?_) ?_
          rotate_left
          · (try dsimp only at hSw); go_simp <;> (with_reducible rfl)
          (try simp only [Act.put, List.setIfInBounds_toArray, List.set_cons_zero, List.set_cons_succ])
          refine rg_in 1 rfl (by kernel_rfl) (by kernel_rfl) (by kernel_rfl) (by rfl) (v := ?_) (fun _ _ _ h => h) hHeld (fun w hSw => ?_) ?_
          rotate_left
          · (try dsimp only at hSw); go_simp <;> (with_reducible rfl)
          (try simp only [Act.put, List.setIfInBounds_toArray, List.set_cons_zero, List.set_cons_succ])
          refine rg_in 2 rfl (by kernel_rfl) (by kernel_rfl) (by kernel_rfl) (by rfl) (v := ?_) (fun _ _ _ h => h) hHeld (fun w hSw => ?_) ?_
          rotate_left
          · (try dsimp only at hSw); go_simp <;> (with_reducible rfl)
          (try simp only [Act.put, List.setIfInBounds_toArray, List.set_cons_zero, List.set_cons_succ])
          refine rg_in 3 rfl (by kernel_rfl) (by kernel_rfl) (by kernel_rfl) (by rfl) (v := ?_) (fun _ _ _ h => h) hHeld (fun w hSw => ?_) ?_
          rotate_left
          · (try dsimp only at hSw); go_simp <;> (with_reducible rfl)
          (try simp only [Act.put, List.setIfInBounds_toArray, List.set_cons_zero, List.set_cons_succ])
          refine rg_in 4 rfl (by kernel_rfl) (by kernel_rfl) (by kernel_rfl) (by rfl) (v := ?_) (fun _ _ _ h => h) hHeld (fun w hSw => ?_) ?_
          rotate_left
          · (try dsimp only at hSw); go_simp <;> (with_reducible rfl)
          (try simp only [Act.put, List.setIfInBounds_toArray, List.set_cons_zero, List.set_cons_succ])
          refine rg_in 5 rfl (by kernel_rfl) (by kernel_rfl) (by kernel_rfl) (by rfl) (v := ?_) (fun _ _ _ h => h) hHeld (fun w hSw => ?_) ?_
          rotate_left
          · (try dsimp only at hSw); go_simp <;> (with_reducible rfl)
          (try simp only [Act.put, List.setIfInBounds_toArray, List.set_cons_zero, List.set_cons_succ])
          refine rg_in 6 rfl (by kernel_rfl) (by kernel_rfl) (by kernel_rfl) (by rfl) (v := ?_) (fun _ _ _ h => h) hHeld (fun w hSw => ?_) ?_
          rotate_left
          · (try dsimp only at hSw); go_simp <;> (with_reducible rfl)
          (try simp only [Act.put, List.setIfInBounds_toArray, List.set_cons_zero, List.set_cons_succ])
          refine rg_in 7 rfl (by kernel_rfl) (by kernel_rfl) (by kernel_rfl) (by rfl) (v := ?_) (fun _ _ _ h => h) hHeld (fun w hSw => ?_) ?_
          rotate_left
          · (try dsimp only at hSw); go_simp <;> (with_reducible rfl)
          (try simp only [Act.put, List.setIfInBounds_toArray, List.set_cons_zero, List.set_cons_succ])
          refine rg_in 8 rfl (by kernel_rfl) (by kernel_rfl) (by kernel_rfl) (by rfl) (v := ?_) (fun _ _ _ h => h) hHeld (fun w hSw => ?_) ?_
          rotate_left
          · (try dsimp only at hSw); go_simp <;> (with_reducible rfl)
          (try simp only [Act.put, List.setIfInBounds_toArray, List.set_cons_zero, List.set_cons_succ])
          refine rg_in 9 rfl (by kernel_rfl) (by kernel_rfl) (by kernel_rfl) (by rfl) (v := ?_) (fun _ _ _ h => h) hHeld (fun w hSw => ?_) ?_
          rotate_left
          · (try dsimp only at hSw); go_simp <;> (with_reducible rfl)
          (try simp only [Act.put, List.setIfInBounds_toArray, List.set_cons_zero, List.set_cons_succ])
          refine rg_in 10 rfl (by kernel_rfl) (by kernel_rfl) (by kernel_rfl) (by rfl) (v := ?_) (fun _ _ _ h => h) hHeld (fun w hSw => ?_) ?_
          rotate_left
          · (try dsimp only at hSw); go_simp <;> (with_reducible rfl)
          (try simp only [Act.put, List.setIfInBounds_toArray, List.set_cons_zero, List.set_cons_succ])
          refine rg_in 11 rfl (by kernel_rfl) (by kernel_rfl) (by kernel_rfl) (by rfl) (v := ?_) (fun _ _ _ h => h) hHeld (fun w hSw => ?_) ?_
          rotate_left
          · (try dsimp only at hSw); go_simp <;> (with_reducible rfl)
          (try simp only [Act.put, List.setIfInBounds_toArray, List.set_cons_zero, List.set_cons_succ])
          refine rg_in 12 rfl (by kernel_rfl) (by kernel_rfl) (by kernel_rfl) (by rfl) (v := ?_) (fun _ _ _ h => h) hHeld (fun w hSw => ?_) ?_
          rotate_left
          · (try dsimp only at hSw); go_simp <;> (with_reducible rfl)
          (try simp only [Act.put, List.setIfInBounds_toArray, List.set_cons_zero, List.set_cons_succ])
          refine rg_in 13 rfl (by kernel_rfl) (by kernel_rfl) (by kernel_rfl) (by rfl) (v := ?_) (fun _ _ _ h => h) hHeld (fun w hSw => ?_) ?_
          rotate_left
          · (try dsimp only at hSw); go_simp <;> (with_reducible rfl)
          (try simp only [Act.put, List.setIfInBounds_toArray, List.set_cons_zero, List.set_cons_succ])
          refine wpAnyH_done (by kernel_rfl) ?_ _
          clear hHeld x1 x2 HS7
          gi_wp2
          exact ⟨hr4.r, .inl ⟨rfl, by rw [HQ.out]; exact hr4.turn rfl rfl _, HB.out⟩⟩
    refine hcall.mono ?_
    rintro e B1 ⟨hv, hr | hr⟩
    · have hQe : between (joinP (X.Q.take (X.ln + 1))) a (a + d) = between X.all a (a + d) := by
        rw [List.take_of_length_le (by unfold FileT.Q; rw [List.length_cons, hL.len]; exact Nat.le_refl _), joinQ]
      rw [hQe] at hr
      clear hcall J0 j1 j2 j4 jo jf hrec hfn hb1 hL hN hQe HLie
      refine ⟨hv, .ready, none, hr.r, by simp, ?_⟩
      have hr5 := hr.turn rfl rfl (.loop (rec .exhausted none))
      generalize B1.putObj (w.heap.size + 7) (.loop (rec .exhausted none)) = W5 at *
      have hK := hr5.d
      obtain ⟨A4, c4, hb4, hown4⟩ := hr5.b4
      have k4 := hb4.cell
      have HE := Lib.hid (span_end hr5 hown4 (lq := .deferred none) rfl)
      clear hr hr5 hown4 hb4 hv
      generalize (between X.all a (a + d)).length = j at *
      unfold goesOn
      dsimp only
      go_wp2
      refine ⟨by simp, .inl ⟨_, _, rfl, run_takeDeferred hK, ?_⟩⟩
      refine ⟨_, ?_, HE.out⟩
      clear HE hK
      simp [results, Tryd.results61, go_sem, *]
    · clear hcall J0 j1 j2 j4 jo jf hrec hfn hb1 hL hN HLie
      refine ⟨hv, .done, _, hr.r, by simp, ?_⟩
      have hr5 := hr.turn rfl rfl (.loop (rec .exhausted (some (.exit 0))))
      generalize B1.putObj (w.heap.size + 7) (.loop (rec .exhausted (some (.exit 0)))) = W5 at *
      have hK := hr5.d
      obtain ⟨A4, c4, hb4, hown4⟩ := hr5.b4
      have k4 := hb4.cell
      have HE := Lib.hid (span_end hr5 hown4 (lq := .deferred none) rfl)
      clear hr hr5 hown4 hb4 hv
      generalize (between X.all a (a + d)).length = j at *
      unfold goesOn
      refine wpIn_wide.2 ?_
      go_wp2
      refine ⟨by simp, .inl ⟨_, _, rfl, run_takeDeferred hK, ?_⟩⟩
      refine ⟨_, ?_, HE.out⟩
      clear HE hK
      simp [results, Tryd.results61, go_sem, *]
end Go.Proofs.YtlknmpnjhbdlhaaDoor
/-
  Layer 10: the work of a Sync: all bytes in one row.
-/
namespace Go.Proofs.YtlknmpnjhbdlhaaDoor
open Go.RowKit
set_option linter.unusedVariables false

set_option maxRecDepth 20000 in
set_option maxHeartbeats 4000000 in
theorem work2_any (g b1 B : Nat) (X : FileT) (u2 u3 : Int) (J : Ending → World → Prop) (w : World)
    (hV : FVar w g (.slice X.F.A X.F.n X.F.c) (.slice X.lA X.ln X.lc) (.int .i64 u2) (.int .i64 u3) (.bool false)) (h1 : w.cell? ⟨b1, 0, none⟩ = some (.pointer (some ⟨g, 0, none⟩)))
    (hg1 : b1 ≠ g) (hBg : B ≤ g) (hBW : B ≤ w.heap.size) (hL : LieF w B X) (hw2 : (Lit.int .i64 u2).wf = true) (hw3 : (Lit.int .i64 u3).wf = true) (hr : X.right = true)
    (hEnd : ∀ p W, p.l = between X.all 0 (0 + X.long) → PcT.Ok W W.heap.size p → (∀ k, k < w.heap.size → AwayF X k → AwayP p k) → Below w.heap.size w W → FVar W g (.slice X.F.A X.F.n X.F.c) (.slice X.lA X.ln X.lc) (.int .i64 u2) (.int .i64 u3) (.bool false) → J (.returned (.tuple #[])) ((W.setCell ⟨g, 0, none⟩ (.slice p.A p.n p.c)).setCell ⟨g, 1, none⟩ (.slice none 0 0))) :
    Calls Tryd.prog 60 #[.pointer (some ⟨b1, 0, none⟩)] w J := by
  obtain ⟨hN, hl, hln⟩ := right_rows hL hr
  obtain ⟨hlong, hmax⟩ := right_all hL hr
  have hL2 : LieF w B ⟨X.F, X.lA, X.ln, X.lc, X.L, u2, u3, false⟩ := ⟨hL.firm, hL.row, hL.loose, hL.nil, hL.fits, hL.most, hw2, hw3⟩
  have hl1 := World.block_lt_of_cell? w _ h1
  have Hle := Lib.hid (fun W (h : Below w.heap.size w W) => length_any ⟨X.F, X.lA, X.ln, X.lc, X.L, u2, u3, false⟩ B W (hL2.later (h.mono hBW)) (Nat.le_trans hBW h.size) hN)
  have Hsp := Lib.hid (fun W (h : Below w.heap.size w W) => (span_any ⟨X.F, X.lA, X.ln, X.lc, X.L, u2, u3, false⟩ 0 X.long B W (hL2.later (h.mono hBW)) (Nat.le_trans hBW h.size) hN hl (by show 0 + X.long ≤ X.all.length; omega) hmax).mono (R' := fun e w' => ∃ p : PcT, e = .returned (.slice p.A p.n p.c) ∧ p.l = between X.all 0 (0 + X.long) ∧ p.Ok w' w'.heap.size ∧ Below W.heap.size W w' ∧ ∀ k, k < w.heap.size → AwayF X k → AwayP p k) (fun e w' ⟨p, h1, h2, h3, h4, h5⟩ => ⟨p, h1, h2, h3, h4, fun k hk ha => h5 k (Nat.lt_of_lt_of_le hk h.size) ⟨ha.firm, ha.row, ha.loose⟩⟩))
  simp only [FileT.agg, PcT.val, show ((0 : Nat) : Int) = 0 from rfl] at Hle Hsp
  have hlo : (⟨X.F, X.lA, X.ln, X.lc, X.L, u2, u3, false⟩ : FileT).long = X.long := rfl
  rw [hlo] at Hle
  have xV : ∀ W, Below w.heap.size w W → FVar W g (.slice X.F.A X.F.n X.F.c) (.slice X.lA X.ln X.lc) (.int .i64 u2) (.int .i64 u3) (.bool false) := fun W h => hV.later h
  have x1 : ∀ W, SAg g B w W → W.cell? ⟨b1, 0, none⟩ = some (.pointer (some ⟨g, 0, none⟩)) := fun W h => (h.cell hl1 hg1).trans h1
  have hb1 := Lib.hid x1
  have HS0 : SAg g B w w.drew := ⟨fun k hk _ => rfl, below_drewN (Below.refl _ _) 1, hBW⟩
  have hbw : Below w.heap.size w w.drew := below_drewN (Below.refl _ _) 1
  obtain ⟨⟨v0, v1, v2, v3, v4⟩, -⟩ := hV
  have hEnd := Lib.hid hEnd
  clear hL hL2 hN hl hln hlong hmax hlo h1 hw2 hw3 hr
  go_enter Tryd.func60, Tryd.ntmps60
  go_upto_region 0 with fail
  refine wp_region_held_drew (S := fun W => SAg g B w W) (by kernel_rfl) HS0 (fun hHeld => ?_)
  refine rg_in 0 rfl (by kernel_rfl) (by kernel_rfl) (by kernel_rfl) (by rfl) (v := ?_) (fun _ _ _ h => h) hHeld (fun w hSw => ?_) ?_
  rotate_left
  · (try dsimp only at hSw); go_simp <;> (with_reducible rfl)
  (try simp only [Act.put, List.setIfInBounds_toArray, List.set_cons_zero, List.set_cons_succ])
  refine rg_in 1 rfl (by kernel_rfl) (by kernel_rfl) (by kernel_rfl) (by rfl) (v := ?_) (fun _ _ _ h => h) hHeld (fun w hSw => ?_) ?_
  rotate_left
  · (try dsimp only at hSw); go_simp <;> (with_reducible rfl)
  (try simp only [Act.put, List.setIfInBounds_toArray, List.set_cons_zero, List.set_cons_succ])
  refine rg_in 2 rfl (by kernel_rfl) (by kernel_rfl) (by kernel_rfl) (by rfl) (v := ?_) (fun _ _ _ h => h) hHeld (fun w hSw => ?_) ?_
  rotate_left
  · (try dsimp only at hSw); go_simp <;> (with_reducible rfl)
  (try simp only [Act.put, List.setIfInBounds_toArray, List.set_cons_zero, List.set_cons_succ])
  refine rg_in 3 rfl (by kernel_rfl) (by kernel_rfl) (by kernel_rfl) (by rfl) (v := ?_) (fun _ _ _ h => h) hHeld (fun w hSw => ?_) ?_
  rotate_left
  · (try dsimp only at hSw); go_simp <;> (with_reducible rfl)
  (try simp only [Act.put, List.setIfInBounds_toArray, List.set_cons_zero, List.set_cons_succ])
  refine rg_in 5 rfl (by kernel_rfl) (by kernel_rfl) (by kernel_rfl) (by rfl) (v := ?_) (fun _ _ _ h => h) hHeld (fun w hSw => ?_) ?_
  rotate_left
  · (try dsimp only at hSw); go_simp <;> (with_reducible rfl)
  (try simp only [Act.put, List.setIfInBounds_toArray, List.set_cons_zero, List.set_cons_succ])
  refine rg_in 6 rfl (by kernel_rfl) (by kernel_rfl) (by kernel_rfl) (by rfl) (v := ?_) (fun _ _ _ h => h) hHeld (fun w hSw => ?_) ?_
  rotate_left
  · (try dsimp only at hSw); go_simp <;> (with_reducible rfl)
  (try simp only [Act.put, List.setIfInBounds_toArray, List.set_cons_zero, List.set_cons_succ])
  refine rg_in 7 rfl (by kernel_rfl) (by kernel_rfl) (by kernel_rfl) (by rfl) (v := ?_) (fun _ _ _ h => h) hHeld (fun w hSw => ?_) ?_
  rotate_left
  · (try dsimp only at hSw); go_simp <;> (with_reducible rfl)
  (try simp only [Act.put, List.setIfInBounds_toArray, List.set_cons_zero, List.set_cons_succ])
  refine wpAnyH_ready (rs := [4, 8]) (by kernel_rfl) (by simp) ?_
  refine rg_cons rfl (by rfl) (fun K hK => ?_) ?_
  · obtain ⟨⟨q0, q1, q2, q3, q4⟩, -⟩ := xV _ hbw
    go_simp
    clear q0 q1 q2 q3 q4
    refine hK.out _ _ hHeld (fun hHeld => ?_)
    clear hK K
    (try simp only [Act.put, List.setIfInBounds_toArray, List.set_cons_zero, List.set_cons_succ])
    refine rg_do 8 rfl (by kernel_rfl) (by rfl) (fun K hK => ?_)
    obtain ⟨⟨q0, q1, q2, q3, q4⟩, -⟩ := xV _ hbw
    go_simp
    clear q0 q1 q2 q3 q4
    refine hK.out _ _ hHeld (fun hHeld => ?_)
    clear hK K
    (try simp only [Act.put, List.setIfInBounds_toArray, List.set_cons_zero, List.set_cons_succ])
    refine rg_do 9 rfl (by kernel_rfl) (by rfl) (fun K hK => ?_)
    go_simp
    (go_at_call 45; (with_reducible refine (Hle.out _ hbw).mono ?_); (rintro e w109 ⟨rfl, hb9⟩))
    refine hK.out _ _ (SAg.next hHeld hb9) (fun hHeld => ?_)
    clear hK K
    (try simp only [Act.put, List.setIfInBounds_toArray, List.set_cons_zero, List.set_cons_succ])
    refine rg_do 10 rfl (by kernel_rfl) (by rfl) (fun K hK => ?_)
    go_simp
    (go_at_call 61; (with_reducible refine (Hsp.out _ (bel_next hbw hb9)).mono ?_); (rintro e w110 ⟨p, rfl, hpl, hpo, hb10, hpa⟩))
    refine hK.out _ _ (SAg.next hHeld hb10) (fun hHeld => ?_)
    clear hK K
    (try simp only [Act.put, List.setIfInBounds_toArray, List.set_cons_zero, List.set_cons_succ])
    refine rg_in 11 rfl (by kernel_rfl) (by kernel_rfl) (by kernel_rfl) (by rfl) (v := ?_) (fun _ _ _ h => h) hHeld (fun w hSw => ?_) ?_
    rotate_left
    · (try dsimp only at hSw); go_simp <;> (with_reducible rfl)
    (try simp only [Act.put, List.setIfInBounds_toArray, List.set_cons_zero, List.set_cons_succ])
    refine rg_in 12 rfl (by kernel_rfl) (by kernel_rfl) (by kernel_rfl) (by rfl) (v := ?_) (fun _ _ _ h => h) hHeld (fun w hSw => ?_) ?_
    rotate_left
    · (try dsimp only at hSw); go_simp <;> (with_reducible rfl)
    (try simp only [Act.put, List.setIfInBounds_toArray, List.set_cons_zero, List.set_cons_succ])
    refine rg_in 13 rfl (by kernel_rfl) (by kernel_rfl) (by kernel_rfl) (by rfl) (v := ?_) (fun _ _ _ h => h) hHeld (fun w hSw => ?_) ?_
    rotate_left
    · (try dsimp only at hSw); go_simp <;> (with_reducible rfl)
    (try simp only [Act.put, List.setIfInBounds_toArray, List.set_cons_zero, List.set_cons_succ])
    refine rg_do 14 rfl (by kernel_rfl) (by rfl) (fun K hK => ?_)
    have hV := xV _ (bel_next (bel_next hbw hb9) hb10)
    obtain ⟨⟨q0, -⟩, f0, -⟩ := hV
    go_simp
    clear f0
    refine hK.out _ _ (SAg.set hHeld q0 hBg) (fun hHeld => ?_)
    clear hK K
    (try simp only [Act.put, List.setIfInBounds_toArray, List.set_cons_zero, List.set_cons_succ])
    refine wpAnyH_done (by kernel_rfl) ?_ _
    have hb' := (bel_next (bel_next hbw hb9) hb10)
    have hV2 := xV _ hb'
    obtain ⟨⟨q0', q1', q2', q3', q4'⟩, k0', k1', k2', k3', k4'⟩ := hV2.set0 (.slice p.A p.n p.c)
    have hp1 := hb1.out _ hHeld
    have HEnd := Lib.hid (hEnd.out p _ hpl hpo hpa hb' hV2)
    clear xV hpl hpo hpa hEnd hb1
    go_wp2
    go_end0
    exact HEnd.out
  refine rg_cons rfl (by rfl) (fun K hK => ?_) ?_
  · obtain ⟨⟨q0, q1, q2, q3, q4⟩, -⟩ := xV _ hbw
    go_simp
    clear q0 q1 q2 q3 q4
    refine hK.out _ _ hHeld (fun hHeld => ?_)
    clear hK K
    (try simp only [Act.put, List.setIfInBounds_toArray, List.set_cons_zero, List.set_cons_succ])
    refine wpAnyH_ready (rs := [4, 9]) (by kernel_rfl) (by simp) ?_
    refine rg_cons rfl (by rfl) (fun K hK => ?_) ?_
    · obtain ⟨⟨q0, q1, q2, q3, q4⟩, -⟩ := xV _ hbw
      go_simp
      clear q0 q1 q2 q3 q4
      refine hK.out _ _ hHeld (fun hHeld => ?_)
      clear hK K
      (try simp only [Act.put, List.setIfInBounds_toArray, List.set_cons_zero, List.set_cons_succ])
      refine rg_do 9 rfl (by kernel_rfl) (by rfl) (fun K hK => ?_)
      go_simp
      (go_at_call 45; (with_reducible refine (Hle.out _ hbw).mono ?_); (rintro e w109 ⟨rfl, hb9⟩))
      refine hK.out _ _ (SAg.next hHeld hb9) (fun hHeld => ?_)
      clear hK K
      (try simp only [Act.put, List.setIfInBounds_toArray, List.set_cons_zero, List.set_cons_succ])
      refine rg_do 10 rfl (by kernel_rfl) (by rfl) (fun K hK => ?_)
      go_simp
      (go_at_call 61; (with_reducible refine (Hsp.out _ (bel_next hbw hb9)).mono ?_); (rintro e w110 ⟨p, rfl, hpl, hpo, hb10, hpa⟩))
      refine hK.out _ _ (SAg.next hHeld hb10) (fun hHeld => ?_)
      clear hK K
      (try simp only [Act.put, List.setIfInBounds_toArray, List.set_cons_zero, List.set_cons_succ])
      refine rg_in 11 rfl (by kernel_rfl) (by kernel_rfl) (by kernel_rfl) (by rfl) (v := ?_) (fun _ _ _ h => h) hHeld (fun w hSw => ?_) ?_
      rotate_left
      · (try dsimp only at hSw); go_simp <;> (with_reducible rfl)
      (try simp only [Act.put, List.setIfInBounds_toArray, List.set_cons_zero, List.set_cons_succ])
      refine rg_in 12 rfl (by kernel_rfl) (by kernel_rfl) (by kernel_rfl) (by rfl) (v := ?_) (fun _ _ _ h => h) hHeld (fun w hSw => ?_) ?_
      rotate_left
      · (try dsimp only at hSw); go_simp <;> (with_reducible rfl)
      (try simp only [Act.put, List.setIfInBounds_toArray, List.set_cons_zero, List.set_cons_succ])
      refine rg_in 13 rfl (by kernel_rfl) (by kernel_rfl) (by kernel_rfl) (by rfl) (v := ?_) (fun _ _ _ h => h) hHeld (fun w hSw => ?_) ?_
      rotate_left
      · (try dsimp only at hSw); go_simp <;> (with_reducible rfl)
      (try simp only [Act.put, List.setIfInBounds_toArray, List.set_cons_zero, List.set_cons_succ])
      refine rg_do 14 rfl (by kernel_rfl) (by rfl) (fun K hK => ?_)
      have hV := xV _ (bel_next (bel_next hbw hb9) hb10)
      obtain ⟨⟨q0, -⟩, f0, -⟩ := hV
      go_simp
      clear f0
      refine hK.out _ _ (SAg.set hHeld q0 hBg) (fun hHeld => ?_)
      clear hK K
      (try simp only [Act.put, List.setIfInBounds_toArray, List.set_cons_zero, List.set_cons_succ])
      refine wpAnyH_done (by kernel_rfl) ?_ _
      have hb' := (bel_next (bel_next hbw hb9) hb10)
      have hV2 := xV _ hb'
      obtain ⟨⟨q0', q1', q2', q3', q4'⟩, k0', k1', k2', k3', k4'⟩ := hV2.set0 (.slice p.A p.n p.c)
      have hp1 := hb1.out _ hHeld
      have HEnd := Lib.hid (hEnd.out p _ hpl hpo hpa hb' hV2)
      clear xV hpl hpo hpa hEnd hb1
      go_wp2
      go_end0
      exact HEnd.out
    refine rg_cons rfl (by rfl) (fun K hK => ?_) ?_
    · go_simp
      (go_at_call 45; (with_reducible refine (Hle.out _ hbw).mono ?_); (rintro e w109 ⟨rfl, hb9⟩))
      refine hK.out _ _ (SAg.next hHeld hb9) (fun hHeld => ?_)
      clear hK K
      (try simp only [Act.put, List.setIfInBounds_toArray, List.set_cons_zero, List.set_cons_succ])
      refine rg_do 4 rfl (by kernel_rfl) (by rfl) (fun K hK => ?_)
      obtain ⟨⟨q0, q1, q2, q3, q4⟩, -⟩ := xV _ (bel_next hbw hb9)
      go_simp
      clear q0 q1 q2 q3 q4
      refine hK.out _ _ hHeld (fun hHeld => ?_)
      clear hK K
      (try simp only [Act.put, List.setIfInBounds_toArray, List.set_cons_zero, List.set_cons_succ])
      refine rg_do 10 rfl (by kernel_rfl) (by rfl) (fun K hK => ?_)
      go_simp
      (go_at_call 61; (with_reducible refine (Hsp.out _ (bel_next hbw hb9)).mono ?_); (rintro e w110 ⟨p, rfl, hpl, hpo, hb10, hpa⟩))
      refine hK.out _ _ (SAg.next hHeld hb10) (fun hHeld => ?_)
      clear hK K
      (try simp only [Act.put, List.setIfInBounds_toArray, List.set_cons_zero, List.set_cons_succ])
      refine rg_in 11 rfl (by kernel_rfl) (by kernel_rfl) (by kernel_rfl) (by rfl) (v := ?_) (fun _ _ _ h => h) hHeld (fun w hSw => ?_) ?_
      rotate_left
      · (try dsimp only at hSw); go_simp <;> (with_reducible rfl)
      (try simp only [Act.put, List.setIfInBounds_toArray, List.set_cons_zero, List.set_cons_succ])
      refine rg_in 12 rfl (by kernel_rfl) (by kernel_rfl) (by kernel_rfl) (by rfl) (v := ?_) (fun _ _ _ h => h) hHeld (fun w hSw => ?_) ?_
      rotate_left
      · (try dsimp only at hSw); go_simp <;> (with_reducible rfl)
      (try simp only [Act.put, List.setIfInBounds_toArray, List.set_cons_zero, List.set_cons_succ])
      refine rg_in 13 rfl (by kernel_rfl) (by kernel_rfl) (by kernel_rfl) (by rfl) (v := ?_) (fun _ _ _ h => h) hHeld (fun w hSw => ?_) ?_
      rotate_left
      · (try dsimp only at hSw); go_simp <;> (with_reducible rfl)
      (try simp only [Act.put, List.setIfInBounds_toArray, List.set_cons_zero, List.set_cons_succ])
      refine rg_do 14 rfl (by kernel_rfl) (by rfl) (fun K hK => ?_)
      have hV := xV _ (bel_next (bel_next hbw hb9) hb10)
      obtain ⟨⟨q0, -⟩, f0, -⟩ := hV
      go_simp
      clear f0
      refine hK.out _ _ (SAg.set hHeld q0 hBg) (fun hHeld => ?_)
      clear hK K
      (try simp only [Act.put, List.setIfInBounds_toArray, List.set_cons_zero, List.set_cons_succ])
      refine wpAnyH_done (by kernel_rfl) ?_ _
      have hb' := (bel_next (bel_next hbw hb9) hb10)
      have hV2 := xV _ hb'
      obtain ⟨⟨q0', q1', q2', q3', q4'⟩, k0', k1', k2', k3', k4'⟩ := hV2.set0 (.slice p.A p.n p.c)
      have hp1 := hb1.out _ hHeld
      have HEnd := Lib.hid (hEnd.out p _ hpl hpo hpa hb' hV2)
      clear xV hpl hpo hpa hEnd hb1
      go_wp2
      go_end0
      exact HEnd.out
    exact AllReadyH.nil
  exact AllReadyH.nil
end Go.Proofs.YtlknmpnjhbdlhaaDoor
