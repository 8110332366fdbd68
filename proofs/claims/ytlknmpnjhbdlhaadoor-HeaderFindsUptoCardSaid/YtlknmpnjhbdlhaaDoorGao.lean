import Derived.Test.YtlknmpnjhbdlhaaDoorGan
import Derived.Test.YtlknmpnjhbdlhaaDoorGaf
import Derived.RangeFuncCalls
import Derived.Lib.OwnKind
import Derived.Test.YtlknmpnjhbdlhaaDoorGam
/-
  Layer 12: what Find does with a block.
-/
namespace Go.Proofs.YtlknmpnjhbdlhaaDoor
open Go.RowKit
set_option linter.unusedVariables false

/-- Three variables may have turned, nothing else that was there. -/
structure Only3 (a b c : Nat) (w w' : World) : Prop where
  size : w.heap.size ≤ w'.heap.size
  other : ∀ k, k < w.heap.size → k ≠ a → k ≠ b → k ≠ c → w'.heap[k]? = w.heap[k]?
  below : ∀ B, B ≤ a → B ≤ b → B ≤ c → B ≤ w.heap.size → Below B w w'
theorem Only3.set {a b c : Nat} {w w' : World} (h : Only3 a b c w w') {g : Nat} (hg : g = a ∨ g = b ∨ g = c) (i : Nat) (u : Value) : Only3 a b c w (w'.setCell ⟨g, i, none⟩ u) :=
  ⟨by rw [size_set]; exact h.size, fun k hk h1 h2 h3 => (Below.heap_setCell _ _ _ _ (by show k ≠ g; rcases hg with rfl | rfl | rfl <;> assumption)).trans (h.other k hk h1 h2 h3),
    fun B h1 h2 h3 h4 => (h.below B h1 h2 h3 h4).setCell (by show B ≤ g; rcases hg with rfl | rfl | rfl <;> assumption) _⟩
theorem Only3.of {a b c : Nat} {w w' : World} (h : Below w.heap.size w w') : Only3 a b c w w' := ⟨h.size, fun k hk _ _ _ => h.block k hk, fun B _ _ _ h4 => h.mono h4⟩
set_option maxRecDepth 20000 in
set_option maxHeartbeats 2000000 in
theorem record_any (l : List UInt8) (hl : l.length = 64) (at' : Nat) (bf bo bp g0 : Nat) (a0 : Int) (v0 v1 : Value) (w : World) (htab : Tab w) (hf : HBox w bf g0 a0) (ho : Boxed w bo 4 v0) (hp : Boxed w bp 3 v1) (n1 : bf ≠ bo) (n2 : bf ≠ bp) (n3 : bo ≠ bp) :
    Calls Tryd.prog 41 #[.int .i64 (at' : Nat), arrV l, .pointer (some ⟨bf, 0, none⟩), .pointer (some ⟨bo, 0, none⟩), .pointer (some ⟨bp, 0, none⟩)] w fun e w' => e = .returned (.tuple #[]) ∧
      HBox w' bf (sayG l) (sayA l : Nat) ∧ Boxed w' bo 4 (.bool (Hdr.saysL l).isSome) ∧ Boxed w' bp 3 (if (Hdr.saysL l).isSome = true then .int .i64 (at' : Nat) else v1) ∧ Only3 bf bo bp w w' := by
  have HS := fun W h => saysH_any l hl W h
  obtain ⟨s, hs⟩ : ∃ s, (Hdr.saysL l).isSome = s := ⟨_, rfl⟩
  rw [hs] at HS ⊢
  obtain ⟨g, hg⟩ : ∃ g, sayG l = g := ⟨_, rfl⟩
  obtain ⟨a, ha⟩ : ∃ a, sayA l = a := ⟨_, rfl⟩
  rw [hg, ha] at HS ⊢
  clear hs hg ha
  unfold arrV at *
  have hb1 := bel_alloc (Below.refl w.heap.size w) (.cells ⟨l.map bv⟩ 25)
  have hA1 := Arr.new w 25 l
  have hf1 := hf.later hb1
  have ho1 : Boxed _ bo 4 v0 := blk_later ho hb1
  have hp1 : Boxed _ bp 3 v1 := blk_later hp hb1
  have ht1 := htab.below hb1 htab.lt
  go_enter Tryd.func41, Tryd.ntmps41
  go_upto_region 1 with fail
  generalize w.alloc (.cells ⟨l.map bv⟩ 25) = W1 at *
  clear hf ho hp htab
  go_upto_region 2 with (first
    | (with_reducible refine wpList_loadArr rfl (.tmp 6) rfl rfl hA1 Tryd.underlying25 (info64 hl) ?_)
    | (go_at_call 13; refine (HS W1 ht1).mono ?_; rintro e W2 ⟨rfl, hb2⟩; have hf2 := hf1.later hb2; have ho2 : Boxed _ bo 4 v0 := blk_later ho1 hb2; have q0 := hf2.c0; have q1 := hf2.c1; have p0 := hf2.soft 0; have p1 := hf2.soft 1; have r0 := ho2.cell; have r1 := ho2.frozen; clear hf1 ho1 ht1 HS hA1))
  have hp2 : Boxed _ bp 3 v1 := blk_later hp1 hb2
  have o2 : Only3 bf bo bp w W2 := Only3.of (bel_next hb1 hb2)
  have o3 := ((o2.set (.inl rfl) 0 (.int .u64 (g : Int))).set (.inl rfl) 1 (.int .i64 (a : Nat))).set (.inr (.inl rfl)) 0 (.bool s)
  have hf3 : HBox (((W2.setCell ⟨bf, 0, none⟩ (.int .u64 (g : Int))).setCell ⟨bf, 1, none⟩ (.int .i64 (a : Nat))).setCell ⟨bo, 0, none⟩ (.bool s)) bf g (a : Nat) := (Below.heap_setCell _ _ _ _ n1).trans (set2_box hf2 g (a : Nat))
  have ho3 : Boxed (((W2.setCell ⟨bf, 0, none⟩ (.int .u64 (g : Int))).setCell ⟨bf, 1, none⟩ (.int .i64 (a : Nat))).setCell ⟨bo, 0, none⟩ (.bool s)) bo 4 (.bool s) := Boxed.set _ ((Below.heap_setCell _ _ _ _ (fun e => n1 e.symm)).trans ((Below.heap_setCell _ _ _ _ (fun e => n1 e.symm)).trans ho2))
  have hp3 : Boxed (((W2.setCell ⟨bf, 0, none⟩ (.int .u64 (g : Int))).setCell ⟨bf, 1, none⟩ (.int .i64 (a : Nat))).setCell ⟨bo, 0, none⟩ (.bool s)) bp 3 v1 := (Below.heap_setCell _ _ _ _ (fun e => n3 e.symm)).trans ((Below.heap_setCell _ _ _ _ (fun e => n2 e.symm)).trans ((Below.heap_setCell _ _ _ _ (fun e => n2 e.symm)).trans hp2))
  generalize ((W2.setCell ⟨bf, 0, none⟩ (.int .u64 (g : Int))).setCell ⟨bf, 1, none⟩ (.int .i64 (a : Nat))).setCell ⟨bo, 0, none⟩ (.bool s) = W3 at *
  have r2 := ho3.cell
  have s2 := hp3.cell
  have s3 := hp3.frozen
  clear hp1 hb1 hb2 hf2 ho2 q0 q1 p0 p1 r0 r1 hp2 o2
  cases s
  · go_wp2
    go_end0
    refine ⟨rfl, hf3, ho3, ?_, o3⟩
    exact hp3
  · have hp4 := Boxed.set (.int .i64 (at' : Nat)) hp3
    have o4 := o3.set (.inr (.inr rfl)) 0 (.int .i64 (at' : Nat))
    have hf4 : HBox (W3.setCell ⟨bp, 0, none⟩ (.int .i64 (at' : Nat))) bf g (a : Nat) := (Below.heap_setCell _ _ _ _ n2).trans hf3
    have ho4 : Boxed (W3.setCell ⟨bp, 0, none⟩ (.int .i64 (at' : Nat))) bo 4 (.bool true) := (Below.heap_setCell _ _ _ _ n3).trans ho3
    go_wp2
    go_end0
    refine ⟨rfl, hf4, ho4, ?_, o4⟩
    exact hp4
theorem record_no (l : List UInt8) (hl : l.length = 64) (at' : Nat) (bf bo bp g0 : Nat) (a0 : Int) (v0 v1 : Value) (w : World) (htab : Tab w) (hf : HBox w bf g0 a0) (ho : Boxed w bo 4 v0) (hp : Boxed w bp 3 v1) (n1 : bf ≠ bo) (n2 : bf ≠ bp) (n3 : bo ≠ bp) (hs : Hdr.saysL l = none) :
    Calls Tryd.prog 41 #[.int .i64 (at' : Nat), arrV l, .pointer (some ⟨bf, 0, none⟩), .pointer (some ⟨bo, 0, none⟩), .pointer (some ⟨bp, 0, none⟩)] w fun e w' => e = .returned (.tuple #[]) ∧
      HBox w' bf 0 ((0 : Nat) : Int) ∧ Boxed w' bo 4 (.bool false) ∧ Boxed w' bp 3 v1 ∧ Only3 bf bo bp w w' := by
  have h := record_any l hl at' bf bo bp g0 a0 v0 v1 w htab hf ho hp n1 n2 n3
  obtain ⟨e1, e2, e3⟩ := say_none hs
  rw [e1, e2, e3] at h
  exact h
theorem record_yes (l : List UInt8) (hl : l.length = 64) (at' : Nat) (bf bo bp g0 : Nat) (a0 : Int) (v0 v1 : Value) (w : World) (htab : Tab w) (hf : HBox w bf g0 a0) (ho : Boxed w bo 4 v0) (hp : Boxed w bp 3 v1) (n1 : bf ≠ bo) (n2 : bf ≠ bp) (n3 : bo ≠ bp) {g a : Nat} (hs : Hdr.saysL l = some (g, a)) :
    Calls Tryd.prog 41 #[.int .i64 (at' : Nat), arrV l, .pointer (some ⟨bf, 0, none⟩), .pointer (some ⟨bo, 0, none⟩), .pointer (some ⟨bp, 0, none⟩)] w fun e w' => e = .returned (.tuple #[]) ∧
      HBox w' bf g (a : Nat) ∧ Boxed w' bo 4 (.bool true) ∧ Boxed w' bp 3 (.int .i64 (at' : Nat)) ∧ Only3 bf bo bp w w' := by
  have h := record_any l hl at' bf bo bp g0 a0 v0 v1 w htab hf ho hp n1 n2 n3
  obtain ⟨e1, e2, e3⟩ := say_some hs
  rw [e1, e2, e3] at h
  exact h
end Go.Proofs.YtlknmpnjhbdlhaaDoor
/-
  Layer 12: the last header of a file.
-/
namespace Go.Proofs.YtlknmpnjhbdlhaaDoor
open Go.RowKit Go.Shelf
set_option linter.unusedVariables false
attribute [local go_sem] Oper.semAt_some

/-- What was found. -/
def fG (R : Option (Nat × Nat × Nat)) : Nat := match R with | some p => p.1 | none => 0
def fA (R : Option (Nat × Nat × Nat)) : Nat := match R with | some p => p.2.1 | none => 0
def fP (R : Option (Nat × Nat × Nat)) : Nat := match R with | some p => p.2.2 | none => 0
/-- The closure's variable. -/
def recV (n : Nat) : Value := .func (.func 41) #[] #[.pointer (some ⟨n + 1 + 1, 0, none⟩), .pointer (some ⟨n + 1 + 1 + 1 + 1, 0, none⟩), .pointer (some ⟨n + 1 + 1 + 1, 0, none⟩)]
/-- The memory between two rounds: n blocks lay when Find began. -/
structure FM (n : Nat) (w : World) (lp : Obj) (X : FileT) (g a p : Nat) (ok : Bool) (W : World) : Prop where
  res : HBox W (n + 1) 0 0
  found : HBox W (n + 1 + 1) g (a : Nat)
  place : Boxed W (n + 1 + 1 + 1) 3 (.int .i64 (p : Nat))
  okb : Boxed W (n + 1 + 1 + 1 + 1) 4 (.bool ok)
  recb : W.heap[n + 1 + 1 + 1 + 1 + 1]? = some (.cells #[recV n] 78 (0, 0))
  file : W.heap[n + 1 + 1 + 1 + 1 + 1 + 1]? = some (.cells #[.slice X.F.A X.F.n X.F.c, .slice X.lA X.ln X.lc, .int .i64 X.fuse, .int .i64 X.fault, .bool X.off] 37 (0, 0))
  d : W.heap[n + 7]? = some (.deferred (some []))
  r : W.heap[n + 8]? = some lp
  bel : Below n w W
section
variable {n : Nat} {w : World} {lp : Obj} {X : FileT} {g a p : Nat} {ok : Bool} {W W' : World}
theorem FM.lt (h : FM n w lp X g a p ok W) : n + 8 < W.heap.size := (Array.getElem?_eq_some_iff.1 h.r).1
theorem FM.drewN (h : FM n w lp X g a p ok W) (k : Nat) : FM n w lp X g a p ok (W.drewN k) := ⟨h.res, h.found, h.place, h.okb, h.recb, h.file, h.d, h.r, below_drewN h.bel k⟩
theorem FM.later (h : FM n w lp X g a p ok W) (hb : Below W.heap.size W W') : FM n w lp X g a p ok W' := by
  have l : ∀ {k : Nat} {o : Obj}, W.heap[k]? = some o → W'.heap[k]? = some o := fun hk => blk_later hk hb
  exact ⟨l h.res, l h.found, l h.place, l h.okb, l h.recb, l h.file, l h.d, l h.r, h.bel.trans (hb.mono (by have := h.lt; omega))⟩
theorem FM.turn (h : FM n w lp X g a p ok W) (lp' : Obj) : FM n w lp' X g a p ok (W.putObj (n + 8) lp') := by
  have o : ∀ {k : Nat} {x : Obj}, W.heap[k]? = some x → k ≠ n + 8 → (W.putObj (n + 8) lp').heap[k]? = some x := fun hk hne => (World.putObj_heap_other hne).trans hk
  have hlt := h.lt
  exact ⟨o h.res (by omega), o h.found (by omega), o h.place (by omega), o h.okb (by omega), o h.recb (by omega), o h.file (by omega), o h.d (by omega), World.putObj_heap_same hlt, h.bel.grown (grownBy_putObj' W (n + 8) lp') (by omega) (fun k e => by cases e; omega)⟩
theorem FM.box (h : FM n w lp X g a p ok W) : FBox W (n + 1 + 1 + 1 + 1 + 1 + 1) X :=
  ⟨(cell_of_row _ _ 0 _ _ _ h.file).trans rfl, (cell_of_row _ _ 1 _ _ _ h.file).trans rfl, (cell_of_row _ _ 2 _ _ _ h.file).trans rfl, (cell_of_row _ _ 3 _ _ _ h.file).trans rfl, (cell_of_row _ _ 4 _ _ _ h.file).trans rfl⟩
/-- A block has been recorded. -/
theorem FM.rec3 (h : FM n w lp X g a p ok W) (h3 : Only3 (n + 1 + 1) (n + 1 + 1 + 1 + 1) (n + 1 + 1 + 1) W W') {g' a' p' : Nat} {ok' : Bool} (k1 : HBox W' (n + 1 + 1) g' (a' : Nat)) (k2 : Boxed W' (n + 1 + 1 + 1) 3 (.int .i64 (p' : Nat))) (k3 : Boxed W' (n + 1 + 1 + 1 + 1) 4 (.bool ok')) :
    FM n w lp X g' a' p' ok' W' := by
  have hlt := h.lt
  have o : ∀ {k : Nat} {x : Obj}, W.heap[k]? = some x → k ≠ n + 1 + 1 → k ≠ n + 1 + 1 + 1 + 1 → k ≠ n + 1 + 1 + 1 → W'.heap[k]? = some x := fun hk e1 e2 e3 => (h3.other _ (blk_lt hk) e1 e2 e3).trans hk
  exact ⟨o h.res (by omega) (by omega) (by omega), k1, k2, k3, o h.recb (by omega) (by omega) (by omega), o h.file (by omega) (by omega) (by omega), o h.d (by omega) (by omega) (by omega), o h.r (by omega) (by omega) (by omega), h.bel.trans (h3.below n (by omega) (by omega) (by omega) (by omega))⟩
end
/-- The variables with which Find begins. -/
theorem find_lay (w W1 : World) (X : FileT) (h : ((((((w.alloc (.cells #[.slice X.F.A X.F.n X.F.c, .slice X.lA X.ln X.lc, .int .i64 X.fuse, .int .i64 X.fault, .bool X.off] 37)).alloc (.cells #[.int .u64 0, .int .i64 0] 24)).alloc (.cells #[.int .u64 0, .int .i64 0] 24)).alloc (.cells #[.int .i64 0] 3)).alloc (.cells #[.bool false] 4)).alloc (.cells #[recV w.heap.size] 78)).alloc (.cells #[.slice X.F.A X.F.n X.F.c, .slice X.lA X.ln X.lc, .int .i64 X.fuse, .int .i64 X.fault, .bool X.off] 37) = W1) (lp : Obj) (hlp : W1.heap.size = w.heap.size + 7) :
    FM w.heap.size w lp X 0 0 0 false ((W1.alloc (.deferred (some []))).alloc lp) := by
  generalize hw1 : w.alloc (.cells #[.slice X.F.A X.F.n X.F.c, .slice X.lA X.ln X.lc, .int .i64 X.fuse, .int .i64 X.fault, .bool X.off] 37) = w1 at h
  have s1 : w1.heap.size = w.heap.size + 1 := by rw [← hw1, World.size_alloc]
  have e1 := heap_alloc_new w1 (.cells #[.int .u64 0, .int .i64 0] 24)
  generalize hw2 : w1.alloc (.cells #[.int .u64 0, .int .i64 0] 24) = w2 at *
  have s2 : w2.heap.size = w.heap.size + 1 + 1 := by rw [← hw2, World.size_alloc, s1]
  have e2 := heap_alloc_new w2 (.cells #[.int .u64 0, .int .i64 0] 24)
  generalize hw3 : w2.alloc (.cells #[.int .u64 0, .int .i64 0] 24) = w3 at *
  have s3 : w3.heap.size = w.heap.size + 1 + 1 + 1 := by rw [← hw3, World.size_alloc, s2]
  have e3 := heap_alloc_new w3 (.cells #[.int .i64 0] 3)
  generalize hw4 : w3.alloc (.cells #[.int .i64 0] 3) = w4 at *
  have s4 : w4.heap.size = w.heap.size + 1 + 1 + 1 + 1 := by rw [← hw4, World.size_alloc, s3]
  have e4 := heap_alloc_new w4 (.cells #[.bool false] 4)
  generalize hw5 : w4.alloc (.cells #[.bool false] 4) = w5 at *
  have s5 : w5.heap.size = w.heap.size + 1 + 1 + 1 + 1 + 1 := by rw [← hw5, World.size_alloc, s4]
  have e5 := heap_alloc_new w5 (.cells #[recV w.heap.size] 78)
  generalize hw6 : w5.alloc (.cells #[recV w.heap.size] 78) = w6 at *
  have s6 : w6.heap.size = w.heap.size + 1 + 1 + 1 + 1 + 1 + 1 := by rw [← hw6, World.size_alloc, s5]
  have e6 := heap_alloc_new w6 (.cells #[.slice X.F.A X.F.n X.F.c, .slice X.lA X.ln X.lc, .int .i64 X.fuse, .int .i64 X.fault, .bool X.off] 37)
  have a : ∀ {V : World} {k : Nat} {o : Obj} (x : Obj), V.heap[k]? = some o → (V.alloc x).heap[k]? = some o := fun x hk => blk_later hk ((Below.refl _ _).alloc (Nat.le_refl _) x)
  have hd := heap_alloc_new W1 (.deferred (some []))
  have hr := heap_alloc_new (W1.alloc (.deferred (some []))) lp
  rw [World.size_alloc, hlp] at hr
  rw [hlp] at hd
  rw [h] at e6
  rw [s1] at e1
  rw [s2] at e2
  rw [s3] at e3
  rw [s4] at e4
  rw [s5] at e5
  rw [s6] at e6
  refine ⟨a _ (a _ ?_), a _ (a _ ?_), a _ (a _ ?_), a _ (a _ ?_), a _ (a _ ?_), a _ (a _ e6), a _ hd, hr, ?_⟩
  · rw [← h, ← hw6, ← hw5, ← hw4, ← hw3]; exact a _ (a _ (a _ (a _ (a _ e1))))
  · rw [← h, ← hw6, ← hw5, ← hw4]; exact a _ (a _ (a _ (a _ e2)))
  · rw [← h, ← hw6, ← hw5]; exact a _ (a _ (a _ e3))
  · rw [← h, ← hw6]; exact a _ (a _ e4)
  · rw [← h]; exact a _ e5
  · rw [← h, ← hw6, ← hw5, ← hw4, ← hw3, ← hw2, ← hw1]
    exact bel_alloc (bel_alloc (bel_alloc (bel_alloc (bel_alloc (bel_alloc (bel_alloc (bel_alloc (bel_alloc (Below.refl _ _) _) _) _) _) _) _) _) _) _
/-- A whole array is stored into a new variable, within a range over a function. -/
theorem wpListIn_storeArr {F : Fence} {n : Nat} {P : Program} {ops : Array Oper} {Q : Exit → Act → World → Prop} {a : Act} {w : World} {rest : List Oper} {o : Oper} {g : Nat} {t : TypeId} {l m : List UInt8} (hgd : o.guard = none) (x y : Operand) (ho : o.op = .store t x y) (hx : a.eval x = .pointer (some ⟨g, 0, none⟩)) (hy : a.eval y = arrV m) (hb : Arr w g t l)
    (hi : (P.info? t).map (·.size) = some l.length) (hm : m.length = l.length) (h : ∀ w', Arr w' g t m → OnlyB g w w' → wpListIn F n P ops Q rest (a.put o.dst undef) w') : wpListIn F n P ops Q (o :: rest) a w :=
  wpListIn_plain hgd fun K hK => by
    obtain ⟨w', hr, h1, h2⟩ := run_storeArr (P := P) hb hi hm
    refine ⟨fun f hf => ?_, ?_⟩
    · simp [Oper.about, ho] at hf
    · rw [Oper.semAt_eq _ _ _ (by simp [ho])]
      unfold execOp
      simp only [ho, hx, hy, Sem.run_bind, hr, Result.andThen_ok, Sem.run_pure]
      exact hK _ _ (h w' h1 h2)
end Go.Proofs.YtlknmpnjhbdlhaaDoor
/-
  Layer 12: Find.
-/
namespace Go.Proofs.YtlknmpnjhbdlhaaDoor
open Go.RowKit Go.Shelf
set_option linter.unusedVariables false
attribute [local go_sem] Oper.semAt_some

theorem OnlyB.drewN (g : Nat) (w : World) (k : Nat) : OnlyB g w (w.drewN k) := ⟨rfl, fun _ _ => rfl, fun B _ => below_drewN (Below.refl _ _) k⟩
theorem OnlyB.set2 {g : Nat} {w w' : World} (h : OnlyB g w w') (x y : Value) : OnlyB g w ((w'.setCell ⟨g, 0, none⟩ x).setCell ⟨g, 1, none⟩ y) :=
  ⟨by rw [size_set, size_set]; exact h.size, fun k hk => (Below.heap_setCell _ _ _ _ hk).trans ((Below.heap_setCell _ _ _ _ hk).trans (h.other k hk)), fun B hB => ((h.below B hB).setCell hB x).setCell hB y⟩
set_option maxRecDepth 100000 in
set_option maxHeartbeats 8000000 in
theorem find_any (X : FileT) (B : Nat) (w : World) (htab : Tab w) (hL : LieF w B X) (hB : B ≤ w.heap.size) (hN : ∀ p ∈ X.Q, p.n ≤ 1048576) (R : Option (Nat × Nat × Nat)) (m : Nat) (hm : (X.right = true ∧ m = X.all.length) ∨ (X.right = false ∧ m = 0)) (hR : Hdr.lastK X.all (m / 64) = R) :
    Calls Tryd.prog 23 #[X.agg] w fun e w' => e = .returned (.tuple #[.agg #[.int .u64 (fG R : Nat), .int .i64 (fA R : Nat)], .int .i64 (fP R : Nat), .bool R.isSome]) ∧ Below w.heap.size w w' := by
  have hda := fun W => blocks_any X W
  have hmm : m / 64 ≤ 8192 := by
    rcases hm with ⟨h, e⟩ | ⟨h, e⟩
    · have := (right_all hL h).2; omega
    · omega
  have hbl : ∀ k, k < m / 64 → (Hdr.blk X.all k).length = 64 := fun k hk => by
    have hr : X.right = true ∧ m = X.all.length := hm.resolve_right (by rintro ⟨-, e⟩; omega)
    exact Hdr.blk_len _ _ (by omega)
  simp only [FileT.agg, PcT.val] at hda ⊢
  refine (callsIn_wide (n := 6)).1 ?_
  refine callsIn_of_wp_marks Tryd.func23 rfl trivial ?_ rfl
  simp only [Tryd.ntmps23, List.size_toArray, List.length_cons, List.length_nil, Nat.reduceAdd, Nat.reduceSub, Array.replicate_succ, Array.replicate_zero, List.push_toArray, List.append_toArray, List.nil_append, List.cons_append]
  refine wpIn_wide.2 ?_
  go_wp2_with fail
  go_step3
  go_wp2_with fail
  go_step3
  go_wp2_with fail
  refine (hda _).mono ?_
  rintro e W1 ⟨rfl, hW1⟩
  clear hda
  go_wp2
  refine (wpIn_wide (n := 6)).1 ?_
  refine range_open rfl (by omega) (gf := 58) (lb := #[.pointer (some ⟨w.heap.size + 1 + 1 + 1 + 1 + 1 + 1, 0, none⟩)]) rfl trivial (enters_of Tryd.func58 (by kernel_rfl) rfl) ?_
  have hsz : W1.heap.size = w.heap.size + 7 := by rw [← hW1]; simp
  have HJL := fun lp => find_lay w W1 X hW1 lp hsz
  clear hW1
  rw [hsz]
  intro fn hfn
  generalize hrec : recOf fn _ _ _ _ _ = rec
  have J0 : FM w.heap.size w (.loop (rec .ready none)) X 0 0 0 false ((W1.alloc (.deferred (some []))).alloc (.loop (rec .ready none))) := HJL _
  clear HJL
  have hcall := blocks_in 5 (by omega) (w.heap.size + 8) (w.heap.size + 1 + 1 + 1 + 1 + 1 + 1) X
    (fun W => FM w.heap.size w (.loop (rec .ready none)) X 0 0 0 false W)
    (fun k W => FM w.heap.size w (.loop (rec .ready none)) X 0 0 0 false W ∧ Hdr.lastK X.all k = R ∧ k ≤ m / 64)
    (fun W => ∃ lp, (lp = .loop (rec .ready none) ∨ lp = .loop (rec .done (some (.exit 0)))) ∧ FM w.heap.size w lp X (fG R) (fA R) (fP R) R.isSome W) m hm hN ?h0 ?h1 ?hK ?hB ?hE ?hY _ J0
  case h0 =>
    intro W hf
    exact ⟨hf.box, (hL.later (hf.bel.mono hB)).more (Nat.le_trans hB hf.bel.size)⟩
  case h1 => exact fun W W' hf hb => ⟨hf.later hb, hR, Nat.le_refl _⟩
  case hK =>
    rintro k W ⟨hf, -⟩
    exact ⟨hf.box, (hL.later (hf.bel.mono hB)).more (Nat.le_trans hB hf.bel.size)⟩
  case hB => exact fun k W W' ⟨hf, h1, h2⟩ hb => ⟨hf.later hb, h1, h2⟩
  case hE =>
    rintro W ⟨hf, h1, -⟩
    have h1 : R = none := h1.symm
    subst h1
    exact ⟨_, .inl rfl, hf⟩
  case hY =>
    rintro k W ⟨hf, hl, hkm⟩ hk
    have hb64 := hbl k hk
    have hl5 := hf.r
    rw [← hrec] at hl5
    refine round_open hfn hl5 rfl ?_
    simp only [hrec]
    obtain ⟨b, hbe⟩ : ∃ b, Hdr.blk X.all k = b := ⟨_, rfl⟩
    rw [hbe] at hb64 ⊢
    have HBE := Lib.hid hbe
    have htW : Tab W := htab.below hf.bel htab.lt
    have HL2 := Lib.hid hl
    have HTL := Lib.hid htab.lt
    obtain ⟨at', hat⟩ : ∃ at', 64 * k = at' := ⟨_, rfl⟩
    have HAT := Lib.hid hat
    have hat6 : at' ≤ 600000 := by omega
    rw [hat]
    clear hl5 J0 hL hbl hbe hat hN hm hR htab hl hsz
    have hA5 := arr_lit W
    gi_wp2_with (with_reducible refine wpListIn_storeArr rfl (.tmp 10) (.tmp 15) rfl rfl rfl hA5 (info64 z64_len) (hb64.trans z64_len.symm) ?_; intro W2 ha2 ho2)
    have hbw : Below W.heap.size W W2 := (bel_alloc (Below.refl _ _) _).trans (ho2.below _ (Nat.le_refl _))
    have hf2 := hf.later hbw
    have hlt := hf.lt
    refine ⟨hf2.r, ?_⟩
    have hf3 := hf2.turn (.loop (rec .busy none))
    have ha3 : Arr (W2.putObj (w.heap.size + 8) (.loop (rec .busy none))) W.heap.size 25 b := (World.putObj_heap_other (show W.heap.size ≠ w.heap.size + 8 by omega)).trans ha2
    have ht3 : Tab (W2.putObj (w.heap.size + 8) (.loop (rec .busy none))) := fun i hi => (World.cell?_of_block (World.putObj_heap_other (show 0 ≠ w.heap.size + 8 by have := HTL.out; omega))).trans ((htW.below hbw htW.lt) i hi)
    generalize W2.putObj (w.heap.size + 8) (.loop (rec .busy none)) = W3 at *
    have k5 : W3.cell? ⟨w.heap.size + 1 + 1 + 1 + 1 + 1, 0, none⟩ = some (recV w.heap.size) := (cell_of_row _ _ 0 _ _ _ hf3.recb).trans rfl
    unfold recV at k5
    have hbytes : Bytes W3 (W.heap.size + 1) (some ⟨W.heap.size, 0, none⟩) 64 b := by
      have := ha3.bytes (Nat.lt_succ_self W.heap.size)
      rwa [hb64] at this
    have hi64 := info64 hb64
    rcases hs : Hdr.saysL b with _ | ⟨g1, a1⟩
    · have hcl := Lib.hid (record_no b hb64 at' _ _ _ _ _ _ _ W3 ht3 hf3.found hf3.okb hf3.place (by omega) (by omega) (by omega) hs)
      have HLK := Lib.hid (show Hdr.lastK X.all k = R by rw [← HL2.out]; exact (Hdr.last_no (by rw [HBE.out]; exact hs)).symm)
      clear hs hf hf2 hb64 ha2 ho2 hbw htW ht3 HBE HL2 HTL ha3 hA5
      gi_wp2_with (refine wpListIn_loadRow (by rfl) (.tmp 10) rfl rfl hbytes (by omega) Tryd.underlying25 hi64 ?_)
      refine ⟨trivial, CallsIn.inRound _ (callsIn_wide.2 (hcl.out.mono ?_))⟩
      rintro e W4 ⟨rfl, k1, k3, k2, o3⟩
      have hf4 := hf3.rec3 o3 k1 k2 k3
      have k4 := k3.cell
      have hrr := hf4.r
      have hf5 := Lib.hid (hf4.turn (.loop (rec .ready none)))
      clear hcl k1 k3 k2 o3 hf3 hf4 k5 hbytes
      gi_wp2
      exact ⟨hrr, true, rfl, fun _ => ⟨hf5.out, HLK.out, by omega⟩, nofun⟩
    · have hcl := Lib.hid (record_yes b hb64 at' _ _ _ _ _ _ _ W3 ht3 hf3.found hf3.okb hf3.place (by omega) (by omega) (by omega) hs)
      have HLK := Lib.hid (show R = some (g1, a1, at') by rw [← HL2.out, ← HAT.out]; exact Hdr.last_yes (by rw [HBE.out]; exact hs))
      clear hs hf hf2 hb64 ha2 ho2 hbw htW ht3 HBE HL2 HTL ha3 hA5
      gi_wp2_with (refine wpListIn_loadRow (by rfl) (.tmp 10) rfl rfl hbytes (by omega) Tryd.underlying25 hi64 ?_)
      refine ⟨trivial, CallsIn.inRound _ (callsIn_wide.2 (hcl.out.mono ?_))⟩
      rintro e W4 ⟨rfl, k1, k3, k2, o3⟩
      have hf4 := hf3.rec3 o3 k1 k2 k3
      have k4 := k3.cell
      have hrr := hf4.r
      have hf5 := Lib.hid (hf4.turn (.loop (rec .done (some (.exit 0)))))
      clear hcl k1 k3 k2 o3 hf3 hf4 k5 hbytes
      gi_wp2
      refine ⟨hrr, false, rfl, nofun, fun _ => ?_⟩
      rw [HLK.out]
      exact .inr hf5.out
  refine hcall.mono ?_
  rintro e B1 ⟨hv, lp, hlp, hm⟩
  clear hcall J0 hrec hfn hL htab hbl hN hR
  rcases hlp with rfl | rfl
  · refine ⟨hv, .ready, none, hm.r, by simp, ?_⟩
    have hr5 := hm.turn (.loop (rec .exhausted none))
    generalize B1.putObj (w.heap.size + 8) (.loop (rec .exhausted none)) = W5 at *
    clear hm hv
    have HR5 := Lib.hid hr5.res
    have hne : ∀ i : Nat, w.heap.size + 1 + 1 + i ≠ w.heap.size + 1 := fun i => by omega
    have x0 : W5.cell? ⟨w.heap.size + 1 + 1, 0, none⟩ = some (.int .u64 (fG R : Nat)) := hr5.found.c0
    have x1 : W5.cell? ⟨w.heap.size + 1 + 1, 1, none⟩ = some (.int .i64 (fA R : Nat)) := hr5.found.c1
    have x2 : W5.cell? ⟨w.heap.size + 1 + 1 + 1, 0, none⟩ = some (.int .i64 (fP R : Nat)) := hr5.place.cell
    have x3 : W5.cell? ⟨w.heap.size + 1 + 1 + 1 + 1, 0, none⟩ = some (.bool R.isSome) := hr5.okb.cell
    have hlt5 := hr5.lt
    have HD5 := Lib.hid hr5.d
    have HB5 := Lib.hid hr5.bel
    clear hr5
    unfold goesOn
    dsimp only
    go_wp2
    have hrs : HBox W5 (w.heap.size + 1) 0 0 := HR5.out
    have q0 := hrs.c0
    have q1 := hrs.c1
    have p0 := hrs.soft 0
    have p1 := hrs.soft 1
    have hrt : HBox _ _ _ _ := set2_box hrs (fG R) (fA R : Nat)
    go_region
    have hd6 := (Below.heap_setCell _ ⟨w.heap.size + 1, 1, none⟩ (.int .i64 (fA R : Nat)) (w.heap.size + 7) (by show w.heap.size + 7 ≠ w.heap.size + 1; omega)).trans ((Below.heap_setCell W5 ⟨w.heap.size + 1, 0, none⟩ (.int .u64 (fG R : Nat)) (w.heap.size + 7) (by show w.heap.size + 7 ≠ w.heap.size + 1; omega)).trans HD5.out)
    have hb6 : Below w.heap.size w ((W5.setCell ⟨w.heap.size + 1, 0, none⟩ (.int .u64 (fG R : Nat))).setCell ⟨w.heap.size + 1, 1, none⟩ (.int .i64 (fA R : Nat))) := below_set2 HB5.out (by omega)
    have hs6 : w.heap.size + 7 < ((W5.setCell ⟨w.heap.size + 1, 0, none⟩ (.int .u64 (fG R : Nat))).setCell ⟨w.heap.size + 1, 1, none⟩ (.int .i64 (fA R : Nat))).heap.size := (Array.getElem?_eq_some_iff.1 hd6).1
    generalize (W5.setCell ⟨w.heap.size + 1, 0, none⟩ (.int .u64 (fG R : Nat))).setCell ⟨w.heap.size + 1, 1, none⟩ (.int .i64 (fA R : Nat)) = W6 at *
    have hr7 : HBox (W6.drew.putObj (w.heap.size + 7) (.deferred none)) (w.heap.size + 1) (fG R) (fA R : Nat) := (World.putObj_heap_other (show w.heap.size + 1 ≠ w.heap.size + 7 by omega)).trans hrt
    have hb7 : Below w.heap.size w (W6.drew.putObj (w.heap.size + 7) (.deferred none)) := (below_drewN hb6 1).grown (grownBy_putObj' W6.drew (w.heap.size + 7) (.deferred none)) (by show w.heap.size ≤ W6.heap.size; omega) (fun k e => by cases e; omega)
    have q0 := hr7.c0
    have q1 := hr7.c1
    clear x0 x1 x2 x3 hrt hrs hb6 HD5 HB5 HR5 hr7
    go_wp2
    rw [Exit.noGoto_ret]
    have hd6' : (W6.drew).heap[w.heap.size + 7]? = some (.deferred (some [])) := hd6
    refine ⟨by simp, .inl ⟨_, _, rfl, run_takeDeferred hd6', ?_⟩⟩
    refine ⟨_, ?_, rfl, hb7⟩
    simp [results, Tryd.results23, go_sem, *]
  · refine ⟨hv, .done, (some (.exit 0)), hm.r, by simp, ?_⟩
    have hr5 := hm.turn (.loop (rec .exhausted (some (.exit 0))))
    generalize B1.putObj (w.heap.size + 8) (.loop (rec .exhausted (some (.exit 0)))) = W5 at *
    clear hm hv
    have HR5 := Lib.hid hr5.res
    have hne : ∀ i : Nat, w.heap.size + 1 + 1 + i ≠ w.heap.size + 1 := fun i => by omega
    have x0 : W5.cell? ⟨w.heap.size + 1 + 1, 0, none⟩ = some (.int .u64 (fG R : Nat)) := hr5.found.c0
    have x1 : W5.cell? ⟨w.heap.size + 1 + 1, 1, none⟩ = some (.int .i64 (fA R : Nat)) := hr5.found.c1
    have x2 : W5.cell? ⟨w.heap.size + 1 + 1 + 1, 0, none⟩ = some (.int .i64 (fP R : Nat)) := hr5.place.cell
    have x3 : W5.cell? ⟨w.heap.size + 1 + 1 + 1 + 1, 0, none⟩ = some (.bool R.isSome) := hr5.okb.cell
    have hlt5 := hr5.lt
    have HD5 := Lib.hid hr5.d
    have HB5 := Lib.hid hr5.bel
    clear hr5
    unfold goesOn
    refine wpIn_wide.2 ?_
    go_wp2
    have hrs : HBox W5 (w.heap.size + 1) 0 0 := HR5.out
    have q0 := hrs.c0
    have q1 := hrs.c1
    have p0 := hrs.soft 0
    have p1 := hrs.soft 1
    have hrt : HBox _ _ _ _ := set2_box hrs (fG R) (fA R : Nat)
    go_region
    have hd6 := (Below.heap_setCell _ ⟨w.heap.size + 1, 1, none⟩ (.int .i64 (fA R : Nat)) (w.heap.size + 7) (by show w.heap.size + 7 ≠ w.heap.size + 1; omega)).trans ((Below.heap_setCell W5 ⟨w.heap.size + 1, 0, none⟩ (.int .u64 (fG R : Nat)) (w.heap.size + 7) (by show w.heap.size + 7 ≠ w.heap.size + 1; omega)).trans HD5.out)
    have hb6 : Below w.heap.size w ((W5.setCell ⟨w.heap.size + 1, 0, none⟩ (.int .u64 (fG R : Nat))).setCell ⟨w.heap.size + 1, 1, none⟩ (.int .i64 (fA R : Nat))) := below_set2 HB5.out (by omega)
    have hs6 : w.heap.size + 7 < ((W5.setCell ⟨w.heap.size + 1, 0, none⟩ (.int .u64 (fG R : Nat))).setCell ⟨w.heap.size + 1, 1, none⟩ (.int .i64 (fA R : Nat))).heap.size := (Array.getElem?_eq_some_iff.1 hd6).1
    generalize (W5.setCell ⟨w.heap.size + 1, 0, none⟩ (.int .u64 (fG R : Nat))).setCell ⟨w.heap.size + 1, 1, none⟩ (.int .i64 (fA R : Nat)) = W6 at *
    have hr7 : HBox (W6.drew.putObj (w.heap.size + 7) (.deferred none)) (w.heap.size + 1) (fG R) (fA R : Nat) := (World.putObj_heap_other (show w.heap.size + 1 ≠ w.heap.size + 7 by omega)).trans hrt
    have hb7 : Below w.heap.size w (W6.drew.putObj (w.heap.size + 7) (.deferred none)) := (below_drewN hb6 1).grown (grownBy_putObj' W6.drew (w.heap.size + 7) (.deferred none)) (by show w.heap.size ≤ W6.heap.size; omega) (fun k e => by cases e; omega)
    have q0 := hr7.c0
    have q1 := hr7.c1
    clear x0 x1 x2 x3 hrt hrs hb6 HD5 HB5 HR5 hr7
    go_wp2
    rw [Exit.noGoto_ret]
    have hd6' : (W6.drew).heap[w.heap.size + 7]? = some (.deferred (some [])) := hd6
    refine ⟨by simp, .inl ⟨_, _, rfl, run_takeDeferred hd6', ?_⟩⟩
    refine ⟨_, ?_, rfl, hb7⟩
    simp [results, Tryd.results23, go_sem, *]
end Go.Proofs.YtlknmpnjhbdlhaaDoor
/-
  Layer 12: Put, Find and Len of calm files; the law's wakes.
-/
namespace Go.Proofs.YtlknmpnjhbdlhaaDoor
open Go.RowKit
set_option linter.unusedVariables false

theorem append_calm (fi : List UInt8) (lo : List (List UInt8)) (b : List UInt8) (n : Nat) (h : n + b.length ≤ 524288) : FileS.append ⟨fi, lo, -1, -1, false⟩ n b = (⟨fi, lo ++ [b], -1, -1, false⟩, 0) := by
  have hask : FileS.asked ⟨fi, lo, -1, -1, false⟩ n b.length = (⟨fi, lo, -1, -1, false⟩, 0) := by
    have h' : ¬ 524288 < n + b.length := by omega
    unfold FileS.asked
    rw [if_neg (show ¬ (false = true) by decide), if_neg h', if_neg (show ¬ ((-1 : Int) = 0) by decide)]
    rfl
  unfold FileS.append
  rw [hask, if_pos rfl]
/-- A calm file takes a header. -/
theorem putHS (X : FileT) (fi : List UInt8) (lo : List (List UInt8)) (g a : Nat) (w : World) (htab : Tab w) (hL : LieF w w.heap.size X) (hs : X.s = ⟨fi, lo, -1, -1, false⟩) (hr : X.right = true) (hg1 : 1 ≤ g) (hg : g < 18446744073709551616) (ha : a < 524288) (h : (fi ++ lo.flatten).length + 127 ≤ 524288) :
    Calls Tryd.prog 16 #[X.agg, .agg #[.int .u64 (g : Int), .int .i64 (a : Nat)]] w (OpP X (fun _ => True) (⟨fi, lo ++ [Hdr.headL (fi ++ lo.flatten).length g a], -1, -1, false⟩, 0) w) := by
  have h1 := putH_ok X g a w.heap.size w htab hL (Nat.le_refl _) hr hg1 hg ha
  have e1 : X.all = fi ++ lo.flatten := by rw [← all_s, hs]; rfl
  have e2 : X.long = (fi ++ lo.flatten).length := by rw [(right_all hL hr).1, e1]
  rw [hs, e2, e1, append_calm fi lo _ _ (by rw [Hdr.head_len]; unfold Hdr.gapN; omega)] at h1
  exact h1
theorem head_ne (n g a : Nat) : Hdr.headL n g a ≠ [] := fun e => by
  have := congrArg List.length e
  rw [Hdr.head_len] at this
  simp at this
/-- The last header of a file that may be. -/
theorem findS (X : FileT) (l : List UInt8) (R : Option (Nat × Nat × Nat)) (w : World) (htab : Tab w) (hL : LieF w w.heap.size X) (hs : X.all = l) (hr : X.right = true) (hR : Hdr.lastH l = R) :
    Calls Tryd.prog 23 #[X.agg] w fun e w' => e = .returned (.tuple #[.agg #[.int .u64 (fG R : Nat), .int .i64 (fA R : Nat)], .int .i64 (fP R : Nat), .bool R.isSome]) ∧ Below w.heap.size w w' :=
  find_any X w.heap.size w htab hL (Nat.le_refl _) (right_rows hL hr).1 R X.all.length (.inl ⟨hr, rfl⟩) (by rw [← hR, ← hs]; rfl)
/-- The length of a file that may be. -/
theorem lenHS (X : FileT) (n : Nat) (w : World) (hL : LieF w w.heap.size X) (hr : X.right = true) (hn : X.all.length = n) :
    Calls Tryd.prog 27 #[X.agg] w fun e w' => e = .returned (.int .i64 (n : Nat)) ∧ Below w.heap.size w w' := by
  have h := lenF_any X w.heap.size w hL (Nat.le_refl _) (right_rows hL hr).1
  rw [if_pos hr, (right_all hL hr).1, hn] at h
  exact h
def b11 : List UInt8 := Hdr.blockL 1 1
theorem b11_len : b11.length = 64 := Hdr.block_len 1 1
theorem b11_0 : at8 b11 0 = 1 := by decide +kernel
theorem b11_8 : at8 b11 8 = 1 := by decide +kernel
theorem b11_12 : at8 b11 12 = 1 := by decide +kernel
theorem b11_63 : at8 b11 63 = 165 := by decide +kernel
theorem b11_says : Hdr.saysL b11 = some (1, 1) := Hdr.says_block 1 1 (by omega) (by omega) (by omega)
theorem z64_says : Hdr.saysL z64 = none := Hdr.says_first (by decide)
theorem head11 : Hdr.headL 0 1 1 = b11 := rfl
def hS1 : FileS := ⟨[], [b11], -1, -1, false⟩
theorem b11_last : Hdr.lastH b11 = some (1, 1, 0) := by
  have h := Hdr.last_put [] 1 1 (by omega) (by omega) (by omega)
  exact h
set_option maxRecDepth 100000 in
set_option maxHeartbeats 4000000 in
theorem hwakes_any (w : World) (htab : Tab w) :
    Calls Tryd.prog 9 #[] w fun e w' => e = .returned (.bool true) ∧ Below w.heap.size w w' := by
  obtain ⟨iF, hiF, hzF⟩ := file_info
  have HP := Lib.hid (fun (W : World) (h : Below w.heap.size w W) => show Calls Tryd.prog 16 #[newF.agg, .agg #[.int .u64 1, .int .i64 1]] W (OpP newF (fun _ => True) (hS1, 0) W) from by
    have h1 := putHS newF [] [] 1 1 W (htab.below h htab.lt) (newF_lies W) rfl (by kernel_rfl) (by omega) (by omega) (by omega) (by show 0 + 127 ≤ _; omega)
    exact h1)
  have HP0 := Lib.hid (fun (W : World) => show Calls Tryd.prog 16 #[newF.agg, .agg #[.int .u64 0, .int .i64 0]] W (OpP newF (fun _ => True) (newF.s, 220) W) from
    putH_not newF 0 0 (fun _ => True) W.heap.size W (newF_lies W) (Nat.le_refl _) (by kernel_rfl) (by decide))
  have HF := Lib.hid (fun (W : World) (Y : FileT) (h : Below w.heap.size w W) (hl : LieF W W.heap.size Y) (hs : Y.s = hS1) => show Calls Tryd.prog 23 #[Y.agg] W (fun e w' => e = .returned (.tuple #[.agg #[.int .u64 1, .int .i64 1], .int .i64 0, .bool true]) ∧ Below W.heap.size W w') from by
    have hr : Y.right = true := right_calm hl hs (by intro l hl; rw [List.mem_singleton] at hl; subst hl; exact head_ne 0 1 1) (by rw [show ([] : List UInt8) ++ [b11].flatten = b11 from by simp, b11_len]; omega)
    have ha : Y.all = b11 := by rw [← all_s, hs]; unfold FileS.all hS1; simp
    exact findS Y b11 _ W (htab.below h htab.lt) hl ha hr b11_last)
  have HN := Lib.hid (fun (W : World) (Y : FileT) (hl : LieF W W.heap.size Y) (hs : Y.s = hS1) => show Calls Tryd.prog 27 #[Y.agg] W (fun e w' => e = .returned (.int .i64 64) ∧ Below W.heap.size W w') from by
    have hr : Y.right = true := right_calm hl hs (by intro l hl; rw [List.mem_singleton] at hl; subst hl; exact head_ne 0 1 1) (by rw [show ([] : List UInt8) ++ [b11].flatten = b11 from by simp, b11_len]; omega)
    have ha : Y.all = b11 := by rw [← all_s, hs]; unfold FileS.all hS1; simp
    exact lenHS Y 64 W hl hr (by rw [ha, b11_len]))
  have HBK := Lib.hid (fun W (h : Below w.heap.size w W) => show Calls Tryd.prog 15 #[.agg #[.int .u64 1, .int .i64 1]] W (fun e w' => e = .returned (arrV b11) ∧ Below W.heap.size W w') from blockH_ok 1 1 W (htab.below h htab.lt) (by omega) (by omega) (by omega))
  have HS1 := Lib.hid (fun W (h : Below w.heap.size w W) => show Calls Tryd.prog 13 #[arrV b11] W (fun e w' => e = .returned (.tuple #[.agg #[.int .u64 1, .int .i64 1], .bool true]) ∧ Below W.heap.size W w') from by
    have h1 := saysH_any b11 b11_len W (htab.below h htab.lt)
    obtain ⟨e1, e2, e3⟩ := say_some b11_says
    rw [e1, e2, e3] at h1
    exact h1)
  have HS0 := Lib.hid (fun W (h : Below w.heap.size w W) => show Calls Tryd.prog 13 #[arrV z64] W (fun e w' => e = .returned (.tuple #[.agg #[.int .u64 0, .int .i64 0], .bool false]) ∧ Below W.heap.size W w') from by
    have h1 := saysH_any z64 z64_len W (htab.below h htab.lt)
    obtain ⟨e1, e2, e3⟩ := say_none z64_says
    rw [e1, e2, e3] at h1
    exact h1)
  go_enter Tryd.func9, Tryd.ntmps9
  go_upto_region 2 with fail
  have hb1 := bel_alloc (Below.refl w.heap.size w) (.cells #[.int .u64 1, .int .i64 1] 24)
  have hh1 : HBox (w.alloc (.cells #[.int .u64 1, .int .i64 1] 24)) w.heap.size 1 1 := heap_alloc_new w _
  generalize w.alloc (.cells #[.int .u64 1, .int .i64 1] 24) = W1 at *
  have x0 : ∀ W, Below W1.heap.size W1 W → W.cell? ⟨w.heap.size, 0, none⟩ = some (.int .u64 1) := fun W h => (hh1.later h).c0
  have x1 : ∀ W, Below W1.heap.size W1 W → W.cell? ⟨w.heap.size, 1, none⟩ = some (.int .i64 1) := fun W h => (hh1.later h).c1
  have HP1 := Lib.hid (fun (W : World) (h : Below W1.heap.size W1 W) => HP.out W (hb1.trans (h.mono hb1.size)))
  simp only [newF, FileT.agg, PcT.val] at HP1
  go_cut [2, 3] (fun s2 s3 wx => ∃ (g2 : Nat) (Y : FileT), s2 = .pointer (some ⟨g2, 0, none⟩) ∧ s3 = .int .i64 0 ∧ Hid (FAt wx g2 Y) ∧ Y.s = hS1 ∧ Below W1.heap.size W1 wx ∧ W1.heap.size ≤ g2)
  case first =>
    refine wp_region_held_drew (S := fun W => Below W1.heap.size W1 W) (by kernel_rfl) (below_drewN (Below.refl _ _) 1) (fun hHeld => ?_)
    refine rg_in 1 rfl (by kernel_rfl) (by kernel_rfl) (by kernel_rfl) (by rfl) (v := ?_) (fun _ _ _ h => h) hHeld (fun w hSw => ?_) ?_
    rotate_left
    · (try dsimp only at hSw); go_simp <;> (with_reducible rfl)
    (try simp only [Act.put, List.setIfInBounds_toArray, List.set_cons_zero, List.set_cons_succ])
    refine wpAnyH_ready (rs := [0, 6]) (by kernel_rfl) (by simp) ?_
    refine rg_cons rfl (by rfl) (fun K hK => ?_) ?_
    · go_simp
      (go_at_call 30; (with_reducible refine (newF_any _).mono ?_); (rintro e w100 ⟨rfl, hb0⟩))
      refine hK.out _ _ (S_call hb0 hHeld rfl) (fun hHeld => ?_)
      clear hK K
      (try simp only [Act.put, List.setIfInBounds_toArray, List.set_cons_zero, List.set_cons_succ])
      refine wpAnyH_ready (rs := [2, 6]) (by kernel_rfl) (by simp) ?_
      refine rg_cons rfl (by rfl) (fun K hK => ?_) ?_
      · go_simp
        (go_at_call 16; (with_reducible refine (HP1.out _ hHeld).mono ?_); (rintro e w102 ⟨Y, rfl, hYs, hYL, hb2, hYa⟩))
        simp only [FileT.agg, PcT.val]
        refine hK.out _ _ (S_call hb2 hHeld rfl) (fun hHeld => ?_)
        clear hK K
        (try simp only [Act.put, List.setIfInBounds_toArray, List.set_cons_zero, List.set_cons_succ])
        refine rg_in 3 rfl (by kernel_rfl) (by kernel_rfl) (by kernel_rfl) (by rfl) (v := ?_) (fun _ _ _ h => h) hHeld (fun w hSw => ?_) ?_
        rotate_left
        · (try dsimp only at hSw); go_simp <;> (with_reducible rfl)
        (try simp only [Act.put, List.setIfInBounds_toArray, List.set_cons_zero, List.set_cons_succ])
        refine rg_in 4 rfl (by kernel_rfl) (by kernel_rfl) (by kernel_rfl) (by rfl) (v := ?_) (fun _ _ _ h => h) hHeld (fun w hSw => ?_) ?_
        rotate_left
        · (try dsimp only at hSw); go_simp <;> (with_reducible rfl)
        (try simp only [Act.put, List.setIfInBounds_toArray, List.set_cons_zero, List.set_cons_succ])
        refine rg_in 5 rfl (by kernel_rfl) (by kernel_rfl) (by kernel_rfl) (by rfl) (v := ?_) (fun _ _ _ h => h) hHeld (fun w hSw => ?_) ?_
        rotate_left
        · (try dsimp only at hSw); go_simp <;> (with_reducible rfl)
        (try simp only [Act.put, List.setIfInBounds_toArray, List.set_cons_zero, List.set_cons_succ])
        refine rg_do 6 rfl (by kernel_rfl) (by rfl) (fun K hK => ?_)
        have hgw6 := hHeld.size
        refine step_alloc 37 rfl iF _ hiF hzF ?_
        intro g106 w106 hge6 hbox6 hb6
        refine hK.out _ _ (S_call hb6 hHeld rfl) (fun hHeld => ?_)
        clear hK K
        (try simp only [Act.put, List.setIfInBounds_toArray, List.set_cons_zero, List.set_cons_succ])
        refine rg_do 7 rfl (by kernel_rfl) (by rfl) (fun K hK => ?_)
        have hV6 := Lib.hid (FVar.later (fvar_blk hbox6) (Below.refl _ _))
        have hLY := Lib.hid ((hYL.later hb6).more (Below.size hb6))
        have q0 := hV6.out.1.1
        have q1 := hV6.out.1.2.1
        have q2 := hV6.out.1.2.2.1
        have q3 := hV6.out.1.2.2.2.1
        have q4 := hV6.out.1.2.2.2.2
        have p0 := hV6.out.2.1
        have p1 := hV6.out.2.2.1
        have p2 := hV6.out.2.2.2.1
        have p3 := hV6.out.2.2.2.2.1
        have p4 := hV6.out.2.2.2.2.2
        go_simp
        clear q0 q1 q2 q3 q4 p0 p1 p2 p3 p4
        refine hK.out _ _ (fbelow_set5 hHeld (show W1.heap.size ≤ g106 by (have := hge6; omega))) (fun hHeld => ?_)
        clear hK K
        (try simp only [Act.put, List.setIfInBounds_toArray, List.set_cons_zero, List.set_cons_succ])
        refine rg_in 8 rfl (by kernel_rfl) (by kernel_rfl) (by kernel_rfl) (by rfl) (v := ?_) (fun _ _ _ h => h) hHeld (fun w hSw => ?_) ?_
        rotate_left
        · (try dsimp only at hSw); go_simp <;> (with_reducible rfl)
        (try simp only [Act.put, List.setIfInBounds_toArray, List.set_cons_zero, List.set_cons_succ])
        refine wpAnyH_done (by kernel_rfl) ?_ _
        have ay : AwayF Y g106 := by have z0 := hb0.size; have z2 := hb2.size; have z6 := hb6.size; have l6 := blk_lt hbox6; exact hYL.away (by omega)
        have hfa := FAt.set hV6.out hLY.out ay
        have hbX := hHeld
        clear hHeld
        unfold set5F at hfa
        go_wp2
        go_meet
        case rel => exact ⟨g106, Y, rfl, rfl, Lib.hid hfa, hYs, hbX, by have := hge6; omega⟩
      refine rg_cons rfl (by rfl) (fun K hK => ?_) ?_
      · have hgw6 := hHeld.size
        refine step_alloc 37 rfl iF _ hiF hzF ?_
        intro g106 w106 hge6 hbox6 hb6
        refine hK.out _ _ (S_call hb6 hHeld rfl) (fun hHeld => ?_)
        clear hK K
        (try simp only [Act.put, List.setIfInBounds_toArray, List.set_cons_zero, List.set_cons_succ])
        refine rg_do 2 rfl (by kernel_rfl) (by rfl) (fun K hK => ?_)
        go_simp
        (go_at_call 16; (with_reducible refine (HP1.out _ hHeld).mono ?_); (rintro e w102 ⟨Y, rfl, hYs, hYL, hb2, hYa⟩))
        simp only [FileT.agg, PcT.val]
        refine hK.out _ _ (S_call hb2 hHeld rfl) (fun hHeld => ?_)
        clear hK K
        (try simp only [Act.put, List.setIfInBounds_toArray, List.set_cons_zero, List.set_cons_succ])
        refine rg_in 3 rfl (by kernel_rfl) (by kernel_rfl) (by kernel_rfl) (by rfl) (v := ?_) (fun _ _ _ h => h) hHeld (fun w hSw => ?_) ?_
        rotate_left
        · (try dsimp only at hSw); go_simp <;> (with_reducible rfl)
        (try simp only [Act.put, List.setIfInBounds_toArray, List.set_cons_zero, List.set_cons_succ])
        refine rg_in 4 rfl (by kernel_rfl) (by kernel_rfl) (by kernel_rfl) (by rfl) (v := ?_) (fun _ _ _ h => h) hHeld (fun w hSw => ?_) ?_
        rotate_left
        · (try dsimp only at hSw); go_simp <;> (with_reducible rfl)
        (try simp only [Act.put, List.setIfInBounds_toArray, List.set_cons_zero, List.set_cons_succ])
        refine rg_in 5 rfl (by kernel_rfl) (by kernel_rfl) (by kernel_rfl) (by rfl) (v := ?_) (fun _ _ _ h => h) hHeld (fun w hSw => ?_) ?_
        rotate_left
        · (try dsimp only at hSw); go_simp <;> (with_reducible rfl)
        (try simp only [Act.put, List.setIfInBounds_toArray, List.set_cons_zero, List.set_cons_succ])
        refine rg_do 7 rfl (by kernel_rfl) (by rfl) (fun K hK => ?_)
        have hV6 := Lib.hid (FVar.later (fvar_blk hbox6) hb2)
        have hLY := Lib.hid hYL
        have q0 := hV6.out.1.1
        have q1 := hV6.out.1.2.1
        have q2 := hV6.out.1.2.2.1
        have q3 := hV6.out.1.2.2.2.1
        have q4 := hV6.out.1.2.2.2.2
        have p0 := hV6.out.2.1
        have p1 := hV6.out.2.2.1
        have p2 := hV6.out.2.2.2.1
        have p3 := hV6.out.2.2.2.2.1
        have p4 := hV6.out.2.2.2.2.2
        go_simp
        clear q0 q1 q2 q3 q4 p0 p1 p2 p3 p4
        refine hK.out _ _ (fbelow_set5 hHeld (show W1.heap.size ≤ g106 by (have := hge6; omega))) (fun hHeld => ?_)
        clear hK K
        (try simp only [Act.put, List.setIfInBounds_toArray, List.set_cons_zero, List.set_cons_succ])
        refine rg_in 8 rfl (by kernel_rfl) (by kernel_rfl) (by kernel_rfl) (by rfl) (v := ?_) (fun _ _ _ h => h) hHeld (fun w hSw => ?_) ?_
        rotate_left
        · (try dsimp only at hSw); go_simp <;> (with_reducible rfl)
        (try simp only [Act.put, List.setIfInBounds_toArray, List.set_cons_zero, List.set_cons_succ])
        refine wpAnyH_done (by kernel_rfl) ?_ _
        have ay : AwayF Y g106 := by have z0 := hb0.size; have z2 := hb2.size; have z6 := hb6.size; have l6 := blk_lt hbox6; exact hYa _ (by omega) (newF_away _) trivial
        have hfa := FAt.set hV6.out hLY.out ay
        have hbX := hHeld
        clear hHeld
        unfold set5F at hfa
        go_wp2
        go_meet
        case rel => exact ⟨g106, Y, rfl, rfl, Lib.hid hfa, hYs, hbX, by have := hge6; omega⟩
      exact AllReadyH.nil
    refine rg_cons rfl (by rfl) (fun K hK => ?_) ?_
    · have hgw6 := hHeld.size
      refine step_alloc 37 rfl iF _ hiF hzF ?_
      intro g106 w106 hge6 hbox6 hb6
      refine hK.out _ _ (S_call hb6 hHeld rfl) (fun hHeld => ?_)
      clear hK K
      (try simp only [Act.put, List.setIfInBounds_toArray, List.set_cons_zero, List.set_cons_succ])
      refine rg_do 0 rfl (by kernel_rfl) (by rfl) (fun K hK => ?_)
      go_simp
      (go_at_call 30; (with_reducible refine (newF_any _).mono ?_); (rintro e w100 ⟨rfl, hb0⟩))
      refine hK.out _ _ (S_call hb0 hHeld rfl) (fun hHeld => ?_)
      clear hK K
      (try simp only [Act.put, List.setIfInBounds_toArray, List.set_cons_zero, List.set_cons_succ])
      refine rg_do 2 rfl (by kernel_rfl) (by rfl) (fun K hK => ?_)
      go_simp
      (go_at_call 16; (with_reducible refine (HP1.out _ hHeld).mono ?_); (rintro e w102 ⟨Y, rfl, hYs, hYL, hb2, hYa⟩))
      simp only [FileT.agg, PcT.val]
      refine hK.out _ _ (S_call hb2 hHeld rfl) (fun hHeld => ?_)
      clear hK K
      (try simp only [Act.put, List.setIfInBounds_toArray, List.set_cons_zero, List.set_cons_succ])
      refine rg_in 3 rfl (by kernel_rfl) (by kernel_rfl) (by kernel_rfl) (by rfl) (v := ?_) (fun _ _ _ h => h) hHeld (fun w hSw => ?_) ?_
      rotate_left
      · (try dsimp only at hSw); go_simp <;> (with_reducible rfl)
      (try simp only [Act.put, List.setIfInBounds_toArray, List.set_cons_zero, List.set_cons_succ])
      refine rg_in 4 rfl (by kernel_rfl) (by kernel_rfl) (by kernel_rfl) (by rfl) (v := ?_) (fun _ _ _ h => h) hHeld (fun w hSw => ?_) ?_
      rotate_left
      · (try dsimp only at hSw); go_simp <;> (with_reducible rfl)
      (try simp only [Act.put, List.setIfInBounds_toArray, List.set_cons_zero, List.set_cons_succ])
      refine rg_in 5 rfl (by kernel_rfl) (by kernel_rfl) (by kernel_rfl) (by rfl) (v := ?_) (fun _ _ _ h => h) hHeld (fun w hSw => ?_) ?_
      rotate_left
      · (try dsimp only at hSw); go_simp <;> (with_reducible rfl)
      (try simp only [Act.put, List.setIfInBounds_toArray, List.set_cons_zero, List.set_cons_succ])
      refine rg_do 7 rfl (by kernel_rfl) (by rfl) (fun K hK => ?_)
      have hV6 := Lib.hid (FVar.later (fvar_blk hbox6) (bel_next hb0 hb2))
      have hLY := Lib.hid hYL
      have q0 := hV6.out.1.1
      have q1 := hV6.out.1.2.1
      have q2 := hV6.out.1.2.2.1
      have q3 := hV6.out.1.2.2.2.1
      have q4 := hV6.out.1.2.2.2.2
      have p0 := hV6.out.2.1
      have p1 := hV6.out.2.2.1
      have p2 := hV6.out.2.2.2.1
      have p3 := hV6.out.2.2.2.2.1
      have p4 := hV6.out.2.2.2.2.2
      go_simp
      clear q0 q1 q2 q3 q4 p0 p1 p2 p3 p4
      refine hK.out _ _ (fbelow_set5 hHeld (show W1.heap.size ≤ g106 by (have := hge6; omega))) (fun hHeld => ?_)
      clear hK K
      (try simp only [Act.put, List.setIfInBounds_toArray, List.set_cons_zero, List.set_cons_succ])
      refine rg_in 8 rfl (by kernel_rfl) (by kernel_rfl) (by kernel_rfl) (by rfl) (v := ?_) (fun _ _ _ h => h) hHeld (fun w hSw => ?_) ?_
      rotate_left
      · (try dsimp only at hSw); go_simp <;> (with_reducible rfl)
      (try simp only [Act.put, List.setIfInBounds_toArray, List.set_cons_zero, List.set_cons_succ])
      refine wpAnyH_done (by kernel_rfl) ?_ _
      have ay : AwayF Y g106 := by have z0 := hb0.size; have z2 := hb2.size; have z6 := hb6.size; have l6 := blk_lt hbox6; exact hYa _ (by omega) (newF_away _) trivial
      have hfa := FAt.set hV6.out hLY.out ay
      have hbX := hHeld
      clear hHeld
      unfold set5F at hfa
      go_wp2
      go_meet
      case rel => exact ⟨g106, Y, rfl, rfl, Lib.hid hfa, hYs, hbX, by have := hge6; omega⟩
    exact AllReadyH.nil
  case rest =>
    obtain ⟨g2, Y, rfl, rfl, HY, hYs, hb2, hg2⟩ := hcut
    have hb3 := bel_next hb1 hb2
    have hh3 := hh1.later hb2
    have HF1 := Lib.hid (HF.out wc Y hb3 HY.out.l hYs)
    have HN1 := Lib.hid (fun W (h : Below wc.heap.size wc W) => HN.out W Y ((HY.out.l.later h).more h.size) hYs)
    simp only [FileT.agg, PcT.val] at HF1 HN1
    clear x0 x1 HP1 hb1 hh1 hb2 HP HF HN hYs hiF hzF
    have HV3 := Lib.hid HY.out.v
    clear HY
    obtain ⟨⟨y0, y1, y2, y3, y4⟩, -⟩ := HV3.out
    go_wp2_with fail
    refine HF1.out.mono ?_
    rintro e W4 ⟨rfl, hb4⟩
    have hb5 := bel_next hb3 hb4
    have hh4 := hh3.later hb4
    have HV4 := Lib.hid (HV3.out.later hb4)
    clear y0 y1 y2 y3 y4 hh3 HV3 HF1
    go_upto_region 4 with fail
    have hb6 := bel_alloc hb5 (.cells #[.int .u64 1, .int .i64 1] 24)
    have hg4 : HBox (W4.alloc (.cells #[.int .u64 1, .int .i64 1] 24)) W4.heap.size 1 1 := heap_alloc_new W4 _
    have hh6 := hh4.later (bel_alloc (Below.refl _ _) (.cells #[.int .u64 1, .int .i64 1] 24))
    have HV6 := Lib.hid (HV4.out.later (bel_alloc (Below.refl _ _) (.cells #[.int .u64 1, .int .i64 1] 24)))
    have HB6 := Lib.hid (bel_alloc hb4 (.cells #[.int .u64 1, .int .i64 1] 24))
    generalize W4.alloc (.cells #[.int .u64 1, .int .i64 1] 24) = W6 at *
    generalize W4.heap.size = g4 at *
    have x0 := hh6.c0
    have x1 := hh6.c1
    clear hb4 hb5 hh4 HV4
    go_upto_region 5 with (first
      | (go_at_call 15; refine (HBK.out _ hb6).mono ?_; rintro e w7 ⟨rfl, hb7⟩; have hA7 := arr_lit w7)
      | (with_reducible refine wpList_storeArr rfl (.tmp 7) (.tmp 28) rfl rfl rfl hA7 (info64 z64_len) (b11_len.trans z64_len.symm) ?_; intro W8 ha8 ho8))
    (try simp only [Act.put])
    have hb8 : Below W6.heap.size W6 W8 := (bel_alloc hb7 _).trans (ho8.below _ hb7.size)
    obtain ⟨g7, hg7⟩ : ∃ g7, w7.heap.size = g7 := ⟨_, rfl⟩
    rw [hg7] at ha8 ⊢
    have hb9 := bel_next hb6 hb8
    have hg8 := hg4.later hb8
    have hh8 := hh6.later hb8
    have HV8 := Lib.hid (HV6.out.later hb8)
    have HB8 := Lib.hid (bel_next HB6.out hb8)
    clear hb8 hb7 ho8 hA7 hg7 hb6 hg4 hh6 HV6 HB6 x0 x1 HBK
    go_upto_region 6 with (first
      | (with_reducible refine wpList_loadArr rfl (.tmp 7) rfl rfl ha8 Tryd.underlying25 (info64 b11_len) ?_)
      | (go_at_call 13; refine (HS1.out _ hb9).mono ?_; rintro e w9 ⟨rfl, hb10⟩))
    have hb11 := bel_alloc (bel_next hb9 hb10) (.cells #[.int .u64 1, .int .i64 1] 24)
    have hb12 := bel_alloc hb10 (.cells #[.int .u64 1, .int .i64 1] 24)
    have hk9 : HBox (w9.alloc (.cells #[.int .u64 1, .int .i64 1] 24)) w9.heap.size 1 1 := heap_alloc_new w9 _
    have hg9 := hg8.later hb12
    have hh9 := hh8.later hb12
    have ha9 := ha8.later hb12
    have HV9 := Lib.hid (HV8.out.later hb12)
    have HB9 := Lib.hid (bel_next HB8.out hb12)
    generalize w9.alloc (.cells #[.int .u64 1, .int .i64 1] 24) = W9 at *
    generalize w9.heap.size = g9 at *
    clear hb10 hb12 hb9 hg8 hh8 ha8 HV8 HB8 HS1
    have HS0' := HS0.out W9 hb11
    unfold arrV at HS0'
    rw [← lit64] at HS0'
    have HS2 := Lib.hid HS0'
    clear HS0' HS0
    go_upto_region 7 with (go_at_call 13; refine HS2.out.mono ?_; rintro e w10 ⟨rfl, hb13⟩)
    have hb14 := bel_alloc (bel_next hb11 hb13) (.cells #[.int .u64 0, .int .i64 0] 24)
    have hb15 := bel_alloc hb13 (.cells #[.int .u64 0, .int .i64 0] 24)
    have hk10 := hk9.later hb15
    have hg10 := hg9.later hb15
    have hh10 := hh9.later hb15
    have ha10 := ha9.later hb15
    have HV10 := Lib.hid (HV9.out.later hb15)
    have HB10 := Lib.hid (bel_next HB9.out hb15)
    generalize w10.alloc (.cells #[.int .u64 0, .int .i64 0] 24) = W10 at *
    generalize w10.heap.size = g10 at *
    clear hb11 hb13 hb15 hk9 hg9 hh9 ha9 HV9 HB9 HS2
    simp only [newF, FileT.agg, PcT.val] at HP0
    go_upto_region 8 with (first
      | (go_at_call 30; refine (newF_any _).mono ?_; rintro e w11 ⟨rfl, hb16⟩)
      | (go_at_call 16; refine (HP0.out _).mono ?_; rintro e w12 ⟨Y2, rfl, -, -, hb17, -⟩; simp only [FileT.agg, PcT.val]))
    have hb18 := bel_alloc (bel_next hb16 hb17) (.cells #[.slice Y2.F.A Y2.F.n Y2.F.c, .slice Y2.lA Y2.ln Y2.lc, .int .i64 Y2.fuse, .int .i64 Y2.fault, .bool Y2.off] 37)
    have hb19 := bel_next hb14 hb18
    have hk13 := hk10.later hb18
    have hg13 := hg10.later hb18
    have hh13 := hh10.later hb18
    have ha13 := ha10.later hb18
    have HL13 := Lib.hid (HN1.out _ (bel_next HB10.out hb18))
    obtain ⟨⟨y0, y1, y2, y3, y4⟩, -⟩ := HV10.out.later hb18
    generalize w12.alloc (.cells #[.slice Y2.F.A Y2.F.n Y2.F.c, .slice Y2.lA Y2.ln Y2.lc, .int .i64 Y2.fuse, .int .i64 Y2.fault, .bool Y2.off] 37) = W13 at *
    generalize w12.heap.size = g12 at *
    clear hb14 hb16 hb17 hb18 hk10 hg10 hh10 ha10 HV10 HB10 HN1 HP0
    go_wp2_with fail
    refine HL13.out.mono ?_
    rintro e W14 ⟨rfl, hb20⟩
    have hb21 := bel_next hb19 hb20
    have hk := hk13.later hb20
    have hg := hg13.later hb20
    have hh := hh13.later hb20
    have ha := ha13.later hb20
    have p0 := hk.c0
    have p1 := hk.c1
    have q0 := hg.c0
    have q1 := hg.c1
    have r0 := hh.c0
    have r1 := hh.c1
    have s0 := ha.cell (j := 0) (by rw [b11_len]; omega)
    have s1 := ha.cell (j := 8) (by rw [b11_len]; omega)
    have s2 := ha.cell (j := 12) (by rw [b11_len]; omega)
    have s3 := ha.cell (j := 63) (by rw [b11_len]; omega)
    rw [b11_0] at s0
    rw [b11_8] at s1
    rw [b11_12] at s2
    rw [b11_63] at s3
    clear hk13 hg13 hh13 ha13 hk hg hh ha HL13 hb19 hb20 y0 y1 y2 y3 y4
    go_wp2
    go_ret
    exact ⟨rfl, hb21⟩
end Go.Proofs.YtlknmpnjhbdlhaaDoor
