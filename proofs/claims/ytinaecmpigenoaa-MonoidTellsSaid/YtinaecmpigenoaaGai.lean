import Derived.Test.YtinaecmpigenoaaGah
import Derived.Deep.RegionHeld3
import Derived.ArgAppend
import Derived.Test.YtinaecmpigenoaaGaf
import Derived.Test.YtinaecmpigenoaaGag
import Derived.Test.YtinaecmpigenoaaGad
import Derived.Test.YtinaecmpigenoaaGac
/-
  Layer 4: reaches; sums over kids (for ValueHolds).
-/
namespace Go.Proofs.Ytinaecmpigenoaa
open Go.RowKit
set_option linter.unusedVariables false

theorem sameR_self (T : VT) (h : T.ok = true) : sameR T T = true := by
  unfold sameR
  rw [h, (sameV_iff T T).2 rfl]
  rfl
theorem dep_take {l : List VT} {j : Nat} {x : VT} (h : l[j]? = some x) : maxL ((l.take (j + 1)).map VT.dep) = max (maxL ((l.take j).map VT.dep)) x.dep := by
  rw [List.take_add_one, h, List.map_append, maxL_append]
  simp [maxL]
theorem cnt_take {l : List VT} {j : Nat} {x : VT} (h : l[j]? = some x) : 1 + ((l.take (j + 1)).map VT.cnt).sum = (1 + ((l.take j).map VT.cnt).sum) + x.cnt := by
  rw [List.take_add_one, h, List.map_append, List.sum_append]
  simp; omega
theorem ok_bounds {T : VT} (h : T.ok = true) : T.dep ≤ 8 ∧ T.cnt ≤ 256 := by
  unfold VT.ok at h
  simp only [Bool.and_eq_true, decide_eq_true_eq] at h
  exact ⟨h.1, h.2.1⟩
theorem dep_pre {l : List VT} (j : Nat) (h : ∀ x ∈ l, x.dep ≤ 8) : maxL ((l.take j).map VT.dep) ≤ 8 := by
  have : ∀ m : List VT, (∀ x ∈ m, x.dep ≤ 8) → maxL (m.map VT.dep) ≤ 8 := by
    intro m
    induction m with
    | nil => intro _; simp [maxL]
    | cons x m ih =>
      intro h
      rw [List.map_cons, maxL_cons]
      have := h x (by simp)
      have := ih fun y hy => h y (by simp [hy])
      omega
  exact this _ fun x hx => h x (List.mem_of_mem_take hx)
theorem cnt_pre (l : List VT) (j : Nat) : ((l.take j).map VT.cnt).sum ≤ (l.map VT.cnt).sum := by
  conv => rhs; rw [← List.take_append_drop j l, List.map_append, List.sum_append]
  omega
end Go.Proofs.Ytinaecmpigenoaa
/-
  A region that draws its order, walked by hand, operation by operation: taken first (wanted, or passed over), or carried out; steps that hand on an unnamed world with what it holds. No program in sight.
-/
namespace Go.Proofs.Ytinaecmpigenoaa
open Go.RowKit
set_option linter.unusedVariables false

section
variable {P : Program} {l : List Oper} {Q : Exit → Act → World → Prop} {S : World → Prop}

/-- Operation i is wanted, and yields in every world that meets S: it is taken first. -/
theorem rg_in (i : Nat) {oi : Oper} {v : Value} {fuel : Nat} {listed : Array Bool} {a : Act} {w : World} (hi : l[i]? = some oi)
    (hs : Region.noSelect l.toArray = true) (hf : Region.free .any l.toArray listed i = true) (hr : (Region.ready .any l.toArray listed).contains i = true)
    (hw : Region.wanted oi (yielded l.toArray a.tmps) = true) (hQ : ∀ c a w, Q (.panic c) (a.put oi.dst v) w → Q (.panic c) a w) (hS : S w) (hv : ∀ w, S w → (execOp a.eval oi).run P w = .ok (.value v) w)
    (h : wpAnyH P .any l.toArray Q S fuel (listed.setIfInBounds i true) (a.put oi.dst v) w) : wpAnyH P .any l.toArray Q S (fuel + 1) listed a w :=
  wpAnyH_take (by rw [List.getElem?_toArray]; exact hi) hs hf hr hQ (.inl ⟨hw, hv⟩) hS h
/-- Operation i is not wanted: it is passed over. -/
theorem rg_off (i : Nat) {oi : Oper} {fuel : Nat} {listed : Array Bool} {a : Act} {w : World} (hi : l[i]? = some oi)
    (hs : Region.noSelect l.toArray = true) (hf : Region.free .any l.toArray listed i = true) (hr : (Region.ready .any l.toArray listed).contains i = true)
    (hw : Region.wanted oi (yielded l.toArray a.tmps) = false) (hQ : ∀ c a w, Q (.panic c) (a.put oi.dst undef) w → Q (.panic c) a w) (hS : S w)
    (h : wpAnyH P .any l.toArray Q S fuel (listed.setIfInBounds i true) (a.put oi.dst undef) w) : wpAnyH P .any l.toArray Q S (fuel + 1) listed a w :=
  wpAnyH_take (by rw [List.getElem?_toArray]; exact hi) hs hf hr hQ (.inr ⟨hw, rfl⟩) hS h
/-- Operation i alone may come up: it is carried out. -/
theorem rg_do (i : Nat) {oi : Oper} {fuel : Nat} {listed : Array Bool} {a : Act} {w : World} (hi : l[i]? = some oi)
    (hr : Region.ready .any l.toArray listed = [i])
    (hw : Region.wanted oi (yielded l.toArray a.tmps) = true)
    (h : ∀ K' : Act → World → Prop, Shut (∀ a w, S w → (S w → wpAnyH P .any l.toArray Q S fuel (listed.setIfInBounds i true) a w) → K' a w) → Oper.wp P oi a w K' Q) : wpAnyH P .any l.toArray Q S (fuel + 1) listed a w :=
  wpAnyH_ready hr (by simp) (AllReadyH.cons (by rw [List.getElem?_toArray]; exact hi) (fun K hK => by rw [if_pos hw]; exact h K hK) AllReadyH.nil)
/-- One of several that may come up. -/
theorem rg_cons {i : Nat} {oi : Oper} {rs : List Nat} {fuel : Nat} {listed : Array Bool} {a : Act} {w : World} (hi : l[i]? = some oi)
    (hw : Region.wanted oi (yielded l.toArray a.tmps) = true)
    (h : ∀ K' : Act → World → Prop, Shut (∀ a w, S w → (S w → wpAnyH P .any l.toArray Q S fuel (listed.setIfInBounds i true) a w) → K' a w) → Oper.wp P oi a w K' Q)
    (hs : AllReadyH P .any l.toArray Q S fuel listed a w rs) : AllReadyH P .any l.toArray Q S fuel listed a w (i :: rs) :=
  AllReadyH.cons (by rw [List.getElem?_toArray]; exact hi) (fun K hK => by rw [if_pos hw]; exact h K hK) hs
end

section
variable {P : Program} {w w' : World} {o : Oper} {a : Act} {K : Act → World → Prop} {Q : Exit → Act → World → Prop}
theorem blk_later {g : Nat} {x : Obj} (h : w.heap[g]? = some x) (hb : Below w.heap.size w w') : w'.heap[g]? = some x := (hb.block g (Array.getElem?_eq_some_iff.1 h).1).trans h
theorem blk_lt {g : Nat} {x : Obj} (h : w.heap[g]? = some x) : g < w.heap.size := (Array.getElem?_eq_some_iff.1 h).1
theorem blk_other {g : Nat} {x : Obj} {r : Option Nat} (h : w.heap[g]? = some x) (hg : w.grownBy w' r) (hne : some g ≠ r) : w'.heap[g]? = some x := (hg.block g (blk_lt h) hne).trans h
theorem own_later {base : Nat} {e : TypeId} {size n : Nat} {v : Value} {xs : List Value} (h : w.ownsRow base e size v n xs) (hb : Below w.heap.size w w') : w'.ownsRow base e size v n xs :=
  h.kept (row := none) ⟨hb.os, hb.tape, hb.output, hb.size, fun k hk _ => hb.block k hk⟩ (by cases hv : v.ownBlock; exact .inl rfl; exact .inr (by simp))
/-- A row of one element type and a block of another are apart. -/
theorem own_blk_ne {base g : Nat} {e t : TypeId} {size n : Nat} {v : Value} {xs : List Value} {C : Array Value} {fr : Nat × Nat} (h : w.ownsRow base e size v n xs) (hb : w.heap[g]? = some (.cells C t fr)) (hne : t ≠ e) : some g ≠ v.ownBlock := by
  rcases h.2 with ⟨rfl, _⟩ | ⟨k, cap, cur, rfl, _, hk, _⟩
  · simp [Value.ownBlock]
  · intro hg
    simp only [Value.ownBlock, Option.some.injEq] at hg
    subst hg
    rw [hb] at hk
    simp only [Option.some.injEq, Obj.cells.injEq] at hk
    exact hne hk.2.1
/-- '[]T{}'. -/
theorem step_row0 (t e : TypeId) (ho : o.op = .buildSlice t 0 #[]) (base size : Nat) (i : TypeInfo) (ht : P.underlying t = some (.slice e)) (hi : P.info? e = some i) (hbase : base ≤ w.heap.size)
    (h : ∀ g w', w.heap.size ≤ g → w'.ownsRow base e size (.slice (some ⟨g, 0, none⟩) 0 0) 0 [] → Below w.heap.size w w' → K (a.put o.dst (.slice (some ⟨g, 0, none⟩) 0 0)) w') : o.wp P a w K Q := by
  have h0 := h w.heap.size (w.alloc (.cells #[] e)) (Nat.le_refl _) (World.ownsRow_lit w #[] 0 hbase (Nat.zero_le _) (by simp)) ((Below.refl _ _).alloc (Nat.le_refl _) _)
  have hrun : (Instr.buildSlice t 0 #[]).run P w = .ok (.slice (some ⟨w.heap.size, 0, none⟩) 0 0) (w.alloc (.cells #[] e)) := by
    simp only [Instr.buildSlice, sizeOf, typeInfo]
    simp [run_underlying ht, hi, Instr.fill, newRow, Result.andThen]
    rw [Array.eq_empty_of_size_eq_zero (xs := Array.map (fun x => (default : Value)) (Array.range 0)) (by simp)]
  unfold Oper.wp execOp
  simp only [ho, List.map_toArray, List.map_nil, Sem.run_bind, Sem.run_pure, hrun, Result.andThen_ok]
  exact h0
/-- A new variable. -/
theorem step_alloc (t : TypeId) (ho : o.op = .alloc t) (i : TypeInfo) (z : Value) (hi : P.info? t = some i) (hz : i.zero = some z)
    (h : ∀ g w', w.heap.size ≤ g → w'.heap[g]? = some (.cells z.cells t) → Below w.heap.size w w' → K (a.put o.dst (.pointer (some ⟨g, 0, none⟩))) w') : o.wp P a w K Q := by
  have h0 := h w.heap.size (w.alloc (.cells z.cells t)) (Nat.le_refl _) (heap_alloc_new w _) ((Below.refl _ _).alloc (Nat.le_refl _) _)
  have hrun : (Instr.alloc t true (.tuple #[])).run P w = .ok (.pointer (some ⟨w.heap.size, 0, none⟩)) (w.alloc (.cells z.cells t)) := by
    simp only [Instr.alloc, zeroValue, typeInfo, newVar]
    simp [hi, hz, newRow, Result.andThen]
  unfold Oper.wp execOp
  simp only [ho, Sem.run_bind, Sem.run_pure, hrun, Result.andThen_ok]
  exact h0
/-- append onto '[]T{}'. -/
theorem step_app0 (s x : Operand) (t : TypeId) (ho : o.op = .call { callee := .builtin .append, args := #[s, x], argTypes := #[t, t] })
    (base : Nat) (e : TypeId) (i : TypeInfo) (z : Value) (size bytes : Nat) (ht : P.underlying t = some (.slice e)) (hi : P.info? e = some i) (hz : i.zero = some z)
    (hsize : i.size = size) (hby : i.bytes = bytes) (hzs : z.cells.size = size) (hsz : 0 < size)
    (g : Nat) (hs : a.eval s = .slice (some ⟨g, 0, none⟩) 0 0) (hown : w.ownsRow base e size (.slice (some ⟨g, 0, none⟩) 0 0) 0 [])
    (B : Nat) (A : Option Addr) (m c : Nat) (news : List Value) (hx : a.eval x = .slice A m c) (hr : Shows w B size A m news) (h1 : ∀ u ∈ news, u.oneCell' = true)
    (h63 : m ≤ maxLen) (hbytes : m * bytes ≤ 140737488355328) (hbase : base ≤ w.heap.size)
    (h : ∀ A' c' w', w'.ownsRow base e size (.slice A' m c') m news → Below w.heap.size w w' → K (a.put o.dst (.slice A' m c')) w') : o.wp P a w K Q := by
  rcases Nat.eq_zero_or_pos m with rfl | hm
  · obtain rfl : news = [] := List.eq_nil_of_length_eq_zero (by simpa using hr.1)
    have hrun : (Builtin.append_ #[t, t] o.type #[.slice (some ⟨g, 0, none⟩) 0 0, .slice A 0 c]).run P w = .ok (.slice (some ⟨g, 0, none⟩) 0 0) w := by
      cases A <;> simp [Builtin.append_, run_underlying ht, sizeOf, typeInfo, hi, Builtin.lenOf, Builtin.firstCells, loadCells, loadCellsFrom, storeCells, Result.andThen]
    unfold Oper.wp execOp
    simp only [ho, resolve, invoke, builtin, Sem.run_bind, Sem.run_pure, Result.andThen_ok, List.map_toArray, List.map_cons, List.map_nil, hs, hx, hrun]
    exact h _ _ w hown (Below.refl _ _)
  · obtain ⟨b, off, rfl, hb, hc⟩ := hr.2 hm
    obtain ⟨v', w', hrun, r1, r2⟩ := run_append_arg_grows (P := P) w t o.type e i z size bytes ht hi hz hsize hby hzs hsz ⟨g, 0, none⟩ 0 0 [] (by simp) (by simp) ⟨b, off, none⟩ m c news hr.1 (fun j u hu => by rw [addr_add]; exact hc j u hu) (by omega) (by omega) (by simpa using hbytes)
    unfold Oper.wp
    simp [execOp, ho, resolve, invoke, builtin, hs, hx, hrun, Result.andThen]
    have r1' : w'.ownsRow base e size v' m news := by
      simpa using own_base r1 hbase
    obtain ⟨A', c', rfl, _, _⟩ := own_form r1'
    exact h A' c' w' r1' ⟨r2.os, r2.tape, r2.output, r2.size, fun k hk => r2.block k hk (by simp)⟩
end
end Go.Proofs.Ytinaecmpigenoaa
/-
  Layer 4: List.
-/
namespace Go.Proofs.Ytinaecmpigenoaa
open Go.RowKit
set_option linter.unusedVariables false

def chkT (T : VT) : VT := if T.ok = true then T else scV 0 0 ⟨#[]⟩
def chkE (T : VT) : Int := if T.ok = true then 0 else 140
theorem chkR_T (T : VT) : chkR T = .tuple #[(chkT T).agg, .int .i64 (chkE T)] := by unfold chkR chkT chkE; split <;> rfl
theorem chkT_ok {T : VT} (h : T.ok = true) : chkT T = T := by unfold chkT; rw [if_pos h]
theorem chkE_ok {T : VT} (h : T.ok = true) : chkE T = 0 := by unfold chkE; rw [if_pos h]
theorem chkE_no {T : VT} (h : T.ok = false) : chkE T = 140 := by unfold chkE; rw [h]; rfl
theorem chkT_no {T : VT} (h : T.ok = false) : chkT T = scV 0 0 ⟨#[]⟩ := by unfold chkT; rw [h]; rfl
/-- A list of these. -/
abbrev lsV (A : Option Addr) (n c : Nat) (l : List VT) : VT := .mk 5 0 ⟨#[]⟩ A n c none 0 0 [] l
theorem lie_ls {W : World} {b n c : Nat} {A : Option Addr} {l : List VT} (ho : W.ownsRow b 42 5 (.slice A n c) n (l.flatMap VT.cells)) (hl : ∀ x ∈ l, Lie W W.heap.size x) : Lie W W.heap.size (lsV A n c l) := by
  have hf := own_form ho
  obtain ⟨A', c', e, h1, h2⟩ := hf
  injection e with e1 e2 e3
  subst e1; subst e3
  refine .mk (Shows.own ho) (Shows.zero none) ⟨by decide, by decide, by decide, h1, h2, ?_, Nat.le_refl _, by decide, fun _ => rfl, by simp⟩ hl
  intro hA
  rcases ho.2 with ⟨e, _⟩ | ⟨g, cap, cur, e, _⟩
  · injection e
  · injection e with e1; rw [hA] at e1; cases e1
end Go.Proofs.Ytinaecmpigenoaa
/-
  Layer 13: what is told, as a tree: whole numbers, nothing, and the object of stats.
-/
namespace Go.Proofs.Ytinaecmpigenoaa
open Go.RowKit
set_option linter.unusedVariables false

/-- A kind and a number that may be together: nothing, or a whole number. -/
def LeafK (k x : Int) : Prop := (k = 1 ∧ x = 0) ∨ k = 3
theorem leaf_ok {k x : Int} (h : LeafK k x) : (scV k x ⟨#[]⟩).ok = true := by
  refine sc_ok _ _ _ ?_ ?_
  · rcases h with ⟨rfl, rfl⟩ | rfl <;> decide
  · unfold scV
    rw [fit_mk, strB_nil]
    rcases h with ⟨rfl, rfl⟩ | rfl
    · decide
    · have h2 : numB 3 x = true := rfl
      rw [h2]
      decide
theorem leaf_same {k x : Int} (h : LeafK k x) : sameR (scV k x ⟨#[]⟩) (scV k x ⟨#[]⟩) = true := by
  unfold sameR
  rw [leaf_ok h, (sameV_iff _ _).2 rfl]
  rfl
theorem leaf_all {k x : Int} (h : LeafK k x) : (scV k x ⟨#[]⟩).all = true := by
  have := leaf_ok h
  unfold VT.ok at this
  simp only [Bool.and_eq_true] at this
  exact this.2.2
theorem leaf_lie {k x : Int} (h : LeafK k x) (hx : R64 x) (w : World) (B : Nat) : Lie w B (scV k x ⟨#[]⟩) := by
  refine lie_sc _ _ _ _ _ ?_ ?_ (by decide)
  · rcases h with ⟨rfl, rfl⟩ | rfl <;> decide
  · unfold R64 at hx
    show (decide (IntKind.i64.min ≤ x) && decide (x ≤ IntKind.i64.max)) = true
    rw [Bool.and_eq_true, decide_eq_true_iff, decide_eq_true_iff]
    exact ⟨hx.1, by show x ≤ 9223372036854775807; omega⟩
/-- The object of stats. -/
def statT (gk gs : Nat) (c k1 x1 k2 x2 i y : Int) : VT :=
  .mk 6 0 ⟨#[]⟩ (some ⟨gk, 0, none⟩) 5 5 (some ⟨gs, 0, none⟩) 5 5 [⟨#[99, 111, 117, 110, 116]⟩, ⟨#[109, 97, 120]⟩, ⟨#[109, 105, 110]⟩, ⟨#[110, 117, 109, 98, 101, 114, 115]⟩, ⟨#[115, 117, 109]⟩] [scV 3 c ⟨#[]⟩, scV k1 x1 ⟨#[]⟩, scV k2 x2 ⟨#[]⟩, scV 3 i ⟨#[]⟩, scV 3 y ⟨#[]⟩]
theorem stat_keys : memB 6 5 5 [⟨#[99, 111, 117, 110, 116]⟩, ⟨#[109, 97, 120]⟩, ⟨#[109, 105, 110]⟩, ⟨#[110, 117, 109, 98, 101, 114, 115]⟩, ⟨#[115, 117, 109]⟩] = true := by
  have v0 : validS ⟨#[99, 111, 117, 110, 116]⟩ = true := validS_of [99, 111, 117, 110, 116] _ (by intro c hc; simp only [List.mem_cons, List.not_mem_nil, or_false] at hc; rcases hc with rfl | rfl | rfl | rfl | rfl <;> decide) (by decide)
  have v1 : validS ⟨#[109, 97, 120]⟩ = true := validS_of [109, 97, 120] _ (by intro c hc; simp only [List.mem_cons, List.not_mem_nil, or_false] at hc; rcases hc with rfl | rfl | rfl <;> decide) (by decide)
  have v2 : validS ⟨#[109, 105, 110]⟩ = true := validS_of [109, 105, 110] _ (by intro c hc; simp only [List.mem_cons, List.not_mem_nil, or_false] at hc; rcases hc with rfl | rfl | rfl <;> decide) (by decide)
  have v3 : validS ⟨#[110, 117, 109, 98, 101, 114, 115]⟩ = true := validS_of [110, 117, 109, 98, 101, 114, 115] _ (by intro c hc; simp only [List.mem_cons, List.not_mem_nil, or_false] at hc; rcases hc with rfl | rfl | rfl | rfl | rfl | rfl | rfl <;> decide) (by decide)
  have v4 : validS ⟨#[115, 117, 109]⟩ = true := validS_of [115, 117, 109] _ (by intro c hc; simp only [List.mem_cons, List.not_mem_nil, or_false] at hc; rcases hc with rfl | rfl | rfl <;> decide) (by decide)
  unfold memB memQ
  rw [if_pos (by decide)]
  simp only [Bool.and_eq_true]
  refine ⟨by decide, ?_⟩
  rw [keysB_iff]
  intro i hi
  have hi : i < 5 := hi
  obtain rfl | rfl | rfl | rfl | rfl : i = 0 ∨ i = 1 ∨ i = 2 ∨ i = 3 ∨ i = 4 := by omega
  · show (validS ⟨#[99, 111, 117, 110, 116]⟩ && true) = true
    rw [v0]; rfl
  · show (validS ⟨#[109, 97, 120]⟩ && Op.bytesLess (ByteArray.toList ⟨#[99, 111, 117, 110, 116]⟩) (ByteArray.toList ⟨#[109, 97, 120]⟩)) = true
    rw [v1, ByteArray.toList_eq, ByteArray.toList_eq]; decide
  · show (validS ⟨#[109, 105, 110]⟩ && Op.bytesLess (ByteArray.toList ⟨#[109, 97, 120]⟩) (ByteArray.toList ⟨#[109, 105, 110]⟩)) = true
    rw [v2, ByteArray.toList_eq, ByteArray.toList_eq]; decide
  · show (validS ⟨#[110, 117, 109, 98, 101, 114, 115]⟩ && Op.bytesLess (ByteArray.toList ⟨#[109, 105, 110]⟩) (ByteArray.toList ⟨#[110, 117, 109, 98, 101, 114, 115]⟩)) = true
    rw [v3, ByteArray.toList_eq, ByteArray.toList_eq]; decide
  · show (validS ⟨#[115, 117, 109]⟩ && Op.bytesLess (ByteArray.toList ⟨#[110, 117, 109, 98, 101, 114, 115]⟩) (ByteArray.toList ⟨#[115, 117, 109]⟩)) = true
    rw [v4, ByteArray.toList_eq, ByteArray.toList_eq]; decide
theorem leaf_dep {k x : Int} (h : LeafK k x) : (scV k x ⟨#[]⟩).dep = 0 := by
  rw [sc_dep]
  rcases h with ⟨rfl, _⟩ | rfl <;> decide
theorem stat_ok {gk gs : Nat} {c k1 x1 k2 x2 i y : Int} (h1 : LeafK k1 x1) (h2 : LeafK k2 x2) : (statT gk gs c k1 x1 k2 x2 i y).ok = true := by
  have l3 : ∀ n, LeafK 3 n := fun n => .inr rfl
  unfold VT.ok statT
  rw [dep_mk, cnt_mk, all_mk, fit_mk]
  simp only [List.map_cons, List.map_nil, List.all_cons, List.all_nil, leaf_dep h1, leaf_dep h2, leaf_dep (l3 _), sc_cnt, leaf_all h1, leaf_all h2, leaf_all (l3 _)]
  rw [strB_nil, stat_keys]
  decide
theorem stat_lie {w : World} {B gk gs : Nat} {c k1 x1 k2 x2 i y : Int} (h1 : LeafK k1 x1) (h2 : LeafK k2 x2) (b1 : R64 x1) (b2 : R64 x2) (bc : R64 c) (bi : R64 i) (bY : R64 y) (hk : Shows w B 5 (some ⟨gk, 0, none⟩) 5 (statKids c k1 x1 k2 x2 i y)) (hs : Shows w B 1 (some ⟨gs, 0, none⟩) 5 statKeys) : Lie w B (statT gk gs c k1 x1 k2 x2 i y) := by
  refine .mk hk hs ⟨by decide, by decide, by decide, Nat.le_refl _, by decide, (fun h => by cases h), Nat.le_refl _, by decide, (fun h => by cases h), fun x hx => ?_⟩ fun x hx => ?_
  · simp only [List.mem_cons, List.not_mem_nil, or_false] at hx
    rcases hx with rfl | rfl | rfl | rfl | rfl <;> decide
  · simp only [List.mem_cons, List.not_mem_nil, or_false] at hx
    rcases hx with rfl | rfl | rfl | rfl | rfl
    · exact leaf_lie (.inr rfl) bc w B
    · exact leaf_lie h1 b1 w B
    · exact leaf_lie h2 b2 w B
    · exact leaf_lie (.inr rfl) bi w B
    · exact leaf_lie (.inr rfl) bY w B
end Go.Proofs.Ytinaecmpigenoaa
/-
  Layer 13: the reference's small functions for Tells: Zero, in, Fits.
-/
namespace Go.Proofs.Ytinaecmpigenoaa
open Go.RowKit
attribute [local go_sem ↓] Go.wp_at_zero Go.wp_at_succ

set_option maxRecDepth 20000 in
set_option maxHeartbeats 1000000 in
theorem zero_yes (w : World) : Calls Try.prog 19 #[.agg #[.int .i64 0, .int .i64 0, .string ⟨#[]⟩, .slice none 0 0, .slice none 0 0]] w fun e w' => e = .returned (.bool true) ∧ Below w.heap.size w w' := by
  go_enter Try.func19, Try.ntmps19
  go_wp2
  go_ret
  exact ⟨rfl, (Below.refl _ _).alloc (Nat.le_refl _) _⟩
set_option maxRecDepth 20000 in
set_option maxHeartbeats 1000000 in
theorem zero_no (k n : Int) (s : ByteArray) (A B : Option Addr) (a ac b bc : Nat) (w : World) (hk : (k == 0) = false) : Calls Try.prog 19 #[.agg #[.int .i64 k, .int .i64 n, .string s, .slice A a ac, .slice B b bc]] w fun e w' => e = .returned (.bool false) ∧ Below w.heap.size w w' := by
  go_enter Try.func19, Try.ntmps19
  go_wp2
  go_ret
  exact ⟨rfl, (Below.refl _ _).alloc (Nat.le_refl _) _⟩
theorem in_any (n : Int) (w : World) : Calls Try.prog 37 #[.int .i64 n] w fun e w' => e = .returned (.agg #[.int .i64 3, .int .i64 n, .string ⟨#[]⟩, .slice none 0 0, .slice none 0 0]) ∧ Below w.heap.size w w' := by
  go_enter Try.func37, Try.ntmps37
  go_wp2
  exact bodyPost_ret (v := .agg #[.int .i64 3, .int .i64 n, .string ⟨#[]⟩, .slice none 0 0, .slice none 0 0]) (by simp [results, Try.results37, go_sem]) rfl ⟨rfl, (Below.refl _ _).alloc (Nat.le_refl _) _⟩
theorem fits_iff (v : Int) (h : R128 v) : ((hiI v = 0 ∧ loI v < 9223372036854775808) ∨ (hiI v = -1 ∧ 9223372036854775808 ≤ loI v)) ↔ v = IntKind.i64.wrap (loI v) := by
  rw [hi_in v h, IntKind.wrap_i64]
  unfold R128 at h
  unfold loI
  omega
set_option maxRecDepth 20000 in
set_option maxHeartbeats 1000000 in
theorem mfits_any (v : Int) (w : World) (h : R128 v) : Calls Try.prog 38 #[.agg #[.int .i64 (hiI v), .int .u64 (loI v)]] w fun e w' => e = .returned (.bool (decide (v = IntKind.i64.wrap (loI v)))) ∧ Below w.heap.size w w' := by
  have hf := fits_iff v h
  obtain ⟨b, hb⟩ : ∃ b, decide (v = IntKind.i64.wrap (loI v)) = b := ⟨_, rfl⟩
  rw [hb]
  have hbb := (Below.refl w.heap.size w).alloc (Nat.le_refl _) (.cells #[.int .i64 (hiI v), .int .u64 (loI v)] 66)
  by_cases h0 : hiI v = 0
  · have e0 : (hiI v == 0) = true := beq_iff_eq.2 h0
    have e1 : (hiI v == -1) = false := by rw [beq_eq_false_iff_ne, h0]; decide
    by_cases hl : loI v < 9223372036854775808
    · have hbt : b = true := by rw [← hb]; exact decide_eq_true (hf.1 (.inl ⟨h0, hl⟩))
      have dl : decide (loI v < 9223372036854775808) = true := decide_eq_true hl
      subst hbt
      clear hf hb h0 h
      go_enter Try.func38, Try.ntmps38
      go_wp2
      go_ret
      exact ⟨rfl, hbb⟩
    · have hbt : b = false := by rw [← hb]; exact decide_eq_false (fun hh => by have := hf.2 hh; omega)
      have dl : decide (loI v < 9223372036854775808) = false := decide_eq_false hl
      subst hbt
      clear hf hb h0 h
      go_enter Try.func38, Try.ntmps38
      go_wp2
      go_ret
      exact ⟨rfl, hbb⟩
  · have e0 : (hiI v == 0) = false := beq_eq_false_iff_ne.2 h0
    by_cases h1 : hiI v = -1
    · have e1 : (hiI v == -1) = true := beq_iff_eq.2 h1
      by_cases hl : 9223372036854775808 ≤ loI v
      · have hbt : b = true := by rw [← hb]; exact decide_eq_true (hf.1 (.inr ⟨h1, hl⟩))
        have dl : decide (9223372036854775808 ≤ loI v) = true := decide_eq_true hl
        subst hbt
        clear hf hb h0 h1 h
        go_enter Try.func38, Try.ntmps38
        go_wp2
        go_ret
        exact ⟨rfl, hbb⟩
      · have hbt : b = false := by rw [← hb]; exact decide_eq_false (fun hh => by have := hf.2 hh; omega)
        have dl : decide (9223372036854775808 ≤ loI v) = false := decide_eq_false hl
        subst hbt
        clear hf hb h0 h1 h
        go_enter Try.func38, Try.ntmps38
        go_wp2
        go_ret
        exact ⟨rfl, hbb⟩
    · have e1 : (hiI v == -1) = false := beq_eq_false_iff_ne.2 h1
      have hbt : b = false := by rw [← hb]; exact decide_eq_false (fun hh => by have := hf.2 hh; omega)
      subst hbt
      clear hf hb h0 h1 h
      go_enter Try.func38, Try.ntmps38
      go_wp2
      go_ret
      exact ⟨rfl, hbb⟩
end Go.Proofs.Ytinaecmpigenoaa
/-
  Layer 13: the reference's Tell at the kinds that need no sum.
-/
namespace Go.Proofs.Ytinaecmpigenoaa
open Go.RowKit
attribute [local go_sem ↓] Go.wp_at_zero Go.wp_at_succ

theorem Five.under {w w1 : World} {g B : Nat} {a b c d e : Value} (h : Five w g a b c d e) (hb : Below B w w1) (hg : g < B) : Five w1 g a b c d e := by
  obtain ⟨⟨r0, r1, r2, r3, r4⟩, f0, f1, f2, f3, f4⟩ := h
  exact ⟨⟨(hb.cell (p := ⟨g, 0, none⟩) hg).trans r0, (hb.cell (p := ⟨g, 1, none⟩) hg).trans r1, (hb.cell (p := ⟨g, 2, none⟩) hg).trans r2, (hb.cell (p := ⟨g, 3, none⟩) hg).trans r3, (hb.cell (p := ⟨g, 4, none⟩) hg).trans r4⟩,
    (hb.frozen (p := ⟨g, 0, none⟩) hg).trans f0, (hb.frozen (p := ⟨g, 1, none⟩) hg).trans f1, (hb.frozen (p := ⟨g, 2, none⟩) hg).trans f2, (hb.frozen (p := ⟨g, 3, none⟩) hg).trans f3, (hb.frozen (p := ⟨g, 4, none⟩) hg).trans f4⟩
theorem Five.other {w : World} {g g' k : Nat} {a b c d e : Value} (h : Five w g a b c d e) (hg : g' ≠ g) (x : Value) : Five (w.setCell ⟨g', k, none⟩ x) g a b c d e := by
  obtain ⟨⟨r0, r1, r2, r3, r4⟩, f0, f1, f2, f3, f4⟩ := h
  have hne : ∀ j, (⟨g', k, none⟩ : Addr) ≠ ⟨g, j, none⟩ := fun j e => hg (congrArg Addr.block e)
  exact ⟨⟨(World.cell?_setCell_other w _ _ x (hne 0)).trans r0, (World.cell?_setCell_other w _ _ x (hne 1)).trans r1, (World.cell?_setCell_other w _ _ x (hne 2)).trans r2, (World.cell?_setCell_other w _ _ x (hne 3)).trans r3, (World.cell?_setCell_other w _ _ x (hne 4)).trans r4⟩,
    (frozen_set w _ _ x).trans f0, (frozen_set w _ _ x).trans f1, (frozen_set w _ _ x).trans f2, (frozen_set w _ _ x).trans f3, (frozen_set w _ _ x).trans f4⟩
def set5 (w : World) (g : Nat) (a b c d e : Value) : World := ((((w.setCell ⟨g, 0, none⟩ a).setCell ⟨g, 1, none⟩ b).setCell ⟨g, 2, none⟩ c).setCell ⟨g, 3, none⟩ d).setCell ⟨g, 4, none⟩ e
theorem Five.off {w : World} {g g' : Nat} {a b c d e : Value} (h : Five w g a b c d e) (hg : g' ≠ g) (u0 u1 u2 u3 u4 : Value) : Five (set5 w g' u0 u1 u2 u3 u4) g a b c d e := ((((h.other hg u0).other hg u1).other hg u2).other hg u3).other hg u4
theorem Six.off {w : World} {g g' : Nat} {a b c d e f : Value} (h : Six w g a b c d e f) (hg : g' ≠ g) (u0 u1 u2 u3 u4 : Value) : Six (set5 w g' u0 u1 u2 u3 u4) g a b c d e f := ((((h.other hg u0).other hg u1).other hg u2).other hg u3).other hg u4
theorem Five.set {w : World} {g : Nat} {a b c d e : Value} (h : Five w g a b c d e) (u0 u1 u2 u3 u4 : Value) : Five (set5 w g u0 u1 u2 u3 u4) g u0 u1 u2 u3 u4 := by
  obtain ⟨⟨r0, r1, r2, r3, r4⟩, f0, f1, f2, f3, f4⟩ := h
  have far : ∀ (W : World) (i j : Nat) (x v : Value), i ≠ j → W.cell? ⟨g, j, none⟩ = some v → (W.setCell ⟨g, i, none⟩ x).cell? ⟨g, j, none⟩ = some v := fun W i j x v hij hv => (World.cell?_setCell_other W _ _ x (fun e => hij (congrArg Addr.off e))).trans hv
  refine ⟨⟨?_, ?_, ?_, ?_, ?_⟩, ?_, ?_, ?_, ?_, ?_⟩
  · exact far _ 4 0 _ _ (by omega) (far _ 3 0 _ _ (by omega) (far _ 2 0 _ _ (by omega) (far _ 1 0 _ _ (by omega) (cell_set r0 u0))))
  · exact far _ 4 1 _ _ (by omega) (far _ 3 1 _ _ (by omega) (far _ 2 1 _ _ (by omega) (cell_set (far _ 0 1 _ _ (by omega) r1) u1)))
  · exact far _ 4 2 _ _ (by omega) (far _ 3 2 _ _ (by omega) (cell_set (far _ 1 2 _ _ (by omega) (far _ 0 2 _ _ (by omega) r2)) u2))
  · exact far _ 4 3 _ _ (by omega) (cell_set (far _ 2 3 _ _ (by omega) (far _ 1 3 _ _ (by omega) (far _ 0 3 _ _ (by omega) r3))) u3)
  · exact cell_set (far _ 3 4 _ _ (by omega) (far _ 2 4 _ _ (by omega) (far _ 1 4 _ _ (by omega) (far _ 0 4 _ _ (by omega) r4)))) u4
  all_goals
    unfold set5
    rw [frozen_set, frozen_set, frozen_set, frozen_set, frozen_set]
    assumption
/-- The variables of the reference's Tell, when it begins. -/
def Vars4 (W : World) (w : World) (c i v le mo : Int) : Prop :=
  Six W w.heap.size (.int .i64 c) (.int .i64 i) (.int .i64 (hiI v)) (.int .u64 (loI v)) (.int .i64 le) (.int .i64 mo) ∧ Five W (w.heap.size + 1) (.int .i64 0) (.int .i64 0) (.string ⟨#[]⟩) (.slice none 0 0) (.slice none 0 0) ∧
  Five W (w.heap.size + 2) (.int .i64 1) (.int .i64 0) (.string ⟨#[]⟩) (.slice none 0 0) (.slice none 0 0) ∧ Five W (w.heap.size + 3) (.int .i64 1) (.int .i64 0) (.string ⟨#[]⟩) (.slice none 0 0) (.slice none 0 0) ∧ Below w.heap.size w W ∧ W.heap.size = w.heap.size + 4
theorem vars4 (w : World) (c i v le mo : Int) : Vars4 ((((w.alloc (.cells #[.int .i64 c, .int .i64 i, .int .i64 (hiI v), .int .u64 (loI v), .int .i64 le, .int .i64 mo] 24)).alloc (.cells #[.int .i64 0, .int .i64 0, .string ⟨#[]⟩, .slice none 0 0, .slice none 0 0] 42)).alloc (.cells #[.int .i64 1, .int .i64 0, .string ⟨#[]⟩, .slice none 0 0, .slice none 0 0] 42)).alloc (.cells #[.int .i64 1, .int .i64 0, .string ⟨#[]⟩, .slice none 0 0, .slice none 0 0] 42)) w c i v le mo :=
  ⟨(((Six.new _ _ _ _ _ _ _ _).alloc _).alloc _).alloc _, ((Five.new _ _ _ _ _ _ _ _ (by simp)).alloc _).alloc _, (Five.new _ _ _ _ _ _ _ _ (by simp)).alloc _, Five.new _ _ _ _ _ _ _ _ (by simp),
    ((((Below.refl _ _).alloc (Nat.le_refl _) _).alloc (by simp) _).alloc (by simp; omega) _).alloc (by simp; omega) _, by simp⟩

set_option maxRecDepth 20000 in
set_option maxHeartbeats 2000000 in
theorem refTell_1_none (c i v le mo : Int) (w : World) (hi : i = 0) :
    Calls Try.prog 20 #[.int .i64 1, .agg #[.int .i64 c, .int .i64 i, .int .i64 (hiI v), .int .u64 (loI v), .int .i64 le, .int .i64 mo]] w fun e w' => e = .returned (.tuple #[.agg #[.int .i64 3, .int .i64 c, .string ⟨#[]⟩, .slice none 0 0, .slice none 0 0], .bool true]) ∧ Below w.heap.size w w' := by
  obtain ⟨h6, h51, h52, h53, hb0, hsz⟩ := vars4 w c i v le mo
  obtain ⟨W1, hW1⟩ : ∃ W1, (((w.alloc (.cells #[.int .i64 c, .int .i64 i, .int .i64 (hiI v), .int .u64 (loI v), .int .i64 le, .int .i64 mo] 24)).alloc (.cells #[.int .i64 0, .int .i64 0, .string ⟨#[]⟩, .slice none 0 0, .slice none 0 0] 42)).alloc (.cells #[.int .i64 1, .int .i64 0, .string ⟨#[]⟩, .slice none 0 0, .slice none 0 0] 42)).alloc (.cells #[.int .i64 1, .int .i64 0, .string ⟨#[]⟩, .slice none 0 0, .slice none 0 0] 42) = W1 := ⟨_, rfl⟩
  rw [hW1] at h6 h51 h52 h53 hb0 hsz
  have hz1 : w.heap.size + 4 ≤ W1.heap.size := by omega
  have HW1 := Lib.hid hW1
  have H6 := Lib.hid h6
  have H51 := Lib.hid h51
  have H52 := Lib.hid h52
  have H53 := Lib.hid h53
  clear hW1 hsz
  have hd : decide (0 < i) = false := by rw [hi]; rfl
  clear hi
  obtain ⟨⟨r0, r1, r2, r3, r4, r5⟩, -⟩ := h6
  obtain ⟨⟨d0, d1, d2, d3, d4⟩, f0, f1, f2, f3, f4⟩ := h51
  obtain ⟨⟨m0, m1, m2, m3, m4⟩, -⟩ := h52
  obtain ⟨⟨n0, n1, n2, n3, n4⟩, -⟩ := h53
  go_enter Try.func20, Try.ntmps20
  go_upto_region 3 with fail
  rw [HW1.out]
  clear HW1
  go_wp2_with fail
  refine (in_any c _).mono ?_
  rintro e w1 ⟨rfl, hb1⟩
  have J1 := Lib.hid (H51.out.below hb1 rfl)
  have hb2 := hb0.trans (hb1.mono hb0.size)
  clear r0 r1 r2 r3 r4 r5 d0 d1 d2 d3 d4 f0 f1 f2 f3 f4 m0 m1 m2 m3 m4 n0 n1 n2 n3 n4 H6 H51 H52 H53 hb1
  obtain ⟨⟨d0, d1, d2, d3, d4⟩, f0, f1, f2, f3, f4⟩ := J1.out
  go_wp2
  refine bodyPost_ret (v := .tuple #[.agg #[.int .i64 3, .int .i64 c, .string ⟨#[]⟩, .slice none 0 0, .slice none 0 0], .bool true]) ?_ rfl ⟨rfl, below_set5 hb2 (Nat.le_succ _)⟩
  simp [results, Try.results20, go_sem, *]
set_option maxRecDepth 20000 in
set_option maxHeartbeats 2000000 in
theorem refTell_1_some (c i v le mo : Int) (w : World) (hi : 0 < i) :
    Calls Try.prog 20 #[.int .i64 1, .agg #[.int .i64 c, .int .i64 i, .int .i64 (hiI v), .int .u64 (loI v), .int .i64 le, .int .i64 mo]] w fun e w' => e = .returned (.tuple #[.agg #[.int .i64 3, .int .i64 c, .string ⟨#[]⟩, .slice none 0 0, .slice none 0 0], .bool true]) ∧ Below w.heap.size w w' := by
  obtain ⟨h6, h51, h52, h53, hb0, hsz⟩ := vars4 w c i v le mo
  obtain ⟨W1, hW1⟩ : ∃ W1, (((w.alloc (.cells #[.int .i64 c, .int .i64 i, .int .i64 (hiI v), .int .u64 (loI v), .int .i64 le, .int .i64 mo] 24)).alloc (.cells #[.int .i64 0, .int .i64 0, .string ⟨#[]⟩, .slice none 0 0, .slice none 0 0] 42)).alloc (.cells #[.int .i64 1, .int .i64 0, .string ⟨#[]⟩, .slice none 0 0, .slice none 0 0] 42)).alloc (.cells #[.int .i64 1, .int .i64 0, .string ⟨#[]⟩, .slice none 0 0, .slice none 0 0] 42) = W1 := ⟨_, rfl⟩
  rw [hW1] at h6 h51 h52 h53 hb0 hsz
  have hz1 : w.heap.size + 4 ≤ W1.heap.size := by omega
  have HW1 := Lib.hid hW1
  have H6 := Lib.hid h6
  have H51 := Lib.hid h51
  have H52 := Lib.hid h52
  have H53 := Lib.hid h53
  clear hW1 hsz
  have hd : decide (0 < i) = true := decide_eq_true hi
  obtain ⟨⟨r0, r1, r2, r3, r4, r5⟩, -⟩ := h6
  clear h51 h52 h53
  go_enter Try.func20, Try.ntmps20
  go_upto_region 3 with fail
  rw [HW1.out]
  clear HW1
  go_wp2_with fail
  refine (in_any le _).mono ?_
  rintro e w1 ⟨rfl, hb1⟩
  have J6 := Lib.hid (H6.out.below hb1 rfl)
  have J1 := Lib.hid (H51.out.below hb1 rfl)
  have J2 := Lib.hid (H52.out.below hb1 rfl)
  have J3 := Lib.hid (H53.out.below hb1 rfl)
  have hb2 := hb0.trans (hb1.mono hb0.size)
  have hz2 : w.heap.size + 4 ≤ w1.heap.size := by have := hb1.size; omega
  clear r0 r1 r2 r3 r4 r5 H6 H51 H52 H53 hb0 hb1 hz1
  obtain ⟨⟨d0, d1, d2, d3, d4⟩, f0, f1, f2, f3, f4⟩ := J2.out
  obtain ⟨⟨r0, r1, r2, r3, r4, r5⟩, -⟩ := J6.out
  go_upto_region 5 with fail
  obtain ⟨W2, hW2⟩ : ∃ W2, set5 w1 (w.heap.size + 2) (.int .i64 3) (.int .i64 le) (.string ⟨#[]⟩) (.slice none 0 0) (.slice none 0 0) = W2 := ⟨_, rfl⟩
  have K6 := Lib.hid (show Six W2 w.heap.size _ _ _ _ _ _ by rw [← hW2]; exact J6.out.off (by omega) _ _ _ _ _)
  have K1 := Lib.hid (show Five W2 (w.heap.size + 1) _ _ _ _ _ by rw [← hW2]; exact J1.out.off (by omega) _ _ _ _ _)
  have K2 := Lib.hid (show Five W2 (w.heap.size + 2) (.int .i64 3) (.int .i64 le) (.string ⟨#[]⟩) (.slice none 0 0) (.slice none 0 0) by rw [← hW2]; exact J2.out.set _ _ _ _ _)
  have K3 := Lib.hid (show Five W2 (w.heap.size + 3) _ _ _ _ _ by rw [← hW2]; exact J3.out.off (by omega) _ _ _ _ _)
  have hb3 : Below w.heap.size w W2 := by rw [← hW2]; exact below_set5 hb2 (by omega)
  have HW2 := Lib.hid hW2
  have hz3 : w.heap.size + 4 ≤ W2.heap.size := by rw [← hW2]; unfold set5; rw [set5_size]; exact hz2
  have hgoal := HW2.out
  unfold set5 at hgoal
  rw [hgoal]
  clear hgoal HW2 hW2 hb2 hz2 J6 J1 J2 J3 d0 d1 d2 d3 d4 f0 f1 f2 f3 f4 r0 r1 r2 r3 r4 r5
  obtain ⟨⟨r0, r1, r2, r3, r4, r5⟩, -⟩ := K6.out
  go_wp2_with fail
  refine (in_any mo _).mono ?_
  rintro e w2 ⟨rfl, hb4⟩
  have J6 := Lib.hid (K6.out.below hb4 rfl)
  have J1 := Lib.hid (K1.out.below hb4 rfl)
  have J2 := Lib.hid (K2.out.below hb4 rfl)
  have J3 := Lib.hid (K3.out.below hb4 rfl)
  have hb5 := hb3.trans (hb4.mono hb3.size)
  have hz4 : w.heap.size + 4 ≤ w2.heap.size := by have := hb4.size; omega
  clear r0 r1 r2 r3 r4 r5 K6 K1 K2 K3 hb3 hb4 hz3
  obtain ⟨⟨d0, d1, d2, d3, d4⟩, f0, f1, f2, f3, f4⟩ := J3.out
  go_upto_region 6 with fail
  obtain ⟨W4, hW4⟩ : ∃ W4, set5 w2 (w.heap.size + 3) (.int .i64 3) (.int .i64 mo) (.string ⟨#[]⟩) (.slice none 0 0) (.slice none 0 0) = W4 := ⟨_, rfl⟩
  have K6 := Lib.hid (show Six W4 w.heap.size _ _ _ _ _ _ by rw [← hW4]; exact J6.out.off (by omega) _ _ _ _ _)
  have K1 := Lib.hid (show Five W4 (w.heap.size + 1) _ _ _ _ _ by rw [← hW4]; exact J1.out.off (by omega) _ _ _ _ _)
  have K2 := Lib.hid (show Five W4 (w.heap.size + 2) _ _ _ _ _ by rw [← hW4]; exact J2.out.off (by omega) _ _ _ _ _)
  have K3 := Lib.hid (show Five W4 (w.heap.size + 3) (.int .i64 3) (.int .i64 mo) (.string ⟨#[]⟩) (.slice none 0 0) (.slice none 0 0) by rw [← hW4]; exact J3.out.set _ _ _ _ _)
  have hb6 : Below w.heap.size w W4 := by rw [← hW4]; exact below_set5 hb5 (by omega)
  have HW4 := Lib.hid hW4
  have hgoal := HW4.out
  unfold set5 at hgoal
  rw [hgoal]
  clear hgoal HW4 hW4 hb5 hz4 J6 J1 J2 J3 d0 d1 d2 d3 d4 f0 f1 f2 f3 f4
  obtain ⟨⟨r0, r1, r2, r3, r4, r5⟩, -⟩ := K6.out
  obtain ⟨⟨d0, d1, d2, d3, d4⟩, f0, f1, f2, f3, f4⟩ := K1.out
  obtain ⟨⟨m0, m1, m2, m3, m4⟩, -⟩ := K2.out
  obtain ⟨⟨n0, n1, n2, n3, n4⟩, -⟩ := K3.out
  go_wp2_with fail
  refine (in_any c _).mono ?_
  rintro e w1 ⟨rfl, hb1⟩
  have J1 := Lib.hid (K1.out.below hb1 rfl)
  have hb2 := hb6.trans (hb1.mono hb6.size)
  clear r0 r1 r2 r3 r4 r5 d0 d1 d2 d3 d4 f0 f1 f2 f3 f4 m0 m1 m2 m3 m4 n0 n1 n2 n3 n4 K6 K1 K2 K3 hb1
  obtain ⟨⟨d0, d1, d2, d3, d4⟩, f0, f1, f2, f3, f4⟩ := J1.out
  go_wp2
  refine bodyPost_ret (v := .tuple #[.agg #[.int .i64 3, .int .i64 c, .string ⟨#[]⟩, .slice none 0 0, .slice none 0 0], .bool true]) ?_ rfl ⟨rfl, below_set5 hb2 (Nat.le_succ _)⟩
  simp [results, Try.results20, go_sem, *]
set_option maxRecDepth 20000 in
set_option maxHeartbeats 2000000 in
theorem refTell_3_none (c i v le mo : Int) (w : World) (hi : i = 0) :
    Calls Try.prog 20 #[.int .i64 3, .agg #[.int .i64 c, .int .i64 i, .int .i64 (hiI v), .int .u64 (loI v), .int .i64 le, .int .i64 mo]] w fun e w' => e = .returned (.tuple #[.agg #[.int .i64 1, .int .i64 0, .string ⟨#[]⟩, .slice none 0 0, .slice none 0 0], .bool true]) ∧ Below w.heap.size w w' := by
  obtain ⟨h6, h51, h52, h53, hb0, hsz⟩ := vars4 w c i v le mo
  obtain ⟨W1, hW1⟩ : ∃ W1, (((w.alloc (.cells #[.int .i64 c, .int .i64 i, .int .i64 (hiI v), .int .u64 (loI v), .int .i64 le, .int .i64 mo] 24)).alloc (.cells #[.int .i64 0, .int .i64 0, .string ⟨#[]⟩, .slice none 0 0, .slice none 0 0] 42)).alloc (.cells #[.int .i64 1, .int .i64 0, .string ⟨#[]⟩, .slice none 0 0, .slice none 0 0] 42)).alloc (.cells #[.int .i64 1, .int .i64 0, .string ⟨#[]⟩, .slice none 0 0, .slice none 0 0] 42) = W1 := ⟨_, rfl⟩
  rw [hW1] at h6 h51 h52 h53 hb0 hsz
  have hz1 : w.heap.size + 4 ≤ W1.heap.size := by omega
  have HW1 := Lib.hid hW1
  have H6 := Lib.hid h6
  have H51 := Lib.hid h51
  have H52 := Lib.hid h52
  have H53 := Lib.hid h53
  clear hW1 hsz
  have hd : decide (0 < i) = false := by rw [hi]; rfl
  clear hi
  obtain ⟨⟨r0, r1, r2, r3, r4, r5⟩, -⟩ := h6
  obtain ⟨⟨d0, d1, d2, d3, d4⟩, f0, f1, f2, f3, f4⟩ := h51
  obtain ⟨⟨m0, m1, m2, m3, m4⟩, -⟩ := h52
  obtain ⟨⟨n0, n1, n2, n3, n4⟩, -⟩ := h53
  go_enter Try.func20, Try.ntmps20
  go_upto_region 3 with fail
  rw [HW1.out]
  clear HW1
  go_wp2
  refine bodyPost_ret (v := .tuple #[.agg #[.int .i64 1, .int .i64 0, .string ⟨#[]⟩, .slice none 0 0, .slice none 0 0], .bool true]) ?_ rfl ⟨rfl, below_set5 hb0 (Nat.le_succ _)⟩
  simp [results, Try.results20, go_sem, *]
set_option maxRecDepth 20000 in
set_option maxHeartbeats 2000000 in
theorem refTell_3_some (c i v le mo : Int) (w : World) (hi : 0 < i) :
    Calls Try.prog 20 #[.int .i64 3, .agg #[.int .i64 c, .int .i64 i, .int .i64 (hiI v), .int .u64 (loI v), .int .i64 le, .int .i64 mo]] w fun e w' => e = .returned (.tuple #[.agg #[.int .i64 3, .int .i64 le, .string ⟨#[]⟩, .slice none 0 0, .slice none 0 0], .bool true]) ∧ Below w.heap.size w w' := by
  obtain ⟨h6, h51, h52, h53, hb0, hsz⟩ := vars4 w c i v le mo
  obtain ⟨W1, hW1⟩ : ∃ W1, (((w.alloc (.cells #[.int .i64 c, .int .i64 i, .int .i64 (hiI v), .int .u64 (loI v), .int .i64 le, .int .i64 mo] 24)).alloc (.cells #[.int .i64 0, .int .i64 0, .string ⟨#[]⟩, .slice none 0 0, .slice none 0 0] 42)).alloc (.cells #[.int .i64 1, .int .i64 0, .string ⟨#[]⟩, .slice none 0 0, .slice none 0 0] 42)).alloc (.cells #[.int .i64 1, .int .i64 0, .string ⟨#[]⟩, .slice none 0 0, .slice none 0 0] 42) = W1 := ⟨_, rfl⟩
  rw [hW1] at h6 h51 h52 h53 hb0 hsz
  have hz1 : w.heap.size + 4 ≤ W1.heap.size := by omega
  have HW1 := Lib.hid hW1
  have H6 := Lib.hid h6
  have H51 := Lib.hid h51
  have H52 := Lib.hid h52
  have H53 := Lib.hid h53
  clear hW1 hsz
  have hd : decide (0 < i) = true := decide_eq_true hi
  obtain ⟨⟨r0, r1, r2, r3, r4, r5⟩, -⟩ := h6
  clear h51 h52 h53
  go_enter Try.func20, Try.ntmps20
  go_upto_region 3 with fail
  rw [HW1.out]
  clear HW1
  go_wp2_with fail
  refine (in_any le _).mono ?_
  rintro e w1 ⟨rfl, hb1⟩
  have J6 := Lib.hid (H6.out.below hb1 rfl)
  have J1 := Lib.hid (H51.out.below hb1 rfl)
  have J2 := Lib.hid (H52.out.below hb1 rfl)
  have J3 := Lib.hid (H53.out.below hb1 rfl)
  have hb2 := hb0.trans (hb1.mono hb0.size)
  have hz2 : w.heap.size + 4 ≤ w1.heap.size := by have := hb1.size; omega
  clear r0 r1 r2 r3 r4 r5 H6 H51 H52 H53 hb0 hb1 hz1
  obtain ⟨⟨d0, d1, d2, d3, d4⟩, f0, f1, f2, f3, f4⟩ := J2.out
  obtain ⟨⟨r0, r1, r2, r3, r4, r5⟩, -⟩ := J6.out
  go_upto_region 5 with fail
  obtain ⟨W2, hW2⟩ : ∃ W2, set5 w1 (w.heap.size + 2) (.int .i64 3) (.int .i64 le) (.string ⟨#[]⟩) (.slice none 0 0) (.slice none 0 0) = W2 := ⟨_, rfl⟩
  have K6 := Lib.hid (show Six W2 w.heap.size _ _ _ _ _ _ by rw [← hW2]; exact J6.out.off (by omega) _ _ _ _ _)
  have K1 := Lib.hid (show Five W2 (w.heap.size + 1) _ _ _ _ _ by rw [← hW2]; exact J1.out.off (by omega) _ _ _ _ _)
  have K2 := Lib.hid (show Five W2 (w.heap.size + 2) (.int .i64 3) (.int .i64 le) (.string ⟨#[]⟩) (.slice none 0 0) (.slice none 0 0) by rw [← hW2]; exact J2.out.set _ _ _ _ _)
  have K3 := Lib.hid (show Five W2 (w.heap.size + 3) _ _ _ _ _ by rw [← hW2]; exact J3.out.off (by omega) _ _ _ _ _)
  have hb3 : Below w.heap.size w W2 := by rw [← hW2]; exact below_set5 hb2 (by omega)
  have HW2 := Lib.hid hW2
  have hz3 : w.heap.size + 4 ≤ W2.heap.size := by rw [← hW2]; unfold set5; rw [set5_size]; exact hz2
  have hgoal := HW2.out
  unfold set5 at hgoal
  rw [hgoal]
  clear hgoal HW2 hW2 hb2 hz2 J6 J1 J2 J3 d0 d1 d2 d3 d4 f0 f1 f2 f3 f4 r0 r1 r2 r3 r4 r5
  obtain ⟨⟨r0, r1, r2, r3, r4, r5⟩, -⟩ := K6.out
  go_wp2_with fail
  refine (in_any mo _).mono ?_
  rintro e w2 ⟨rfl, hb4⟩
  have J6 := Lib.hid (K6.out.below hb4 rfl)
  have J1 := Lib.hid (K1.out.below hb4 rfl)
  have J2 := Lib.hid (K2.out.below hb4 rfl)
  have J3 := Lib.hid (K3.out.below hb4 rfl)
  have hb5 := hb3.trans (hb4.mono hb3.size)
  have hz4 : w.heap.size + 4 ≤ w2.heap.size := by have := hb4.size; omega
  clear r0 r1 r2 r3 r4 r5 K6 K1 K2 K3 hb3 hb4 hz3
  obtain ⟨⟨d0, d1, d2, d3, d4⟩, f0, f1, f2, f3, f4⟩ := J3.out
  go_upto_region 6 with fail
  obtain ⟨W4, hW4⟩ : ∃ W4, set5 w2 (w.heap.size + 3) (.int .i64 3) (.int .i64 mo) (.string ⟨#[]⟩) (.slice none 0 0) (.slice none 0 0) = W4 := ⟨_, rfl⟩
  have K6 := Lib.hid (show Six W4 w.heap.size _ _ _ _ _ _ by rw [← hW4]; exact J6.out.off (by omega) _ _ _ _ _)
  have K1 := Lib.hid (show Five W4 (w.heap.size + 1) _ _ _ _ _ by rw [← hW4]; exact J1.out.off (by omega) _ _ _ _ _)
  have K2 := Lib.hid (show Five W4 (w.heap.size + 2) _ _ _ _ _ by rw [← hW4]; exact J2.out.off (by omega) _ _ _ _ _)
  have K3 := Lib.hid (show Five W4 (w.heap.size + 3) (.int .i64 3) (.int .i64 mo) (.string ⟨#[]⟩) (.slice none 0 0) (.slice none 0 0) by rw [← hW4]; exact J3.out.set _ _ _ _ _)
  have hb6 : Below w.heap.size w W4 := by rw [← hW4]; exact below_set5 hb5 (by omega)
  have HW4 := Lib.hid hW4
  have hgoal := HW4.out
  unfold set5 at hgoal
  rw [hgoal]
  clear hgoal HW4 hW4 hb5 hz4 J6 J1 J2 J3 d0 d1 d2 d3 d4 f0 f1 f2 f3 f4
  obtain ⟨⟨r0, r1, r2, r3, r4, r5⟩, -⟩ := K6.out
  obtain ⟨⟨d0, d1, d2, d3, d4⟩, f0, f1, f2, f3, f4⟩ := K1.out
  obtain ⟨⟨m0, m1, m2, m3, m4⟩, -⟩ := K2.out
  obtain ⟨⟨n0, n1, n2, n3, n4⟩, -⟩ := K3.out
  go_wp2
  refine bodyPost_ret (v := .tuple #[.agg #[.int .i64 3, .int .i64 le, .string ⟨#[]⟩, .slice none 0 0, .slice none 0 0], .bool true]) ?_ rfl ⟨rfl, below_set5 hb6 (Nat.le_succ _)⟩
  simp [results, Try.results20, go_sem, *]
set_option maxRecDepth 20000 in
set_option maxHeartbeats 2000000 in
theorem refTell_4_none (c i v le mo : Int) (w : World) (hi : i = 0) :
    Calls Try.prog 20 #[.int .i64 4, .agg #[.int .i64 c, .int .i64 i, .int .i64 (hiI v), .int .u64 (loI v), .int .i64 le, .int .i64 mo]] w fun e w' => e = .returned (.tuple #[.agg #[.int .i64 1, .int .i64 0, .string ⟨#[]⟩, .slice none 0 0, .slice none 0 0], .bool true]) ∧ Below w.heap.size w w' := by
  obtain ⟨h6, h51, h52, h53, hb0, hsz⟩ := vars4 w c i v le mo
  obtain ⟨W1, hW1⟩ : ∃ W1, (((w.alloc (.cells #[.int .i64 c, .int .i64 i, .int .i64 (hiI v), .int .u64 (loI v), .int .i64 le, .int .i64 mo] 24)).alloc (.cells #[.int .i64 0, .int .i64 0, .string ⟨#[]⟩, .slice none 0 0, .slice none 0 0] 42)).alloc (.cells #[.int .i64 1, .int .i64 0, .string ⟨#[]⟩, .slice none 0 0, .slice none 0 0] 42)).alloc (.cells #[.int .i64 1, .int .i64 0, .string ⟨#[]⟩, .slice none 0 0, .slice none 0 0] 42) = W1 := ⟨_, rfl⟩
  rw [hW1] at h6 h51 h52 h53 hb0 hsz
  have hz1 : w.heap.size + 4 ≤ W1.heap.size := by omega
  have HW1 := Lib.hid hW1
  have H6 := Lib.hid h6
  have H51 := Lib.hid h51
  have H52 := Lib.hid h52
  have H53 := Lib.hid h53
  clear hW1 hsz
  have hd : decide (0 < i) = false := by rw [hi]; rfl
  clear hi
  obtain ⟨⟨r0, r1, r2, r3, r4, r5⟩, -⟩ := h6
  obtain ⟨⟨d0, d1, d2, d3, d4⟩, f0, f1, f2, f3, f4⟩ := h51
  obtain ⟨⟨m0, m1, m2, m3, m4⟩, -⟩ := h52
  obtain ⟨⟨n0, n1, n2, n3, n4⟩, -⟩ := h53
  go_enter Try.func20, Try.ntmps20
  go_upto_region 3 with fail
  rw [HW1.out]
  clear HW1
  go_wp2
  refine bodyPost_ret (v := .tuple #[.agg #[.int .i64 1, .int .i64 0, .string ⟨#[]⟩, .slice none 0 0, .slice none 0 0], .bool true]) ?_ rfl ⟨rfl, below_set5 hb0 (Nat.le_succ _)⟩
  simp [results, Try.results20, go_sem, *]
set_option maxRecDepth 20000 in
set_option maxHeartbeats 2000000 in
theorem refTell_4_some (c i v le mo : Int) (w : World) (hi : 0 < i) :
    Calls Try.prog 20 #[.int .i64 4, .agg #[.int .i64 c, .int .i64 i, .int .i64 (hiI v), .int .u64 (loI v), .int .i64 le, .int .i64 mo]] w fun e w' => e = .returned (.tuple #[.agg #[.int .i64 3, .int .i64 mo, .string ⟨#[]⟩, .slice none 0 0, .slice none 0 0], .bool true]) ∧ Below w.heap.size w w' := by
  obtain ⟨h6, h51, h52, h53, hb0, hsz⟩ := vars4 w c i v le mo
  obtain ⟨W1, hW1⟩ : ∃ W1, (((w.alloc (.cells #[.int .i64 c, .int .i64 i, .int .i64 (hiI v), .int .u64 (loI v), .int .i64 le, .int .i64 mo] 24)).alloc (.cells #[.int .i64 0, .int .i64 0, .string ⟨#[]⟩, .slice none 0 0, .slice none 0 0] 42)).alloc (.cells #[.int .i64 1, .int .i64 0, .string ⟨#[]⟩, .slice none 0 0, .slice none 0 0] 42)).alloc (.cells #[.int .i64 1, .int .i64 0, .string ⟨#[]⟩, .slice none 0 0, .slice none 0 0] 42) = W1 := ⟨_, rfl⟩
  rw [hW1] at h6 h51 h52 h53 hb0 hsz
  have hz1 : w.heap.size + 4 ≤ W1.heap.size := by omega
  have HW1 := Lib.hid hW1
  have H6 := Lib.hid h6
  have H51 := Lib.hid h51
  have H52 := Lib.hid h52
  have H53 := Lib.hid h53
  clear hW1 hsz
  have hd : decide (0 < i) = true := decide_eq_true hi
  obtain ⟨⟨r0, r1, r2, r3, r4, r5⟩, -⟩ := h6
  clear h51 h52 h53
  go_enter Try.func20, Try.ntmps20
  go_upto_region 3 with fail
  rw [HW1.out]
  clear HW1
  go_wp2_with fail
  refine (in_any le _).mono ?_
  rintro e w1 ⟨rfl, hb1⟩
  have J6 := Lib.hid (H6.out.below hb1 rfl)
  have J1 := Lib.hid (H51.out.below hb1 rfl)
  have J2 := Lib.hid (H52.out.below hb1 rfl)
  have J3 := Lib.hid (H53.out.below hb1 rfl)
  have hb2 := hb0.trans (hb1.mono hb0.size)
  have hz2 : w.heap.size + 4 ≤ w1.heap.size := by have := hb1.size; omega
  clear r0 r1 r2 r3 r4 r5 H6 H51 H52 H53 hb0 hb1 hz1
  obtain ⟨⟨d0, d1, d2, d3, d4⟩, f0, f1, f2, f3, f4⟩ := J2.out
  obtain ⟨⟨r0, r1, r2, r3, r4, r5⟩, -⟩ := J6.out
  go_upto_region 5 with fail
  obtain ⟨W2, hW2⟩ : ∃ W2, set5 w1 (w.heap.size + 2) (.int .i64 3) (.int .i64 le) (.string ⟨#[]⟩) (.slice none 0 0) (.slice none 0 0) = W2 := ⟨_, rfl⟩
  have K6 := Lib.hid (show Six W2 w.heap.size _ _ _ _ _ _ by rw [← hW2]; exact J6.out.off (by omega) _ _ _ _ _)
  have K1 := Lib.hid (show Five W2 (w.heap.size + 1) _ _ _ _ _ by rw [← hW2]; exact J1.out.off (by omega) _ _ _ _ _)
  have K2 := Lib.hid (show Five W2 (w.heap.size + 2) (.int .i64 3) (.int .i64 le) (.string ⟨#[]⟩) (.slice none 0 0) (.slice none 0 0) by rw [← hW2]; exact J2.out.set _ _ _ _ _)
  have K3 := Lib.hid (show Five W2 (w.heap.size + 3) _ _ _ _ _ by rw [← hW2]; exact J3.out.off (by omega) _ _ _ _ _)
  have hb3 : Below w.heap.size w W2 := by rw [← hW2]; exact below_set5 hb2 (by omega)
  have HW2 := Lib.hid hW2
  have hz3 : w.heap.size + 4 ≤ W2.heap.size := by rw [← hW2]; unfold set5; rw [set5_size]; exact hz2
  have hgoal := HW2.out
  unfold set5 at hgoal
  rw [hgoal]
  clear hgoal HW2 hW2 hb2 hz2 J6 J1 J2 J3 d0 d1 d2 d3 d4 f0 f1 f2 f3 f4 r0 r1 r2 r3 r4 r5
  obtain ⟨⟨r0, r1, r2, r3, r4, r5⟩, -⟩ := K6.out
  go_wp2_with fail
  refine (in_any mo _).mono ?_
  rintro e w2 ⟨rfl, hb4⟩
  have J6 := Lib.hid (K6.out.below hb4 rfl)
  have J1 := Lib.hid (K1.out.below hb4 rfl)
  have J2 := Lib.hid (K2.out.below hb4 rfl)
  have J3 := Lib.hid (K3.out.below hb4 rfl)
  have hb5 := hb3.trans (hb4.mono hb3.size)
  have hz4 : w.heap.size + 4 ≤ w2.heap.size := by have := hb4.size; omega
  clear r0 r1 r2 r3 r4 r5 K6 K1 K2 K3 hb3 hb4 hz3
  obtain ⟨⟨d0, d1, d2, d3, d4⟩, f0, f1, f2, f3, f4⟩ := J3.out
  go_upto_region 6 with fail
  obtain ⟨W4, hW4⟩ : ∃ W4, set5 w2 (w.heap.size + 3) (.int .i64 3) (.int .i64 mo) (.string ⟨#[]⟩) (.slice none 0 0) (.slice none 0 0) = W4 := ⟨_, rfl⟩
  have K6 := Lib.hid (show Six W4 w.heap.size _ _ _ _ _ _ by rw [← hW4]; exact J6.out.off (by omega) _ _ _ _ _)
  have K1 := Lib.hid (show Five W4 (w.heap.size + 1) _ _ _ _ _ by rw [← hW4]; exact J1.out.off (by omega) _ _ _ _ _)
  have K2 := Lib.hid (show Five W4 (w.heap.size + 2) _ _ _ _ _ by rw [← hW4]; exact J2.out.off (by omega) _ _ _ _ _)
  have K3 := Lib.hid (show Five W4 (w.heap.size + 3) (.int .i64 3) (.int .i64 mo) (.string ⟨#[]⟩) (.slice none 0 0) (.slice none 0 0) by rw [← hW4]; exact J3.out.set _ _ _ _ _)
  have hb6 : Below w.heap.size w W4 := by rw [← hW4]; exact below_set5 hb5 (by omega)
  have HW4 := Lib.hid hW4
  have hgoal := HW4.out
  unfold set5 at hgoal
  rw [hgoal]
  clear hgoal HW4 hW4 hb5 hz4 J6 J1 J2 J3 d0 d1 d2 d3 d4 f0 f1 f2 f3 f4
  obtain ⟨⟨r0, r1, r2, r3, r4, r5⟩, -⟩ := K6.out
  obtain ⟨⟨d0, d1, d2, d3, d4⟩, f0, f1, f2, f3, f4⟩ := K1.out
  obtain ⟨⟨m0, m1, m2, m3, m4⟩, -⟩ := K2.out
  obtain ⟨⟨n0, n1, n2, n3, n4⟩, -⟩ := K3.out
  go_wp2
  refine bodyPost_ret (v := .tuple #[.agg #[.int .i64 3, .int .i64 mo, .string ⟨#[]⟩, .slice none 0 0, .slice none 0 0], .bool true]) ?_ rfl ⟨rfl, below_set5 hb6 (Nat.le_succ _)⟩
  simp [results, Try.results20, go_sem, *]
end Go.Proofs.Ytinaecmpigenoaa
