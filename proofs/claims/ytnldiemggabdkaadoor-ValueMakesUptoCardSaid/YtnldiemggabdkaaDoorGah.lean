import Derived.Test.YtnldiemggabdkaaDoorGag
import Derived.Deep.RegionHeld3
import Derived.ArgAppend
import Derived.Test.YtnldiemggabdkaaDoorGaa
import Derived.Test.YtnldiemggabdkaaDoorSrt
import Derived.Shelf.SlSortCmp.NoneTotal
/-
  Layer 4: reaches; sums over kids (for ValueHolds).
-/
namespace Go.Proofs.YtnldiemggabdkaaDoor
open Go.RowKit
set_option linter.unusedVariables false

theorem sameR_self (T : VT) (h : T.ok = true) : sameR T T = true := by
  unfold sameR
  rw [h, (sameV_iff T T).2 rfl]
  rfl
set_option maxRecDepth 20000 in
set_option maxHeartbeats 2000000 in
theorem reaches_yes (T K : VT) (x : ByteArray) (B : Nat) (w : World) (hL : Lie w B T) (hK : Lie w B K) (hB : B ≤ w.heap.size) (hok : T.ok = true) (hKok : K.ok = true) (hget : T.get x = some K) (htab : UTab w) (hst : STab w) :
    Calls Tryd.prog 36 #[T.agg, .string x, K.agg] w fun e w' => e = .returned (.bool true) ∧ Below w.heap.size w w' := by
  have HG := Lib.hid (fun W (h : Below w.heap.size w W) => get_any B W T x (hL.later (h.mono hB)) (Nat.le_trans hB h.size) (htab.below h htab.lt) (hst.below h hst.lt))
  have HP := Lib.hid (fun A c b2 W (h : Below w.heap.size w W) h1 h2 => path_any B W T A 1 c [x] b2 (hL.later (h.mono hB)) (Nat.le_trans hB h.size) h1 h2 (by decide) (htab.below h htab.lt) (hst.below h hst.lt))
  have HS := Lib.hid (fun W (h : Below w.heap.size w W) => same_any B W K K (hK.later (h.mono hB)) (hK.later (h.mono hB)) (Nat.le_trans hB h.size) (htab.below h htab.lt) (hst.below h hst.lt))
  simp only [path_one, if_pos hok, hget, sameR_self K hKok] at HG HP HS
  obtain ⟨k, n, s, cA, cn, cc, kA, kn, kc, keys, kids⟩ := T
  obtain ⟨k', n', s', cA', cn', cc', kA', kn', kc', keys', kids'⟩ := K
  simp only [memR, VT.agg] at HG HP HS ⊢
  have hb := bel_alloc (bel_alloc (Below.refl w.heap.size w) (.cells #[.int .i64 k, .int .i64 n, .string s, .slice cA cn cc, .slice kA kn kc] 25)) (.cells #[.int .i64 k', .int .i64 n', .string s', .slice cA' cn' cc', .slice kA' kn' kc'] 25)
  have Hv := Lib.hid ((VFive.new w (.int .i64 k) (.int .i64 n) (.string s) (.slice cA cn cc) (.slice kA kn kc) 25 w.heap.size rfl).alloc (.cells #[.int .i64 k', .int .i64 n', .string s', .slice cA' cn' cc', .slice kA' kn' kc'] 25))
  have Hk := Lib.hid (VFive.new (w.alloc (.cells #[.int .i64 k, .int .i64 n, .string s, .slice cA cn cc, .slice kA kn kc] 25)) (.int .i64 k') (.int .i64 n') (.string s') (.slice cA' cn' cc') (.slice kA' kn' kc') 25 (w.heap.size + 1) (World.size_alloc _ _))
  clear hL hK hget hok hKok htab hst
  go_enter Tryd.func36, Tryd.ntmps36
  go_wp2_with fail
  refine (HG.out _ hb).mono ?_
  rintro e w1 ⟨rfl, hb1⟩
  have hb2 := bel_alloc (bel_next hb hb1) (.cells #[.int .i64 k', .int .i64 n', .string s', .slice cA' cn' cc', .slice kA' kn' kc'] 25)
  have Hv2 := Lib.hid ((Hv.out.later hb1).alloc (.cells #[.int .i64 k', .int .i64 n', .string s', .slice cA' cn' cc', .slice kA' kn' kc'] 25))
  have Hk2 := Lib.hid ((Hk.out.later hb1).alloc (.cells #[.int .i64 k', .int .i64 n', .string s', .slice cA' cn' cc', .slice kA' kn' kc'] 25))
  have Hx2 := Lib.hid (VFive.new w1 (.int .i64 k') (.int .i64 n') (.string s') (.slice cA' cn' cc') (.slice kA' kn' kc') 25 w1.heap.size rfl)
  obtain ⟨⟨v0, v1, v2, v3, v4⟩, -⟩ := Hv2.out
  have hb3 := bel_alloc hb2 (.cells #[.string x] 9)
  have hnew := shows_new (w1.alloc (.cells #[.int .i64 k', .int .i64 n', .string s', .slice cA' cn' cc', .slice kA' kn' kc'] 25)) #[.string x] 9 (w1.heap.size + 1) 1 1 (World.size_alloc _ _) rfl
  go_wp2_with fail
  refine (HP.out (some ⟨w1.heap.size + 1, 0, none⟩) 1 (w1.heap.size + 1 + 1) _ hb3 hnew (by simp)).mono ?_
  rintro e w2 ⟨rfl, hb4⟩
  have hb5 := bel_alloc (bel_next hb3 hb4) (.cells #[.int .i64 k', .int .i64 n', .string s', .slice cA' cn' cc', .slice kA' kn' kc'] 25)
  have Hk5 := Lib.hid ((((Hk2.out.alloc (.cells #[.string x] 9)).later hb4).alloc (.cells #[.int .i64 k', .int .i64 n', .string s', .slice cA' cn' cc', .slice kA' kn' kc'] 25)))
  have Hx5 := Lib.hid ((((Hx2.out.alloc (.cells #[.string x] 9)).later hb4).alloc (.cells #[.int .i64 k', .int .i64 n', .string s', .slice cA' cn' cc', .slice kA' kn' kc'] 25)))
  have Hy5 := Lib.hid (VFive.new w2 (.int .i64 k') (.int .i64 n') (.string s') (.slice cA' cn' cc') (.slice kA' kn' kc') 25 w2.heap.size rfl)
  clear v0 v1 v2 v3 v4 hnew Hv2 Hk2 Hx2 hb1 hb2 hb3 hb4 Hv Hk HG HP hb
  obtain ⟨⟨k0, k1, k2, k3, k4⟩, -⟩ := Hk5.out
  obtain ⟨⟨x0, x1, x2, x3, x4⟩, -⟩ := Hx5.out
  go_wp2_with fail
  refine (HS.out _ hb5).mono ?_
  rintro e w3 ⟨rfl, hb6⟩
  have hb7 := bel_next hb5 hb6
  have Hk7 := Lib.hid (Hk5.out.later hb6)
  have Hy7 := Lib.hid (Hy5.out.later hb6)
  clear k0 k1 k2 k3 k4 x0 x1 x2 x3 x4 Hk5 Hx5 Hy5 hb5 hb6
  obtain ⟨⟨k0, k1, k2, k3, k4⟩, -⟩ := Hk7.out
  obtain ⟨⟨x0, x1, x2, x3, x4⟩, -⟩ := Hy7.out
  go_wp2_with fail
  refine (HS.out _ hb7).mono ?_
  rintro e w4 ⟨rfl, hb8⟩
  go_wp2
  go_ret
  exact ⟨rfl, bel_next hb7 hb8⟩

theorem dep_take {l : List VT} {j : Nat} {x : VT} (h : l[j]? = some x) : maxL ((l.take (j + 1)).map VT.dep) = max (maxL ((l.take j).map VT.dep)) x.dep := by
  rw [List.take_add_one, h, List.map_append, maxL_append]
  simp [maxL]
theorem cnt_take {l : List VT} {j : Nat} {x : VT} (h : l[j]? = some x) : 1 + ((l.take (j + 1)).map VT.cnt).sum = (1 + ((l.take j).map VT.cnt).sum) + x.cnt := by
  rw [List.take_add_one, h, List.map_append, List.sum_append]
  simp; omega
theorem ok_bounds {T : VT} (h : T.ok = true) : T.dep ≤ 8 ∧ T.cnt ≤ 256 := by
  unfold VT.ok at h
  simp only [Bool.and_eq_true, decide_eq_true_eq] at h
  exact ⟨h.1, h.2.1⟩
theorem dep_pre {l : List VT} (j : Nat) (h : ∀ x ∈ l, x.dep ≤ 8) : maxL ((l.take j).map VT.dep) ≤ 8 := by
  have : ∀ m : List VT, (∀ x ∈ m, x.dep ≤ 8) → maxL (m.map VT.dep) ≤ 8 := by
    intro m
    induction m with
    | nil => intro _; simp [maxL]
    | cons x m ih =>
      intro h
      rw [List.map_cons, maxL_cons]
      have := h x (by simp)
      have := ih fun y hy => h y (by simp [hy])
      omega
  exact this _ fun x hx => h x (List.mem_of_mem_take hx)
theorem cnt_pre (l : List VT) (j : Nat) : ((l.take j).map VT.cnt).sum ≤ (l.map VT.cnt).sum := by
  conv => rhs; rw [← List.take_append_drop j l, List.map_append, List.sum_append]
  omega
end Go.Proofs.YtnldiemggabdkaaDoor
/-
  A region that draws its order, walked by hand, operation by operation: taken first (wanted, or passed over), or carried out; steps that hand on an unnamed world with what it holds. No program in sight.
-/
namespace Go.Proofs.YtnldiemggabdkaaDoor
open Go.RowKit
set_option linter.unusedVariables false

section
variable {P : Program} {l : List Oper} {Q : Exit → Act → World → Prop} {S : World → Prop}

/-- Operation i is wanted, and yields in every world that meets S: it is taken first. -/
theorem rg_in (i : Nat) {oi : Oper} {v : Value} {fuel : Nat} {listed : Array Bool} {a : Act} {w : World} (hi : l[i]? = some oi)
    (hs : Region.noSelect l.toArray = true) (hf : Region.free .any l.toArray listed i = true) (hr : (Region.ready .any l.toArray listed).contains i = true)
    (hw : Region.wanted oi (yielded l.toArray a.tmps) = true) (hQ : ∀ c a w, Q (.panic c) (a.put oi.dst v) w → Q (.panic c) a w) (hS : S w) (hv : ∀ w, S w → (execOp a.eval oi).run P w = .ok (.value v) w)
    (h : wpAnyH P .any l.toArray Q S fuel (listed.setIfInBounds i true) (a.put oi.dst v) w) : wpAnyH P .any l.toArray Q S (fuel + 1) listed a w :=
  wpAnyH_take (by rw [List.getElem?_toArray]; exact hi) hs hf hr hQ (.inl ⟨hw, hv⟩) hS h
/-- Operation i is not wanted: it is passed over. -/
theorem rg_off (i : Nat) {oi : Oper} {fuel : Nat} {listed : Array Bool} {a : Act} {w : World} (hi : l[i]? = some oi)
    (hs : Region.noSelect l.toArray = true) (hf : Region.free .any l.toArray listed i = true) (hr : (Region.ready .any l.toArray listed).contains i = true)
    (hw : Region.wanted oi (yielded l.toArray a.tmps) = false) (hQ : ∀ c a w, Q (.panic c) (a.put oi.dst undef) w → Q (.panic c) a w) (hS : S w)
    (h : wpAnyH P .any l.toArray Q S fuel (listed.setIfInBounds i true) (a.put oi.dst undef) w) : wpAnyH P .any l.toArray Q S (fuel + 1) listed a w :=
  wpAnyH_take (by rw [List.getElem?_toArray]; exact hi) hs hf hr hQ (.inr ⟨hw, rfl⟩) hS h
/-- Operation i alone may come up: it is carried out. -/
theorem rg_do (i : Nat) {oi : Oper} {fuel : Nat} {listed : Array Bool} {a : Act} {w : World} (hi : l[i]? = some oi)
    (hr : Region.ready .any l.toArray listed = [i])
    (hw : Region.wanted oi (yielded l.toArray a.tmps) = true)
    (h : ∀ K' : Act → World → Prop, Shut (∀ a w, S w → (S w → wpAnyH P .any l.toArray Q S fuel (listed.setIfInBounds i true) a w) → K' a w) → Oper.wp P oi a w K' Q) : wpAnyH P .any l.toArray Q S (fuel + 1) listed a w :=
  wpAnyH_ready hr (by simp) (AllReadyH.cons (by rw [List.getElem?_toArray]; exact hi) (fun K hK => by rw [if_pos hw]; exact h K hK) AllReadyH.nil)
/-- One of several that may come up. -/
theorem rg_cons {i : Nat} {oi : Oper} {rs : List Nat} {fuel : Nat} {listed : Array Bool} {a : Act} {w : World} (hi : l[i]? = some oi)
    (hw : Region.wanted oi (yielded l.toArray a.tmps) = true)
    (h : ∀ K' : Act → World → Prop, Shut (∀ a w, S w → (S w → wpAnyH P .any l.toArray Q S fuel (listed.setIfInBounds i true) a w) → K' a w) → Oper.wp P oi a w K' Q)
    (hs : AllReadyH P .any l.toArray Q S fuel listed a w rs) : AllReadyH P .any l.toArray Q S fuel listed a w (i :: rs) :=
  AllReadyH.cons (by rw [List.getElem?_toArray]; exact hi) (fun K hK => by rw [if_pos hw]; exact h K hK) hs
end

section
variable {P : Program} {w w' : World} {o : Oper} {a : Act} {K : Act → World → Prop} {Q : Exit → Act → World → Prop}
theorem blk_later {g : Nat} {x : Obj} (h : w.heap[g]? = some x) (hb : Below w.heap.size w w') : w'.heap[g]? = some x := (hb.block g (Array.getElem?_eq_some_iff.1 h).1).trans h
theorem blk_lt {g : Nat} {x : Obj} (h : w.heap[g]? = some x) : g < w.heap.size := (Array.getElem?_eq_some_iff.1 h).1
theorem blk_other {g : Nat} {x : Obj} {r : Option Nat} (h : w.heap[g]? = some x) (hg : w.grownBy w' r) (hne : some g ≠ r) : w'.heap[g]? = some x := (hg.block g (blk_lt h) hne).trans h
theorem own_later {base : Nat} {e : TypeId} {size n : Nat} {v : Value} {xs : List Value} (h : w.ownsRow base e size v n xs) (hb : Below w.heap.size w w') : w'.ownsRow base e size v n xs :=
  h.kept (row := none) ⟨hb.os, hb.tape, hb.output, hb.size, fun k hk _ => hb.block k hk⟩ (by cases hv : v.ownBlock; exact .inl rfl; exact .inr (by simp))
/-- A row of one element type and a block of another are apart. -/
theorem own_blk_ne {base g : Nat} {e t : TypeId} {size n : Nat} {v : Value} {xs : List Value} {C : Array Value} {fr : Nat × Nat} (h : w.ownsRow base e size v n xs) (hb : w.heap[g]? = some (.cells C t fr)) (hne : t ≠ e) : some g ≠ v.ownBlock := by
  rcases h.2 with ⟨rfl, _⟩ | ⟨k, cap, cur, rfl, _, hk, _⟩
  · simp [Value.ownBlock]
  · intro hg
    simp only [Value.ownBlock, Option.some.injEq] at hg
    subst hg
    rw [hb] at hk
    simp only [Option.some.injEq, Obj.cells.injEq] at hk
    exact hne hk.2.1
/-- '[]T{}'. -/
theorem step_row0 (t e : TypeId) (ho : o.op = .buildSlice t 0 #[]) (base size : Nat) (i : TypeInfo) (ht : P.underlying t = some (.slice e)) (hi : P.info? e = some i) (hbase : base ≤ w.heap.size)
    (h : ∀ g w', w.heap.size ≤ g → w'.ownsRow base e size (.slice (some ⟨g, 0, none⟩) 0 0) 0 [] → Below w.heap.size w w' → K (a.put o.dst (.slice (some ⟨g, 0, none⟩) 0 0)) w') : o.wp P a w K Q := by
  have h0 := h w.heap.size (w.alloc (.cells #[] e)) (Nat.le_refl _) (World.ownsRow_lit w #[] 0 hbase (Nat.zero_le _) (by simp)) ((Below.refl _ _).alloc (Nat.le_refl _) _)
  have hrun : (Instr.buildSlice t 0 #[]).run P w = .ok (.slice (some ⟨w.heap.size, 0, none⟩) 0 0) (w.alloc (.cells #[] e)) := by
    simp only [Instr.buildSlice, sizeOf, typeInfo]
    simp [run_underlying ht, hi, Instr.fill, newRow, Result.andThen]
    rw [Array.eq_empty_of_size_eq_zero (xs := Array.map (fun x => (default : Value)) (Array.range 0)) (by simp)]
  unfold Oper.wp execOp
  simp only [ho, List.map_toArray, List.map_nil, Sem.run_bind, Sem.run_pure, hrun, Result.andThen_ok]
  exact h0
/-- A new variable. -/
theorem step_alloc (t : TypeId) (ho : o.op = .alloc t) (i : TypeInfo) (z : Value) (hi : P.info? t = some i) (hz : i.zero = some z)
    (h : ∀ g w', w.heap.size ≤ g → w'.heap[g]? = some (.cells z.cells t) → Below w.heap.size w w' → K (a.put o.dst (.pointer (some ⟨g, 0, none⟩))) w') : o.wp P a w K Q := by
  have h0 := h w.heap.size (w.alloc (.cells z.cells t)) (Nat.le_refl _) (heap_alloc_new w _) ((Below.refl _ _).alloc (Nat.le_refl _) _)
  have hrun : (Instr.alloc t true (.tuple #[])).run P w = .ok (.pointer (some ⟨w.heap.size, 0, none⟩)) (w.alloc (.cells z.cells t)) := by
    simp only [Instr.alloc, zeroValue, typeInfo, newVar]
    simp [hi, hz, newRow, Result.andThen]
  unfold Oper.wp execOp
  simp only [ho, Sem.run_bind, Sem.run_pure, hrun, Result.andThen_ok]
  exact h0
/-- append onto '[]T{}'. -/
theorem step_app0 (s x : Operand) (t : TypeId) (ho : o.op = .call { callee := .builtin .append, args := #[s, x], argTypes := #[t, t] })
    (base : Nat) (e : TypeId) (i : TypeInfo) (z : Value) (size bytes : Nat) (ht : P.underlying t = some (.slice e)) (hi : P.info? e = some i) (hz : i.zero = some z)
    (hsize : i.size = size) (hby : i.bytes = bytes) (hzs : z.cells.size = size) (hsz : 0 < size)
    (g : Nat) (hs : a.eval s = .slice (some ⟨g, 0, none⟩) 0 0) (hown : w.ownsRow base e size (.slice (some ⟨g, 0, none⟩) 0 0) 0 [])
    (B : Nat) (A : Option Addr) (m c : Nat) (news : List Value) (hx : a.eval x = .slice A m c) (hr : Shows w B size A m news) (h1 : ∀ u ∈ news, u.oneCell' = true)
    (h63 : m ≤ maxLen) (hbytes : m * bytes ≤ 140737488355328) (hbase : base ≤ w.heap.size)
    (h : ∀ A' c' w', w'.ownsRow base e size (.slice A' m c') m news → Below w.heap.size w w' → K (a.put o.dst (.slice A' m c')) w') : o.wp P a w K Q := by
  rcases Nat.eq_zero_or_pos m with rfl | hm
  · obtain rfl : news = [] := List.eq_nil_of_length_eq_zero (by simpa using hr.1)
    have hrun : (Builtin.append_ #[t, t] o.type #[.slice (some ⟨g, 0, none⟩) 0 0, .slice A 0 c]).run P w = .ok (.slice (some ⟨g, 0, none⟩) 0 0) w := by
      cases A <;> simp [Builtin.append_, run_underlying ht, sizeOf, typeInfo, hi, Builtin.lenOf, Builtin.firstCells, loadCells, loadCellsFrom, storeCells, Result.andThen]
    unfold Oper.wp execOp
    simp only [ho, resolve, invoke, builtin, Sem.run_bind, Sem.run_pure, Result.andThen_ok, List.map_toArray, List.map_cons, List.map_nil, hs, hx, hrun]
    exact h _ _ w hown (Below.refl _ _)
  · obtain ⟨b, off, rfl, hb, hc⟩ := hr.2 hm
    obtain ⟨v', w', hrun, r1, r2⟩ := run_append_arg_grows (P := P) w t o.type e i z size bytes ht hi hz hsize hby hzs hsz ⟨g, 0, none⟩ 0 0 [] (by simp) (by simp) ⟨b, off, none⟩ m c news hr.1 (fun j u hu => by rw [addr_add]; exact hc j u hu) (by omega) (by omega) (by simpa using hbytes)
    unfold Oper.wp
    simp [execOp, ho, resolve, invoke, builtin, hs, hx, hrun, Result.andThen]
    have r1' : w'.ownsRow base e size v' m news := by
      simpa using own_base r1 hbase
    obtain ⟨A', c', rfl, _, _⟩ := own_form r1'
    exact h A' c' w' r1' ⟨r2.os, r2.tape, r2.output, r2.size, fun k hk => r2.block k hk (by simp)⟩
end
end Go.Proofs.YtnldiemggabdkaaDoor
/-
  Layer 4: SortFunc at pairs, of whatever length.
-/
namespace Go.Proofs.YtnldiemggabdkaaDoor
open Go.RowKit
open Go.Sort (grow flatK get_flatK size_flatK HoldsK putRowK putRow mapBlock alloc_eq_grow grow_grow)
set_option linter.unusedVariables false

instance : Inhabited VT := ⟨scV 0 0 ⟨#[]⟩⟩
def cfP (p q : PT) : Int := vcmp p.1 q.1
def ltP (p q : PT) : Bool := vless p.1 q.1
theorem ltP_of : ltOf cfP = ltP := by
  funext p q
  unfold ltOf cfP ltP vcmp
  by_cases h : vless p.1 q.1 = true
  · simp [h]
  · simp only [h]
    by_cases h2 : vless q.1 p.1 = true <;> simp [h2]
theorem swoP : Sort.SWO (ltOf cfP) := by
  rw [ltP_of]
  refine ⟨fun x => vless_irr _, fun x y z h g => vless_tr h g, fun x y z h g => ?_⟩
  cases hx : ltP x z with
  | false => rfl
  | true =>
    exfalso
    unfold ltP at h g hx
    cases hyx : vless y.1 x.1 with
    | true => rw [vless_tr hyx hx] at g; cases g
    | false =>
      have e := vtri _ _ h hyx
      unfold vless at g hx
      rw [e] at hx
      rw [hx] at g; cases g
set_option maxRecDepth 20000 in
theorem vpcmp_lays (x y : ByteArray) (a1 a2 a3 a4 a5 b1 b2 b3 b4 b5 : Value) (w : World) :
    Calls Tryd.prog 49 #[.agg #[.string x, a1, a2, a3, a4, a5], .agg #[.string y, b1, b2, b3, b4, b5]] w fun e w' => e = .returned (.int .i64 (vcmp x y)) ∧ ∃ q os', w' = grow (w.drewN q) os' := by
  have hc := fun W => vcompare_any x y W
  generalize vcmp x y = z at *
  go_enter Tryd.func49, Tryd.ntmps49
  go_wp2_with (go_at_call 50; refine (hc _).mono ?_; rintro e w' ⟨rfl, rfl⟩)
  go_ret
  exact ⟨rfl, 0, _, by rw [alloc_eq_grow, alloc_eq_grow, grow_grow]; rfl⟩
theorem cmpLaysP (blk off size : Nat) (w : World) : CmpLays Tryd.prog 49 #[] pCells 6 cfP blk off size w := by
  intro m os dk hs p q
  obtain ⟨x, k, n, s, cA, cn, cc, kA, kn, kc, keys, kids⟩ := p
  obtain ⟨x', k', n', s', cA', cn', cc', kA', kn', kc', keys', kids'⟩ := q
  exact vpcmp_lays x x' _ _ _ _ _ _ _ _ _ _ _
/-- The pairs, sorted. -/
def srtP (L : List PT) : List PT := (Sort.pdq (ltOf cfP) L.toArray 0 L.toArray.size (Lib.bitLen L.toArray.size) true true).toList
theorem srtP_sorts (L : List PT) : Sort.PermIn 0 L.toArray.size L.toArray (Sort.pdq (ltOf cfP) L.toArray 0 L.toArray.size (Lib.bitLen L.toArray.size) true true) ∧ Sort.SortedIn (ltOf cfP) 0 L.toArray.size (Sort.pdq (ltOf cfP) L.toArray 0 L.toArray.size (Lib.bitLen L.toArray.size) true true) :=
  Sort.pdq_sorts (ltOf cfP) swoP L.toArray 0 L.toArray.size (Lib.bitLen L.toArray.size) true true (Nat.zero_le _) (Nat.le_refl _) (Or.inl rfl)
theorem srtP_len (L : List PT) : (srtP L).length = L.length := by
  have := (srtP_sorts L).1.1
  unfold srtP
  rw [Array.length_toList, this]
  simp
theorem srtP_perm (L : List PT) : (srtP L).Perm L := by
  obtain ⟨h1, -, h3⟩ := (srtP_sorts L).1
  have e1 : (Sort.pdq (ltOf cfP) L.toArray 0 L.toArray.size (Lib.bitLen L.toArray.size) true true).extract 0 L.toArray.size = Sort.pdq (ltOf cfP) L.toArray 0 L.toArray.size (Lib.bitLen L.toArray.size) true true := by
    generalize Sort.pdq (ltOf cfP) L.toArray 0 L.toArray.size (Lib.bitLen L.toArray.size) true true = Z at h1 ⊢
    rw [← h1]; exact Array.extract_size
  have e2 : L.toArray.extract 0 L.toArray.size = L.toArray := Array.extract_size
  rw [e1, e2] at h3
  exact h3
theorem get_of {L : List PT} {i : Nat} (hi : i < L.length) (a : Array PT) (ha : a.toList = L) : a[i]! = L[i] := by
  subst ha
  rw [getElem!_pos a i (by simpa using hi)]
  simp
theorem srtP_sorted (L : List PT) (i j : Nat) (hij : i < j) (hj : j < (srtP L).length) : vless ((srtP L)[j]).1 ((srtP L)[i]'(by omega)).1 = false := by
  have h := (srtP_sorts L).2 i j (Nat.zero_le _) hij (by have := srtP_len L; simp; omega)
  rw [ltP_of] at h
  rw [get_of (L := srtP L) (by omega) _ (by unfold srtP; rw [ltP_of]), get_of (L := srtP L) (by omega) _ (by unfold srtP; rw [ltP_of])] at h
  exact h
/-- A row of pairs is held, as the sort's contract says it. -/
theorem flatK_at {L : List PT} {a : Array PT} (ha : a.toList = L) {t : Nat} (ht : t < L.length * 6) : (L.flatMap pCells)[t]? = some ((flatK pCells 6 a)[t]!) := by
  have hs : a.size = L.length := by rw [← ha]; simp
  rw [get_flatK pCells 6 a t (by rw [hs]; exact ht)]
  have hi : t / 6 < L.length := by omega
  have e : t = t / 6 * 6 + t % 6 := by omega
  conv => lhs; rw [e]
  rw [pflat_get L (t / 6) (t % 6) hi (Nat.mod_lt _ (by decide)), get_of hi a ha]
  have hl : t % 6 < (pCells L[t / 6]).length := by rw [pCells_len]; exact Nat.mod_lt _ (by decide)
  rw [List.getElem?_eq_getElem hl, getElem!_pos (pCells L[t / 6]) (t % 6) hl]
theorem holds_own {W : World} {base g n c : Nat} {L : List PT} (h : W.ownsRow base 48 6 (.slice (some ⟨g, 0, none⟩) n c) n (L.flatMap pCells)) : HoldsK pCells 6 W g 0 L.toArray := by
  have hl := h.1
  rw [pflat_len] at hl
  intro t ht
  rw [size_flatK] at ht
  have ht' : t < L.length * 6 := by simpa using ht
  rw [Nat.zero_add]
  refine ⟨?_, h.frozenAt t⟩
  rw [h.cellAt t (by omega)]
  exact flatK_at (by simp) ht'
theorem shows_held {W : World} {B g n : Nat} {L : List PT} {a : Array PT} (ha : a.toList = L) (hn : L.length = n) (hg : g < B) (h : HoldsK pCells 6 W g 0 a) : Shows W B 6 (some ⟨g, 0, none⟩) n (L.flatMap pCells) := by
  have hs : a.size = L.length := by rw [← ha]; simp
  refine ⟨by rw [pflat_len, hn], fun _ => ⟨g, 0, rfl, hg, fun j u hu => ?_⟩⟩
  have hj : j < L.length * 6 := by
    have := (List.getElem?_eq_some_iff.1 hu).1
    rwa [pflat_len] at this
  have h0 := (h j (by rw [size_flatK, hs]; exact hj)).1
  rw [flatK_at ha hj] at hu
  rw [h0]
  exact hu
theorem below_sorted {W : World} {B g m : Nat} (hg : B ≤ g) (a : Array PT) (os : Array Obj) (hs : g < W.heap.size) : Below B W (sortWorldK pCells 6 W g 0 m a os) ∧ g < (sortWorldK pCells 6 W g 0 m a os).heap.size := by
  have hsz : (sortWorldK pCells 6 W g 0 m a os).heap.size = W.heap.size + os.size := by simp [sortWorldK, grow, putRowK, putRow, mapBlock, Sort.ahead]
  refine ⟨⟨rfl, rfl, rfl, by omega, fun k hk => ?_⟩, by omega⟩
  show ((W.heap.modify g _) ++ os)[k]? = _
  rw [Array.getElem?_append_left (by simp; omega), Array.getElem?_modify, if_neg (by omega)]
set_option maxRecDepth 20000 in
set_option maxHeartbeats 1000000 in
theorem sortP_any (A : Option Addr) (n c base : Nat) (L : List PT) (W : World) (h : W.ownsRow base 48 6 (.slice A n c) n (L.flatMap pCells)) (hb : base ≤ W.heap.size) (hn : n ≤ 1000) :
    Calls Tryd.prog 48 #[.slice A n c, .func (.func 49) #[] #[]] W fun e w' => e = .returned (.tuple #[]) ∧ Below base W w' ∧ Hid (Shows w' w'.heap.size 6 A n ((srtP L).flatMap pCells)) := by
  have hl := h.1
  rw [pflat_len] at hl
  have hln : L.length = n := by omega
  rcases Nat.eq_zero_or_pos n with rfl | hpos
  · have hs0 : srtP L = [] := List.eq_nil_of_length_eq_zero (by rw [srtP_len, hln])
    rw [hs0]
    refine (AnyF.slices_SortFunc_none Tryd.sortPair A c (.func (.func 49) #[] #[]) W).mono ?_
    rintro e w' ⟨rfl, rfl⟩
    exact ⟨rfl, Below.refl _ _, Lib.hid (Shows.zero A)⟩
  · obtain ⟨g, cap, hv, hlo, hlt⟩ := h.form hpos
    obtain rfl : A = some ⟨g, 0, none⟩ := by injection hv
    have eg : ∀ args w, (callFunc 49 args).run Tryd.prog w = .ok (.enter 49 args) w := enters_of Tryd.func49 (by kernel_rfl) rfl
    have hz : L.toArray.size = n := by simp [hln]
    have hcon := AnyQ.slices_SortFunc_eq Tryd.sortPair 6 (by intro w; rfl) (by intro w; rfl) pCells pCells_len (fun x v hv => by
      refine pcells_one [x] v ?_
      simpa using hv) cfP swoP 49 #[] g 0 c L.toArray W eg (cmpLaysP g 0 _ W) (holds_own h) hlt (by rw [hz]; omega)
    rw [hz] at hcon
    refine hcon.mono ?_
    rintro e w' ⟨rfl, m, os, rfl⟩
    have hsr : (Sort.pdq (ltOf cfP) L.toArray 0 n (Lib.bitLen n) true true).toList = srtP L := by unfold srtP; rw [hz]
    obtain ⟨h1, h2⟩ := below_sorted (m := m) hlo (Sort.pdq (ltOf cfP) L.toArray 0 n (Lib.bitLen n) true true) os hlt
    refine ⟨rfl, h1, Lib.hid (shows_held hsr (by rw [srtP_len, hln]) h2 ?_)⟩
    unfold sortWorldK
    exact Sort.holdsK_grow pCells 6 _ _ _ _ _ (by simp [putRowK, putRow, mapBlock, Sort.ahead]; omega) (Sort.holdsK_putRowK pCells 6 _ _ _ L.toArray _ (Sort.holdsK_ahead pCells 6 _ _ _ _ _ (holds_own h)) (by rw [← Array.length_toList, hsr, srtP_len]; simp))
end Go.Proofs.YtnldiemggabdkaaDoor
/-
  Layer 4: objects of pairs in whatever order.
-/
namespace Go.Proofs.YtnldiemggabdkaaDoor
open Go.RowKit
set_option linter.unusedVariables false

/-- Keys ascend, none twice. -/
def StrictP (L : List PT) : Prop := L.Pairwise fun p q => vless p.1 q.1 = true
theorem strict_unique : ∀ (A B : List PT), A.Perm B → StrictP A → StrictP B → A = B
  | [], B, h, _, _ => (List.Perm.nil_eq h)
  | a :: A, [], h, _, _ => absurd h.length_eq (by simp)
  | a :: A, b :: B, h, hA, hB => by
    have hA' := List.pairwise_cons.1 hA
    have hB' := List.pairwise_cons.1 hB
    have e : a = b := by
      have h1 : a ∈ b :: B := h.mem_iff.1 (List.mem_cons_self ..)
      have h2 : b ∈ a :: A := h.mem_iff.2 (List.mem_cons_self ..)
      rcases List.mem_cons.1 h1 with h1 | h1
      · exact h1
      · rcases List.mem_cons.1 h2 with h2 | h2
        · exact h2.symm
        · have g1 := hB'.1 a h1
          have g2 := hA'.1 b h2
          have := vless_tr g1 g2
          rw [vless_irr] at this
          cases this
    subst e
    rw [strict_unique A B ((List.perm_cons a).1 h) hA'.2 hB'.2]
def NoTwice (L : List PT) : Prop := (L.map Prod.fst).Nodup
theorem noTwice_perm {A B : List PT} (h : A.Perm B) : NoTwice A ↔ NoTwice B := (h.map Prod.fst).nodup_iff
theorem key_at_eq {L : List PT} {i : Nat} (hi : i < L.length) : keyAt L i = L[i].1 := by
  unfold keyAt
  rw [List.getD_eq_getElem?_getD, List.getElem?_map, List.getElem?_eq_getElem hi]
  rfl
theorem strict_of {L : List PT} (hs : ∀ i j (hij : i < j) (hj : j < L.length), vless (L[j]).1 (L[i]'(by omega)).1 = false) (hn : NoTwice L) : StrictP L := by
  unfold StrictP
  rw [List.pairwise_iff_getElem]
  intro i j hi hj hij
  have h1 := hs i j hij hj
  cases h2 : vless (L[i]).1 (L[j]).1 with
  | true => rfl
  | false =>
    exfalso
    have e : (L[i]).1 = (L[j]).1 := by
      have := vtri _ _ h2 h1
      rw [ByteArray.toList_eq, ByteArray.toList_eq] at this
      cases hx : (L[i]).1; cases hy : (L[j]).1
      rw [hx, hy] at this
      simp at this
      rw [this]
    unfold NoTwice at hn
    rw [List.nodup_iff_pairwise_ne, List.pairwise_iff_getElem] at hn
    have := hn i j (by simpa using hi) (by simpa using hj) hij
    simp at this
    exact this e
theorem noTwice_iff {L : List PT} (hs : ∀ i j (hij : i < j) (hj : j < L.length), vless (L[j]).1 (L[i]'(by omega)).1 = false) : NoTwice L ↔ ∀ j, j < L.length → dupJ L j = false := by
  constructor
  · intro hn j hj
    have hst := strict_of hs hn
    unfold dupJ
    rcases Nat.eq_zero_or_pos j with rfl | hp
    · simp
    · have h2 : keyAt L (j - 1) ≠ keyAt L j := by
        rw [key_at_eq hj, key_at_eq (show j - 1 < L.length by omega)]
        unfold StrictP at hst
        rw [List.pairwise_iff_getElem] at hst
        exact vless_ne (hst (j - 1) j (by omega) hj (by omega))
      simp only [Bool.and_eq_false_imp]
      intro _
      exact str_ne h2
  · intro hd
    have hadj : ∀ j (hj : j < L.length), 0 < j → vless (L[j - 1]'(by omega)).1 (L[j]).1 = true := by
      intro j hj hp
      have h1 := hs (j - 1) j (by omega) hj
      have h2 := hd j hj
      unfold dupJ at h2
      rw [key_at_eq hj, key_at_eq (show j - 1 < L.length by omega)] at h2
      cases h3 : vless (L[j - 1]'(by omega)).1 (L[j]).1 with
      | true => rfl
      | false =>
        exfalso
        have := vtri _ _ h3 h1
        rw [this] at h2
        simp [hp] at h2
    have hlt : ∀ d i (h : i + d + 1 < L.length), vless (L[i]'(by omega)).1 (L[i + d + 1]).1 = true := by
      intro d
      induction d with
      | zero => intro i h; exact hadj (i + 1) h (by omega)
      | succ d ih => intro i h; exact vless_tr (ih i (by omega)) (hadj (i + d + 1 + 1) (by omega) (by omega))
    unfold NoTwice
    rw [List.nodup_iff_pairwise_ne, List.pairwise_iff_getElem]
    intro i j hi hj hij
    simp only [List.getElem_map]
    have hj' : j < L.length := by simpa using hj
    have := hlt (j - i - 1) i (by omega)
    have e : i + (j - i - 1) + 1 = j := by omega
    simp only [e] at this
    exact vless_ne this
theorem srtP_noTwice (L : List PT) : NoTwice L ↔ ∀ j, j < L.length → dupJ (srtP L) j = false := by
  rw [← noTwice_perm (srtP_perm L), noTwice_iff (srtP_sorted L), srtP_len]
theorem srtP_strict {L : List PT} (h : NoTwice L) : StrictP (srtP L) := strict_of (srtP_sorted L) ((noTwice_perm (srtP_perm L)).2 h)
theorem srtP_unique {L M : List PT} (h : L.Perm M) (hn : NoTwice L) : srtP L = srtP M :=
  strict_unique _ _ ((srtP_perm L).trans (h.trans (srtP_perm M).symm)) (srtP_strict hn) (srtP_strict ((noTwice_perm h).1 hn))
/-- The pairs from one on, backward, round. -/
def rotL (L : List PT) (r : Nat) : List PT := (L.take (r + 1)).reverse ++ (L.drop (r + 1)).reverse
theorem rotL_perm (L : List PT) (r : Nat) : (rotL L r).Perm L := by
  have h := ((L.take (r + 1)).reverse_perm).append ((L.drop (r + 1)).reverse_perm)
  rw [List.take_append_drop] at h
  exact h
theorem rotL_at {L : List PT} {n r i : Nat} (hL : L.length = n) (hr : r < n) (hi : i < n) : (rotL L r)[i]? = L[(r + n - i) % n]? := by
  unfold rotL
  have h1 : (L.take (r + 1)).reverse.length = r + 1 := by simp; omega
  rcases Nat.lt_or_ge r i with h | h
  · have e : (r + n - i) % n = r + n - i := Nat.mod_eq_of_lt (by omega)
    rw [e, List.getElem?_append_right (by omega), h1, List.getElem?_reverse (by simp; omega), List.getElem?_drop]
    congr 1
    simp
    omega
  · have e : (r + n - i) % n = r - i := by
      have : r + n - i = (r - i) + n := by omega
      rw [this, Nat.add_mod_right]
      exact Nat.mod_eq_of_lt (by omega)
    rw [e, List.getElem?_append_left (by omega), List.getElem?_reverse (by simp; omega), List.getElem?_take]
    simp only [List.length_take]
    rw [if_pos (by omega)]
    congr 1
    omega
theorem rotL_len (L : List PT) (r : Nat) : (rotL L r).length = L.length := (rotL_perm L r).length_eq

/-- The object of pairs that ascend. -/
abbrev obV (cA : Option Addr) (n cc : Nat) (kA : Option Addr) (kc : Nat) (S : List PT) : VT := .mk 6 0 ⟨#[]⟩ cA n cc kA n kc (S.map Prod.fst) (S.map Prod.snd)
def obok (n : Nat) (S : List PT) : Bool := (obV none n 0 none 0 S).ok
theorem ob_ok (cA : Option Addr) (n cc : Nat) (kA : Option Addr) (kc : Nat) (S : List PT) : (obV cA n cc kA kc S).ok = obok n S := by
  unfold obok VT.ok
  rw [dep_mk, cnt_mk, all_mk, dep_mk, cnt_mk, all_mk]
  rfl
theorem ob_get {cA : Option Addr} {n cc : Nat} {kA : Option Addr} {kc : Nat} {S : List PT} (hs : StrictP S) {p : PT} (hp : p ∈ S) : (obV cA n cc kA kc S).get p.1 = some p.2 := by
  obtain ⟨i, hi, rfl⟩ := List.getElem_of_mem hp
  show (if (6 : Int) = 6 then getK (S.map Prod.fst) (S.map Prod.snd) _ else none) = _
  rw [if_pos rfl, getK_some _ _ _ i (by simpa using hi) (by simpa using hi) (by rw [← key_at_eq hi]; rfl) ?_]
  · rw [List.getElem?_map, List.getElem?_eq_getElem hi]; rfl
  · intro j hj
    have hj' : j < S.length := by omega
    have e : (S.map Prod.fst).getD j ⟨#[]⟩ = S[j].1 := key_at_eq hj'
    rw [e]
    unfold StrictP at hs
    rw [List.pairwise_iff_getElem] at hs
    exact vless_ne (hs j i hj' hi hj)
theorem ob_same {cA cA' : Option Addr} {n cc cc' : Nat} {kA kA' : Option Addr} {kc kc' : Nat} {S : List PT} (h : obok n S = true) : sameR (obV cA n cc kA kc S) (obV cA' n cc' kA' kc' S) = true := by
  unfold sameR
  rw [ob_ok, ob_ok, h, (sameV_iff _ _).2 (by rw [e_mk, e_mk])]
  rfl
theorem object_srt (A : Option Addr) (n c : Nat) (L : List PT) (B : Nat) (w : World) (h : Shows w B 6 A n (L.flatMap pCells)) (hA : A = none → c = 0) (hB : B ≤ w.heap.size) (hn : n ≤ 1000)
    (hL : ∀ p ∈ L, Lie w B p.2 ∧ p.1.size ≤ maxLen) (htab : UTab w) (hst : STab w) :
    Calls Tryd.prog 30 #[.slice A n c] w fun e w' => Below w.heap.size w w' ∧
      ((¬ NoTwice L ∧ e = .returned (.tuple #[.agg #[.int .i64 0, .int .i64 0, .string ⟨#[]⟩, .slice none 0 0, .slice none 0 0], .int .i64 141])) ∨
       (NoTwice L ∧ ∃ kA kc cA cc, Lie w' w'.heap.size (obV cA n cc kA kc (srtP L)) ∧
        ((obok n (srtP L) = true ∧ e = .returned (.tuple #[.agg #[.int .i64 6, .int .i64 0, .string ⟨#[]⟩, .slice cA n cc, .slice kA n kc], .int .i64 0])) ∨
         (obok n (srtP L) = false ∧ e = .returned (.tuple #[.agg #[.int .i64 0, .int .i64 0, .string ⟨#[]⟩, .slice none 0 0, .slice none 0 0], .int .i64 140]))))) := by
  have hlen := pairs_len h
  refine (object_any A n c L (srtP L) B w h hA hB hn (by rw [srtP_len, hlen]) (fun p hp => hL p ((srtP_perm L).mem_iff.1 hp)) htab hst (fun A c W base ho hb => sortP_any A n c base L W ho hb hn)).mono ?_
  rintro e w' ⟨hb, h1⟩
  refine ⟨hb, ?_⟩
  rcases h1 with ⟨⟨j, hj, hd⟩, rfl⟩ | ⟨hd, kA, kc, cA, cc, hLie, rfl⟩
  · refine .inl ⟨fun hn' => ?_, rfl⟩
    rw [(srtP_noTwice L).1 hn' j (by omega)] at hd
    cases hd
  · refine .inr ⟨(srtP_noTwice L).2 fun j hj => hd j (by omega), kA, kc, cA, cc, hLie, ?_⟩
    have e := ob_ok cA n cc kA kc (srtP L)
    cases hk : obok n (srtP L)
    · rw [hk] at e
      refine .inr ⟨rfl, ?_⟩
      rw [if_neg (by rw [e]; decide), if_neg (by rw [e]; decide)]
      rfl
    · rw [hk] at e
      refine .inl ⟨rfl, ?_⟩
      rw [if_pos e, if_pos e]
      rfl
end Go.Proofs.YtnldiemggabdkaaDoor
/-
  Layer 4: List.
-/
namespace Go.Proofs.YtnldiemggabdkaaDoor
open Go.RowKit
set_option linter.unusedVariables false

def chkT (T : VT) : VT := if T.ok = true then T else scV 0 0 ⟨#[]⟩
def chkE (T : VT) : Int := if T.ok = true then 0 else 140
theorem chkR_T (T : VT) : chkR T = .tuple #[(chkT T).agg, .int .i64 (chkE T)] := by unfold chkR chkT chkE; split <;> rfl
theorem chkT_ok {T : VT} (h : T.ok = true) : chkT T = T := by unfold chkT; rw [if_pos h]
theorem chkE_ok {T : VT} (h : T.ok = true) : chkE T = 0 := by unfold chkE; rw [if_pos h]
theorem chkE_no {T : VT} (h : T.ok = false) : chkE T = 140 := by unfold chkE; rw [h]; rfl
theorem chkT_no {T : VT} (h : T.ok = false) : chkT T = scV 0 0 ⟨#[]⟩ := by unfold chkT; rw [h]; rfl
/-- A list of these. -/
abbrev lsV (A : Option Addr) (n c : Nat) (l : List VT) : VT := .mk 5 0 ⟨#[]⟩ A n c none 0 0 [] l
theorem lie_ls {W : World} {b n c : Nat} {A : Option Addr} {l : List VT} (ho : W.ownsRow b 25 5 (.slice A n c) n (l.flatMap VT.cells)) (hl : ∀ x ∈ l, Lie W W.heap.size x) : Lie W W.heap.size (lsV A n c l) := by
  have hf := own_form ho
  obtain ⟨A', c', e, h1, h2⟩ := hf
  injection e with e1 e2 e3
  subst e1; subst e3
  refine .mk (Shows.own ho) (Shows.zero none) ⟨by decide, by decide, by decide, h1, h2, ?_, Nat.le_refl _, by decide, fun _ => rfl, by simp⟩ hl
  intro hA
  rcases ho.2 with ⟨e, _⟩ | ⟨g, cap, cur, e, _⟩
  · injection e
  · injection e with e1; rw [hA] at e1; cases e1
set_option maxRecDepth 20000 in
set_option maxHeartbeats 1000000 in
theorem list_any (B : Nat) (w : World) (A : Option Addr) (n c : Nat) (l : List VT) (h : Shows w B 5 A n (l.flatMap VT.cells)) (hl : ∀ x ∈ l, Lie w B x) (hA : A = none → c = 0) (hB : B ≤ w.heap.size) (hn : n ≤ 1000) (htab : UTab w) (hst : STab w) :
    Calls Tryd.prog 32 #[.slice A n c] w fun e w' => ∃ A' c', e = .returned (.tuple #[(chkT (lsV A' n c' l)).agg, .int .i64 (chkE (lsV A' n c' l))]) ∧ Lie w' w'.heap.size (lsV A' n c' l) ∧ Below w.heap.size w w' := by
  have hb := bel_alloc (Below.refl w.heap.size w) (.cells #[.int .i64 0, .int .i64 0, .string ⟨#[]⟩, .slice none 0 0, .slice none 0 0] 25)
  have Hz := Lib.hid (show VFive (w.alloc (.cells #[.int .i64 0, .int .i64 0, .string ⟨#[]⟩, .slice none 0 0, .slice none 0 0] 25)) w.heap.size (.int .i64 0) (.int .i64 0) (.string ⟨#[]⟩) (.slice none 0 0) (.slice none 0 0) from VFive.new _ _ _ _ _ _ _ _ rfl)
  have hcl := cloneV_any A n c (l.flatMap VT.cells) B _ (h.below (hb.mono hB)) (vcells_one l) hA (Nat.le_trans hB hb.size) hn
  have HC := Lib.hid (fun W A' c' (h : Below w.heap.size w W) (ho : W.ownsRow w.heap.size 25 5 (.slice A' n c') n (l.flatMap VT.cells)) => checked_R W.heap.size W (lsV A' n c' l) (lie_ls ho fun x hx => ((hl x hx).later (h.mono hB)).more (Nat.le_trans hB h.size)) (Nat.le_refl _) (htab.below h htab.lt) (hst.below h hst.lt))
  have HL := Lib.hid (fun W (h : Below w.heap.size w W) x (hx : x ∈ l) => ((hl x hx).later (h.mono hB)).more (Nat.le_trans hB h.size))
  have hle0 : w.heap.size ≤ w.heap.size := Nat.le_refl _
  clear h hl htab hst hA
  go_enter Tryd.func32, Tryd.ntmps32
  go_wp2_with fail
  refine hcl.mono ?_
  rintro e w1 ⟨A', c', rfl, hown, hb1⟩
  have hb2 := bel_next hb hb1
  have hown' : w1.ownsRow w.heap.size 25 5 (.slice A' n c') n (l.flatMap VT.cells) := own_base hown hb.size
  have hc := HC.out w1 A' c' hb2 hown'
  have Hown := Lib.hid hown
  rw [chkR_T] at hc
  generalize hX : chkT (lsV A' n c' l) = X at hc
  generalize hE : chkE (lsV A' n c' l) = E at hc
  have HX := Lib.hid hX
  have HE := Lib.hid hE
  obtain ⟨kx, nx, sx, cAx, cnx, ccx, kAx, knx, kcx, keysx, kidsx⟩ := X
  simp only [VT.agg] at hc
  clear HC hcl hX hE hown hown'
  go_wp2_with fail
  refine hc.mono ?_
  rintro e w2 ⟨rfl, hb3⟩
  obtain ⟨⟨e0, e1, e2, e3, e4⟩, f0, f1, f2, f3, f4⟩ := (Hz.out.later hb1).later hb3
  have hb4 := bel_next hb2 hb3
  have Hown3 := Lib.hid (own_later Hown.out hb3)
  clear hb1 hb2 hb3 hc Hown
  go_wp2
  refine bodyPost_ret (v := .tuple #[.agg #[.int .i64 kx, .int .i64 nx, .string sx, .slice cAx cnx ccx, .slice kAx knx kcx], .int .i64 E]) ?_ rfl ⟨A', c', by rw [HX.out, HE.out]; rfl, ?_, vbelow_set5 hb4 hle0⟩
  · simp [results, Tryd.results32, go_sem, *]
  · exact lie_ls (own_set5 Hown3.out (by simp)) (HL.out _ (vbelow_set5 hb4 hle0))
end Go.Proofs.YtnldiemggabdkaaDoor
/-
  Layer 4: what Object tells of pairs in whatever order.
-/
namespace Go.Proofs.YtnldiemggabdkaaDoor
open Go.RowKit
set_option linter.unusedVariables false

theorem flat_firstP {α : Type} (f : α → List Value) (k : Nat) (hf : ∀ x, (f x).length = k) : ∀ (l : List α) (m : Nat), (l.flatMap f).take (m * k) = (l.take m).flatMap f
  | [], m => by simp
  | x :: l, 0 => by simp
  | x :: l, m + 1 => by
    rw [List.flatMap_cons, List.take_succ_cons, List.flatMap_cons, ← flat_firstP f k hf l m]
    have e : (m + 1) * k = (f x).length + m * k := by rw [hf, Nat.add_mul]; omega
    rw [e, List.take_append, List.take_of_length_le (by omega), Nat.add_sub_cancel_left]
theorem own_noneP {W : World} {b size n c : Nat} {e : TypeId} {A : Option Addr} {xs : List Value} (ho : W.ownsRow b e size (.slice A n c) n xs) : A = none → c = 0 := by
  intro hA
  rcases ho.2 with ⟨e, _⟩ | ⟨g, cap, cur, e, _⟩
  · injection e
  · injection e with e1; rw [hA] at e1; cases e1
/-- What Object tells of pairs. -/
def ResP (L : List PT) (n : Nat) (X : VT) (E : Int) : Prop :=
  (¬ NoTwice L ∧ X = scV 0 0 ⟨#[]⟩ ∧ E = 141) ∨ (NoTwice L ∧ ((obok n (srtP L) = true ∧ (∃ kA kc cA cc, X = obV cA n cc kA kc (srtP L)) ∧ E = 0) ∨ (obok n (srtP L) = false ∧ X = scV 0 0 ⟨#[]⟩ ∧ E = 140)))
theorem object_res (A : Option Addr) (n c : Nat) (L : List PT) (B : Nat) (w : World) (h : Shows w B 6 A n (L.flatMap pCells)) (hA : A = none → c = 0) (hB : B ≤ w.heap.size) (hn : n ≤ 1000)
    (hL : ∀ p ∈ L, Lie w B p.2 ∧ p.1.size ≤ maxLen) (htab : UTab w) (hst : STab w) :
    Calls Tryd.prog 30 #[.slice A n c] w fun e w' => ∃ X E, e = .returned (.tuple #[X.agg, .int .i64 E]) ∧ Hid (ResP L n X E) ∧ Lie w' w'.heap.size X ∧ Below w.heap.size w w' := by
  refine (object_srt A n c L B w h hA hB hn hL htab hst).mono ?_
  rintro e w' ⟨hb, ⟨h1, rfl⟩ | ⟨h1, kA, kc, cA, cc, hLie, ⟨h2, rfl⟩ | ⟨h2, rfl⟩⟩⟩
  · exact ⟨scV 0 0 ⟨#[]⟩, 141, rfl, Lib.hid (.inl ⟨h1, rfl, rfl⟩), lie_sc _ _ _ _ _ (by decide) (by decide) (by decide), hb⟩
  · exact ⟨obV cA n cc kA kc (srtP L), 0, rfl, Lib.hid (.inr ⟨h1, .inl ⟨h2, ⟨_, _, _, _, rfl⟩, rfl⟩⟩), hLie, hb⟩
  · exact ⟨scV 0 0 ⟨#[]⟩, 140, rfl, Lib.hid (.inr ⟨h1, .inr ⟨h2, rfl, rfl⟩⟩), lie_sc _ _ _ _ _ (by decide) (by decide) (by decide), hb⟩
end Go.Proofs.YtnldiemggabdkaaDoor
/-
  make and copy on rows of the call's own. No program in sight.
-/
namespace Go.Proofs.YtnldiemggabdkaaDoor
open Go.RowKit

section
variable {w : World} {base : Nat} {e : TypeId} {size : Nat}
theorem own_made (w : World) (cs : Array Value) (n cap : Nat) (hb : base ≤ w.heap.size) (hn : n ≤ cap) (hm : cap ≤ maxLen) (hs : cs.size = cap * size) :
    (w.alloc (.cells cs e)).ownsRow base e size (.slice (some ⟨w.heap.size, 0, none⟩) n cap) n (cs.toList.take (n * size)) :=
  ⟨by rw [List.length_take, Array.length_toList, hs]; exact Nat.min_eq_left (Nat.mul_le_mul_right _ hn), .inr ⟨w.heap.size, cap, cs, rfl, hb, heap_alloc_new w _, hn, hm, hs, rfl⟩⟩
theorem own_zeros (w : World) (z : Value) (n cap : Nat) (hb : base ≤ w.heap.size) (hn : n ≤ cap) (hm : cap ≤ maxLen) :
    (w.alloc (.cells (madeCells #[z] cap) e)).ownsRow base e 1 (.slice (some ⟨w.heap.size, 0, none⟩) n cap) n (List.replicate n z) := by
  have h := own_made (base := base) (e := e) (size := 1) w (madeCells #[z] cap) n cap hb hn hm (by rw [size_madeCells, Nat.mul_one])
  rw [toList_madeCells_one, List.take_replicate, Nat.mul_one, Nat.min_eq_left hn] at h
  exact h
end

section
variable {P : Program} {w : World}
/-- 'make' of a slice of elements of one cell. -/
theorem run_make_one {t e : TypeId} {i : TypeInfo} {z : Value} (ht : P.underlying t = some (.slice e)) (hi : P.info? e = some i) (hz : i.zero = some z) (hz1 : z.cells = #[z]) (h1 : i.size = 1)
    (kl kc : IntKind) (l c : Int) (h0 : 0 ≤ l) (hlc : l ≤ c) (hbytes : (i.bytes : Int) * c ≤ 281474976710656) (h63 : c ≤ 9223372036854775807) (w : World) :
    (Instr.makeSlice t (.int kl l) (.int kc c)).run P w = .ok (.slice (some ⟨w.heap.size, 0, none⟩) l.toNat c.toNat) (w.alloc (.cells (madeCells #[z] c.toNat) e)) := by
  have h := run_make (P := P) w t e i z ht hi hz kl kc l c h0 hlc hbytes h63
  rw [hz1, h1, Nat.mul_one] at h
  exact h

theorem splice_take {α : Type} (L cs : List α) (off n : Nat) (h : off + cs.length ≤ n) (hn : n ≤ L.length) : (splice L off cs).take n = splice (L.take n) off cs := by
  unfold splice
  rw [List.take_append, List.take_append, List.length_take, Nat.min_eq_left (by omega), List.take_of_length_le (l := L.take off) (by rw [List.length_take]; omega), List.take_of_length_le (l := cs) (by omega), List.take_take, Nat.min_eq_left (by omega), List.drop_take]
  congr 3
  omega

/-- 'copy' into a row of the call's own. -/
theorem wp_copy_shows {o : Oper} {a : Act} {K : Act → World → Prop} {Q : Exit → Act → World → Prop} (d s : Operand) (dT sT : TypeId)
    (ho : o.op = .call { callee := .builtin .copy, args := #[d, s], argTypes := #[dT, sT] }) (elem : TypeId) (hu : P.underlying dT = some (.slice elem)) (hsz : (P.info? elem).map (·.size) = some 1)
    (base : Nat) (e : TypeId) (g n cap : Nat) (xs : List Value) (hown : w.ownsRow base e 1 (.slice (some ⟨g, 0, none⟩) n cap) n xs)
    (off : Nat) (dp : Option Addr) (dLen dCap : Nat) (hd : a.eval d = .slice dp dLen dCap) (hdp : 0 < dLen → dp = some ⟨g, off, none⟩) (hfit : off + dLen ≤ n)
    (B : Nat) (sp : Option Addr) (sLen sCap : Nat) (news : List Value) (hs : a.eval s = .slice sp sLen sCap) (hr : Shows w B 1 sp sLen news) (h1 : ∀ v ∈ news, v.oneCell' = true)
    (h : ∀ w', w'.ownsRow base e 1 (.slice (some ⟨g, 0, none⟩) n cap) n (splice xs off (news.take dLen)) → w.grownBy w' (some g) → Below base w w' → K (a.put o.dst (goInt ((min sLen dLen : Nat) : Int))) w') :
    o.wp P a w K Q := by
  obtain ⟨hlen, hform⟩ := hown
  rcases hform with ⟨h', _⟩ | ⟨g', cap', cur, h', hbg, hg, hnc, hcm, hcs, htake⟩
  · simp at h'
  · simp only [Value.slice.injEq, Option.some.injEq, Addr.mk.injEq, and_true, true_and] at h'
    obtain ⟨rfl, rfl⟩ := h'
    have hl : (news.take dLen).length = Nat.min sLen dLen := by
      rw [List.length_take, hr.1, Nat.mul_one]
      exact Nat.min_comm _ _
    have hle : (news.take dLen).length ≤ dLen := by rw [hl]; exact Nat.min_le_right _ _
    have hcl : cur.toList.length = cap := by rw [Array.length_toList, hcs, Nat.mul_one]
    have e0 : (goInt ((news.take dLen).length : Nat)) = goInt ((min sLen dLen : Nat) : Int) := by rw [hl]
    by_cases hz : (news.take dLen).length = 0
    · have hrun := run_copy_none (P := P) w dT sT o.type elem dp sp dLen dCap sLen sCap hu hsz (by rw [← hl]; exact hz)
      have hnil : news.take dLen = [] := List.eq_nil_of_length_eq_zero hz
      have hm0 : min sLen dLen = 0 := by rw [hl] at hz; exact hz
      unfold Oper.wp
      simp [execOp, ho, resolve, invoke, builtin, hd, hs, hrun, Result.andThen]
      have hx := h w ⟨by rw [hnil]; simpa [splice] using hlen, .inr ⟨g, cap, cur, rfl, hbg, hg, hnc, hcm, hcs, by rw [hnil]; simpa [splice] using htake⟩⟩ (World.grownBy.refl w _) (Below.refl _ _)
      rw [hm0] at hx
      exact hx
    · have hpos : 0 < Nat.min sLen dLen := by omega
      have hs0 : 0 < sLen := Nat.lt_of_lt_of_le hpos (Nat.min_le_left _ _)
      have hd0 : 0 < dLen := Nat.lt_of_lt_of_le hpos (Nat.min_le_right _ _)
      obtain rfl := hdp hd0
      obtain ⟨b, so, rfl, _, hc⟩ := hr.2 hs0
      have hrun := run_copy_row (P := P) w dT sT o.type elem g off dLen dCap ⟨b, so, none⟩ sLen sCap cur e (news.take dLen) hu hsz hg hl
        (fun j v hj => by
          rw [addr_add]
          rw [List.getElem?_take] at hj
          split at hj
          · exact hc j v hj
          · cases hj) (by rw [hcs]; omega) (fun v hv => h1 v (List.mem_of_mem_take hv))
      unfold Oper.wp
      simp only [execOp, ho, resolve, invoke, builtin, hd, hs, hrun, Sem.run_bind, Sem.run_pure, Result.andThen_ok, List.map_toArray, List.map_cons, List.map_nil]
      rw [e0]
      refine (h _ ⟨?_, .inr ⟨g, cap, _, rfl, hbg, setRow_heap w g cur _ e _ hg, hnc, hcm, ?_, ?_⟩⟩ ?_ ?_)
      · rw [length_splice _ _ _ (by omega), hlen]
      · have := length_splice cur.toList off (news.take dLen) (by omega)
        unfold splice at this
        rw [← List.append_assoc] at this
        simp only [List.size_toArray]
        omega
      · have := splice_take cur.toList (news.take dLen) off (n * 1) (by omega) (by omega)
        rw [htake] at this
        unfold splice at this ⊢
        rw [← List.append_assoc] at this
        exact this
      · exact ⟨rfl, rfl, rfl, by simp [World.setRow], fun k _ hk => setRow_other w g k _ (fun e => hk (by simp [e]))⟩
      · exact below_setRow (Below.refl _ _) hbg _

theorem wpList_copy_shows {ops : Array Oper} {rest : List Oper} {o : Oper} {a : Act} {Q : Exit → Act → World → Prop} (hgd : o.guard = none) (d s : Operand) (dT sT : TypeId)
    (ho : o.op = .call { callee := .builtin .copy, args := #[d, s], argTypes := #[dT, sT] }) (elem : TypeId) (hu : P.underlying dT = some (.slice elem)) (hsz : (P.info? elem).map (·.size) = some 1)
    (base : Nat) (e : TypeId) (g n cap : Nat) (xs : List Value) (hown : w.ownsRow base e 1 (.slice (some ⟨g, 0, none⟩) n cap) n xs)
    (off : Nat) (dp : Option Addr) (dLen dCap : Nat) (hd : a.eval d = .slice dp dLen dCap) (hdp : 0 < dLen → dp = some ⟨g, off, none⟩) (hfit : off + dLen ≤ n)
    (B : Nat) (sp : Option Addr) (sLen sCap : Nat) (news : List Value) (hs : a.eval s = .slice sp sLen sCap) (hr : Shows w B 1 sp sLen news) (h1 : ∀ v ∈ news, v.oneCell' = true)
    (h : ∀ w', w'.ownsRow base e 1 (.slice (some ⟨g, 0, none⟩) n cap) n (splice xs off (news.take dLen)) → w.grownBy w' (some g) → Below base w w' → wpList P ops Q rest (a.put o.dst (goInt ((min sLen dLen : Nat) : Int))) w') :
    wpList P ops Q (o :: rest) a w :=
  wpList_plain hgd fun _ hK => wp_copy_shows d s dT sT ho elem hu hsz base e g n cap xs hown off dp dLen dCap hd hdp hfit B sp sLen sCap news hs hr h1 fun w' h2 h3 h4 => hK _ _ (h w' h2 h3 h4)

theorem step_copy_shows {ops : Array Oper} {o : Oper} {a : Act} {K : Act → World → Prop} {Q : Exit → Act → World → Prop} {E : Prop} (hgd : o.guard = none) (d s : Operand) (dT sT : TypeId)
    (ho : o.op = .call { callee := .builtin .copy, args := #[d, s], argTypes := #[dT, sT] }) (elem : TypeId) (hu : P.underlying dT = some (.slice elem)) (hsz : (P.info? elem).map (·.size) = some 1)
    (base : Nat) (e : TypeId) (g n cap : Nat) (xs : List Value) (hown : w.ownsRow base e 1 (.slice (some ⟨g, 0, none⟩) n cap) n xs)
    (off : Nat) (dp : Option Addr) (dLen dCap : Nat) (hd : a.eval d = .slice dp dLen dCap) (hdp : 0 < dLen → dp = some ⟨g, off, none⟩) (hfit : off + dLen ≤ n)
    (B : Nat) (sp : Option Addr) (sLen sCap : Nat) (news : List Value) (hs : a.eval s = .slice sp sLen sCap) (hr : Shows w B 1 sp sLen news) (h1 : ∀ v ∈ news, v.oneCell' = true)
    (h : ∀ w', w'.ownsRow base e 1 (.slice (some ⟨g, 0, none⟩) n cap) n (splice xs off (news.take dLen)) → w.grownBy w' (some g) → Below base w w' → K (a.put o.dst (goInt ((min sLen dLen : Nat) : Int))) w') :
    if Region.wanted o (yielded ops a.tmps) = true then Oper.wp P o a w K Q else E := by
  have hw : Region.wanted o (yielded ops a.tmps) = true := by simp [Region.wanted, hgd]
  rw [if_pos hw]
  exact wp_copy_shows d s dT sT ho elem hu hsz base e g n cap xs hown off dp dLen dCap hd hdp hfit B sp sLen sCap news hs hr h1 h
end
end Go.Proofs.YtnldiemggabdkaaDoor
/-
  Layer 1, the reference: Is, Bytes, Starts.
-/
namespace Go.Proofs.YtnldiemggabdkaaDoor
open Go.RowKit

set_option maxRecDepth 20000 in
theorem is_any (n : Int) (w : World) : Calls Tryd.prog 71 #[.int .i64 n] w fun e w' => e = .returned (.bool (isCp n)) ∧ w' = w := by
  by_cases h0 : 0 ≤ n
  · by_cases h1 : n ≤ 1114111
    · by_cases h2 : 55296 ≤ n
      · by_cases h3 : n ≤ 57343
        · have h : isCp n = false := by unfold isCp; simp; omega
          rw [h]
          go_enter Tryd.func71, Tryd.ntmps71
          go_wp2
          go_ret
          exact ⟨rfl, rfl⟩
        · have h : isCp n = true := by unfold isCp; simp; omega
          rw [h]
          go_enter Tryd.func71, Tryd.ntmps71
          go_wp2
          go_ret
          exact ⟨rfl, rfl⟩
      · have h : isCp n = true := by unfold isCp; simp; omega
        rw [h]
        go_enter Tryd.func71, Tryd.ntmps71
        go_wp2
        go_ret
        exact ⟨rfl, rfl⟩
    · have h : isCp n = false := by unfold isCp; simp; omega
      rw [h]
      go_enter Tryd.func71, Tryd.ntmps71
      go_wp2
      go_ret
      exact ⟨rfl, rfl⟩
  · have h : isCp n = false := by unfold isCp; simp; omega
    rw [h]
    go_enter Tryd.func71, Tryd.ntmps71
    go_wp2
    go_ret
    exact ⟨rfl, rfl⟩

theorem gives_new (w : World) (l : List UInt8) (C : Array Value) (hC : C.toList = l.map bv) (hl : l.length ≤ 1000) :
    (w.alloc (.cells C 5)).ownsRow w.heap.size 5 1 (.slice (some ⟨w.heap.size, 0, none⟩) l.length l.length) l.length (l.map bv) := by
  have hs : C.size = l.length := by rw [← Array.length_toList, hC]; simp
  have h := own_made (base := w.heap.size) (e := 5) (size := 1) w C l.length l.length (Nat.le_refl _) (Nat.le_refl _) (by unfold maxLen; omega) (by rw [hs, Nat.mul_one])
  rw [hC, List.take_of_length_le (by simp)] at h
  exact h
theorem bv_b8 (n : Nat) (h : n < 256) : bv (b8 n) = .int .u8 (n : Int) := by unfold bv; rw [b8_toNat n h]
set_option maxRecDepth 20000 in
set_option maxHeartbeats 1000000 in
theorem bytes_any (c : Nat) (hc : c ≤ 1114111) (w : World) : Calls Tryd.prog 72 #[.int .i64 (c : Int)] w (GivesBytes 5 (encL c) w) := by
  rcases (show c < 128 ∨ (128 ≤ c ∧ c < 2048) ∨ (2048 ≤ c ∧ c < 65536) ∨ 65536 ≤ c by omega) with h1 | ⟨h1, h2⟩ | ⟨h1, h2⟩ | h1
  · have e : (encL c).map bv = [.int .u8 ((c : Nat) : Int)] := by
      have e0 : encL c = [b8 (c)] := by unfold encL; rw [if_pos h1]
      rw [e0]
      show [bv (b8 (c))] = _
      rw [bv_b8 (c) (by omega)]
    have hn : (encL c).length = 1 := by have := congrArg List.length e; simpa using this
    have g := gives_new w (encL c) #[.int .u8 ((c : Nat) : Int)] (by rw [e]) (by omega)
    rw [hn] at g
    have k0 : (c : Int) < 128 := by omega
    have n0 : (0 : Int) ≤ (c : Int) := by omega
    have n1 : (c : Int) ≤ 1114111 := by omega
    have G := Lib.hid g
    clear e g hn h1 hc
    generalize (c : Int) = n at *
    go_enter Tryd.func72, Tryd.ntmps72
    go_wp2
    go_ret
    exact ⟨_, _, _, rfl, G.out, (Below.refl _ _).alloc (Nat.le_refl _) _⟩
  · have e : (encL c).map bv = [.int .u8 ((192 + c / 64 : Nat) : Int), .int .u8 ((128 + c % 64 : Nat) : Int)] := by
      have e0 : encL c = [b8 (192 + c / 64), b8 (128 + c % 64)] := by unfold encL; rw [if_neg (by omega), if_pos h2]
      rw [e0]
      show [bv (b8 (192 + c / 64)), bv (b8 (128 + c % 64))] = _
      rw [bv_b8 (192 + c / 64) (by omega), bv_b8 (128 + c % 64) (by omega)]
    have hn : (encL c).length = 2 := by have := congrArg List.length e; simpa using this
    have g := gives_new w (encL c) #[.int .u8 ((192 + c / 64 : Nat) : Int), .int .u8 ((128 + c % 64 : Nat) : Int)] (by rw [e]) (by omega)
    rw [hn] at g
    rw [show ((192 + c / 64 : Nat) : Int) = 192 + (c : Int) / 64 from by omega, show ((128 + c % 64 : Nat) : Int) = 128 + (c : Int) % 64 from by omega] at g
    have k0 : ¬ (c : Int) < 128 := by omega
    have k1 : (c : Int) < 2048 := by omega
    have n0 : (0 : Int) ≤ (c : Int) := by omega
    have n1 : (c : Int) ≤ 1114111 := by omega
    have G := Lib.hid g
    clear e g hn h1 hc h2
    generalize (c : Int) = n at *
    go_enter Tryd.func72, Tryd.ntmps72
    go_wp2
    go_ret
    exact ⟨_, _, _, rfl, G.out, (Below.refl _ _).alloc (Nat.le_refl _) _⟩
  · have e : (encL c).map bv = [.int .u8 ((224 + c / 4096 : Nat) : Int), .int .u8 ((128 + c / 64 % 64 : Nat) : Int), .int .u8 ((128 + c % 64 : Nat) : Int)] := by
      have e0 : encL c = [b8 (224 + c / 4096), b8 (128 + c / 64 % 64), b8 (128 + c % 64)] := by unfold encL; rw [if_neg (by omega), if_neg (by omega), if_pos h2]
      rw [e0]
      show [bv (b8 (224 + c / 4096)), bv (b8 (128 + c / 64 % 64)), bv (b8 (128 + c % 64))] = _
      rw [bv_b8 (224 + c / 4096) (by omega), bv_b8 (128 + c / 64 % 64) (by omega), bv_b8 (128 + c % 64) (by omega)]
    have hn : (encL c).length = 3 := by have := congrArg List.length e; simpa using this
    have g := gives_new w (encL c) #[.int .u8 ((224 + c / 4096 : Nat) : Int), .int .u8 ((128 + c / 64 % 64 : Nat) : Int), .int .u8 ((128 + c % 64 : Nat) : Int)] (by rw [e]) (by omega)
    rw [hn] at g
    rw [show ((224 + c / 4096 : Nat) : Int) = 224 + (c : Int) / 4096 from by omega, show ((128 + c / 64 % 64 : Nat) : Int) = 128 + (c : Int) / 64 % 64 from by omega, show ((128 + c % 64 : Nat) : Int) = 128 + (c : Int) % 64 from by omega] at g
    have k0 : ¬ (c : Int) < 128 := by omega
    have k1 : ¬ (c : Int) < 2048 := by omega
    have k2 : (c : Int) < 65536 := by omega
    have n0 : (0 : Int) ≤ (c : Int) := by omega
    have n1 : (c : Int) ≤ 1114111 := by omega
    have G := Lib.hid g
    clear e g hn h1 hc h2
    generalize (c : Int) = n at *
    go_enter Tryd.func72, Tryd.ntmps72
    go_wp2
    go_ret
    exact ⟨_, _, _, rfl, G.out, (Below.refl _ _).alloc (Nat.le_refl _) _⟩
  · have e : (encL c).map bv = [.int .u8 ((240 + c / 262144 : Nat) : Int), .int .u8 ((128 + c / 4096 % 64 : Nat) : Int), .int .u8 ((128 + c / 64 % 64 : Nat) : Int), .int .u8 ((128 + c % 64 : Nat) : Int)] := by
      have e0 : encL c = [b8 (240 + c / 262144), b8 (128 + c / 4096 % 64), b8 (128 + c / 64 % 64), b8 (128 + c % 64)] := by unfold encL; rw [if_neg (by omega), if_neg (by omega), if_neg (by omega)]
      rw [e0]
      show [bv (b8 (240 + c / 262144)), bv (b8 (128 + c / 4096 % 64)), bv (b8 (128 + c / 64 % 64)), bv (b8 (128 + c % 64))] = _
      rw [bv_b8 (240 + c / 262144) (by omega), bv_b8 (128 + c / 4096 % 64) (by omega), bv_b8 (128 + c / 64 % 64) (by omega), bv_b8 (128 + c % 64) (by omega)]
    have hn : (encL c).length = 4 := by have := congrArg List.length e; simpa using this
    have g := gives_new w (encL c) #[.int .u8 ((240 + c / 262144 : Nat) : Int), .int .u8 ((128 + c / 4096 % 64 : Nat) : Int), .int .u8 ((128 + c / 64 % 64 : Nat) : Int), .int .u8 ((128 + c % 64 : Nat) : Int)] (by rw [e]) (by omega)
    rw [hn] at g
    rw [show ((240 + c / 262144 : Nat) : Int) = 240 + (c : Int) / 262144 from by omega, show ((128 + c / 4096 % 64 : Nat) : Int) = 128 + (c : Int) / 4096 % 64 from by omega, show ((128 + c / 64 % 64 : Nat) : Int) = 128 + (c : Int) / 64 % 64 from by omega, show ((128 + c % 64 : Nat) : Int) = 128 + (c : Int) % 64 from by omega] at g
    have k0 : ¬ (c : Int) < 128 := by omega
    have k1 : ¬ (c : Int) < 2048 := by omega
    have k2 : ¬ (c : Int) < 65536 := by omega
    have n0 : (0 : Int) ≤ (c : Int) := by omega
    have n1 : (c : Int) ≤ 1114111 := by omega
    have G := Lib.hid g
    clear e g hn h1 hc
    generalize (c : Int) = n at *
    go_enter Tryd.func72, Tryd.ntmps72
    go_wp2
    go_ret
    exact ⟨_, _, _, rfl, G.out, (Below.refl _ _).alloc (Nat.le_refl _) _⟩
end Go.Proofs.YtnldiemggabdkaaDoor
