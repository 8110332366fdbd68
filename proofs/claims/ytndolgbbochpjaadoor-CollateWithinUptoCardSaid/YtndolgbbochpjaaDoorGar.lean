import Derived.Test.YtndolgbbochpjaaDoorGaq
import Derived.Test.YtndolgbbochpjaaDoorGap
/-
  Layer 7: CollateWithin's row: ahead, the value, behind.
-/
namespace Go.Proofs.YtndolgbbochpjaaDoor
open Go.RowKit
set_option linter.unusedVariables false

/-- What holds while a row is put together: the call's own box, the result's box, and nothing old has changed. -/
def WdS (w : World) (g : Nat) (v0 v1 v2 v3 v4 : Value) (W : World) : Prop :=
  Below g w W ∧ VFive W g v0 v1 v2 v3 v4 ∧ ∃ (k n : Int) (s : ByteArray) (cA : Option Addr) (cn cc : Nat) (kA : Option Addr) (kn kc : Nat), VFive W (g + 1) (.int .i64 k) (.int .i64 n) (.string s) (.slice cA cn cc) (.slice kA kn kc)
section
variable {w W W' : World} {g : Nat} {v0 v1 v2 v3 v4 : Value}
theorem WdS.two (h : WdS w g v0 v1 v2 v3 v4 W) : g + 2 ≤ W.heap.size := by
  obtain ⟨-, -, _, _, _, _, _, _, _, _, _, h⟩ := h
  exact h.lt
theorem WdS.later (h : WdS w g v0 v1 v2 v3 v4 W) (hb : Below W.heap.size W W') : WdS w g v0 v1 v2 v3 v4 W' := by
  have h2 := h.two
  obtain ⟨h1, h5, k, n, s, cA, cn, cc, kA, kn, kc, hr⟩ := h
  exact ⟨h1.trans (hb.mono (by omega)), h5.later hb, k, n, s, cA, cn, cc, kA, kn, kc, hr.later hb⟩
theorem WdS.grown (h : WdS w g v0 v1 v2 v3 v4 W) (hb : Below (g + 2) W W') : WdS w g v0 v1 v2 v3 v4 W' := by
  have h2 := h.two
  obtain ⟨h1, h5, k, n, s, cA, cn, cc, kA, kn, kc, hr⟩ := h
  exact ⟨h1.trans (hb.mono (by omega)), h5.upto hb (by omega) h2, k, n, s, cA, cn, cc, kA, kn, kc, hr.upto hb (by omega) h2⟩
theorem WdS.stored (h : WdS w g v0 v1 v2 v3 v4 W) (k n : Int) (s : ByteArray) (cA : Option Addr) (cn cc : Nat) (kA : Option Addr) (kn kc : Nat) :
    WdS w g v0 v1 v2 v3 v4 (((((W.setCell ⟨g + 1, 0, none⟩ (.int .i64 k)).setCell ⟨g + 1, 1, none⟩ (.int .i64 n)).setCell ⟨g + 1, 2, none⟩ (.string s)).setCell ⟨g + 1, 3, none⟩ (.slice cA cn cc)).setCell ⟨g + 1, 4, none⟩ (.slice kA kn kc)) := by
  obtain ⟨h1, h5, _, _, _, _, _, _, _, _, _, hr⟩ := h
  exact ⟨vbelow_set5 h1 (Nat.le_succ _), h5.keep (set5_other _ _ _ _ _ _ _ _ (by omega)), k, n, s, cA, cn, cc, kA, kn, kc, hr.set5⟩
theorem Shows.grown {B size n b off : Nat} {xs : List Value} {r : Option Nat} (h : Shows W B size (some ⟨b, off, none⟩) n xs) (hg : W.grownBy W' r) (hne : some b ≠ r) (hb : b < W.heap.size) : Shows W' B size (some ⟨b, off, none⟩) n xs := by
  refine ⟨h.1, fun hn => ?_⟩
  obtain ⟨b', off', e, hB, hc⟩ := h.2 hn
  injection e with e
  injection e with e1 e2
  subst e1; subst e2
  refine ⟨b, off, rfl, hB, fun j u hu => ?_⟩
  rw [World.cell?_of_block (hg.block b hb hne)]
  exact hc j u hu
theorem own_ltW {base size n : Nat} {e : TypeId} {v : Value} {xs : List Value} (h : W.ownsRow base e size v n xs) (k : Nat) (hk : W.heap.size ≤ k) : some k ≠ v.ownBlock := fun e => by
  have := (h.lt k e.symm).2
  omega
end
section
variable {P : Program} {w w' : World} {o : Oper} {a : Act} {K : Act → World → Prop} {Q : Exit → Act → World → Prop}
theorem step_row0X (t e : TypeId) (ho : o.op = .buildSlice t 0 #[]) (base size : Nat) (i : TypeInfo) (ht : P.underlying t = some (.slice e)) (hi : P.info? e = some i) (hbase : base ≤ w.heap.size)
    (h : ∀ g w', w.heap.size ≤ g → w'.ownsRow base e size (.slice (some ⟨g, 0, none⟩) 0 0) 0 [] → g + 1 ≤ w'.heap.size → Below w.heap.size w w' → K (a.put o.dst (.slice (some ⟨g, 0, none⟩) 0 0)) w') : o.wp P a w K Q :=
  step_row0 t e ho base size i ht hi hbase fun g w' hge hown hb => h g w' hge hown (hown.lt g rfl).2 hb
/-- append onto '[]T{}': the new row is apart from all that was. -/
theorem step_app0X (s x : Operand) (t : TypeId) (ho : o.op = .call { callee := .builtin .append, args := #[s, x], argTypes := #[t, t] })
    (base : Nat) (e : TypeId) (i : TypeInfo) (z : Value) (size bytes : Nat) (ht : P.underlying t = some (.slice e)) (hi : P.info? e = some i) (hz : i.zero = some z)
    (hsize : i.size = size) (hby : i.bytes = bytes) (hzs : z.cells.size = size) (hsz : 0 < size)
    (g : Nat) (hs : a.eval s = .slice (some ⟨g, 0, none⟩) 0 0) (hown : w.ownsRow base e size (.slice (some ⟨g, 0, none⟩) 0 0) 0 [])
    (B : Nat) (A : Option Addr) (m c : Nat) (news : List Value) (hx : a.eval x = .slice A m c) (hr : Shows w B size A m news) (h1 : ∀ u ∈ news, u.oneCell' = true)
    (h63 : m ≤ maxLen) (hbytes : m * bytes ≤ 140737488355328) (hbase : base ≤ w.heap.size)
    (h : ∀ A' c' w', (∀ k, k < w.heap.size → k ≠ g → some k ≠ (Value.slice A' m c').ownBlock) → w'.ownsRow base e size (.slice A' m c') m news → Below w.heap.size w w' → K (a.put o.dst (.slice A' m c')) w') : o.wp P a w K Q := by
  rcases Nat.eq_zero_or_pos m with rfl | hm
  · obtain rfl : news = [] := List.eq_nil_of_length_eq_zero (by simpa using hr.1)
    have hrun : (Builtin.append_ #[t, t] o.type #[.slice (some ⟨g, 0, none⟩) 0 0, .slice A 0 c]).run P w = .ok (.slice (some ⟨g, 0, none⟩) 0 0) w := by
      cases A <;> simp [Builtin.append_, run_underlying ht, sizeOf, typeInfo, hi, Builtin.lenOf, Builtin.firstCells, loadCells, loadCellsFrom, storeCells, Result.andThen]
    unfold Oper.wp execOp
    simp only [ho, resolve, invoke, builtin, Sem.run_bind, Sem.run_pure, Result.andThen_ok, List.map_toArray, List.map_cons, List.map_nil, hs, hx, hrun]
    exact h _ _ w (fun k _ hne e => by simp only [Value.ownBlock, Option.some.injEq] at e; exact hne e) hown (Below.refl _ _)
  · obtain ⟨b, off, rfl, hb, hc⟩ := hr.2 hm
    obtain ⟨v', w', hrun, r1, r2⟩ := run_append_arg_grows (P := P) w t o.type e i z size bytes ht hi hz hsize hby hzs hsz ⟨g, 0, none⟩ 0 0 [] (by simp) (by simp) ⟨b, off, none⟩ m c news hr.1 (fun j u hu => by rw [addr_add]; exact hc j u hu) (by omega) (by omega) (by simpa using hbytes)
    unfold Oper.wp
    simp [execOp, ho, resolve, invoke, builtin, hs, hx, hrun, Result.andThen]
    have r0 : w'.ownsRow w.heap.size e size v' m news := by simpa using r1
    have r1' : w'.ownsRow base e size v' m news := own_base r0 hbase
    obtain ⟨A', c', rfl, _, _⟩ := own_form r1'
    refine h A' c' w' (fun k hk _ e => ?_) r1' ⟨r2.os, r2.tape, r2.output, r2.size, fun k hk => r2.block k hk (by simp)⟩
    have := (r0.lt k e.symm).1
    omega
end
set_option maxRecDepth 20000 in
set_option maxHeartbeats 8000000 in
theorem wrow_any (w : World) (pa pb : Nat) (k n : Int) (s : ByteArray) (cA : Option Addr) (cn cc : Nat) (kA : Option Addr) (kn kc : Nat) (k' n' : Int) (s' : ByteArray) (cA' : Option Addr) (cn' cc' : Nat) (kA' : Option Addr) (kn' kc' : Nat)
    (A : Option Addr) (m c B : Nat) (l : List VT) (hA : w.cell? ⟨pa, 0, none⟩ = some (.slice A m c)) (hS : Shows w B 5 A m (l.flatMap VT.cells)) (hB : B ≤ w.heap.size) (hm : m ≤ 1000) (hV : VFive w pb (.int .i64 k') (.int .i64 n') (.string s') (.slice cA' cn' cc') (.slice kA' kn' kc')) :
    Calls Tryd.prog 26 #[.agg #[.int .i64 k, .int .i64 n, .string s, .slice cA cn cc, .slice kA kn kc], .pointer (some ⟨pa, 0, none⟩), .pointer (some ⟨pb, 0, none⟩)] w fun e w' => ∃ A' c',
      e = .returned (.agg #[.int .i64 5, .int .i64 0, .string ⟨#[]⟩, .slice A' (m + 1 + 1) c', .slice none 0 0]) ∧
      Hid (w'.ownsRow w.heap.size 25 5 (.slice A' (m + 1 + 1) c') (m + 1 + 1) ((l.flatMap VT.cells ++ [.int .i64 k, .int .i64 n, .string s, .slice cA cn cc, .slice kA kn kc]) ++ [.int .i64 k', .int .i64 n', .string s', .slice cA' cn' cc', .slice kA' kn' kc'])) ∧ Below w.heap.size w w' := by
  obtain ⟨iV, hiV, hzV, hsV, hbV⟩ := val_info
  have hlA := World.block_lt_of_cell? w _ hA
  have hlB := hV.lt
  have hMx : 2000 ≤ maxLen := by decide
  have C1l := Lib.hid (show ∀ u ∈ l.flatMap VT.cells, u.oneCell' = true from fun u hu => by
    obtain ⟨p, _, hp⟩ := List.mem_flatMap.1 hu; exact cells_one p u hp)
  have C1v := Lib.hid (show ∀ u ∈ [Value.int .i64 k, .int .i64 n, .string s, .slice cA cn cc, .slice kA kn kc], u.oneCell' = true from cells_one (.mk k n s cA cn cc kA kn kc [] []))
  have C1b := Lib.hid (show ∀ u ∈ [Value.int .i64 k', .int .i64 n', .string s', .slice cA' cn' cc', .slice kA' kn' kc'], u.oneCell' = true from cells_one (.mk k' n' s' cA' cn' cc' kA' kn' kc' [] []))
  have hW0 : WdS w w.heap.size (.int .i64 k) (.int .i64 n) (.string s) (.slice cA cn cc) (.slice kA kn kc) ((w.alloc (.cells #[.int .i64 k, .int .i64 n, .string s, .slice cA cn cc, .slice kA kn kc] 25)).alloc (.cells #[.int .i64 0, .int .i64 0, .string ⟨#[]⟩, .slice none 0 0, .slice none 0 0] 25)) :=
    ⟨bel_alloc (bel_alloc (Below.refl _ _) _) _, (VFive.new _ _ _ _ _ _ _ _ rfl).alloc _, 0, 0, ⟨#[]⟩, none, 0, 0, none, 0, 0, VFive.new _ _ _ _ _ _ _ _ (World.size_alloc _ _)⟩
  have la : ∀ W, WdS w w.heap.size (.int .i64 k) (.int .i64 n) (.string s) (.slice cA cn cc) (.slice kA kn kc) W → W.cell? ⟨pa, 0, none⟩ = some (.slice A m c) := fun W h => (h.1.cell (p := ⟨pa, 0, none⟩) hlA).trans hA
  have x0 : ∀ W, WdS w w.heap.size (.int .i64 k) (.int .i64 n) (.string s) (.slice cA cn cc) (.slice kA kn kc) W → W.cell? ⟨w.heap.size, 0, none⟩ = some (.int .i64 k) := fun W h => h.2.1.1.1
  have x1 : ∀ W, WdS w w.heap.size (.int .i64 k) (.int .i64 n) (.string s) (.slice cA cn cc) (.slice kA kn kc) W → W.cell? ⟨w.heap.size, 1, none⟩ = some (.int .i64 n) := fun W h => h.2.1.1.2.1
  have x2 : ∀ W, WdS w w.heap.size (.int .i64 k) (.int .i64 n) (.string s) (.slice cA cn cc) (.slice kA kn kc) W → W.cell? ⟨w.heap.size, 2, none⟩ = some (.string s) := fun W h => h.2.1.1.2.2.1
  have x3 : ∀ W, WdS w w.heap.size (.int .i64 k) (.int .i64 n) (.string s) (.slice cA cn cc) (.slice kA kn kc) W → W.cell? ⟨w.heap.size, 3, none⟩ = some (.slice cA cn cc) := fun W h => h.2.1.1.2.2.2.1
  have x4 : ∀ W, WdS w w.heap.size (.int .i64 k) (.int .i64 n) (.string s) (.slice cA cn cc) (.slice kA kn kc) W → W.cell? ⟨w.heap.size, 4, none⟩ = some (.slice kA kn kc) := fun W h => h.2.1.1.2.2.2.2
  have y0 : ∀ W, WdS w w.heap.size (.int .i64 k) (.int .i64 n) (.string s) (.slice cA cn cc) (.slice kA kn kc) W → W.cell? ⟨pb, 0, none⟩ = some (.int .i64 k') := fun W h => (hV.upto h.1 hlB (Nat.le_refl _)).1.1
  have y1 : ∀ W, WdS w w.heap.size (.int .i64 k) (.int .i64 n) (.string s) (.slice cA cn cc) (.slice kA kn kc) W → W.cell? ⟨pb, 1, none⟩ = some (.int .i64 n') := fun W h => (hV.upto h.1 hlB (Nat.le_refl _)).1.2.1
  have y2 : ∀ W, WdS w w.heap.size (.int .i64 k) (.int .i64 n) (.string s) (.slice cA cn cc) (.slice kA kn kc) W → W.cell? ⟨pb, 2, none⟩ = some (.string s') := fun W h => (hV.upto h.1 hlB (Nat.le_refl _)).1.2.2.1
  have y3 : ∀ W, WdS w w.heap.size (.int .i64 k) (.int .i64 n) (.string s) (.slice cA cn cc) (.slice kA kn kc) W → W.cell? ⟨pb, 3, none⟩ = some (.slice cA' cn' cc') := fun W h => (hV.upto h.1 hlB (Nat.le_refl _)).1.2.2.2.1
  have y4 : ∀ W, WdS w w.heap.size (.int .i64 k) (.int .i64 n) (.string s) (.slice cA cn cc) (.slice kA kn kc) W → W.cell? ⟨pb, 4, none⟩ = some (.slice kA' kn' kc') := fun W h => (hV.upto h.1 hlB (Nat.le_refl _)).1.2.2.2.2
  have Hs := Lib.hid (show ∀ W, WdS w w.heap.size (.int .i64 k) (.int .i64 n) (.string s) (.slice cA cn cc) (.slice kA kn kc) W → Shows W B 5 A m (l.flatMap VT.cells) from fun W h => hS.below (h.1.mono hB))
  clear hA hV hS hB hlA hlB
  go_enter Tryd.func26, Tryd.ntmps26
  go_upto_region 1 with fail
  generalize ((w.alloc (.cells #[.int .i64 k, .int .i64 n, .string s, .slice cA cn cc, .slice kA kn kc] 25)).alloc (.cells #[.int .i64 0, .int .i64 0, .string ⟨#[]⟩, .slice none 0 0, .slice none 0 0] 25)) = W1 at *
  generalize hg0 : w.heap.size = g0 at *
  refine wp_region_held_drew (S := fun W => WdS w g0 (.int .i64 k) (.int .i64 n) (.string s) (.slice cA cn cc) (.slice kA kn kc) W) (by kernel_rfl) (hW0.later (below_drewN (Below.refl _ _) 1)) (fun hHeld => ?_)
  refine rg_in 1 rfl (by kernel_rfl) (by kernel_rfl) (by kernel_rfl) (by rfl) (v := ?_) (fun _ _ _ h => h) hHeld (fun w hSw => ?_) ?_
  rotate_left
  · (try dsimp only at hSw); go_simp <;> (with_reducible rfl)
  (try simp only [Act.put, List.setIfInBounds_toArray, List.set_cons_zero, List.set_cons_succ])
  refine rg_in 3 rfl (by kernel_rfl) (by kernel_rfl) (by kernel_rfl) (by rfl) (v := ?_) (fun _ _ _ h => h) hHeld (fun w hSw => ?_) ?_
  rotate_left
  · (try dsimp only at hSw); go_simp <;> (with_reducible rfl)
  (try simp only [Act.put, List.setIfInBounds_toArray, List.set_cons_zero, List.set_cons_succ])
  refine rg_in 6 rfl (by kernel_rfl) (by kernel_rfl) (by kernel_rfl) (by rfl) (v := ?_) (fun _ _ _ h => h) hHeld (fun w hSw => ?_) ?_
  rotate_left
  · (try dsimp only at hSw); go_simp <;> (with_reducible rfl)
  (try simp only [Act.put, List.setIfInBounds_toArray, List.set_cons_zero, List.set_cons_succ])
  refine wpAnyH_ready (rs := [0, 4, 7]) (by kernel_rfl) (by simp) ?_
  refine rg_cons rfl (by rfl) (fun K hK => ?_) ?_
  · refine step_row0X 22 25 rfl (g0 + 2) 5 iV Tryd.underlying22 hiV hHeld.two ?_
    intro g100 w100 hge100 own100 hl100 hb0
    refine hK.out _ _ (hHeld.later hb0) (fun hHeld => ?_)
    clear hK K
    (try simp only [Act.put, List.setIfInBounds_toArray, List.set_cons_zero, List.set_cons_succ])
    refine wpAnyH_ready (rs := [2, 4, 7]) (by kernel_rfl) (by simp) ?_
    refine rg_cons rfl (by rfl) (fun K hK => ?_) ?_
    · refine step_app0X _ _ 22 rfl (g0 + 2) 25 iV _ 5 _ Tryd.underlying22 hiV hzV hsV hbV rfl (by decide) g100 rfl (own_later own100 (Below.refl _ _)) _ _ _ _ _ rfl (Hs.out _ hHeld) C1l.out (by omega) (by omega) hHeld.two ?_
      intro A102 c102 w102 hap102 own102 hb2
      refine hK.out _ _ (hHeld.later hb2) (fun hHeld => ?_)
      clear hK K
      (try simp only [Act.put, List.setIfInBounds_toArray, List.set_cons_zero, List.set_cons_succ])
      refine wpAnyH_ready (rs := [4, 7]) (by kernel_rfl) (by simp) ?_
      refine rg_cons rfl (by rfl) (fun K hK => ?_) ?_
      · refine step_rowN 22 25 1 _ rfl 5 iV _ Tryd.underlying22 hiV hzV hsV #[.int .i64 k, .int .i64 n, .string s, .slice cA cn cc, .slice kA kn kc] (fillV1 _ _ _ _ _ rfl) rfl (by decide) (by decide) ?_
        intro g104 w104 hge104 sh104 hl104 hb4
        refine hK.out _ _ (hHeld.later hb4) (fun hHeld => ?_)
        clear hK K
        (try simp only [Act.put, List.setIfInBounds_toArray, List.set_cons_zero, List.set_cons_succ])
        refine wpAnyH_ready (rs := [5, 7]) (by kernel_rfl) (by simp) ?_
        refine rg_cons rfl (by rfl) (fun K hK => ?_) ?_
        · refine wp_append_shows _ _ _ 22 rfl (g0 + 2) 25 iV _ 5 _ Tryd.underlying22 hiV hzV hsV hbV rfl (by decide) _ _ _ rfl (own_later own102 hb4) _ _ _ _ _ rfl (sh104.below ((Below.refl _ _).mono hl104)) C1v.out (by omega) (by omega) hHeld.two ?_
          intro A105 c105 w105 own105 hg5 hB5
          refine hK.out _ _ (hHeld.grown hB5) (fun hHeld => ?_)
          clear hK K
          (try simp only [Act.put, List.setIfInBounds_toArray, List.set_cons_zero, List.set_cons_succ])
          refine rg_do 7 rfl (by kernel_rfl) (by rfl) (fun K hK => ?_)
          refine step_rowN 22 25 1 _ rfl 5 iV _ Tryd.underlying22 hiV hzV hsV #[.int .i64 k', .int .i64 n', .string s', .slice cA' cn' cc', .slice kA' kn' kc'] (fillV1 _ _ _ _ _ rfl) rfl (by decide) (by decide) ?_
          intro g107 w107 hge107 sh107 hl107 hb7
          refine hK.out _ _ (hHeld.later hb7) (fun hHeld => ?_)
          clear hK K
          (try simp only [Act.put, List.setIfInBounds_toArray, List.set_cons_zero, List.set_cons_succ])
          refine rg_do 8 rfl (by kernel_rfl) (by rfl) (fun K hK => ?_)
          refine wp_append_shows _ _ _ 22 rfl (g0 + 2) 25 iV _ 5 _ Tryd.underlying22 hiV hzV hsV hbV rfl (by decide) _ _ _ rfl (own_later own105 hb7) _ _ _ _ _ rfl (sh107.below ((Below.refl _ _).mono hl107)) C1b.out (by omega) (by omega) hHeld.two ?_
          intro A108 c108 w108 own108 hg8 hB8
          refine hK.out _ _ (hHeld.grown hB8) (fun hHeld => ?_)
          clear hK K
          (try simp only [Act.put, List.setIfInBounds_toArray, List.set_cons_zero, List.set_cons_succ])
          refine rg_do 9 rfl (by kernel_rfl) (by rfl) (fun K hK => ?_)
          go_simp
          (go_at_call 27; (with_reducible refine (list1_any _ _ _ _).mono ?_); (rintro e w109 ⟨rfl, hb9⟩))
          refine hK.out _ _ (hHeld.later hb9) (fun hHeld => ?_)
          clear hK K
          (try simp only [Act.put, List.setIfInBounds_toArray, List.set_cons_zero, List.set_cons_succ])
          refine rg_do 10 rfl (by kernel_rfl) (by rfl) (fun K hK => ?_)
          have hO10 : World.ownsRow (((((w109.setCell ⟨g0 + 1, 0, none⟩ (.int .i64 5)).setCell ⟨g0 + 1, 1, none⟩ (.int .i64 0)).setCell ⟨g0 + 1, 2, none⟩ (.string ⟨#[]⟩)).setCell ⟨g0 + 1, 3, none⟩ (.slice A108 (m + 1 + 1) c108)).setCell ⟨g0 + 1, 4, none⟩ (.slice none 0 0)) (g0 + 2) 25 5 (.slice A108 (m + 1 + 1) c108) (m + 1 + 1) ((l.flatMap VT.cells ++ [.int .i64 k, .int .i64 n, .string s, .slice cA cn cc, .slice kA kn kc]) ++ [.int .i64 k', .int .i64 n', .string s', .slice cA' cn' cc', .slice kA' kn' kc']) := own_set5 (own_later own108 hb9) (by omega)
          have hS10 := hHeld.stored 5 0 ⟨#[]⟩ A108 (m + 1 + 1) c108 none 0 0
          obtain ⟨rk, rn, rs, rA, rnn, rc, rK, rkn, rkc, hRb⟩ := hHeld.2.2
          have hV10 := VFive.set5 hRb (a' := .int .i64 5) (b' := .int .i64 0) (c' := .string ⟨#[]⟩) (d' := .slice A108 (m + 1 + 1) c108) (e' := .slice none 0 0)
          obtain ⟨⟨q0, q1, q2, q3, q4⟩, ⟨f0, f1, f2, f3, f4⟩⟩ := hRb
          go_simp
          clear q0 q1 q2 q3 q4 f0 f1 f2 f3 f4
          generalize (((((w109.setCell ⟨g0 + 1, 0, none⟩ (.int .i64 5)).setCell ⟨g0 + 1, 1, none⟩ (.int .i64 0)).setCell ⟨g0 + 1, 2, none⟩ (.string ⟨#[]⟩)).setCell ⟨g0 + 1, 3, none⟩ (.slice A108 (m + 1 + 1) c108)).setCell ⟨g0 + 1, 4, none⟩ (.slice none 0 0)) = w110 at hV10 hO10 hS10 ⊢
          refine hK.out _ _ hS10 (fun hHeld => ?_)
          clear hK K
          (try simp only [Act.put, List.setIfInBounds_toArray, List.set_cons_zero, List.set_cons_succ])
          refine wpAnyH_done (by kernel_rfl) ?_ _
          obtain ⟨⟨q0, q1, q2, q3, q4⟩, -⟩ := hV10
          go_wp2
          refine bodyPost_ret (v := .agg #[.int .i64 5, .int .i64 0, .string ⟨#[]⟩, .slice A108 (m + 1 + 1) c108, .slice none 0 0]) ?_ rfl ⟨A108, c108, rfl, by rw [List.append_assoc] at hO10; exact Lib.hid (own_base hO10 (Nat.le_add_right _ _)), by first | exact hS10.1 | (rw [hg0]; exact hS10.1)⟩
          simp [results, Tryd.results26, go_sem, *]
        refine rg_cons rfl (by rfl) (fun K hK => ?_) ?_
        · refine step_rowN 22 25 1 _ rfl 5 iV _ Tryd.underlying22 hiV hzV hsV #[.int .i64 k', .int .i64 n', .string s', .slice cA' cn' cc', .slice kA' kn' kc'] (fillV1 _ _ _ _ _ rfl) rfl (by decide) (by decide) ?_
          intro g107 w107 hge107 sh107 hl107 hb7
          refine hK.out _ _ (hHeld.later hb7) (fun hHeld => ?_)
          clear hK K
          (try simp only [Act.put, List.setIfInBounds_toArray, List.set_cons_zero, List.set_cons_succ])
          refine rg_do 5 rfl (by kernel_rfl) (by rfl) (fun K hK => ?_)
          refine wp_append_shows _ _ _ 22 rfl (g0 + 2) 25 iV _ 5 _ Tryd.underlying22 hiV hzV hsV hbV rfl (by decide) _ _ _ rfl (own_later own102 (bel_next hb4 hb7)) _ _ _ _ _ rfl (sh104.below (hb7.mono hl104)) C1v.out (by omega) (by omega) hHeld.two ?_
          intro A105 c105 w105 own105 hg5 hB5
          have sh7x := (sh107.below ((Below.refl _ _).mono hl107)).grown hg5 (own_ltW own102 g107 (by have z0 := hb0.size; have z2 := hb2.size; have z4 := hb4.size; have z7 := hb7.size; omega)) (by have z0 := hb0.size; have z2 := hb2.size; have z4 := hb4.size; have z7 := hb7.size; omega)
          refine hK.out _ _ (hHeld.grown hB5) (fun hHeld => ?_)
          clear hK K
          (try simp only [Act.put, List.setIfInBounds_toArray, List.set_cons_zero, List.set_cons_succ])
          refine rg_do 8 rfl (by kernel_rfl) (by rfl) (fun K hK => ?_)
          refine wp_append_shows _ _ _ 22 rfl (g0 + 2) 25 iV _ 5 _ Tryd.underlying22 hiV hzV hsV hbV rfl (by decide) _ _ _ rfl (own_later own105 (Below.refl _ _)) _ _ _ _ _ rfl (sh7x.below ((Below.refl _ _).mono (by have z0 := hb0.size; have z2 := hb2.size; have z4 := hb4.size; have z7 := hb7.size; have z5 := hg5.size; omega))) C1b.out (by omega) (by omega) hHeld.two ?_
          intro A108 c108 w108 own108 hg8 hB8
          refine hK.out _ _ (hHeld.grown hB8) (fun hHeld => ?_)
          clear hK K
          (try simp only [Act.put, List.setIfInBounds_toArray, List.set_cons_zero, List.set_cons_succ])
          refine rg_do 9 rfl (by kernel_rfl) (by rfl) (fun K hK => ?_)
          go_simp
          (go_at_call 27; (with_reducible refine (list1_any _ _ _ _).mono ?_); (rintro e w109 ⟨rfl, hb9⟩))
          refine hK.out _ _ (hHeld.later hb9) (fun hHeld => ?_)
          clear hK K
          (try simp only [Act.put, List.setIfInBounds_toArray, List.set_cons_zero, List.set_cons_succ])
          refine rg_do 10 rfl (by kernel_rfl) (by rfl) (fun K hK => ?_)
          have hO10 : World.ownsRow (((((w109.setCell ⟨g0 + 1, 0, none⟩ (.int .i64 5)).setCell ⟨g0 + 1, 1, none⟩ (.int .i64 0)).setCell ⟨g0 + 1, 2, none⟩ (.string ⟨#[]⟩)).setCell ⟨g0 + 1, 3, none⟩ (.slice A108 (m + 1 + 1) c108)).setCell ⟨g0 + 1, 4, none⟩ (.slice none 0 0)) (g0 + 2) 25 5 (.slice A108 (m + 1 + 1) c108) (m + 1 + 1) ((l.flatMap VT.cells ++ [.int .i64 k, .int .i64 n, .string s, .slice cA cn cc, .slice kA kn kc]) ++ [.int .i64 k', .int .i64 n', .string s', .slice cA' cn' cc', .slice kA' kn' kc']) := own_set5 (own_later own108 hb9) (by omega)
          have hS10 := hHeld.stored 5 0 ⟨#[]⟩ A108 (m + 1 + 1) c108 none 0 0
          obtain ⟨rk, rn, rs, rA, rnn, rc, rK, rkn, rkc, hRb⟩ := hHeld.2.2
          have hV10 := VFive.set5 hRb (a' := .int .i64 5) (b' := .int .i64 0) (c' := .string ⟨#[]⟩) (d' := .slice A108 (m + 1 + 1) c108) (e' := .slice none 0 0)
          obtain ⟨⟨q0, q1, q2, q3, q4⟩, ⟨f0, f1, f2, f3, f4⟩⟩ := hRb
          go_simp
          clear q0 q1 q2 q3 q4 f0 f1 f2 f3 f4
          generalize (((((w109.setCell ⟨g0 + 1, 0, none⟩ (.int .i64 5)).setCell ⟨g0 + 1, 1, none⟩ (.int .i64 0)).setCell ⟨g0 + 1, 2, none⟩ (.string ⟨#[]⟩)).setCell ⟨g0 + 1, 3, none⟩ (.slice A108 (m + 1 + 1) c108)).setCell ⟨g0 + 1, 4, none⟩ (.slice none 0 0)) = w110 at hV10 hO10 hS10 ⊢
          refine hK.out _ _ hS10 (fun hHeld => ?_)
          clear hK K
          (try simp only [Act.put, List.setIfInBounds_toArray, List.set_cons_zero, List.set_cons_succ])
          refine wpAnyH_done (by kernel_rfl) ?_ _
          obtain ⟨⟨q0, q1, q2, q3, q4⟩, -⟩ := hV10
          go_wp2
          refine bodyPost_ret (v := .agg #[.int .i64 5, .int .i64 0, .string ⟨#[]⟩, .slice A108 (m + 1 + 1) c108, .slice none 0 0]) ?_ rfl ⟨A108, c108, rfl, by rw [List.append_assoc] at hO10; exact Lib.hid (own_base hO10 (Nat.le_add_right _ _)), by first | exact hS10.1 | (rw [hg0]; exact hS10.1)⟩
          simp [results, Tryd.results26, go_sem, *]
        exact AllReadyH.nil
      refine rg_cons rfl (by rfl) (fun K hK => ?_) ?_
      · refine step_rowN 22 25 1 _ rfl 5 iV _ Tryd.underlying22 hiV hzV hsV #[.int .i64 k', .int .i64 n', .string s', .slice cA' cn' cc', .slice kA' kn' kc'] (fillV1 _ _ _ _ _ rfl) rfl (by decide) (by decide) ?_
        intro g107 w107 hge107 sh107 hl107 hb7
        refine hK.out _ _ (hHeld.later hb7) (fun hHeld => ?_)
        clear hK K
        (try simp only [Act.put, List.setIfInBounds_toArray, List.set_cons_zero, List.set_cons_succ])
        refine rg_do 4 rfl (by kernel_rfl) (by rfl) (fun K hK => ?_)
        refine step_rowN 22 25 1 _ rfl 5 iV _ Tryd.underlying22 hiV hzV hsV #[.int .i64 k, .int .i64 n, .string s, .slice cA cn cc, .slice kA kn kc] (fillV1 _ _ _ _ _ rfl) rfl (by decide) (by decide) ?_
        intro g104 w104 hge104 sh104 hl104 hb4
        refine hK.out _ _ (hHeld.later hb4) (fun hHeld => ?_)
        clear hK K
        (try simp only [Act.put, List.setIfInBounds_toArray, List.set_cons_zero, List.set_cons_succ])
        refine rg_do 5 rfl (by kernel_rfl) (by rfl) (fun K hK => ?_)
        refine wp_append_shows _ _ _ 22 rfl (g0 + 2) 25 iV _ 5 _ Tryd.underlying22 hiV hzV hsV hbV rfl (by decide) _ _ _ rfl (own_later own102 (bel_next hb7 hb4)) _ _ _ _ _ rfl (sh104.below ((Below.refl _ _).mono hl104)) C1v.out (by omega) (by omega) hHeld.two ?_
        intro A105 c105 w105 own105 hg5 hB5
        have sh7x := (sh107.below (hb4.mono hl107)).grown hg5 (own_ltW own102 g107 (by have z0 := hb0.size; have z2 := hb2.size; have z7 := hb7.size; have z4 := hb4.size; omega)) (by have z0 := hb0.size; have z2 := hb2.size; have z7 := hb7.size; have z4 := hb4.size; omega)
        refine hK.out _ _ (hHeld.grown hB5) (fun hHeld => ?_)
        clear hK K
        (try simp only [Act.put, List.setIfInBounds_toArray, List.set_cons_zero, List.set_cons_succ])
        refine rg_do 8 rfl (by kernel_rfl) (by rfl) (fun K hK => ?_)
        refine wp_append_shows _ _ _ 22 rfl (g0 + 2) 25 iV _ 5 _ Tryd.underlying22 hiV hzV hsV hbV rfl (by decide) _ _ _ rfl (own_later own105 (Below.refl _ _)) _ _ _ _ _ rfl (sh7x.below ((Below.refl _ _).mono (by have z0 := hb0.size; have z2 := hb2.size; have z7 := hb7.size; have z4 := hb4.size; have z5 := hg5.size; omega))) C1b.out (by omega) (by omega) hHeld.two ?_
        intro A108 c108 w108 own108 hg8 hB8
        refine hK.out _ _ (hHeld.grown hB8) (fun hHeld => ?_)
        clear hK K
        (try simp only [Act.put, List.setIfInBounds_toArray, List.set_cons_zero, List.set_cons_succ])
        refine rg_do 9 rfl (by kernel_rfl) (by rfl) (fun K hK => ?_)
        go_simp
        (go_at_call 27; (with_reducible refine (list1_any _ _ _ _).mono ?_); (rintro e w109 ⟨rfl, hb9⟩))
        refine hK.out _ _ (hHeld.later hb9) (fun hHeld => ?_)
        clear hK K
        (try simp only [Act.put, List.setIfInBounds_toArray, List.set_cons_zero, List.set_cons_succ])
        refine rg_do 10 rfl (by kernel_rfl) (by rfl) (fun K hK => ?_)
        have hO10 : World.ownsRow (((((w109.setCell ⟨g0 + 1, 0, none⟩ (.int .i64 5)).setCell ⟨g0 + 1, 1, none⟩ (.int .i64 0)).setCell ⟨g0 + 1, 2, none⟩ (.string ⟨#[]⟩)).setCell ⟨g0 + 1, 3, none⟩ (.slice A108 (m + 1 + 1) c108)).setCell ⟨g0 + 1, 4, none⟩ (.slice none 0 0)) (g0 + 2) 25 5 (.slice A108 (m + 1 + 1) c108) (m + 1 + 1) ((l.flatMap VT.cells ++ [.int .i64 k, .int .i64 n, .string s, .slice cA cn cc, .slice kA kn kc]) ++ [.int .i64 k', .int .i64 n', .string s', .slice cA' cn' cc', .slice kA' kn' kc']) := own_set5 (own_later own108 hb9) (by omega)
        have hS10 := hHeld.stored 5 0 ⟨#[]⟩ A108 (m + 1 + 1) c108 none 0 0
        obtain ⟨rk, rn, rs, rA, rnn, rc, rK, rkn, rkc, hRb⟩ := hHeld.2.2
        have hV10 := VFive.set5 hRb (a' := .int .i64 5) (b' := .int .i64 0) (c' := .string ⟨#[]⟩) (d' := .slice A108 (m + 1 + 1) c108) (e' := .slice none 0 0)
        obtain ⟨⟨q0, q1, q2, q3, q4⟩, ⟨f0, f1, f2, f3, f4⟩⟩ := hRb
        go_simp
        clear q0 q1 q2 q3 q4 f0 f1 f2 f3 f4
        generalize (((((w109.setCell ⟨g0 + 1, 0, none⟩ (.int .i64 5)).setCell ⟨g0 + 1, 1, none⟩ (.int .i64 0)).setCell ⟨g0 + 1, 2, none⟩ (.string ⟨#[]⟩)).setCell ⟨g0 + 1, 3, none⟩ (.slice A108 (m + 1 + 1) c108)).setCell ⟨g0 + 1, 4, none⟩ (.slice none 0 0)) = w110 at hV10 hO10 hS10 ⊢
        refine hK.out _ _ hS10 (fun hHeld => ?_)
        clear hK K
        (try simp only [Act.put, List.setIfInBounds_toArray, List.set_cons_zero, List.set_cons_succ])
        refine wpAnyH_done (by kernel_rfl) ?_ _
        obtain ⟨⟨q0, q1, q2, q3, q4⟩, -⟩ := hV10
        go_wp2
        refine bodyPost_ret (v := .agg #[.int .i64 5, .int .i64 0, .string ⟨#[]⟩, .slice A108 (m + 1 + 1) c108, .slice none 0 0]) ?_ rfl ⟨A108, c108, rfl, by rw [List.append_assoc] at hO10; exact Lib.hid (own_base hO10 (Nat.le_add_right _ _)), by first | exact hS10.1 | (rw [hg0]; exact hS10.1)⟩
        simp [results, Tryd.results26, go_sem, *]
      exact AllReadyH.nil
    refine rg_cons rfl (by rfl) (fun K hK => ?_) ?_
    · refine step_rowN 22 25 1 _ rfl 5 iV _ Tryd.underlying22 hiV hzV hsV #[.int .i64 k, .int .i64 n, .string s, .slice cA cn cc, .slice kA kn kc] (fillV1 _ _ _ _ _ rfl) rfl (by decide) (by decide) ?_
      intro g104 w104 hge104 sh104 hl104 hb4
      refine hK.out _ _ (hHeld.later hb4) (fun hHeld => ?_)
      clear hK K
      (try simp only [Act.put, List.setIfInBounds_toArray, List.set_cons_zero, List.set_cons_succ])
      refine wpAnyH_ready (rs := [2, 7]) (by kernel_rfl) (by simp) ?_
      refine rg_cons rfl (by rfl) (fun K hK => ?_) ?_
      · refine step_app0X _ _ 22 rfl (g0 + 2) 25 iV _ 5 _ Tryd.underlying22 hiV hzV hsV hbV rfl (by decide) g100 rfl (own_later own100 hb4) _ _ _ _ _ rfl (Hs.out _ hHeld) C1l.out (by omega) (by omega) hHeld.two ?_
        intro A102 c102 w102 hap102 own102 hb2
        refine hK.out _ _ (hHeld.later hb2) (fun hHeld => ?_)
        clear hK K
        (try simp only [Act.put, List.setIfInBounds_toArray, List.set_cons_zero, List.set_cons_succ])
        refine wpAnyH_ready (rs := [5, 7]) (by kernel_rfl) (by simp) ?_
        refine rg_cons rfl (by rfl) (fun K hK => ?_) ?_
        · refine wp_append_shows _ _ _ 22 rfl (g0 + 2) 25 iV _ 5 _ Tryd.underlying22 hiV hzV hsV hbV rfl (by decide) _ _ _ rfl (own_later own102 (Below.refl _ _)) _ _ _ _ _ rfl (sh104.below (hb2.mono hl104)) C1v.out (by omega) (by omega) hHeld.two ?_
          intro A105 c105 w105 own105 hg5 hB5
          refine hK.out _ _ (hHeld.grown hB5) (fun hHeld => ?_)
          clear hK K
          (try simp only [Act.put, List.setIfInBounds_toArray, List.set_cons_zero, List.set_cons_succ])
          refine rg_do 7 rfl (by kernel_rfl) (by rfl) (fun K hK => ?_)
          refine step_rowN 22 25 1 _ rfl 5 iV _ Tryd.underlying22 hiV hzV hsV #[.int .i64 k', .int .i64 n', .string s', .slice cA' cn' cc', .slice kA' kn' kc'] (fillV1 _ _ _ _ _ rfl) rfl (by decide) (by decide) ?_
          intro g107 w107 hge107 sh107 hl107 hb7
          refine hK.out _ _ (hHeld.later hb7) (fun hHeld => ?_)
          clear hK K
          (try simp only [Act.put, List.setIfInBounds_toArray, List.set_cons_zero, List.set_cons_succ])
          refine rg_do 8 rfl (by kernel_rfl) (by rfl) (fun K hK => ?_)
          refine wp_append_shows _ _ _ 22 rfl (g0 + 2) 25 iV _ 5 _ Tryd.underlying22 hiV hzV hsV hbV rfl (by decide) _ _ _ rfl (own_later own105 hb7) _ _ _ _ _ rfl (sh107.below ((Below.refl _ _).mono hl107)) C1b.out (by omega) (by omega) hHeld.two ?_
          intro A108 c108 w108 own108 hg8 hB8
          refine hK.out _ _ (hHeld.grown hB8) (fun hHeld => ?_)
          clear hK K
          (try simp only [Act.put, List.setIfInBounds_toArray, List.set_cons_zero, List.set_cons_succ])
          refine rg_do 9 rfl (by kernel_rfl) (by rfl) (fun K hK => ?_)
          go_simp
          (go_at_call 27; (with_reducible refine (list1_any _ _ _ _).mono ?_); (rintro e w109 ⟨rfl, hb9⟩))
          refine hK.out _ _ (hHeld.later hb9) (fun hHeld => ?_)
          clear hK K
          (try simp only [Act.put, List.setIfInBounds_toArray, List.set_cons_zero, List.set_cons_succ])
          refine rg_do 10 rfl (by kernel_rfl) (by rfl) (fun K hK => ?_)
          have hO10 : World.ownsRow (((((w109.setCell ⟨g0 + 1, 0, none⟩ (.int .i64 5)).setCell ⟨g0 + 1, 1, none⟩ (.int .i64 0)).setCell ⟨g0 + 1, 2, none⟩ (.string ⟨#[]⟩)).setCell ⟨g0 + 1, 3, none⟩ (.slice A108 (m + 1 + 1) c108)).setCell ⟨g0 + 1, 4, none⟩ (.slice none 0 0)) (g0 + 2) 25 5 (.slice A108 (m + 1 + 1) c108) (m + 1 + 1) ((l.flatMap VT.cells ++ [.int .i64 k, .int .i64 n, .string s, .slice cA cn cc, .slice kA kn kc]) ++ [.int .i64 k', .int .i64 n', .string s', .slice cA' cn' cc', .slice kA' kn' kc']) := own_set5 (own_later own108 hb9) (by omega)
          have hS10 := hHeld.stored 5 0 ⟨#[]⟩ A108 (m + 1 + 1) c108 none 0 0
          obtain ⟨rk, rn, rs, rA, rnn, rc, rK, rkn, rkc, hRb⟩ := hHeld.2.2
          have hV10 := VFive.set5 hRb (a' := .int .i64 5) (b' := .int .i64 0) (c' := .string ⟨#[]⟩) (d' := .slice A108 (m + 1 + 1) c108) (e' := .slice none 0 0)
          obtain ⟨⟨q0, q1, q2, q3, q4⟩, ⟨f0, f1, f2, f3, f4⟩⟩ := hRb
          go_simp
          clear q0 q1 q2 q3 q4 f0 f1 f2 f3 f4
          generalize (((((w109.setCell ⟨g0 + 1, 0, none⟩ (.int .i64 5)).setCell ⟨g0 + 1, 1, none⟩ (.int .i64 0)).setCell ⟨g0 + 1, 2, none⟩ (.string ⟨#[]⟩)).setCell ⟨g0 + 1, 3, none⟩ (.slice A108 (m + 1 + 1) c108)).setCell ⟨g0 + 1, 4, none⟩ (.slice none 0 0)) = w110 at hV10 hO10 hS10 ⊢
          refine hK.out _ _ hS10 (fun hHeld => ?_)
          clear hK K
          (try simp only [Act.put, List.setIfInBounds_toArray, List.set_cons_zero, List.set_cons_succ])
          refine wpAnyH_done (by kernel_rfl) ?_ _
          obtain ⟨⟨q0, q1, q2, q3, q4⟩, -⟩ := hV10
          go_wp2
          refine bodyPost_ret (v := .agg #[.int .i64 5, .int .i64 0, .string ⟨#[]⟩, .slice A108 (m + 1 + 1) c108, .slice none 0 0]) ?_ rfl ⟨A108, c108, rfl, by rw [List.append_assoc] at hO10; exact Lib.hid (own_base hO10 (Nat.le_add_right _ _)), by first | exact hS10.1 | (rw [hg0]; exact hS10.1)⟩
          simp [results, Tryd.results26, go_sem, *]
        refine rg_cons rfl (by rfl) (fun K hK => ?_) ?_
        · refine step_rowN 22 25 1 _ rfl 5 iV _ Tryd.underlying22 hiV hzV hsV #[.int .i64 k', .int .i64 n', .string s', .slice cA' cn' cc', .slice kA' kn' kc'] (fillV1 _ _ _ _ _ rfl) rfl (by decide) (by decide) ?_
          intro g107 w107 hge107 sh107 hl107 hb7
          refine hK.out _ _ (hHeld.later hb7) (fun hHeld => ?_)
          clear hK K
          (try simp only [Act.put, List.setIfInBounds_toArray, List.set_cons_zero, List.set_cons_succ])
          refine rg_do 5 rfl (by kernel_rfl) (by rfl) (fun K hK => ?_)
          refine wp_append_shows _ _ _ 22 rfl (g0 + 2) 25 iV _ 5 _ Tryd.underlying22 hiV hzV hsV hbV rfl (by decide) _ _ _ rfl (own_later own102 hb7) _ _ _ _ _ rfl (sh104.below ((bel_next hb2 hb7).mono hl104)) C1v.out (by omega) (by omega) hHeld.two ?_
          intro A105 c105 w105 own105 hg5 hB5
          have sh7x := (sh107.below ((Below.refl _ _).mono hl107)).grown hg5 (own_ltW own102 g107 (by have z0 := hb0.size; have z4 := hb4.size; have z2 := hb2.size; have z7 := hb7.size; omega)) (by have z0 := hb0.size; have z4 := hb4.size; have z2 := hb2.size; have z7 := hb7.size; omega)
          refine hK.out _ _ (hHeld.grown hB5) (fun hHeld => ?_)
          clear hK K
          (try simp only [Act.put, List.setIfInBounds_toArray, List.set_cons_zero, List.set_cons_succ])
          refine rg_do 8 rfl (by kernel_rfl) (by rfl) (fun K hK => ?_)
          refine wp_append_shows _ _ _ 22 rfl (g0 + 2) 25 iV _ 5 _ Tryd.underlying22 hiV hzV hsV hbV rfl (by decide) _ _ _ rfl (own_later own105 (Below.refl _ _)) _ _ _ _ _ rfl (sh7x.below ((Below.refl _ _).mono (by have z0 := hb0.size; have z4 := hb4.size; have z2 := hb2.size; have z7 := hb7.size; have z5 := hg5.size; omega))) C1b.out (by omega) (by omega) hHeld.two ?_
          intro A108 c108 w108 own108 hg8 hB8
          refine hK.out _ _ (hHeld.grown hB8) (fun hHeld => ?_)
          clear hK K
          (try simp only [Act.put, List.setIfInBounds_toArray, List.set_cons_zero, List.set_cons_succ])
          refine rg_do 9 rfl (by kernel_rfl) (by rfl) (fun K hK => ?_)
          go_simp
          (go_at_call 27; (with_reducible refine (list1_any _ _ _ _).mono ?_); (rintro e w109 ⟨rfl, hb9⟩))
          refine hK.out _ _ (hHeld.later hb9) (fun hHeld => ?_)
          clear hK K
          (try simp only [Act.put, List.setIfInBounds_toArray, List.set_cons_zero, List.set_cons_succ])
          refine rg_do 10 rfl (by kernel_rfl) (by rfl) (fun K hK => ?_)
          have hO10 : World.ownsRow (((((w109.setCell ⟨g0 + 1, 0, none⟩ (.int .i64 5)).setCell ⟨g0 + 1, 1, none⟩ (.int .i64 0)).setCell ⟨g0 + 1, 2, none⟩ (.string ⟨#[]⟩)).setCell ⟨g0 + 1, 3, none⟩ (.slice A108 (m + 1 + 1) c108)).setCell ⟨g0 + 1, 4, none⟩ (.slice none 0 0)) (g0 + 2) 25 5 (.slice A108 (m + 1 + 1) c108) (m + 1 + 1) ((l.flatMap VT.cells ++ [.int .i64 k, .int .i64 n, .string s, .slice cA cn cc, .slice kA kn kc]) ++ [.int .i64 k', .int .i64 n', .string s', .slice cA' cn' cc', .slice kA' kn' kc']) := own_set5 (own_later own108 hb9) (by omega)
          have hS10 := hHeld.stored 5 0 ⟨#[]⟩ A108 (m + 1 + 1) c108 none 0 0
          obtain ⟨rk, rn, rs, rA, rnn, rc, rK, rkn, rkc, hRb⟩ := hHeld.2.2
          have hV10 := VFive.set5 hRb (a' := .int .i64 5) (b' := .int .i64 0) (c' := .string ⟨#[]⟩) (d' := .slice A108 (m + 1 + 1) c108) (e' := .slice none 0 0)
          obtain ⟨⟨q0, q1, q2, q3, q4⟩, ⟨f0, f1, f2, f3, f4⟩⟩ := hRb
          go_simp
          clear q0 q1 q2 q3 q4 f0 f1 f2 f3 f4
          generalize (((((w109.setCell ⟨g0 + 1, 0, none⟩ (.int .i64 5)).setCell ⟨g0 + 1, 1, none⟩ (.int .i64 0)).setCell ⟨g0 + 1, 2, none⟩ (.string ⟨#[]⟩)).setCell ⟨g0 + 1, 3, none⟩ (.slice A108 (m + 1 + 1) c108)).setCell ⟨g0 + 1, 4, none⟩ (.slice none 0 0)) = w110 at hV10 hO10 hS10 ⊢
          refine hK.out _ _ hS10 (fun hHeld => ?_)
          clear hK K
          (try simp only [Act.put, List.setIfInBounds_toArray, List.set_cons_zero, List.set_cons_succ])
          refine wpAnyH_done (by kernel_rfl) ?_ _
          obtain ⟨⟨q0, q1, q2, q3, q4⟩, -⟩ := hV10
          go_wp2
          refine bodyPost_ret (v := .agg #[.int .i64 5, .int .i64 0, .string ⟨#[]⟩, .slice A108 (m + 1 + 1) c108, .slice none 0 0]) ?_ rfl ⟨A108, c108, rfl, by rw [List.append_assoc] at hO10; exact Lib.hid (own_base hO10 (Nat.le_add_right _ _)), by first | exact hS10.1 | (rw [hg0]; exact hS10.1)⟩
          simp [results, Tryd.results26, go_sem, *]
        exact AllReadyH.nil
      refine rg_cons rfl (by rfl) (fun K hK => ?_) ?_
      · refine step_rowN 22 25 1 _ rfl 5 iV _ Tryd.underlying22 hiV hzV hsV #[.int .i64 k', .int .i64 n', .string s', .slice cA' cn' cc', .slice kA' kn' kc'] (fillV1 _ _ _ _ _ rfl) rfl (by decide) (by decide) ?_
        intro g107 w107 hge107 sh107 hl107 hb7
        refine hK.out _ _ (hHeld.later hb7) (fun hHeld => ?_)
        clear hK K
        (try simp only [Act.put, List.setIfInBounds_toArray, List.set_cons_zero, List.set_cons_succ])
        refine rg_do 2 rfl (by kernel_rfl) (by rfl) (fun K hK => ?_)
        refine step_app0X _ _ 22 rfl (g0 + 2) 25 iV _ 5 _ Tryd.underlying22 hiV hzV hsV hbV rfl (by decide) g100 rfl (own_later own100 (bel_next hb4 hb7)) _ _ _ _ _ rfl (Hs.out _ hHeld) C1l.out (by omega) (by omega) hHeld.two ?_
        intro A102 c102 w102 hap102 own102 hb2
        refine hK.out _ _ (hHeld.later hb2) (fun hHeld => ?_)
        clear hK K
        (try simp only [Act.put, List.setIfInBounds_toArray, List.set_cons_zero, List.set_cons_succ])
        refine rg_do 5 rfl (by kernel_rfl) (by rfl) (fun K hK => ?_)
        refine wp_append_shows _ _ _ 22 rfl (g0 + 2) 25 iV _ 5 _ Tryd.underlying22 hiV hzV hsV hbV rfl (by decide) _ _ _ rfl (own_later own102 (Below.refl _ _)) _ _ _ _ _ rfl (sh104.below ((bel_next hb7 hb2).mono hl104)) C1v.out (by omega) (by omega) hHeld.two ?_
        intro A105 c105 w105 own105 hg5 hB5
        have sh7x := (sh107.below (hb2.mono hl107)).grown hg5 (hap102 g107 (by have z0 := hb0.size; have z4 := hb4.size; have z7 := hb7.size; have z2 := hb2.size; omega) (by have z0 := hb0.size; have z4 := hb4.size; have z7 := hb7.size; have z2 := hb2.size; omega)) (by have z0 := hb0.size; have z4 := hb4.size; have z7 := hb7.size; have z2 := hb2.size; omega)
        refine hK.out _ _ (hHeld.grown hB5) (fun hHeld => ?_)
        clear hK K
        (try simp only [Act.put, List.setIfInBounds_toArray, List.set_cons_zero, List.set_cons_succ])
        refine rg_do 8 rfl (by kernel_rfl) (by rfl) (fun K hK => ?_)
        refine wp_append_shows _ _ _ 22 rfl (g0 + 2) 25 iV _ 5 _ Tryd.underlying22 hiV hzV hsV hbV rfl (by decide) _ _ _ rfl (own_later own105 (Below.refl _ _)) _ _ _ _ _ rfl (sh7x.below ((Below.refl _ _).mono (by have z0 := hb0.size; have z4 := hb4.size; have z7 := hb7.size; have z2 := hb2.size; have z5 := hg5.size; omega))) C1b.out (by omega) (by omega) hHeld.two ?_
        intro A108 c108 w108 own108 hg8 hB8
        refine hK.out _ _ (hHeld.grown hB8) (fun hHeld => ?_)
        clear hK K
        (try simp only [Act.put, List.setIfInBounds_toArray, List.set_cons_zero, List.set_cons_succ])
        refine rg_do 9 rfl (by kernel_rfl) (by rfl) (fun K hK => ?_)
        go_simp
        (go_at_call 27; (with_reducible refine (list1_any _ _ _ _).mono ?_); (rintro e w109 ⟨rfl, hb9⟩))
        refine hK.out _ _ (hHeld.later hb9) (fun hHeld => ?_)
        clear hK K
        (try simp only [Act.put, List.setIfInBounds_toArray, List.set_cons_zero, List.set_cons_succ])
        refine rg_do 10 rfl (by kernel_rfl) (by rfl) (fun K hK => ?_)
        have hO10 : World.ownsRow (((((w109.setCell ⟨g0 + 1, 0, none⟩ (.int .i64 5)).setCell ⟨g0 + 1, 1, none⟩ (.int .i64 0)).setCell ⟨g0 + 1, 2, none⟩ (.string ⟨#[]⟩)).setCell ⟨g0 + 1, 3, none⟩ (.slice A108 (m + 1 + 1) c108)).setCell ⟨g0 + 1, 4, none⟩ (.slice none 0 0)) (g0 + 2) 25 5 (.slice A108 (m + 1 + 1) c108) (m + 1 + 1) ((l.flatMap VT.cells ++ [.int .i64 k, .int .i64 n, .string s, .slice cA cn cc, .slice kA kn kc]) ++ [.int .i64 k', .int .i64 n', .string s', .slice cA' cn' cc', .slice kA' kn' kc']) := own_set5 (own_later own108 hb9) (by omega)
        have hS10 := hHeld.stored 5 0 ⟨#[]⟩ A108 (m + 1 + 1) c108 none 0 0
        obtain ⟨rk, rn, rs, rA, rnn, rc, rK, rkn, rkc, hRb⟩ := hHeld.2.2
        have hV10 := VFive.set5 hRb (a' := .int .i64 5) (b' := .int .i64 0) (c' := .string ⟨#[]⟩) (d' := .slice A108 (m + 1 + 1) c108) (e' := .slice none 0 0)
        obtain ⟨⟨q0, q1, q2, q3, q4⟩, ⟨f0, f1, f2, f3, f4⟩⟩ := hRb
        go_simp
        clear q0 q1 q2 q3 q4 f0 f1 f2 f3 f4
        generalize (((((w109.setCell ⟨g0 + 1, 0, none⟩ (.int .i64 5)).setCell ⟨g0 + 1, 1, none⟩ (.int .i64 0)).setCell ⟨g0 + 1, 2, none⟩ (.string ⟨#[]⟩)).setCell ⟨g0 + 1, 3, none⟩ (.slice A108 (m + 1 + 1) c108)).setCell ⟨g0 + 1, 4, none⟩ (.slice none 0 0)) = w110 at hV10 hO10 hS10 ⊢
        refine hK.out _ _ hS10 (fun hHeld => ?_)
        clear hK K
        (try simp only [Act.put, List.setIfInBounds_toArray, List.set_cons_zero, List.set_cons_succ])
        refine wpAnyH_done (by kernel_rfl) ?_ _
        obtain ⟨⟨q0, q1, q2, q3, q4⟩, -⟩ := hV10
        go_wp2
        refine bodyPost_ret (v := .agg #[.int .i64 5, .int .i64 0, .string ⟨#[]⟩, .slice A108 (m + 1 + 1) c108, .slice none 0 0]) ?_ rfl ⟨A108, c108, rfl, by rw [List.append_assoc] at hO10; exact Lib.hid (own_base hO10 (Nat.le_add_right _ _)), by first | exact hS10.1 | (rw [hg0]; exact hS10.1)⟩
        simp [results, Tryd.results26, go_sem, *]
      exact AllReadyH.nil
    refine rg_cons rfl (by rfl) (fun K hK => ?_) ?_
    · refine step_rowN 22 25 1 _ rfl 5 iV _ Tryd.underlying22 hiV hzV hsV #[.int .i64 k', .int .i64 n', .string s', .slice cA' cn' cc', .slice kA' kn' kc'] (fillV1 _ _ _ _ _ rfl) rfl (by decide) (by decide) ?_
      intro g107 w107 hge107 sh107 hl107 hb7
      refine hK.out _ _ (hHeld.later hb7) (fun hHeld => ?_)
      clear hK K
      (try simp only [Act.put, List.setIfInBounds_toArray, List.set_cons_zero, List.set_cons_succ])
      refine wpAnyH_ready (rs := [2, 4]) (by kernel_rfl) (by simp) ?_
      refine rg_cons rfl (by rfl) (fun K hK => ?_) ?_
      · refine step_app0X _ _ 22 rfl (g0 + 2) 25 iV _ 5 _ Tryd.underlying22 hiV hzV hsV hbV rfl (by decide) g100 rfl (own_later own100 hb7) _ _ _ _ _ rfl (Hs.out _ hHeld) C1l.out (by omega) (by omega) hHeld.two ?_
        intro A102 c102 w102 hap102 own102 hb2
        refine hK.out _ _ (hHeld.later hb2) (fun hHeld => ?_)
        clear hK K
        (try simp only [Act.put, List.setIfInBounds_toArray, List.set_cons_zero, List.set_cons_succ])
        refine rg_do 4 rfl (by kernel_rfl) (by rfl) (fun K hK => ?_)
        refine step_rowN 22 25 1 _ rfl 5 iV _ Tryd.underlying22 hiV hzV hsV #[.int .i64 k, .int .i64 n, .string s, .slice cA cn cc, .slice kA kn kc] (fillV1 _ _ _ _ _ rfl) rfl (by decide) (by decide) ?_
        intro g104 w104 hge104 sh104 hl104 hb4
        refine hK.out _ _ (hHeld.later hb4) (fun hHeld => ?_)
        clear hK K
        (try simp only [Act.put, List.setIfInBounds_toArray, List.set_cons_zero, List.set_cons_succ])
        refine rg_do 5 rfl (by kernel_rfl) (by rfl) (fun K hK => ?_)
        refine wp_append_shows _ _ _ 22 rfl (g0 + 2) 25 iV _ 5 _ Tryd.underlying22 hiV hzV hsV hbV rfl (by decide) _ _ _ rfl (own_later own102 hb4) _ _ _ _ _ rfl (sh104.below ((Below.refl _ _).mono hl104)) C1v.out (by omega) (by omega) hHeld.two ?_
        intro A105 c105 w105 own105 hg5 hB5
        have sh7x := (sh107.below ((bel_next hb2 hb4).mono hl107)).grown hg5 (hap102 g107 (by have z0 := hb0.size; have z7 := hb7.size; have z2 := hb2.size; have z4 := hb4.size; omega) (by have z0 := hb0.size; have z7 := hb7.size; have z2 := hb2.size; have z4 := hb4.size; omega)) (by have z0 := hb0.size; have z7 := hb7.size; have z2 := hb2.size; have z4 := hb4.size; omega)
        refine hK.out _ _ (hHeld.grown hB5) (fun hHeld => ?_)
        clear hK K
        (try simp only [Act.put, List.setIfInBounds_toArray, List.set_cons_zero, List.set_cons_succ])
        refine rg_do 8 rfl (by kernel_rfl) (by rfl) (fun K hK => ?_)
        refine wp_append_shows _ _ _ 22 rfl (g0 + 2) 25 iV _ 5 _ Tryd.underlying22 hiV hzV hsV hbV rfl (by decide) _ _ _ rfl (own_later own105 (Below.refl _ _)) _ _ _ _ _ rfl (sh7x.below ((Below.refl _ _).mono (by have z0 := hb0.size; have z7 := hb7.size; have z2 := hb2.size; have z4 := hb4.size; have z5 := hg5.size; omega))) C1b.out (by omega) (by omega) hHeld.two ?_
        intro A108 c108 w108 own108 hg8 hB8
        refine hK.out _ _ (hHeld.grown hB8) (fun hHeld => ?_)
        clear hK K
        (try simp only [Act.put, List.setIfInBounds_toArray, List.set_cons_zero, List.set_cons_succ])
        refine rg_do 9 rfl (by kernel_rfl) (by rfl) (fun K hK => ?_)
        go_simp
        (go_at_call 27; (with_reducible refine (list1_any _ _ _ _).mono ?_); (rintro e w109 ⟨rfl, hb9⟩))
        refine hK.out _ _ (hHeld.later hb9) (fun hHeld => ?_)
        clear hK K
        (try simp only [Act.put, List.setIfInBounds_toArray, List.set_cons_zero, List.set_cons_succ])
        refine rg_do 10 rfl (by kernel_rfl) (by rfl) (fun K hK => ?_)
        have hO10 : World.ownsRow (((((w109.setCell ⟨g0 + 1, 0, none⟩ (.int .i64 5)).setCell ⟨g0 + 1, 1, none⟩ (.int .i64 0)).setCell ⟨g0 + 1, 2, none⟩ (.string ⟨#[]⟩)).setCell ⟨g0 + 1, 3, none⟩ (.slice A108 (m + 1 + 1) c108)).setCell ⟨g0 + 1, 4, none⟩ (.slice none 0 0)) (g0 + 2) 25 5 (.slice A108 (m + 1 + 1) c108) (m + 1 + 1) ((l.flatMap VT.cells ++ [.int .i64 k, .int .i64 n, .string s, .slice cA cn cc, .slice kA kn kc]) ++ [.int .i64 k', .int .i64 n', .string s', .slice cA' cn' cc', .slice kA' kn' kc']) := own_set5 (own_later own108 hb9) (by omega)
        have hS10 := hHeld.stored 5 0 ⟨#[]⟩ A108 (m + 1 + 1) c108 none 0 0
        obtain ⟨rk, rn, rs, rA, rnn, rc, rK, rkn, rkc, hRb⟩ := hHeld.2.2
        have hV10 := VFive.set5 hRb (a' := .int .i64 5) (b' := .int .i64 0) (c' := .string ⟨#[]⟩) (d' := .slice A108 (m + 1 + 1) c108) (e' := .slice none 0 0)
        obtain ⟨⟨q0, q1, q2, q3, q4⟩, ⟨f0, f1, f2, f3, f4⟩⟩ := hRb
        go_simp
        clear q0 q1 q2 q3 q4 f0 f1 f2 f3 f4
        generalize (((((w109.setCell ⟨g0 + 1, 0, none⟩ (.int .i64 5)).setCell ⟨g0 + 1, 1, none⟩ (.int .i64 0)).setCell ⟨g0 + 1, 2, none⟩ (.string ⟨#[]⟩)).setCell ⟨g0 + 1, 3, none⟩ (.slice A108 (m + 1 + 1) c108)).setCell ⟨g0 + 1, 4, none⟩ (.slice none 0 0)) = w110 at hV10 hO10 hS10 ⊢
        refine hK.out _ _ hS10 (fun hHeld => ?_)
        clear hK K
        (try simp only [Act.put, List.setIfInBounds_toArray, List.set_cons_zero, List.set_cons_succ])
        refine wpAnyH_done (by kernel_rfl) ?_ _
        obtain ⟨⟨q0, q1, q2, q3, q4⟩, -⟩ := hV10
        go_wp2
        refine bodyPost_ret (v := .agg #[.int .i64 5, .int .i64 0, .string ⟨#[]⟩, .slice A108 (m + 1 + 1) c108, .slice none 0 0]) ?_ rfl ⟨A108, c108, rfl, by rw [List.append_assoc] at hO10; exact Lib.hid (own_base hO10 (Nat.le_add_right _ _)), by first | exact hS10.1 | (rw [hg0]; exact hS10.1)⟩
        simp [results, Tryd.results26, go_sem, *]
      refine rg_cons rfl (by rfl) (fun K hK => ?_) ?_
      · refine step_rowN 22 25 1 _ rfl 5 iV _ Tryd.underlying22 hiV hzV hsV #[.int .i64 k, .int .i64 n, .string s, .slice cA cn cc, .slice kA kn kc] (fillV1 _ _ _ _ _ rfl) rfl (by decide) (by decide) ?_
        intro g104 w104 hge104 sh104 hl104 hb4
        refine hK.out _ _ (hHeld.later hb4) (fun hHeld => ?_)
        clear hK K
        (try simp only [Act.put, List.setIfInBounds_toArray, List.set_cons_zero, List.set_cons_succ])
        refine rg_do 2 rfl (by kernel_rfl) (by rfl) (fun K hK => ?_)
        refine step_app0X _ _ 22 rfl (g0 + 2) 25 iV _ 5 _ Tryd.underlying22 hiV hzV hsV hbV rfl (by decide) g100 rfl (own_later own100 (bel_next hb7 hb4)) _ _ _ _ _ rfl (Hs.out _ hHeld) C1l.out (by omega) (by omega) hHeld.two ?_
        intro A102 c102 w102 hap102 own102 hb2
        refine hK.out _ _ (hHeld.later hb2) (fun hHeld => ?_)
        clear hK K
        (try simp only [Act.put, List.setIfInBounds_toArray, List.set_cons_zero, List.set_cons_succ])
        refine rg_do 5 rfl (by kernel_rfl) (by rfl) (fun K hK => ?_)
        refine wp_append_shows _ _ _ 22 rfl (g0 + 2) 25 iV _ 5 _ Tryd.underlying22 hiV hzV hsV hbV rfl (by decide) _ _ _ rfl (own_later own102 (Below.refl _ _)) _ _ _ _ _ rfl (sh104.below (hb2.mono hl104)) C1v.out (by omega) (by omega) hHeld.two ?_
        intro A105 c105 w105 own105 hg5 hB5
        have sh7x := (sh107.below ((bel_next hb4 hb2).mono hl107)).grown hg5 (hap102 g107 (by have z0 := hb0.size; have z7 := hb7.size; have z4 := hb4.size; have z2 := hb2.size; omega) (by have z0 := hb0.size; have z7 := hb7.size; have z4 := hb4.size; have z2 := hb2.size; omega)) (by have z0 := hb0.size; have z7 := hb7.size; have z4 := hb4.size; have z2 := hb2.size; omega)
        refine hK.out _ _ (hHeld.grown hB5) (fun hHeld => ?_)
        clear hK K
        (try simp only [Act.put, List.setIfInBounds_toArray, List.set_cons_zero, List.set_cons_succ])
        refine rg_do 8 rfl (by kernel_rfl) (by rfl) (fun K hK => ?_)
        refine wp_append_shows _ _ _ 22 rfl (g0 + 2) 25 iV _ 5 _ Tryd.underlying22 hiV hzV hsV hbV rfl (by decide) _ _ _ rfl (own_later own105 (Below.refl _ _)) _ _ _ _ _ rfl (sh7x.below ((Below.refl _ _).mono (by have z0 := hb0.size; have z7 := hb7.size; have z4 := hb4.size; have z2 := hb2.size; have z5 := hg5.size; omega))) C1b.out (by omega) (by omega) hHeld.two ?_
        intro A108 c108 w108 own108 hg8 hB8
        refine hK.out _ _ (hHeld.grown hB8) (fun hHeld => ?_)
        clear hK K
        (try simp only [Act.put, List.setIfInBounds_toArray, List.set_cons_zero, List.set_cons_succ])
        refine rg_do 9 rfl (by kernel_rfl) (by rfl) (fun K hK => ?_)
        go_simp
        (go_at_call 27; (with_reducible refine (list1_any _ _ _ _).mono ?_); (rintro e w109 ⟨rfl, hb9⟩))
        refine hK.out _ _ (hHeld.later hb9) (fun hHeld => ?_)
        clear hK K
        (try simp only [Act.put, List.setIfInBounds_toArray, List.set_cons_zero, List.set_cons_succ])
        refine rg_do 10 rfl (by kernel_rfl) (by rfl) (fun K hK => ?_)
        have hO10 : World.ownsRow (((((w109.setCell ⟨g0 + 1, 0, none⟩ (.int .i64 5)).setCell ⟨g0 + 1, 1, none⟩ (.int .i64 0)).setCell ⟨g0 + 1, 2, none⟩ (.string ⟨#[]⟩)).setCell ⟨g0 + 1, 3, none⟩ (.slice A108 (m + 1 + 1) c108)).setCell ⟨g0 + 1, 4, none⟩ (.slice none 0 0)) (g0 + 2) 25 5 (.slice A108 (m + 1 + 1) c108) (m + 1 + 1) ((l.flatMap VT.cells ++ [.int .i64 k, .int .i64 n, .string s, .slice cA cn cc, .slice kA kn kc]) ++ [.int .i64 k', .int .i64 n', .string s', .slice cA' cn' cc', .slice kA' kn' kc']) := own_set5 (own_later own108 hb9) (by omega)
        have hS10 := hHeld.stored 5 0 ⟨#[]⟩ A108 (m + 1 + 1) c108 none 0 0
        obtain ⟨rk, rn, rs, rA, rnn, rc, rK, rkn, rkc, hRb⟩ := hHeld.2.2
        have hV10 := VFive.set5 hRb (a' := .int .i64 5) (b' := .int .i64 0) (c' := .string ⟨#[]⟩) (d' := .slice A108 (m + 1 + 1) c108) (e' := .slice none 0 0)
        obtain ⟨⟨q0, q1, q2, q3, q4⟩, ⟨f0, f1, f2, f3, f4⟩⟩ := hRb
        go_simp
        clear q0 q1 q2 q3 q4 f0 f1 f2 f3 f4
        generalize (((((w109.setCell ⟨g0 + 1, 0, none⟩ (.int .i64 5)).setCell ⟨g0 + 1, 1, none⟩ (.int .i64 0)).setCell ⟨g0 + 1, 2, none⟩ (.string ⟨#[]⟩)).setCell ⟨g0 + 1, 3, none⟩ (.slice A108 (m + 1 + 1) c108)).setCell ⟨g0 + 1, 4, none⟩ (.slice none 0 0)) = w110 at hV10 hO10 hS10 ⊢
        refine hK.out _ _ hS10 (fun hHeld => ?_)
        clear hK K
        (try simp only [Act.put, List.setIfInBounds_toArray, List.set_cons_zero, List.set_cons_succ])
        refine wpAnyH_done (by kernel_rfl) ?_ _
        obtain ⟨⟨q0, q1, q2, q3, q4⟩, -⟩ := hV10
        go_wp2
        refine bodyPost_ret (v := .agg #[.int .i64 5, .int .i64 0, .string ⟨#[]⟩, .slice A108 (m + 1 + 1) c108, .slice none 0 0]) ?_ rfl ⟨A108, c108, rfl, by rw [List.append_assoc] at hO10; exact Lib.hid (own_base hO10 (Nat.le_add_right _ _)), by first | exact hS10.1 | (rw [hg0]; exact hS10.1)⟩
        simp [results, Tryd.results26, go_sem, *]
      exact AllReadyH.nil
    exact AllReadyH.nil
  refine rg_cons rfl (by rfl) (fun K hK => ?_) ?_
  · refine step_rowN 22 25 1 _ rfl 5 iV _ Tryd.underlying22 hiV hzV hsV #[.int .i64 k, .int .i64 n, .string s, .slice cA cn cc, .slice kA kn kc] (fillV1 _ _ _ _ _ rfl) rfl (by decide) (by decide) ?_
    intro g104 w104 hge104 sh104 hl104 hb4
    refine hK.out _ _ (hHeld.later hb4) (fun hHeld => ?_)
    clear hK K
    (try simp only [Act.put, List.setIfInBounds_toArray, List.set_cons_zero, List.set_cons_succ])
    refine wpAnyH_ready (rs := [0, 7]) (by kernel_rfl) (by simp) ?_
    refine rg_cons rfl (by rfl) (fun K hK => ?_) ?_
    · refine step_row0X 22 25 rfl (g0 + 2) 5 iV Tryd.underlying22 hiV hHeld.two ?_
      intro g100 w100 hge100 own100 hl100 hb0
      refine hK.out _ _ (hHeld.later hb0) (fun hHeld => ?_)
      clear hK K
      (try simp only [Act.put, List.setIfInBounds_toArray, List.set_cons_zero, List.set_cons_succ])
      refine wpAnyH_ready (rs := [2, 7]) (by kernel_rfl) (by simp) ?_
      refine rg_cons rfl (by rfl) (fun K hK => ?_) ?_
      · refine step_app0X _ _ 22 rfl (g0 + 2) 25 iV _ 5 _ Tryd.underlying22 hiV hzV hsV hbV rfl (by decide) g100 rfl (own_later own100 (Below.refl _ _)) _ _ _ _ _ rfl (Hs.out _ hHeld) C1l.out (by omega) (by omega) hHeld.two ?_
        intro A102 c102 w102 hap102 own102 hb2
        refine hK.out _ _ (hHeld.later hb2) (fun hHeld => ?_)
        clear hK K
        (try simp only [Act.put, List.setIfInBounds_toArray, List.set_cons_zero, List.set_cons_succ])
        refine wpAnyH_ready (rs := [5, 7]) (by kernel_rfl) (by simp) ?_
        refine rg_cons rfl (by rfl) (fun K hK => ?_) ?_
        · refine wp_append_shows _ _ _ 22 rfl (g0 + 2) 25 iV _ 5 _ Tryd.underlying22 hiV hzV hsV hbV rfl (by decide) _ _ _ rfl (own_later own102 (Below.refl _ _)) _ _ _ _ _ rfl (sh104.below ((bel_next hb0 hb2).mono hl104)) C1v.out (by omega) (by omega) hHeld.two ?_
          intro A105 c105 w105 own105 hg5 hB5
          refine hK.out _ _ (hHeld.grown hB5) (fun hHeld => ?_)
          clear hK K
          (try simp only [Act.put, List.setIfInBounds_toArray, List.set_cons_zero, List.set_cons_succ])
          refine rg_do 7 rfl (by kernel_rfl) (by rfl) (fun K hK => ?_)
          refine step_rowN 22 25 1 _ rfl 5 iV _ Tryd.underlying22 hiV hzV hsV #[.int .i64 k', .int .i64 n', .string s', .slice cA' cn' cc', .slice kA' kn' kc'] (fillV1 _ _ _ _ _ rfl) rfl (by decide) (by decide) ?_
          intro g107 w107 hge107 sh107 hl107 hb7
          refine hK.out _ _ (hHeld.later hb7) (fun hHeld => ?_)
          clear hK K
          (try simp only [Act.put, List.setIfInBounds_toArray, List.set_cons_zero, List.set_cons_succ])
          refine rg_do 8 rfl (by kernel_rfl) (by rfl) (fun K hK => ?_)
          refine wp_append_shows _ _ _ 22 rfl (g0 + 2) 25 iV _ 5 _ Tryd.underlying22 hiV hzV hsV hbV rfl (by decide) _ _ _ rfl (own_later own105 hb7) _ _ _ _ _ rfl (sh107.below ((Below.refl _ _).mono hl107)) C1b.out (by omega) (by omega) hHeld.two ?_
          intro A108 c108 w108 own108 hg8 hB8
          refine hK.out _ _ (hHeld.grown hB8) (fun hHeld => ?_)
          clear hK K
          (try simp only [Act.put, List.setIfInBounds_toArray, List.set_cons_zero, List.set_cons_succ])
          refine rg_do 9 rfl (by kernel_rfl) (by rfl) (fun K hK => ?_)
          go_simp
          (go_at_call 27; (with_reducible refine (list1_any _ _ _ _).mono ?_); (rintro e w109 ⟨rfl, hb9⟩))
          refine hK.out _ _ (hHeld.later hb9) (fun hHeld => ?_)
          clear hK K
          (try simp only [Act.put, List.setIfInBounds_toArray, List.set_cons_zero, List.set_cons_succ])
          refine rg_do 10 rfl (by kernel_rfl) (by rfl) (fun K hK => ?_)
          have hO10 : World.ownsRow (((((w109.setCell ⟨g0 + 1, 0, none⟩ (.int .i64 5)).setCell ⟨g0 + 1, 1, none⟩ (.int .i64 0)).setCell ⟨g0 + 1, 2, none⟩ (.string ⟨#[]⟩)).setCell ⟨g0 + 1, 3, none⟩ (.slice A108 (m + 1 + 1) c108)).setCell ⟨g0 + 1, 4, none⟩ (.slice none 0 0)) (g0 + 2) 25 5 (.slice A108 (m + 1 + 1) c108) (m + 1 + 1) ((l.flatMap VT.cells ++ [.int .i64 k, .int .i64 n, .string s, .slice cA cn cc, .slice kA kn kc]) ++ [.int .i64 k', .int .i64 n', .string s', .slice cA' cn' cc', .slice kA' kn' kc']) := own_set5 (own_later own108 hb9) (by omega)
          have hS10 := hHeld.stored 5 0 ⟨#[]⟩ A108 (m + 1 + 1) c108 none 0 0
          obtain ⟨rk, rn, rs, rA, rnn, rc, rK, rkn, rkc, hRb⟩ := hHeld.2.2
          have hV10 := VFive.set5 hRb (a' := .int .i64 5) (b' := .int .i64 0) (c' := .string ⟨#[]⟩) (d' := .slice A108 (m + 1 + 1) c108) (e' := .slice none 0 0)
          obtain ⟨⟨q0, q1, q2, q3, q4⟩, ⟨f0, f1, f2, f3, f4⟩⟩ := hRb
          go_simp
          clear q0 q1 q2 q3 q4 f0 f1 f2 f3 f4
          generalize (((((w109.setCell ⟨g0 + 1, 0, none⟩ (.int .i64 5)).setCell ⟨g0 + 1, 1, none⟩ (.int .i64 0)).setCell ⟨g0 + 1, 2, none⟩ (.string ⟨#[]⟩)).setCell ⟨g0 + 1, 3, none⟩ (.slice A108 (m + 1 + 1) c108)).setCell ⟨g0 + 1, 4, none⟩ (.slice none 0 0)) = w110 at hV10 hO10 hS10 ⊢
          refine hK.out _ _ hS10 (fun hHeld => ?_)
          clear hK K
          (try simp only [Act.put, List.setIfInBounds_toArray, List.set_cons_zero, List.set_cons_succ])
          refine wpAnyH_done (by kernel_rfl) ?_ _
          obtain ⟨⟨q0, q1, q2, q3, q4⟩, -⟩ := hV10
          go_wp2
          refine bodyPost_ret (v := .agg #[.int .i64 5, .int .i64 0, .string ⟨#[]⟩, .slice A108 (m + 1 + 1) c108, .slice none 0 0]) ?_ rfl ⟨A108, c108, rfl, by rw [List.append_assoc] at hO10; exact Lib.hid (own_base hO10 (Nat.le_add_right _ _)), by first | exact hS10.1 | (rw [hg0]; exact hS10.1)⟩
          simp [results, Tryd.results26, go_sem, *]
        refine rg_cons rfl (by rfl) (fun K hK => ?_) ?_
        · refine step_rowN 22 25 1 _ rfl 5 iV _ Tryd.underlying22 hiV hzV hsV #[.int .i64 k', .int .i64 n', .string s', .slice cA' cn' cc', .slice kA' kn' kc'] (fillV1 _ _ _ _ _ rfl) rfl (by decide) (by decide) ?_
          intro g107 w107 hge107 sh107 hl107 hb7
          refine hK.out _ _ (hHeld.later hb7) (fun hHeld => ?_)
          clear hK K
          (try simp only [Act.put, List.setIfInBounds_toArray, List.set_cons_zero, List.set_cons_succ])
          refine rg_do 5 rfl (by kernel_rfl) (by rfl) (fun K hK => ?_)
          refine wp_append_shows _ _ _ 22 rfl (g0 + 2) 25 iV _ 5 _ Tryd.underlying22 hiV hzV hsV hbV rfl (by decide) _ _ _ rfl (own_later own102 hb7) _ _ _ _ _ rfl (sh104.below ((bel_next (bel_next hb0 hb2) hb7).mono hl104)) C1v.out (by omega) (by omega) hHeld.two ?_
          intro A105 c105 w105 own105 hg5 hB5
          have sh7x := (sh107.below ((Below.refl _ _).mono hl107)).grown hg5 (own_ltW own102 g107 (by have z4 := hb4.size; have z0 := hb0.size; have z2 := hb2.size; have z7 := hb7.size; omega)) (by have z4 := hb4.size; have z0 := hb0.size; have z2 := hb2.size; have z7 := hb7.size; omega)
          refine hK.out _ _ (hHeld.grown hB5) (fun hHeld => ?_)
          clear hK K
          (try simp only [Act.put, List.setIfInBounds_toArray, List.set_cons_zero, List.set_cons_succ])
          refine rg_do 8 rfl (by kernel_rfl) (by rfl) (fun K hK => ?_)
          refine wp_append_shows _ _ _ 22 rfl (g0 + 2) 25 iV _ 5 _ Tryd.underlying22 hiV hzV hsV hbV rfl (by decide) _ _ _ rfl (own_later own105 (Below.refl _ _)) _ _ _ _ _ rfl (sh7x.below ((Below.refl _ _).mono (by have z4 := hb4.size; have z0 := hb0.size; have z2 := hb2.size; have z7 := hb7.size; have z5 := hg5.size; omega))) C1b.out (by omega) (by omega) hHeld.two ?_
          intro A108 c108 w108 own108 hg8 hB8
          refine hK.out _ _ (hHeld.grown hB8) (fun hHeld => ?_)
          clear hK K
          (try simp only [Act.put, List.setIfInBounds_toArray, List.set_cons_zero, List.set_cons_succ])
          refine rg_do 9 rfl (by kernel_rfl) (by rfl) (fun K hK => ?_)
          go_simp
          (go_at_call 27; (with_reducible refine (list1_any _ _ _ _).mono ?_); (rintro e w109 ⟨rfl, hb9⟩))
          refine hK.out _ _ (hHeld.later hb9) (fun hHeld => ?_)
          clear hK K
          (try simp only [Act.put, List.setIfInBounds_toArray, List.set_cons_zero, List.set_cons_succ])
          refine rg_do 10 rfl (by kernel_rfl) (by rfl) (fun K hK => ?_)
          have hO10 : World.ownsRow (((((w109.setCell ⟨g0 + 1, 0, none⟩ (.int .i64 5)).setCell ⟨g0 + 1, 1, none⟩ (.int .i64 0)).setCell ⟨g0 + 1, 2, none⟩ (.string ⟨#[]⟩)).setCell ⟨g0 + 1, 3, none⟩ (.slice A108 (m + 1 + 1) c108)).setCell ⟨g0 + 1, 4, none⟩ (.slice none 0 0)) (g0 + 2) 25 5 (.slice A108 (m + 1 + 1) c108) (m + 1 + 1) ((l.flatMap VT.cells ++ [.int .i64 k, .int .i64 n, .string s, .slice cA cn cc, .slice kA kn kc]) ++ [.int .i64 k', .int .i64 n', .string s', .slice cA' cn' cc', .slice kA' kn' kc']) := own_set5 (own_later own108 hb9) (by omega)
          have hS10 := hHeld.stored 5 0 ⟨#[]⟩ A108 (m + 1 + 1) c108 none 0 0
          obtain ⟨rk, rn, rs, rA, rnn, rc, rK, rkn, rkc, hRb⟩ := hHeld.2.2
          have hV10 := VFive.set5 hRb (a' := .int .i64 5) (b' := .int .i64 0) (c' := .string ⟨#[]⟩) (d' := .slice A108 (m + 1 + 1) c108) (e' := .slice none 0 0)
          obtain ⟨⟨q0, q1, q2, q3, q4⟩, ⟨f0, f1, f2, f3, f4⟩⟩ := hRb
          go_simp
          clear q0 q1 q2 q3 q4 f0 f1 f2 f3 f4
          generalize (((((w109.setCell ⟨g0 + 1, 0, none⟩ (.int .i64 5)).setCell ⟨g0 + 1, 1, none⟩ (.int .i64 0)).setCell ⟨g0 + 1, 2, none⟩ (.string ⟨#[]⟩)).setCell ⟨g0 + 1, 3, none⟩ (.slice A108 (m + 1 + 1) c108)).setCell ⟨g0 + 1, 4, none⟩ (.slice none 0 0)) = w110 at hV10 hO10 hS10 ⊢
          refine hK.out _ _ hS10 (fun hHeld => ?_)
          clear hK K
          (try simp only [Act.put, List.setIfInBounds_toArray, List.set_cons_zero, List.set_cons_succ])
          refine wpAnyH_done (by kernel_rfl) ?_ _
          obtain ⟨⟨q0, q1, q2, q3, q4⟩, -⟩ := hV10
          go_wp2
          refine bodyPost_ret (v := .agg #[.int .i64 5, .int .i64 0, .string ⟨#[]⟩, .slice A108 (m + 1 + 1) c108, .slice none 0 0]) ?_ rfl ⟨A108, c108, rfl, by rw [List.append_assoc] at hO10; exact Lib.hid (own_base hO10 (Nat.le_add_right _ _)), by first | exact hS10.1 | (rw [hg0]; exact hS10.1)⟩
          simp [results, Tryd.results26, go_sem, *]
        exact AllReadyH.nil
      refine rg_cons rfl (by rfl) (fun K hK => ?_) ?_
      · refine step_rowN 22 25 1 _ rfl 5 iV _ Tryd.underlying22 hiV hzV hsV #[.int .i64 k', .int .i64 n', .string s', .slice cA' cn' cc', .slice kA' kn' kc'] (fillV1 _ _ _ _ _ rfl) rfl (by decide) (by decide) ?_
        intro g107 w107 hge107 sh107 hl107 hb7
        refine hK.out _ _ (hHeld.later hb7) (fun hHeld => ?_)
        clear hK K
        (try simp only [Act.put, List.setIfInBounds_toArray, List.set_cons_zero, List.set_cons_succ])
        refine rg_do 2 rfl (by kernel_rfl) (by rfl) (fun K hK => ?_)
        refine step_app0X _ _ 22 rfl (g0 + 2) 25 iV _ 5 _ Tryd.underlying22 hiV hzV hsV hbV rfl (by decide) g100 rfl (own_later own100 hb7) _ _ _ _ _ rfl (Hs.out _ hHeld) C1l.out (by omega) (by omega) hHeld.two ?_
        intro A102 c102 w102 hap102 own102 hb2
        refine hK.out _ _ (hHeld.later hb2) (fun hHeld => ?_)
        clear hK K
        (try simp only [Act.put, List.setIfInBounds_toArray, List.set_cons_zero, List.set_cons_succ])
        refine rg_do 5 rfl (by kernel_rfl) (by rfl) (fun K hK => ?_)
        refine wp_append_shows _ _ _ 22 rfl (g0 + 2) 25 iV _ 5 _ Tryd.underlying22 hiV hzV hsV hbV rfl (by decide) _ _ _ rfl (own_later own102 (Below.refl _ _)) _ _ _ _ _ rfl (sh104.below ((bel_next (bel_next hb0 hb7) hb2).mono hl104)) C1v.out (by omega) (by omega) hHeld.two ?_
        intro A105 c105 w105 own105 hg5 hB5
        have sh7x := (sh107.below (hb2.mono hl107)).grown hg5 (hap102 g107 (by have z4 := hb4.size; have z0 := hb0.size; have z7 := hb7.size; have z2 := hb2.size; omega) (by have z4 := hb4.size; have z0 := hb0.size; have z7 := hb7.size; have z2 := hb2.size; omega)) (by have z4 := hb4.size; have z0 := hb0.size; have z7 := hb7.size; have z2 := hb2.size; omega)
        refine hK.out _ _ (hHeld.grown hB5) (fun hHeld => ?_)
        clear hK K
        (try simp only [Act.put, List.setIfInBounds_toArray, List.set_cons_zero, List.set_cons_succ])
        refine rg_do 8 rfl (by kernel_rfl) (by rfl) (fun K hK => ?_)
        refine wp_append_shows _ _ _ 22 rfl (g0 + 2) 25 iV _ 5 _ Tryd.underlying22 hiV hzV hsV hbV rfl (by decide) _ _ _ rfl (own_later own105 (Below.refl _ _)) _ _ _ _ _ rfl (sh7x.below ((Below.refl _ _).mono (by have z4 := hb4.size; have z0 := hb0.size; have z7 := hb7.size; have z2 := hb2.size; have z5 := hg5.size; omega))) C1b.out (by omega) (by omega) hHeld.two ?_
        intro A108 c108 w108 own108 hg8 hB8
        refine hK.out _ _ (hHeld.grown hB8) (fun hHeld => ?_)
        clear hK K
        (try simp only [Act.put, List.setIfInBounds_toArray, List.set_cons_zero, List.set_cons_succ])
        refine rg_do 9 rfl (by kernel_rfl) (by rfl) (fun K hK => ?_)
        go_simp
        (go_at_call 27; (with_reducible refine (list1_any _ _ _ _).mono ?_); (rintro e w109 ⟨rfl, hb9⟩))
        refine hK.out _ _ (hHeld.later hb9) (fun hHeld => ?_)
        clear hK K
        (try simp only [Act.put, List.setIfInBounds_toArray, List.set_cons_zero, List.set_cons_succ])
        refine rg_do 10 rfl (by kernel_rfl) (by rfl) (fun K hK => ?_)
        have hO10 : World.ownsRow (((((w109.setCell ⟨g0 + 1, 0, none⟩ (.int .i64 5)).setCell ⟨g0 + 1, 1, none⟩ (.int .i64 0)).setCell ⟨g0 + 1, 2, none⟩ (.string ⟨#[]⟩)).setCell ⟨g0 + 1, 3, none⟩ (.slice A108 (m + 1 + 1) c108)).setCell ⟨g0 + 1, 4, none⟩ (.slice none 0 0)) (g0 + 2) 25 5 (.slice A108 (m + 1 + 1) c108) (m + 1 + 1) ((l.flatMap VT.cells ++ [.int .i64 k, .int .i64 n, .string s, .slice cA cn cc, .slice kA kn kc]) ++ [.int .i64 k', .int .i64 n', .string s', .slice cA' cn' cc', .slice kA' kn' kc']) := own_set5 (own_later own108 hb9) (by omega)
        have hS10 := hHeld.stored 5 0 ⟨#[]⟩ A108 (m + 1 + 1) c108 none 0 0
        obtain ⟨rk, rn, rs, rA, rnn, rc, rK, rkn, rkc, hRb⟩ := hHeld.2.2
        have hV10 := VFive.set5 hRb (a' := .int .i64 5) (b' := .int .i64 0) (c' := .string ⟨#[]⟩) (d' := .slice A108 (m + 1 + 1) c108) (e' := .slice none 0 0)
        obtain ⟨⟨q0, q1, q2, q3, q4⟩, ⟨f0, f1, f2, f3, f4⟩⟩ := hRb
        go_simp
        clear q0 q1 q2 q3 q4 f0 f1 f2 f3 f4
        generalize (((((w109.setCell ⟨g0 + 1, 0, none⟩ (.int .i64 5)).setCell ⟨g0 + 1, 1, none⟩ (.int .i64 0)).setCell ⟨g0 + 1, 2, none⟩ (.string ⟨#[]⟩)).setCell ⟨g0 + 1, 3, none⟩ (.slice A108 (m + 1 + 1) c108)).setCell ⟨g0 + 1, 4, none⟩ (.slice none 0 0)) = w110 at hV10 hO10 hS10 ⊢
        refine hK.out _ _ hS10 (fun hHeld => ?_)
        clear hK K
        (try simp only [Act.put, List.setIfInBounds_toArray, List.set_cons_zero, List.set_cons_succ])
        refine wpAnyH_done (by kernel_rfl) ?_ _
        obtain ⟨⟨q0, q1, q2, q3, q4⟩, -⟩ := hV10
        go_wp2
        refine bodyPost_ret (v := .agg #[.int .i64 5, .int .i64 0, .string ⟨#[]⟩, .slice A108 (m + 1 + 1) c108, .slice none 0 0]) ?_ rfl ⟨A108, c108, rfl, by rw [List.append_assoc] at hO10; exact Lib.hid (own_base hO10 (Nat.le_add_right _ _)), by first | exact hS10.1 | (rw [hg0]; exact hS10.1)⟩
        simp [results, Tryd.results26, go_sem, *]
      exact AllReadyH.nil
    refine rg_cons rfl (by rfl) (fun K hK => ?_) ?_
    · refine step_rowN 22 25 1 _ rfl 5 iV _ Tryd.underlying22 hiV hzV hsV #[.int .i64 k', .int .i64 n', .string s', .slice cA' cn' cc', .slice kA' kn' kc'] (fillV1 _ _ _ _ _ rfl) rfl (by decide) (by decide) ?_
      intro g107 w107 hge107 sh107 hl107 hb7
      refine hK.out _ _ (hHeld.later hb7) (fun hHeld => ?_)
      clear hK K
      (try simp only [Act.put, List.setIfInBounds_toArray, List.set_cons_zero, List.set_cons_succ])
      refine rg_do 0 rfl (by kernel_rfl) (by rfl) (fun K hK => ?_)
      refine step_row0X 22 25 rfl (g0 + 2) 5 iV Tryd.underlying22 hiV hHeld.two ?_
      intro g100 w100 hge100 own100 hl100 hb0
      refine hK.out _ _ (hHeld.later hb0) (fun hHeld => ?_)
      clear hK K
      (try simp only [Act.put, List.setIfInBounds_toArray, List.set_cons_zero, List.set_cons_succ])
      refine rg_do 2 rfl (by kernel_rfl) (by rfl) (fun K hK => ?_)
      refine step_app0X _ _ 22 rfl (g0 + 2) 25 iV _ 5 _ Tryd.underlying22 hiV hzV hsV hbV rfl (by decide) g100 rfl (own_later own100 (Below.refl _ _)) _ _ _ _ _ rfl (Hs.out _ hHeld) C1l.out (by omega) (by omega) hHeld.two ?_
      intro A102 c102 w102 hap102 own102 hb2
      refine hK.out _ _ (hHeld.later hb2) (fun hHeld => ?_)
      clear hK K
      (try simp only [Act.put, List.setIfInBounds_toArray, List.set_cons_zero, List.set_cons_succ])
      refine rg_do 5 rfl (by kernel_rfl) (by rfl) (fun K hK => ?_)
      refine wp_append_shows _ _ _ 22 rfl (g0 + 2) 25 iV _ 5 _ Tryd.underlying22 hiV hzV hsV hbV rfl (by decide) _ _ _ rfl (own_later own102 (Below.refl _ _)) _ _ _ _ _ rfl (sh104.below ((bel_next (bel_next hb7 hb0) hb2).mono hl104)) C1v.out (by omega) (by omega) hHeld.two ?_
      intro A105 c105 w105 own105 hg5 hB5
      have sh7x := (sh107.below ((bel_next hb0 hb2).mono hl107)).grown hg5 (hap102 g107 (by have z4 := hb4.size; have z7 := hb7.size; have z0 := hb0.size; have z2 := hb2.size; omega) (by have z4 := hb4.size; have z7 := hb7.size; have z0 := hb0.size; have z2 := hb2.size; omega)) (by have z4 := hb4.size; have z7 := hb7.size; have z0 := hb0.size; have z2 := hb2.size; omega)
      refine hK.out _ _ (hHeld.grown hB5) (fun hHeld => ?_)
      clear hK K
      (try simp only [Act.put, List.setIfInBounds_toArray, List.set_cons_zero, List.set_cons_succ])
      refine rg_do 8 rfl (by kernel_rfl) (by rfl) (fun K hK => ?_)
      refine wp_append_shows _ _ _ 22 rfl (g0 + 2) 25 iV _ 5 _ Tryd.underlying22 hiV hzV hsV hbV rfl (by decide) _ _ _ rfl (own_later own105 (Below.refl _ _)) _ _ _ _ _ rfl (sh7x.below ((Below.refl _ _).mono (by have z4 := hb4.size; have z7 := hb7.size; have z0 := hb0.size; have z2 := hb2.size; have z5 := hg5.size; omega))) C1b.out (by omega) (by omega) hHeld.two ?_
      intro A108 c108 w108 own108 hg8 hB8
      refine hK.out _ _ (hHeld.grown hB8) (fun hHeld => ?_)
      clear hK K
      (try simp only [Act.put, List.setIfInBounds_toArray, List.set_cons_zero, List.set_cons_succ])
      refine rg_do 9 rfl (by kernel_rfl) (by rfl) (fun K hK => ?_)
      go_simp
      (go_at_call 27; (with_reducible refine (list1_any _ _ _ _).mono ?_); (rintro e w109 ⟨rfl, hb9⟩))
      refine hK.out _ _ (hHeld.later hb9) (fun hHeld => ?_)
      clear hK K
      (try simp only [Act.put, List.setIfInBounds_toArray, List.set_cons_zero, List.set_cons_succ])
      refine rg_do 10 rfl (by kernel_rfl) (by rfl) (fun K hK => ?_)
      have hO10 : World.ownsRow (((((w109.setCell ⟨g0 + 1, 0, none⟩ (.int .i64 5)).setCell ⟨g0 + 1, 1, none⟩ (.int .i64 0)).setCell ⟨g0 + 1, 2, none⟩ (.string ⟨#[]⟩)).setCell ⟨g0 + 1, 3, none⟩ (.slice A108 (m + 1 + 1) c108)).setCell ⟨g0 + 1, 4, none⟩ (.slice none 0 0)) (g0 + 2) 25 5 (.slice A108 (m + 1 + 1) c108) (m + 1 + 1) ((l.flatMap VT.cells ++ [.int .i64 k, .int .i64 n, .string s, .slice cA cn cc, .slice kA kn kc]) ++ [.int .i64 k', .int .i64 n', .string s', .slice cA' cn' cc', .slice kA' kn' kc']) := own_set5 (own_later own108 hb9) (by omega)
      have hS10 := hHeld.stored 5 0 ⟨#[]⟩ A108 (m + 1 + 1) c108 none 0 0
      obtain ⟨rk, rn, rs, rA, rnn, rc, rK, rkn, rkc, hRb⟩ := hHeld.2.2
      have hV10 := VFive.set5 hRb (a' := .int .i64 5) (b' := .int .i64 0) (c' := .string ⟨#[]⟩) (d' := .slice A108 (m + 1 + 1) c108) (e' := .slice none 0 0)
      obtain ⟨⟨q0, q1, q2, q3, q4⟩, ⟨f0, f1, f2, f3, f4⟩⟩ := hRb
      go_simp
      clear q0 q1 q2 q3 q4 f0 f1 f2 f3 f4
      generalize (((((w109.setCell ⟨g0 + 1, 0, none⟩ (.int .i64 5)).setCell ⟨g0 + 1, 1, none⟩ (.int .i64 0)).setCell ⟨g0 + 1, 2, none⟩ (.string ⟨#[]⟩)).setCell ⟨g0 + 1, 3, none⟩ (.slice A108 (m + 1 + 1) c108)).setCell ⟨g0 + 1, 4, none⟩ (.slice none 0 0)) = w110 at hV10 hO10 hS10 ⊢
      refine hK.out _ _ hS10 (fun hHeld => ?_)
      clear hK K
      (try simp only [Act.put, List.setIfInBounds_toArray, List.set_cons_zero, List.set_cons_succ])
      refine wpAnyH_done (by kernel_rfl) ?_ _
      obtain ⟨⟨q0, q1, q2, q3, q4⟩, -⟩ := hV10
      go_wp2
      refine bodyPost_ret (v := .agg #[.int .i64 5, .int .i64 0, .string ⟨#[]⟩, .slice A108 (m + 1 + 1) c108, .slice none 0 0]) ?_ rfl ⟨A108, c108, rfl, by rw [List.append_assoc] at hO10; exact Lib.hid (own_base hO10 (Nat.le_add_right _ _)), by first | exact hS10.1 | (rw [hg0]; exact hS10.1)⟩
      simp [results, Tryd.results26, go_sem, *]
    exact AllReadyH.nil
  refine rg_cons rfl (by rfl) (fun K hK => ?_) ?_
  · refine step_rowN 22 25 1 _ rfl 5 iV _ Tryd.underlying22 hiV hzV hsV #[.int .i64 k', .int .i64 n', .string s', .slice cA' cn' cc', .slice kA' kn' kc'] (fillV1 _ _ _ _ _ rfl) rfl (by decide) (by decide) ?_
    intro g107 w107 hge107 sh107 hl107 hb7
    refine hK.out _ _ (hHeld.later hb7) (fun hHeld => ?_)
    clear hK K
    (try simp only [Act.put, List.setIfInBounds_toArray, List.set_cons_zero, List.set_cons_succ])
    refine wpAnyH_ready (rs := [0, 4]) (by kernel_rfl) (by simp) ?_
    refine rg_cons rfl (by rfl) (fun K hK => ?_) ?_
    · refine step_row0X 22 25 rfl (g0 + 2) 5 iV Tryd.underlying22 hiV hHeld.two ?_
      intro g100 w100 hge100 own100 hl100 hb0
      refine hK.out _ _ (hHeld.later hb0) (fun hHeld => ?_)
      clear hK K
      (try simp only [Act.put, List.setIfInBounds_toArray, List.set_cons_zero, List.set_cons_succ])
      refine wpAnyH_ready (rs := [2, 4]) (by kernel_rfl) (by simp) ?_
      refine rg_cons rfl (by rfl) (fun K hK => ?_) ?_
      · refine step_app0X _ _ 22 rfl (g0 + 2) 25 iV _ 5 _ Tryd.underlying22 hiV hzV hsV hbV rfl (by decide) g100 rfl (own_later own100 (Below.refl _ _)) _ _ _ _ _ rfl (Hs.out _ hHeld) C1l.out (by omega) (by omega) hHeld.two ?_
        intro A102 c102 w102 hap102 own102 hb2
        refine hK.out _ _ (hHeld.later hb2) (fun hHeld => ?_)
        clear hK K
        (try simp only [Act.put, List.setIfInBounds_toArray, List.set_cons_zero, List.set_cons_succ])
        refine rg_do 4 rfl (by kernel_rfl) (by rfl) (fun K hK => ?_)
        refine step_rowN 22 25 1 _ rfl 5 iV _ Tryd.underlying22 hiV hzV hsV #[.int .i64 k, .int .i64 n, .string s, .slice cA cn cc, .slice kA kn kc] (fillV1 _ _ _ _ _ rfl) rfl (by decide) (by decide) ?_
        intro g104 w104 hge104 sh104 hl104 hb4
        refine hK.out _ _ (hHeld.later hb4) (fun hHeld => ?_)
        clear hK K
        (try simp only [Act.put, List.setIfInBounds_toArray, List.set_cons_zero, List.set_cons_succ])
        refine rg_do 5 rfl (by kernel_rfl) (by rfl) (fun K hK => ?_)
        refine wp_append_shows _ _ _ 22 rfl (g0 + 2) 25 iV _ 5 _ Tryd.underlying22 hiV hzV hsV hbV rfl (by decide) _ _ _ rfl (own_later own102 hb4) _ _ _ _ _ rfl (sh104.below ((Below.refl _ _).mono hl104)) C1v.out (by omega) (by omega) hHeld.two ?_
        intro A105 c105 w105 own105 hg5 hB5
        have sh7x := (sh107.below ((bel_next (bel_next hb0 hb2) hb4).mono hl107)).grown hg5 (hap102 g107 (by have z7 := hb7.size; have z0 := hb0.size; have z2 := hb2.size; have z4 := hb4.size; omega) (by have z7 := hb7.size; have z0 := hb0.size; have z2 := hb2.size; have z4 := hb4.size; omega)) (by have z7 := hb7.size; have z0 := hb0.size; have z2 := hb2.size; have z4 := hb4.size; omega)
        refine hK.out _ _ (hHeld.grown hB5) (fun hHeld => ?_)
        clear hK K
        (try simp only [Act.put, List.setIfInBounds_toArray, List.set_cons_zero, List.set_cons_succ])
        refine rg_do 8 rfl (by kernel_rfl) (by rfl) (fun K hK => ?_)
        refine wp_append_shows _ _ _ 22 rfl (g0 + 2) 25 iV _ 5 _ Tryd.underlying22 hiV hzV hsV hbV rfl (by decide) _ _ _ rfl (own_later own105 (Below.refl _ _)) _ _ _ _ _ rfl (sh7x.below ((Below.refl _ _).mono (by have z7 := hb7.size; have z0 := hb0.size; have z2 := hb2.size; have z4 := hb4.size; have z5 := hg5.size; omega))) C1b.out (by omega) (by omega) hHeld.two ?_
        intro A108 c108 w108 own108 hg8 hB8
        refine hK.out _ _ (hHeld.grown hB8) (fun hHeld => ?_)
        clear hK K
        (try simp only [Act.put, List.setIfInBounds_toArray, List.set_cons_zero, List.set_cons_succ])
        refine rg_do 9 rfl (by kernel_rfl) (by rfl) (fun K hK => ?_)
        go_simp
        (go_at_call 27; (with_reducible refine (list1_any _ _ _ _).mono ?_); (rintro e w109 ⟨rfl, hb9⟩))
        refine hK.out _ _ (hHeld.later hb9) (fun hHeld => ?_)
        clear hK K
        (try simp only [Act.put, List.setIfInBounds_toArray, List.set_cons_zero, List.set_cons_succ])
        refine rg_do 10 rfl (by kernel_rfl) (by rfl) (fun K hK => ?_)
        have hO10 : World.ownsRow (((((w109.setCell ⟨g0 + 1, 0, none⟩ (.int .i64 5)).setCell ⟨g0 + 1, 1, none⟩ (.int .i64 0)).setCell ⟨g0 + 1, 2, none⟩ (.string ⟨#[]⟩)).setCell ⟨g0 + 1, 3, none⟩ (.slice A108 (m + 1 + 1) c108)).setCell ⟨g0 + 1, 4, none⟩ (.slice none 0 0)) (g0 + 2) 25 5 (.slice A108 (m + 1 + 1) c108) (m + 1 + 1) ((l.flatMap VT.cells ++ [.int .i64 k, .int .i64 n, .string s, .slice cA cn cc, .slice kA kn kc]) ++ [.int .i64 k', .int .i64 n', .string s', .slice cA' cn' cc', .slice kA' kn' kc']) := own_set5 (own_later own108 hb9) (by omega)
        have hS10 := hHeld.stored 5 0 ⟨#[]⟩ A108 (m + 1 + 1) c108 none 0 0
        obtain ⟨rk, rn, rs, rA, rnn, rc, rK, rkn, rkc, hRb⟩ := hHeld.2.2
        have hV10 := VFive.set5 hRb (a' := .int .i64 5) (b' := .int .i64 0) (c' := .string ⟨#[]⟩) (d' := .slice A108 (m + 1 + 1) c108) (e' := .slice none 0 0)
        obtain ⟨⟨q0, q1, q2, q3, q4⟩, ⟨f0, f1, f2, f3, f4⟩⟩ := hRb
        go_simp
        clear q0 q1 q2 q3 q4 f0 f1 f2 f3 f4
        generalize (((((w109.setCell ⟨g0 + 1, 0, none⟩ (.int .i64 5)).setCell ⟨g0 + 1, 1, none⟩ (.int .i64 0)).setCell ⟨g0 + 1, 2, none⟩ (.string ⟨#[]⟩)).setCell ⟨g0 + 1, 3, none⟩ (.slice A108 (m + 1 + 1) c108)).setCell ⟨g0 + 1, 4, none⟩ (.slice none 0 0)) = w110 at hV10 hO10 hS10 ⊢
        refine hK.out _ _ hS10 (fun hHeld => ?_)
        clear hK K
        (try simp only [Act.put, List.setIfInBounds_toArray, List.set_cons_zero, List.set_cons_succ])
        refine wpAnyH_done (by kernel_rfl) ?_ _
        obtain ⟨⟨q0, q1, q2, q3, q4⟩, -⟩ := hV10
        go_wp2
        refine bodyPost_ret (v := .agg #[.int .i64 5, .int .i64 0, .string ⟨#[]⟩, .slice A108 (m + 1 + 1) c108, .slice none 0 0]) ?_ rfl ⟨A108, c108, rfl, by rw [List.append_assoc] at hO10; exact Lib.hid (own_base hO10 (Nat.le_add_right _ _)), by first | exact hS10.1 | (rw [hg0]; exact hS10.1)⟩
        simp [results, Tryd.results26, go_sem, *]
      refine rg_cons rfl (by rfl) (fun K hK => ?_) ?_
      · refine step_rowN 22 25 1 _ rfl 5 iV _ Tryd.underlying22 hiV hzV hsV #[.int .i64 k, .int .i64 n, .string s, .slice cA cn cc, .slice kA kn kc] (fillV1 _ _ _ _ _ rfl) rfl (by decide) (by decide) ?_
        intro g104 w104 hge104 sh104 hl104 hb4
        refine hK.out _ _ (hHeld.later hb4) (fun hHeld => ?_)
        clear hK K
        (try simp only [Act.put, List.setIfInBounds_toArray, List.set_cons_zero, List.set_cons_succ])
        refine rg_do 2 rfl (by kernel_rfl) (by rfl) (fun K hK => ?_)
        refine step_app0X _ _ 22 rfl (g0 + 2) 25 iV _ 5 _ Tryd.underlying22 hiV hzV hsV hbV rfl (by decide) g100 rfl (own_later own100 hb4) _ _ _ _ _ rfl (Hs.out _ hHeld) C1l.out (by omega) (by omega) hHeld.two ?_
        intro A102 c102 w102 hap102 own102 hb2
        refine hK.out _ _ (hHeld.later hb2) (fun hHeld => ?_)
        clear hK K
        (try simp only [Act.put, List.setIfInBounds_toArray, List.set_cons_zero, List.set_cons_succ])
        refine rg_do 5 rfl (by kernel_rfl) (by rfl) (fun K hK => ?_)
        refine wp_append_shows _ _ _ 22 rfl (g0 + 2) 25 iV _ 5 _ Tryd.underlying22 hiV hzV hsV hbV rfl (by decide) _ _ _ rfl (own_later own102 (Below.refl _ _)) _ _ _ _ _ rfl (sh104.below (hb2.mono hl104)) C1v.out (by omega) (by omega) hHeld.two ?_
        intro A105 c105 w105 own105 hg5 hB5
        have sh7x := (sh107.below ((bel_next (bel_next hb0 hb4) hb2).mono hl107)).grown hg5 (hap102 g107 (by have z7 := hb7.size; have z0 := hb0.size; have z4 := hb4.size; have z2 := hb2.size; omega) (by have z7 := hb7.size; have z0 := hb0.size; have z4 := hb4.size; have z2 := hb2.size; omega)) (by have z7 := hb7.size; have z0 := hb0.size; have z4 := hb4.size; have z2 := hb2.size; omega)
        refine hK.out _ _ (hHeld.grown hB5) (fun hHeld => ?_)
        clear hK K
        (try simp only [Act.put, List.setIfInBounds_toArray, List.set_cons_zero, List.set_cons_succ])
        refine rg_do 8 rfl (by kernel_rfl) (by rfl) (fun K hK => ?_)
        refine wp_append_shows _ _ _ 22 rfl (g0 + 2) 25 iV _ 5 _ Tryd.underlying22 hiV hzV hsV hbV rfl (by decide) _ _ _ rfl (own_later own105 (Below.refl _ _)) _ _ _ _ _ rfl (sh7x.below ((Below.refl _ _).mono (by have z7 := hb7.size; have z0 := hb0.size; have z4 := hb4.size; have z2 := hb2.size; have z5 := hg5.size; omega))) C1b.out (by omega) (by omega) hHeld.two ?_
        intro A108 c108 w108 own108 hg8 hB8
        refine hK.out _ _ (hHeld.grown hB8) (fun hHeld => ?_)
        clear hK K
        (try simp only [Act.put, List.setIfInBounds_toArray, List.set_cons_zero, List.set_cons_succ])
        refine rg_do 9 rfl (by kernel_rfl) (by rfl) (fun K hK => ?_)
        go_simp
        (go_at_call 27; (with_reducible refine (list1_any _ _ _ _).mono ?_); (rintro e w109 ⟨rfl, hb9⟩))
        refine hK.out _ _ (hHeld.later hb9) (fun hHeld => ?_)
        clear hK K
        (try simp only [Act.put, List.setIfInBounds_toArray, List.set_cons_zero, List.set_cons_succ])
        refine rg_do 10 rfl (by kernel_rfl) (by rfl) (fun K hK => ?_)
        have hO10 : World.ownsRow (((((w109.setCell ⟨g0 + 1, 0, none⟩ (.int .i64 5)).setCell ⟨g0 + 1, 1, none⟩ (.int .i64 0)).setCell ⟨g0 + 1, 2, none⟩ (.string ⟨#[]⟩)).setCell ⟨g0 + 1, 3, none⟩ (.slice A108 (m + 1 + 1) c108)).setCell ⟨g0 + 1, 4, none⟩ (.slice none 0 0)) (g0 + 2) 25 5 (.slice A108 (m + 1 + 1) c108) (m + 1 + 1) ((l.flatMap VT.cells ++ [.int .i64 k, .int .i64 n, .string s, .slice cA cn cc, .slice kA kn kc]) ++ [.int .i64 k', .int .i64 n', .string s', .slice cA' cn' cc', .slice kA' kn' kc']) := own_set5 (own_later own108 hb9) (by omega)
        have hS10 := hHeld.stored 5 0 ⟨#[]⟩ A108 (m + 1 + 1) c108 none 0 0
        obtain ⟨rk, rn, rs, rA, rnn, rc, rK, rkn, rkc, hRb⟩ := hHeld.2.2
        have hV10 := VFive.set5 hRb (a' := .int .i64 5) (b' := .int .i64 0) (c' := .string ⟨#[]⟩) (d' := .slice A108 (m + 1 + 1) c108) (e' := .slice none 0 0)
        obtain ⟨⟨q0, q1, q2, q3, q4⟩, ⟨f0, f1, f2, f3, f4⟩⟩ := hRb
        go_simp
        clear q0 q1 q2 q3 q4 f0 f1 f2 f3 f4
        generalize (((((w109.setCell ⟨g0 + 1, 0, none⟩ (.int .i64 5)).setCell ⟨g0 + 1, 1, none⟩ (.int .i64 0)).setCell ⟨g0 + 1, 2, none⟩ (.string ⟨#[]⟩)).setCell ⟨g0 + 1, 3, none⟩ (.slice A108 (m + 1 + 1) c108)).setCell ⟨g0 + 1, 4, none⟩ (.slice none 0 0)) = w110 at hV10 hO10 hS10 ⊢
        refine hK.out _ _ hS10 (fun hHeld => ?_)
        clear hK K
        (try simp only [Act.put, List.setIfInBounds_toArray, List.set_cons_zero, List.set_cons_succ])
        refine wpAnyH_done (by kernel_rfl) ?_ _
        obtain ⟨⟨q0, q1, q2, q3, q4⟩, -⟩ := hV10
        go_wp2
        refine bodyPost_ret (v := .agg #[.int .i64 5, .int .i64 0, .string ⟨#[]⟩, .slice A108 (m + 1 + 1) c108, .slice none 0 0]) ?_ rfl ⟨A108, c108, rfl, by rw [List.append_assoc] at hO10; exact Lib.hid (own_base hO10 (Nat.le_add_right _ _)), by first | exact hS10.1 | (rw [hg0]; exact hS10.1)⟩
        simp [results, Tryd.results26, go_sem, *]
      exact AllReadyH.nil
    refine rg_cons rfl (by rfl) (fun K hK => ?_) ?_
    · refine step_rowN 22 25 1 _ rfl 5 iV _ Tryd.underlying22 hiV hzV hsV #[.int .i64 k, .int .i64 n, .string s, .slice cA cn cc, .slice kA kn kc] (fillV1 _ _ _ _ _ rfl) rfl (by decide) (by decide) ?_
      intro g104 w104 hge104 sh104 hl104 hb4
      refine hK.out _ _ (hHeld.later hb4) (fun hHeld => ?_)
      clear hK K
      (try simp only [Act.put, List.setIfInBounds_toArray, List.set_cons_zero, List.set_cons_succ])
      refine rg_do 0 rfl (by kernel_rfl) (by rfl) (fun K hK => ?_)
      refine step_row0X 22 25 rfl (g0 + 2) 5 iV Tryd.underlying22 hiV hHeld.two ?_
      intro g100 w100 hge100 own100 hl100 hb0
      refine hK.out _ _ (hHeld.later hb0) (fun hHeld => ?_)
      clear hK K
      (try simp only [Act.put, List.setIfInBounds_toArray, List.set_cons_zero, List.set_cons_succ])
      refine rg_do 2 rfl (by kernel_rfl) (by rfl) (fun K hK => ?_)
      refine step_app0X _ _ 22 rfl (g0 + 2) 25 iV _ 5 _ Tryd.underlying22 hiV hzV hsV hbV rfl (by decide) g100 rfl (own_later own100 (Below.refl _ _)) _ _ _ _ _ rfl (Hs.out _ hHeld) C1l.out (by omega) (by omega) hHeld.two ?_
      intro A102 c102 w102 hap102 own102 hb2
      refine hK.out _ _ (hHeld.later hb2) (fun hHeld => ?_)
      clear hK K
      (try simp only [Act.put, List.setIfInBounds_toArray, List.set_cons_zero, List.set_cons_succ])
      refine rg_do 5 rfl (by kernel_rfl) (by rfl) (fun K hK => ?_)
      refine wp_append_shows _ _ _ 22 rfl (g0 + 2) 25 iV _ 5 _ Tryd.underlying22 hiV hzV hsV hbV rfl (by decide) _ _ _ rfl (own_later own102 (Below.refl _ _)) _ _ _ _ _ rfl (sh104.below ((bel_next hb0 hb2).mono hl104)) C1v.out (by omega) (by omega) hHeld.two ?_
      intro A105 c105 w105 own105 hg5 hB5
      have sh7x := (sh107.below ((bel_next (bel_next hb4 hb0) hb2).mono hl107)).grown hg5 (hap102 g107 (by have z7 := hb7.size; have z4 := hb4.size; have z0 := hb0.size; have z2 := hb2.size; omega) (by have z7 := hb7.size; have z4 := hb4.size; have z0 := hb0.size; have z2 := hb2.size; omega)) (by have z7 := hb7.size; have z4 := hb4.size; have z0 := hb0.size; have z2 := hb2.size; omega)
      refine hK.out _ _ (hHeld.grown hB5) (fun hHeld => ?_)
      clear hK K
      (try simp only [Act.put, List.setIfInBounds_toArray, List.set_cons_zero, List.set_cons_succ])
      refine rg_do 8 rfl (by kernel_rfl) (by rfl) (fun K hK => ?_)
      refine wp_append_shows _ _ _ 22 rfl (g0 + 2) 25 iV _ 5 _ Tryd.underlying22 hiV hzV hsV hbV rfl (by decide) _ _ _ rfl (own_later own105 (Below.refl _ _)) _ _ _ _ _ rfl (sh7x.below ((Below.refl _ _).mono (by have z7 := hb7.size; have z4 := hb4.size; have z0 := hb0.size; have z2 := hb2.size; have z5 := hg5.size; omega))) C1b.out (by omega) (by omega) hHeld.two ?_
      intro A108 c108 w108 own108 hg8 hB8
      refine hK.out _ _ (hHeld.grown hB8) (fun hHeld => ?_)
      clear hK K
      (try simp only [Act.put, List.setIfInBounds_toArray, List.set_cons_zero, List.set_cons_succ])
      refine rg_do 9 rfl (by kernel_rfl) (by rfl) (fun K hK => ?_)
      go_simp
      (go_at_call 27; (with_reducible refine (list1_any _ _ _ _).mono ?_); (rintro e w109 ⟨rfl, hb9⟩))
      refine hK.out _ _ (hHeld.later hb9) (fun hHeld => ?_)
      clear hK K
      (try simp only [Act.put, List.setIfInBounds_toArray, List.set_cons_zero, List.set_cons_succ])
      refine rg_do 10 rfl (by kernel_rfl) (by rfl) (fun K hK => ?_)
      have hO10 : World.ownsRow (((((w109.setCell ⟨g0 + 1, 0, none⟩ (.int .i64 5)).setCell ⟨g0 + 1, 1, none⟩ (.int .i64 0)).setCell ⟨g0 + 1, 2, none⟩ (.string ⟨#[]⟩)).setCell ⟨g0 + 1, 3, none⟩ (.slice A108 (m + 1 + 1) c108)).setCell ⟨g0 + 1, 4, none⟩ (.slice none 0 0)) (g0 + 2) 25 5 (.slice A108 (m + 1 + 1) c108) (m + 1 + 1) ((l.flatMap VT.cells ++ [.int .i64 k, .int .i64 n, .string s, .slice cA cn cc, .slice kA kn kc]) ++ [.int .i64 k', .int .i64 n', .string s', .slice cA' cn' cc', .slice kA' kn' kc']) := own_set5 (own_later own108 hb9) (by omega)
      have hS10 := hHeld.stored 5 0 ⟨#[]⟩ A108 (m + 1 + 1) c108 none 0 0
      obtain ⟨rk, rn, rs, rA, rnn, rc, rK, rkn, rkc, hRb⟩ := hHeld.2.2
      have hV10 := VFive.set5 hRb (a' := .int .i64 5) (b' := .int .i64 0) (c' := .string ⟨#[]⟩) (d' := .slice A108 (m + 1 + 1) c108) (e' := .slice none 0 0)
      obtain ⟨⟨q0, q1, q2, q3, q4⟩, ⟨f0, f1, f2, f3, f4⟩⟩ := hRb
      go_simp
      clear q0 q1 q2 q3 q4 f0 f1 f2 f3 f4
      generalize (((((w109.setCell ⟨g0 + 1, 0, none⟩ (.int .i64 5)).setCell ⟨g0 + 1, 1, none⟩ (.int .i64 0)).setCell ⟨g0 + 1, 2, none⟩ (.string ⟨#[]⟩)).setCell ⟨g0 + 1, 3, none⟩ (.slice A108 (m + 1 + 1) c108)).setCell ⟨g0 + 1, 4, none⟩ (.slice none 0 0)) = w110 at hV10 hO10 hS10 ⊢
      refine hK.out _ _ hS10 (fun hHeld => ?_)
      clear hK K
      (try simp only [Act.put, List.setIfInBounds_toArray, List.set_cons_zero, List.set_cons_succ])
      refine wpAnyH_done (by kernel_rfl) ?_ _
      obtain ⟨⟨q0, q1, q2, q3, q4⟩, -⟩ := hV10
      go_wp2
      refine bodyPost_ret (v := .agg #[.int .i64 5, .int .i64 0, .string ⟨#[]⟩, .slice A108 (m + 1 + 1) c108, .slice none 0 0]) ?_ rfl ⟨A108, c108, rfl, by rw [List.append_assoc] at hO10; exact Lib.hid (own_base hO10 (Nat.le_add_right _ _)), by first | exact hS10.1 | (rw [hg0]; exact hS10.1)⟩
      simp [results, Tryd.results26, go_sem, *]
    exact AllReadyH.nil
  exact AllReadyH.nil
end Go.Proofs.YtndolgbbochpjaaDoor
