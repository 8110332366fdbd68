/-
  Layer 10: how long a file is.
-/
import Derived.Test.YthoenmggjbojoaaFilA
import Derived.Test.YthoenmggjbojoaaRfR
import Derived.RangeFuncBox
namespace Go.Proofs.Ythoenmggjbojoaa
open Go.RowKit Go.Shelf
attribute [local go_sem] Oper.semAt_some
set_option linter.unusedVariables false

theorem lenGo_drop : ∀ (j : Nat) (L : List PcT) (n : Nat), n + sumN (L.take j) ≤ 524288 → lenGo L n = lenGo (L.drop j) (n + sumN (L.take j))
  | 0, L, n, h => by simp [sumN]
  | j + 1, [], n, h => by simp [sumN]
  | j + 1, p :: L, n, h => by
    have e : sumN ((p :: L).take (j + 1)) = p.n + sumN (L.take j) := by simp [sumN]
    rw [e] at h ⊢
    rw [List.drop_succ_cons, show lenGo (p :: L) n = lenGo L (n + p.n) by rw [lenGo, if_neg (by omega)], lenGo_drop j L (n + p.n) (by omega)]
    congr 1
    omega
theorem sumQ_succ {X : FileT} {k : Nat} {p : PcT} (h : X.Q[k]? = some p) : sumN (X.Q.take (k + 1)) = sumN (X.Q.take k) + p.n := by
  unfold sumN
  rw [List.take_add_one, h]
  simp
theorem long_over {X : FileT} {k : Nat} {p : PcT} (h : X.Q[k]? = some p) (h1 : sumN (X.Q.take k) ≤ 524288) (h2 : 524288 < sumN (X.Q.take k) + p.n) : X.long = sumN (X.Q.take k) + p.n := by
  unfold FileT.long
  cases k with
  | zero =>
    have : p = X.F := by unfold FileT.Q at h; simpa using h.symm
    subst this
    have e : sumN (X.Q.take 0) = 0 := rfl
    rw [e] at h2 ⊢
    rw [lenGo_over _ _ (by omega), Nat.zero_add]
  | succ j =>
    have hp : X.L[j]? = some p := by unfold FileT.Q at h; simpa using h
    have e : sumN (X.Q.take (j + 1)) = X.F.n + sumN (X.L.take j) := by unfold FileT.Q sumN; simp
    rw [e] at h1 h2 ⊢
    obtain ⟨hj, he⟩ := List.getElem?_eq_some_iff.1 hp
    rw [lenGo_drop j X.L X.F.n h1, List.drop_eq_getElem_cons hj, he, lenGo, if_neg (by omega), lenGo_over _ _ h2]
theorem long_all {X : FileT} {m : Nat} (hm : X.L.length = m) (h : sumN (X.Q.take (m + 1)) ≤ 524288) : X.long = sumN (X.Q.take (m + 1)) := by
  have e : sumN (X.Q.take (m + 1)) = X.F.n + sumN X.L := by
    unfold FileT.Q sumN
    rw [List.take_succ_cons, List.take_of_length_le (by omega)]
    simp
  rw [e] at h ⊢
  exact (lenGo_is X.L X.F.n).1 h
/-- The memory between two pieces: n blocks lay when length began. -/
structure LJ (n : Nat) (w : World) (X : FileT) (lp : Obj) (r e : Nat) (W : World) : Prop where
  b1 : Boxed W (n + 1) 3 (.int .i64 (r : Nat))
  b2 : Boxed W (n + 2) 3 (.int .i64 (e : Nat))
  f0 : W.cell? ⟨n + 3, 0, none⟩ = some (.slice X.F.A X.F.n X.F.c)
  f1 : W.cell? ⟨n + 3, 1, none⟩ = some (.slice X.lA X.ln X.lc)
  d : W.heap[n + 4]? = some (.deferred (some []))
  r : W.heap[n + 5]? = some lp
  bel : Below n w W
section
variable {n : Nat} {w : World} {X : FileT} {lp : Obj} {r e : Nat} {W W' : World}
theorem LJ.lt (h : LJ n w X lp r e W) : n + 5 < W.heap.size := (Array.getElem?_eq_some_iff.1 h.r).1
theorem LJ.turn (h : LJ n w X lp r e W) (hl : lp.isCells = false) (hw : lp.isWalk = false) (lp' : Obj) : LJ n w X lp' r e (W.putObj (n + 5) lp') := by
  have o : ∀ {k : Nat} {x : Obj}, W.heap[k]? = some x → k ≠ n + 5 → (W.putObj (n + 5) lp').heap[k]? = some x := fun hk hne => (World.putObj_heap_other hne).trans hk
  have c : ∀ {i : Nat} {x : Value}, W.cell? ⟨n + 3, i, none⟩ = some x → (W.putObj (n + 5) lp').cell? ⟨n + 3, i, none⟩ = some x := fun hk => (World.cell?_of_block (World.putObj_heap_other (by show n + 3 ≠ n + 5; omega))).trans hk
  have hlt := h.lt
  exact ⟨o h.b1 (by omega), o h.b2 (by omega), c h.f0, c h.f1, o h.d (by omega), World.putObj_heap_same hlt, h.bel.grown (grownBy_putObj' W (n + 5) lp') (by omega) (fun k e => by cases e; omega)⟩
theorem LJ.setE (h : LJ n w X lp r e W) (e' : Nat) : LJ n w X lp r e' (W.setCell ⟨n + 2, 0, none⟩ (.int .i64 (e' : Nat))) := by
  have f : ∀ {k : Nat} {o : Obj}, W.heap[k]? = some o → k ≠ n + 2 → (W.setCell ⟨n + 2, 0, none⟩ (.int .i64 (e' : Nat))).heap[k]? = some o := fun hX hne => (Below.heap_setCell W _ _ _ hne).trans hX
  have c : ∀ {i : Nat} {x : Value}, W.cell? ⟨n + 3, i, none⟩ = some x → (W.setCell ⟨n + 2, 0, none⟩ (.int .i64 (e' : Nat))).cell? ⟨n + 3, i, none⟩ = some x := fun hk => (World.cell?_of_block (Below.heap_setCell W _ _ _ (by show n + 3 ≠ n + 2; omega))).trans hk
  exact ⟨f h.b1 (by omega), Boxed.set _ h.b2, c h.f0, c h.f1, f h.d (by omega), f h.r (by omega), h.bel.setCell (by show n ≤ n + 2; omega) _⟩
theorem LJ.setR (h : LJ n w X lp r e W) (r' : Nat) : LJ n w X lp r' e (W.setCell ⟨n + 1, 0, none⟩ (.int .i64 (r' : Nat))) := by
  have f : ∀ {k : Nat} {o : Obj}, W.heap[k]? = some o → k ≠ n + 1 → (W.setCell ⟨n + 1, 0, none⟩ (.int .i64 (r' : Nat))).heap[k]? = some o := fun hX hne => (Below.heap_setCell W _ _ _ hne).trans hX
  have c : ∀ {i : Nat} {x : Value}, W.cell? ⟨n + 3, i, none⟩ = some x → (W.setCell ⟨n + 1, 0, none⟩ (.int .i64 (r' : Nat))).cell? ⟨n + 3, i, none⟩ = some x := fun hk => (World.cell?_of_block (Below.heap_setCell W _ _ _ (by show n + 3 ≠ n + 1; omega))).trans hk
  exact ⟨Boxed.set _ h.b1, f h.b2 (by omega), c h.f0, c h.f1, f h.d (by omega), f h.r (by omega), h.bel.setCell (by show n ≤ n + 1; omega) _⟩
end
set_option maxRecDepth 100000 in
set_option maxHeartbeats 4000000 in
theorem length_any (X : FileT) (B : Nat) (w : World) (hL : LieF w B X) (hB : B ≤ w.heap.size) (hN : ∀ p ∈ X.Q, p.n ≤ 1048576) :
    Calls Try.prog 41 #[X.agg] w fun e w' => e = .returned (.int .i64 (X.long : Nat)) ∧ Below w.heap.size w w' := by
  simp only [FileT.agg, PcT.val]
  refine (callsIn_wide (n := 6)).1 ?_
  refine callsIn_of_wp_marks Try.func41 rfl trivial ?_ rfl
  simp only [Try.ntmps41, List.size_toArray, List.length_cons, List.length_nil, Nat.reduceAdd, Nat.reduceSub, Array.replicate_succ, Array.replicate_zero, List.push_toArray, List.append_toArray, List.nil_append, List.cons_append]
  refine wpIn_wide.2 ?_
  go_wp2_with fail
  refine (pieces_any _ _ _ _ _ _ _ _ _ _).mono ?_
  rintro e W1 ⟨rfl, hW1⟩
  go_wp2
  refine (wpIn_wide (n := 6)).1 ?_
  refine range_open rfl (by omega) (gf := 58) (lb := #[.pointer (some ⟨w.heap.size + 1 + 1 + 1, 0, none⟩)]) rfl trivial (enters_of Try.func58 (by kernel_rfl) rfl) ?_
  have hsz : W1.heap.size = w.heap.size + 4 := by rw [← hW1]; simp
  have j1 : Boxed W1 (w.heap.size + 1) 3 (.int .i64 0) := by
    rw [← hW1]
    have h := Boxed.new (w.alloc (.cells #[.slice X.F.A X.F.n X.F.c, .slice X.lA X.ln X.lc, .int .i64 X.fuse, .int .i64 X.fault, .bool X.off] 25)) 3 (.int .i64 0)
    rw [World.size_alloc] at h
    exact (h.alloc _).alloc _
  have j2 : Boxed W1 (w.heap.size + 2) 3 (.int .i64 0) := by
    rw [← hW1]
    have h := Boxed.new ((w.alloc (.cells #[.slice X.F.A X.F.n X.F.c, .slice X.lA X.ln X.lc, .int .i64 X.fuse, .int .i64 X.fault, .bool X.off] 25)).alloc (.cells #[.int .i64 0] 3)) 3 (.int .i64 0)
    rw [World.size_alloc, World.size_alloc] at h
    exact h.alloc _
  have g0 : W1.cell? ⟨w.heap.size + 3, 0, none⟩ = some (.slice X.F.A X.F.n X.F.c) := by rw [← hW1]; simp [go_sem]
  have g1 : W1.cell? ⟨w.heap.size + 3, 1, none⟩ = some (.slice X.lA X.ln X.lc) := by rw [← hW1]; simp [go_sem]
  have hb1 : Below w.heap.size w W1 := by rw [← hW1]; exact bel_alloc (bel_alloc (bel_alloc (bel_alloc (Below.refl _ _) _) _) _) _
  clear hW1
  rw [hsz]
  intro fn hfn
  generalize hrec : recOf fn _ _ _ _ _ = rec
  have J0 : LJ w.heap.size w X (.loop (rec .ready none)) 0 0 ((W1.alloc (.deferred (some []))).alloc (.loop (rec .ready none))) := by
    refine ⟨(j1.alloc _).alloc _, (j2.alloc _).alloc _, cell_keep (cell_keep g0 _) _, cell_keep (cell_keep g1 _) _, ?_, ?_, bel_alloc (bel_alloc hb1 _) _⟩
    · have h := World.alloc_heap_new W1 (.deferred (some []))
      rw [hsz] at h
      exact (Below.heap_alloc _ _ _ (by simp [hsz])).trans h
    · have h := World.alloc_heap_new (W1.alloc (.deferred (some []))) (.loop (rec .ready none))
      rw [World.size_alloc, hsz] at h
      exact h
  have hcall := pieces1_in 5 (by omega) (w.heap.size + 5) (w.heap.size + 3) B X (fun k W => LJ w.heap.size w X (.loop (rec .ready none)) 0 (sumN (X.Q.take k)) W ∧ sumN (X.Q.take k) ≤ 524288) (fun W => ∃ e, LJ w.heap.size w X (.loop (rec .done (some .ret))) e e W ∧ X.long = e) _ (Nat.le_trans hL.fits hL.most)
    (fun k W h => ⟨h.1.f0, h.1.f1, hL.row.below (h.1.bel.mono hB)⟩) ?hY ⟨J0, by simp [sumN]⟩
  case hY =>
    rintro k p W ⟨hr, hbnd⟩ hp
    have hl5 := hr.r
    rw [← hrec] at hl5
    refine round_openR hfn hl5 rfl ?_
    simp only [hrec]
    have hpn := hN p (List.mem_of_getElem? hp)
    have HQ := Lib.hid (sumQ_succ hp)
    have HV := Lib.hid (long_over hp hbnd)
    generalize sumN (X.Q.take k) = m at *
    clear hl5 J0 j1 j2 g0 g1 hL hN hp
    gi_wp2
    refine ⟨hr.r, ?_⟩
    have hr3 := hr.turn rfl rfl (.loop (rec .busy none))
    generalize W.putObj (w.heap.size + 5) (.loop (rec .busy none)) = W3 at *
    have c1 : W3.cell? ⟨w.heap.size + 1, 0, none⟩ = some (.int .i64 0) := hr3.b1.cell
    have c1f : W3.frozen? ⟨w.heap.size + 1, 0, none⟩ = false := hr3.b1.frozen
    have c2 : W3.cell? ⟨w.heap.size + 1 + 1, 0, none⟩ = some (.int .i64 (m : Nat)) := hr3.b2.cell
    have c2f : W3.frozen? ⟨w.heap.size + 1 + 1, 0, none⟩ = false := hr3.b2.frozen
    have hr4 := hr3.setE (m + p.n)
    have hs1 : IntKind.i64.wrap ((m : Int) + (p.n : Int)) = (m : Int) + (p.n : Int) := by rw [IntKind.wrap_i64]; omega
    have hs2 : wrap64 ((m : Int) + (p.n : Int)) = (m : Int) + (p.n : Int) := by unfold wrap64; omega
    have hcast : ((m + p.n : Nat) : Int) = (m : Int) + (p.n : Int) := by omega
    by_cases ho : 524288 < m + p.n
    · have hgt : ((524288 : Int) < (m : Int) + (p.n : Int)) = True := by simp; omega
      have hr5 := hr4.setR (m + p.n)
      have HX := Lib.hid (HV.out ho)
      rw [hcast] at hr4 hr5
      clear ho hbnd hpn HQ HV hcast hr hr3
      gi_wp2
      exact ⟨hr5.r, .inr ⟨rfl, by rw [HX.out]; exact hr5.turn rfl rfl _⟩⟩
    · have hgt : ((524288 : Int) < (m : Int) + (p.n : Int)) = False := by simp; omega
      have hle : m + p.n ≤ 524288 := by omega
      have HL := Lib.hid hle
      rw [hcast] at hr4
      clear ho hbnd hpn HV hcast hr hr3 hle
      gi_wp2
      exact ⟨hr4.r, .inl ⟨rfl, by rw [HQ.out]; exact hr4.turn rfl rfl _, by rw [HQ.out]; exact HL.out⟩⟩
  refine hcall.mono ?_
  rintro e B1 ⟨hv, ⟨hr, hbd⟩ | ⟨m, hr, hlong⟩⟩
  · have HR := Lib.hid (long_all hL.len hbd)
    clear hcall J0 j1 j2 g0 g1 hrec hfn hb1 hL hN
    generalize sumN (X.Q.take (X.ln + 1)) = m at *
    refine ⟨hv, .ready, none, hr.r, by simp, ?_⟩
    have hr5 := hr.turn rfl rfl (.loop (rec .exhausted none))
    generalize B1.putObj (w.heap.size + 5) (.loop (rec .exhausted none)) = W5 at *
    have hr6 := hr5.setR m
    have hK := hr6.d
    have hbw := hr6.bel
    have c1 : W5.cell? ⟨w.heap.size + 1, 0, none⟩ = some (.int .i64 0) := hr5.b1.cell
    have c1f : W5.frozen? ⟨w.heap.size + 1, 0, none⟩ = false := hr5.b1.frozen
    have c2 : W5.cell? ⟨w.heap.size + 1 + 1, 0, none⟩ = some (.int .i64 (m : Nat)) := hr5.b2.cell
    have c9 : ((W5.setCell ⟨w.heap.size + 1, 0, none⟩ (.int .i64 (m : Nat))).putObj (w.heap.size + 4) (.deferred none)).cell? ⟨w.heap.size + 1, 0, none⟩ = some (.int .i64 (m : Nat)) := (World.cell?_of_block (World.putObj_heap_other (by show w.heap.size + 1 ≠ w.heap.size + 4; omega))).trans hr6.b1.cell
    have C9 := Lib.hid c9
    clear hr hv hbd hr5 hr6 c9
    unfold goesOn
    dsimp only
    go_wp2
    refine ⟨by simp, .inl ⟨_, _, rfl, run_takeDeferred hK, ?_⟩⟩
    refine ⟨_, ?_, by rw [HR.out], hbw.trans (belowK_b (w := w) (Nat.le_refl _) _ (w.heap.size + 4) _ _ (by omega) hK rfl rfl)⟩
    have c9 := C9.out
    clear C9 HR hbw hK
    simp [results, Try.results41, go_sem, *]
  · have HR := Lib.hid hlong
    clear hcall J0 j1 j2 g0 g1 hrec hfn hb1 hL hN
    refine ⟨hv, .done, _, hr.r, by simp, ?_⟩
    have hr5 := hr.turn rfl rfl (.loop (rec .exhausted (some .ret)))
    generalize B1.putObj (w.heap.size + 5) (.loop (rec .exhausted (some .ret))) = W5 at *
    have hK := hr5.d
    have hbw := hr5.bel
    have C9 := Lib.hid (show (W5.putObj (w.heap.size + 4) (.deferred none)).cell? ⟨w.heap.size + 1, 0, none⟩ = some (.int .i64 (m : Nat)) from (World.cell?_of_block (World.putObj_heap_other (by show w.heap.size + 1 ≠ w.heap.size + 4; omega))).trans hr5.b1.cell)
    clear hr hr5 hv hlong
    unfold goesOn
    refine wpIn_wide.2 ?_
    go_wp2
    refine ⟨by simp, .inl ⟨_, _, rfl, run_takeDeferred hK, ?_⟩⟩
    refine ⟨_, ?_, by rw [HR.out], hbw.trans (belowK_b (w := w) (Nat.le_refl _) _ (w.heap.size + 4) _ _ (by omega) hK rfl rfl)⟩
    have c9 := C9.out
    clear C9 HR hbw hK
    simp [results, Try.results41, go_sem, *]
end Go.Proofs.Ythoenmggjbojoaa
