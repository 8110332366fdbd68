/-
  Layer 4: measure.
-/
import Derived.Test.YtnldiemggabdkaaDoorValM
namespace Go.Proofs.YtnldiemggabdkaaDoor
open Go.RowKit Go.Shelf
attribute [local go_sem] Oper.semAt_some
set_option linter.unusedVariables false

/-- The memory between two rounds: n blocks lay when measure began. -/
structure MJ (n : Nat) (w : World) (lp : Obj) (a c : Nat) (b : Bool) (W : World) : Prop where
  b1 : Boxed W (n + 1) 3 (.int .i64 (a : Nat))
  b2 : Boxed W (n + 2) 3 (.int .i64 (c : Nat))
  b3 : Boxed W (n + 3) 4 (.bool b)
  d : W.heap[n + 5]? = some (.deferred (some []))
  r : W.heap[n + 6]? = some lp
  bel : Below n w W
section
variable {n : Nat} {w : World} {lp : Obj} {a c : Nat} {b : Bool} {W W' : World}
theorem mlies {W W' : World} {k : Nat} {o : Obj} (h : W.heap[k]? = some o) (hb : Below W.heap.size W W') : W'.heap[k]? = some o := (hb.block k (Array.getElem?_eq_some_iff.1 h).1).trans h
theorem MJ.lt (h : MJ n w lp a c b W) : n + 6 < W.heap.size := (Array.getElem?_eq_some_iff.1 h.r).1
theorem MJ.later (h : MJ n w lp a c b W) (hb : Below W.heap.size W W') : MJ n w lp a c b W' :=
  ⟨mlies h.b1 hb, mlies h.b2 hb, mlies h.b3 hb, mlies h.d hb, mlies h.r hb, h.bel.trans (hb.mono (by have := h.lt; omega))⟩
theorem MJ.turn (h : MJ n w lp a c b W) (hl : lp.isCells = false) (hw : lp.isWalk = false) (lp' : Obj) : MJ n w lp' a c b (W.putObj (n + 6) lp') := by
  have o : ∀ {k : Nat} {x : Obj}, W.heap[k]? = some x → k ≠ n + 6 → (W.putObj (n + 6) lp').heap[k]? = some x := fun hk hne => (World.putObj_heap_other hne).trans hk
  have hlt := h.lt
  exact ⟨o h.b1 (by omega), o h.b2 (by omega), o h.b3 (by omega), o h.d (by omega), World.putObj_heap_same hlt, h.bel.grown (grownBy_putObj' W (n + 6) lp') (by omega) (fun k e => by cases e; omega)⟩
theorem MJ.setA (h : MJ n w lp a c b W) (a' : Nat) : MJ n w lp a' c b (W.setCell ⟨n + 1, 0, none⟩ (.int .i64 (a' : Nat))) := by
  have f : ∀ {k : Nat} {o : Obj}, W.heap[k]? = some o → k ≠ n + 1 → (W.setCell ⟨n + 1, 0, none⟩ (.int .i64 (a' : Nat))).heap[k]? = some o := fun hX hne => (Below.heap_setCell W _ _ _ hne).trans hX
  exact ⟨Boxed.set _ h.b1, f h.b2 (by omega), f h.b3 (by omega), f h.d (by omega), f h.r (by omega), h.bel.setCell (by show n ≤ n + 1; omega) _⟩
theorem MJ.setC (h : MJ n w lp a c b W) (c' : Nat) : MJ n w lp a c' b (W.setCell ⟨n + 2, 0, none⟩ (.int .i64 (c' : Nat))) := by
  have f : ∀ {k : Nat} {o : Obj}, W.heap[k]? = some o → k ≠ n + 2 → (W.setCell ⟨n + 2, 0, none⟩ (.int .i64 (c' : Nat))).heap[k]? = some o := fun hX hne => (Below.heap_setCell W _ _ _ hne).trans hX
  exact ⟨f h.b1 (by omega), Boxed.set _ h.b2, f h.b3 (by omega), f h.d (by omega), f h.r (by omega), h.bel.setCell (by show n ≤ n + 2; omega) _⟩
theorem MJ.setB (h : MJ n w lp a c b W) (b' : Bool) : MJ n w lp a c b' (W.setCell ⟨n + 3, 0, none⟩ (.bool b')) := by
  have f : ∀ {k : Nat} {o : Obj}, W.heap[k]? = some o → k ≠ n + 3 → (W.setCell ⟨n + 3, 0, none⟩ (.bool b')).heap[k]? = some o := fun hX hne => (Below.heap_setCell W _ _ _ hne).trans hX
  exact ⟨f h.b1 (by omega), f h.b2 (by omega), Boxed.set _ h.b3, f h.d (by omega), f h.r (by omega), h.bel.setCell (by show n ≤ n + 3; omega) _⟩
end
theorem Keep.set {n k : Nat} (W : World) (v : Value) (h : k < n) : Keep n W (W.setCell ⟨k, 0, none⟩ v) := ⟨by rw [size_set]; exact Nat.le_refl _, fun b hb _ => Below.heap_setCell W ⟨k, 0, none⟩ v b (by show b ≠ k; omega)⟩
theorem Keep.put {n k : Nat} (W : World) (o : Obj) (h : k < n) : Keep n W (W.putObj k o) := ⟨(grownBy_putObj' W k o).size, fun b hb _ => World.putObj_heap_other (by omega)⟩

/-- What measure tells. -/
def measR (T : VT) : Value := if T.ok = true then .tuple #[.int .i64 (T.dep : Nat), .int .i64 (T.cnt : Nat), .bool true] else .tuple #[.int .i64 0, .int .i64 0, .bool false]
set_option maxRecDepth 100000 in
set_option maxHeartbeats 4000000 in
theorem measure_any (k n : Int) (s : ByteArray) (cA : Option Addr) (cn cc : Nat) (kA : Option Addr) (kn kc : Nat) (keys : List ByteArray) (kids : List VT) (B : Nat) (w : World) (hL : Lie w B (.mk k n s cA cn cc kA kn kc keys kids)) (hB : B ≤ w.heap.size) (htab : UTab w) (hst : STab w) :
    Calls Tryd.prog 41 #[.agg #[.int .i64 k, .int .i64 n, .string s, .slice cA cn cc, .slice kA kn kc]] w fun e w' => e = .returned (measR (.mk k n s cA cn cc kA kn kc keys kids)) ∧ Below w.heap.size w w' := by
  refine (callsIn_wide (n := 6)).1 ?_
  refine callsIn_of_wp_marks Tryd.func41 rfl trivial ?_ rfl
  simp only [Tryd.ntmps41, List.size_toArray, List.length_cons, List.length_nil, Nat.reduceAdd, Nat.reduceSub, Array.replicate_succ, Array.replicate_zero, List.push_toArray, List.append_toArray, List.nil_append, List.cons_append]
  refine wpIn_wide.2 ?_
  go_wp2
  go_step3
  go_wp2
  go_step3
  go_wp2_with fail
  refine (vnodes_any _ _ _ _ _ _ _ _ _ _).mono ?_
  rintro e W1 ⟨rfl, hW1⟩
  go_wp2
  refine (wpIn_wide (n := 6)).1 ?_
  refine range_open rfl (by omega) (gf := 64) (lb := #[.pointer (some ⟨w.heap.size + 1 + 1 + 1 + 1, 0, none⟩)]) rfl trivial (enters_of Tryd.func64 (by kernel_rfl) rfl) ?_
  have hsz : W1.heap.size = w.heap.size + 5 := by rw [← hW1]; simp
  have j1 : Boxed W1 (w.heap.size + 1) 3 (.int .i64 0) := by
    rw [← hW1]
    have h := Boxed.new (w.alloc (.cells #[.int .i64 k, .int .i64 n, .string s, .slice cA cn cc, .slice kA kn kc] 25)) 3 (.int .i64 0)
    rw [World.size_alloc] at h
    exact ((h.alloc _).alloc _).alloc _
  have j2 : Boxed W1 (w.heap.size + 2) 3 (.int .i64 0) := by
    rw [← hW1]
    have h := Boxed.new ((w.alloc (.cells #[.int .i64 k, .int .i64 n, .string s, .slice cA cn cc, .slice kA kn kc] 25)).alloc (.cells #[.int .i64 0] 3)) 3 (.int .i64 0)
    rw [World.size_alloc, World.size_alloc] at h
    exact (h.alloc _).alloc _
  have j3 : Boxed W1 (w.heap.size + 3) 4 (.bool true) := by
    rw [← hW1]
    have h := Boxed.new (((w.alloc (.cells #[.int .i64 k, .int .i64 n, .string s, .slice cA cn cc, .slice kA kn kc] 25)).alloc (.cells #[.int .i64 0] 3)).alloc (.cells #[.int .i64 0] 3)) 4 (.bool true)
    rw [World.size_alloc, World.size_alloc, World.size_alloc] at h
    exact h.alloc _
  have hb1 : Below w.heap.size w W1 := by rw [← hW1]; exact bel_alloc (bel_alloc (bel_alloc (bel_alloc (bel_alloc (Below.refl _ _) _) _) _) _) _
  have hv4 : ∀ j u, (#[Value.int .i64 k, .int .i64 n, .string s, .slice cA cn cc, .slice kA kn kc] : Array Value)[j]? = some u → W1.cell? ⟨w.heap.size + 4, j, none⟩ = some u := fun j u hu => by
    have h := (Box.new ((((w.alloc (.cells #[.int .i64 k, .int .i64 n, .string s, .slice cA cn cc, .slice kA kn kc] 25)).alloc (.cells #[.int .i64 0] 3)).alloc (.cells #[.int .i64 0] 3)).alloc (.cells #[.bool true] 4)) #[.int .i64 k, .int .i64 n, .string s, .slice cA cn cc, .slice kA kn kc] 25 j u (by simpa using hu)).1
    rw [World.size_alloc, World.size_alloc, World.size_alloc, World.size_alloc] at h
    rw [← hW1]
    exact h
  clear hW1
  rw [hsz]
  intro fn hfn
  generalize hrec : recOf fn _ _ _ _ _ = rec
  have J0 : MJ w.heap.size w (.loop (rec .ready none)) 0 0 true ((W1.alloc (.deferred (some []))).alloc (.loop (rec .ready none))) := by
    refine ⟨(j1.alloc _).alloc _, (j2.alloc _).alloc _, (j3.alloc _).alloc _, ?_, ?_, bel_alloc (bel_alloc hb1 _) _⟩
    · have h := World.alloc_heap_new W1 (.deferred (some []))
      rw [hsz] at h
      exact (Below.heap_alloc _ _ _ (by simp [hsz])).trans h
    · have h := World.alloc_heap_new (W1.alloc (.deferred (some []))) (.loop (rec .ready none))
      rw [World.size_alloc, hsz] at h
      exact h
  have hv5 : Cell5 ((W1.alloc (.deferred (some []))).alloc (.loop (rec .ready none))) (w.heap.size + 4) 0 (.mk k n s cA cn cc kA kn kc keys kids) := by
    have g : ∀ j u, (#[Value.int .i64 k, .int .i64 n, .string s, .slice cA cn cc, .slice kA kn kc] : Array Value)[j]? = some u → ((W1.alloc (.deferred (some []))).alloc (.loop (rec .ready none))).cell? ⟨w.heap.size + 4, j, none⟩ = some u := fun j u hu => cell_keep (cell_keep (hv4 j u hu) _) _
    exact ⟨g 0 _ rfl, g 1 _ rfl, g 2 _ rfl, g 3 _ rfl, g 4 _ rfl⟩
  have hcall := vnodes1_any (w.heap.size + 6) (w.heap.size + 4) (w.heap.size + 7) B w (fun pre W => MJ w.heap.size w (.loop (rec .ready none)) (mdL pre) pre.length true W ∧ pre.length ≤ 256) (fun W => ∃ a c, MJ w.heap.size w (.loop (rec .done (some (.exit 0)))) a c false W) (.mk k n s cA cn cc kA kn kc keys kids) hL
    (fun pre W W' h hb => ⟨h.1.later hb, h.2⟩) (fun pre W h => ⟨h.1.bel.mono hB, by have := h.1.lt; omega⟩) ?hY _ ⟨J0, by simp⟩ (by simp [hsz]) hv5
  case hY =>
    rintro m pre d T' W ⟨hr, hbnd⟩ hL' hd9
    have hl5 := hr.r
    rw [← hrec] at hl5
    refine round_open hfn hl5 rfl ?_
    simp only [hrec]
    obtain ⟨xk, xn, xs, xcA, xcn, xcc, xkA, xkn, xkc, xkeys, xkids⟩ := T'
    simp only [VT.agg]
    clear hl5 J0 j1 j2 j3 hv4 hv5 hL
    gi_wp2
    have hr2 := hr.later (W' := W.alloc (.cells #[.int .i64 xk, .int .i64 xn, .string xs, .slice xcA xcn xcc, .slice xkA xkn xkc] 25)) (bel_alloc (Below.refl _ _) _)
    have hS2 : (W.alloc (.cells #[.int .i64 xk, .int .i64 xn, .string xs, .slice xcA xcn xcc, .slice xkA xkn xkc] 25)).heap[W.heap.size]? = some (.cells #[.int .i64 xk, .int .i64 xn, .string xs, .slice xcA xcn xcc, .slice xkA xkn xkc] 25 (0, 0)) := World.alloc_heap_new W _
    refine ⟨hr2.r, ?_⟩
    have hr3 := hr2.turn rfl rfl (.loop (rec .busy none))
    have hlt := hr.lt
    have hS := (World.putObj_heap_other (o := .loop (rec .busy none)) (show W.heap.size ≠ w.heap.size + 6 by omega)).trans hS2
    have hK3 : Keep (w.heap.size + 7) W ((W.alloc (.cells #[.int .i64 xk, .int .i64 xn, .string xs, .slice xcA xcn xcc, .slice xkA xkn xkc] 25)).putObj (w.heap.size + 6) (.loop (rec .busy none))) := (Keep.of_below (bel_alloc (Below.refl _ _) _)).trans (Keep.put _ _ (by omega))
    generalize (W.alloc (.cells #[.int .i64 xk, .int .i64 xn, .string xs, .slice xcA xcn xcc, .slice xkA xkn xkc] 25)).putObj (w.heap.size + 6) (.loop (rec .busy none)) = W3 at *
    clear hS2 hr2 hr
    obtain ⟨md, hmd⟩ : ∃ md, md = mdL (pre ++ [(d, (VT.mk xk xn xs xcA xcn xcc xkA xkn xkc xkeys xkids))]) := ⟨_, rfl⟩
    have hms := mdL_snoc pre (d, (VT.mk xk xn xs xcA xcn xcc xkA xkn xkc xkeys xkids))
    rw [← hmd] at hms
    simp only at hms
    have hstep : stepOK pre (d, (VT.mk xk xn xs xcA xcn xcc xkA xkn xkc xkeys xkids)) = (decide (md ≤ 8) && (decide (pre.length + 1 ≤ 256) && VT.fit (VT.mk xk xn xs xcA xcn xcc xkA xkn xkc xkeys xkids))) := by rw [hmd]; rfl
    have Hstep := Lib.hid hstep
    have Hlen := Lib.hid (show (pre ++ [(d, (VT.mk xk xn xs xcA xcn xcc xkA xkn xkc xkeys xkids))]).length = pre.length + 1 by simp)
    have Hmd := Lib.hid hmd
    clear hstep hmd
    generalize hml : mdL pre = m0 at *
    generalize hpl : pre.length = pl at *
    have hr4 := hr3.setA md
    have hr5 := hr4.setC (pl + 1)
    have hp1 : ((pl + 1 : Nat) : Int) = (pl : Int) + 1 := by omega
    have c1 : W3.cell? ⟨w.heap.size + 1, 0, none⟩ = some (.int .i64 (m0 : Nat)) := hr3.b1.cell
    have c1f : W3.frozen? ⟨w.heap.size + 1, 0, none⟩ = false := hr3.b1.frozen
    have c2 : W3.cell? ⟨w.heap.size + 1 + 1, 0, none⟩ = some (.int .i64 (pl : Nat)) := hr3.b2.cell
    have c2f : W3.frozen? ⟨w.heap.size + 1 + 1, 0, none⟩ = false := hr3.b2.frozen
    have c3 : W3.cell? ⟨w.heap.size + 1 + 1 + 1, 0, none⟩ = some (.bool true) := hr3.b3.cell
    have c3f : W3.frozen? ⟨w.heap.size + 1 + 1 + 1, 0, none⟩ = false := hr3.b3.frozen
    have d0 : W3.cell? ⟨W.heap.size, 0, none⟩ = some (.int .i64 xk) := by simp [World.cell?, hS]
    have d1 : W3.cell? ⟨W.heap.size, 1, none⟩ = some (.int .i64 xn) := by simp [World.cell?, hS]
    have d2 : W3.cell? ⟨W.heap.size, 2, none⟩ = some (.string xs) := by simp [World.cell?, hS]
    have d3 : W3.cell? ⟨W.heap.size, 3, none⟩ = some (.slice xcA xcn xcc) := by simp [World.cell?, hS]
    have d4 : W3.cell? ⟨W.heap.size, 4, none⟩ = some (.slice xkA xkn xkc) := by simp [World.cell?, hS]
    have hK5 := (hK3.trans (Keep.set W3 (.int .i64 (md : Nat)) (show w.heap.size + 1 < w.heap.size + 7 by omega))).trans (Keep.set _ (.int .i64 ((pl + 1 : Nat) : Int)) (show w.heap.size + 2 < w.heap.size + 7 by omega))
    have hfit := fits_any xk xn xs xcA xcn xcc xkA xkn xkc xkeys xkids B _ (hL'.later (hr5.bel.mono hB)) (Nat.le_trans hB hr5.bel.size) (htab.below hr5.bel htab.lt) (hst.below hr5.bel hst.lt)
    have n1 : (W.heap.size = w.heap.size + 1) = False := by simp; omega
    have n2 : (W.heap.size = w.heap.size + 1 + 1) = False := by simp; omega
    have n3 : (w.heap.size + 1 = W.heap.size) = False := by simp; omega
    have n4 : (w.heap.size + 1 + 1 = W.heap.size) = False := by simp; omega
    rw [hp1] at hK5 hr5 hfit
    clear hS hr3 hr4 hK3
    have hcase : (m0 < d ∧ md = d) ∨ (¬ m0 < d ∧ md = m0) := by omega
    clear hms
    rcases hcase with ⟨hm, rfl⟩ | ⟨hm, rfl⟩
    · have hltI : ((m0 : Int) < (md : Int)) = True := by simp; omega
      clear hm
      by_cases h8 : md ≤ 8
      · have g8 : ((8 : Int) < (md : Int)) = False := by simp; omega
        by_cases h256 : pl + 1 ≤ 256
        · have g256 : ((256 : Int) < (pl : Int) + 1) = False := by simp; omega
          have Hsf := Lib.hid (show stepOK pre (md, (VT.mk xk xn xs xcA xcn xcc xkA xkn xkc xkeys xkids)) = VT.fit (VT.mk xk xn xs xcA xcn xcc xkA xkn xkc xkeys xkids) by rw [Hstep.out, decide_eq_true h8, decide_eq_true h256]; rfl)
          have Hfew := Lib.hid h256
          clear h8 h256
          cases hft : VT.fit (VT.mk xk xn xs xcA xcn xcc xkA xkn xkc xkeys xkids)
          · rw [hft] at hfit Hsf
            clear hft
            gi_wp2_with fail
            refine ⟨trivial, (fun h => by cases h), (CallsIn.inRound _ (callsIn_wide.2 hfit)).mono ?_⟩
            rintro e W6 ⟨rfl, hb6⟩
            have hr6 := hr5.later hb6
            have e3 : W6.cell? ⟨w.heap.size + 1 + 1 + 1, 0, none⟩ = some (.bool true) := hr6.b3.cell
            have e3f : W6.frozen? ⟨w.heap.size + 1 + 1 + 1, 0, none⟩ = false := hr6.b3.frozen
            have hr7 := hr6.setB false
            have hK7 := (hK5.trans (Keep.of_below hb6)).trans (Keep.set W6 (.bool false) (show w.heap.size + 3 < w.heap.size + 7 by omega))
            clear hr5 hr6 hb6 hK5 hfit
            gi_wp2
            exact ⟨hr7.r, by rw [Hsf.out], fun h => (by rw [Hsf.out] at h; cases h), fun _ => ⟨_, _, hr7.turn rfl rfl _⟩, hK7.trans (Keep.put _ _ (by omega))⟩
          · rw [hft] at hfit Hsf
            clear hft
            gi_wp2_with fail
            refine ⟨trivial, (fun h => by cases h), (CallsIn.inRound _ (callsIn_wide.2 hfit)).mono ?_⟩
            rintro e W6 ⟨rfl, hb6⟩
            have hr6 := hr5.later hb6
            have hK6 := hK5.trans (Keep.of_below hb6)
            clear hr5 hb6 hK5 hfit
            gi_wp2
            exact ⟨hr6.r, by rw [Hsf.out], fun _ => ⟨by rw [Hlen.out, ← Hmd.out]; exact hr6.turn rfl rfl _, by rw [Hlen.out]; exact Hfew.out⟩, fun h => (by rw [Hsf.out] at h; cases h), hK6.trans (Keep.put _ _ (by omega))⟩
        · have g256 : ((256 : Int) < (pl : Int) + 1) = True := by simp; omega
          have Hsf := Lib.hid (show stepOK pre (md, (VT.mk xk xn xs xcA xcn xcc xkA xkn xkc xkeys xkids)) = false by rw [Hstep.out, decide_eq_false h256]; simp)
          clear h8 h256 hfit
          have hr7 := hr5.setB false
          have hK7 := hK5.trans (Keep.set _ (.bool false) (show w.heap.size + 3 < w.heap.size + 7 by omega))
          gi_wp2
          refine ⟨trivial, ?_⟩
          gi_wp2
          exact ⟨hr7.r, by rw [Hsf.out], fun h => (by rw [Hsf.out] at h; cases h), fun _ => ⟨_, _, hr7.turn rfl rfl _⟩, hK7.trans (Keep.put _ _ (by omega))⟩
      · have g8 : ((8 : Int) < (md : Int)) = True := by simp; omega
        have Hsf := Lib.hid (show stepOK pre (md, (VT.mk xk xn xs xcA xcn xcc xkA xkn xkc xkeys xkids)) = false by rw [Hstep.out, decide_eq_false h8]; rfl)
        clear h8 hfit
        have hr7 := hr5.setB false
        have hK7 := hK5.trans (Keep.set _ (.bool false) (show w.heap.size + 3 < w.heap.size + 7 by omega))
        gi_wp2
        refine ⟨trivial, ?_⟩
        gi_wp2
        exact ⟨hr7.r, by rw [Hsf.out], fun h => (by rw [Hsf.out] at h; cases h), fun _ => ⟨_, _, hr7.turn rfl rfl _⟩, hK7.trans (Keep.put _ _ (by omega))⟩
    · have hltI : ((md : Int) < (d : Int)) = False := by simp; omega
      clear hm
      by_cases h8 : md ≤ 8
      · have g8 : ((8 : Int) < (md : Int)) = False := by simp; omega
        by_cases h256 : pl + 1 ≤ 256
        · have g256 : ((256 : Int) < (pl : Int) + 1) = False := by simp; omega
          have Hsf := Lib.hid (show stepOK pre (d, (VT.mk xk xn xs xcA xcn xcc xkA xkn xkc xkeys xkids)) = VT.fit (VT.mk xk xn xs xcA xcn xcc xkA xkn xkc xkeys xkids) by rw [Hstep.out, decide_eq_true h8, decide_eq_true h256]; rfl)
          have Hfew := Lib.hid h256
          clear h8 h256
          cases hft : VT.fit (VT.mk xk xn xs xcA xcn xcc xkA xkn xkc xkeys xkids)
          · rw [hft] at hfit Hsf
            clear hft
            gi_wp2_with fail
            refine ⟨trivial, (fun h => by cases h), (CallsIn.inRound _ (callsIn_wide.2 hfit)).mono ?_⟩
            rintro e W6 ⟨rfl, hb6⟩
            have hr6 := hr5.later hb6
            have e3 : W6.cell? ⟨w.heap.size + 1 + 1 + 1, 0, none⟩ = some (.bool true) := hr6.b3.cell
            have e3f : W6.frozen? ⟨w.heap.size + 1 + 1 + 1, 0, none⟩ = false := hr6.b3.frozen
            have hr7 := hr6.setB false
            have hK7 := (hK5.trans (Keep.of_below hb6)).trans (Keep.set W6 (.bool false) (show w.heap.size + 3 < w.heap.size + 7 by omega))
            clear hr5 hr6 hb6 hK5 hfit
            gi_wp2
            exact ⟨hr7.r, by rw [Hsf.out], fun h => (by rw [Hsf.out] at h; cases h), fun _ => ⟨_, _, hr7.turn rfl rfl _⟩, hK7.trans (Keep.put _ _ (by omega))⟩
          · rw [hft] at hfit Hsf
            clear hft
            gi_wp2_with fail
            refine ⟨trivial, (fun h => by cases h), (CallsIn.inRound _ (callsIn_wide.2 hfit)).mono ?_⟩
            rintro e W6 ⟨rfl, hb6⟩
            have hr6 := hr5.later hb6
            have hK6 := hK5.trans (Keep.of_below hb6)
            clear hr5 hb6 hK5 hfit
            gi_wp2
            exact ⟨hr6.r, by rw [Hsf.out], fun _ => ⟨by rw [Hlen.out, ← Hmd.out]; exact hr6.turn rfl rfl _, by rw [Hlen.out]; exact Hfew.out⟩, fun h => (by rw [Hsf.out] at h; cases h), hK6.trans (Keep.put _ _ (by omega))⟩
        · have g256 : ((256 : Int) < (pl : Int) + 1) = True := by simp; omega
          have Hsf := Lib.hid (show stepOK pre (d, (VT.mk xk xn xs xcA xcn xcc xkA xkn xkc xkeys xkids)) = false by rw [Hstep.out, decide_eq_false h256]; simp)
          clear h8 h256 hfit
          have hr7 := hr5.setB false
          have hK7 := hK5.trans (Keep.set _ (.bool false) (show w.heap.size + 3 < w.heap.size + 7 by omega))
          gi_wp2
          refine ⟨trivial, ?_⟩
          gi_wp2
          exact ⟨hr7.r, by rw [Hsf.out], fun h => (by rw [Hsf.out] at h; cases h), fun _ => ⟨_, _, hr7.turn rfl rfl _⟩, hK7.trans (Keep.put _ _ (by omega))⟩
      · have g8 : ((8 : Int) < (md : Int)) = True := by simp; omega
        have Hsf := Lib.hid (show stepOK pre (d, (VT.mk xk xn xs xcA xcn xcc xkA xkn xkc xkeys xkids)) = false by rw [Hstep.out, decide_eq_false h8]; rfl)
        clear h8 hfit
        have hr7 := hr5.setB false
        have hK7 := hK5.trans (Keep.set _ (.bool false) (show w.heap.size + 3 < w.heap.size + 7 by omega))
        gi_wp2
        refine ⟨trivial, ?_⟩
        gi_wp2
        exact ⟨hr7.r, by rw [Hsf.out], fun h => (by rw [Hsf.out] at h; cases h), fun _ => ⟨_, _, hr7.turn rfl rfl _⟩, hK7.trans (Keep.put _ _ (by omega))⟩
  refine ((callsIn_wide (n := 5)).2 hcall).mono ?_
  rintro e B1 ⟨hv, hyes, hno⟩
  clear hcall J0 j1 j2 j3 hv4 hv5 hrec hfn hb1
  cases hok : (VT.mk k n s cA cn cc kA kn kc keys kids).ok
  · obtain ⟨a, c, hr⟩ := hno hok
    refine ⟨hv, .done, _, hr.r, by simp, ?_⟩
    have HR := Lib.hid (show measR (VT.mk k n s cA cn cc kA kn kc keys kids) = .tuple #[.int .i64 0, .int .i64 0, .bool false] by unfold measR; rw [hok]; rfl)
    have hr5 := hr.turn rfl rfl (.loop (rec .exhausted (some (.exit 0))))
    generalize B1.putObj (w.heap.size + 6) (.loop (rec .exhausted (some (.exit 0)))) = W5 at *
    have hK := hr5.d
    have hbw := hr5.bel
    have c3 : W5.cell? ⟨w.heap.size + 1 + 1 + 1, 0, none⟩ = some (.bool false) := hr5.b3.cell
    clear hr hr5 hno hyes hv hok hL
    unfold goesOn
    refine wpIn_wide.2 ?_
    go_wp2
    rw [Exit.noGoto_ret]
    refine ⟨by simp, .inl ⟨_, _, rfl, run_takeDeferred hK, ?_⟩⟩
    refine ⟨_, ?_, by rw [HR.out], hbw.trans (belowK_b (w := w) (Nat.le_refl _) _ (w.heap.size + 5) _ _ (by omega) hK rfl rfl)⟩
    simp [results, Tryd.results41, go_sem]
  · obtain ⟨hr, -⟩ := hyes hok
    rw [nodes_dep, Nat.zero_add, nodes_len] at hr
    refine ⟨hv, .ready, none, hr.r, by simp, ?_⟩
    have HR := Lib.hid (show measR (VT.mk k n s cA cn cc kA kn kc keys kids) = .tuple #[.int .i64 ((VT.mk k n s cA cn cc kA kn kc keys kids).dep : Nat), .int .i64 ((VT.mk k n s cA cn cc kA kn kc keys kids).cnt : Nat), .bool true] by unfold measR; rw [hok]; rfl)
    generalize VT.dep (VT.mk k n s cA cn cc kA kn kc keys kids) = a at *
    generalize VT.cnt (VT.mk k n s cA cn cc kA kn kc keys kids) = c at *
    have hr5 := hr.turn rfl rfl (.loop (rec .exhausted none))
    generalize B1.putObj (w.heap.size + 6) (.loop (rec .exhausted none)) = W5 at *
    have hK := hr5.d
    have hbw := hr5.bel
    have c1 : W5.cell? ⟨w.heap.size + 1, 0, none⟩ = some (.int .i64 (a : Nat)) := hr5.b1.cell
    have c2 : W5.cell? ⟨w.heap.size + 1 + 1, 0, none⟩ = some (.int .i64 (c : Nat)) := hr5.b2.cell
    have c3 : W5.cell? ⟨w.heap.size + 1 + 1 + 1, 0, none⟩ = some (.bool true) := hr5.b3.cell
    clear hr hr5 hno hyes hv hok hL
    unfold goesOn
    dsimp only
    go_wp2
    go_quiet (fail)
    go_wp2
    rename_i nq
    have hK2 : (W5.drewN nq).heap[w.heap.size + 5]? = some (.deferred (some [])) := hK
    have hb2 : Below w.heap.size w (W5.drewN nq) := below_drewN hbw _
    rw [Exit.noGoto_ret]
    refine ⟨by simp, .inl ⟨_, _, rfl, run_takeDeferred hK2, ?_⟩⟩
    refine ⟨_, ?_, by rw [HR.out], hb2.trans (belowK_b (w := w) (Nat.le_refl _) _ (w.heap.size + 5) _ _ (by omega) hK2 rfl rfl)⟩
    simp [results, Tryd.results41, go_sem]
end Go.Proofs.YtnldiemggabdkaaDoor
