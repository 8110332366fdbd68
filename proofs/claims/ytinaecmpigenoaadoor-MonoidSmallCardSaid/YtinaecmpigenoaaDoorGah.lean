import Derived.Test.YtinaecmpigenoaaDoorGag
import Derived.Test.YtinaecmpigenoaaDoorGae
/-
  Layer 4: measure.
-/
namespace Go.Proofs.YtinaecmpigenoaaDoor
open Go.RowKit Go.Shelf
attribute [local go_sem] Oper.semAt_some
set_option linter.unusedVariables false

/-- The memory between two rounds: n blocks lay when measure began. -/
structure MJ (n : Nat) (w : World) (lp : Obj) (a c : Nat) (b : Bool) (W : World) : Prop where
  b1 : Boxed W (n + 1) 3 (.int .i64 (a : Nat))
  b2 : Boxed W (n + 2) 3 (.int .i64 (c : Nat))
  b3 : Boxed W (n + 3) 4 (.bool b)
  d : W.heap[n + 5]? = some (.deferred (some []))
  r : W.heap[n + 6]? = some lp
  bel : Below n w W
section
variable {n : Nat} {w : World} {lp : Obj} {a c : Nat} {b : Bool} {W W' : World}
theorem mlies {W W' : World} {k : Nat} {o : Obj} (h : W.heap[k]? = some o) (hb : Below W.heap.size W W') : W'.heap[k]? = some o := (hb.block k (Array.getElem?_eq_some_iff.1 h).1).trans h
theorem MJ.lt (h : MJ n w lp a c b W) : n + 6 < W.heap.size := (Array.getElem?_eq_some_iff.1 h.r).1
theorem MJ.later (h : MJ n w lp a c b W) (hb : Below W.heap.size W W') : MJ n w lp a c b W' :=
  ⟨mlies h.b1 hb, mlies h.b2 hb, mlies h.b3 hb, mlies h.d hb, mlies h.r hb, h.bel.trans (hb.mono (by have := h.lt; omega))⟩
theorem MJ.turn (h : MJ n w lp a c b W) (hl : lp.isCells = false) (hw : lp.isWalk = false) (lp' : Obj) : MJ n w lp' a c b (W.putObj (n + 6) lp') := by
  have o : ∀ {k : Nat} {x : Obj}, W.heap[k]? = some x → k ≠ n + 6 → (W.putObj (n + 6) lp').heap[k]? = some x := fun hk hne => (World.putObj_heap_other hne).trans hk
  have hlt := h.lt
  exact ⟨o h.b1 (by omega), o h.b2 (by omega), o h.b3 (by omega), o h.d (by omega), World.putObj_heap_same hlt, h.bel.grown (grownBy_putObj' W (n + 6) lp') (by omega) (fun k e => by cases e; omega)⟩
theorem MJ.setA (h : MJ n w lp a c b W) (a' : Nat) : MJ n w lp a' c b (W.setCell ⟨n + 1, 0, none⟩ (.int .i64 (a' : Nat))) := by
  have f : ∀ {k : Nat} {o : Obj}, W.heap[k]? = some o → k ≠ n + 1 → (W.setCell ⟨n + 1, 0, none⟩ (.int .i64 (a' : Nat))).heap[k]? = some o := fun hX hne => (Below.heap_setCell W _ _ _ hne).trans hX
  exact ⟨Boxed.set _ h.b1, f h.b2 (by omega), f h.b3 (by omega), f h.d (by omega), f h.r (by omega), h.bel.setCell (by show n ≤ n + 1; omega) _⟩
theorem MJ.setC (h : MJ n w lp a c b W) (c' : Nat) : MJ n w lp a c' b (W.setCell ⟨n + 2, 0, none⟩ (.int .i64 (c' : Nat))) := by
  have f : ∀ {k : Nat} {o : Obj}, W.heap[k]? = some o → k ≠ n + 2 → (W.setCell ⟨n + 2, 0, none⟩ (.int .i64 (c' : Nat))).heap[k]? = some o := fun hX hne => (Below.heap_setCell W _ _ _ hne).trans hX
  exact ⟨f h.b1 (by omega), Boxed.set _ h.b2, f h.b3 (by omega), f h.d (by omega), f h.r (by omega), h.bel.setCell (by show n ≤ n + 2; omega) _⟩
theorem MJ.setB (h : MJ n w lp a c b W) (b' : Bool) : MJ n w lp a c b' (W.setCell ⟨n + 3, 0, none⟩ (.bool b')) := by
  have f : ∀ {k : Nat} {o : Obj}, W.heap[k]? = some o → k ≠ n + 3 → (W.setCell ⟨n + 3, 0, none⟩ (.bool b')).heap[k]? = some o := fun hX hne => (Below.heap_setCell W _ _ _ hne).trans hX
  exact ⟨f h.b1 (by omega), f h.b2 (by omega), Boxed.set _ h.b3, f h.d (by omega), f h.r (by omega), h.bel.setCell (by show n ≤ n + 3; omega) _⟩
end
theorem Keep.set {n k : Nat} (W : World) (v : Value) (h : k < n) : Keep n W (W.setCell ⟨k, 0, none⟩ v) := ⟨by rw [size_set]; exact Nat.le_refl _, fun b hb _ => Below.heap_setCell W ⟨k, 0, none⟩ v b (by show b ≠ k; omega)⟩
theorem Keep.put {n k : Nat} (W : World) (o : Obj) (h : k < n) : Keep n W (W.putObj k o) := ⟨(grownBy_putObj' W k o).size, fun b hb _ => World.putObj_heap_other (by omega)⟩

/-- What measure tells. -/
def measR (T : VT) : Value := if T.ok = true then .tuple #[.int .i64 (T.dep : Nat), .int .i64 (T.cnt : Nat), .bool true] else .tuple #[.int .i64 0, .int .i64 0, .bool false]
set_option maxRecDepth 100000 in
set_option maxHeartbeats 4000000 in
theorem measure_any (k n : Int) (s : ByteArray) (cA : Option Addr) (cn cc : Nat) (kA : Option Addr) (kn kc : Nat) (keys : List ByteArray) (kids : List VT) (B : Nat) (w : World) (hL : Lie w B (.mk k n s cA cn cc kA kn kc keys kids)) (hB : B ≤ w.heap.size) (htab : UTab w) (hst : STab w) :
    Calls Tryd.prog 33 #[.agg #[.int .i64 k, .int .i64 n, .string s, .slice cA cn cc, .slice kA kn kc]] w fun e w' => e = .returned (measR (.mk k n s cA cn cc kA kn kc keys kids)) ∧ Below w.heap.size w w' := by
  refine (callsIn_wide (n := 6)).1 ?_
  refine callsIn_of_wp_marks Tryd.func33 rfl trivial ?_ rfl
  simp only [Tryd.ntmps33, List.size_toArray, List.length_cons, List.length_nil, Nat.reduceAdd, Nat.reduceSub, Array.replicate_succ, Array.replicate_zero, List.push_toArray, List.append_toArray, List.nil_append, List.cons_append]
  refine wpIn_wide.2 ?_
  go_wp2
  go_step3
  go_wp2
  go_step3
  go_wp2_with fail
  refine (vnodes_any _ _ _ _ _ _ _ _ _ _).mono ?_
  rintro e W1 ⟨rfl, hW1⟩
  go_wp2
  refine (wpIn_wide (n := 6)).1 ?_
  refine range_open rfl (by omega) (gf := 42) (lb := #[.pointer (some ⟨w.heap.size + 1 + 1 + 1 + 1, 0, none⟩)]) rfl trivial (enters_of Tryd.func42 (by kernel_rfl) rfl) ?_
  have hsz : W1.heap.size = w.heap.size + 5 := by rw [← hW1]; simp
  have j1 : Boxed W1 (w.heap.size + 1) 3 (.int .i64 0) := by
    rw [← hW1]
    have h := Boxed.new (w.alloc (.cells #[.int .i64 k, .int .i64 n, .string s, .slice cA cn cc, .slice kA kn kc] 39)) 3 (.int .i64 0)
    rw [World.size_alloc] at h
    exact ((h.alloc _).alloc _).alloc _
  have j2 : Boxed W1 (w.heap.size + 2) 3 (.int .i64 0) := by
    rw [← hW1]
    have h := Boxed.new ((w.alloc (.cells #[.int .i64 k, .int .i64 n, .string s, .slice cA cn cc, .slice kA kn kc] 39)).alloc (.cells #[.int .i64 0] 3)) 3 (.int .i64 0)
    rw [World.size_alloc, World.size_alloc] at h
    exact (h.alloc _).alloc _
  have j3 : Boxed W1 (w.heap.size + 3) 4 (.bool true) := by
    rw [← hW1]
    have h := Boxed.new (((w.alloc (.cells #[.int .i64 k, .int .i64 n, .string s, .slice cA cn cc, .slice kA kn kc] 39)).alloc (.cells #[.int .i64 0] 3)).alloc (.cells #[.int .i64 0] 3)) 4 (.bool true)
    rw [World.size_alloc, World.size_alloc, World.size_alloc] at h
    exact h.alloc _
  have hb1 : Below w.heap.size w W1 := by rw [← hW1]; exact bel_alloc (bel_alloc (bel_alloc (bel_alloc (bel_alloc (Below.refl _ _) _) _) _) _) _
  have hv4 : ∀ j u, (#[Value.int .i64 k, .int .i64 n, .string s, .slice cA cn cc, .slice kA kn kc] : Array Value)[j]? = some u → W1.cell? ⟨w.heap.size + 4, j, none⟩ = some u := fun j u hu => by
    have h := (Box.new ((((w.alloc (.cells #[.int .i64 k, .int .i64 n, .string s, .slice cA cn cc, .slice kA kn kc] 39)).alloc (.cells #[.int .i64 0] 3)).alloc (.cells #[.int .i64 0] 3)).alloc (.cells #[.bool true] 4)) #[.int .i64 k, .int .i64 n, .string s, .slice cA cn cc, .slice kA kn kc] 39 j u (by simpa using hu)).1
    rw [World.size_alloc, World.size_alloc, World.size_alloc, World.size_alloc] at h
    rw [← hW1]
    exact h
  clear hW1
  rw [hsz]
  intro fn hfn
  generalize hrec : recOf fn _ _ _ _ _ = rec
  have J0 : MJ w.heap.size w (.loop (rec .ready none)) 0 0 true ((W1.alloc (.deferred (some []))).alloc (.loop (rec .ready none))) := by
    refine ⟨(j1.alloc _).alloc _, (j2.alloc _).alloc _, (j3.alloc _).alloc _, ?_, ?_, bel_alloc (bel_alloc hb1 _) _⟩
    · have h := World.alloc_heap_new W1 (.deferred (some []))
      rw [hsz] at h
      exact (Below.heap_alloc _ _ _ (by simp [hsz])).trans h
    · have h := World.alloc_heap_new (W1.alloc (.deferred (some []))) (.loop (rec .ready none))
      rw [World.size_alloc, hsz] at h
      exact h
  have hv5 : Cell5 ((W1.alloc (.deferred (some []))).alloc (.loop (rec .ready none))) (w.heap.size + 4) 0 (.mk k n s cA cn cc kA kn kc keys kids) := by
    have g : ∀ j u, (#[Value.int .i64 k, .int .i64 n, .string s, .slice cA cn cc, .slice kA kn kc] : Array Value)[j]? = some u → ((W1.alloc (.deferred (some []))).alloc (.loop (rec .ready none))).cell? ⟨w.heap.size + 4, j, none⟩ = some u := fun j u hu => cell_keep (cell_keep (hv4 j u hu) _) _
    exact ⟨g 0 _ rfl, g 1 _ rfl, g 2 _ rfl, g 3 _ rfl, g 4 _ rfl⟩
  have hcall := vnodes1_any (w.heap.size + 6) (w.heap.size + 4) (w.heap.size + 7) B w (fun pre W => MJ w.heap.size w (.loop (rec .ready none)) (mdL pre) pre.length true W ∧ pre.length ≤ 256) (fun W => ∃ a c, MJ w.heap.size w (.loop (rec .done (some (.exit 0)))) a c false W) (.mk k n s cA cn cc kA kn kc keys kids) hL
    (fun pre W W' h hb => ⟨h.1.later hb, h.2⟩) (fun pre W h => ⟨h.1.bel.mono hB, by have := h.1.lt; omega⟩) ?hY _ ⟨J0, by simp⟩ (by simp [hsz]) hv5
  case hY =>
    rintro m pre d T' W ⟨hr, hbnd⟩ hL' hd9
    have hl5 := hr.r
    rw [← hrec] at hl5
    refine round_open hfn hl5 rfl ?_
    simp only [hrec]
    obtain ⟨xk, xn, xs, xcA, xcn, xcc, xkA, xkn, xkc, xkeys, xkids⟩ := T'
    simp only [VT.agg]
    clear hl5 J0 j1 j2 j3 hv4 hv5 hL
    gi_wp2
    have hr2 := hr.later (W' := W.alloc (.cells #[.int .i64 xk, .int .i64 xn, .string xs, .slice xcA xcn xcc, .slice xkA xkn xkc] 39)) (bel_alloc (Below.refl _ _) _)
    have hS2 : (W.alloc (.cells #[.int .i64 xk, .int .i64 xn, .string xs, .slice xcA xcn xcc, .slice xkA xkn xkc] 39)).heap[W.heap.size]? = some (.cells #[.int .i64 xk, .int .i64 xn, .string xs, .slice xcA xcn xcc, .slice xkA xkn xkc] 39 (0, 0)) := World.alloc_heap_new W _
    refine ⟨hr2.r, ?_⟩
    have hr3 := hr2.turn rfl rfl (.loop (rec .busy none))
    have hlt := hr.lt
    have hS := (World.putObj_heap_other (o := .loop (rec .busy none)) (show W.heap.size ≠ w.heap.size + 6 by omega)).trans hS2
    have hK3 : Keep (w.heap.size + 7) W ((W.alloc (.cells #[.int .i64 xk, .int .i64 xn, .string xs, .slice xcA xcn xcc, .slice xkA xkn xkc] 39)).putObj (w.heap.size + 6) (.loop (rec .busy none))) := (Keep.of_below (bel_alloc (Below.refl _ _) _)).trans (Keep.put _ _ (by omega))
    generalize (W.alloc (.cells #[.int .i64 xk, .int .i64 xn, .string xs, .slice xcA xcn xcc, .slice xkA xkn xkc] 39)).putObj (w.heap.size + 6) (.loop (rec .busy none)) = W3 at *
    clear hS2 hr2 hr
    obtain ⟨md, hmd⟩ : ∃ md, md = mdL (pre ++ [(d, (VT.mk xk xn xs xcA xcn xcc xkA xkn xkc xkeys xkids))]) := ⟨_, rfl⟩
    have hms := mdL_snoc pre (d, (VT.mk xk xn xs xcA xcn xcc xkA xkn xkc xkeys xkids))
    rw [← hmd] at hms
    simp only at hms
    have hstep : stepOK pre (d, (VT.mk xk xn xs xcA xcn xcc xkA xkn xkc xkeys xkids)) = (decide (md ≤ 8) && (decide (pre.length + 1 ≤ 256) && VT.fit (VT.mk xk xn xs xcA xcn xcc xkA xkn xkc xkeys xkids))) := by rw [hmd]; rfl
    have Hstep := Lib.hid hstep
    have Hlen := Lib.hid (show (pre ++ [(d, (VT.mk xk xn xs xcA xcn xcc xkA xkn xkc xkeys xkids))]).length = pre.length + 1 by simp)
    have Hmd := Lib.hid hmd
    clear hstep hmd
    generalize hml : mdL pre = m0 at *
    generalize hpl : pre.length = pl at *
    have hr4 := hr3.setA md
    have hr5 := hr4.setC (pl + 1)
    have hp1 : ((pl + 1 : Nat) : Int) = (pl : Int) + 1 := by omega
    have c1 : W3.cell? ⟨w.heap.size + 1, 0, none⟩ = some (.int .i64 (m0 : Nat)) := hr3.b1.cell
    have c1f : W3.frozen? ⟨w.heap.size + 1, 0, none⟩ = false := hr3.b1.frozen
    have c2 : W3.cell? ⟨w.heap.size + 1 + 1, 0, none⟩ = some (.int .i64 (pl : Nat)) := hr3.b2.cell
    have c2f : W3.frozen? ⟨w.heap.size + 1 + 1, 0, none⟩ = false := hr3.b2.frozen
    have c3 : W3.cell? ⟨w.heap.size + 1 + 1 + 1, 0, none⟩ = some (.bool true) := hr3.b3.cell
    have c3f : W3.frozen? ⟨w.heap.size + 1 + 1 + 1, 0, none⟩ = false := hr3.b3.frozen
    have d0 : W3.cell? ⟨W.heap.size, 0, none⟩ = some (.int .i64 xk) := by simp [World.cell?, hS]
    have d1 : W3.cell? ⟨W.heap.size, 1, none⟩ = some (.int .i64 xn) := by simp [World.cell?, hS]
    have d2 : W3.cell? ⟨W.heap.size, 2, none⟩ = some (.string xs) := by simp [World.cell?, hS]
    have d3 : W3.cell? ⟨W.heap.size, 3, none⟩ = some (.slice xcA xcn xcc) := by simp [World.cell?, hS]
    have d4 : W3.cell? ⟨W.heap.size, 4, none⟩ = some (.slice xkA xkn xkc) := by simp [World.cell?, hS]
    have hK5 := (hK3.trans (Keep.set W3 (.int .i64 (md : Nat)) (show w.heap.size + 1 < w.heap.size + 7 by omega))).trans (Keep.set _ (.int .i64 ((pl + 1 : Nat) : Int)) (show w.heap.size + 2 < w.heap.size + 7 by omega))
    have hfit := fits_any xk xn xs xcA xcn xcc xkA xkn xkc xkeys xkids B _ (hL'.later (hr5.bel.mono hB)) (Nat.le_trans hB hr5.bel.size) (htab.below hr5.bel htab.lt) (hst.below hr5.bel hst.lt)
    have n1 : (W.heap.size = w.heap.size + 1) = False := by simp; omega
    have n2 : (W.heap.size = w.heap.size + 1 + 1) = False := by simp; omega
    have n3 : (w.heap.size + 1 = W.heap.size) = False := by simp; omega
    have n4 : (w.heap.size + 1 + 1 = W.heap.size) = False := by simp; omega
    rw [hp1] at hK5 hr5 hfit
    clear hS hr3 hr4 hK3
    have hcase : (m0 < d ∧ md = d) ∨ (¬ m0 < d ∧ md = m0) := by omega
    clear hms
    rcases hcase with ⟨hm, rfl⟩ | ⟨hm, rfl⟩
    · have hltI : ((m0 : Int) < (md : Int)) = True := by simp; omega
      clear hm
      by_cases h8 : md ≤ 8
      · have g8 : ((8 : Int) < (md : Int)) = False := by simp; omega
        by_cases h256 : pl + 1 ≤ 256
        · have g256 : ((256 : Int) < (pl : Int) + 1) = False := by simp; omega
          have Hsf := Lib.hid (show stepOK pre (md, (VT.mk xk xn xs xcA xcn xcc xkA xkn xkc xkeys xkids)) = VT.fit (VT.mk xk xn xs xcA xcn xcc xkA xkn xkc xkeys xkids) by rw [Hstep.out, decide_eq_true h8, decide_eq_true h256]; rfl)
          have Hfew := Lib.hid h256
          clear h8 h256
          cases hft : VT.fit (VT.mk xk xn xs xcA xcn xcc xkA xkn xkc xkeys xkids)
          · rw [hft] at hfit Hsf
            clear hft
            gi_wp2_with fail
            refine ⟨trivial, (fun h => by cases h), (CallsIn.inRound _ (callsIn_wide.2 hfit)).mono ?_⟩
            rintro e W6 ⟨rfl, hb6⟩
            have hr6 := hr5.later hb6
            have e3 : W6.cell? ⟨w.heap.size + 1 + 1 + 1, 0, none⟩ = some (.bool true) := hr6.b3.cell
            have e3f : W6.frozen? ⟨w.heap.size + 1 + 1 + 1, 0, none⟩ = false := hr6.b3.frozen
            have hr7 := hr6.setB false
            have hK7 := (hK5.trans (Keep.of_below hb6)).trans (Keep.set W6 (.bool false) (show w.heap.size + 3 < w.heap.size + 7 by omega))
            clear hr5 hr6 hb6 hK5 hfit
            gi_wp2
            exact ⟨hr7.r, by rw [Hsf.out], fun h => (by rw [Hsf.out] at h; cases h), fun _ => ⟨_, _, hr7.turn rfl rfl _⟩, hK7.trans (Keep.put _ _ (by omega))⟩
          · rw [hft] at hfit Hsf
            clear hft
            gi_wp2_with fail
            refine ⟨trivial, (fun h => by cases h), (CallsIn.inRound _ (callsIn_wide.2 hfit)).mono ?_⟩
            rintro e W6 ⟨rfl, hb6⟩
            have hr6 := hr5.later hb6
            have hK6 := hK5.trans (Keep.of_below hb6)
            clear hr5 hb6 hK5 hfit
            gi_wp2
            exact ⟨hr6.r, by rw [Hsf.out], fun _ => ⟨by rw [Hlen.out, ← Hmd.out]; exact hr6.turn rfl rfl _, by rw [Hlen.out]; exact Hfew.out⟩, fun h => (by rw [Hsf.out] at h; cases h), hK6.trans (Keep.put _ _ (by omega))⟩
        · have g256 : ((256 : Int) < (pl : Int) + 1) = True := by simp; omega
          have Hsf := Lib.hid (show stepOK pre (md, (VT.mk xk xn xs xcA xcn xcc xkA xkn xkc xkeys xkids)) = false by rw [Hstep.out, decide_eq_false h256]; simp)
          clear h8 h256 hfit
          have hr7 := hr5.setB false
          have hK7 := hK5.trans (Keep.set _ (.bool false) (show w.heap.size + 3 < w.heap.size + 7 by omega))
          gi_wp2
          refine ⟨trivial, ?_⟩
          gi_wp2
          exact ⟨hr7.r, by rw [Hsf.out], fun h => (by rw [Hsf.out] at h; cases h), fun _ => ⟨_, _, hr7.turn rfl rfl _⟩, hK7.trans (Keep.put _ _ (by omega))⟩
      · have g8 : ((8 : Int) < (md : Int)) = True := by simp; omega
        have Hsf := Lib.hid (show stepOK pre (md, (VT.mk xk xn xs xcA xcn xcc xkA xkn xkc xkeys xkids)) = false by rw [Hstep.out, decide_eq_false h8]; rfl)
        clear h8 hfit
        have hr7 := hr5.setB false
        have hK7 := hK5.trans (Keep.set _ (.bool false) (show w.heap.size + 3 < w.heap.size + 7 by omega))
        gi_wp2
        refine ⟨trivial, ?_⟩
        gi_wp2
        exact ⟨hr7.r, by rw [Hsf.out], fun h => (by rw [Hsf.out] at h; cases h), fun _ => ⟨_, _, hr7.turn rfl rfl _⟩, hK7.trans (Keep.put _ _ (by omega))⟩
    · have hltI : ((md : Int) < (d : Int)) = False := by simp; omega
      clear hm
      by_cases h8 : md ≤ 8
      · have g8 : ((8 : Int) < (md : Int)) = False := by simp; omega
        by_cases h256 : pl + 1 ≤ 256
        · have g256 : ((256 : Int) < (pl : Int) + 1) = False := by simp; omega
          have Hsf := Lib.hid (show stepOK pre (d, (VT.mk xk xn xs xcA xcn xcc xkA xkn xkc xkeys xkids)) = VT.fit (VT.mk xk xn xs xcA xcn xcc xkA xkn xkc xkeys xkids) by rw [Hstep.out, decide_eq_true h8, decide_eq_true h256]; rfl)
          have Hfew := Lib.hid h256
          clear h8 h256
          cases hft : VT.fit (VT.mk xk xn xs xcA xcn xcc xkA xkn xkc xkeys xkids)
          · rw [hft] at hfit Hsf
            clear hft
            gi_wp2_with fail
            refine ⟨trivial, (fun h => by cases h), (CallsIn.inRound _ (callsIn_wide.2 hfit)).mono ?_⟩
            rintro e W6 ⟨rfl, hb6⟩
            have hr6 := hr5.later hb6
            have e3 : W6.cell? ⟨w.heap.size + 1 + 1 + 1, 0, none⟩ = some (.bool true) := hr6.b3.cell
            have e3f : W6.frozen? ⟨w.heap.size + 1 + 1 + 1, 0, none⟩ = false := hr6.b3.frozen
            have hr7 := hr6.setB false
            have hK7 := (hK5.trans (Keep.of_below hb6)).trans (Keep.set W6 (.bool false) (show w.heap.size + 3 < w.heap.size + 7 by omega))
            clear hr5 hr6 hb6 hK5 hfit
            gi_wp2
            exact ⟨hr7.r, by rw [Hsf.out], fun h => (by rw [Hsf.out] at h; cases h), fun _ => ⟨_, _, hr7.turn rfl rfl _⟩, hK7.trans (Keep.put _ _ (by omega))⟩
          · rw [hft] at hfit Hsf
            clear hft
            gi_wp2_with fail
            refine ⟨trivial, (fun h => by cases h), (CallsIn.inRound _ (callsIn_wide.2 hfit)).mono ?_⟩
            rintro e W6 ⟨rfl, hb6⟩
            have hr6 := hr5.later hb6
            have hK6 := hK5.trans (Keep.of_below hb6)
            clear hr5 hb6 hK5 hfit
            gi_wp2
            exact ⟨hr6.r, by rw [Hsf.out], fun _ => ⟨by rw [Hlen.out, ← Hmd.out]; exact hr6.turn rfl rfl _, by rw [Hlen.out]; exact Hfew.out⟩, fun h => (by rw [Hsf.out] at h; cases h), hK6.trans (Keep.put _ _ (by omega))⟩
        · have g256 : ((256 : Int) < (pl : Int) + 1) = True := by simp; omega
          have Hsf := Lib.hid (show stepOK pre (d, (VT.mk xk xn xs xcA xcn xcc xkA xkn xkc xkeys xkids)) = false by rw [Hstep.out, decide_eq_false h256]; simp)
          clear h8 h256 hfit
          have hr7 := hr5.setB false
          have hK7 := hK5.trans (Keep.set _ (.bool false) (show w.heap.size + 3 < w.heap.size + 7 by omega))
          gi_wp2
          refine ⟨trivial, ?_⟩
          gi_wp2
          exact ⟨hr7.r, by rw [Hsf.out], fun h => (by rw [Hsf.out] at h; cases h), fun _ => ⟨_, _, hr7.turn rfl rfl _⟩, hK7.trans (Keep.put _ _ (by omega))⟩
      · have g8 : ((8 : Int) < (md : Int)) = True := by simp; omega
        have Hsf := Lib.hid (show stepOK pre (d, (VT.mk xk xn xs xcA xcn xcc xkA xkn xkc xkeys xkids)) = false by rw [Hstep.out, decide_eq_false h8]; rfl)
        clear h8 hfit
        have hr7 := hr5.setB false
        have hK7 := hK5.trans (Keep.set _ (.bool false) (show w.heap.size + 3 < w.heap.size + 7 by omega))
        gi_wp2
        refine ⟨trivial, ?_⟩
        gi_wp2
        exact ⟨hr7.r, by rw [Hsf.out], fun h => (by rw [Hsf.out] at h; cases h), fun _ => ⟨_, _, hr7.turn rfl rfl _⟩, hK7.trans (Keep.put _ _ (by omega))⟩
  refine ((callsIn_wide (n := 5)).2 hcall).mono ?_
  rintro e B1 ⟨hv, hyes, hno⟩
  clear hcall J0 j1 j2 j3 hv4 hv5 hrec hfn hb1
  cases hok : (VT.mk k n s cA cn cc kA kn kc keys kids).ok
  · obtain ⟨a, c, hr⟩ := hno hok
    refine ⟨hv, .done, _, hr.r, by simp, ?_⟩
    have HR := Lib.hid (show measR (VT.mk k n s cA cn cc kA kn kc keys kids) = .tuple #[.int .i64 0, .int .i64 0, .bool false] by unfold measR; rw [hok]; rfl)
    have hr5 := hr.turn rfl rfl (.loop (rec .exhausted (some (.exit 0))))
    generalize B1.putObj (w.heap.size + 6) (.loop (rec .exhausted (some (.exit 0)))) = W5 at *
    have hK := hr5.d
    have hbw := hr5.bel
    have c3 : W5.cell? ⟨w.heap.size + 1 + 1 + 1, 0, none⟩ = some (.bool false) := hr5.b3.cell
    clear hr hr5 hno hyes hv hok hL
    unfold goesOn
    refine wpIn_wide.2 ?_
    go_wp2
    rw [Exit.noGoto_ret]
    refine ⟨by simp, .inl ⟨_, _, rfl, run_takeDeferred hK, ?_⟩⟩
    refine ⟨_, ?_, by rw [HR.out], hbw.trans (belowK_b (w := w) (Nat.le_refl _) _ (w.heap.size + 5) _ _ (by omega) hK rfl rfl)⟩
    simp [results, Tryd.results33, go_sem]
  · obtain ⟨hr, -⟩ := hyes hok
    rw [nodes_dep, Nat.zero_add, nodes_len] at hr
    refine ⟨hv, .ready, none, hr.r, by simp, ?_⟩
    have HR := Lib.hid (show measR (VT.mk k n s cA cn cc kA kn kc keys kids) = .tuple #[.int .i64 ((VT.mk k n s cA cn cc kA kn kc keys kids).dep : Nat), .int .i64 ((VT.mk k n s cA cn cc kA kn kc keys kids).cnt : Nat), .bool true] by unfold measR; rw [hok]; rfl)
    generalize VT.dep (VT.mk k n s cA cn cc kA kn kc keys kids) = a at *
    generalize VT.cnt (VT.mk k n s cA cn cc kA kn kc keys kids) = c at *
    have hr5 := hr.turn rfl rfl (.loop (rec .exhausted none))
    generalize B1.putObj (w.heap.size + 6) (.loop (rec .exhausted none)) = W5 at *
    have hK := hr5.d
    have hbw := hr5.bel
    have c1 : W5.cell? ⟨w.heap.size + 1, 0, none⟩ = some (.int .i64 (a : Nat)) := hr5.b1.cell
    have c2 : W5.cell? ⟨w.heap.size + 1 + 1, 0, none⟩ = some (.int .i64 (c : Nat)) := hr5.b2.cell
    have c3 : W5.cell? ⟨w.heap.size + 1 + 1 + 1, 0, none⟩ = some (.bool true) := hr5.b3.cell
    clear hr hr5 hno hyes hv hok hL
    unfold goesOn
    dsimp only
    go_wp2
    go_quiet (fail)
    go_wp2
    rename_i nq
    have hK2 : (W5.drewN nq).heap[w.heap.size + 5]? = some (.deferred (some [])) := hK
    have hb2 : Below w.heap.size w (W5.drewN nq) := below_drewN hbw _
    rw [Exit.noGoto_ret]
    refine ⟨by simp, .inl ⟨_, _, rfl, run_takeDeferred hK2, ?_⟩⟩
    refine ⟨_, ?_, by rw [HR.out], hb2.trans (belowK_b (w := w) (Nat.le_refl _) _ (w.heap.size + 5) _ _ (by omega) hK2 rfl rfl)⟩
    simp [results, Tryd.results33, go_sem]
end Go.Proofs.YtinaecmpigenoaaDoor
/-
  Layer 4: equal; slices.Equal at strings; slices.EqualFunc at values.
-/
namespace Go.Proofs.YtinaecmpigenoaaDoor
open Go.RowKit
set_option linter.unusedVariables false

/-- A value without its slices' heads. -/
inductive ET where
  | mk (k n : Int) (s : ByteArray) (keys : List ByteArray) (kids : List ET)
def VT.e : VT → ET | .mk k n s _ _ _ _ _ _ keys kids => .mk k n s keys (kids.attach.map fun x => x.1.e)
termination_by T => SizeOf.sizeOf T
decreasing_by
  have := List.sizeOf_lt_of_mem x.2
  simp only [VT.mk.sizeOf_spec]
  omega
theorem e_mk (k n : Int) (s : ByteArray) (cA : Option Addr) (cn cc : Nat) (kA : Option Addr) (kn kc : Nat) (keys : List ByteArray) (kids : List VT) : (VT.mk k n s cA cn cc kA kn kc keys kids).e = .mk k n s keys (kids.map VT.e) := by
  rw [VT.e, attach_map kids VT.e]
noncomputable def sameV (T T' : VT) : Bool := @decide (T.e = T'.e) (Classical.propDecidable _)
noncomputable def sameVL (l l' : List VT) : Bool := @decide (l.map VT.e = l'.map VT.e) (Classical.propDecidable _)
theorem sameV_iff (T T' : VT) : sameV T T' = true ↔ T.e = T'.e := by unfold sameV; exact @decide_eq_true_iff _ (Classical.propDecidable _)
theorem sameVL_iff (l l' : List VT) : sameVL l l' = true ↔ l.map VT.e = l'.map VT.e := by unfold sameVL; exact @decide_eq_true_iff _ (Classical.propDecidable _)
theorem bool_no {b : Bool} {P : Prop} (h : b = true ↔ P) (hn : ¬ P) : b = false := by cases b; rfl; exact absurd (h.1 rfl) hn
theorem str_ne {s t : ByteArray} (h : s ≠ t) : (s.toList == t.toList) = false := by
  rw [beq_eq_false_iff_ne]
  intro e
  rw [ByteArray.toList_eq, ByteArray.toList_eq] at e
  exact h (ByteArray.ext (Array.toList_inj.1 e))
theorem str_eq (s : ByteArray) : (s.toList == s.toList) = true := by simp

set_option maxRecDepth 20000 in
set_option maxHeartbeats 1000000 in
theorem equalS_any (A1 A2 : Option Addr) (n1 c1 n2 c2 : Nat) (l1 l2 : List ByteArray) (B1 B2 : Nat) (w : World) (h1 : Shows w B1 1 A1 n1 (l1.map Value.string)) (h2 : Shows w B2 1 A2 n2 (l2.map Value.string)) (hm1 : n1 ≤ maxLen) :
    Calls Tryd.prog 34 #[.slice A1 n1 c1, .slice A2 n2 c2] w fun e w' => e = .returned (.bool (decide (l1 = l2))) ∧ ∃ k, w' = w.drewN k := by
  unfold maxLen at hm1
  have H1 := Lib.hid (keys_len h1)
  have H2 := Lib.hid (keys_len h2)
  by_cases hn : n1 = n2
  · subst hn
    go_enter Tryd.func34, Tryd.ntmps34
    go_wp2
    go_loopw [13] (fun i wr => ∃ k : Nat, k ≤ n1 ∧ i = .int .i64 k ∧ (∀ q, q < k → l1.getD q ⟨#[]⟩ = l2.getD q ⟨#[]⟩) ∧ ∃ m, wr = w.drewN m) (fun i _ => n1 - (intOf i).toNat)
    case atStart => exact ⟨0, Nat.zero_le _, rfl, fun q h => by omega, 0, rfl⟩
    case round =>
      obtain ⟨k, hk, rfl, ht, m, rfl⟩ := hrel
      by_cases hlt : k < n1
      · obtain ⟨b1, o1, rfl, _, hc1⟩ := key_at h1 hlt
        obtain ⟨b2, o2, rfl, _, hc2⟩ := key_at h2 hlt
        have hlt' : (k : Int) < n1 := by omega
        have hk0 : (0 : Int) ≤ k := by omega
        by_cases hx : l1.getD k ⟨#[]⟩ = l2.getD k ⟨#[]⟩
        · have ht' := Lib.hid (show ∀ q, q < k + 1 → l1.getD q ⟨#[]⟩ = l2.getD q ⟨#[]⟩ from fun q h => if e : q = k then e ▸ hx else ht q (by omega))
          rw [hx] at hc1
          clear ht hx
          generalize l2.getD k ⟨#[]⟩ = x at *
          have hb : (x.toList == x.toList) = true := str_eq x
          have hb2 : (x.toList != x.toList) = false := by simp
          go_wp2
          go_quiet (fail)
          go_wp2
          go_roundw
          case rel => exact ⟨k + 1, by omega, by go_num, ht'.out, _, rfl⟩
          case measure => simp [intOf]; omega
        · have hs := Lib.hid (show decide (l1 = l2) = false from decide_eq_false fun h => hx (by rw [h]))
          have hb := str_ne hx
          have hb2 : ((l1.getD k ⟨#[]⟩).toList != (l2.getD k ⟨#[]⟩).toList) = true := by rw [bne, hb]; rfl
          clear ht hx
          generalize l1.getD k ⟨#[]⟩ = x at *
          generalize l2.getD k ⟨#[]⟩ = y at *
          go_wp2
          go_quiet (fail)
          go_wp2
          go_ret
          exact ⟨by rw [hs.out]; rfl, _, World.drewN_drewN _ _ _⟩
      · have hk' : k = n1 := by omega
        have hs := Lib.hid (show decide (l1 = l2) = true by
          apply decide_eq_true
          apply List.ext_getElem (by rw [H1.out, H2.out])
          intro i hi1 hi2
          have := ht i (by rw [H1.out] at hi1; omega)
          rw [List.getD_eq_getElem?_getD, List.getD_eq_getElem?_getD, List.getElem?_eq_getElem hi1, List.getElem?_eq_getElem hi2] at this
          exact this)
        subst hk'
        clear ht
        go_wp2
        go_ret
        exact ⟨by rw [hs.out]; rfl, m, rfl⟩
  · have hb : ((n1 : Int) != (n2 : Int)) = true := by rw [bne_iff_ne]; omega
    have hs := Lib.hid (show decide (l1 = l2) = false from decide_eq_false fun h => hn (by rw [← H1.out, ← H2.out, h]))
    go_enter Tryd.func34, Tryd.ntmps34
    go_wp2
    go_ret
    exact ⟨by rw [hs.out]; rfl, 0, rfl⟩

set_option maxRecDepth 20000 in
set_option maxHeartbeats 1000000 in
theorem equalF_any (A1 A2 : Option Addr) (n1 c1 n2 c2 : Nat) (l1 l2 : List VT) (B1 B2 : Nat) (w : World) (h1 : Shows w B1 5 A1 n1 (l1.flatMap VT.cells)) (h2 : Shows w B2 5 A2 n2 (l2.flatMap VT.cells)) (hm1 : n1 ≤ maxLen) (hm2 : n2 ≤ maxLen) (hB1 : B1 ≤ w.heap.size) (hB2 : B2 ≤ w.heap.size)
    (he : ∀ (i : Nat) (x y : VT) (W : World), l1[i]? = some x → l2[i]? = some y → Below w.heap.size w W → Calls Tryd.prog 22 #[x.agg, y.agg] W fun e W' => e = .returned (.bool (sameV x y)) ∧ Below W.heap.size W W') :
    Calls Tryd.prog 35 #[.slice A1 n1 c1, .slice A2 n2 c2, .func (.func 22) #[] #[]] w fun e w' => e = .returned (.bool (sameVL l1 l2)) ∧ Below w.heap.size w w' := by
  unfold maxLen at hm1 hm2
  have H1 := Lib.hid (kids_len h1)
  have H2 := Lib.hid (kids_len h2)
  by_cases hn : n1 = n2
  · subst hn
    go_enter Tryd.func35, Tryd.ntmps35
    go_wp2
    go_loopw [17] (fun i wr => ∃ k : Nat, k ≤ n1 ∧ i = .int .i64 k ∧ Hid (∀ q x y, q < k → l1[q]? = some x → l2[q]? = some y → x.e = y.e) ∧ Below w.heap.size w wr) (fun i _ => n1 - (intOf i).toNat)
    case atStart => exact ⟨0, Nat.zero_le _, rfl, Lib.hid (fun q x y h => by omega), Below.refl _ _⟩
    case round =>
      obtain ⟨k, hk, rfl, ht, hbr⟩ := hrel
      by_cases hlt : k < n1
      · obtain ⟨b1, o1, x, rfl, _, hx, hf1⟩ := kids_at (h1.below (hbr.mono hB1)) hlt
        obtain ⟨b2, o2, y, rfl, _, hy, hf2⟩ := kids_at (h2.below (hbr.mono hB2)) hlt
        have hlt' : (k : Int) < n1 := by omega
        have hk0 : (0 : Int) ≤ k := by omega
        have hcall := fun W hb => he k x y W hx hy (bel_next hbr hb)
        have Hxy := Lib.hid (And.intro hx hy)
        obtain ⟨xk, xn, xs, xcA, xcn, xcc, xkA, xkn, xkc, xkeys, xkids⟩ := x
        obtain ⟨yk, yn, ys, ycA, ycn, ycc, ykA, ykn, ykc, ykeys, ykids⟩ := y
        obtain ⟨f0, f1, f2, f3, f4⟩ := hf1
        obtain ⟨g0, g1, g2, g3, g4⟩ := hf2
        have k0 := cell_keep g0 (.cells #[.int .i64 xk, .int .i64 xn, .string xs, .slice xcA xcn xcc, .slice xkA xkn xkc] 39)
        have k1 := cell_keep g1 (.cells #[.int .i64 xk, .int .i64 xn, .string xs, .slice xcA xcn xcc, .slice xkA xkn xkc] 39)
        have k2 := cell_keep g2 (.cells #[.int .i64 xk, .int .i64 xn, .string xs, .slice xcA xcn xcc, .slice xkA xkn xkc] 39)
        have k3 := cell_keep g3 (.cells #[.int .i64 xk, .int .i64 xn, .string xs, .slice xcA xcn xcc, .slice xkA xkn xkc] 39)
        have k4 := cell_keep g4 (.cells #[.int .i64 xk, .int .i64 xn, .string xs, .slice xcA xcn xcc, .slice xkA xkn xkc] 39)
        have hbb := bel_alloc (bel_alloc (Below.refl wr.heap.size wr) (.cells #[.int .i64 xk, .int .i64 xn, .string xs, .slice xcA xcn xcc, .slice xkA xkn xkc] 39)) (.cells #[.int .i64 yk, .int .i64 yn, .string ys, .slice ycA ycn ycc, .slice ykA ykn ykc] 39)
        have hc := hcall _ hbb
        simp only [VT.agg] at hc
        clear hcall
        cases hs : sameV (.mk xk xn xs xcA xcn xcc xkA xkn xkc xkeys xkids) (.mk yk yn ys ycA ycn ycc ykA ykn ykc ykeys ykids)
        · rw [hs] at hc
          have HR := Lib.hid (show sameVL l1 l2 = false from bool_no (sameVL_iff l1 l2) fun e => by
            have := congrArg (·[k]?) e
            simp only [List.getElem?_map, Hxy.out.1, Hxy.out.2, Option.map_some] at this
            have h2 := (sameV_iff _ _).2 (Option.some.inj this)
            rw [hs] at h2; cases h2)
          clear hs hx hy
          go_wp2_with fail
          refine hc.mono ?_
          rintro e w1 ⟨rfl, hb1⟩
          go_wp2
          go_ret
          exact ⟨vret_b HR.out.symm, bel_next (bel_next hbr hbb) hb1⟩
        · rw [hs] at hc
          have HT := Lib.hid (show ∀ q x y, q < k + 1 → l1[q]? = some x → l2[q]? = some y → x.e = y.e from fun q x y h a b => if e : q = k then by
              subst e
              rw [Hxy.out.1] at a
              rw [Hxy.out.2] at b
              injection a with a
              injection b with b
              subst a b
              exact (sameV_iff _ _).1 hs
            else ht.out q x y (by omega) a b)
          clear hs hx hy ht
          go_wp2_with fail
          refine hc.mono ?_
          rintro e w1 ⟨rfl, hb1⟩
          go_wp2
          go_roundw
          case rel => exact ⟨k + 1, by omega, by go_num, HT, bel_next (bel_next hbr hbb) hb1⟩
          case measure => simp [intOf]; omega
      · have hk' : k = n1 := by omega
        have HR := Lib.hid (show sameVL l1 l2 = true from (sameVL_iff l1 l2).2 (by
          apply List.ext_getElem (by simp [H1.out, H2.out])
          intro i hi1 hi2
          rw [List.length_map] at hi1 hi2
          rw [List.getElem_map, List.getElem_map]
          exact ht.out i _ _ (by rw [H1.out] at hi1; omega) (List.getElem?_eq_getElem hi1) (List.getElem?_eq_getElem hi2)))
        subst hk'
        clear ht
        go_wp2
        go_ret
        exact ⟨vret_b HR.out.symm, hbr⟩
  · have hb : ((n1 : Int) != (n2 : Int)) = true := by rw [bne_iff_ne]; omega
    have HR := Lib.hid (show sameVL l1 l2 = false from bool_no (sameVL_iff l1 l2) fun e => hn (by
      have := congrArg List.length e
      rw [List.length_map, List.length_map, H1.out, H2.out] at this
      exact this))
    go_enter Tryd.func35, Tryd.ntmps35
    go_wp2
    go_ret
    exact ⟨vret_b HR.out.symm, Below.refl _ _⟩
end Go.Proofs.YtinaecmpigenoaaDoor
/-
  Layer 4: equal; valid, Check, Same, Depth, Nodes.
-/
namespace Go.Proofs.YtinaecmpigenoaaDoor
open Go.RowKit
set_option linter.unusedVariables false

theorem eke {k n k' n' : Int} {s s' : ByteArray} {keys keys' : List ByteArray} {kids kids' : List VT} {cA kA cA' kA' : Option Addr} {cn cc kn kc cn' cc' kn' kc' : Nat} :
    sameV (.mk k n s cA cn cc kA kn kc keys kids) (.mk k' n' s' cA' cn' cc' kA' kn' kc' keys' kids') = (k == k' && (n == n' && (s.toList == s'.toList && (decide (keys = keys') && sameVL kids kids')))) := by
  rw [Bool.eq_iff_iff, sameV_iff, e_mk, e_mk]
  simp only [ET.mk.injEq, Bool.and_eq_true, beq_iff_eq, decide_eq_true_eq, sameVL_iff]
  constructor
  · rintro ⟨a, b, c, d, e⟩
    exact ⟨a, b, by rw [c], d, e⟩
  · rintro ⟨a, b, c, d, e⟩
    refine ⟨a, b, ?_, d, e⟩
    rw [ByteArray.toList_eq, ByteArray.toList_eq] at c
    exact ByteArray.ext (Array.toList_inj.1 c)

set_option maxRecDepth 20000 in
set_option maxHeartbeats 2000000 in
theorem equal_any : ∀ (T T' : VT) (B : Nat) (w : World), Lie w B T → Lie w B T' → B ≤ w.heap.size →
    Calls Tryd.prog 22 #[T.agg, T'.agg] w fun e w' => e = .returned (.bool (sameV T T')) ∧ Below w.heap.size w w' := by
  intro T
  induction T using VT.ind with
  | h k n s cA cn cc kA kn kc keys kids ih =>
  intro T' B w hL hL' hB
  obtain ⟨k', n', s', cA', cn', cc', kA', kn', kc', keys', kids'⟩ := T'
  cases hL with | mk hc hk hz hkid =>
  cases hL' with | mk hc' hk' hz' hkid' =>
  have hb := bel_alloc (bel_alloc (Below.refl w.heap.size w) (.cells #[.int .i64 k, .int .i64 n, .string s, .slice cA cn cc, .slice kA kn kc] 39)) (.cells #[.int .i64 k', .int .i64 n', .string s', .slice cA' cn' cc', .slice kA' kn' kc'] 39)
  have HR := Lib.hid (@eke k n k' n' s s' keys keys' kids kids' cA kA cA' kA' cn cc kn kc cn' cc' kn' kc')
  have HS := Lib.hid (fun W (h : Below w.heap.size w W) => equalS_any kA kA' kn kc kn' kc' keys keys' B B W (hk.below (h.mono hB)) (hk'.below (h.mono hB)) (Nat.le_trans hz.k1 hz.k2))
  have HF := Lib.hid (fun W (h : Below w.heap.size w W) => equalF_any cA cA' cn cc cn' cc' kids kids' B B W (hc.below (h.mono hB)) (hc'.below (h.mono hB)) (Nat.le_trans hz.c1 hz.c2) (Nat.le_trans hz'.c1 hz'.c2) (Nat.le_trans hB h.size) (Nat.le_trans hB h.size)
    fun i x y W' hx hy hb' => ih x (List.mem_of_getElem? hx) y B W' ((hkid x (List.mem_of_getElem? hx)).later ((bel_next h hb').mono hB)) ((hkid' y (List.mem_of_getElem? hy)).later ((bel_next h hb').mono hB)) (Nat.le_trans hB (bel_next h hb').size))
  simp only [VT.agg]
  clear ih hc hk hz hkid hc' hk' hz' hkid'
  have HW := Lib.hid (fun m => below_drewN hb m)
  generalize decide (keys = keys') = b1 at *
  generalize sameVL kids kids' = b2 at *
  generalize hb0 : sameV _ _ = R at *
  clear hb0
  by_cases h1 : k = k'
  · subst h1
    by_cases h2 : n = n'
    · subst h2
      by_cases h3 : s = s'
      · subst h3
        have he := str_eq s
        have hR := Lib.hid (show R = (b1 && b2) by rw [HR.out]; simp)
        clear HR
        cases b1
        · go_enter Tryd.func22, Tryd.ntmps22
          go_wp2_with fail
          refine (HS.out _ hb).mono ?_
          rintro e w1 ⟨rfl, m, rfl⟩
          go_wp2
          go_ret
          exact ⟨vret_b (by rw [hR.out]; rfl), below_drewN hb _⟩
        · go_enter Tryd.func22, Tryd.ntmps22
          go_wp2_with fail
          refine (HS.out _ hb).mono ?_
          rintro e w1 ⟨rfl, m, rfl⟩
          go_wp2_with fail
          refine (HF.out _ (HW.out _)).mono ?_
          rintro e w1 ⟨rfl, hb1⟩
          go_wp2
          go_ret
          exact ⟨vret_b (by rw [hR.out]; rfl), bel_next (HW.out _) hb1⟩
      · have he := str_ne h3
        have hR := Lib.hid (show R = false by rw [HR.out, he]; simp)
        clear HR HS HF h3
        go_enter Tryd.func22, Tryd.ntmps22
        go_wp2
        go_ret
        exact ⟨vret_b hR.out.symm, hb⟩
    · have he : (n == n') = false := by rw [beq_eq_false_iff_ne]; exact h2
      have hR := Lib.hid (show R = false by rw [HR.out, he]; simp)
      clear HR HS HF h2
      go_enter Tryd.func22, Tryd.ntmps22
      go_wp2
      go_ret
      exact ⟨vret_b hR.out.symm, hb⟩
  · have he : (k == k') = false := by rw [beq_eq_false_iff_ne]; exact h1
    have hR := Lib.hid (show R = false by rw [HR.out, he]; simp)
    clear HR HS HF h1
    go_enter Tryd.func22, Tryd.ntmps22
    go_wp2
    go_ret
    exact ⟨vret_b hR.out.symm, hb⟩

section
set_option maxRecDepth 20000
variable (k n : Int) (s : ByteArray) (cA : Option Addr) (cn cc : Nat) (kA : Option Addr) (kn kc : Nat) (keys : List ByteArray) (kids : List VT) (B : Nat) (w : World)
theorem valid_any (T : VT) (hL : Lie w B T) (hB : B ≤ w.heap.size) (htab : UTab w) (hst : STab w) :
    Calls Tryd.prog 21 #[T.agg] w fun e w' => e = .returned (.bool T.ok) ∧ Below w.heap.size w w' := by
  obtain ⟨k, n, s, cA, cn, cc, kA, kn, kc, keys, kids⟩ := T
  have hb := bel_alloc (Below.refl w.heap.size w) (.cells #[.int .i64 k, .int .i64 n, .string s, .slice cA cn cc, .slice kA kn kc] 39)
  have hm := measure_any k n s cA cn cc kA kn kc keys kids B _ (hL.later (hb.mono hB)) (Nat.le_trans hB hb.size) (htab.below hb htab.lt) (hst.below hb hst.lt)
  simp only [VT.agg]
  unfold measR at hm
  clear hL
  cases h : VT.ok (.mk k n s cA cn cc kA kn kc keys kids)
  · rw [h, if_neg (by decide)] at hm
    clear h
    go_enter Tryd.func21, Tryd.ntmps21
    go_wp2_with fail
    refine hm.mono ?_
    rintro e w1 ⟨rfl, hb1⟩
    go_wp2
    go_ret
    exact ⟨rfl, bel_next hb hb1⟩
  · rw [h, if_pos rfl] at hm
    clear h
    generalize VT.cnt _ = x at *
    generalize VT.dep _ = y at *
    go_enter Tryd.func21, Tryd.ntmps21
    go_wp2_with fail
    refine hm.mono ?_
    rintro e w1 ⟨rfl, hb1⟩
    go_wp2
    go_ret
    exact ⟨rfl, bel_next hb hb1⟩
def VT.depR (T : VT) : Nat := if T.ok = true then T.dep else 0
def VT.cntR (T : VT) : Nat := if T.ok = true then T.cnt else 0
theorem vcheck_any (T : VT) (hL : Lie w B T) (hB : B ≤ w.heap.size) (htab : UTab w) (hst : STab w) :
    Calls Tryd.prog 10 #[T.agg] w fun e w' => e = .returned (.int .i64 (if T.ok = true then 0 else 140)) ∧ Below w.heap.size w w' := by
  obtain ⟨k, n, s, cA, cn, cc, kA, kn, kc, keys, kids⟩ := T
  have hb := bel_alloc (Below.refl w.heap.size w) (.cells #[.int .i64 k, .int .i64 n, .string s, .slice cA cn cc, .slice kA kn kc] 39)
  have hm := valid_any B _ (.mk k n s cA cn cc kA kn kc keys kids) (hL.later (hb.mono hB)) (Nat.le_trans hB hb.size) (htab.below hb htab.lt) (hst.below hb hst.lt)
  simp only [VT.agg] at hm ⊢
  clear hL
  cases h : VT.ok (.mk k n s cA cn cc kA kn kc keys kids)
  all_goals
    rw [h] at hm
    clear h
    go_enter Tryd.func10, Tryd.ntmps10
    go_wp2_with fail
    refine hm.mono ?_
    rintro e w1 ⟨rfl, hb1⟩
    go_wp2
    go_ret
    exact ⟨rfl, bel_next hb hb1⟩
noncomputable def sameR (T T' : VT) : Bool := T.ok && (T'.ok && sameV T T')
theorem same_any (T T' : VT) (hL : Lie w B T) (hL' : Lie w B T') (hB : B ≤ w.heap.size) (htab : UTab w) (hst : STab w) :
    Calls Tryd.prog 9 #[T.agg, T'.agg] w fun e w' => e = .returned (.bool (sameR T T')) ∧ Below w.heap.size w w' := by
  obtain ⟨k, n, s, cA, cn, cc, kA, kn, kc, keys, kids⟩ := T
  obtain ⟨k', n', s', cA', cn', cc', kA', kn', kc', keys', kids'⟩ := T'
  have hb := bel_alloc (bel_alloc (Below.refl w.heap.size w) (.cells #[.int .i64 k, .int .i64 n, .string s, .slice cA cn cc, .slice kA kn kc] 39)) (.cells #[.int .i64 k', .int .i64 n', .string s', .slice cA' cn' cc', .slice kA' kn' kc'] 39)
  have H1 := Lib.hid (fun W (h : Below w.heap.size w W) => valid_any B W (.mk k n s cA cn cc kA kn kc keys kids) (hL.later (h.mono hB)) (Nat.le_trans hB h.size) (htab.below h htab.lt) (hst.below h hst.lt))
  have H2 := Lib.hid (fun W (h : Below w.heap.size w W) => valid_any B W (.mk k' n' s' cA' cn' cc' kA' kn' kc' keys' kids') (hL'.later (h.mono hB)) (Nat.le_trans hB h.size) (htab.below h htab.lt) (hst.below h hst.lt))
  have H3 := Lib.hid (fun W (h : Below w.heap.size w W) => equal_any (.mk k n s cA cn cc kA kn kc keys kids) (.mk k' n' s' cA' cn' cc' kA' kn' kc' keys' kids') B W (hL.later (h.mono hB)) (hL'.later (h.mono hB)) (Nat.le_trans hB h.size))
  simp only [VT.agg] at H1 H2 H3 ⊢
  unfold sameR
  clear hL hL'
  generalize VT.ok (.mk k n s cA cn cc kA kn kc keys kids) = b1 at *
  generalize VT.ok (.mk k' n' s' cA' cn' cc' kA' kn' kc' keys' kids') = b2 at *
  generalize sameV _ _ = b3 at *
  have hv : ∀ W, Below ((w.alloc (.cells #[.int .i64 k, .int .i64 n, .string s, .slice cA cn cc, .slice kA kn kc] 39)).alloc (.cells #[.int .i64 k', .int .i64 n', .string s', .slice cA' cn' cc', .slice kA' kn' kc'] 39)).heap.size ((w.alloc (.cells #[.int .i64 k, .int .i64 n, .string s, .slice cA cn cc, .slice kA kn kc] 39)).alloc (.cells #[.int .i64 k', .int .i64 n', .string s', .slice cA' cn' cc', .slice kA' kn' kc'] 39)) W →
      (∀ j u, (#[Value.int .i64 k, .int .i64 n, .string s, .slice cA cn cc, .slice kA kn kc] : Array Value)[j]? = some u → W.cell? ⟨w.heap.size, j, none⟩ = some u) ∧ (∀ j u, (#[Value.int .i64 k', .int .i64 n', .string s', .slice cA' cn' cc', .slice kA' kn' kc'] : Array Value)[j]? = some u → W.cell? ⟨w.heap.size + 1, j, none⟩ = some u) := fun W h => by
    constructor
    · intro j u hu
      exact kept_later h (cell_keep (Box.new w _ _ j u (by simpa using hu)).1 _)
    · intro j u hu
      have := (Box.new (w.alloc (.cells #[.int .i64 k, .int .i64 n, .string s, .slice cA cn cc, .slice kA kn kc] 39)) #[.int .i64 k', .int .i64 n', .string s', .slice cA' cn' cc', .slice kA' kn' kc'] 39 j u (by simpa using hu)).1
      rw [World.size_alloc] at this
      exact kept_later h this
  cases b1
  · go_enter Tryd.func9, Tryd.ntmps9
    go_wp2_with fail
    refine (H1.out _ hb).mono ?_
    rintro e w1 ⟨rfl, hb1⟩
    go_wp2
    go_ret
    exact ⟨rfl, bel_next hb hb1⟩
  · cases b2
    · go_enter Tryd.func9, Tryd.ntmps9
      go_wp2_with fail
      refine (H1.out _ hb).mono ?_
      rintro e w1 ⟨rfl, hb1⟩
      obtain ⟨g, g'⟩ := hv w1 hb1
      have a0 := g' 0 _ rfl
      have a1 := g' 1 _ rfl
      have a2 := g' 2 _ rfl
      have a3 := g' 3 _ rfl
      have a4 := g' 4 _ rfl
      go_wp2_with fail
      refine (H2.out _ (bel_next hb hb1)).mono ?_
      rintro e w2 ⟨rfl, hb2⟩
      go_wp2
      go_ret
      exact ⟨rfl, bel_next (bel_next hb hb1) hb2⟩
    · go_enter Tryd.func9, Tryd.ntmps9
      go_wp2_with fail
      refine (H1.out _ hb).mono ?_
      rintro e w1 ⟨rfl, hb1⟩
      obtain ⟨g, g'⟩ := hv w1 hb1
      have a0 := g' 0 _ rfl
      have a1 := g' 1 _ rfl
      have a2 := g' 2 _ rfl
      have a3 := g' 3 _ rfl
      have a4 := g' 4 _ rfl
      go_wp2_with fail
      refine (H2.out _ (bel_next hb hb1)).mono ?_
      rintro e w2 ⟨rfl, hb2⟩
      obtain ⟨g2, g2'⟩ := hv w2 (bel_next hb1 hb2)
      have c0 := g2 0 _ rfl
      have c1 := g2 1 _ rfl
      have c2 := g2 2 _ rfl
      have c3 := g2 3 _ rfl
      have c4 := g2 4 _ rfl
      have d0 := g2' 0 _ rfl
      have d1 := g2' 1 _ rfl
      have d2 := g2' 2 _ rfl
      have d3 := g2' 3 _ rfl
      have d4 := g2' 4 _ rfl
      go_wp2_with fail
      refine (H3.out _ (bel_next (bel_next hb hb1) hb2)).mono ?_
      rintro e w3 ⟨rfl, hb3⟩
      go_wp2
      go_ret
      exact ⟨rfl, bel_next (bel_next (bel_next hb hb1) hb2) hb3⟩
end
end Go.Proofs.YtinaecmpigenoaaDoor
/-
  Layer 1, plain: the order of texts is the order of their code points.
-/
namespace Go.Proofs.YtinaecmpigenoaaDoor

theorem less_cons (a b : UInt8) (x y : List UInt8) : Op.bytesLess (a :: x) (b :: y) = if a.toNat < b.toNat then true else if a.toNat = b.toNat then Op.bytesLess x y else false := by
  simp only [Op.bytesLess]
  by_cases h : a.toNat < b.toNat
  · rw [if_pos h]
    have : a < b := h
    simp [this]
  · rw [if_neg h]
    have h' : ¬ a < b := h
    by_cases h2 : a.toNat = b.toNat
    · rw [if_pos h2]
      have : a = b := UInt8.toNat_inj.1 h2
      subst this
      simp [h']
    · rw [if_neg h2]
      have : ¬ a = b := fun e => h2 (by rw [e])
      simp [h', this]
theorem less_nil (x : List UInt8) : Op.bytesLess x [] = false := by cases x <;> rfl
theorem less_pre : ∀ (p x y : List UInt8), Op.bytesLess (p ++ x) (p ++ y) = Op.bytesLess x y
  | [], _, _ => rfl
  | a :: p, x, y => by
    show Op.bytesLess (a :: (p ++ x)) (a :: (p ++ y)) = _
    rw [less_cons, if_neg (by omega), if_pos rfl, less_pre p x y]
theorem less_same (p : List UInt8) : Op.bytesLess p p = false := by
  have := less_pre p [] []
  simpa [less_nil] using this
/-- The bytes of a lesser code point are less, whatever stands behind. -/
theorem less_enc (c d : Nat) (hc : isCp c = true) (hd : isCp d = true) (h : c < d) (x y : List UInt8) :
    Op.bytesLess (encL c ++ x) (encL d ++ y) = true ∧ Op.bytesLess (encL d ++ y) (encL c ++ x) = false := by
  have hc := (isCp_iff _).1 hc
  have hd := (isCp_iff _).1 hd
  have k1 : c / 64 / 64 = c / 4096 := Nat.div_div_eq_div_mul c 64 64
  have k2 : c / 4096 / 64 = c / 262144 := Nat.div_div_eq_div_mul c 4096 64
  have k3 : d / 64 / 64 = d / 4096 := Nat.div_div_eq_div_mul d 64 64
  have k4 : d / 4096 / 64 = d / 262144 := Nat.div_div_eq_div_mul d 4096 64
  unfold encL
  by_cases c1 : c < 128
  · rw [if_pos c1]
    by_cases d1 : d < 128
    · rw [if_pos d1]
      simp only [List.cons_append, List.nil_append, less_cons, b8_toNat c (by omega), b8_toNat d (by omega)]
      rw [if_pos h, if_neg (by omega), if_neg (by omega)]; exact ⟨rfl, rfl⟩
    · rw [if_neg d1]
      by_cases d2 : d < 2048
      · rw [if_pos d2]
        simp only [List.cons_append, List.nil_append, less_cons, b8_toNat c (by omega), b8_toNat (192 + d / 64) (by omega)]
        rw [if_pos (by omega), if_neg (by omega), if_neg (by omega)]; exact ⟨rfl, rfl⟩
      · rw [if_neg d2]
        by_cases d3 : d < 65536
        · rw [if_pos d3]
          simp only [List.cons_append, List.nil_append, less_cons, b8_toNat c (by omega), b8_toNat (224 + d / 4096) (by omega)]
          rw [if_pos (by omega), if_neg (by omega), if_neg (by omega)]; exact ⟨rfl, rfl⟩
        · rw [if_neg d3]
          simp only [List.cons_append, List.nil_append, less_cons, b8_toNat c (by omega), b8_toNat (240 + d / 262144) (by omega)]
          rw [if_pos (by omega), if_neg (by omega), if_neg (by omega)]; exact ⟨rfl, rfl⟩
  · rw [if_neg c1, if_neg (show ¬ d < 128 by omega)]
    by_cases c2 : c < 2048
    · rw [if_pos c2]
      by_cases d2 : d < 2048
      · rw [if_pos d2]
        simp only [List.cons_append, List.nil_append, less_cons, b8_toNat (192 + c / 64) (by omega), b8_toNat (192 + d / 64) (by omega), b8_toNat (128 + c % 64) (by omega), b8_toNat (128 + d % 64) (by omega)]
        by_cases e : c / 64 < d / 64
        · rw [if_pos (by omega), if_neg (by omega), if_neg (by omega)]; exact ⟨rfl, rfl⟩
        · rw [if_neg (by omega), if_pos (by omega), if_pos (by omega), if_neg (by omega), if_pos (by omega), if_neg (by omega), if_neg (by omega)]; exact ⟨rfl, rfl⟩
      · rw [if_neg d2]
        by_cases d3 : d < 65536
        · rw [if_pos d3]
          simp only [List.cons_append, List.nil_append, less_cons, b8_toNat (192 + c / 64) (by omega), b8_toNat (224 + d / 4096) (by omega)]
          rw [if_pos (by omega), if_neg (by omega), if_neg (by omega)]; exact ⟨rfl, rfl⟩
        · rw [if_neg d3]
          simp only [List.cons_append, List.nil_append, less_cons, b8_toNat (192 + c / 64) (by omega), b8_toNat (240 + d / 262144) (by omega)]
          rw [if_pos (by omega), if_neg (by omega), if_neg (by omega)]; exact ⟨rfl, rfl⟩
    · rw [if_neg c2, if_neg (show ¬ d < 2048 by omega)]
      by_cases c3 : c < 65536
      · rw [if_pos c3]
        by_cases d3 : d < 65536
        · rw [if_pos d3]
          simp only [List.cons_append, List.nil_append, less_cons, b8_toNat (224 + c / 4096) (by omega), b8_toNat (224 + d / 4096) (by omega), b8_toNat (128 + c / 64 % 64) (by omega), b8_toNat (128 + d / 64 % 64) (by omega), b8_toNat (128 + c % 64) (by omega), b8_toNat (128 + d % 64) (by omega)]
          have q1 : c = c / 4096 * 4096 + c / 64 % 64 * 64 + c % 64 := by omega
          have q2 : d = d / 4096 * 4096 + d / 64 % 64 * 64 + d % 64 := by omega
          have q3 : c / 64 % 64 < 64 := by omega
          have q4 : d / 64 % 64 < 64 := by omega
          have q5 : c % 64 < 64 := by omega
          have q6 : d % 64 < 64 := by omega
          clear k1 k2 k3 k4
          generalize c / 4096 = c2 at *
          generalize c / 64 % 64 = c1 at *
          generalize c % 64 = c0 at *
          generalize d / 4096 = d2 at *
          generalize d / 64 % 64 = d1 at *
          generalize d % 64 = d0 at *
          constructor <;> (repeat' split) <;> first | rfl | (exfalso; omega)
        · rw [if_neg d3]
          simp only [List.cons_append, List.nil_append, less_cons, b8_toNat (224 + c / 4096) (by omega), b8_toNat (240 + d / 262144) (by omega)]
          rw [if_pos (by omega), if_neg (by omega), if_neg (by omega)]; exact ⟨rfl, rfl⟩
      · rw [if_neg c3, if_neg (show ¬ d < 65536 by omega)]
        simp only [List.cons_append, List.nil_append, less_cons, b8_toNat (240 + c / 262144) (by omega), b8_toNat (240 + d / 262144) (by omega), b8_toNat (128 + c / 4096 % 64) (by omega), b8_toNat (128 + d / 4096 % 64) (by omega), b8_toNat (128 + c / 64 % 64) (by omega), b8_toNat (128 + d / 64 % 64) (by omega), b8_toNat (128 + c % 64) (by omega), b8_toNat (128 + d % 64) (by omega)]
        have q1 : c = c / 262144 * 262144 + c / 4096 % 64 * 4096 + c / 64 % 64 * 64 + c % 64 := by omega
        have q2 : d = d / 262144 * 262144 + d / 4096 % 64 * 4096 + d / 64 % 64 * 64 + d % 64 := by omega
        have q3 : c / 64 % 64 < 64 := by omega
        have q4 : d / 64 % 64 < 64 := by omega
        have q5 : c % 64 < 64 := by omega
        have q6 : d % 64 < 64 := by omega
        have q7 : c / 4096 % 64 < 64 := by omega
        have q8 : d / 4096 % 64 < 64 := by omega
        clear k1 k2 k3 k4
        generalize c / 262144 = c3' at *
        generalize c / 4096 % 64 = c2' at *
        generalize c / 64 % 64 = c1' at *
        generalize c % 64 = c0 at *
        generalize d / 262144 = d3' at *
        generalize d / 4096 % 64 = d2' at *
        generalize d / 64 % 64 = d1' at *
        generalize d % 64 = d0 at *
        constructor <;> (repeat' split) <;> first | rfl | (exfalso; omega)

/-- How two rows of numbers compare: -1, 0, 1. -/
def cmpN : List Nat → List Nat → Int
  | [], [] => 0
  | [], _ :: _ => -1
  | _ :: _, [] => 1
  | a :: x, b :: y => if a < b then -1 else if b < a then 1 else cmpN x y
theorem cmpN_zero : ∀ x y : List Nat, cmpN x y = 0 ↔ x = y
  | [], [] => by simp [cmpN]
  | [], _ :: _ => by simp [cmpN]
  | _ :: _, [] => by simp [cmpN]
  | a :: x, b :: y => by
    simp only [cmpN]
    by_cases h : a < b
    · rw [if_pos h]; simp; omega
    · rw [if_neg h]
      by_cases h2 : b < a
      · rw [if_pos h2]; simp; omega
      · rw [if_neg h2, cmpN_zero x y]
        have : a = b := by omega
        simp [this]
/-- The byte order of two texts is the order of their code points. -/
theorem less_text : ∀ x y : List Nat, allCp x → allCp y → Op.bytesLess (textL x) (textL y) = decide (cmpN x y < 0)
  | [], [], _, _ => rfl
  | [], d :: y, _, _ => by
    rw [textL_cons]
    have := encL_len_pos d
    rcases h : encL d with _ | ⟨b, r⟩
    · rw [h] at this; simp at this
    · rfl
  | c :: x, [], _, _ => by
    rw [textL_nil, less_nil]
    rfl
  | c :: x, d :: y, hx, hy => by
    rw [textL_cons, textL_cons]
    have hc := hx c (by simp)
    have hd := hy d (by simp)
    by_cases h : c < d
    · have e : cmpN (c :: x) (d :: y) = -1 := by simp only [cmpN]; rw [if_pos h]
      rw [(less_enc c d hc hd h _ _).1, e]; rfl
    · by_cases h2 : d < c
      · have e : cmpN (c :: x) (d :: y) = 1 := by simp only [cmpN]; rw [if_neg h, if_pos h2]
        rw [(less_enc d c hd hc h2 _ _).2, e]; rfl
      · have e : cmpN (c :: x) (d :: y) = cmpN x y := by simp only [cmpN]; rw [if_neg h, if_neg h2]
        obtain rfl : c = d := by omega
        rw [less_pre, e]
        exact less_text x y (fun a ha => hx a (by simp [ha])) (fun a ha => hy a (by simp [ha]))
end Go.Proofs.YtinaecmpigenoaaDoor
/-
  Layer 4: search among keys.
-/
namespace Go.Proofs.YtinaecmpigenoaaDoor
open Go.RowKit
set_option linter.unusedVariables false

theorem vless_iff (a b : UInt8) (x y : List UInt8) : Op.bytesLess (a :: x) (b :: y) = true ↔ a.toNat < b.toNat ∨ (a.toNat = b.toNat ∧ Op.bytesLess x y = true) := by
  rw [less_cons]
  by_cases h1 : a.toNat < b.toNat
  · rw [if_pos h1]; exact ⟨fun _ => .inl h1, fun _ => rfl⟩
  · rw [if_neg h1]
    by_cases h2 : a.toNat = b.toNat
    · rw [if_pos h2]; exact ⟨fun h => .inr ⟨h2, h⟩, fun h => h.elim (fun h => absurd h h1) (·.2)⟩
    · rw [if_neg h2]; exact ⟨fun h => (by cases h), fun h => h.elim (fun h => absurd h h1) fun h => absurd h.1 h2⟩
theorem vless_trans : ∀ (x y z : List UInt8), Op.bytesLess x y = true → Op.bytesLess y z = true → Op.bytesLess x z = true
  | x, y, [], _, h => by rw [less_nil] at h; cases h
  | x, [], z :: zs, h, _ => by rw [less_nil] at h; cases h
  | [], y :: ys, z :: zs, _, _ => rfl
  | x :: xs, y :: ys, z :: zs, h, g => by
    rw [vless_iff] at h g ⊢
    rcases h with h | ⟨h, h'⟩ <;> rcases g with g | ⟨g, g'⟩
    · exact .inl (by omega)
    · exact .inl (by omega)
    · exact .inl (by omega)
    · exact .inr ⟨by omega, vless_trans xs ys zs h' g'⟩
def vless (x y : ByteArray) : Bool := Op.bytesLess x.toList y.toList
theorem vless_tr {x y z : ByteArray} (h : vless x y = true) (g : vless y z = true) : vless x z = true := vless_trans _ _ _ h g
theorem vless_irr (x : ByteArray) : vless x x = false := less_same _
theorem vless_ne {x y : ByteArray} (h : vless x y = true) : x ≠ y := fun e => by rw [e, vless_irr] at h; cases h
/-- Keys in their order. -/
theorem keysB_ord {l : List ByteArray} (h : keysB l = true) : ∀ j i, i < j → j < l.length → vless (l.getD i ⟨#[]⟩) (l.getD j ⟨#[]⟩) = true := by
  intro j
  induction j with
  | zero => intro i h; omega
  | succ j ih =>
    intro i hi hj
    have hk := (keysB_iff l).1 h (j + 1) hj
    unfold keyOK at hk
    simp only [Bool.and_eq_true, Bool.or_eq_true, beq_iff_eq, Nat.add_sub_cancel] at hk
    have hk2 : vless (l.getD j ⟨#[]⟩) (l.getD (j + 1) ⟨#[]⟩) = true := by rcases hk.2 with h | h; omega; exact h
    by_cases e : i = j
    · rw [e]; exact hk2
    · exact vless_tr (ih i (by omega) (by omega)) hk2

/-- What search tells. -/
structure FindR (l : List ByteArray) (x : ByteArray) (i : Nat) (b : Bool) : Prop where
  yes : b = true → i < l.length ∧ l.getD i ⟨#[]⟩ = x
  no : b = false → ∀ j, j < l.length → l.getD j ⟨#[]⟩ ≠ x

end Go.Proofs.YtinaecmpigenoaaDoor
