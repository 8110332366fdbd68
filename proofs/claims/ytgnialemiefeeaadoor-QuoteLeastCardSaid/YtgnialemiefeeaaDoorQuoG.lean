/-
  Layer 2: Read.
-/
import Derived.Test.YtgnialemiefeeaaDoorQuoF
import Derived.Test.YtgnialemiefeeaaDoorUtfN
import Derived.WalkMore
import Derived.Deep.QuietTactic
import Derived.BigQuiet
namespace Go.Proofs.YtgnialemiefeeaaDoor
open Go.RowKit Go.Shelf
attribute [local go_sem] Oper.semAt_some

/-- What Read tells at a place of the row, or at its end. -/
def readV (l : List UInt8) (p : Nat) : Value :=
  if l.length ≤ p then .tuple #[.string ⟨#[]⟩, .int .i64 (p : Int), .int .i64 6]
  else if at0 l p ≠ 34 then .tuple #[.string ⟨#[]⟩, .int .i64 (p : Int), .int .i64 7]
  else
    let q := p + 1 + (sgsL (l.drop (p + 1))).2
    if q < l.length ∧ at0 l q = 34 then .tuple #[.string (ofL (textL (sgsL (l.drop (p + 1))).1)), .int .i64 ((q + 1 : Nat) : Int), .int .i64 0]
    else .tuple #[.string ⟨#[]⟩, .int .i64 (q : Int), .int .i64 (faultN l q)]

set_option maxRecDepth 20000 in
set_option maxHeartbeats 1000000 in
theorem read_bad (A : Option Addr) (m c0 : Nat) (p : Int) (w : World) (h : p < 0 ∨ (m : Int) < p) :
    Calls Tryd.prog 16 #[.slice A m c0, .int .i64 p] w fun e w' => e = .returned (.tuple #[.string ⟨#[]⟩, .int .i64 0, .int .i64 2]) ∧ Below w.heap.size w w' := by
  rcases h with h | h
  · go_enter Tryd.func16, Tryd.ntmps16
    go_wp2
    go_step3
    go_wp2
    rw [Exit.noGoto_ret]
    go_ret3
    exact ⟨rfl, (Below.refl _ _).alloc (Nat.le_refl _) _⟩
  · have h0 : ¬ p < 0 := by omega
    go_enter Tryd.func16, Tryd.ntmps16
    go_wp2
    go_step3
    go_wp2
    rw [Exit.noGoto_ret]
    go_ret3
    exact ⟨rfl, (Below.refl _ _).alloc (Nat.le_refl _) _⟩

set_option maxRecDepth 100000 in
set_option maxHeartbeats 4000000 in
theorem read_in (A : Option Addr) (m c0 B p : Nat) (l : List UInt8) (w : World) (htab : UTab w) (hesc : ETab w) (hl : Bytes w B A m l) (hB : B ≤ w.heap.size) (hm : m ≤ 100000) (hmc : m ≤ c0) (hp : p ≤ m) :
    Calls Tryd.prog 16 #[.slice A m c0, .int .i64 p] w fun e w' => e = .returned (readV l p) ∧ Below w.heap.size w w' := by
  have hp0 : ¬ (p : Int) < 0 := by omega
  have hp1 : ¬ (m : Int) < (p : Int) := by omega
  have hlen := Lib.hid hl.len
  by_cases he : p = m
  · subst he
    have HR := Lib.hid (show readV l p = .tuple #[.string ⟨#[]⟩, .int .i64 (p : Int), .int .i64 6] from if_pos (by rw [hlen.out]; exact Nat.le_refl _))
    clear hl
    go_enter Tryd.func16, Tryd.ntmps16
    go_wp2
    go_step3
    go_wp2
    go_quiet (fail)
    go_wp2
    rw [Exit.noGoto_ret]
    go_ret3
    exact ⟨by rw [HR.out]; rfl, below_drewN ((Below.refl _ _).alloc (Nat.le_refl _) _) _⟩
  · have hp2 : ((p : Int) == (m : Int)) = false := by rw [beq_eq_false_iff_ne]; omega
    have hp3 : (p : Int) < (m : Int) := by omega
    have hp4 : (0 : Int) ≤ p := by omega
    obtain ⟨b, off, rfl, hbB, hc0⟩ := hl.cell (k := p) (by omega)
    have hc1 : (w.alloc (.cells #[.int .i64 (p : Int)] 3)).cell? ⟨b, off + p, none⟩ = some (.int .u8 (at0 l p : Nat)) := (((Below.refl _ _).alloc (Nat.le_refl _) _).cell (p := ⟨b, off + p, none⟩) (by show b < w.heap.size; omega)).trans hc0
    have hnl : ¬ l.length ≤ p := by rw [hlen.out]; omega
    by_cases h34 : at0 l p = 34
    · rw [h34] at hc1
      have hpw : wrap64 ((p : Int) + 1) = (p : Int) + 1 := IntWalk.wrap64_in _ ⟨by omega, by omega⟩
      refine (callsIn_wide (n := 6)).1 ?_
      refine callsIn_of_wp_marks Tryd.func16 rfl trivial ?_ rfl
      simp only [Tryd.ntmps16, List.size_toArray, List.length_cons, List.length_nil, Nat.reduceAdd, Nat.reduceSub, Array.replicate_succ, Array.replicate_zero, List.push_toArray, List.append_toArray, List.nil_append, List.cons_append]
      refine wpIn_wide.2 ?_
      go_wp2
      go_step3
      go_wp2
      go_step3
      go_wp2_with fail
      refine (signs_any _ m c0 _ _).mono ?_
      rintro e W1 ⟨rfl, hW1⟩
      go_wp2
      refine (wpIn_wide (n := 6)).1 ?_
      refine range_open rfl (by omega) (gf := 56) (lb := #[.pointer (some ⟨w.heap.size + 2, 0, none⟩), .pointer (some ⟨w.heap.size + 2 + 1, 0, none⟩)]) rfl trivial (enters_of Tryd.func56 (by kernel_rfl) rfl) ?_
      have hsz : W1.heap.size = w.heap.size + 4 := by rw [← hW1]; simp
      have j0 : Boxed W1 w.heap.size 3 (.int .i64 ((p : Int) + 1)) := by rw [← hW1]; exact (((Boxed.new _ _ _).alloc _).alloc _).alloc _
      have j1 : Boxed W1 (w.heap.size + 1) 35 (.slice none 0 0) := by
        rw [← hW1]
        have h := Boxed.new (w.alloc (.cells #[.int .i64 ((p : Int) + 1)] 3)) 35 (.slice none 0 0)
        rw [World.size_alloc] at h
        exact (h.alloc _).alloc _
      have j2 : Boxed W1 (w.heap.size + 2) 22 (.slice (some ⟨b, off, none⟩) m c0) := by
        rw [← hW1]
        have h := Boxed.new ((w.alloc (.cells #[.int .i64 ((p : Int) + 1)] 3)).alloc (.cells #[.slice none 0 0] 35)) 22 (.slice (some ⟨b, off, none⟩) m c0)
        rw [World.size_alloc, World.size_alloc] at h
        exact h.alloc _
      have j3 : Boxed W1 (w.heap.size + 3) 3 (.int .i64 ((p : Int) + 1)) := by
        rw [← hW1]
        have h := Boxed.new (((w.alloc (.cells #[.int .i64 ((p : Int) + 1)] 3)).alloc (.cells #[.slice none 0 0] 35)).alloc (.cells #[.slice (some ⟨b, off, none⟩) m c0] 22)) 3 (.int .i64 ((p : Int) + 1))
        rw [World.size_alloc, World.size_alloc, World.size_alloc] at h
        exact h
      have hb1 : Below w.heap.size w W1 := by rw [← hW1]; exact bel_alloc (bel_alloc (bel_alloc (bel_alloc (Below.refl _ _) _) _) _) _
      clear hW1
      rw [hsz]
      intro fn hfn
      generalize hrec : recOf fn _ _ _ _ _ = rec
      have J0 : RJ w.heap.size (some ⟨b, off, none⟩) m c0 w (.loop (rec .ready none)) (p + 1) (p + 1) [] ((W1.alloc (.deferred (some []))).alloc (.loop (rec .ready none))) := by
        refine ⟨(j0.alloc _).alloc _, ⟨_, (j1.alloc _).alloc _, World.ownsRow_nil _ _ _ _⟩, (j2.alloc _).alloc _, (j3.alloc _).alloc _, ?_, ?_, bel_alloc (bel_alloc hb1 _) _⟩
        · have h := World.alloc_heap_new W1 (.deferred (some []))
          rw [hsz] at h
          exact (Below.heap_alloc _ _ _ (by simp [hsz])).trans h
        · have h := World.alloc_heap_new (W1.alloc (.deferred (some []))) (.loop (rec .ready none))
          rw [World.size_alloc, hsz] at h
          exact h
      refine (signs_in 5 (by omega) _ (w.heap.size + 2) (w.heap.size + 3) (some ⟨b, off, none⟩) m c0 l (fun q c W => ∃ cps, Sofar l (p + 1) q cps ∧ RJ w.heap.size (some ⟨b, off, none⟩) m c0 w (.loop (rec .ready none)) q c cps W)
        (fun W => ∃ cps q c, Sofar l (p + 1) q cps ∧ (begL (l.drop q)).2 = 0 ∧ RJ w.heap.size (some ⟨b, off, none⟩) m c0 w (.loop (rec .done (some (.exit 1)))) q c cps W) (by unfold maxLen; omega) hmc hlen.out
        ?hJ1 ?hJ2 ?hJ3 ?hY ?hN (p + 1) _ ⟨[], Sofar.start (by rw [hlen.out]; omega), J0⟩).mono ?post
      case hJ1 => rintro q c W W' ⟨cps, hs, hr⟩ hb; exact ⟨cps, hs, hr.later hb⟩
      case hJ2 => rintro q c c' W ⟨cps, hs, hr⟩; exact ⟨cps, hs, hr.own c'⟩
      case hJ3 =>
        rintro q c W ⟨cps, hs, hr⟩
        exact ⟨hr.b2.cell, hr.b3.cell, hr.b3.frozen, htab.below hr.bel htab.lt, hesc.below hr.bel hesc.lt, (hl.below (hr.bel.mono hB)).more (Nat.le_trans hB hr.bel.size), by have := hs.hi; have := hlen.out; omega⟩
      case hY =>
        rintro q W ⟨cps, hs, hr⟩ hb
        have hl5 := hr.r
        rw [← hrec] at hl5
        refine round_open hfn hl5 rfl ?_
        simp only [hrec]
        unfold signA
        rw [if_neg hb]
        clear hl5 J0 j0 j1 j2 j3 hc0 hc1 htab hesc hl
        have HS := Lib.hid (hs.step hb)
        have hfew := hs.few
        have hhi := hs.hi
        rw [hlen.out] at hhi
        clear hs hb hnl h34
        generalize q + (begL (l.drop q)).2 = r at *
        generalize (begL (l.drop q)).1 = x at *
        gi_wp2
        have hr2 := hr.later (W' := W.alloc (.cells #[.int .i64 (x : Int), .int .i64 (r : Int), .int .i64 0] 66)) (bel_alloc (Below.refl _ _) _)
        have hS2 : (W.alloc (.cells #[.int .i64 (x : Int), .int .i64 (r : Int), .int .i64 0] 66)).heap[W.heap.size]? = some (.cells #[.int .i64 (x : Int), .int .i64 (r : Int), .int .i64 0] 66 (0, 0)) := World.alloc_heap_new W _
        refine ⟨hr2.r, ?_⟩
        have hr3 := hr2.turn rfl (.loop (rec .busy none))
        have hlt := hr.lt
        have hS := (World.putObj_heap_other (o := .loop (rec .busy none)) (show W.heap.size ≠ w.heap.size + 5 by omega)).trans hS2
        generalize hW3 : (W.alloc (.cells #[.int .i64 (x : Int), .int .i64 (r : Int), .int .i64 0] 66)).putObj (w.heap.size + 5) (.loop (rec .busy none)) = W3 at *
        clear hS2 hr2
        obtain ⟨v, hv, hrow⟩ := hr3.b1
        obtain ⟨i0, hi, hz0, hz1, hz2⟩ := i64_info
        have hc := hv.cell
        have hsl := (Array.getElem?_eq_some_iff.1 hS).1
        have d0 : W3.cell? ⟨W.heap.size, 0, none⟩ = some (.int .i64 (x : Int)) := by simp [World.cell?, hS]
        have d1 : W3.cell? ⟨W.heap.size, 1, none⟩ = some (.int .i64 (r : Int)) := by simp [World.cell?, hS]
        have d2 : W3.cell? ⟨W.heap.size, 2, none⟩ = some (.int .i64 0) := by simp [World.cell?, hS]
        gi_wp2_with (gi_at_builtin; refine wpListIn_append_own _ rfl _ _ 35 rfl (w.heap.size + 4) 3 i0 (.int .i64 0) 1 8 Tryd.underlying35 hi hz0 hz1 hz2 rfl (by decide) _ _ _ rfl (hrow.alloc _) ⟨W3.heap.size, 0, none⟩ 1 1 [.int .i64 (x : Int)] rfl rfl (cell_one_new _ _ _) (by simp [Value.oneCell']) (by unfold maxLen; omega) (by omega) (by simp; omega) ?_; intro v' w7 hown' hgrow' _; obtain ⟨g', cap', rfl⟩ := ownsRow_succ hown'; obtain ⟨t1, t2, t3, t4, t5⟩ := hr3.took r rfl hv hrow hS (by decide) (by omega) hgrow' hown'; have e1 := t1.cell; have e2 := t1.frozen; have e3 := t4.cell; have e4 := t4.frozen; have e5 : (w7.setCell ⟨w.heap.size + 1, 0, none⟩ (.slice (some ⟨g', 0, none⟩) (cps.length + 1) cap')).cell? ⟨W.heap.size, 1, none⟩ = some (.int .i64 (r : Int)) := cell_of_heap t3 1 _ rfl)
        exact ⟨t5.r, rfl, _, HS.out, t5.turn rfl _⟩
      case hN =>
        rintro q W ⟨cps, hs, hr⟩ hb
        have hl5 := hr.r
        rw [← hrec] at hl5
        refine round_open hfn hl5 rfl ?_
        simp only [hrec]
        unfold signA
        rw [if_pos hb]
        have HS := Lib.hid (And.intro hs hb)
        have hne := fault_ne l q
        clear hl5 J0 j0 j1 j2 j3 hc0 hc1 htab hesc hl hs hb hnl h34
        generalize faultN l q = z at *
        gi_wp2
        have hr2 := hr.later (W' := W.alloc (.cells #[.int .i64 0, .int .i64 0, .int .i64 z] 66)) (bel_alloc (Below.refl _ _) _)
        have hS2 : (W.alloc (.cells #[.int .i64 0, .int .i64 0, .int .i64 z] 66)).heap[W.heap.size]? = some (.cells #[.int .i64 0, .int .i64 0, .int .i64 z] 66 (0, 0)) := World.alloc_heap_new W _
        refine ⟨hr2.r, ?_⟩
        have hr3 := hr2.turn rfl (.loop (rec .busy none))
        have hlt := hr.lt
        have hS := (World.putObj_heap_other (o := .loop (rec .busy none)) (show W.heap.size ≠ w.heap.size + 5 by omega)).trans hS2
        generalize hW3 : (W.alloc (.cells #[.int .i64 0, .int .i64 0, .int .i64 z] 66)).putObj (w.heap.size + 5) (.loop (rec .busy none)) = W3 at *
        clear hS2 hr2
        have d2 : W3.cell? ⟨W.heap.size, 2, none⟩ = some (.int .i64 z) := by simp [World.cell?, hS]
        gi_wp2
        exact ⟨hr3.r, rfl, _, q, HS.out.1, HS.out.2, _, hr3.turn rfl _⟩
      case post =>
        rintro e B1 ⟨hv, cps, q, c, hs, hb, hr⟩
        refine ⟨hv, .done, _, hr.r, by simp, ?_⟩
        have hr5 := hr.turn rfl (.loop (rec .exhausted (some (.exit 1))))
        generalize B1.putObj (w.heap.size + 5) (.loop (rec .exhausted (some (.exit 1)))) = W5 at *
        have hend := hs.done hb
        have hhi := hs.hi
        have hlo := hs.lo
        have hfew := hs.few
        rw [hlen.out] at hhi
        have hl5 := (hl.below (hr5.bel.mono hB)).more (Nat.le_trans hB hr5.bel.size)
        have c5 := hr5.b0.cell
        have hK := hr5.d
        have hbw := hr5.bel
        clear hr J0 j0 j1 j2 j3 hc0 hc1 hv hrec
        unfold goesOn
        refine wpIn_wide.2 ?_
        have hq0 : ¬ (q : Int) < 0 := by omega
        have hfl := fun k => fault_any (some ⟨b, off, none⟩) m c0 _ q l (W5.drewN k) (hl5.drewN k) (by unfold maxLen; omega)
        by_cases hqm : q = m
        · subst hqm
          have HR := Lib.hid (show readV l p = .tuple #[.string ⟨#[]⟩, .int .i64 (q : Int), .int .i64 (faultN l q)] by
            unfold readV
            rw [if_neg hnl, if_neg (by rw [h34]; decide), hend]
            simp only
            rw [if_neg (by rw [hlen.out]; omega), show p + 1 + (q - (p + 1)) = q by omega])
          clear hl hl5 hs hb hend hnl h34
          generalize faultN l q = z at *
          go_wp2
          go_quiet ((go_at_call 33; exact Calls.quiet_of_same (hfl _)))
          go_wp2
          rename_i nq _
          have hK2 : (W5.drewN nq).heap[w.heap.size + 4]? = some (.deferred (some [])) := hK
          have hb2 : Below w.heap.size w (W5.drewN nq) := below_drewN hbw _
          rw [Exit.noGoto_ret]
          refine ⟨by simp, .inl ⟨_, _, rfl, run_takeDeferred hK2, ?_⟩⟩
          refine ⟨_, ?_, by rw [HR.out], hb2.trans (belowK_b (w := w) (Nat.le_refl _) _ (w.heap.size + 4) _ _ (by omega) hK2 rfl rfl)⟩
          simp [results, Tryd.results16, go_sem]
        · have hqm' : ((q : Int) == (m : Int)) = false := by rw [beq_eq_false_iff_ne]; omega
          have hq1 : (q : Int) < (m : Int) := by omega
          have hq2 : (0 : Int) ≤ q := by omega
          obtain ⟨b', off', e', hb', hcq⟩ := hl5.cell (k := q) (by omega)
          injection e' with e'
          injection e' with e1 e2
          subst e1; subst e2
          rw [show at8 l q = ((at0 l q : Nat) : Int) from rfl] at hcq
          by_cases h5 : at0 l q = 34
          · rw [h5] at hcq
            have HR := Lib.hid (show readV l p = .tuple #[.string (ofL (textL cps)), .int .i64 ((q + 1 : Nat) : Int), .int .i64 0] by
              unfold readV
              rw [if_neg hnl, if_neg (by rw [h34]; decide), hend]
              simp only
              rw [show p + 1 + (q - (p + 1)) = q by omega, if_pos ⟨by rw [hlen.out]; omega, h5⟩])
            have hcp := sgs_cps (l.drop (p + 1))
            rw [hend] at hcp
            obtain ⟨v, hv5, hrow5⟩ := hr5.b1
            obtain ⟨A1, c1, rfl, -, -⟩ := own_form hrow5
            have hc5 := hv5.cell
            have htext := text_any A1 cps.length c1 W5.heap.size (nats cps) W5 (htab.below hbw htab.lt) (Ints.own hrow5) (Nat.le_refl _) (by omega)
            rw [textR_cps hcp] at htext
            have hqw : wrap64 ((q : Int) + 1) = (q : Int) + 1 := IntWalk.wrap64_in _ ⟨by omega, by omega⟩
            have hlt5 := hr5.lt
            clear hl hl5 hs hb hend hnl h34 h5 hcp hfl hv5 hrow5
            generalize ofL (textL cps) = T at *
            go_wp2_with fail
            refine htext.mono ?_
            rintro e w6 ⟨rfl, hb6⟩
            have c6 : w6.cell? ⟨w.heap.size, 0, none⟩ = some (.int .i64 (q : Int)) := (hb6.cell (p := ⟨w.heap.size, 0, none⟩) (by show w.heap.size < W5.heap.size; omega)).trans c5
            replace hK := lies hK hb6
            replace hbw := hbw.trans (hb6.mono (by omega))
            clear c5 hcq hc5 htext hr5 hb6
            go_wp2
            go_quiet (fail)
            go_wp2
            rename_i nq _
            have hK2 : (w6.drewN nq).heap[w.heap.size + 4]? = some (.deferred (some [])) := hK
            have hb2 : Below w.heap.size w (w6.drewN nq) := below_drewN hbw _
            rw [Exit.noGoto_ret]
            refine ⟨by simp, .inl ⟨_, _, rfl, run_takeDeferred hK2, ?_⟩⟩
            refine ⟨_, ?_, by rw [HR.out], hb2.trans (belowK_b (w := w) (Nat.le_refl _) _ (w.heap.size + 4) _ _ (by omega) hK2 rfl rfl)⟩
            simp [results, Tryd.results16, go_sem, hqw]
          · have hne : (((at0 l q : Nat) : Int) == 34) = false := by rw [beq_eq_false_iff_ne]; omega
            have HR := Lib.hid (show readV l p = .tuple #[.string ⟨#[]⟩, .int .i64 (q : Int), .int .i64 (faultN l q)] by
              unfold readV
              rw [if_neg hnl, if_neg (by rw [h34]; decide), hend]
              simp only
              rw [show p + 1 + (q - (p + 1)) = q by omega, if_neg (by intro h; exact h5 h.2)])
            have hx := at0_lt l q
            clear hl hl5 hs hb hend hnl h34 h5
            generalize faultN l q = z at *
            generalize at0 l q = y at *
            go_wp2
            go_quiet ((go_at_call 33; exact Calls.quiet_of_same (hfl _)))
            go_wp2
            rename_i nq _
            have hK2 : (W5.drewN nq).heap[w.heap.size + 4]? = some (.deferred (some [])) := hK
            have hb2 : Below w.heap.size w (W5.drewN nq) := below_drewN hbw _
            rw [Exit.noGoto_ret]
            refine ⟨by simp, .inl ⟨_, _, rfl, run_takeDeferred hK2, ?_⟩⟩
            refine ⟨_, ?_, by rw [HR.out], hb2.trans (belowK_b (w := w) (Nat.le_refl _) _ (w.heap.size + 4) _ _ (by omega) hK2 rfl rfl)⟩
            simp [results, Tryd.results16, go_sem]
    · have HR := Lib.hid (show readV l p = .tuple #[.string ⟨#[]⟩, .int .i64 (p : Int), .int .i64 7] by unfold readV; rw [if_neg hnl, if_pos h34])
      have hne : (((at0 l p : Nat) : Int) == 34) = false := by rw [beq_eq_false_iff_ne]; omega
      have hx := at0_lt l p
      clear hl h34
      generalize at0 l p = x at *
      go_enter Tryd.func16, Tryd.ntmps16
      go_wp2
      go_step3
      go_wp2
      go_quiet (fail)
      go_wp2
      rw [Exit.noGoto_ret]
      go_ret3
      exact ⟨by rw [HR.out]; rfl, below_drewN ((Below.refl _ _).alloc (Nat.le_refl _) _) _⟩
end Go.Proofs.YtgnialemiefeeaaDoor
