import Derived.Test.YtghmehfmchadoaaDoorGam
import Derived.Test.YtghmehfmchadoaaDoorGaf
import Derived.Lib.OwnKind
import Derived.Deep.CutBlock
import Derived.Test.YtghmehfmchadoaaDoorGal
import Derived.Test.YtghmehfmchadoaaDoorGai
/-
  Layer 11: span, Read and said where they make a row of their own.
-/
namespace Go.Proofs.YtghmehfmchadoaaDoor
open Go.RowKit Go.Shelf
attribute [local go_sem] Oper.semAt_some
set_option linter.unusedVariables false

theorem span_endO {w W : World} {X : FileT} {lp lq : Obj} {a d : Nat} {A : Option Addr} {c : Nat} (h : SJ w.heap.size w X lp a d (between X.all a (a + d)) W) (hown : W.ownsRow (w.heap.size + 3) 5 1 (.slice A (between X.all a (a + d)).length c) (between X.all a (a + d)).length ((between X.all a (a + d)).map bv)) (hlq : lq.isCells = false) :
    GivesBytes 5 (between X.all a (a + d)) w (.returned (.slice A (between X.all a (a + d)).length c)) (W.putObj (w.heap.size + 6) lq) := by
  have hlt := h.lt
  have hd : W.heap[w.heap.size + 6]? = some (.deferred (some [])) := h.d
  have ho := ownsRow_putObj hown lq hd rfl
  exact ⟨A, (between X.all a (a + d)).length, c, rfl, own_base ho (by omega), h.bel.grown (grownBy_putObj' W (w.heap.size + 6) lq) (by omega) (fun k e => by cases e; omega)⟩
set_option maxRecDepth 100000 in
set_option maxHeartbeats 4000000 in
theorem span_own (X : FileT) (a d : Nat) (B : Nat) (w : World) (hL : LieF w B X) (hB : B ≤ w.heap.size) (hN : ∀ p ∈ X.Q, p.n ≤ 1048576) (hl : X.long ≤ 524288) (had : a + d ≤ X.all.length) (hal : X.all.length ≤ 524288) (hc : ¬ a + d ≤ X.F.n) :
    Calls Tryd.prog 64 #[X.agg, .int .i64 a, .int .i64 d] w (GivesBytes 5 (between X.all a (a + d)) w) := by
  simp only [FileT.agg, PcT.val]
  have hs1 : IntKind.i64.wrap ((a : Int) + (d : Int)) = (a : Int) + (d : Int) := by rw [IntKind.wrap_i64]; omega
  have hs2 : wrap64 ((a : Int) + (d : Int)) = (a : Int) + (d : Int) := by unfold wrap64; omega
  have hc1 : ((a : Int) + (d : Int) ≤ (X.F.n : Int)) = False := by simp; omega
  have hmk : ∀ W, (Instr.makeSlice 22 (.int .i64 0) (.int .i64 (d : Int))).run Tryd.prog W = .ok (.slice (some ⟨W.heap.size, 0, none⟩) 0 d) (W.alloc (.cells (madeCells #[.int .u8 0] d) 5)) := by
    intro W
    obtain ⟨i0, hi, hz0, hz1, hz2⟩ := u8_info
    have h := run_make_one (P := Tryd.prog) (t := 22) (e := 5) Tryd.underlying22 hi hz0 rfl hz1 .i64 .i64 0 (d : Int) (by omega) (by omega) (by rw [hz2]; omega) (by omega) W
    simpa using h
  refine (callsIn_wide (n := 6)).1 ?_
  refine callsIn_of_wp_marks Tryd.func64 rfl trivial ?_ rfl
  simp only [Tryd.ntmps64, List.size_toArray, List.length_cons, List.length_nil, Nat.reduceAdd, Nat.reduceSub, Array.replicate_succ, Array.replicate_zero, List.push_toArray, List.append_toArray, List.nil_append, List.cons_append]
  refine wpIn_wide.2 ?_
  go_wp2_with fail
  refine (pieces_any _ _ _ _ _ _ _ _ _ _).mono ?_
  rintro e W1 ⟨rfl, hW1⟩
  go_wp2
  refine (wpIn_wide (n := 6)).1 ?_
  refine range_open rfl (by omega) (gf := 67) (lb := #[.pointer (some ⟨w.heap.size + 1 + 1 + 1 + 1 + 1, 0, none⟩)]) rfl trivial (enters_of Tryd.func67 (by kernel_rfl) rfl) ?_
  have hsz : W1.heap.size = w.heap.size + 6 := by rw [← hW1]; simp
  obtain ⟨j1, j2, j4, jo, jf, hb1⟩ := span_lay w W1 X a d (by unfold maxLen; omega) hW1
  clear hW1 hmk
  rw [hsz]
  intro fn hfn
  generalize hrec : recOf fn _ _ _ _ _ = rec
  have J0 : SJ w.heap.size w X (.loop (rec .ready none)) a d (between (joinP (X.Q.take 0)) a (a + d)) ((W1.alloc (.deferred (some []))).alloc (.loop (rec .ready none))) := by
    have e0 : between (joinP (X.Q.take 0)) a (a + d) = [] := by simp [between, joinP]
    rw [e0]
    refine ⟨(j1.alloc _).alloc _, (j2.alloc _).alloc _, ⟨_, _, (j4.alloc _).alloc _, (jo.alloc _).alloc _⟩, ?_, ?_, ?_, bel_alloc (bel_alloc hb1 _) _⟩
    · exact (Below.heap_alloc _ _ _ (by simp [hsz])).trans ((Below.heap_alloc _ _ _ (by omega)).trans jf)
    · have h := World.alloc_heap_new W1 (.deferred (some []))
      rw [hsz] at h
      exact (Below.heap_alloc _ _ _ (by simp [hsz])).trans h
    · have h := World.alloc_heap_new (W1.alloc (.deferred (some []))) (.loop (rec .ready none))
      rw [World.size_alloc, hsz] at h
      exact h
  have HLie := Lib.hid hL
  have hcall := pieces1_in 5 (by omega) (w.heap.size + 7) (w.heap.size + 1 + 1 + 1 + 1 + 1) B X (fun k W => SJ w.heap.size w X (.loop (rec .ready none)) a d (between (joinP (X.Q.take k)) a (a + d)) W) (fun W => SJ w.heap.size w X (.loop (rec .done (some (.exit 0)))) a d (between X.all a (a + d)) W) _ (Nat.le_trans hL.fits hL.most)
    (fun k W h => ⟨h.fcell.1, h.fcell.2, hL.row.below (h.bel.mono hB)⟩) ?hY J0
  case hY =>
    rintro k p W hr hp
    have hl5 := hr.r
    rw [← hrec] at hl5
    refine round_openR hfn hl5 rfl ?_
    simp only [hrec]
    have HB := Lib.hid (Nat.le_trans (sumQ_all hL (k + 1)) hal)
    have hmB := Nat.le_trans (sumQ_all hL k) hal
    have hpn := hN p (List.mem_of_getElem? hp)
    have hok : ∀ W', Below w.heap.size w W' → p.Ok W' B := fun W' hb => by
      rcases List.mem_cons.1 (List.mem_of_getElem? hp) with rfl | hq
      · exact (hL.later (hb.mono hB)).firm
      · exact (hL.later (hb.mono hB)).loose p hq
    have hjn := joinQ_len hL k
    have hjt := joinP_take hp
    generalize hM : joinP (X.Q.take k) = M at *
    generalize sumN (X.Q.take k) = m at *
    have HQ := Lib.hid (show between (joinP (X.Q.take (k + 1))) a (a + d) = between M a (a + d) ++ (p.l.take (a + d - m)).drop (a - m) by rw [hjt, between_app, hjn])
    have HE := Lib.hid (show a + d ≤ m → between X.all a (a + d) = between M a (a + d) from fun h => by
      have : X.all = M ++ joinP (X.Q.drop k) := by rw [← hM, ← joinP_append, List.take_append_drop, joinQ]
      rw [this, between_over _ _ _ _ (by omega)])
    have hbl := between_len M a d
    clear hl5 J0 j1 j2 j4 jo jf hp hjt hjn hM
    generalize between M a (a + d) = out at *
    gi_wp2
    refine ⟨hr.r, ?_⟩
    have hr3 := hr.turn rfl rfl (.loop (rec .busy none))
    have hpl3 := hok _ hr3.bel
    generalize W.putObj (w.heap.size + 7) (.loop (rec .busy none)) = W4 at *
    clear hr hL hN hok hb1 hsz
    gi_wp2
    have hr4 := hr3.drew
    have HS7 : SpS w a d W4.drew := ⟨hr4.b1.cell, hr4.b2.cell⟩
    have x1 : ∀ W, SpS w a d W → W.cell? ⟨w.heap.size + 1, 0, none⟩ = some (.int .i64 (a : Nat)) := fun W h => h.c1
    have x2 : ∀ W, SpS w a d W → W.cell? ⟨w.heap.size + 1 + 1, 0, none⟩ = some (.int .i64 (d : Nat)) := fun W h => h.c2
    have e1 : IntKind.i64.wrap ((a : Int) - (m : Int)) = (a : Int) - (m : Int) := by rw [IntKind.wrap_i64]; omega
    have e2 : wrap64 ((a : Int) - (m : Int)) = (a : Int) - (m : Int) := by unfold wrap64; omega
    have e3 : IntKind.i64.wrap ((a : Int) + (d : Int) - (m : Int)) = (a : Int) + (d : Int) - (m : Int) := by rw [IntKind.wrap_i64]; omega
    have e4 : wrap64 ((a : Int) + (d : Int) - (m : Int)) = (a : Int) + (d : Int) - (m : Int) := by unfold wrap64; omega
    have k1 := hr3.b1.cell
    have k2 := hr3.b2.cell
    have mx : (if (a : Int) - (m : Int) < 0 then 0 else (a : Int) - (m : Int)) = ((a - m : Nat) : Int) := by split <;> omega
    by_cases hmd : a + d ≤ m
    · have HX := Lib.hid (HE.out hmd)
      have hge : ((a : Int) + (d : Int) ≤ (m : Int)) = True := by simp; omega
      have mn : (if (p.n : Int) < (a : Int) + (d : Int) - (m : Int) then (p.n : Int) else (a : Int) + (d : Int) - (m : Int)) = (a : Int) + (d : Int) - (m : Int) := by split <;> omega
      have hlt : (((a - m : Nat) : Int) < (a : Int) + (d : Int) - (m : Int)) = False := by simp; omega
      clear hmd
      refine region_round (S := fun W => SpS w a d W) (by kernel_rfl) (noDefer_spec (by rfl)) (by rintro ⟨_, _, h⟩; exact h) HS7 (fun hHeld => ?_)
      refine rg_in 0 rfl (by kernel_rfl) (by kernel_rfl) (by kernel_rfl) (by rfl) (v := ?_) (fun _ _ _ h => h) hHeld (fun w hSw => ?_) ?_
      rotate_left
      · (try dsimp only at hSw); go_simp <;> (with_reducible rfl)
      (try simp only [Act.put, List.setIfInBounds_toArray, List.set_cons_zero, List.set_cons_succ])
      refine rg_in 1 rfl (by kernel_rfl) (by kernel_rfl) (by kernel_rfl) (by rfl) (v := ?_) (fun _ _ _ h => h) hHeld (fun w hSw => ?_) ?_
      rotate_left
      · (try dsimp only at hSw); go_simp <;> (with_reducible rfl)
      (try simp only [Act.put, List.setIfInBounds_toArray, List.set_cons_zero, List.set_cons_succ])
      refine rg_in 2 rfl (by kernel_rfl) (by kernel_rfl) (by kernel_rfl) (by rfl) (v := ?_) (fun _ _ _ h => h) hHeld (fun w hSw => ?_) ?_
      rotate_left
      · (try dsimp only at hSw); go_simp <;> (with_reducible rfl)
      (try simp only [Act.put, List.setIfInBounds_toArray, List.set_cons_zero, List.set_cons_succ])
      refine rg_in 3 rfl (by kernel_rfl) (by kernel_rfl) (by kernel_rfl) (by rfl) (v := ?_) (fun _ _ _ h => h) hHeld (fun w hSw => ?_) ?_
      rotate_left
      · (try dsimp only at hSw); go_simp <;> (with_reducible rfl)
      (try simp only [Act.put, List.setIfInBounds_toArray, List.set_cons_zero, List.set_cons_succ])
      refine rg_in 4 rfl (by kernel_rfl) (by kernel_rfl) (by kernel_rfl) (by rfl) (v := ?_) (fun _ _ _ h => h) hHeld (fun w hSw => ?_) ?_
      rotate_left
      · (try dsimp only at hSw); go_simp <;> (with_reducible rfl)
      (try simp only [Act.put, List.setIfInBounds_toArray, List.set_cons_zero, List.set_cons_succ])
      refine rg_in 5 rfl (by kernel_rfl) (by kernel_rfl) (by kernel_rfl) (by rfl) (v := ?_) (fun _ _ _ h => h) hHeld (fun w hSw => ?_) ?_
      rotate_left
      · (try dsimp only at hSw); go_simp <;> (with_reducible rfl)
      (try simp only [Act.put, List.setIfInBounds_toArray, List.set_cons_zero, List.set_cons_succ])
      refine rg_in 6 rfl (by kernel_rfl) (by kernel_rfl) (by kernel_rfl) (by rfl) (v := ?_) (fun _ _ _ h => h) hHeld (fun w hSw => ?_) ?_
      rotate_left
      · (try dsimp only at hSw); go_simp <;> (with_reducible rfl)
      (try simp only [Act.put, List.setIfInBounds_toArray, List.set_cons_zero, List.set_cons_succ])
      refine rg_in 7 rfl (by kernel_rfl) (by kernel_rfl) (by kernel_rfl) (by rfl) (v := ?_) (fun _ _ _ h => h) hHeld (fun w hSw => ?_) ?_
      rotate_left
      · (try dsimp only at hSw); go_simp <;> (with_reducible rfl)
      (try simp only [Act.put, List.setIfInBounds_toArray, List.set_cons_zero, List.set_cons_succ])
      refine rg_in 8 rfl (by kernel_rfl) (by kernel_rfl) (by kernel_rfl) (by rfl) (v := ?_) (fun _ _ _ h => h) hHeld (fun w hSw => ?_) ?_
      rotate_left
      · (try dsimp only at hSw); go_simp <;> (with_reducible rfl)
      (try simp only [Act.put, List.setIfInBounds_toArray, List.set_cons_zero, List.set_cons_succ])
      refine rg_in 9 rfl (by kernel_rfl) (by kernel_rfl) (by kernel_rfl) (by rfl) (v := ?_) (fun _ _ _ h => h) hHeld (fun w hSw => ?_) ?_
      rotate_left
      · (try dsimp only at hSw); go_simp <;> (with_reducible rfl)
      (try simp only [Act.put, List.setIfInBounds_toArray, List.set_cons_zero, List.set_cons_succ])
      refine rg_in 10 rfl (by kernel_rfl) (by kernel_rfl) (by kernel_rfl) (by rfl) (v := ?_) (fun _ _ _ h => h) hHeld (fun w hSw => ?_) ?_
      rotate_left
      · (try dsimp only at hSw); go_simp <;> (with_reducible rfl)
      (try simp only [Act.put, List.setIfInBounds_toArray, List.set_cons_zero, List.set_cons_succ])
      refine rg_in 11 rfl (by kernel_rfl) (by kernel_rfl) (by kernel_rfl) (by rfl) (v := ?_) (fun _ _ _ h => h) hHeld (fun w hSw => ?_) ?_
      rotate_left
      · (try dsimp only at hSw); go_simp <;> (with_reducible rfl)
      (try simp only [Act.put, List.setIfInBounds_toArray, List.set_cons_zero, List.set_cons_succ])
      refine rg_in 12 rfl (by kernel_rfl) (by kernel_rfl) (by kernel_rfl) (by rfl) (v := ?_) (fun _ _ _ h => h) hHeld (fun w hSw => ?_) ?_
      rotate_left
      · (try dsimp only at hSw); go_simp <;> (with_reducible rfl)
      (try simp only [Act.put, List.setIfInBounds_toArray, List.set_cons_zero, List.set_cons_succ])
      refine rg_in 13 rfl (by kernel_rfl) (by kernel_rfl) (by kernel_rfl) (by rfl) (v := ?_) (fun _ _ _ h => h) hHeld (fun w hSw => ?_) ?_
      rotate_left
      · (try dsimp only at hSw); go_simp <;> (with_reducible rfl)
      (try simp only [Act.put, List.setIfInBounds_toArray, List.set_cons_zero, List.set_cons_succ])
      refine wpAnyH_done (by kernel_rfl) ?_ _
      clear hHeld x1 x2 HS7
      gi_wp2
      exact ⟨hr4.r, .inr ⟨rfl, by rw [HX.out]; exact hr4.turn rfl rfl _⟩⟩
    · obtain ⟨hh, hhe⟩ : ∃ hh, hh = min (a + d - m) p.n := ⟨_, rfl⟩
      have mn : (if (p.n : Int) < (a : Int) + (d : Int) - (m : Int) then (p.n : Int) else (a : Int) + (d : Int) - (m : Int)) = (hh : Int) := by split <;> omega
      have hge : ((a : Int) + (d : Int) ≤ (m : Int)) = False := by simp; omega
      have htk : p.l.take (a + d - m) = p.l.take hh := by
        rw [hhe]
        by_cases h : a + d - m ≤ p.n
        · rw [Nat.min_eq_left h]
        · rw [Nat.min_eq_right (by omega), List.take_of_length_le (by rw [hpl3.len]; omega), List.take_of_length_le (by rw [hpl3.len]; omega)]
      rw [htk] at HQ
      have hhn : hh ≤ p.n := by omega
      have hpc := hpl3.fits
      have hpm := hpl3.most
      unfold maxLen at hpm
      have hpll := hpl3.len
      have hd2 : d ≤ 524288 := by omega
      generalize a - m = lo at *
      clear hhe htk HE hmd
      by_cases hlh : lo < hh
      · have hlt : ((lo : Int) < (hh : Int)) = True := by simp; omega
        have i0' : (0 : Int) ≤ (lo : Int) := by omega
        have i1 : (lo : Int) ≤ (hh : Int) := by omega
        have i2 : (hh : Int) ≤ (p.c : Int) := by omega
        have i3 : ¬ p.c = lo := by omega
        obtain ⟨A4, c4, hb4, hown4⟩ := hr4.drew.b4
        have hcut := ((((hpl3.here.first hhn).cut (k := lo) (cap := p.c) (by omega) (by omega)).drew).drew)
        rw [if_neg i3] at hcut
        have hcl9 := Lib.hid (show ((p.l.take hh).drop lo).length = hh - lo by rw [List.length_drop, List.length_take]; omega)
        have hr5 := hr4.drew
        have HS9 : True := trivial
        obtain ⟨i0, hi, hz0, hz1, hz2⟩ := u8_info
        have hlt7 := hr4.lt
        have h63 : out.length + (hh - lo) ≤ maxLen := by clear e1 e2 e3 e4 mx mn hs1 hs2; unfold maxLen; omega
        have hbt : (out.length + (hh - lo)) * 1 ≤ 140737488355328 := by clear e1 e2 e3 e4 mx mn hs1 hs2; omega
        have hbs : w.heap.size + 3 ≤ W4.drew.drew.heap.size := by show w.heap.size + 3 ≤ W4.heap.size; have : w.heap.size + 7 < W4.heap.size := hlt7; omega
        clear hpll hpm hlh
        refine region_round (S := fun W => SpS w a d W) (by kernel_rfl) (noDefer_spec (by rfl)) (by rintro ⟨_, _, h⟩; exact h) HS7 (fun hHeld => ?_)
        refine rg_in 0 rfl (by kernel_rfl) (by kernel_rfl) (by kernel_rfl) (by rfl) (v := ?_) (fun _ _ _ h => h) hHeld (fun w hSw => ?_) ?_
        rotate_left
        · (try dsimp only at hSw); go_simp <;> (with_reducible rfl)
        (try simp only [Act.put, List.setIfInBounds_toArray, List.set_cons_zero, List.set_cons_succ])
        refine rg_in 1 rfl (by kernel_rfl) (by kernel_rfl) (by kernel_rfl) (by rfl) (v := ?_) (fun _ _ _ h => h) hHeld (fun w hSw => ?_) ?_
        rotate_left
        · (try dsimp only at hSw); go_simp <;> (with_reducible rfl)
        (try simp only [Act.put, List.setIfInBounds_toArray, List.set_cons_zero, List.set_cons_succ])
        refine rg_in 2 rfl (by kernel_rfl) (by kernel_rfl) (by kernel_rfl) (by rfl) (v := ?_) (fun _ _ _ h => h) hHeld (fun w hSw => ?_) ?_
        rotate_left
        · (try dsimp only at hSw); go_simp <;> (with_reducible rfl)
        (try simp only [Act.put, List.setIfInBounds_toArray, List.set_cons_zero, List.set_cons_succ])
        refine rg_in 3 rfl (by kernel_rfl) (by kernel_rfl) (by kernel_rfl) (by rfl) (v := ?_) (fun _ _ _ h => h) hHeld (fun w hSw => ?_) ?_
        rotate_left
        · (try dsimp only at hSw); go_simp <;> (with_reducible rfl)
        (try simp only [Act.put, List.setIfInBounds_toArray, List.set_cons_zero, List.set_cons_succ])
        refine rg_in 4 rfl (by kernel_rfl) (by kernel_rfl) (by kernel_rfl) (by rfl) (v := ?_) (fun _ _ _ h => h) hHeld (fun w hSw => ?_) ?_
        rotate_left
        · (try dsimp only at hSw); go_simp <;> (with_reducible rfl)
        (try simp only [Act.put, List.setIfInBounds_toArray, List.set_cons_zero, List.set_cons_succ])
        refine rg_in 5 rfl (by kernel_rfl) (by kernel_rfl) (by kernel_rfl) (by rfl) (v := ?_) (fun _ _ _ h => h) hHeld (fun w hSw => ?_) ?_
        rotate_left
        · (try dsimp only at hSw); go_simp <;> (with_reducible rfl)
        (try simp only [Act.put, List.setIfInBounds_toArray, List.set_cons_zero, List.set_cons_succ])
        refine rg_in 6 rfl (by kernel_rfl) (by kernel_rfl) (by kernel_rfl) (by rfl) (v := ?_) (fun _ _ _ h => h) hHeld (fun w hSw => ?_) ?_
        rotate_left
        · (try dsimp only at hSw); go_simp <;> (with_reducible rfl)
        (try simp only [Act.put, List.setIfInBounds_toArray, List.set_cons_zero, List.set_cons_succ])
        refine rg_in 7 rfl (by kernel_rfl) (by kernel_rfl) (by kernel_rfl) (by rfl) (v := ?_) (fun _ _ _ h => h) hHeld (fun w hSw => ?_) ?_
        rotate_left
        · (try dsimp only at hSw); go_simp <;> (with_reducible rfl)
        (try simp only [Act.put, List.setIfInBounds_toArray, List.set_cons_zero, List.set_cons_succ])
        refine rg_in 8 rfl (by kernel_rfl) (by kernel_rfl) (by kernel_rfl) (by rfl) (v := ?_) (fun _ _ _ h => h) hHeld (fun w hSw => ?_) ?_
        rotate_left
        · (try dsimp only at hSw); go_simp <;> (with_reducible rfl)
        (try simp only [Act.put, List.setIfInBounds_toArray, List.set_cons_zero, List.set_cons_succ])
        refine rg_in 9 rfl (by kernel_rfl) (by kernel_rfl) (by kernel_rfl) (by rfl) (v := ?_) (fun _ _ _ h => h) hHeld (fun w hSw => ?_) ?_
        rotate_left
        · (try dsimp only at hSw); go_simp <;> (with_reducible rfl)
        (try simp only [Act.put, List.setIfInBounds_toArray, List.set_cons_zero, List.set_cons_succ])
        refine rg_in 10 rfl (by kernel_rfl) (by kernel_rfl) (by kernel_rfl) (by rfl) (v := ?_) (fun _ _ _ h => h) hHeld (fun w hSw => ?_) ?_
        rotate_left
        · (try dsimp only at hSw); go_simp <;> (with_reducible rfl)
        (try simp only [Act.put, List.setIfInBounds_toArray, List.set_cons_zero, List.set_cons_succ])
        refine rg_in 11 rfl (by kernel_rfl) (by kernel_rfl) (by kernel_rfl) (by rfl) (v := ?_) (fun _ _ _ h => h) hHeld (fun w hSw => ?_) ?_
        rotate_left
        · (try dsimp only at hSw); go_simp <;> (with_reducible rfl)
        (try simp only [Act.put, List.setIfInBounds_toArray, List.set_cons_zero, List.set_cons_succ])
        refine rg_in 12 rfl (by kernel_rfl) (by kernel_rfl) (by kernel_rfl) (by rfl) (v := ?_) (fun _ _ _ h => h) hHeld (fun w hSw => ?_) ?_
        rotate_left
        · (try dsimp only at hSw); go_simp <;> (with_reducible rfl)
        (try simp only [Act.put, List.setIfInBounds_toArray, List.set_cons_zero, List.set_cons_succ])
        refine rg_in 13 rfl (by kernel_rfl) (by kernel_rfl) (by kernel_rfl) (by rfl) (v := ?_) (fun _ _ _ h => h) hHeld (fun w hSw => ?_) ?_
        rotate_left
        · (try dsimp only at hSw); go_simp <;> (with_reducible rfl)
        (try simp only [Act.put, List.setIfInBounds_toArray, List.set_cons_zero, List.set_cons_succ])
        refine wpAnyH_done (by kernel_rfl) ?_ _
        clear hHeld x1 x2 HS7
        gi_wp2
        refine region_round (S := fun _ => True) (by kernel_rfl) (noDefer_spec (by rfl)) (by rintro ⟨_, _, h⟩; exact h) HS9 (fun hHeld => ?_)
        refine rg_in 1 rfl (by kernel_rfl) (by kernel_rfl) (by kernel_rfl) (by rfl) (v := ?_) (fun _ _ _ h => h) hHeld (fun w hSw => ?_) ?_
        rotate_left
        · (try dsimp only at hSw); go_simp <;> (with_reducible rfl)
        (try simp only [Act.put, List.setIfInBounds_toArray, List.set_cons_zero, List.set_cons_succ])
        refine rg_in 2 rfl (by kernel_rfl) (by kernel_rfl) (by kernel_rfl) (by rfl) (v := ?_) (fun _ _ _ h => h) hHeld (fun w hSw => ?_) ?_
        rotate_left
        · (try dsimp only at hSw); go_simp <;> (with_reducible rfl)
        (try simp only [Act.put, List.setIfInBounds_toArray, List.set_cons_zero, List.set_cons_succ])
        refine rg_in 3 rfl (by kernel_rfl) (by kernel_rfl) (by kernel_rfl) (by rfl) (v := ?_) (fun _ _ _ h => h) hHeld (fun w hSw => ?_) ?_
        rotate_left
        · (try dsimp only at hSw); go_simp <;> (with_reducible rfl)
        (try simp only [Act.put, List.setIfInBounds_toArray, List.set_cons_zero, List.set_cons_succ])
        refine rg_in 4 rfl (by kernel_rfl) (by kernel_rfl) (by kernel_rfl) (by rfl) (v := ?_) (fun _ _ _ h => h) hHeld (fun w hSw => ?_) ?_
        rotate_left
        · (try dsimp only at hSw); go_simp <;> (with_reducible rfl)
        (try simp only [Act.put, List.setIfInBounds_toArray, List.set_cons_zero, List.set_cons_succ])
        refine rg_do 0 rfl (by kernel_rfl) (by rfl) (fun K hK => ?_)
        have hcl := hb4.cell
        go_simp
        clear hcl
        refine hK.out _ _ trivial (fun hHeld => ?_)
        clear hK K
        (try simp only [Act.put, List.setIfInBounds_toArray, List.set_cons_zero, List.set_cons_succ])
        refine rg_do 5 rfl (by kernel_rfl) (by rfl) (fun K hK => ?_)
        refine wp_append_shows _ _ _ 22 rfl (w.heap.size + 3) 5 i0 (.int .u8 0) 1 1 Tryd.underlying22 hi hz0 hz1 hz2 rfl (by decide) _ _ _ rfl hown4 B _ (hh - lo) _ (((p.l.take hh).drop lo).map bv) rfl hcut (bv_one _) h63 hbt hbs ?_
        intro A7 c7 w7 hown7 hgrow7 hbel7
        refine hK.out _ _ trivial (fun hHeld => ?_)
        clear hK K
        (try simp only [Act.put, List.setIfInBounds_toArray, List.set_cons_zero, List.set_cons_succ])
        refine rg_do 6 rfl (by kernel_rfl) (by rfl) (fun K hK => ?_)
        have hcl := (hr5.old hb4 hown4 hgrow7).cell
        have hcf := (hr5.old hb4 hown4 hgrow7).frozen
        go_simp
        clear hcl hcf
        refine hK.out _ _ trivial (fun hHeld => ?_)
        clear hK K
        (try simp only [Act.put, List.setIfInBounds_toArray, List.set_cons_zero, List.set_cons_succ])
        refine wpAnyH_done (by kernel_rfl) ?_ _
        have hr9 := hr5.took rfl hb4 hown4 hgrow7 hown7 hcl9.out
        have k1' := hr9.b1.cell
        have k2' := hr9.b2.cell
        clear hgrow7 hown7 hbel7
        gi_wp2
        exact ⟨hr9.r, .inl ⟨rfl, by rw [HQ.out]; exact hr9.turn rfl rfl _, HB.out⟩⟩
      · have hlt : ((lo : Int) < (hh : Int)) = False := by simp; omega
        have hnil : (p.l.take hh).drop lo = [] := List.drop_eq_nil_of_le (by rw [List.length_take]; omega)
        rw [hnil, List.append_nil] at HQ
        clear hnil hpll hpm hpc hlh
        refine region_round (S := fun W => SpS w a d W) (by kernel_rfl) (noDefer_spec (by rfl)) (by rintro ⟨_, _, h⟩; exact h) HS7 (fun hHeld => ?_)
        refine rg_in 0 rfl (by kernel_rfl) (by kernel_rfl) (by kernel_rfl) (by rfl) (v := ?_) (fun _ _ _ h => h) hHeld (fun w hSw => ?_) ?_
        rotate_left
        · (try dsimp only at hSw); go_simp <;> (with_reducible rfl)
        (try simp only [Act.put, List.setIfInBounds_toArray, List.set_cons_zero, List.set_cons_succ])
        refine rg_in 1 rfl (by kernel_rfl) (by kernel_rfl) (by kernel_rfl) (by rfl) (v := ?_) (fun _ _ _ h => h) hHeld (fun w hSw => ?_) ?_
        rotate_left
        · (try dsimp only at hSw); go_simp <;> (with_reducible rfl)
        (try simp only [Act.put, List.setIfInBounds_toArray, List.set_cons_zero, List.set_cons_succ])
        refine rg_in 2 rfl (by kernel_rfl) (by kernel_rfl) (by kernel_rfl) (by rfl) (v := ?_) (fun _ _ _ h => h) hHeld (fun w hSw => ?_) ?_
        rotate_left
        · (try dsimp only at hSw); go_simp <;> (with_reducible rfl)
        (try simp only [Act.put, List.setIfInBounds_toArray, List.set_cons_zero, List.set_cons_succ])
        refine rg_in 3 rfl (by kernel_rfl) (by kernel_rfl) (by kernel_rfl) (by rfl) (v := ?_) (fun _ _ _ h => h) hHeld (fun w hSw => ?_) ?_
        rotate_left
        · (try dsimp only at hSw); go_simp <;> (with_reducible rfl)
        (try simp only [Act.put, List.setIfInBounds_toArray, List.set_cons_zero, List.set_cons_succ])
        refine rg_in 4 rfl (by kernel_rfl) (by kernel_rfl) (by kernel_rfl) (by rfl) (v := ?_) (fun _ _ _ h => h) hHeld (fun w hSw => ?_) ?_
        rotate_left
        · (try dsimp only at hSw); go_simp <;> (with_reducible rfl)
        (try simp only [Act.put, List.setIfInBounds_toArray, List.set_cons_zero, List.set_cons_succ])
        refine rg_in 5 rfl (by kernel_rfl) (by kernel_rfl) (by kernel_rfl) (by rfl) (v := ?_) (fun _ _ _ h => h) hHeld (fun w hSw => ?_) ?_
        rotate_left
        · (try dsimp only at hSw); go_simp <;> (with_reducible rfl)
        (try simp only [Act.put, List.setIfInBounds_toArray, List.set_cons_zero, List.set_cons_succ])
        refine rg_in 6 rfl (by kernel_rfl) (by kernel_rfl) (by kernel_rfl) (by rfl) (v := ?_) (fun _ _ _ h => h) hHeld (fun w hSw => ?_) ?_
        rotate_left
        · (try dsimp only at hSw); go_simp <;> (with_reducible rfl)
        (try simp only [Act.put, List.setIfInBounds_toArray, List.set_cons_zero, List.set_cons_succ])
        refine rg_in 7 rfl (by kernel_rfl) (by kernel_rfl) (by kernel_rfl) (by rfl) (v := ?_) (fun _ _ _ h => h) hHeld (fun w hSw => ?_) ?_
        rotate_left
        · (try dsimp only at hSw); go_simp <;> (with_reducible rfl)
        (try simp only [Act.put, List.setIfInBounds_toArray, List.set_cons_zero, List.set_cons_succ])
        refine rg_in 8 rfl (by kernel_rfl) (by kernel_rfl) (by kernel_rfl) (by rfl) (v := ?_) (fun _ _ _ h => h) hHeld (fun w hSw => ?_) ?_
        rotate_left
        · (try dsimp only at hSw); go_simp <;> (with_reducible rfl)
        (try simp only [Act.put, List.setIfInBounds_toArray, List.set_cons_zero, List.set_cons_succ])
        refine rg_in 9 rfl (by kernel_rfl) (by kernel_rfl) (by kernel_rfl) (by rfl) (v := ?_) (fun _ _ _ h => h) hHeld (fun w hSw => ?_) ?_
        rotate_left
        · (try dsimp only at hSw); go_simp <;> (with_reducible rfl)
        (try simp only [Act.put, List.setIfInBounds_toArray, List.set_cons_zero, List.set_cons_succ])
        refine rg_in 10 rfl (by kernel_rfl) (by kernel_rfl) (by kernel_rfl) (by rfl) (v := ?_) (fun _ _ _ h => h) hHeld (fun w hSw => ?_) ?_
        rotate_left
        · (try dsimp only at hSw); go_simp <;> (with_reducible rfl)
        (try simp only [Act.put, List.setIfInBounds_toArray, List.set_cons_zero, List.set_cons_succ])
        refine rg_in 11 rfl (by kernel_rfl) (by kernel_rfl) (by kernel_rfl) (by rfl) (v := ?_) (fun _ _ _ h => h) hHeld (fun w hSw => ?_) ?_
        rotate_left
        · (try dsimp only at hSw); go_simp <;> (with_reducible rfl)
        (try simp only [Act.put, List.setIfInBounds_toArray, List.set_cons_zero, List.set_cons_succ])
        refine rg_in 12 rfl (by kernel_rfl) (by kernel_rfl) (by kernel_rfl) (by rfl) (v := ?_) (fun _ _ _ h => h) hHeld (fun w hSw => ?_) ?_
        rotate_left
        · (try dsimp only at hSw); go_simp <;> (with_reducible rfl)
        (try simp only [Act.put, List.setIfInBounds_toArray, List.set_cons_zero, List.set_cons_succ])
        refine rg_in 13 rfl (by kernel_rfl) (by kernel_rfl) (by kernel_rfl) (by rfl) (v := ?_) (fun _ _ _ h => h) hHeld (fun w hSw => ?_) ?_
        rotate_left
        · (try dsimp only at hSw); go_simp <;> (with_reducible rfl)
        (try simp only [Act.put, List.setIfInBounds_toArray, List.set_cons_zero, List.set_cons_succ])
        refine wpAnyH_done (by kernel_rfl) ?_ _
        clear hHeld x1 x2 HS7
        gi_wp2
        exact ⟨hr4.r, .inl ⟨rfl, by rw [HQ.out]; exact hr4.turn rfl rfl _, HB.out⟩⟩
  refine hcall.mono ?_
  rintro e B1 ⟨hv, hr | hr⟩
  · have hQe : between (joinP (X.Q.take (X.ln + 1))) a (a + d) = between X.all a (a + d) := by
      rw [List.take_of_length_le (by unfold FileT.Q; rw [List.length_cons, hL.len]; exact Nat.le_refl _), joinQ]
    rw [hQe] at hr
    clear hcall J0 j1 j2 j4 jo jf hrec hfn hb1 hL hN hQe HLie
    refine ⟨hv, .ready, none, hr.r, by simp, ?_⟩
    have hr5 := hr.turn rfl rfl (.loop (rec .exhausted none))
    generalize B1.putObj (w.heap.size + 7) (.loop (rec .exhausted none)) = W5 at *
    have hK := hr5.d
    obtain ⟨A4, c4, hb4, hown4⟩ := hr5.b4
    have k4 := hb4.cell
    have HE := Lib.hid (span_endO hr5 hown4 (lq := .deferred none) rfl)
    clear hr hr5 hown4 hb4 hv
    generalize (between X.all a (a + d)).length = j at *
    unfold goesOn
    dsimp only
    go_wp2
    refine ⟨by simp, .inl ⟨_, _, rfl, run_takeDeferred hK, ?_⟩⟩
    refine ⟨_, ?_, HE.out⟩
    clear HE hK
    simp [results, Tryd.results64, go_sem, *]
  · clear hcall J0 j1 j2 j4 jo jf hrec hfn hb1 hL hN HLie
    refine ⟨hv, .done, _, hr.r, by simp, ?_⟩
    have hr5 := hr.turn rfl rfl (.loop (rec .exhausted (some (.exit 0))))
    generalize B1.putObj (w.heap.size + 7) (.loop (rec .exhausted (some (.exit 0)))) = W5 at *
    have hK := hr5.d
    obtain ⟨A4, c4, hb4, hown4⟩ := hr5.b4
    have k4 := hb4.cell
    have HE := Lib.hid (span_endO hr5 hown4 (lq := .deferred none) rfl)
    clear hr hr5 hown4 hb4 hv
    generalize (between X.all a (a + d)).length = j at *
    unfold goesOn
    refine wpIn_wide.2 ?_
    go_wp2
    refine ⟨by simp, .inl ⟨_, _, rfl, run_takeDeferred hK, ?_⟩⟩
    refine ⟨_, ?_, HE.out⟩
    clear HE hK
    simp [results, Tryd.results64, go_sem, *]
set_option maxRecDepth 20000 in
set_option maxHeartbeats 2000000 in
theorem readF_own (X : FileT) (a n : Nat) (B : Nat) (w : World) (hL : LieF w B X) (hB : B ≤ w.heap.size) (hN : ∀ p ∈ X.Q, p.n ≤ 1048576) (hr : X.right = true) (h : a + n ≤ X.long) (hcut : ¬ a + n ≤ X.F.n) :
    Calls Tryd.prog 45 #[X.agg, .int .i64 a, .int .i64 n] w (fun e w' => ∃ (A : Option Addr) (k c : Nat), e = .returned (.tuple #[.slice A k c, .int .i64 0]) ∧ w'.ownsRow w.heap.size 5 1 (.slice A k c) k ((between X.all a (a + n)).map bv) ∧ Below w.heap.size w w') := by
  have hb1 := bel_alloc (Below.refl w.heap.size w) (.cells #[.slice X.F.A X.F.n X.F.c, .slice X.lA X.ln X.lc, .int .i64 X.fuse, .int .i64 X.fault, .bool X.off] 25)
  have HX := Lib.hid (FBox.new w X 25)
  have hch := checkF_any X B _ (hL.later (hb1.mono hB)) (Nat.le_trans hB hb1.size) hN
  rw [hr] at hch
  have Hr := Lib.hid hr
  have Hle := Lib.hid (fun W (h : Below w.heap.size w W) => length_any X B W (hL.later (h.mono hB)) (Nat.le_trans hB h.size) hN)
  have hl := (right_rows hL hr).2.1
  obtain ⟨hlong, hmax⟩ := right_all hL hr
  have Hsp := Lib.hid (fun W (h2 : Below w.heap.size w W) => span_own X a n B W (hL.later (h2.mono hB)) (Nat.le_trans hB h2.size) hN hl (by omega) hmax hcut)
  have h1 : ¬ (a : Int) < 0 := by omega
  have h2 : ¬ (n : Int) < 0 := by omega
  simp only [FileT.agg, PcT.val] at *
  clear hL hN hr
  go_enter Tryd.func45, Tryd.ntmps45
  go_wp2_with fail
  generalize w.alloc (.cells #[.slice X.F.A X.F.n X.F.c, .slice X.lA X.ln X.lc, .int .i64 X.fuse, .int .i64 X.fault, .bool X.off] 25) = W1 at *
  refine hch.mono ?_
  rintro e W2 ⟨rfl, hb2⟩
  have hb3 := bel_next hb1 hb2
  obtain ⟨f0, f1, f2, f3, f4⟩ := HX.out.later hb2
  clear hch hb1 hb2 HX
  generalize X.long = lo at *
  have e1 : IntKind.i64.wrap ((lo : Int) - (n : Int)) = (lo : Int) - (n : Int) := by rw [IntKind.wrap_i64]; omega
  have e2 : wrap64 ((lo : Int) - (n : Int)) = (lo : Int) - (n : Int) := by unfold wrap64; omega
  have h3 : ((lo : Int) - (n : Int) < (a : Int)) = False := by simp; omega
  clear h hl hlong hmax
  have HX2 := Lib.hid (show FBox W2 w.heap.size X from ⟨f0, f1, f2, f3, f4⟩)
  go_wp2_with fail
  refine (Hle.out _ hb3).mono ?_
  rintro e W3 ⟨rfl, hb4⟩
  clear f0 f1 f2 f3 f4
  obtain ⟨f0, f1, f2, f3, f4⟩ := HX2.out.later hb4
  have hb5 := bel_next hb3 hb4
  clear Hle HX2 hb4
  go_wp2_with fail
  refine (Hsp.out _ hb5).mono ?_
  rintro e W4 ⟨pA, pn, pc, rfl, hpo, hb6⟩
  have hs5 := hb5.size
  have HP := Lib.hid (own_base hpo (show w.heap.size ≤ W3.heap.size by omega))
  have hb7 := bel_next hb5 hb6
  clear Hsp hpo hb6 hb5 hb3 f0 f1 f2 f3 f4
  go_wp2
  all_goals
    (try rw [Exit.noGoto_ret])
    go_ret2
    exact ⟨pA, pn, pc, rfl, HP.out, hb7⟩
set_option maxRecDepth 20000 in
set_option maxHeartbeats 2000000 in
theorem said_own (X : FileT) (B : Nat) (w : World) (hL : LieF w B X) (hB : B ≤ w.heap.size) (hr : X.right = true) (hcut : X.F.n < X.all.length) :
    Calls Tryd.prog 23 #[X.agg] w (GivesBytes 5 X.all w) := by
  have hb1 := bel_alloc (Below.refl w.heap.size w) (.cells #[.slice X.F.A X.F.n X.F.c, .slice X.lA X.ln X.lc, .int .i64 X.fuse, .int .i64 X.fault, .bool X.off] 25)
  have HX := FBox.new w X 25
  obtain ⟨hlong, hmax⟩ := right_all hL hr
  have hln1 := fun W (h : Below w.heap.size w W) => lenF_any X B W (hL.later (h.mono hB)) (Nat.le_trans hB h.size) (right_rows hL hr).1
  have hrd1 := fun W (h : Below w.heap.size w W) => readF_own X 0 X.all.length B W (hL.later (h.mono hB)) (Nat.le_trans hB h.size) (right_rows hL hr).1 hr (by rw [hlong]; omega) (by omega)
  rw [hr, hlong] at hln1
  simp only [if_true] at hln1
  have HBT := Lib.hid (show between X.all 0 (0 + X.all.length) = X.all by unfold between; rw [Nat.zero_add, List.take_length, List.drop_zero])
  have e0 : ((0 : Nat) : Int) = 0 := rfl
  rw [e0] at hrd1
  simp only [FileT.agg, PcT.val] at hln1 hrd1 ⊢
  generalize X.all.length = L at *
  clear hcut
  go_enter Tryd.func23, Tryd.ntmps23
  go_upto_region 1 with fail
  generalize hW0 : w.alloc (.cells #[.slice X.F.A X.F.n X.F.c, .slice X.lA X.ln X.lc, .int .i64 X.fuse, .int .i64 X.fault, .bool X.off] 25) = W0 at *
  clear hW0
  have hln := Lib.hid (fun W (h : Below W0.heap.size W0 W) => hln1 W (hb1.trans (h.mono hb1.size)))
  have hrd := Lib.hid (fun W (h : Below W0.heap.size W0 W) => hrd1 W (hb1.trans (h.mono hb1.size)))
  have x0 : ∀ W, Below W0.heap.size W0 W → W.cell? ⟨w.heap.size, 0, none⟩ = some (.slice X.F.A X.F.n X.F.c) := fun W h => (HX.later h).1
  have x1 : ∀ W, Below W0.heap.size W0 W → W.cell? ⟨w.heap.size, 1, none⟩ = some (.slice X.lA X.ln X.lc) := fun W h => (HX.later h).2.1
  have x2 : ∀ W, Below W0.heap.size W0 W → W.cell? ⟨w.heap.size, 2, none⟩ = some (.int .i64 X.fuse) := fun W h => (HX.later h).2.2.1
  have x3 : ∀ W, Below W0.heap.size W0 W → W.cell? ⟨w.heap.size, 3, none⟩ = some (.int .i64 X.fault) := fun W h => (HX.later h).2.2.2.1
  have x4 : ∀ W, Below W0.heap.size W0 W → W.cell? ⟨w.heap.size, 4, none⟩ = some (.bool X.off) := fun W h => (HX.later h).2.2.2.2
  clear HX hL hr hlong
  clear hln1 hrd1
  refine wp_region_held_drew (S := fun W => Below W0.heap.size W0 W) (by kernel_rfl) (below_drewN (Below.refl _ _) 1) (fun hHeld => ?_)
  refine rg_in 0 rfl (by kernel_rfl) (by kernel_rfl) (by kernel_rfl) (by rfl) (v := ?_) (fun _ _ _ h => h) hHeld (fun w hSw => ?_) ?_
  rotate_left
  · (try dsimp only at hSw); go_simp <;> (with_reducible rfl)
  (try simp only [Act.put, List.setIfInBounds_toArray, List.set_cons_zero, List.set_cons_succ])
  refine rg_in 1 rfl (by kernel_rfl) (by kernel_rfl) (by kernel_rfl) (by rfl) (v := ?_) (fun _ _ _ h => h) hHeld (fun w hSw => ?_) ?_
  rotate_left
  · (try dsimp only at hSw); go_simp <;> (with_reducible rfl)
  (try simp only [Act.put, List.setIfInBounds_toArray, List.set_cons_zero, List.set_cons_succ])
  refine rg_do 2 rfl (by kernel_rfl) (by rfl) (fun K hK => ?_)
  go_simp
  (go_at_call 24; (with_reducible refine (hln.out _ hHeld).mono ?_); (rintro e w102 ⟨rfl, hb2⟩))
  refine hK.out _ _ (S_call hb2 hHeld rfl) (fun hHeld => ?_)
  clear hK K
  (try simp only [Act.put, List.setIfInBounds_toArray, List.set_cons_zero, List.set_cons_succ])
  refine rg_do 3 rfl (by kernel_rfl) (by rfl) (fun K hK => ?_)
  go_simp
  (go_at_call 45; (with_reducible refine (hrd.out _ hHeld).mono ?_); (rintro e w103 ⟨pA, pn, pc, rfl, hpo, hb3⟩))
  refine hK.out _ _ (S_call hb3 hHeld rfl) (fun hHeld => ?_)
  clear hK K
  (try simp only [Act.put, List.setIfInBounds_toArray, List.set_cons_zero, List.set_cons_succ])
  refine rg_in 4 rfl (by kernel_rfl) (by kernel_rfl) (by kernel_rfl) (by rfl) (v := ?_) (fun _ _ _ h => h) hHeld (fun w hSw => ?_) ?_
  rotate_left
  · (try dsimp only at hSw); go_simp <;> (with_reducible rfl)
  (try simp only [Act.put, List.setIfInBounds_toArray, List.set_cons_zero, List.set_cons_succ])
  refine rg_in 5 rfl (by kernel_rfl) (by kernel_rfl) (by kernel_rfl) (by rfl) (v := ?_) (fun _ _ _ h => h) hHeld (fun w hSw => ?_) ?_
  rotate_left
  · (try dsimp only at hSw); go_simp <;> (with_reducible rfl)
  (try simp only [Act.put, List.setIfInBounds_toArray, List.set_cons_zero, List.set_cons_succ])
  refine rg_in 6 rfl (by kernel_rfl) (by kernel_rfl) (by kernel_rfl) (by rfl) (v := ?_) (fun _ _ _ h => h) hHeld (fun w hSw => ?_) ?_
  rotate_left
  · (try dsimp only at hSw); go_simp <;> (with_reducible rfl)
  (try simp only [Act.put, List.setIfInBounds_toArray, List.set_cons_zero, List.set_cons_succ])
  refine rg_in 7 rfl (by kernel_rfl) (by kernel_rfl) (by kernel_rfl) (by rfl) (v := ?_) (fun _ _ _ h => h) hHeld (fun w hSw => ?_) ?_
  rotate_left
  · (try dsimp only at hSw); go_simp <;> (with_reducible rfl)
  (try simp only [Act.put, List.setIfInBounds_toArray, List.set_cons_zero, List.set_cons_succ])
  refine rg_in 8 rfl (by kernel_rfl) (by kernel_rfl) (by kernel_rfl) (by rfl) (v := ?_) (fun _ _ _ h => h) hHeld (fun w hSw => ?_) ?_
  rotate_left
  · (try dsimp only at hSw); go_simp <;> (with_reducible rfl)
  (try simp only [Act.put, List.setIfInBounds_toArray, List.set_cons_zero, List.set_cons_succ])
  refine wpAnyH_done (by kernel_rfl) ?_ _
  have HH := Lib.hid hHeld
  have hs1 := hb1.size
  have HP := Lib.hid (show w103.ownsRow w.heap.size 5 1 (.slice pA pn pc) pn (X.all.map bv) ∧ Below w.heap.size w w103 from ⟨by rw [HBT.out] at hpo; exact own_base hpo (by have := hb2.size; have : W0.heap.size ≤ w102.heap.size := this; omega), hb1.trans (hHeld.mono hb1.size)⟩)
  clear hHeld x0 x1 x2 x3 x4 hpo hb2 hb3 hln hrd HH
  go_wp2
  go_ret
  exact ⟨pA, pn, pc, rfl, HP.out.1, HP.out.2⟩
end Go.Proofs.YtghmehfmchadoaaDoor
/-
  Layer 11: a file of one's own, not more of it than is of interest.
-/
namespace Go.Proofs.YtghmehfmchadoaaDoor
open Go.RowKit
set_option linter.unusedVariables false

set_option maxRecDepth 20000 in
set_option maxHeartbeats 1000000 in
theorem few_own (p : PcT) (k B : Nat) (w : World) (hp : p.Ok w B) (hB : B ≤ w.heap.size) (hk : k ≤ 100000) :
    Calls Tryd.prog 10 #[.slice p.A p.n p.c, .int .i64 (k : Nat)] w (GivesBytes 5 (p.l.take k) w) := by
  have hc := hp.most
  have hn := hp.fits
  unfold maxLen at hc
  by_cases h4 : p.n ≤ k
  · have hl : p.l.take k = p.l := List.take_of_length_le (by rw [hp.len]; exact h4)
    rw [hl]
    have hcl := Lib.hid (clone_any p.A p.n p.c p.l B w hp.here hp.nil hB (by omega))
    clear hl hp
    have hm : min (p.n : Int) (k : Int) = (p.n : Int) := by omega
    have hm2 : min p.n k = p.n := by omega
    go_enter Tryd.func10, Tryd.ntmps10
    go_wp2_with fail
    refine hcl.out.mono ?_
    rintro e w1 ⟨A2, n2, c2, rfl, hq⟩
    have HQ := Lib.hid hq
    clear hq
    go_wp2
    go_ret
    exact ⟨A2, n2, c2, rfl, HQ.out⟩
  · have hm : min (p.n : Int) (k : Int) = (k : Int) := by omega
    have hm2 : min p.n k = k := by omega
    have hkn : k < p.n := by omega
    have hkn2 : ((p.n : Int) < (k : Int)) = False := by simp; omega
    have hkn3 : ((p.n : Int) ≤ (k : Int)) = False := by simp; omega
    have hcl := Lib.hid (clone_any p.A k p.c (p.l.take k) B w (hp.here.first (k := k) (by omega)) hp.nil hB (by omega))
    have h5 : (k : Int) ≤ (p.c : Int) := by omega
    clear hp h4
    go_enter Tryd.func10, Tryd.ntmps10
    go_wp2_with fail
    refine hcl.out.mono ?_
    rintro e w1 ⟨A2, n2, c2, rfl, hq⟩
    have HQ := Lib.hid hq
    clear hq
    go_wp2
    go_ret
    exact ⟨A2, n2, c2, rfl, HQ.out⟩
/-- What 'some' leaves of a file. -/
def someS (s : FileS) : FileS := ⟨s.firm.take 1000, (s.loose.take 6).map (·.take 300), s.fuse, s.fault, s.off⟩
set_option maxRecDepth 20000 in
set_option maxHeartbeats 4000000 in
theorem some_any (X : FileT) (B : Nat) (w : World) (hL : LieF w B X) (hB : B ≤ w.heap.size) :
    Calls Tryd.prog 9 #[X.agg] w fun e w' => ∃ Y : FileT, e = .returned Y.agg ∧ Y.s = someS X.s ∧ LieF w' w'.heap.size Y ∧ Below w.heap.size w w' ∧ (∀ g, g < w.heap.size → AwayF Y g) ∧ (∀ p ∈ Y.Q, p.n ≤ 1000) ∧ Y.ln ≤ 6 := by
  have hb := bel_alloc (bel_alloc (Below.refl w.heap.size w) (.cells #[.slice X.F.A X.F.n X.F.c, .slice X.lA X.ln X.lc, .int .i64 X.fuse, .int .i64 X.fault, .bool X.off] 25)) (.cells #[.slice none 0 0, .slice none 0 0, .int .i64 0, .int .i64 0, .bool false] 25)
  have HV := Lib.hid ((FVar.new w (.slice X.F.A X.F.n X.F.c) (.slice X.lA X.ln X.lc) (.int .i64 X.fuse) (.int .i64 X.fault) (.bool X.off) 25).lay (.cells #[.slice none 0 0, .slice none 0 0, .int .i64 0, .int .i64 0, .bool false] 25))
  have hR := FVar.new (w.alloc (.cells #[.slice X.F.A X.F.n X.F.c, .slice X.lA X.ln X.lc, .int .i64 X.fuse, .int .i64 X.fault, .bool X.off] 25)) (.slice none 0 0) (.slice none 0 0) (.int .i64 0) (.int .i64 0) (.bool false) 25
  rw [World.size_alloc] at hR
  have HR := Lib.hid hR
  have hn2 : w.heap.size + 2 ≤ ((w.alloc (.cells #[.slice X.F.A X.F.n X.F.c, .slice X.lA X.ln X.lc, .int .i64 X.fuse, .int .i64 X.fault, .bool X.off] 25)).alloc (.cells #[.slice none 0 0, .slice none 0 0, .int .i64 0, .int .i64 0, .bool false] 25)).heap.size := by rw [World.size_alloc, World.size_alloc]; omega
  have HL := Lib.hid (fun W (h : Below w.heap.size w W) => hL.later (h.mono hB))
  have HlL := Lib.hid hL.len
  have Hw := Lib.hid (And.intro hL.fuse hL.fault)
  have HFn := Lib.hid hL.firm.len
  have hcl := fun W (h : Below w.heap.size w W) => few_own X.F 1000 B W (hL.later (h.mono hB)).firm (Nat.le_trans hB h.size) (by omega)
  rw [show ((1000 : Nat) : Int) = 1000 from rfl] at hcl
  have hcl := Lib.hid hcl
  have Htl := Lib.hid (show X.ln ≤ 6 → X.L.take 6 = X.L.take X.ln from fun h => by rw [← hL.len] at h ⊢; rw [List.take_of_length_le h, List.take_of_length_le (Nat.le_refl _)])
  have hfit := hL.fits
  clear hR hL
  simp only [FileT.agg, PcT.val]
  go_enter Tryd.func9, Tryd.ntmps9
  obtain ⟨⟨f0, f1, f2, f3, f4⟩, k0, k1, k2, k3, k4⟩ := HV.out
  obtain ⟨⟨j0, j1, j2, j3, j4⟩, m0, m1, m2, m3, m4⟩ := HR.out
  go_wp2_with fail
  generalize (w.alloc (.cells #[.slice X.F.A X.F.n X.F.c, .slice X.lA X.ln X.lc, .int .i64 X.fuse, .int .i64 X.fault, .bool X.off] 25)).alloc (.cells #[.slice none 0 0, .slice none 0 0, .int .i64 0, .int .i64 0, .bool false] 25) = W1 at *
  refine (hcl.out _ hb).mono ?_
  rintro e W2 ⟨A1, n1, c1, rfl, hO1, hb2⟩
  clear f0 f1 f2 f3 f4 k0 k1 k2 k3 k4 j0 j1 j2 j3 j4 m0 m1 m2 m3 m4
  have hln1 : n1 = min 1000 X.F.l.length := by have := hO1.1; simpa using this.symm
  have hn1 : n1 ≤ 1000 := by omega
  have hs2 := hb2.size
  have hb := bel_next hb hb2
  have HV := Lib.hid (HV.out.later hb2)
  have HR := Lib.hid (HR.out.later hb2)
  obtain ⟨⟨f0, f1, f2, f3, f4⟩, k0, k1, k2, k3, k4⟩ := HV.out
  obtain ⟨⟨j0, j1, j2, j3, j4⟩, m0, m1, m2, m3, m4⟩ := HR.out
  clear hb2 hln1
  have HO1 := Lib.hid (ownsRow_setCell_below hO1 (show (⟨w.heap.size, 0, none⟩ : Addr).block < _ by show w.heap.size < _; omega) (.slice A1 n1 c1))
  clear hO1
  go_upto_region 2 with fail
  clear f0 f1 f2 f3 f4 k0 k1 k2 k3 k4 j0 j1 j2 j3 j4 m0 m1 m2 m3 m4
  have HV := Lib.hid (HV.out.set0 (.slice A1 n1 c1))
  have HR := Lib.hid (HR.out.other (g := w.heap.size) (i := 0) (.slice A1 n1 c1) (show w.heap.size + 1 ≠ w.heap.size by omega))
  have hb := Below.setCell hb (p := ⟨w.heap.size, 0, none⟩) (Nat.le_refl w.heap.size) (.slice A1 n1 c1)
  have hn3 : w.heap.size + 2 ≤ (W2.setCell ⟨w.heap.size, 0, none⟩ (.slice A1 n1 c1)).heap.size := by rw [size_set]; omega
  generalize W2.setCell ⟨w.heap.size, 0, none⟩ (.slice A1 n1 c1) = W3 at *
  have HV := Lib.hid HV.out
  obtain ⟨⟨f0, f1, f2, f3, f4⟩, k0, k1, k2, k3, k4⟩ := HV.out
  obtain ⟨⟨j0, j1, j2, j3, j4⟩, m0, m1, m2, m3, m4⟩ := HR.out
  by_cases h6 : X.ln ≤ 6
  · have hm : min (X.ln : Int) 6 = (X.ln : Int) := by omega
    have hm2 : min X.ln 6 = X.ln := by omega
    have hmc : (X.ln : Int) ≤ (X.lc : Int) := by omega
    have hk1 : ((6 : Int) < (X.ln : Int)) = False := by simp; omega
    have hk2 : ((X.ln : Int) ≤ 6) = True := by simp; omega
    obtain ⟨iP, hiP, hzP, hsP, hbP⟩ := slice_info
    obtain ⟨lA, hlA⟩ : ∃ A, X.lA = A := ⟨_, rfl⟩
    rw [hlA] at f1
    have HlA := Lib.hid hlA
    clear hlA
    go_wp2_with fail
    clear f0 f1 f2 f3 f4 k0 k1 k2 k3 k4 j0 j1 j2 j3 j4 m0 m1 m2 m3 m4
    go_loopw [3, 18] (fun lv iv wr => ∃ (i : Nat) (A : Option Addr) (c : Nat) (L : List PcT), i ≤ X.ln ∧ iv = .int .i64 i ∧ lv = .slice A i c ∧ Hid (wr.ownsRow W3.heap.size 22 1 (.slice A i c) i (L.map PcT.val)) ∧ Hid (OwnR wr W3.heap.size L) ∧ Hid (L.map (·.l) = ((X.L.take i).map (·.l)).map (·.take 300)) ∧ Hid (∀ p ∈ L, p.n ≤ 300) ∧ Below W3.heap.size W3 wr) (fun _ iv _ => X.ln - (intOf iv).toNat)
    case atStart => exact ⟨0, none, 0, [], Nat.zero_le _, rfl, rfl, Lib.hid (World.ownsRow_nil W3 W3.heap.size 22 1), Lib.hid (fun p hp => (List.not_mem_nil hp).elim), Lib.hid rfl, Lib.hid (fun p hp => (List.not_mem_nil hp).elim), Below.refl _ _⟩
    case round =>
      obtain ⟨i, A, c, L, hi, rfl, rfl, HA, HOL, HLL, HLN, hbr⟩ := hrel
      rename World => wr
      have hbw := hb.trans (hbr.mono hb.size)
      have hs3 := hbr.size
      by_cases hlt : i < X.ln
      · obtain ⟨b, off, p, hAp, _, hp, hc⟩ := pc_at (HL.out wr hbw).row (show i < X.ln by omega)
        obtain rfl : lA = some ⟨b, off, none⟩ := HlA.out.symm.trans hAp
        have hpo := (HL.out wr hbw).loose p (List.mem_of_getElem? hp)
        have hcp := few_own p 300 B wr hpo (Nat.le_trans hB hbw.size) (by omega)
        rw [show ((300 : Nat) : Int) = 300 from rfl] at hcp
        have hlt' : (i : Int) < (X.ln : Int) := by omega
        have hi0 : (0 : Int) ≤ (i : Int) := by omega
        have HP2 := Lib.hid (take_map hp)
        clear hpo hAp hp
        go_wp2_with fail
        refine hcp.mono ?_
        rintro e W5 ⟨A5, n5, c5, rfl, hO5, hb5⟩
        have hn5 : n5 ≤ 300 := by have := hO5.1; simp at this; omega
        clear hcp hc
        have hba := bel_alloc hb5 (.cells #[.slice A5 n5 c5] 22)
        have hn6 := own_later HA.out hba
        have HN6 := Lib.hid hn6
        have HOL6 := Lib.hid (OwnR.snoc (p := ⟨A5, n5, c5, p.l.take 300⟩) (HOL.out.later hba) (own_base (own_later hO5 (bel_alloc (Below.refl _ _) (.cells #[.slice A5 n5 c5] 22))) hs3))
        have hs6 := shows_new' W5 #[.slice A5 n5 c5] 22 1 1 rfl
        have hz6 : W3.heap.size ≤ (W5.alloc (.cells #[.slice A5 n5 c5] 22)).heap.size := Nat.le_trans hs3 hba.size
        have h63 : i + 1 ≤ maxLen := by unfold maxLen; omega
        have hbt : (i + 1) * 24 ≤ 140737488355328 := by omega
        have HX6 := Lib.hid (hbr.trans (hba.mono hs3))
        clear hO5 hb5 hba
        go_wp2_with (at_builtin; refine wpList_append_shows _ rfl _ _ 23 rfl W3.heap.size 22 iP (.slice none 0 0) 1 24 Tryd.underlying23 hiP hzP hsP hbP rfl (by decide) _ _ _ rfl hn6 _ _ 1 _ _ rfl hs6 (slice_one _ _ _) h63 hbt hz6 ?_; intro A7 c7 w7 hown7 hgrow7 hb7; have HO7 := Lib.hid hown7; have HOL7 := Lib.hid (OwnR.grown HOL6.out HN6.out hgrow7); clear hown7 hgrow7 hn6 hs6 h63 hbt hz6)
        go_roundw
        case rel => exact ⟨i + 1, A7, c7, L ++ [⟨A5, n5, c5, p.l.take 300⟩], by omega, by go_num, rfl, Lib.hid (by rw [List.map_append]; exact HO7.out), HOL7, Lib.hid (by rw [List.map_append, HLL.out, HP2.out, List.map_append]; rfl), Lib.hid (fun q hq => by
          rcases List.mem_append.1 hq with h | h
          · exact HLN.out q h
          · rw [List.mem_singleton.1 h]; exact hn5), HX6.out.trans hb7⟩
        case measure => simp [intOf]; omega
      · obtain rfl : X.ln = i := by omega
        have HLL2 := Lib.hid (show L.map (·.l) = (X.s.loose.take 6).map (·.take 300) by
          show _ = ((X.L.map (·.l)).take 6).map (·.take 300)
          rw [← List.map_take, Htl.out h6]
          exact HLL.out)
        have HV := Lib.hid (HV.out.later hbr)
        have HR := Lib.hid (HR.out.later hbr)
        have HO1 := Lib.hid (own_later HO1.out hbr)
        clear HLL
        obtain ⟨⟨f0, f1, f2, f3, f4⟩, k0, k1, k2, k3, k4⟩ := HV.out
        obtain ⟨⟨j0, j1, j2, j3, j4⟩, m0, m1, m2, m3, m4⟩ := HR.out
        go_upto_region 9 with fail
        clear f0 f1 f2 f3 f4 k0 k1 k2 k3 k4 j0 j1 j2 j3 j4 m0 m1 m2 m3 m4
        have HV := Lib.hid (HV.out.set1 (.slice A X.ln c))
        have HR := Lib.hid (HR.out.other (g := w.heap.size) (i := 1) (.slice A X.ln c) (show w.heap.size + 1 ≠ w.heap.size by omega))
        have hb := Below.setCell hbw (p := ⟨w.heap.size, 1, none⟩) (Nat.le_refl w.heap.size) (.slice A X.ln c)
        have q1 := own_base (ownsRow_setCell_below HO1.out (show (⟨w.heap.size, 1, none⟩ : Addr).block < _ by show w.heap.size < _; omega) (.slice A X.ln c)) hn2
        have q2 := own_base (ownsRow_setCell_below HA.out (show (⟨w.heap.size, 1, none⟩ : Addr).block < _ by show w.heap.size < _; omega) (.slice A X.ln c)) hn3
        have q3 := (OwnR.setBelow HOL.out (a := ⟨w.heap.size, 1, none⟩) (by show w.heap.size < _; omega) (.slice A X.ln c)).base hn3
        generalize wr.setCell ⟨w.heap.size, 1, none⟩ (.slice A X.ln c) = W8 at *
        obtain ⟨hL8, haw8⟩ := own_lie (p := ⟨A1, n1, c1, X.F.l.take 1000⟩) (of := X.off) q1 q2 q3 Hw.out.1 Hw.out.2
        have hbe := fbelow_set5 (a := .slice A1 n1 c1) (b := .slice A X.ln c) (c := .int .i64 X.fuse) (d := .int .i64 X.fault) (e := .bool X.off) hb (show w.heap.size ≤ w.heap.size + 1 by omega)
        have hLe := Lib.hid (lie_res (a := .slice A1 n1 c1) (b := .slice A X.ln c) (c := .int .i64 X.fuse) (d := .int .i64 X.fault) (e := .bool X.off) hL8 (haw8 (w.heap.size + 1) (by omega)))
        have HAw := Lib.hid (show ∀ g, g < w.heap.size → AwayF ⟨⟨A1, n1, c1, X.F.l.take 1000⟩, A, X.ln, c, L, X.fuse, X.fault, X.off⟩ g from fun g hg => haw8 g (by omega))
        have HS := Lib.hid (show FileT.s ⟨⟨A1, n1, c1, X.F.l.take 1000⟩, A, X.ln, c, L, X.fuse, X.fault, X.off⟩ = someS X.s by
          show FileS.mk (X.F.l.take 1000) (L.map (·.l)) X.fuse X.fault X.off = _
          rw [HLL2.out]
          rfl)
        have HQ := Lib.hid (show ∀ p ∈ FileT.Q ⟨⟨A1, n1, c1, X.F.l.take 1000⟩, A, X.ln, c, L, X.fuse, X.fault, X.off⟩, p.n ≤ 1000 by
          intro p hp
          rcases List.mem_cons.1 hp with h | h
          · rw [h]; exact hn1
          · have := HLN.out p h; omega)
        clear q1 q2 q3 hL8 haw8 hb hbw HA HOL HO1 HLL2 hbr
        obtain ⟨⟨f0, f1, f2, f3, f4⟩, k0, k1, k2, k3, k4⟩ := HV.out
        obtain ⟨⟨j0, j1, j2, j3, j4⟩, m0, m1, m2, m3, m4⟩ := HR.out
        go_wp2
        (try rw [Exit.noGoto_ret])
        refine bodyPost_ret (v := .agg #[.slice A1 n1 c1, .slice A X.ln c, .int .i64 X.fuse, .int .i64 X.fault, .bool X.off]) ?_ rfl ⟨⟨⟨A1, n1, c1, X.F.l.take 1000⟩, A, X.ln, c, L, X.fuse, X.fault, X.off⟩, rfl, HS.out, hLe.out, hbe, HAw.out, HQ.out, by omega⟩
        simp [results, Tryd.results9, go_sem, *]
  · have hm : min (X.ln : Int) 6 = 6 := by omega
    have hm2 : min X.ln 6 = 6 := by omega
    have hmc : (6 : Int) ≤ (X.lc : Int) := by omega
    have hkn2 : ((X.ln : Int) < 6) = False := by simp; omega
    have hkn3 : ((X.ln : Int) ≤ 6) = False := by simp; omega
    obtain ⟨iP, hiP, hzP, hsP, hbP⟩ := slice_info
    obtain ⟨lA, hlA⟩ : ∃ A, X.lA = A := ⟨_, rfl⟩
    rw [hlA] at f1
    have HlA := Lib.hid hlA
    clear hlA
    go_wp2_with fail
    clear f0 f1 f2 f3 f4 k0 k1 k2 k3 k4 j0 j1 j2 j3 j4 m0 m1 m2 m3 m4
    go_loopw [3, 18] (fun lv iv wr => ∃ (i : Nat) (A : Option Addr) (c : Nat) (L : List PcT), i ≤ 6 ∧ iv = .int .i64 i ∧ lv = .slice A i c ∧ Hid (wr.ownsRow W3.heap.size 22 1 (.slice A i c) i (L.map PcT.val)) ∧ Hid (OwnR wr W3.heap.size L) ∧ Hid (L.map (·.l) = ((X.L.take i).map (·.l)).map (·.take 300)) ∧ Hid (∀ p ∈ L, p.n ≤ 300) ∧ Below W3.heap.size W3 wr) (fun _ iv _ => 6 - (intOf iv).toNat)
    case atStart => exact ⟨0, none, 0, [], Nat.zero_le _, rfl, rfl, Lib.hid (World.ownsRow_nil W3 W3.heap.size 22 1), Lib.hid (fun p hp => (List.not_mem_nil hp).elim), Lib.hid rfl, Lib.hid (fun p hp => (List.not_mem_nil hp).elim), Below.refl _ _⟩
    case round =>
      obtain ⟨i, A, c, L, hi, rfl, rfl, HA, HOL, HLL, HLN, hbr⟩ := hrel
      rename World => wr
      have hbw := hb.trans (hbr.mono hb.size)
      have hs3 := hbr.size
      by_cases hlt : i < 6
      · obtain ⟨b, off, p, hAp, _, hp, hc⟩ := pc_at (HL.out wr hbw).row (show i < X.ln by omega)
        obtain rfl : lA = some ⟨b, off, none⟩ := HlA.out.symm.trans hAp
        have hpo := (HL.out wr hbw).loose p (List.mem_of_getElem? hp)
        have hcp := few_own p 300 B wr hpo (Nat.le_trans hB hbw.size) (by omega)
        rw [show ((300 : Nat) : Int) = 300 from rfl] at hcp
        have hlt' : (i : Int) < (6 : Int) := by omega
        have hi0 : (0 : Int) ≤ (i : Int) := by omega
        have HP2 := Lib.hid (take_map hp)
        clear hpo hAp hp
        go_wp2_with fail
        refine hcp.mono ?_
        rintro e W5 ⟨A5, n5, c5, rfl, hO5, hb5⟩
        have hn5 : n5 ≤ 300 := by have := hO5.1; simp at this; omega
        clear hcp hc
        have hba := bel_alloc hb5 (.cells #[.slice A5 n5 c5] 22)
        have hn6 := own_later HA.out hba
        have HN6 := Lib.hid hn6
        have HOL6 := Lib.hid (OwnR.snoc (p := ⟨A5, n5, c5, p.l.take 300⟩) (HOL.out.later hba) (own_base (own_later hO5 (bel_alloc (Below.refl _ _) (.cells #[.slice A5 n5 c5] 22))) hs3))
        have hs6 := shows_new' W5 #[.slice A5 n5 c5] 22 1 1 rfl
        have hz6 : W3.heap.size ≤ (W5.alloc (.cells #[.slice A5 n5 c5] 22)).heap.size := Nat.le_trans hs3 hba.size
        have h63 : i + 1 ≤ maxLen := by unfold maxLen; omega
        have hbt : (i + 1) * 24 ≤ 140737488355328 := by omega
        have HX6 := Lib.hid (hbr.trans (hba.mono hs3))
        clear hO5 hb5 hba
        go_wp2_with (at_builtin; refine wpList_append_shows _ rfl _ _ 23 rfl W3.heap.size 22 iP (.slice none 0 0) 1 24 Tryd.underlying23 hiP hzP hsP hbP rfl (by decide) _ _ _ rfl hn6 _ _ 1 _ _ rfl hs6 (slice_one _ _ _) h63 hbt hz6 ?_; intro A7 c7 w7 hown7 hgrow7 hb7; have HO7 := Lib.hid hown7; have HOL7 := Lib.hid (OwnR.grown HOL6.out HN6.out hgrow7); clear hown7 hgrow7 hn6 hs6 h63 hbt hz6)
        go_roundw
        case rel => exact ⟨i + 1, A7, c7, L ++ [⟨A5, n5, c5, p.l.take 300⟩], by omega, by go_num, rfl, Lib.hid (by rw [List.map_append]; exact HO7.out), HOL7, Lib.hid (by rw [List.map_append, HLL.out, HP2.out, List.map_append]; rfl), Lib.hid (fun q hq => by
          rcases List.mem_append.1 hq with h | h
          · exact HLN.out q h
          · rw [List.mem_singleton.1 h]; exact hn5), HX6.out.trans hb7⟩
        case measure => simp [intOf]; omega
      · obtain rfl : 6 = i := by omega
        have HLL2 := Lib.hid (show L.map (·.l) = (X.s.loose.take 6).map (·.take 300) by
          show _ = ((X.L.map (·.l)).take 6).map (·.take 300)
          rw [← List.map_take]
          exact HLL.out)
        have HV := Lib.hid (HV.out.later hbr)
        have HR := Lib.hid (HR.out.later hbr)
        have HO1 := Lib.hid (own_later HO1.out hbr)
        clear HLL
        obtain ⟨⟨f0, f1, f2, f3, f4⟩, k0, k1, k2, k3, k4⟩ := HV.out
        obtain ⟨⟨j0, j1, j2, j3, j4⟩, m0, m1, m2, m3, m4⟩ := HR.out
        go_upto_region 9 with fail
        clear f0 f1 f2 f3 f4 k0 k1 k2 k3 k4 j0 j1 j2 j3 j4 m0 m1 m2 m3 m4
        have HV := Lib.hid (HV.out.set1 (.slice A 6 c))
        have HR := Lib.hid (HR.out.other (g := w.heap.size) (i := 1) (.slice A 6 c) (show w.heap.size + 1 ≠ w.heap.size by omega))
        have hb := Below.setCell hbw (p := ⟨w.heap.size, 1, none⟩) (Nat.le_refl w.heap.size) (.slice A 6 c)
        have q1 := own_base (ownsRow_setCell_below HO1.out (show (⟨w.heap.size, 1, none⟩ : Addr).block < _ by show w.heap.size < _; omega) (.slice A 6 c)) hn2
        have q2 := own_base (ownsRow_setCell_below HA.out (show (⟨w.heap.size, 1, none⟩ : Addr).block < _ by show w.heap.size < _; omega) (.slice A 6 c)) hn3
        have q3 := (OwnR.setBelow HOL.out (a := ⟨w.heap.size, 1, none⟩) (by show w.heap.size < _; omega) (.slice A 6 c)).base hn3
        generalize wr.setCell ⟨w.heap.size, 1, none⟩ (.slice A 6 c) = W8 at *
        obtain ⟨hL8, haw8⟩ := own_lie (p := ⟨A1, n1, c1, X.F.l.take 1000⟩) (of := X.off) q1 q2 q3 Hw.out.1 Hw.out.2
        have hbe := fbelow_set5 (a := .slice A1 n1 c1) (b := .slice A 6 c) (c := .int .i64 X.fuse) (d := .int .i64 X.fault) (e := .bool X.off) hb (show w.heap.size ≤ w.heap.size + 1 by omega)
        have hLe := Lib.hid (lie_res (a := .slice A1 n1 c1) (b := .slice A 6 c) (c := .int .i64 X.fuse) (d := .int .i64 X.fault) (e := .bool X.off) hL8 (haw8 (w.heap.size + 1) (by omega)))
        have HAw := Lib.hid (show ∀ g, g < w.heap.size → AwayF ⟨⟨A1, n1, c1, X.F.l.take 1000⟩, A, 6, c, L, X.fuse, X.fault, X.off⟩ g from fun g hg => haw8 g (by omega))
        have HS := Lib.hid (show FileT.s ⟨⟨A1, n1, c1, X.F.l.take 1000⟩, A, 6, c, L, X.fuse, X.fault, X.off⟩ = someS X.s by
          show FileS.mk (X.F.l.take 1000) (L.map (·.l)) X.fuse X.fault X.off = _
          rw [HLL2.out]
          rfl)
        have HQ := Lib.hid (show ∀ p ∈ FileT.Q ⟨⟨A1, n1, c1, X.F.l.take 1000⟩, A, 6, c, L, X.fuse, X.fault, X.off⟩, p.n ≤ 1000 by
          intro p hp
          rcases List.mem_cons.1 hp with h | h
          · rw [h]; exact hn1
          · have := HLN.out p h; omega)
        clear q1 q2 q3 hL8 haw8 hb hbw HA HOL HO1 HLL2 hbr
        obtain ⟨⟨f0, f1, f2, f3, f4⟩, k0, k1, k2, k3, k4⟩ := HV.out
        obtain ⟨⟨j0, j1, j2, j3, j4⟩, m0, m1, m2, m3, m4⟩ := HR.out
        go_wp2
        (try rw [Exit.noGoto_ret])
        refine bodyPost_ret (v := .agg #[.slice A1 n1 c1, .slice A 6 c, .int .i64 X.fuse, .int .i64 X.fault, .bool X.off]) ?_ rfl ⟨⟨⟨A1, n1, c1, X.F.l.take 1000⟩, A, 6, c, L, X.fuse, X.fault, X.off⟩, rfl, HS.out, hLe.out, hbe, HAw.out, HQ.out, by omega⟩
        simp [results, Tryd.results9, go_sem, *]
end Go.Proofs.YtghmehfmchadoaaDoor
