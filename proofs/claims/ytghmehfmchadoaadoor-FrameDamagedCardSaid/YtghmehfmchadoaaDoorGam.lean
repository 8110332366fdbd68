import Derived.Test.YtghmehfmchadoaaDoorGal
import Derived.Test.YtghmehfmchadoaaDoorGah
/-
  Layer 11: does the layer do anything?
-/
namespace Go.Proofs.YtghmehfmchadoaaDoor
open Go.RowKit
set_option linter.unusedVariables false

section
variable {P : Program} {w : World} {o : Oper} {a : Act} {K : Act → World → Prop} {Q : Exit → Act → World → Prop}
/-- 'make([]T, n)'. -/
theorem step_zeros (l c : Operand) (t : TypeId) (ho : o.op = .makeSlice t l c) (base : Nat) (e : TypeId) (i : TypeInfo) (z : Value) (ht : P.underlying t = some (.slice e)) (hi : P.info? e = some i) (hz : i.zero = some z) (hz1 : z.cells = #[z]) (h1 : i.size = 1) (hby : i.bytes = 1)
    (n : Nat) (hl : a.eval l = .int .i64 (n : Nat)) (hc : a.eval c = .int .i64 (n : Nat)) (hn : n ≤ 1000000) (hb : base ≤ w.heap.size)
    (h : ∀ g w', w'.ownsRow base e 1 (.slice (some ⟨g, 0, none⟩) n n) n (List.replicate n z) → Below w.heap.size w w' → K (a.put o.dst (.slice (some ⟨g, 0, none⟩) n n)) w') : o.wp P a w K Q := by
  have h0 := h w.heap.size (w.alloc (.cells (madeCells #[z] n) e)) (own_zeros w z n n hb (Nat.le_refl _) (by unfold maxLen; omega)) ((Below.refl _ _).alloc (Nat.le_refl _) _)
  have hrun := run_make_one (P := P) ht hi hz hz1 h1 .i64 .i64 (n : Int) (n : Int) (by omega) (by omega) (by rw [hby]; omega) (by omega) w
  rw [Int.toNat_natCast] at hrun
  unfold Oper.wp execOp
  simp only [ho, Sem.run_bind, Sem.run_pure, hl, hc, hrun, Result.andThen_ok]
  exact h0
end
theorem newF_away (g : Nat) : AwayF newF g := ⟨fun b off e hn => absurd hn (Nat.lt_irrefl 0), fun b off e hn => absurd hn (Nat.lt_irrefl 0), fun q hq => (List.not_mem_nil hq).elim⟩
/-- A calm file takes a record. -/
theorem putO_calm (fi : List UInt8) (lo : List (List UInt8)) (b : List UInt8) (h : (fi ++ lo.flatten).length + (Fra.pieceL (fi ++ lo.flatten) (Fra.encL b)).length ≤ 524288) :
    putO ⟨fi, lo, -1, -1, false⟩ (fi ++ lo.flatten).length b = (⟨fi, lo ++ [Fra.pieceL (fi ++ lo.flatten) (Fra.encL b)], -1, -1, false⟩, 0) := by
  have hask : FileS.asked ⟨fi, lo, -1, -1, false⟩ (fi ++ lo.flatten).length (Fra.pieceL (fi ++ lo.flatten) (Fra.encL b)).length = (⟨fi, lo, -1, -1, false⟩, 0) := by
    have h' : ¬ 524288 < (fi ++ lo.flatten).length + (Fra.pieceL (fi ++ lo.flatten) (Fra.encL b)).length := by omega
    unfold FileS.asked
    rw [if_neg (show ¬ (false = true) by decide), if_neg h', if_neg (show ¬ ((-1 : Int) = 0) by decide)]
    rfl
  unfold putO FileS.append
  rw [show FileS.all ⟨fi, lo, -1, -1, false⟩ = fi ++ lo.flatten from rfl, hask, if_pos rfl]
theorem putS (X : FileT) (p : PcT) (fi : List UInt8) (lo : List (List UInt8)) (w : World) (htab : Tab w) (hL : LieF w w.heap.size X) (hp : p.Ok w w.heap.size) (hs : X.s = ⟨fi, lo, -1, -1, false⟩) (hr : X.right = true) (hn : 1 ≤ p.n ∧ p.n ≤ 4096) (h : (fi ++ lo.flatten).length + (Fra.pieceL (fi ++ lo.flatten) (Fra.encL p.l)).length ≤ 524288) :
    Calls Tryd.prog 11 #[X.agg, .slice p.A p.n p.c] w (PutP X ⟨fi, lo ++ [Fra.pieceL (fi ++ lo.flatten) (Fra.encL p.l)], -1, -1, false⟩ (Fra.atN (fi ++ lo.flatten)) 0 w) := by
  have h1 := put_ok X p w.heap.size w htab hL hp (Nat.le_refl _) hr hn
  have e1 : X.all = fi ++ lo.flatten := by rw [← all_s, hs]; rfl
  have e2 : X.long = (fi ++ lo.flatten).length := by rw [(right_all hL hr).1, e1]
  rw [hs, e2, putO_calm fi lo p.l h, e1] at h1
  exact h1
theorem right_calm {X : FileT} {w : World} {B : Nat} {fi : List UInt8} {lo : List (List UInt8)} (hL : LieF w B X) (hs : X.s = ⟨fi, lo, -1, -1, false⟩) (hlo : ∀ l ∈ lo, l ≠ []) (h : (fi ++ lo.flatten).length ≤ 524288) : X.right = true := by
  rw [right_s hL, hs]
  exact rightS.2 ⟨hlo, by show (-1 : Int) ≤ -1; omega, by show (-1 : Int) ≤ -1; omega, (fun h => by cases h), h⟩
theorem getS (X : FileT) (a : Nat) (l : List UInt8) (R : Option (List UInt8 × Nat)) (w : World) (htab : Tab w) (hL : LieF w w.heap.size X) (hs : X.all = l) (hr : X.right = true) (ha : a < l.length) (ha64 : a % 64 ≠ 0) (hR : Fra.getL l a = R) :
    Calls Tryd.prog 20 #[X.agg, .int .i64 (a : Nat)] w (GetP R w) := by
  subst hs hR
  exact get_in X a w.heap.size w htab hL (Nat.le_refl _) hr ha ha64
def c1L : List UInt8 := Fra.pieceL [] (Fra.encL (List.replicate 60 0))
def c2L : List UInt8 := Fra.pieceL c1L (Fra.encL [7, 8, 9])
theorem c1_len : c1L.length = 68 := by decide +kernel
theorem c1_at : Fra.atN [] = 1 := by decide +kernel
theorem c2_at : Fra.atN c1L = 68 := by decide +kernel
theorem c12_len : (c1L ++ c2L).length = 77 := by decide +kernel
theorem c12_get : Fra.getL (c1L ++ c2L) 68 = some ([7, 8, 9], 77) := by decide +kernel
theorem c12_no : Fra.getL (c1L ++ c2L) 2 = none := by decide +kernel
def s1S : FileS := ⟨[], [c1L], -1, -1, false⟩
def s2S : FileS := ⟨[], [c1L, c2L], -1, -1, false⟩
set_option maxRecDepth 100000 in
set_option maxHeartbeats 4000000 in
theorem wakes_any (w : World) (htab : Tab w) :
    Calls Tryd.prog 8 #[] w fun e w' => e = .returned (.bool true) ∧ Below w.heap.size w w' := by
  obtain ⟨i0, hi, hz0, hz1, hz2⟩ := u8_info
  obtain ⟨iF, hiF, hzF⟩ := file_info
  have HP := Lib.hid (fun (W : World) (q : PcT) (h : Below w.heap.size w W) (hq : q.Ok W W.heap.size) (hn : q.n = 60) (hl : q.l = List.replicate 60 0) => show Calls Tryd.prog 11 #[newF.agg, .slice q.A q.n q.c] W (PutP newF s1S 1 0 W) from by
    have h1 := putS newF q [] [] W (htab.below h htab.lt) (newF_lies W) hq rfl (by kernel_rfl) (by omega) (by rw [hl]; show 0 + c1L.length ≤ _; rw [c1_len]; omega)
    rw [hl] at h1
    exact h1)
  simp only [newF, FileT.agg, PcT.val] at HP
  go_enter Tryd.func8, Tryd.ntmps8
  go_upto_region 1 with fail
  go_cut [1, 2, 3] (fun s1 s2 s3 wx => ∃ (g1 : Nat) (Y : FileT), s1 = .pointer (some ⟨g1, 0, none⟩) ∧ s2 = .int .i64 1 ∧ s3 = .int .i64 0 ∧ Hid (FAt wx g1 Y) ∧ Y.s = s1S ∧ Below w.heap.size w wx ∧ w.heap.size ≤ g1 ∧ g1 < wx.heap.size)
  case first =>
    refine wp_region_held_drew (S := fun W => Below w.heap.size w W) (by kernel_rfl) (below_drewN (Below.refl _ _) 1) (fun hHeld => ?_)
    refine wpAnyH_ready (rs := [0, 1, 7]) (by kernel_rfl) (by simp) ?_
    refine rg_cons rfl (by rfl) (fun K hK => ?_) ?_
    · go_simp
      (go_at_call 28; (with_reducible refine (newF_any _).mono ?_); (rintro e w100 ⟨rfl, hb0⟩))
      refine hK.out _ _ (S_call hb0 hHeld rfl) (fun hHeld => ?_)
      clear hK K
      (try simp only [Act.put, List.setIfInBounds_toArray, List.set_cons_zero, List.set_cons_succ])
      refine wpAnyH_ready (rs := [1, 7]) (by kernel_rfl) (by simp) ?_
      refine rg_cons rfl (by rfl) (fun K hK => ?_) ?_
      · have hgw1 := hHeld.size
        refine step_zeros (.const (.int .i64 60)) (.const (.int .i64 60)) 22 rfl w.heap.size 5 i0 (.int .u8 0) Tryd.underlying22 hi hz0 rfl hz1 hz2 60 rfl rfl (by omega) hgw1 ?_
        intro g101 w101 own101 hb1
        refine hK.out _ _ (S_call hb1 hHeld rfl) (fun hHeld => ?_)
        clear hK K
        (try simp only [Act.put, List.setIfInBounds_toArray, List.set_cons_zero, List.set_cons_succ])
        refine wpAnyH_ready (rs := [2, 7]) (by kernel_rfl) (by simp) ?_
        refine rg_cons rfl (by rfl) (fun K hK => ?_) ?_
        · have hgw2 := hHeld.size
          have own102 := own_later own101 (Below.refl _ _)
          have hpq : PcT.Ok _ _ ⟨some ⟨g101, 0, none⟩, 60, 60, List.replicate 60 0⟩ := ⟨Bytes.own own102, nofun, Nat.le_refl _, by unfold maxLen; show 60 ≤ _; omega⟩
          go_simp
          (go_at_call 11; (with_reducible refine (HP.out _ _ hHeld hpq rfl rfl).mono ?_); (rintro e w102 ⟨Y, rfl, hYs, hYL, hb2, hYa⟩))
          simp only [FileT.agg, PcT.val]
          refine hK.out _ _ (S_call hb2 hHeld rfl) (fun hHeld => ?_)
          clear hK K
          (try simp only [Act.put, List.setIfInBounds_toArray, List.set_cons_zero, List.set_cons_succ])
          refine rg_in 3 rfl (by kernel_rfl) (by kernel_rfl) (by kernel_rfl) (by rfl) (v := ?_) (fun _ _ _ h => h) hHeld (fun w hSw => ?_) ?_
          rotate_left
          · (try dsimp only at hSw); go_simp <;> (with_reducible rfl)
          (try simp only [Act.put, List.setIfInBounds_toArray, List.set_cons_zero, List.set_cons_succ])
          refine rg_in 4 rfl (by kernel_rfl) (by kernel_rfl) (by kernel_rfl) (by rfl) (v := ?_) (fun _ _ _ h => h) hHeld (fun w hSw => ?_) ?_
          rotate_left
          · (try dsimp only at hSw); go_simp <;> (with_reducible rfl)
          (try simp only [Act.put, List.setIfInBounds_toArray, List.set_cons_zero, List.set_cons_succ])
          refine rg_in 5 rfl (by kernel_rfl) (by kernel_rfl) (by kernel_rfl) (by rfl) (v := ?_) (fun _ _ _ h => h) hHeld (fun w hSw => ?_) ?_
          rotate_left
          · (try dsimp only at hSw); go_simp <;> (with_reducible rfl)
          (try simp only [Act.put, List.setIfInBounds_toArray, List.set_cons_zero, List.set_cons_succ])
          refine rg_in 6 rfl (by kernel_rfl) (by kernel_rfl) (by kernel_rfl) (by rfl) (v := ?_) (fun _ _ _ h => h) hHeld (fun w hSw => ?_) ?_
          rotate_left
          · (try dsimp only at hSw); go_simp <;> (with_reducible rfl)
          (try simp only [Act.put, List.setIfInBounds_toArray, List.set_cons_zero, List.set_cons_succ])
          refine rg_do 7 rfl (by kernel_rfl) (by rfl) (fun K hK => ?_)
          have hgw7 := hHeld.size
          refine step_alloc 25 rfl iF _ hiF hzF ?_
          intro g107 w107 hge7 hbox7 hb7
          refine hK.out _ _ (S_call hb7 hHeld rfl) (fun hHeld => ?_)
          clear hK K
          (try simp only [Act.put, List.setIfInBounds_toArray, List.set_cons_zero, List.set_cons_succ])
          refine rg_do 8 rfl (by kernel_rfl) (by rfl) (fun K hK => ?_)
          have hV7 := Lib.hid (FVar.later (fvar_blk hbox7) (Below.refl _ _))
          have hLY := Lib.hid ((hYL.later hb7).more (Below.size hb7))
          have q0 := hV7.out.1.1
          have q1 := hV7.out.1.2.1
          have q2 := hV7.out.1.2.2.1
          have q3 := hV7.out.1.2.2.2.1
          have q4 := hV7.out.1.2.2.2.2
          have p0 := hV7.out.2.1
          have p1 := hV7.out.2.2.1
          have p2 := hV7.out.2.2.2.1
          have p3 := hV7.out.2.2.2.2.1
          have p4 := hV7.out.2.2.2.2.2
          go_simp
          clear q0 q1 q2 q3 q4 p0 p1 p2 p3 p4
          refine hK.out _ _ (fbelow_set5 hHeld (show w.heap.size ≤ g107 by (have := hge7; omega))) (fun hHeld => ?_)
          clear hK K
          (try simp only [Act.put, List.setIfInBounds_toArray, List.set_cons_zero, List.set_cons_succ])
          refine rg_in 9 rfl (by kernel_rfl) (by kernel_rfl) (by kernel_rfl) (by rfl) (v := ?_) (fun _ _ _ h => h) hHeld (fun w hSw => ?_) ?_
          rotate_left
          · (try dsimp only at hSw); go_simp <;> (with_reducible rfl)
          (try simp only [Act.put, List.setIfInBounds_toArray, List.set_cons_zero, List.set_cons_succ])
          refine rg_in 10 rfl (by kernel_rfl) (by kernel_rfl) (by kernel_rfl) (by rfl) (v := ?_) (fun _ _ _ h => h) hHeld (fun w hSw => ?_) ?_
          rotate_left
          · (try dsimp only at hSw); go_simp <;> (with_reducible rfl)
          (try simp only [Act.put, List.setIfInBounds_toArray, List.set_cons_zero, List.set_cons_succ])
          refine wpAnyH_done (by kernel_rfl) ?_ _
          have ay : AwayF Y g107 := by have l7 := blk_lt hbox7; have z0 := hb0.size; have z1 := hb1.size; have z2 := hb2.size; have z7 := hb7.size; exact hYL.away (by omega)
          have hfa := FAt.set hV7.out hLY.out ay
          have hbX := hHeld
          have hgl := hfa.v.1.1
          have hlt := World.block_lt_of_cell? _ _ hgl
          clear hHeld hgl
          unfold set5F at hfa hlt
          go_wp2
          go_meet
          case rel => exact ⟨g107, Y, rfl, rfl, rfl, Lib.hid hfa, hYs, hbX, by have := hge7; omega, hlt⟩
        refine rg_cons rfl (by rfl) (fun K hK => ?_) ?_
        · have hgw7 := hHeld.size
          refine step_alloc 25 rfl iF _ hiF hzF ?_
          intro g107 w107 hge7 hbox7 hb7
          refine hK.out _ _ (S_call hb7 hHeld rfl) (fun hHeld => ?_)
          clear hK K
          (try simp only [Act.put, List.setIfInBounds_toArray, List.set_cons_zero, List.set_cons_succ])
          refine rg_do 2 rfl (by kernel_rfl) (by rfl) (fun K hK => ?_)
          have hgw2 := hHeld.size
          have own102 := own_later own101 hb7
          have hpq : PcT.Ok _ _ ⟨some ⟨g101, 0, none⟩, 60, 60, List.replicate 60 0⟩ := ⟨Bytes.own own102, nofun, Nat.le_refl _, by unfold maxLen; show 60 ≤ _; omega⟩
          go_simp
          (go_at_call 11; (with_reducible refine (HP.out _ _ hHeld hpq rfl rfl).mono ?_); (rintro e w102 ⟨Y, rfl, hYs, hYL, hb2, hYa⟩))
          simp only [FileT.agg, PcT.val]
          refine hK.out _ _ (S_call hb2 hHeld rfl) (fun hHeld => ?_)
          clear hK K
          (try simp only [Act.put, List.setIfInBounds_toArray, List.set_cons_zero, List.set_cons_succ])
          refine rg_in 3 rfl (by kernel_rfl) (by kernel_rfl) (by kernel_rfl) (by rfl) (v := ?_) (fun _ _ _ h => h) hHeld (fun w hSw => ?_) ?_
          rotate_left
          · (try dsimp only at hSw); go_simp <;> (with_reducible rfl)
          (try simp only [Act.put, List.setIfInBounds_toArray, List.set_cons_zero, List.set_cons_succ])
          refine rg_in 4 rfl (by kernel_rfl) (by kernel_rfl) (by kernel_rfl) (by rfl) (v := ?_) (fun _ _ _ h => h) hHeld (fun w hSw => ?_) ?_
          rotate_left
          · (try dsimp only at hSw); go_simp <;> (with_reducible rfl)
          (try simp only [Act.put, List.setIfInBounds_toArray, List.set_cons_zero, List.set_cons_succ])
          refine rg_in 5 rfl (by kernel_rfl) (by kernel_rfl) (by kernel_rfl) (by rfl) (v := ?_) (fun _ _ _ h => h) hHeld (fun w hSw => ?_) ?_
          rotate_left
          · (try dsimp only at hSw); go_simp <;> (with_reducible rfl)
          (try simp only [Act.put, List.setIfInBounds_toArray, List.set_cons_zero, List.set_cons_succ])
          refine rg_in 6 rfl (by kernel_rfl) (by kernel_rfl) (by kernel_rfl) (by rfl) (v := ?_) (fun _ _ _ h => h) hHeld (fun w hSw => ?_) ?_
          rotate_left
          · (try dsimp only at hSw); go_simp <;> (with_reducible rfl)
          (try simp only [Act.put, List.setIfInBounds_toArray, List.set_cons_zero, List.set_cons_succ])
          refine rg_do 8 rfl (by kernel_rfl) (by rfl) (fun K hK => ?_)
          have hV7 := Lib.hid (FVar.later (fvar_blk hbox7) hb2)
          have hLY := Lib.hid hYL
          have q0 := hV7.out.1.1
          have q1 := hV7.out.1.2.1
          have q2 := hV7.out.1.2.2.1
          have q3 := hV7.out.1.2.2.2.1
          have q4 := hV7.out.1.2.2.2.2
          have p0 := hV7.out.2.1
          have p1 := hV7.out.2.2.1
          have p2 := hV7.out.2.2.2.1
          have p3 := hV7.out.2.2.2.2.1
          have p4 := hV7.out.2.2.2.2.2
          go_simp
          clear q0 q1 q2 q3 q4 p0 p1 p2 p3 p4
          refine hK.out _ _ (fbelow_set5 hHeld (show w.heap.size ≤ g107 by (have := hge7; omega))) (fun hHeld => ?_)
          clear hK K
          (try simp only [Act.put, List.setIfInBounds_toArray, List.set_cons_zero, List.set_cons_succ])
          refine rg_in 9 rfl (by kernel_rfl) (by kernel_rfl) (by kernel_rfl) (by rfl) (v := ?_) (fun _ _ _ h => h) hHeld (fun w hSw => ?_) ?_
          rotate_left
          · (try dsimp only at hSw); go_simp <;> (with_reducible rfl)
          (try simp only [Act.put, List.setIfInBounds_toArray, List.set_cons_zero, List.set_cons_succ])
          refine rg_in 10 rfl (by kernel_rfl) (by kernel_rfl) (by kernel_rfl) (by rfl) (v := ?_) (fun _ _ _ h => h) hHeld (fun w hSw => ?_) ?_
          rotate_left
          · (try dsimp only at hSw); go_simp <;> (with_reducible rfl)
          (try simp only [Act.put, List.setIfInBounds_toArray, List.set_cons_zero, List.set_cons_succ])
          refine wpAnyH_done (by kernel_rfl) ?_ _
          have ay : AwayF Y g107 := by have l7 := blk_lt hbox7; have z0 := hb0.size; have z1 := hb1.size; have z2 := hb2.size; have z7 := hb7.size; exact hYa _ (by omega) (newF_away _)
          have hfa := FAt.set hV7.out hLY.out ay
          have hbX := hHeld
          have hgl := hfa.v.1.1
          have hlt := World.block_lt_of_cell? _ _ hgl
          clear hHeld hgl
          unfold set5F at hfa hlt
          go_wp2
          go_meet
          case rel => exact ⟨g107, Y, rfl, rfl, rfl, Lib.hid hfa, hYs, hbX, by have := hge7; omega, hlt⟩
        exact AllReadyH.nil
      refine rg_cons rfl (by rfl) (fun K hK => ?_) ?_
      · have hgw7 := hHeld.size
        refine step_alloc 25 rfl iF _ hiF hzF ?_
        intro g107 w107 hge7 hbox7 hb7
        refine hK.out _ _ (S_call hb7 hHeld rfl) (fun hHeld => ?_)
        clear hK K
        (try simp only [Act.put, List.setIfInBounds_toArray, List.set_cons_zero, List.set_cons_succ])
        refine rg_do 1 rfl (by kernel_rfl) (by rfl) (fun K hK => ?_)
        have hgw1 := hHeld.size
        refine step_zeros (.const (.int .i64 60)) (.const (.int .i64 60)) 22 rfl w.heap.size 5 i0 (.int .u8 0) Tryd.underlying22 hi hz0 rfl hz1 hz2 60 rfl rfl (by omega) hgw1 ?_
        intro g101 w101 own101 hb1
        refine hK.out _ _ (S_call hb1 hHeld rfl) (fun hHeld => ?_)
        clear hK K
        (try simp only [Act.put, List.setIfInBounds_toArray, List.set_cons_zero, List.set_cons_succ])
        refine rg_do 2 rfl (by kernel_rfl) (by rfl) (fun K hK => ?_)
        have hgw2 := hHeld.size
        have own102 := own_later own101 (Below.refl _ _)
        have hpq : PcT.Ok _ _ ⟨some ⟨g101, 0, none⟩, 60, 60, List.replicate 60 0⟩ := ⟨Bytes.own own102, nofun, Nat.le_refl _, by unfold maxLen; show 60 ≤ _; omega⟩
        go_simp
        (go_at_call 11; (with_reducible refine (HP.out _ _ hHeld hpq rfl rfl).mono ?_); (rintro e w102 ⟨Y, rfl, hYs, hYL, hb2, hYa⟩))
        simp only [FileT.agg, PcT.val]
        refine hK.out _ _ (S_call hb2 hHeld rfl) (fun hHeld => ?_)
        clear hK K
        (try simp only [Act.put, List.setIfInBounds_toArray, List.set_cons_zero, List.set_cons_succ])
        refine rg_in 3 rfl (by kernel_rfl) (by kernel_rfl) (by kernel_rfl) (by rfl) (v := ?_) (fun _ _ _ h => h) hHeld (fun w hSw => ?_) ?_
        rotate_left
        · (try dsimp only at hSw); go_simp <;> (with_reducible rfl)
        (try simp only [Act.put, List.setIfInBounds_toArray, List.set_cons_zero, List.set_cons_succ])
        refine rg_in 4 rfl (by kernel_rfl) (by kernel_rfl) (by kernel_rfl) (by rfl) (v := ?_) (fun _ _ _ h => h) hHeld (fun w hSw => ?_) ?_
        rotate_left
        · (try dsimp only at hSw); go_simp <;> (with_reducible rfl)
        (try simp only [Act.put, List.setIfInBounds_toArray, List.set_cons_zero, List.set_cons_succ])
        refine rg_in 5 rfl (by kernel_rfl) (by kernel_rfl) (by kernel_rfl) (by rfl) (v := ?_) (fun _ _ _ h => h) hHeld (fun w hSw => ?_) ?_
        rotate_left
        · (try dsimp only at hSw); go_simp <;> (with_reducible rfl)
        (try simp only [Act.put, List.setIfInBounds_toArray, List.set_cons_zero, List.set_cons_succ])
        refine rg_in 6 rfl (by kernel_rfl) (by kernel_rfl) (by kernel_rfl) (by rfl) (v := ?_) (fun _ _ _ h => h) hHeld (fun w hSw => ?_) ?_
        rotate_left
        · (try dsimp only at hSw); go_simp <;> (with_reducible rfl)
        (try simp only [Act.put, List.setIfInBounds_toArray, List.set_cons_zero, List.set_cons_succ])
        refine rg_do 8 rfl (by kernel_rfl) (by rfl) (fun K hK => ?_)
        have hV7 := Lib.hid (FVar.later (fvar_blk hbox7) (bel_next hb1 hb2))
        have hLY := Lib.hid hYL
        have q0 := hV7.out.1.1
        have q1 := hV7.out.1.2.1
        have q2 := hV7.out.1.2.2.1
        have q3 := hV7.out.1.2.2.2.1
        have q4 := hV7.out.1.2.2.2.2
        have p0 := hV7.out.2.1
        have p1 := hV7.out.2.2.1
        have p2 := hV7.out.2.2.2.1
        have p3 := hV7.out.2.2.2.2.1
        have p4 := hV7.out.2.2.2.2.2
        go_simp
        clear q0 q1 q2 q3 q4 p0 p1 p2 p3 p4
        refine hK.out _ _ (fbelow_set5 hHeld (show w.heap.size ≤ g107 by (have := hge7; omega))) (fun hHeld => ?_)
        clear hK K
        (try simp only [Act.put, List.setIfInBounds_toArray, List.set_cons_zero, List.set_cons_succ])
        refine rg_in 9 rfl (by kernel_rfl) (by kernel_rfl) (by kernel_rfl) (by rfl) (v := ?_) (fun _ _ _ h => h) hHeld (fun w hSw => ?_) ?_
        rotate_left
        · (try dsimp only at hSw); go_simp <;> (with_reducible rfl)
        (try simp only [Act.put, List.setIfInBounds_toArray, List.set_cons_zero, List.set_cons_succ])
        refine rg_in 10 rfl (by kernel_rfl) (by kernel_rfl) (by kernel_rfl) (by rfl) (v := ?_) (fun _ _ _ h => h) hHeld (fun w hSw => ?_) ?_
        rotate_left
        · (try dsimp only at hSw); go_simp <;> (with_reducible rfl)
        (try simp only [Act.put, List.setIfInBounds_toArray, List.set_cons_zero, List.set_cons_succ])
        refine wpAnyH_done (by kernel_rfl) ?_ _
        have ay : AwayF Y g107 := by have l7 := blk_lt hbox7; have z0 := hb0.size; have z1 := hb1.size; have z2 := hb2.size; have z7 := hb7.size; exact hYa _ (by omega) (newF_away _)
        have hfa := FAt.set hV7.out hLY.out ay
        have hbX := hHeld
        have hgl := hfa.v.1.1
        have hlt := World.block_lt_of_cell? _ _ hgl
        clear hHeld hgl
        unfold set5F at hfa hlt
        go_wp2
        go_meet
        case rel => exact ⟨g107, Y, rfl, rfl, rfl, Lib.hid hfa, hYs, hbX, by have := hge7; omega, hlt⟩
      exact AllReadyH.nil
    refine rg_cons rfl (by rfl) (fun K hK => ?_) ?_
    · have hgw1 := hHeld.size
      refine step_zeros (.const (.int .i64 60)) (.const (.int .i64 60)) 22 rfl w.heap.size 5 i0 (.int .u8 0) Tryd.underlying22 hi hz0 rfl hz1 hz2 60 rfl rfl (by omega) hgw1 ?_
      intro g101 w101 own101 hb1
      refine hK.out _ _ (S_call hb1 hHeld rfl) (fun hHeld => ?_)
      clear hK K
      (try simp only [Act.put, List.setIfInBounds_toArray, List.set_cons_zero, List.set_cons_succ])
      refine wpAnyH_ready (rs := [0, 7]) (by kernel_rfl) (by simp) ?_
      refine rg_cons rfl (by rfl) (fun K hK => ?_) ?_
      · go_simp
        (go_at_call 28; (with_reducible refine (newF_any _).mono ?_); (rintro e w100 ⟨rfl, hb0⟩))
        refine hK.out _ _ (S_call hb0 hHeld rfl) (fun hHeld => ?_)
        clear hK K
        (try simp only [Act.put, List.setIfInBounds_toArray, List.set_cons_zero, List.set_cons_succ])
        refine wpAnyH_ready (rs := [2, 7]) (by kernel_rfl) (by simp) ?_
        refine rg_cons rfl (by rfl) (fun K hK => ?_) ?_
        · have hgw2 := hHeld.size
          have own102 := own_later own101 hb0
          have hpq : PcT.Ok _ _ ⟨some ⟨g101, 0, none⟩, 60, 60, List.replicate 60 0⟩ := ⟨Bytes.own own102, nofun, Nat.le_refl _, by unfold maxLen; show 60 ≤ _; omega⟩
          go_simp
          (go_at_call 11; (with_reducible refine (HP.out _ _ hHeld hpq rfl rfl).mono ?_); (rintro e w102 ⟨Y, rfl, hYs, hYL, hb2, hYa⟩))
          simp only [FileT.agg, PcT.val]
          refine hK.out _ _ (S_call hb2 hHeld rfl) (fun hHeld => ?_)
          clear hK K
          (try simp only [Act.put, List.setIfInBounds_toArray, List.set_cons_zero, List.set_cons_succ])
          refine rg_in 3 rfl (by kernel_rfl) (by kernel_rfl) (by kernel_rfl) (by rfl) (v := ?_) (fun _ _ _ h => h) hHeld (fun w hSw => ?_) ?_
          rotate_left
          · (try dsimp only at hSw); go_simp <;> (with_reducible rfl)
          (try simp only [Act.put, List.setIfInBounds_toArray, List.set_cons_zero, List.set_cons_succ])
          refine rg_in 4 rfl (by kernel_rfl) (by kernel_rfl) (by kernel_rfl) (by rfl) (v := ?_) (fun _ _ _ h => h) hHeld (fun w hSw => ?_) ?_
          rotate_left
          · (try dsimp only at hSw); go_simp <;> (with_reducible rfl)
          (try simp only [Act.put, List.setIfInBounds_toArray, List.set_cons_zero, List.set_cons_succ])
          refine rg_in 5 rfl (by kernel_rfl) (by kernel_rfl) (by kernel_rfl) (by rfl) (v := ?_) (fun _ _ _ h => h) hHeld (fun w hSw => ?_) ?_
          rotate_left
          · (try dsimp only at hSw); go_simp <;> (with_reducible rfl)
          (try simp only [Act.put, List.setIfInBounds_toArray, List.set_cons_zero, List.set_cons_succ])
          refine rg_in 6 rfl (by kernel_rfl) (by kernel_rfl) (by kernel_rfl) (by rfl) (v := ?_) (fun _ _ _ h => h) hHeld (fun w hSw => ?_) ?_
          rotate_left
          · (try dsimp only at hSw); go_simp <;> (with_reducible rfl)
          (try simp only [Act.put, List.setIfInBounds_toArray, List.set_cons_zero, List.set_cons_succ])
          refine rg_do 7 rfl (by kernel_rfl) (by rfl) (fun K hK => ?_)
          have hgw7 := hHeld.size
          refine step_alloc 25 rfl iF _ hiF hzF ?_
          intro g107 w107 hge7 hbox7 hb7
          refine hK.out _ _ (S_call hb7 hHeld rfl) (fun hHeld => ?_)
          clear hK K
          (try simp only [Act.put, List.setIfInBounds_toArray, List.set_cons_zero, List.set_cons_succ])
          refine rg_do 8 rfl (by kernel_rfl) (by rfl) (fun K hK => ?_)
          have hV7 := Lib.hid (FVar.later (fvar_blk hbox7) (Below.refl _ _))
          have hLY := Lib.hid ((hYL.later hb7).more (Below.size hb7))
          have q0 := hV7.out.1.1
          have q1 := hV7.out.1.2.1
          have q2 := hV7.out.1.2.2.1
          have q3 := hV7.out.1.2.2.2.1
          have q4 := hV7.out.1.2.2.2.2
          have p0 := hV7.out.2.1
          have p1 := hV7.out.2.2.1
          have p2 := hV7.out.2.2.2.1
          have p3 := hV7.out.2.2.2.2.1
          have p4 := hV7.out.2.2.2.2.2
          go_simp
          clear q0 q1 q2 q3 q4 p0 p1 p2 p3 p4
          refine hK.out _ _ (fbelow_set5 hHeld (show w.heap.size ≤ g107 by (have := hge7; omega))) (fun hHeld => ?_)
          clear hK K
          (try simp only [Act.put, List.setIfInBounds_toArray, List.set_cons_zero, List.set_cons_succ])
          refine rg_in 9 rfl (by kernel_rfl) (by kernel_rfl) (by kernel_rfl) (by rfl) (v := ?_) (fun _ _ _ h => h) hHeld (fun w hSw => ?_) ?_
          rotate_left
          · (try dsimp only at hSw); go_simp <;> (with_reducible rfl)
          (try simp only [Act.put, List.setIfInBounds_toArray, List.set_cons_zero, List.set_cons_succ])
          refine rg_in 10 rfl (by kernel_rfl) (by kernel_rfl) (by kernel_rfl) (by rfl) (v := ?_) (fun _ _ _ h => h) hHeld (fun w hSw => ?_) ?_
          rotate_left
          · (try dsimp only at hSw); go_simp <;> (with_reducible rfl)
          (try simp only [Act.put, List.setIfInBounds_toArray, List.set_cons_zero, List.set_cons_succ])
          refine wpAnyH_done (by kernel_rfl) ?_ _
          have ay : AwayF Y g107 := by have l7 := blk_lt hbox7; have z0 := hb0.size; have z1 := hb1.size; have z2 := hb2.size; have z7 := hb7.size; exact hYL.away (by omega)
          have hfa := FAt.set hV7.out hLY.out ay
          have hbX := hHeld
          have hgl := hfa.v.1.1
          have hlt := World.block_lt_of_cell? _ _ hgl
          clear hHeld hgl
          unfold set5F at hfa hlt
          go_wp2
          go_meet
          case rel => exact ⟨g107, Y, rfl, rfl, rfl, Lib.hid hfa, hYs, hbX, by have := hge7; omega, hlt⟩
        refine rg_cons rfl (by rfl) (fun K hK => ?_) ?_
        · have hgw7 := hHeld.size
          refine step_alloc 25 rfl iF _ hiF hzF ?_
          intro g107 w107 hge7 hbox7 hb7
          refine hK.out _ _ (S_call hb7 hHeld rfl) (fun hHeld => ?_)
          clear hK K
          (try simp only [Act.put, List.setIfInBounds_toArray, List.set_cons_zero, List.set_cons_succ])
          refine rg_do 2 rfl (by kernel_rfl) (by rfl) (fun K hK => ?_)
          have hgw2 := hHeld.size
          have own102 := own_later own101 (bel_next hb0 hb7)
          have hpq : PcT.Ok _ _ ⟨some ⟨g101, 0, none⟩, 60, 60, List.replicate 60 0⟩ := ⟨Bytes.own own102, nofun, Nat.le_refl _, by unfold maxLen; show 60 ≤ _; omega⟩
          go_simp
          (go_at_call 11; (with_reducible refine (HP.out _ _ hHeld hpq rfl rfl).mono ?_); (rintro e w102 ⟨Y, rfl, hYs, hYL, hb2, hYa⟩))
          simp only [FileT.agg, PcT.val]
          refine hK.out _ _ (S_call hb2 hHeld rfl) (fun hHeld => ?_)
          clear hK K
          (try simp only [Act.put, List.setIfInBounds_toArray, List.set_cons_zero, List.set_cons_succ])
          refine rg_in 3 rfl (by kernel_rfl) (by kernel_rfl) (by kernel_rfl) (by rfl) (v := ?_) (fun _ _ _ h => h) hHeld (fun w hSw => ?_) ?_
          rotate_left
          · (try dsimp only at hSw); go_simp <;> (with_reducible rfl)
          (try simp only [Act.put, List.setIfInBounds_toArray, List.set_cons_zero, List.set_cons_succ])
          refine rg_in 4 rfl (by kernel_rfl) (by kernel_rfl) (by kernel_rfl) (by rfl) (v := ?_) (fun _ _ _ h => h) hHeld (fun w hSw => ?_) ?_
          rotate_left
          · (try dsimp only at hSw); go_simp <;> (with_reducible rfl)
          (try simp only [Act.put, List.setIfInBounds_toArray, List.set_cons_zero, List.set_cons_succ])
          refine rg_in 5 rfl (by kernel_rfl) (by kernel_rfl) (by kernel_rfl) (by rfl) (v := ?_) (fun _ _ _ h => h) hHeld (fun w hSw => ?_) ?_
          rotate_left
          · (try dsimp only at hSw); go_simp <;> (with_reducible rfl)
          (try simp only [Act.put, List.setIfInBounds_toArray, List.set_cons_zero, List.set_cons_succ])
          refine rg_in 6 rfl (by kernel_rfl) (by kernel_rfl) (by kernel_rfl) (by rfl) (v := ?_) (fun _ _ _ h => h) hHeld (fun w hSw => ?_) ?_
          rotate_left
          · (try dsimp only at hSw); go_simp <;> (with_reducible rfl)
          (try simp only [Act.put, List.setIfInBounds_toArray, List.set_cons_zero, List.set_cons_succ])
          refine rg_do 8 rfl (by kernel_rfl) (by rfl) (fun K hK => ?_)
          have hV7 := Lib.hid (FVar.later (fvar_blk hbox7) hb2)
          have hLY := Lib.hid hYL
          have q0 := hV7.out.1.1
          have q1 := hV7.out.1.2.1
          have q2 := hV7.out.1.2.2.1
          have q3 := hV7.out.1.2.2.2.1
          have q4 := hV7.out.1.2.2.2.2
          have p0 := hV7.out.2.1
          have p1 := hV7.out.2.2.1
          have p2 := hV7.out.2.2.2.1
          have p3 := hV7.out.2.2.2.2.1
          have p4 := hV7.out.2.2.2.2.2
          go_simp
          clear q0 q1 q2 q3 q4 p0 p1 p2 p3 p4
          refine hK.out _ _ (fbelow_set5 hHeld (show w.heap.size ≤ g107 by (have := hge7; omega))) (fun hHeld => ?_)
          clear hK K
          (try simp only [Act.put, List.setIfInBounds_toArray, List.set_cons_zero, List.set_cons_succ])
          refine rg_in 9 rfl (by kernel_rfl) (by kernel_rfl) (by kernel_rfl) (by rfl) (v := ?_) (fun _ _ _ h => h) hHeld (fun w hSw => ?_) ?_
          rotate_left
          · (try dsimp only at hSw); go_simp <;> (with_reducible rfl)
          (try simp only [Act.put, List.setIfInBounds_toArray, List.set_cons_zero, List.set_cons_succ])
          refine rg_in 10 rfl (by kernel_rfl) (by kernel_rfl) (by kernel_rfl) (by rfl) (v := ?_) (fun _ _ _ h => h) hHeld (fun w hSw => ?_) ?_
          rotate_left
          · (try dsimp only at hSw); go_simp <;> (with_reducible rfl)
          (try simp only [Act.put, List.setIfInBounds_toArray, List.set_cons_zero, List.set_cons_succ])
          refine wpAnyH_done (by kernel_rfl) ?_ _
          have ay : AwayF Y g107 := by have l7 := blk_lt hbox7; have z0 := hb0.size; have z1 := hb1.size; have z2 := hb2.size; have z7 := hb7.size; exact hYa _ (by omega) (newF_away _)
          have hfa := FAt.set hV7.out hLY.out ay
          have hbX := hHeld
          have hgl := hfa.v.1.1
          have hlt := World.block_lt_of_cell? _ _ hgl
          clear hHeld hgl
          unfold set5F at hfa hlt
          go_wp2
          go_meet
          case rel => exact ⟨g107, Y, rfl, rfl, rfl, Lib.hid hfa, hYs, hbX, by have := hge7; omega, hlt⟩
        exact AllReadyH.nil
      refine rg_cons rfl (by rfl) (fun K hK => ?_) ?_
      · have hgw7 := hHeld.size
        refine step_alloc 25 rfl iF _ hiF hzF ?_
        intro g107 w107 hge7 hbox7 hb7
        refine hK.out _ _ (S_call hb7 hHeld rfl) (fun hHeld => ?_)
        clear hK K
        (try simp only [Act.put, List.setIfInBounds_toArray, List.set_cons_zero, List.set_cons_succ])
        refine rg_do 0 rfl (by kernel_rfl) (by rfl) (fun K hK => ?_)
        go_simp
        (go_at_call 28; (with_reducible refine (newF_any _).mono ?_); (rintro e w100 ⟨rfl, hb0⟩))
        refine hK.out _ _ (S_call hb0 hHeld rfl) (fun hHeld => ?_)
        clear hK K
        (try simp only [Act.put, List.setIfInBounds_toArray, List.set_cons_zero, List.set_cons_succ])
        refine rg_do 2 rfl (by kernel_rfl) (by rfl) (fun K hK => ?_)
        have hgw2 := hHeld.size
        have own102 := own_later own101 (bel_next hb7 hb0)
        have hpq : PcT.Ok _ _ ⟨some ⟨g101, 0, none⟩, 60, 60, List.replicate 60 0⟩ := ⟨Bytes.own own102, nofun, Nat.le_refl _, by unfold maxLen; show 60 ≤ _; omega⟩
        go_simp
        (go_at_call 11; (with_reducible refine (HP.out _ _ hHeld hpq rfl rfl).mono ?_); (rintro e w102 ⟨Y, rfl, hYs, hYL, hb2, hYa⟩))
        simp only [FileT.agg, PcT.val]
        refine hK.out _ _ (S_call hb2 hHeld rfl) (fun hHeld => ?_)
        clear hK K
        (try simp only [Act.put, List.setIfInBounds_toArray, List.set_cons_zero, List.set_cons_succ])
        refine rg_in 3 rfl (by kernel_rfl) (by kernel_rfl) (by kernel_rfl) (by rfl) (v := ?_) (fun _ _ _ h => h) hHeld (fun w hSw => ?_) ?_
        rotate_left
        · (try dsimp only at hSw); go_simp <;> (with_reducible rfl)
        (try simp only [Act.put, List.setIfInBounds_toArray, List.set_cons_zero, List.set_cons_succ])
        refine rg_in 4 rfl (by kernel_rfl) (by kernel_rfl) (by kernel_rfl) (by rfl) (v := ?_) (fun _ _ _ h => h) hHeld (fun w hSw => ?_) ?_
        rotate_left
        · (try dsimp only at hSw); go_simp <;> (with_reducible rfl)
        (try simp only [Act.put, List.setIfInBounds_toArray, List.set_cons_zero, List.set_cons_succ])
        refine rg_in 5 rfl (by kernel_rfl) (by kernel_rfl) (by kernel_rfl) (by rfl) (v := ?_) (fun _ _ _ h => h) hHeld (fun w hSw => ?_) ?_
        rotate_left
        · (try dsimp only at hSw); go_simp <;> (with_reducible rfl)
        (try simp only [Act.put, List.setIfInBounds_toArray, List.set_cons_zero, List.set_cons_succ])
        refine rg_in 6 rfl (by kernel_rfl) (by kernel_rfl) (by kernel_rfl) (by rfl) (v := ?_) (fun _ _ _ h => h) hHeld (fun w hSw => ?_) ?_
        rotate_left
        · (try dsimp only at hSw); go_simp <;> (with_reducible rfl)
        (try simp only [Act.put, List.setIfInBounds_toArray, List.set_cons_zero, List.set_cons_succ])
        refine rg_do 8 rfl (by kernel_rfl) (by rfl) (fun K hK => ?_)
        have hV7 := Lib.hid (FVar.later (fvar_blk hbox7) (bel_next hb0 hb2))
        have hLY := Lib.hid hYL
        have q0 := hV7.out.1.1
        have q1 := hV7.out.1.2.1
        have q2 := hV7.out.1.2.2.1
        have q3 := hV7.out.1.2.2.2.1
        have q4 := hV7.out.1.2.2.2.2
        have p0 := hV7.out.2.1
        have p1 := hV7.out.2.2.1
        have p2 := hV7.out.2.2.2.1
        have p3 := hV7.out.2.2.2.2.1
        have p4 := hV7.out.2.2.2.2.2
        go_simp
        clear q0 q1 q2 q3 q4 p0 p1 p2 p3 p4
        refine hK.out _ _ (fbelow_set5 hHeld (show w.heap.size ≤ g107 by (have := hge7; omega))) (fun hHeld => ?_)
        clear hK K
        (try simp only [Act.put, List.setIfInBounds_toArray, List.set_cons_zero, List.set_cons_succ])
        refine rg_in 9 rfl (by kernel_rfl) (by kernel_rfl) (by kernel_rfl) (by rfl) (v := ?_) (fun _ _ _ h => h) hHeld (fun w hSw => ?_) ?_
        rotate_left
        · (try dsimp only at hSw); go_simp <;> (with_reducible rfl)
        (try simp only [Act.put, List.setIfInBounds_toArray, List.set_cons_zero, List.set_cons_succ])
        refine rg_in 10 rfl (by kernel_rfl) (by kernel_rfl) (by kernel_rfl) (by rfl) (v := ?_) (fun _ _ _ h => h) hHeld (fun w hSw => ?_) ?_
        rotate_left
        · (try dsimp only at hSw); go_simp <;> (with_reducible rfl)
        (try simp only [Act.put, List.setIfInBounds_toArray, List.set_cons_zero, List.set_cons_succ])
        refine wpAnyH_done (by kernel_rfl) ?_ _
        have ay : AwayF Y g107 := by have l7 := blk_lt hbox7; have z0 := hb0.size; have z1 := hb1.size; have z2 := hb2.size; have z7 := hb7.size; exact hYa _ (by omega) (newF_away _)
        have hfa := FAt.set hV7.out hLY.out ay
        have hbX := hHeld
        have hgl := hfa.v.1.1
        have hlt := World.block_lt_of_cell? _ _ hgl
        clear hHeld hgl
        unfold set5F at hfa hlt
        go_wp2
        go_meet
        case rel => exact ⟨g107, Y, rfl, rfl, rfl, Lib.hid hfa, hYs, hbX, by have := hge7; omega, hlt⟩
      exact AllReadyH.nil
    refine rg_cons rfl (by rfl) (fun K hK => ?_) ?_
    · have hgw7 := hHeld.size
      refine step_alloc 25 rfl iF _ hiF hzF ?_
      intro g107 w107 hge7 hbox7 hb7
      refine hK.out _ _ (S_call hb7 hHeld rfl) (fun hHeld => ?_)
      clear hK K
      (try simp only [Act.put, List.setIfInBounds_toArray, List.set_cons_zero, List.set_cons_succ])
      refine wpAnyH_ready (rs := [0, 1]) (by kernel_rfl) (by simp) ?_
      refine rg_cons rfl (by rfl) (fun K hK => ?_) ?_
      · go_simp
        (go_at_call 28; (with_reducible refine (newF_any _).mono ?_); (rintro e w100 ⟨rfl, hb0⟩))
        refine hK.out _ _ (S_call hb0 hHeld rfl) (fun hHeld => ?_)
        clear hK K
        (try simp only [Act.put, List.setIfInBounds_toArray, List.set_cons_zero, List.set_cons_succ])
        refine rg_do 1 rfl (by kernel_rfl) (by rfl) (fun K hK => ?_)
        have hgw1 := hHeld.size
        refine step_zeros (.const (.int .i64 60)) (.const (.int .i64 60)) 22 rfl w.heap.size 5 i0 (.int .u8 0) Tryd.underlying22 hi hz0 rfl hz1 hz2 60 rfl rfl (by omega) hgw1 ?_
        intro g101 w101 own101 hb1
        refine hK.out _ _ (S_call hb1 hHeld rfl) (fun hHeld => ?_)
        clear hK K
        (try simp only [Act.put, List.setIfInBounds_toArray, List.set_cons_zero, List.set_cons_succ])
        refine rg_do 2 rfl (by kernel_rfl) (by rfl) (fun K hK => ?_)
        have hgw2 := hHeld.size
        have own102 := own_later own101 (Below.refl _ _)
        have hpq : PcT.Ok _ _ ⟨some ⟨g101, 0, none⟩, 60, 60, List.replicate 60 0⟩ := ⟨Bytes.own own102, nofun, Nat.le_refl _, by unfold maxLen; show 60 ≤ _; omega⟩
        go_simp
        (go_at_call 11; (with_reducible refine (HP.out _ _ hHeld hpq rfl rfl).mono ?_); (rintro e w102 ⟨Y, rfl, hYs, hYL, hb2, hYa⟩))
        simp only [FileT.agg, PcT.val]
        refine hK.out _ _ (S_call hb2 hHeld rfl) (fun hHeld => ?_)
        clear hK K
        (try simp only [Act.put, List.setIfInBounds_toArray, List.set_cons_zero, List.set_cons_succ])
        refine rg_in 3 rfl (by kernel_rfl) (by kernel_rfl) (by kernel_rfl) (by rfl) (v := ?_) (fun _ _ _ h => h) hHeld (fun w hSw => ?_) ?_
        rotate_left
        · (try dsimp only at hSw); go_simp <;> (with_reducible rfl)
        (try simp only [Act.put, List.setIfInBounds_toArray, List.set_cons_zero, List.set_cons_succ])
        refine rg_in 4 rfl (by kernel_rfl) (by kernel_rfl) (by kernel_rfl) (by rfl) (v := ?_) (fun _ _ _ h => h) hHeld (fun w hSw => ?_) ?_
        rotate_left
        · (try dsimp only at hSw); go_simp <;> (with_reducible rfl)
        (try simp only [Act.put, List.setIfInBounds_toArray, List.set_cons_zero, List.set_cons_succ])
        refine rg_in 5 rfl (by kernel_rfl) (by kernel_rfl) (by kernel_rfl) (by rfl) (v := ?_) (fun _ _ _ h => h) hHeld (fun w hSw => ?_) ?_
        rotate_left
        · (try dsimp only at hSw); go_simp <;> (with_reducible rfl)
        (try simp only [Act.put, List.setIfInBounds_toArray, List.set_cons_zero, List.set_cons_succ])
        refine rg_in 6 rfl (by kernel_rfl) (by kernel_rfl) (by kernel_rfl) (by rfl) (v := ?_) (fun _ _ _ h => h) hHeld (fun w hSw => ?_) ?_
        rotate_left
        · (try dsimp only at hSw); go_simp <;> (with_reducible rfl)
        (try simp only [Act.put, List.setIfInBounds_toArray, List.set_cons_zero, List.set_cons_succ])
        refine rg_do 8 rfl (by kernel_rfl) (by rfl) (fun K hK => ?_)
        have hV7 := Lib.hid (FVar.later (fvar_blk hbox7) (bel_next (bel_next hb0 hb1) hb2))
        have hLY := Lib.hid hYL
        have q0 := hV7.out.1.1
        have q1 := hV7.out.1.2.1
        have q2 := hV7.out.1.2.2.1
        have q3 := hV7.out.1.2.2.2.1
        have q4 := hV7.out.1.2.2.2.2
        have p0 := hV7.out.2.1
        have p1 := hV7.out.2.2.1
        have p2 := hV7.out.2.2.2.1
        have p3 := hV7.out.2.2.2.2.1
        have p4 := hV7.out.2.2.2.2.2
        go_simp
        clear q0 q1 q2 q3 q4 p0 p1 p2 p3 p4
        refine hK.out _ _ (fbelow_set5 hHeld (show w.heap.size ≤ g107 by (have := hge7; omega))) (fun hHeld => ?_)
        clear hK K
        (try simp only [Act.put, List.setIfInBounds_toArray, List.set_cons_zero, List.set_cons_succ])
        refine rg_in 9 rfl (by kernel_rfl) (by kernel_rfl) (by kernel_rfl) (by rfl) (v := ?_) (fun _ _ _ h => h) hHeld (fun w hSw => ?_) ?_
        rotate_left
        · (try dsimp only at hSw); go_simp <;> (with_reducible rfl)
        (try simp only [Act.put, List.setIfInBounds_toArray, List.set_cons_zero, List.set_cons_succ])
        refine rg_in 10 rfl (by kernel_rfl) (by kernel_rfl) (by kernel_rfl) (by rfl) (v := ?_) (fun _ _ _ h => h) hHeld (fun w hSw => ?_) ?_
        rotate_left
        · (try dsimp only at hSw); go_simp <;> (with_reducible rfl)
        (try simp only [Act.put, List.setIfInBounds_toArray, List.set_cons_zero, List.set_cons_succ])
        refine wpAnyH_done (by kernel_rfl) ?_ _
        have ay : AwayF Y g107 := by have l7 := blk_lt hbox7; have z0 := hb0.size; have z1 := hb1.size; have z2 := hb2.size; have z7 := hb7.size; exact hYa _ (by omega) (newF_away _)
        have hfa := FAt.set hV7.out hLY.out ay
        have hbX := hHeld
        have hgl := hfa.v.1.1
        have hlt := World.block_lt_of_cell? _ _ hgl
        clear hHeld hgl
        unfold set5F at hfa hlt
        go_wp2
        go_meet
        case rel => exact ⟨g107, Y, rfl, rfl, rfl, Lib.hid hfa, hYs, hbX, by have := hge7; omega, hlt⟩
      refine rg_cons rfl (by rfl) (fun K hK => ?_) ?_
      · have hgw1 := hHeld.size
        refine step_zeros (.const (.int .i64 60)) (.const (.int .i64 60)) 22 rfl w.heap.size 5 i0 (.int .u8 0) Tryd.underlying22 hi hz0 rfl hz1 hz2 60 rfl rfl (by omega) hgw1 ?_
        intro g101 w101 own101 hb1
        refine hK.out _ _ (S_call hb1 hHeld rfl) (fun hHeld => ?_)
        clear hK K
        (try simp only [Act.put, List.setIfInBounds_toArray, List.set_cons_zero, List.set_cons_succ])
        refine rg_do 0 rfl (by kernel_rfl) (by rfl) (fun K hK => ?_)
        go_simp
        (go_at_call 28; (with_reducible refine (newF_any _).mono ?_); (rintro e w100 ⟨rfl, hb0⟩))
        refine hK.out _ _ (S_call hb0 hHeld rfl) (fun hHeld => ?_)
        clear hK K
        (try simp only [Act.put, List.setIfInBounds_toArray, List.set_cons_zero, List.set_cons_succ])
        refine rg_do 2 rfl (by kernel_rfl) (by rfl) (fun K hK => ?_)
        have hgw2 := hHeld.size
        have own102 := own_later own101 hb0
        have hpq : PcT.Ok _ _ ⟨some ⟨g101, 0, none⟩, 60, 60, List.replicate 60 0⟩ := ⟨Bytes.own own102, nofun, Nat.le_refl _, by unfold maxLen; show 60 ≤ _; omega⟩
        go_simp
        (go_at_call 11; (with_reducible refine (HP.out _ _ hHeld hpq rfl rfl).mono ?_); (rintro e w102 ⟨Y, rfl, hYs, hYL, hb2, hYa⟩))
        simp only [FileT.agg, PcT.val]
        refine hK.out _ _ (S_call hb2 hHeld rfl) (fun hHeld => ?_)
        clear hK K
        (try simp only [Act.put, List.setIfInBounds_toArray, List.set_cons_zero, List.set_cons_succ])
        refine rg_in 3 rfl (by kernel_rfl) (by kernel_rfl) (by kernel_rfl) (by rfl) (v := ?_) (fun _ _ _ h => h) hHeld (fun w hSw => ?_) ?_
        rotate_left
        · (try dsimp only at hSw); go_simp <;> (with_reducible rfl)
        (try simp only [Act.put, List.setIfInBounds_toArray, List.set_cons_zero, List.set_cons_succ])
        refine rg_in 4 rfl (by kernel_rfl) (by kernel_rfl) (by kernel_rfl) (by rfl) (v := ?_) (fun _ _ _ h => h) hHeld (fun w hSw => ?_) ?_
        rotate_left
        · (try dsimp only at hSw); go_simp <;> (with_reducible rfl)
        (try simp only [Act.put, List.setIfInBounds_toArray, List.set_cons_zero, List.set_cons_succ])
        refine rg_in 5 rfl (by kernel_rfl) (by kernel_rfl) (by kernel_rfl) (by rfl) (v := ?_) (fun _ _ _ h => h) hHeld (fun w hSw => ?_) ?_
        rotate_left
        · (try dsimp only at hSw); go_simp <;> (with_reducible rfl)
        (try simp only [Act.put, List.setIfInBounds_toArray, List.set_cons_zero, List.set_cons_succ])
        refine rg_in 6 rfl (by kernel_rfl) (by kernel_rfl) (by kernel_rfl) (by rfl) (v := ?_) (fun _ _ _ h => h) hHeld (fun w hSw => ?_) ?_
        rotate_left
        · (try dsimp only at hSw); go_simp <;> (with_reducible rfl)
        (try simp only [Act.put, List.setIfInBounds_toArray, List.set_cons_zero, List.set_cons_succ])
        refine rg_do 8 rfl (by kernel_rfl) (by rfl) (fun K hK => ?_)
        have hV7 := Lib.hid (FVar.later (fvar_blk hbox7) (bel_next (bel_next hb1 hb0) hb2))
        have hLY := Lib.hid hYL
        have q0 := hV7.out.1.1
        have q1 := hV7.out.1.2.1
        have q2 := hV7.out.1.2.2.1
        have q3 := hV7.out.1.2.2.2.1
        have q4 := hV7.out.1.2.2.2.2
        have p0 := hV7.out.2.1
        have p1 := hV7.out.2.2.1
        have p2 := hV7.out.2.2.2.1
        have p3 := hV7.out.2.2.2.2.1
        have p4 := hV7.out.2.2.2.2.2
        go_simp
        clear q0 q1 q2 q3 q4 p0 p1 p2 p3 p4
        refine hK.out _ _ (fbelow_set5 hHeld (show w.heap.size ≤ g107 by (have := hge7; omega))) (fun hHeld => ?_)
        clear hK K
        (try simp only [Act.put, List.setIfInBounds_toArray, List.set_cons_zero, List.set_cons_succ])
        refine rg_in 9 rfl (by kernel_rfl) (by kernel_rfl) (by kernel_rfl) (by rfl) (v := ?_) (fun _ _ _ h => h) hHeld (fun w hSw => ?_) ?_
        rotate_left
        · (try dsimp only at hSw); go_simp <;> (with_reducible rfl)
        (try simp only [Act.put, List.setIfInBounds_toArray, List.set_cons_zero, List.set_cons_succ])
        refine rg_in 10 rfl (by kernel_rfl) (by kernel_rfl) (by kernel_rfl) (by rfl) (v := ?_) (fun _ _ _ h => h) hHeld (fun w hSw => ?_) ?_
        rotate_left
        · (try dsimp only at hSw); go_simp <;> (with_reducible rfl)
        (try simp only [Act.put, List.setIfInBounds_toArray, List.set_cons_zero, List.set_cons_succ])
        refine wpAnyH_done (by kernel_rfl) ?_ _
        have ay : AwayF Y g107 := by have l7 := blk_lt hbox7; have z0 := hb0.size; have z1 := hb1.size; have z2 := hb2.size; have z7 := hb7.size; exact hYa _ (by omega) (newF_away _)
        have hfa := FAt.set hV7.out hLY.out ay
        have hbX := hHeld
        have hgl := hfa.v.1.1
        have hlt := World.block_lt_of_cell? _ _ hgl
        clear hHeld hgl
        unfold set5F at hfa hlt
        go_wp2
        go_meet
        case rel => exact ⟨g107, Y, rfl, rfl, rfl, Lib.hid hfa, hYs, hbX, by have := hge7; omega, hlt⟩
      exact AllReadyH.nil
    exact AllReadyH.nil
  case rest =>
    obtain ⟨g1, Y, rfl, rfl, rfl, HF, hYs, hb1, hg1, hg1l⟩ := hcut
    clear HP
    have hrY := right_calm HF.out.l hYs (by intro l hl; rcases List.mem_singleton.1 hl with rfl; intro e; have := c1_len; rw [e] at this; simp at this) (by show ([] ++ [c1L].flatten).length ≤ _; simp [c1_len])
    have hln := lenS Y s1S wc HF.out.l hYs (by rw [← hYs, ← right_s HF.out.l]; exact hrY)
    rw [show (s1S.all.length : Int) = 68 from congrArg Int.ofNat (show ([] ++ [c1L].flatten).length = 68 by simp [c1_len])] at hln
    obtain ⟨⟨f0, f1, f2, f3, f4⟩, -⟩ := HF.out.v
    simp only [FileT.agg, PcT.val] at hln
    go_wp2_with fail
    refine hln.mono ?_
    rintro e W2 ⟨rfl, hb2⟩
    clear hln f0 f1 f2 f3 f4
    have HF2 := Lib.hid (HF.out.later hb2)
    have hb3 := bel_next hb1 hb2
    have hg2l := Nat.lt_of_lt_of_le hg1l hb2.size
    have HYs := Lib.hid hYs
    have HrY := Lib.hid hrY
    clear HF hb1 hb2 hg1l hYs hrY
    go_upto_region 4 with fail
    go_cut [2, 3] (fun s2 s3 wx => ∃ (Y2 : FileT), s2 = .int .i64 68 ∧ s3 = .int .i64 0 ∧ Hid (FAt wx g1 Y2) ∧ Y2.s = s2S ∧ Below w.heap.size w wx ∧ g1 < wx.heap.size)
    case first =>
      have hb4 := bel_alloc (Below.refl W2.heap.size W2) (.cells #[.int .u8 7, .int .u8 8, .int .u8 9] 5)
      have hL4 := (HF2.out.l.later hb4).more hb4.size
      have HF4 := Lib.hid (HF2.out.later hb4)
      have hb5 := bel_next hb3 hb4
      have hput := putS Y ⟨some ⟨W2.heap.size, 0, none⟩, 3, 3, [7, 8, 9]⟩ [] [c1L] (W2.alloc (.cells #[.int .u8 7, .int .u8 8, .int .u8 9] 5)) (htab.below hb5 htab.lt) hL4 (piece_at W2 [7, 8, 9] #[.int .u8 7, .int .u8 8, .int .u8 9] rfl (by decide)) HYs.out HrY.out (by show 1 ≤ 3 ∧ 3 ≤ 4096; omega) (by
        have e : ([] ++ [c1L].flatten : List UInt8) = c1L := by simp
        rw [e]
        show c1L.length + c2L.length ≤ _
        have := c12_len
        rw [List.length_append] at this
        omega)
      have e : ([] ++ [c1L].flatten : List UInt8) = c1L := by simp
      rw [e, c2_at] at hput
      have Hput := Lib.hid (show Calls Tryd.prog 11 #[Y.agg, .slice (some ⟨W2.heap.size, 0, none⟩) 3 3] (W2.alloc (.cells #[.int .u8 7, .int .u8 8, .int .u8 9] 5)) (PutP Y s2S 68 0 (W2.alloc (.cells #[.int .u8 7, .int .u8 8, .int .u8 9] 5))) from hput)
      have hg4l := Nat.lt_of_lt_of_le hg2l hb4.size
      obtain ⟨⟨f0, f1, f2, f3, f4⟩, -⟩ := HF2.out.v
      simp only [FileT.agg, PcT.val] at Hput
      clear hput e hL4 hb4 HF2
      go_wp2_with fail
      refine Hput.out.mono ?_
      rintro e W3 ⟨Z, rfl, hZs, hZL, hb6, hZa⟩
      clear f0 f1 f2 f3 f4 Hput
      have hF6 := HF4.out.later hb6
      have haw := hZa g1 hg4l HF4.out.a
      have hfa := Lib.hid (FAt.set hF6.v hZL haw)
      have hbe := Lib.hid (fbelow_set5 (a := .slice Z.F.A Z.F.n Z.F.c) (b := .slice Z.lA Z.ln Z.lc) (c := .int .i64 Z.fuse) (d := .int .i64 Z.fault) (e := .bool Z.off) (bel_next hb5 hb6) hg1)
      have hgl := Lib.hid (show g1 < (set5F W3 g1 (.slice Z.F.A Z.F.n Z.F.c) (.slice Z.lA Z.ln Z.lc) (.int .i64 Z.fuse) (.int .i64 Z.fault) (.bool Z.off)).heap.size by rw [size_set5]; exact Nat.lt_of_lt_of_le hg4l hb6.size)
      have HZs := Lib.hid hZs
      obtain ⟨⟨f0, f1, f2, f3, f4⟩, k0, k1, k2, k3, k4⟩ := hF6.v
      clear hF6 haw hZL hZa hb6 hb5 HF4 hZs
      simp only [FileT.agg, PcT.val]
      go_wp2
      go_meet
      case rel => exact ⟨Z, rfl, rfl, hfa, HZs.out, hbe.out, hgl.out⟩
    case rest =>
      obtain ⟨Z, rfl, rfl, HF3, hZs, hb4, hg3l⟩ := hcut
      have hall : Z.all = c1L ++ c2L := by rw [← all_s, hZs]; show [] ++ [c1L, c2L].flatten = _; simp
      have hrZ := right_calm HF3.out.l hZs (by
        intro l hl e
        subst e
        rcases List.mem_cons.1 hl with h | h
        · have := c1_len; rw [← h] at this; simp at this
        · have h := List.mem_singleton.1 h
          have h1 := c12_len
          rw [← h, List.append_nil, c1_len] at h1
          omega) (by rw [← all_s5 [] [c1L, c2L] (-1) (-1) false, show FileS.all ⟨[], [c1L, c2L], -1, -1, false⟩ = Z.s.all by rw [hZs]; rfl, all_s, hall, c12_len]; omega)
      clear HF2 HYs HrY hg2l hb3
      have hln := lenS Z s2S wc HF3.out.l hZs (by rw [← hZs, ← right_s HF3.out.l]; exact hrZ)
      rw [show (s2S.all.length : Int) = 77 from congrArg Int.ofNat (show s2S.all.length = 77 by rw [← hZs, all_s, hall, c12_len])] at hln
      obtain ⟨⟨f0, f1, f2, f3, f4⟩, -⟩ := HF3.out.v
      simp only [FileT.agg, PcT.val] at hln
      go_wp2_with fail
      refine hln.mono ?_
      rintro e W4 ⟨rfl, hb5⟩
      clear hln f0 f1 f2 f3 f4
      have HF4 := Lib.hid (HF3.out.later hb5)
      have hb6 := bel_next hb4 hb5
      have hg4l := Nat.lt_of_lt_of_le hg3l hb5.size
      clear hb4 hb5 HF3 hg3l
      have hget := getS Z 68 (c1L ++ c2L) _ W4 (htab.below hb6 htab.lt) HF4.out.l hall hrZ (by rw [c12_len]; omega) (by omega) c12_get
      obtain ⟨⟨f0, f1, f2, f3, f4⟩, -⟩ := HF4.out.v
      simp only [FileT.agg, PcT.val] at hget
      rw [show ((68 : Nat) : Int) = 68 from rfl] at hget
      go_wp2_with fail
      refine hget.mono ?_
      rintro e W5 ⟨hb7, ⟨hno, -⟩ | ⟨p, nx, hg, rfl, hpo, hpa⟩⟩
      · cases hno
      · injection hg with hg
        injection hg with hgl hgn
        subst hgn
        clear hget f0 f1 f2 f3 f4
        have HF5 := Lib.hid (HF4.out.later hb7)
        have hb8 := bel_next hb6 hb7
        have hget := getS Z 2 (c1L ++ c2L) _ W5 (htab.below hb8 htab.lt) HF5.out.l hall hrZ (by rw [c12_len]; omega) (by omega) c12_no
        obtain ⟨⟨f0, f1, f2, f3, f4⟩, -⟩ := HF5.out.v
        simp only [FileT.agg, PcT.val] at hget
        rw [show ((2 : Nat) : Int) = 2 from rfl] at hget
        clear HF4 hb6 hb7
        go_wp2_with fail
        refine hget.mono ?_
        rintro e W6 ⟨hb9, ⟨-, rfl⟩ | ⟨p', nx, hg, -⟩⟩
        · clear hget f0 f1 f2 f3 f4
          have HF6 := Lib.hid (HF5.out.later hb9)
          have hb10 := bel_next hb8 hb9
          have hpo6 := (hpo.later hb9).more hb9.size
          have hput := put_arg Z ⟨none, 0, 0, []⟩ W6.heap.size W6 HF6.out.l (Nat.le_refl _) hrZ (by decide)
          obtain ⟨⟨f0, f1, f2, f3, f4⟩, -⟩ := HF6.out.v
          simp only [FileT.agg, PcT.val] at hput
          clear HF5 hb8 hb9 hpo
          go_wp2_with fail
          refine hput.mono ?_
          rintro e W7 ⟨V, rfl, -, hVL, hb11, -⟩
          clear hput f0 f1 f2 f3 f4
          have hb12 := bel_next hb10 hb11
          have hpo7 := (hpo6.later hb11).more hb11.size
          have hb13 := bel_alloc (bel_alloc (Below.refl W7.heap.size W7) (.cells #[.slice V.F.A V.F.n V.F.c, .slice V.lA V.ln V.lc, .int .i64 V.fuse, .int .i64 V.fault, .bool V.off] 25)) (.cells #[.int .u8 7, .int .u8 8, .int .u8 9] 5)
          have heq := equal_any p.A (some ⟨W7.heap.size + 1, 0, none⟩) p.n p.c 3 3 p.l [7, 8, 9] W7.heap.size (W7.heap.size + 1 + 1) ((W7.alloc (.cells #[.slice V.F.A V.F.n V.F.c, .slice V.lA V.ln V.lc, .int .i64 V.fuse, .int .i64 V.fault, .bool V.off] 25)).alloc (.cells #[.int .u8 7, .int .u8 8, .int .u8 9] 5)) (hpo7.here.below hb13) (by
            have h := bytes_new (W7.alloc (.cells #[.slice V.F.A V.F.n V.F.c, .slice V.lA V.ln V.lc, .int .i64 V.fuse, .int .i64 V.fault, .bool V.off] 25)) [7, 8, 9] #[.int .u8 7, .int .u8 8, .int .u8 9] 5 (0, 0) rfl
            rw [World.size_alloc] at h
            exact h) (Nat.le_trans hpo7.fits hpo7.most) (by unfold maxLen; omega)
          rw [show sameB p.l [7, 8, 9] = true by unfold sameB; exact decide_eq_true hgl.symm] at heq
          have Heq := Lib.hid heq
          have hbb := hb12.trans (hb13.mono hb12.size)
          clear heq hpo7 hb10 hb11 hb12 hb13 hpo6 HF6 hVL hgl hpa
          simp only [FileT.agg, PcT.val]
          go_wp2_with fail
          refine Heq.out.mono ?_
          rintro e W8 ⟨rfl, k, rfl⟩
          clear Heq
          go_wp2
          go_ret
          exact ⟨rfl, below_drewN hbb k⟩
        · cases hg
end Go.Proofs.YtghmehfmchadoaaDoor
