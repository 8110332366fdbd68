import Derived.Test.YtghmehfmchadoaaDoorGam
import Derived.Test.YtghmehfmchadoaaDoorGah
import Derived.Test.YtghmehfmchadoaaDoorGaa
import Derived.Test.YtghmehfmchadoaaDoorGag
/-
  Layer 11, the law FrameTorn: the walk.
-/
namespace Go.Proofs.YtghmehfmchadoaaDoor
open Go.RowKit
set_option linter.unusedVariables false

/-- A calm file in memory, by its durable bytes. -/
theorem firm_calm (q : PcT) : (firmF q).s = ⟨q.l, [], -1, -1, false⟩ := rfl
theorem wrapU_small (m : Nat) (h : m ≤ 1000000) : IntKind.u64.wrap (m : Int) = (m : Int) := by
  have : IntKind.u64.wrap (m : Int) = (m : Int) % 18446744073709551616 := by simp [IntKind.wrap, IntKind.bits, IntKind.signed]
  rw [this]; omega
theorem cut_at (cut : Int) (m : Nat) (hm : 0 < m) : ∃ d : Nat, (IntKind.u64.wrap cut).tmod (m : Int) = (d : Int) ∧ d < m := by
  have h0 : 0 ≤ IntKind.u64.wrap cut := by
    have : IntKind.u64.wrap cut = cut % 18446744073709551616 := by simp [IntKind.wrap, IntKind.bits, IntKind.signed]
    rw [this]; omega
  refine ⟨((IntKind.u64.wrap cut).tmod (m : Int)).toNat, ?_, ?_⟩
  · rw [Int.tmod_eq_emod_of_nonneg h0]
    have := Int.emod_nonneg (IntKind.u64.wrap cut) (show (m : Int) ≠ 0 by omega)
    omega
  · rw [Int.tmod_eq_emod_of_nonneg h0]
    have h1 := Int.emod_nonneg (IntKind.u64.wrap cut) (show (m : Int) ≠ 0 by omega)
    have h2 := Int.emod_lt_of_pos (IntKind.u64.wrap cut) (show (0 : Int) < (m : Int) by omega)
    omega
set_option maxRecDepth 100000 in
set_option maxHeartbeats 8000000 in
theorem frameTorn_walk (w : World) (A0 : Option Addr) (n0 c0 : Nat) (l0 : List UInt8) (h0 : Bytes w w.heap.size A0 n0 l0) (hA0 : A0 = none → c0 = 0) (hn0 : n0 ≤ c0) (hc0 : c0 ≤ maxLen)
    (A1 : Option Addr) (n1 c1 : Nat) (l1 : List UInt8) (h1 : Bytes w w.heap.size A1 n1 l1) (hA1 : A1 = none → c1 = 0) (hn1 : n1 ≤ c1) (hc1 : c1 ≤ maxLen) (cut : Int) (hcut : (Lit.int .i64 cut).wf = true) (htab : Tab w) :
    Calls Tryd.prog 5 #[.slice A0 n0 c0, .slice A1 n1 c1, .int .i64 cut] w fun e w' => e = .returned (.bool true) ∧ Below w.heap.size w w' := by
  have HP0 := Lib.hid (show PcT.Ok w w.heap.size ⟨A0, n0, c0, l0⟩ from ⟨h0, hA0, hn0, hc0⟩)
  have HP1 := Lib.hid (show PcT.Ok w w.heap.size ⟨A1, n1, c1, l1⟩ from ⟨h1, hA1, hn1, hc1⟩)
  clear h0 hA0 hn0 hc0 h1 hA1 hn1 hc1
  go_enter Tryd.func5, Tryd.ntmps5
  go_wp2_with fail
  refine (wakes_any _ htab).mono ?_
  rintro e W1 ⟨rfl, hb1⟩
  have hfe := few_any ⟨A0, n0, c0, l0⟩ 500 w.heap.size W1 (HP0.out.later hb1) hb1.size (by omega)
  rw [show ((500 : Nat) : Int) = 500 from rfl] at hfe
  go_wp2_with fail
  refine hfe.mono ?_
  rintro e W2 ⟨q, rfl, hql, hqo, hb2, -⟩
  have hb3 := bel_next hb1 hb2
  clear hfe hb1 hb2
  go_wp2_with fail
  refine (firm_any q _).mono ?_
  rintro e W3 ⟨rfl, hb4⟩
  have hb5 := bel_next hb3 hb4
  have hqo3 := (hqo.later hb4).more hb4.size
  have hqn : q.n ≤ 500 := by rw [← hqo.len, hql, List.length_take]; omega
  have HF := Lib.hid (FAt.new (firm_lie hqo3) 25)
  have hb6 := bel_alloc hb5 (.cells #[.slice q.A q.n q.c, .slice none 0 0, .int .i64 (-1), .int .i64 (-1), .bool false] 25)
  have hg7 : w.heap.size ≤ W3.heap.size := hb5.size
  have hg7l : W3.heap.size < (W3.alloc (.cells #[.slice q.A q.n q.c, .slice none 0 0, .int .i64 (-1), .int .i64 (-1), .bool false] 25)).heap.size := by rw [World.size_alloc]; omega
  simp only [firmF, FileT.agg, PcT.val] at HF ⊢
  clear hb3 hb4 hb5 hqo hqo3
  have hfe := few_any ⟨A1, n1, c1, l1⟩ 500 w.heap.size (W3.alloc (.cells #[.slice q.A q.n q.c, .slice none 0 0, .int .i64 (-1), .int .i64 (-1), .bool false] 25)) (HP1.out.later hb6) hb6.size (by omega)
  rw [show ((500 : Nat) : Int) = 500 from rfl] at hfe
  go_wp2_with fail
  generalize W3.alloc (.cells #[.slice q.A q.n q.c, .slice none 0 0, .int .i64 (-1), .int .i64 (-1), .bool false] 25) = W4 at *
  generalize W3.heap.size = g7 at *
  refine hfe.mono ?_
  rintro e W5 ⟨b, rfl, hbl, hbo, hb7, -⟩
  have hb8 := bel_next hb6 hb7
  have HF5 := Lib.hid (show FAt W5 g7 (firmF q) from HF.out.later hb7)
  have hg5l := Nat.lt_of_lt_of_le hg7l hb7.size
  have hbn : b.n ≤ 500 := by rw [← hbo.len, hbl, List.length_take]; omega
  have HB := Lib.hid hbo
  have hrq : (firmF q).right = true := firm_right (p := q) HF5.out.l.firm (show q.n ≤ 524288 by omega)
  clear hfe hb6 hb7 HF hg7l hql hbl hbo
  by_cases hb0 : b.n = 0
  · have hz := fsize_no (firmF q) 0 W5.heap.size W5 HF5.out.l (Nat.le_refl _) (right_rows HF5.out.l hrq).1 (.inr (by decide))
    obtain ⟨⟨f0, f1, f2, f3, f4⟩, -⟩ := HF5.out.v
    simp only [firmF, FileT.agg, PcT.val] at hz f0 f1 f2 f3 f4
    have hb0' : ((b.n : Int) == 0) = true := by rw [beq_iff_eq]; omega
    clear hb0
    go_wp2_with fail
    refine hz.mono ?_
    rintro e W6 ⟨rfl, hb9⟩
    have hb10 := bel_next hb8 hb9
    clear hz f0 f1 f2 f3 f4 hb8 hb9
    go_wp2
    go_ret
    exact ⟨rfl, hb10⟩
  · have hb0' : ((b.n : Int) == 0) = false := by rw [beq_eq_false_iff_ne]; omega
    have hpl := Fra.piece_len q.l (Fra.encL b.l) (by rw [Fra.encL_len, HB.out.len]; omega)
    have hqlen : q.l.length = q.n := HF5.out.l.firm.len
    have hput := putS (firmF q) b q.l [] W5 (htab.below hb8 htab.lt) HF5.out.l HB.out rfl hrq (by omega) (by rw [List.flatten_nil, List.append_nil, hqlen]; omega)
    rw [List.flatten_nil, List.append_nil, List.nil_append] at hput
    obtain ⟨at0, hat⟩ : ∃ a, Fra.atN q.l = a := ⟨_, rfl⟩
    rw [hat] at hput
    obtain ⟨⟨f0, f1, f2, f3, f4⟩, -⟩ := HF5.out.v
    simp only [firmF, FileT.agg, PcT.val] at hput f0 f1 f2 f3 f4
    have Hput := Lib.hid hput
    have Hat := Lib.hid hat
    clear hput hat
    go_wp2_with fail
    refine Hput.out.mono ?_
    rintro e W6 ⟨Y, rfl, hYs, hYL, hb9, -⟩
    clear Hput f0 f1 f2 f3 f4
    have HF6 := Lib.hid (HF5.out.later hb9)
    have HBo := Lib.hid ((HB.out.later hb9).more hb9.size)
    have hb10 := bel_next hb8 hb9
    have hY1 := FAt.new hYL 25
    have hb11 := bel_alloc (Below.refl W6.heap.size W6) (.cells #[.slice Y.F.A Y.F.n Y.F.c, .slice Y.lA Y.ln Y.lc, .int .i64 Y.fuse, .int .i64 Y.fault, .bool Y.off] 25)
    have HY7 := Lib.hid hY1
    have HF7 := Lib.hid (HF6.out.later hb11)
    have HB7 := Lib.hid ((HBo.out.later hb11).more hb11.size)
    have hb12 := bel_next hb10 hb11
    have hplen : (Fra.pieceL q.l (Fra.encL b.l)).length ≥ 7 := by
      unfold Fra.pieceL
      rw [List.length_append]
      have := (Fra.layP_ge (Fra.encL b.l) (Fra.atN q.l)).1
      rw [Fra.encL_len, HB.out.len] at this
      omega
    have hallY : Y.all = q.l ++ Fra.pieceL q.l (Fra.encL b.l) := by rw [← all_s, hYs]; show q.l ++ [Fra.pieceL q.l (Fra.encL b.l)].flatten = _; simp
    have hrY := right_calm HY7.out.l hYs (by intro l hl e; rcases List.mem_singleton.1 hl with rfl; rw [e] at hplen; simp at hplen) (by simp; rw [hqlen]; omega)
    have HG1 := Lib.hid (Fra.get_put q.l b.l [] (by rw [HB.out.len]; omega) (by rw [HB.out.len]; omega))
    have HG2 := Lib.hid (fun n (h1 : q.l.length ≤ n) h2 => Fra.get_torn q.l b.l (by rw [HB.out.len]; omega) (by rw [HB.out.len]; omega) n h1 h2)
    have hatl : q.l.length ≤ at0 ∧ at0 % 64 ≠ 0 ∧ at0 < (q.l ++ Fra.pieceL q.l (Fra.encL b.l)).length := by
      have h1 := Fra.atN_in q.l
      have h2 := Fra.atN_ge q.l
      have h3 := Fra.piece_end q.l (Fra.encL b.l)
      have h4 := (Fra.layP_ge (Fra.encL b.l) (Fra.atN q.l)).1
      rw [Fra.encL_len] at h4
      rw [Hat.out] at h1 h2 h3 h4
      refine ⟨h2, h1, by rw [h3]; omega⟩
    rw [List.append_nil, Hat.out] at HG1
    rw [Hat.out] at HG2
    generalize Fra.pieceL q.l (Fra.encL b.l) = pc at *
    have hsd := said_any Y _ _ HY7.out.l (Nat.le_refl _) hrY
    clear hb8 hb9 hb10 hb11 HF6 HBo HB HF5 hYL hY1 hg5l Hat
    simp only [FileT.agg, PcT.val]
    go_upto_region 10 with fail
    generalize W6.alloc (.cells #[.slice Y.F.A Y.F.n Y.F.c, .slice Y.lA Y.ln Y.lc, .int .i64 Y.fuse, .int .i64 Y.fault, .bool Y.off] 25) = W7 at *
    generalize W6.heap.size = g9 at *
    obtain ⟨⟨f0, f1, f2, f3, f4⟩, -⟩ := HY7.out.v
    simp only [FileT.agg, PcT.val] at hsd
    go_wp2_with fail
    refine hsd.mono ?_
    rintro e W8 ⟨p, rfl, hpl, hpo, hb13, -⟩
    rw [hallY] at hpl
    have hb14 := bel_next hb12 hb13
    have HF8 := Lib.hid (HF7.out.later hb13)
    have HB8 := Lib.hid ((HB7.out.later hb13).more hb13.size)
    have HP := Lib.hid hpo
    have hpn : p.n = q.n + pc.length := by rw [← hpo.len, hpl, List.length_append, hqlen]
    have hnle : ¬ p.n ≤ q.n := by omega
    have hpn9 : p.n ≤ 9000 := by omega
    have hpq7 : q.n + 7 ≤ p.n := by omega
    have Hpn := Lib.hid hpn
    clear hpn
    clear hsd f0 f1 f2 f3 f4 hb12 hb13 HF7 HB7 HY7 hpo hYs hrY hallY
    have hln := lenS (firmF q) ⟨q.l, [], -1, -1, false⟩ W8 HF8.out.l rfl (by have := right_s HF8.out.l; rw [hrq] at this; exact this.symm)
    rw [show (FileS.all ⟨q.l, [], -1, -1, false⟩).length = q.n by show (q.l ++ [].flatten).length = _; rw [List.flatten_nil, List.append_nil, hqlen]] at hln
    obtain ⟨⟨f0, f1, f2, f3, f4⟩, -⟩ := HF8.out.v
    simp only [firmF, FileT.agg, PcT.val] at hln f0 f1 f2 f3 f4
    go_wp2_with fail
    refine hln.mono ?_
    rintro e W9 ⟨rfl, hb15⟩
    clear hln f0 f1 f2 f3 f4
    have hb16 := bel_next hb14 hb15
    have HF9 := Lib.hid (HF8.out.later hb15)
    have HB9 := Lib.hid ((HB8.out.later hb15).more hb15.size)
    have HP9 := Lib.hid ((HP.out.later hb15).more hb15.size)
    clear HF8 HB8 HP hb14 hb15
    go_upto_region 13 with fail
    generalize W9 = W0 at *
    have hln := Lib.hid (fun W (h : Below W0.heap.size W0 W) => show Calls Tryd.prog 24 #[(firmF q).agg] W fun e w' => e = .returned (.int .i64 (q.n : Nat)) ∧ Below W.heap.size W w' from by
      have hl := lenS (firmF q) ⟨q.l, [], -1, -1, false⟩ W ((HF9.out.later h).l) rfl (by have := right_s HF9.out.l; rw [hrq] at this; exact this.symm)
      rw [show (FileS.all ⟨q.l, [], -1, -1, false⟩).length = q.n by show (q.l ++ [].flatten).length = _; rw [List.flatten_nil, List.append_nil, hqlen]] at hl
      exact hl)
    have x0 : ∀ W, Below W0.heap.size W0 W → W.cell? ⟨g7, 0, none⟩ = some (.slice q.A q.n q.c) := fun W h => (HF9.out.later h).v.1.1
    have x1 : ∀ W, Below W0.heap.size W0 W → W.cell? ⟨g7, 1, none⟩ = some (.slice none 0 0) := fun W h => (HF9.out.later h).v.1.2.1
    have x2 : ∀ W, Below W0.heap.size W0 W → W.cell? ⟨g7, 2, none⟩ = some (.int .i64 (-1)) := fun W h => (HF9.out.later h).v.1.2.2.1
    have x3 : ∀ W, Below W0.heap.size W0 W → W.cell? ⟨g7, 3, none⟩ = some (.int .i64 (-1)) := fun W h => (HF9.out.later h).v.1.2.2.2.1
    have x4 : ∀ W, Below W0.heap.size W0 W → W.cell? ⟨g7, 4, none⟩ = some (.bool false) := fun W h => (HF9.out.later h).v.1.2.2.2.2
    simp only [firmF, FileT.agg, PcT.val] at hln
    obtain ⟨m, hm⟩ : ∃ m, p.n - q.n = m := ⟨_, rfl⟩
    have hm1 : 0 < m ∧ m ≤ 9000 := by omega
    obtain ⟨d, hd, hdm⟩ := cut_at cut m hm1.1
    obtain ⟨nn, hnn⟩ : ∃ nn, q.n + d = nn := ⟨_, rfl⟩
    have hnb : q.n ≤ nn ∧ nn < p.n := by omega
    have d1 : IntKind.i64.wrap ((p.n : Int) - (q.n : Int)) = (m : Int) := by rw [wrap_small _ (by omega)]; omega
    have d2 : IntKind.u64.wrap (m : Int) = (m : Int) := by rw [wrapU_small m (by omega)]
    have d3 : (m = 0) = False := by simp; omega
    have d5 : IntKind.i64.wrap (d : Int) = (d : Int) := wrap_small _ (by omega)
    have d6 : IntKind.i64.wrap ((q.n : Int) + (d : Int)) = (nn : Int) := by rw [wrap_small _ (by omega)]; omega
    clear hm hnn hm1 hdm hnle hpq7
    go_cut [13] (fun s wx => s = .int .i64 nn ∧ Below W0.heap.size W0 wx)
    case first =>
      refine wp_region_held_drew (S := fun W => Below W0.heap.size W0 W) (by kernel_rfl) (below_drewN (Below.refl _ _) 1) (fun hHeld => ?_)
      refine rg_in 0 rfl (by kernel_rfl) (by kernel_rfl) (by kernel_rfl) (by rfl) (v := ?_) (fun _ _ _ h => h) hHeld (fun w hSw => ?_) ?_
      rotate_left
      · (try dsimp only at hSw); go_simp <;> (with_reducible rfl)
      (try simp only [Act.put, List.setIfInBounds_toArray, List.set_cons_zero, List.set_cons_succ])
      refine rg_in 2 rfl (by kernel_rfl) (by kernel_rfl) (by kernel_rfl) (by rfl) (v := ?_) (fun _ _ _ h => h) hHeld (fun w hSw => ?_) ?_
      rotate_left
      · (try dsimp only at hSw); go_simp <;> (with_reducible rfl)
      (try simp only [Act.put, List.setIfInBounds_toArray, List.set_cons_zero, List.set_cons_succ])
      refine rg_in 3 rfl (by kernel_rfl) (by kernel_rfl) (by kernel_rfl) (by rfl) (v := ?_) (fun _ _ _ h => h) hHeld (fun w hSw => ?_) ?_
      rotate_left
      · (try dsimp only at hSw); go_simp <;> (with_reducible rfl)
      (try simp only [Act.put, List.setIfInBounds_toArray, List.set_cons_zero, List.set_cons_succ])
      refine rg_in 4 rfl (by kernel_rfl) (by kernel_rfl) (by kernel_rfl) (by rfl) (v := ?_) (fun _ _ _ h => h) hHeld (fun w hSw => ?_) ?_
      rotate_left
      · (try dsimp only at hSw); go_simp <;> (with_reducible rfl)
      (try simp only [Act.put, List.setIfInBounds_toArray, List.set_cons_zero, List.set_cons_succ])
      refine rg_in 5 rfl (by kernel_rfl) (by kernel_rfl) (by kernel_rfl) (by rfl) (v := ?_) (fun _ _ _ h => h) hHeld (fun w hSw => ?_) ?_
      rotate_left
      · (try dsimp only at hSw); go_simp <;> (with_reducible rfl)
      (try simp only [Act.put, List.setIfInBounds_toArray, List.set_cons_zero, List.set_cons_succ])
      refine rg_in 6 rfl (by kernel_rfl) (by kernel_rfl) (by kernel_rfl) (by rfl) (v := ?_) (fun _ _ _ h => h) hHeld (fun w hSw => ?_) ?_
      rotate_left
      · (try dsimp only at hSw); go_simp <;> (with_reducible rfl)
      (try simp only [Act.put, List.setIfInBounds_toArray, List.set_cons_zero, List.set_cons_succ])
      refine rg_do 1 rfl (by kernel_rfl) (by rfl) (fun K hK => ?_)
      go_simp
      (go_at_call 24; (with_reducible refine (hln.out _ hHeld).mono ?_); (rintro e w101 ⟨rfl, hb1⟩))
      refine hK.out _ _ (S_call hb1 hHeld rfl) (fun hHeld => ?_)
      clear hK K
      (try simp only [Act.put, List.setIfInBounds_toArray, List.set_cons_zero, List.set_cons_succ])
      refine rg_do 7 rfl (by kernel_rfl) (by rfl) (fun K hK => ?_)
      go_simp
      (go_at_call 24; (with_reducible refine (hln.out _ hHeld).mono ?_); (rintro e w107 ⟨rfl, hb7⟩))
      refine hK.out _ _ (S_call hb7 hHeld rfl) (fun hHeld => ?_)
      clear hK K
      (try simp only [Act.put, List.setIfInBounds_toArray, List.set_cons_zero, List.set_cons_succ])
      refine rg_in 8 rfl (by kernel_rfl) (by kernel_rfl) (by kernel_rfl) (by rfl) (v := ?_) (fun _ _ _ h => h) hHeld (fun w hSw => ?_) ?_
      rotate_left
      · (try dsimp only at hSw); go_simp <;> (with_reducible rfl)
      (try simp only [Act.put, List.setIfInBounds_toArray, List.set_cons_zero, List.set_cons_succ])
      refine rg_in 9 rfl (by kernel_rfl) (by kernel_rfl) (by kernel_rfl) (by rfl) (v := ?_) (fun _ _ _ h => h) hHeld (fun w hSw => ?_) ?_
      rotate_left
      · (try dsimp only at hSw); go_simp <;> (with_reducible rfl)
      (try simp only [Act.put, List.setIfInBounds_toArray, List.set_cons_zero, List.set_cons_succ])
      refine rg_in 10 rfl (by kernel_rfl) (by kernel_rfl) (by kernel_rfl) (by rfl) (v := ?_) (fun _ _ _ h => h) hHeld (fun w hSw => ?_) ?_
      rotate_left
      · (try dsimp only at hSw); go_simp <;> (with_reducible rfl)
      (try simp only [Act.put, List.setIfInBounds_toArray, List.set_cons_zero, List.set_cons_succ])
      refine rg_in 11 rfl (by kernel_rfl) (by kernel_rfl) (by kernel_rfl) (by rfl) (v := ?_) (fun _ _ _ h => h) hHeld (fun w hSw => ?_) ?_
      rotate_left
      · (try dsimp only at hSw); go_simp <;> (with_reducible rfl)
      (try simp only [Act.put, List.setIfInBounds_toArray, List.set_cons_zero, List.set_cons_succ])
      refine rg_in 12 rfl (by kernel_rfl) (by kernel_rfl) (by kernel_rfl) (by rfl) (v := ?_) (fun _ _ _ h => h) hHeld (fun w hSw => ?_) ?_
      rotate_left
      · (try dsimp only at hSw); go_simp <;> (with_reducible rfl)
      (try simp only [Act.put, List.setIfInBounds_toArray, List.set_cons_zero, List.set_cons_succ])
      refine rg_in 13 rfl (by kernel_rfl) (by kernel_rfl) (by kernel_rfl) (by rfl) (v := ?_) (fun _ _ _ h => h) hHeld (fun w hSw => ?_) ?_
      rotate_left
      · (try dsimp only at hSw); go_simp <;> (with_reducible rfl)
      (try simp only [Act.put, List.setIfInBounds_toArray, List.set_cons_zero, List.set_cons_succ])
      refine wpAnyH_done (by kernel_rfl) ?_ _
      have hHb := hHeld
      clear hHeld x0 x1 x2 x3 x4 hln
      go_wp2
      go_meet
      case rel => exact ⟨rfl, hHb⟩
    case rest =>
      obtain ⟨rfl, hbW⟩ := hcut
      clear hln x0 x1 x2 x3 x4 d1 d2 d3 d5 d6 hd HF9
      have hb17 := bel_next hb16 hbW
      have hpo := (HP9.out.later hbW).more hbW.size
      have HBc := Lib.hid ((HB9.out.later hbW).more hbW.size)
      have hpc := hpo.fits
      have hnc : (nn : Int) ≤ (p.c : Int) := by omega
      have hn00 : (0 : Int) ≤ (nn : Int) := by omega
      have hpt : PcT.Ok wc wc.heap.size ⟨p.A, nn, p.c, p.l.take nn⟩ := ⟨hpo.here.first (k := nn) (show nn ≤ p.n by omega), hpo.nil, (show nn ≤ p.c by omega), hpo.most⟩
      have HPT := Lib.hid hpt
      have HPO := Lib.hid hpo
      have HPL := Lib.hid hpl
      clear hpo hpt HB9 HP9 hb16 hbW hpl
      go_wp2_with fail
      refine (firm_any ⟨p.A, nn, p.c, p.l.take nn⟩ _).mono ?_
      rintro e W10 ⟨rfl, hb18⟩
      have hpt := (HPT.out.later hb18).more hb18.size
      have hb19 := bel_next hb17 hb18
      have hget : Calls Tryd.prog 20 #[(firmF ⟨p.A, nn, p.c, p.l.take nn⟩).agg, .int .i64 (at0 : Nat)] W10 fun e w' => e = .returned (.tuple #[.slice none 0 0, .int .i64 0, .int .i64 210]) ∧ Below W10.heap.size W10 w' := by
        have hr1 : (firmF ⟨p.A, nn, p.c, p.l.take nn⟩).right = true := firm_right hpt (show nn ≤ 524288 by omega)
        have hlt : (p.l.take nn).length = nn := by rw [List.length_take, HPO.out.len]; omega
        by_cases hle : nn ≤ at0
        · exact get_no _ _ W10.heap.size W10 (firm_lie hpt) (Nat.le_refl _) hr1 (.inr (.inl (by rw [firm_all]; show ((p.l.take nn).length : Int) ≤ _; omega)))
        · refine (getS _ at0 (p.l.take nn) none W10 (htab.below hb19 htab.lt) (firm_lie hpt) (firm_all _) hr1 (by omega) hatl.2.1 ?_).mono ?_
          · rw [HPL.out]
            refine HG2.out nn (by omega) ?_
            rw [List.length_append, hqlen]
            have := Hpn.out
            omega
          · rintro e w' ⟨hb, ⟨-, rfl⟩ | ⟨_, _, hg, -⟩⟩
            · exact ⟨rfl, hb⟩
            · cases hg
      simp only [firmF, FileT.agg, PcT.val] at hget ⊢
      go_wp2_with fail
      refine hget.mono ?_
      rintro e W11 ⟨rfl, hb20⟩
      have hb21 := bel_next hb19 hb20
      have hbf := bel_next hb18 hb20
      clear hget hpt HPT hb17 hb19 hb20 hb18
      go_wp2_with fail
      refine (firm_any p _).mono ?_
      rintro e W12 ⟨rfl, hb22⟩
      have hb23 := bel_next hb21 hb22
      have hbg := bel_next hbf hb22
      have hpo := (HPO.out.later hbg).more hbg.size
      have hget := getS (firmF p) at0 (q.l ++ pc) _ W12 (htab.below hb23 htab.lt) (firm_lie hpo) (by rw [firm_all]; exact HPL.out) (firm_right hpo (by omega)) hatl.2.2 hatl.2.1 HG1.out
      simp only [firmF, FileT.agg, PcT.val] at hget ⊢
      clear hb21 hb22 hbf
      go_wp2_with fail
      refine hget.mono ?_
      rintro e W13 ⟨hb24, ⟨hno, -⟩ | ⟨r, nx, hg, rfl, hro, -⟩⟩
      · cases hno
      · injection hg with hg
        injection hg with hgl hgn
        have hnx : nx = p.n := by rw [← hgn, List.length_append, hqlen, Hpn.out]
        subst hnx
        have hb25 := bel_next hb23 hb24
        have hbh := bel_next hbg hb24
        have hbo := HBc.out.later hbh
        have heq := bequal_any r.A b.A r.n r.c b.n b.c r.l b.l _ _ W13 hro.here hbo.here true (by unfold sameB; exact decide_eq_true hgl.symm)
        clear hget hb23 hb24 hbg hbh hgn hgl
        go_wp2_with fail
        refine heq.mono ?_
        rintro e W14 ⟨rfl, rfl⟩
        clear heq
        go_wp2
        go_ret
        exact ⟨rfl, hb25⟩
end Go.Proofs.YtghmehfmchadoaaDoor
/-
  Layer 11, plain: bits that are turned within 32 consecutive ones change the checksum.
-/
namespace Go.Proofs.YtghmehfmchadoaaDoor.Fra
set_option linter.unusedVariables false

/-- Bytes as one number, the first one lowest. -/
def leX : List UInt8 → Nat
  | [] => 0
  | x :: l => x.toNat ^^^ 2 ^ 8 * leX l
theorem take_leX : ∀ (l : List UInt8) (s : Nat), Crc.take s l = Crc.stN (8 * l.length) (s ^^^ leX l)
  | [], s => by show s = s ^^^ 0; rw [Nat.xor_zero]
  | x :: l, s => by
    show Crc.take (Crc.eat s x) l = _
    rw [take_leX l, show 8 * (x :: l).length = 8 + 8 * l.length by simp; omega, Crc.stN_add]
    show _ = Crc.stN (8 * l.length) (Crc.stN 8 (s ^^^ (x.toNat ^^^ 2 ^ 8 * leX l)))
    rw [← Nat.xor_assoc, Crc.stN_xor 8 (s ^^^ x.toNat), Crc.stN_pow 8]
    rfl
theorem stN_no {n t : Nat} (ht : t < 4294967296) (h : Crc.stN n t = 0) : t = 0 :=
  stN_inj n ht (by decide) (h.trans (Crc.stN_zero n).symm)
/-- Two rows that differ by a number of 32 bits, shifted. -/
theorem burst {l m : List UInt8} {r t s : Nat} (hl : m.length = l.length) (hx : leX m = leX l ^^^ 2 ^ r * t) (ht : t < 4294967296) (hr : r + 32 ≤ 8 * l.length) (h : Crc.take s m = Crc.take s l) : t = 0 := by
  rw [take_leX, take_leX, hl, hx, ← Nat.xor_assoc, Crc.stN_xor _ (s ^^^ leX l)] at h
  have h0 : Crc.stN (8 * l.length) (2 ^ r * t) = 0 := by
    have e := congrArg (fun x => Crc.stN (8 * l.length) (s ^^^ leX l) ^^^ x) h
    simp only [← Nat.xor_assoc, Nat.xor_self, Nat.zero_xor] at e
    exact e
  rw [show 8 * l.length = r + (8 * l.length - r) by omega, stN_shift] at h0
  exact stN_no ht h0
/-- A bit of a row is turned. -/
def turnL (l : List UInt8) (p : Nat) : List UInt8 := l.set (p / 8) (l.getD (p / 8) 0 ^^^ UInt8.ofNat (2 ^ (p % 8)))
theorem turn_len (l : List UInt8) (p : Nat) : (turnL l p).length = l.length := by unfold turnL; rw [List.length_set]
theorem xor_u8 (x : UInt8) (k : Nat) (hk : k < 8) : (x ^^^ UInt8.ofNat (2 ^ k)).toNat = x.toNat ^^^ 2 ^ k := by
  rw [UInt8.toNat_xor, UInt8.toNat_ofNat', Nat.mod_eq_of_lt]
  exact Nat.pow_lt_pow_of_lt (by decide) hk
theorem xor_mul (a b : Nat) : 2 ^ 8 * (a ^^^ b) = 2 ^ 8 * a ^^^ 2 ^ 8 * b := by
  have h := Nat.shiftLeft_xor_distrib (a := a) (b := b) (i := 8)
  simpa [Nat.shiftLeft_eq, Nat.mul_comm] using h
theorem leX_turn : ∀ (l : List UInt8) (p : Nat), p < 8 * l.length → leX (turnL l p) = leX l ^^^ 2 ^ p
  | [], p, h => by simp at h
  | x :: l, p, h => by
    by_cases hp : p < 8
    · have h0 : p / 8 = 0 := by omega
      have h1 : p % 8 = p := by omega
      unfold turnL
      rw [h0, h1]
      show (x ^^^ UInt8.ofNat (2 ^ p)).toNat ^^^ 2 ^ 8 * leX l = (x.toNat ^^^ 2 ^ 8 * leX l) ^^^ 2 ^ p
      rw [xor_u8 x p hp, Nat.xor_assoc, Nat.xor_assoc, Nat.xor_comm (2 ^ p)]
    · have h0 : p / 8 = (p - 8) / 8 + 1 := by omega
      have h1 : p % 8 = (p - 8) % 8 := by omega
      have e : turnL (x :: l) p = x :: turnL l (p - 8) := by
        unfold turnL
        rw [h0, h1, List.getD_cons_succ, List.set_cons_succ]
      rw [e]
      show x.toNat ^^^ 2 ^ 8 * leX (turnL l (p - 8)) = (x.toNat ^^^ 2 ^ 8 * leX l) ^^^ 2 ^ p
      rw [leX_turn l (p - 8) (by simp at h; omega), xor_mul, ← Nat.pow_add, show 8 + (p - 8) = p by omega, Nat.xor_assoc]
/-- The bits of a number are turned, from one of them on. -/
def turnsL (l : List UInt8) (f t : Nat) : Nat → List UInt8
  | 0 => l
  | k + 1 => if t / 2 ^ k % 2 = 1 then turnL (turnsL l f t k) (f + k) else turnsL l f t k
theorem turns_len (l : List UInt8) (f t : Nat) : ∀ k, (turnsL l f t k).length = l.length
  | 0 => rfl
  | k + 1 => by
    unfold turnsL
    split
    · rw [turn_len, turns_len l f t k]
    · exact turns_len l f t k
theorem leX_turns (l : List UInt8) (f t : Nat) : ∀ k, f + k ≤ 8 * l.length → leX (turnsL l f t k) = leX l ^^^ 2 ^ f * (t % 2 ^ k)
  | 0, _ => by rw [Nat.pow_zero, Nat.mod_one, Nat.mul_zero, Nat.xor_zero]; rfl
  | k + 1, h => by
    have ih := leX_turns l f t k (by omega)
    unfold turnsL
    have hs := Crc.split_bit t k
    by_cases h1 : t / 2 ^ k % 2 = 1
    · rw [if_pos h1, leX_turn _ _ (by rw [turns_len]; omega), ih, hs, h1, Nat.one_mul]
      have hm : 2 ^ f * (t % 2 ^ k ^^^ 2 ^ k) = 2 ^ f * (t % 2 ^ k) ^^^ 2 ^ (f + k) := by
        have := Nat.shiftLeft_xor_distrib (a := t % 2 ^ k) (b := 2 ^ k) (i := f)
        simp only [Nat.shiftLeft_eq] at this
        rw [Nat.mul_comm, this, Nat.mul_comm, Nat.pow_add, Nat.mul_comm (2 ^ k)]
      rw [hm, Nat.xor_assoc]
    · rw [if_neg h1, ih, hs, show t / 2 ^ k % 2 = 0 by omega, Nat.zero_mul, Nat.xor_zero]
/-- A record with turned bits is not read. -/
theorem turned_out {l : List UInt8} {f t : Nat} (ht : t < 4294967296) (h0 : t ≠ 0) (hf : f + 32 ≤ 8 * l.length) : Crc.more 0 (sizeL l.length ++ turnsL l f t 32) ≠ Crc.more 0 (sizeL l.length ++ l) := by
  intro h
  unfold Crc.more at h
  have l1 := Crc.take_lt (sizeL l.length ++ turnsL l f t 32) (s := 4294967295 - 0) (by omega)
  have l2 := Crc.take_lt (sizeL l.length ++ l) (s := 4294967295 - 0) (by omega)
  have h' : Crc.take (4294967295 - 0) (sizeL l.length ++ turnsL l f t 32) = Crc.take (4294967295 - 0) (sizeL l.length ++ l) := by omega
  rw [Crc.take_append, Crc.take_append] at h'
  have hx := leX_turns l f t 32 hf
  rw [Nat.mod_eq_of_lt (by simpa using ht)] at hx
  exact h0 (burst (turns_len l f t 32) hx ht hf h')
end Go.Proofs.YtghmehfmchadoaaDoor.Fra
/-
  Layer 11, plain: where the bytes of a record lie; a record with turned bits is not read. No program in sight.
-/
namespace Go.Proofs.YtghmehfmchadoaaDoor.Fra
set_option linter.unusedVariables false

/-- The offsets, of k from n on, that are no marks. -/
def dataPos : Nat → Nat → List Nat
  | _, 0 => []
  | n, k + 1 => if n % 64 = 0 then dataPos (n + 1) k else n :: dataPos (n + 1) k
theorem dataPos_zero (n : Nat) : dataPos n 0 = [] := by unfold dataPos; rfl
theorem dataPos_at {n : Nat} (k : Nat) (h : n % 64 = 0) : dataPos n (k + 1) = dataPos (n + 1) k := by rw [dataPos, if_pos h]
theorem dataPos_in {n : Nat} (k : Nat) (h : n % 64 ≠ 0) : dataPos n (k + 1) = n :: dataPos (n + 1) k := by rw [dataPos, if_neg h]
/-- One more at the end. -/
theorem dataPos_snoc : ∀ (k n : Nat), dataPos n (k + 1) = dataPos n k ++ (if (n + k) % 64 = 0 then [] else [n + k])
  | 0, n => by
    by_cases h : n % 64 = 0
    · rw [dataPos_at 0 h, dataPos_zero, dataPos_zero, if_pos (by simpa using h)]; rfl
    · rw [dataPos_in 0 h, dataPos_zero, dataPos_zero, if_neg (by simpa using h)]; rfl
  | k + 1, n => by
    have ih := dataPos_snoc k (n + 1)
    rw [show n + 1 + k = n + (k + 1) by omega] at ih
    by_cases h : n % 64 = 0
    · rw [dataPos_at _ h, ih, dataPos_at _ h]
    · rw [dataPos_in _ h, ih, dataPos_in _ h]; rfl
theorem dataPos_lay : ∀ (l : List UInt8) (n : Nat), dataPos n (layP n l).length = (posP n l).map (fun x => x.2 - 1)
  | [], n => by rw [layP_nil, posP_nil]; exact dataPos_zero n
  | x :: l, n => by
    by_cases h : n % 64 = 0
    · rw [layP_at x l h, posP_at x l h, List.length_cons, List.length_cons, dataPos_at _ h, dataPos_in _ (by omega), dataPos_lay l (n + 2)]
      rfl
    · rw [layP_in x l h, posP_in x l h, List.length_cons, dataPos_in _ h, dataPos_lay l (n + 1)]
      rfl
/-- The offset of the j-th byte. -/
def placeN (n : Nat) (l : List UInt8) (j : Nat) : Nat := ((posP n l).getD j (0, 0)).2 - 1
theorem place_zero_at {n : Nat} (x : UInt8) (l : List UInt8) (h : n % 64 = 0) : placeN n (x :: l) 0 = n + 1 := by unfold placeN; rw [posP_at x l h]; rfl
theorem place_zero_in {n : Nat} (x : UInt8) (l : List UInt8) (h : n % 64 ≠ 0) : placeN n (x :: l) 0 = n := by unfold placeN; rw [posP_in x l h]; rfl
theorem place_succ_at {n : Nat} (x : UInt8) (l : List UInt8) (j : Nat) (h : n % 64 = 0) : placeN n (x :: l) (j + 1) = placeN (n + 2) l j := by unfold placeN; rw [posP_at x l h]; rfl
theorem place_succ_in {n : Nat} (x : UInt8) (l : List UInt8) (j : Nat) (h : n % 64 ≠ 0) : placeN n (x :: l) (j + 1) = placeN (n + 1) l j := by unfold placeN; rw [posP_in x l h]; rfl
theorem lay_set : ∀ (l : List UInt8) (n j : Nat) (v : UInt8), j < l.length → n ≤ placeN n l j ∧ placeN n l j < n + (layP n l).length ∧ (layP n l).getD (placeN n l j - n) 0 = l.getD j 0 ∧ (layP n l).set (placeN n l j - n) v = layP n (l.set j v)
  | [], n, j, v, h => absurd h (Nat.not_lt_zero _)
  | x :: l, n, 0, v, _ => by
    by_cases h : n % 64 = 0
    · rw [place_zero_at x l h, layP_at x l h, show n + 1 - n = 1 by omega, List.set_cons_zero, layP_at v l h]
      refine ⟨by omega, by simp only [List.length_cons]; omega, rfl, rfl⟩
    · rw [place_zero_in x l h, layP_in x l h, Nat.sub_self, List.set_cons_zero, List.set_cons_zero, layP_in v l h]
      refine ⟨by omega, by simp, rfl, rfl⟩
  | x :: l, n, j + 1, v, hj => by
    have hj' : j < l.length := by simpa using hj
    by_cases h : n % 64 = 0
    · obtain ⟨h1, h2, h3, h4⟩ := lay_set l (n + 2) j v hj'
      rw [place_succ_at x l j h, layP_at x l h, List.set_cons_succ, layP_at x _ h, show placeN (n + 2) l j - n = (placeN (n + 2) l j - (n + 2)) + 2 by omega]
      refine ⟨by omega, by simp; omega, h3, ?_⟩
      rw [← h4]; rfl
    · obtain ⟨h1, h2, h3, h4⟩ := lay_set l (n + 1) j v hj'
      rw [place_succ_in x l j h, layP_in x l h, List.set_cons_succ, layP_in x _ h, show placeN (n + 1) l j - n = (placeN (n + 1) l j - (n + 1)) + 1 by omega]
      refine ⟨by omega, by simp; omega, h3, ?_⟩
      rw [← h4]; rfl
/-- The places are those of any bytes as long. -/
theorem place_same : ∀ (l m : List UInt8) (n j : Nat), l.length = m.length → placeN n l j = placeN n m j
  | [], [], n, j, _ => rfl
  | x :: l, y :: m, n, 0, h => by
    by_cases h0 : n % 64 = 0
    · rw [place_zero_at x l h0, place_zero_at y m h0]
    · rw [place_zero_in x l h0, place_zero_in y m h0]
  | x :: l, y :: m, n, j + 1, h => by
    by_cases h0 : n % 64 = 0
    · rw [place_succ_at x l j h0, place_succ_at y m j h0, place_same l m _ j (by simpa using h)]
    · rw [place_succ_in x l j h0, place_succ_in y m j h0, place_same l m _ j (by simpa using h)]
  | [], y :: m, n, j, h => by simp at h
  | x :: l, [], n, j, h => by simp at h
/-- The length and the checksum of a record. -/
def hdL (l : List UInt8) : List UInt8 := sizeL l.length ++ Crc.laid (Crc.more 0 (sizeL l.length ++ l))
theorem hd_enc (l : List UInt8) : encL l = hdL l ++ l := by unfold encL hdL; rw [List.append_assoc]
theorem hd_len (l : List UInt8) : (hdL l).length = 6 := rfl
theorem laid_back {s t : Nat} (hs : s < 4294967296) (ht : t < 4294967296) (h : Crc.laid s = Crc.laid t) : s = t := by
  unfold Crc.laid at h
  simp only [List.cons.injEq, and_true] at h
  obtain ⟨h0, h1, h2, h3⟩ := h
  have e0 := congrArg UInt8.toNat h0
  have e1 := congrArg UInt8.toNat h1
  have e2 := congrArg UInt8.toNat h2
  have e3 := congrArg UInt8.toNat h3
  simp only [UInt8.toNat_ofNat'] at e0 e1 e2 e3
  omega
/-- A record whose bytes do not fit its checksum is not read. -/
theorem get_hurt (all l m : List UInt8) (hm : m.length = l.length) (h1 : 1 ≤ l.length) (h2 : l.length ≤ 4096) (hne : Crc.more 0 (sizeL l.length ++ m) ≠ Crc.more 0 (sizeL l.length ++ l)) :
    getL (all ++ aheadL all ++ layP (atN all) (hdL l ++ m)) (atN all) = none := by
  unfold getL
  by_cases hs : startB (all ++ aheadL all ++ layP (atN all) (hdL l ++ m)) (atN all) = true
  · rw [if_pos hs]
    have hd : (all ++ aheadL all ++ layP (atN all) (hdL l ++ m)).drop (atN all) = layP (atN all) (hdL l ++ m) := by
      have := piece_at all []
      rw [← this, List.drop_left]
    rw [hd]
    have hp := past_lay (hdL l ++ m) [] (atN all)
    rw [List.append_nil, pastP_nil, List.append_nil] at hp
    rw [hp]
    unfold getP
    have hf := posP_fst (hdL l ++ m) (atN all)
    have hlen : (posP (atN all) (hdL l ++ m)).length = 6 + l.length := by rw [posP_len, List.length_append, hd_len, hm]
    have hn : ((hdL l ++ m).getD 0 0).toNat * 256 + ((hdL l ++ m).getD 1 0).toNat = l.length := size_back h2
    have hdr : (hdL l ++ m).drop 6 = m := by
      have := hd_len l
      rw [← this, List.drop_left]
    simp only [hf, hlen, hn, hdr]
    rw [if_neg (by omega), if_neg]
    intro e
    rw [List.take_of_length_le (by omega), List.take_of_length_le (by rw [List.length_append, hd_len]; omega)] at e
    unfold encL hdL at e
    rw [hm, List.append_assoc] at e
    have e2 := List.append_cancel_left e
    have e3 := (List.append_inj e2 rfl).1
    exact hne (laid_back (Crc.more_lt _ _) (Crc.more_lt _ _) e3)
  · rw [if_neg hs]
/-- What stands behind another mark is not read. -/
theorem get_marked (all : List UInt8) (a : Nat) (h : all.getD (a - a % 64) 0 ≠ 0) : getL all a = none := by
  unfold getL startB
  rw [beq_eq_false_iff_ne.2 h, Bool.and_false, Bool.and_false]
  rfl
/-- A bit of a record's bytes is turned where they lie. -/
theorem hurt_turn (A hd l m : List UInt8) (n p : Nat) (hA : A.length = n) (h6 : hd.length = 6) (hm : m.length = l.length) (hp : p / 8 < l.length) :
    n ≤ placeN n (hd ++ l) (6 + p / 8) ∧ placeN n (hd ++ l) (6 + p / 8) < (A ++ layP n (hd ++ m)).length ∧ (A ++ layP n (hd ++ m)).getD (placeN n (hd ++ l) (6 + p / 8)) 0 = m.getD (p / 8) 0 ∧
    (A ++ layP n (hd ++ m)).set (placeN n (hd ++ l) (6 + p / 8)) (m.getD (p / 8) 0 ^^^ UInt8.ofNat (2 ^ (p % 8))) = A ++ layP n (hd ++ turnL m p) := by
  have hs := place_same (hd ++ l) (hd ++ m) n (6 + p / 8) (by rw [List.length_append, List.length_append, hm])
  rw [hs]
  obtain ⟨h1, h2, h3, h4⟩ := lay_set (hd ++ m) n (6 + p / 8) (m.getD (p / 8) 0 ^^^ UInt8.ofNat (2 ^ (p % 8))) (by rw [List.length_append, h6, hm]; omega)
  have hg : (hd ++ m).getD (6 + p / 8) 0 = m.getD (p / 8) 0 := by
    rw [List.getD_eq_getElem?_getD, List.getElem?_append_right (by omega), h6, Nat.add_sub_cancel_left, ← List.getD_eq_getElem?_getD]
  refine ⟨h1, by rw [List.length_append, hA]; exact h2, ?_, ?_⟩
  · rw [List.getD_eq_getElem?_getD, List.getElem?_append_right (by omega), hA, ← List.getD_eq_getElem?_getD, h3, hg]
  · rw [List.set_append_right _ _ (by omega), hA, h4, List.set_append_right _ _ (by omega), h6, Nat.add_sub_cancel_left]
    rfl
end Go.Proofs.YtghmehfmchadoaaDoor.Fra
