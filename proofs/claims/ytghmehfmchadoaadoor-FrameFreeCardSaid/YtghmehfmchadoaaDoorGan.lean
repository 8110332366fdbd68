import Derived.Test.YtghmehfmchadoaaDoorGam
import Derived.Test.YtghmehfmchadoaaDoorGah
import Derived.Test.YtghmehfmchadoaaDoorGal
import Derived.Test.YtghmehfmchadoaaDoorGab
import Derived.Lib.MakeNoZero
/-
  Layer 11, the law FrameTorn: the walk.
-/
namespace Go.Proofs.YtghmehfmchadoaaDoor
open Go.RowKit
set_option linter.unusedVariables false

/-- A calm file in memory, by its durable bytes. -/
theorem firm_calm (q : PcT) : (firmF q).s = ⟨q.l, [], -1, -1, false⟩ := rfl
theorem wrapU_small (m : Nat) (h : m ≤ 1000000) : IntKind.u64.wrap (m : Int) = (m : Int) := by
  have : IntKind.u64.wrap (m : Int) = (m : Int) % 18446744073709551616 := by simp [IntKind.wrap, IntKind.bits, IntKind.signed]
  rw [this]; omega
theorem cut_at (cut : Int) (m : Nat) (hm : 0 < m) : ∃ d : Nat, (IntKind.u64.wrap cut).tmod (m : Int) = (d : Int) ∧ d < m := by
  have h0 : 0 ≤ IntKind.u64.wrap cut := by
    have : IntKind.u64.wrap cut = cut % 18446744073709551616 := by simp [IntKind.wrap, IntKind.bits, IntKind.signed]
    rw [this]; omega
  refine ⟨((IntKind.u64.wrap cut).tmod (m : Int)).toNat, ?_, ?_⟩
  · rw [Int.tmod_eq_emod_of_nonneg h0]
    have := Int.emod_nonneg (IntKind.u64.wrap cut) (show (m : Int) ≠ 0 by omega)
    omega
  · rw [Int.tmod_eq_emod_of_nonneg h0]
    have h1 := Int.emod_nonneg (IntKind.u64.wrap cut) (show (m : Int) ≠ 0 by omega)
    have h2 := Int.emod_lt_of_pos (IntKind.u64.wrap cut) (show (0 : Int) < (m : Int) by omega)
    omega
set_option maxRecDepth 100000 in
set_option maxHeartbeats 8000000 in
theorem frameTorn_walk (w : World) (A0 : Option Addr) (n0 c0 : Nat) (l0 : List UInt8) (h0 : Bytes w w.heap.size A0 n0 l0) (hA0 : A0 = none → c0 = 0) (hn0 : n0 ≤ c0) (hc0 : c0 ≤ maxLen)
    (A1 : Option Addr) (n1 c1 : Nat) (l1 : List UInt8) (h1 : Bytes w w.heap.size A1 n1 l1) (hA1 : A1 = none → c1 = 0) (hn1 : n1 ≤ c1) (hc1 : c1 ≤ maxLen) (cut : Int) (hcut : (Lit.int .i64 cut).wf = true) (htab : Tab w) :
    Calls Tryd.prog 5 #[.slice A0 n0 c0, .slice A1 n1 c1, .int .i64 cut] w fun e w' => e = .returned (.bool true) ∧ Below w.heap.size w w' := by
  have HP0 := Lib.hid (show PcT.Ok w w.heap.size ⟨A0, n0, c0, l0⟩ from ⟨h0, hA0, hn0, hc0⟩)
  have HP1 := Lib.hid (show PcT.Ok w w.heap.size ⟨A1, n1, c1, l1⟩ from ⟨h1, hA1, hn1, hc1⟩)
  clear h0 hA0 hn0 hc0 h1 hA1 hn1 hc1
  go_enter Tryd.func5, Tryd.ntmps5
  go_wp2_with fail
  refine (wakes_any _ htab).mono ?_
  rintro e W1 ⟨rfl, hb1⟩
  have hfe := few_any ⟨A0, n0, c0, l0⟩ 500 w.heap.size W1 (HP0.out.later hb1) hb1.size (by omega)
  rw [show ((500 : Nat) : Int) = 500 from rfl] at hfe
  go_wp2_with fail
  refine hfe.mono ?_
  rintro e W2 ⟨q, rfl, hql, hqo, hb2, -⟩
  have hb3 := bel_next hb1 hb2
  clear hfe hb1 hb2
  go_wp2_with fail
  refine (firm_any q _).mono ?_
  rintro e W3 ⟨rfl, hb4⟩
  have hb5 := bel_next hb3 hb4
  have hqo3 := (hqo.later hb4).more hb4.size
  have hqn : q.n ≤ 500 := by rw [← hqo.len, hql, List.length_take]; omega
  have HF := Lib.hid (FAt.new (firm_lie hqo3) 25)
  have hb6 := bel_alloc hb5 (.cells #[.slice q.A q.n q.c, .slice none 0 0, .int .i64 (-1), .int .i64 (-1), .bool false] 25)
  have hg7 : w.heap.size ≤ W3.heap.size := hb5.size
  have hg7l : W3.heap.size < (W3.alloc (.cells #[.slice q.A q.n q.c, .slice none 0 0, .int .i64 (-1), .int .i64 (-1), .bool false] 25)).heap.size := by rw [World.size_alloc]; omega
  simp only [firmF, FileT.agg, PcT.val] at HF ⊢
  clear hb3 hb4 hb5 hqo hqo3
  have hfe := few_any ⟨A1, n1, c1, l1⟩ 500 w.heap.size (W3.alloc (.cells #[.slice q.A q.n q.c, .slice none 0 0, .int .i64 (-1), .int .i64 (-1), .bool false] 25)) (HP1.out.later hb6) hb6.size (by omega)
  rw [show ((500 : Nat) : Int) = 500 from rfl] at hfe
  go_wp2_with fail
  generalize W3.alloc (.cells #[.slice q.A q.n q.c, .slice none 0 0, .int .i64 (-1), .int .i64 (-1), .bool false] 25) = W4 at *
  generalize W3.heap.size = g7 at *
  refine hfe.mono ?_
  rintro e W5 ⟨b, rfl, hbl, hbo, hb7, -⟩
  have hb8 := bel_next hb6 hb7
  have HF5 := Lib.hid (show FAt W5 g7 (firmF q) from HF.out.later hb7)
  have hg5l := Nat.lt_of_lt_of_le hg7l hb7.size
  have hbn : b.n ≤ 500 := by rw [← hbo.len, hbl, List.length_take]; omega
  have HB := Lib.hid hbo
  have hrq : (firmF q).right = true := firm_right (p := q) HF5.out.l.firm (show q.n ≤ 524288 by omega)
  clear hfe hb6 hb7 HF hg7l hql hbl hbo
  by_cases hb0 : b.n = 0
  · have hz := fsize_no (firmF q) 0 W5.heap.size W5 HF5.out.l (Nat.le_refl _) (right_rows HF5.out.l hrq).1 (.inr (by decide))
    obtain ⟨⟨f0, f1, f2, f3, f4⟩, -⟩ := HF5.out.v
    simp only [firmF, FileT.agg, PcT.val] at hz f0 f1 f2 f3 f4
    have hb0' : ((b.n : Int) == 0) = true := by rw [beq_iff_eq]; omega
    clear hb0
    go_wp2_with fail
    refine hz.mono ?_
    rintro e W6 ⟨rfl, hb9⟩
    have hb10 := bel_next hb8 hb9
    clear hz f0 f1 f2 f3 f4 hb8 hb9
    go_wp2
    go_ret
    exact ⟨rfl, hb10⟩
  · have hb0' : ((b.n : Int) == 0) = false := by rw [beq_eq_false_iff_ne]; omega
    have hpl := Fra.piece_len q.l (Fra.encL b.l) (by rw [Fra.encL_len, HB.out.len]; omega)
    have hqlen : q.l.length = q.n := HF5.out.l.firm.len
    have hput := putS (firmF q) b q.l [] W5 (htab.below hb8 htab.lt) HF5.out.l HB.out rfl hrq (by omega) (by rw [List.flatten_nil, List.append_nil, hqlen]; omega)
    rw [List.flatten_nil, List.append_nil, List.nil_append] at hput
    obtain ⟨at0, hat⟩ : ∃ a, Fra.atN q.l = a := ⟨_, rfl⟩
    rw [hat] at hput
    obtain ⟨⟨f0, f1, f2, f3, f4⟩, -⟩ := HF5.out.v
    simp only [firmF, FileT.agg, PcT.val] at hput f0 f1 f2 f3 f4
    have Hput := Lib.hid hput
    have Hat := Lib.hid hat
    clear hput hat
    go_wp2_with fail
    refine Hput.out.mono ?_
    rintro e W6 ⟨Y, rfl, hYs, hYL, hb9, -⟩
    clear Hput f0 f1 f2 f3 f4
    have HF6 := Lib.hid (HF5.out.later hb9)
    have HBo := Lib.hid ((HB.out.later hb9).more hb9.size)
    have hb10 := bel_next hb8 hb9
    have hY1 := FAt.new hYL 25
    have hb11 := bel_alloc (Below.refl W6.heap.size W6) (.cells #[.slice Y.F.A Y.F.n Y.F.c, .slice Y.lA Y.ln Y.lc, .int .i64 Y.fuse, .int .i64 Y.fault, .bool Y.off] 25)
    have HY7 := Lib.hid hY1
    have HF7 := Lib.hid (HF6.out.later hb11)
    have HB7 := Lib.hid ((HBo.out.later hb11).more hb11.size)
    have hb12 := bel_next hb10 hb11
    have hplen : (Fra.pieceL q.l (Fra.encL b.l)).length ≥ 7 := by
      unfold Fra.pieceL
      rw [List.length_append]
      have := (Fra.layP_ge (Fra.encL b.l) (Fra.atN q.l)).1
      rw [Fra.encL_len, HB.out.len] at this
      omega
    have hallY : Y.all = q.l ++ Fra.pieceL q.l (Fra.encL b.l) := by rw [← all_s, hYs]; show q.l ++ [Fra.pieceL q.l (Fra.encL b.l)].flatten = _; simp
    have hrY := right_calm HY7.out.l hYs (by intro l hl e; rcases List.mem_singleton.1 hl with rfl; rw [e] at hplen; simp at hplen) (by simp; rw [hqlen]; omega)
    have HG1 := Lib.hid (Fra.get_put q.l b.l [] (by rw [HB.out.len]; omega) (by rw [HB.out.len]; omega))
    have HG2 := Lib.hid (fun n (h1 : q.l.length ≤ n) h2 => Fra.get_torn q.l b.l (by rw [HB.out.len]; omega) (by rw [HB.out.len]; omega) n h1 h2)
    have hatl : q.l.length ≤ at0 ∧ at0 % 64 ≠ 0 ∧ at0 < (q.l ++ Fra.pieceL q.l (Fra.encL b.l)).length := by
      have h1 := Fra.atN_in q.l
      have h2 := Fra.atN_ge q.l
      have h3 := Fra.piece_end q.l (Fra.encL b.l)
      have h4 := (Fra.layP_ge (Fra.encL b.l) (Fra.atN q.l)).1
      rw [Fra.encL_len] at h4
      rw [Hat.out] at h1 h2 h3 h4
      refine ⟨h2, h1, by rw [h3]; omega⟩
    rw [List.append_nil, Hat.out] at HG1
    rw [Hat.out] at HG2
    generalize Fra.pieceL q.l (Fra.encL b.l) = pc at *
    have hsd := said_any Y _ _ HY7.out.l (Nat.le_refl _) hrY
    clear hb8 hb9 hb10 hb11 HF6 HBo HB HF5 hYL hY1 hg5l Hat
    simp only [FileT.agg, PcT.val]
    go_upto_region 10 with fail
    generalize W6.alloc (.cells #[.slice Y.F.A Y.F.n Y.F.c, .slice Y.lA Y.ln Y.lc, .int .i64 Y.fuse, .int .i64 Y.fault, .bool Y.off] 25) = W7 at *
    generalize W6.heap.size = g9 at *
    obtain ⟨⟨f0, f1, f2, f3, f4⟩, -⟩ := HY7.out.v
    simp only [FileT.agg, PcT.val] at hsd
    go_wp2_with fail
    refine hsd.mono ?_
    rintro e W8 ⟨p, rfl, hpl, hpo, hb13, -⟩
    rw [hallY] at hpl
    have hb14 := bel_next hb12 hb13
    have HF8 := Lib.hid (HF7.out.later hb13)
    have HB8 := Lib.hid ((HB7.out.later hb13).more hb13.size)
    have HP := Lib.hid hpo
    have hpn : p.n = q.n + pc.length := by rw [← hpo.len, hpl, List.length_append, hqlen]
    have hnle : ¬ p.n ≤ q.n := by omega
    have hpn9 : p.n ≤ 9000 := by omega
    have hpq7 : q.n + 7 ≤ p.n := by omega
    have Hpn := Lib.hid hpn
    clear hpn
    clear hsd f0 f1 f2 f3 f4 hb12 hb13 HF7 HB7 HY7 hpo hYs hrY hallY
    have hln := lenS (firmF q) ⟨q.l, [], -1, -1, false⟩ W8 HF8.out.l rfl (by have := right_s HF8.out.l; rw [hrq] at this; exact this.symm)
    rw [show (FileS.all ⟨q.l, [], -1, -1, false⟩).length = q.n by show (q.l ++ [].flatten).length = _; rw [List.flatten_nil, List.append_nil, hqlen]] at hln
    obtain ⟨⟨f0, f1, f2, f3, f4⟩, -⟩ := HF8.out.v
    simp only [firmF, FileT.agg, PcT.val] at hln f0 f1 f2 f3 f4
    go_wp2_with fail
    refine hln.mono ?_
    rintro e W9 ⟨rfl, hb15⟩
    clear hln f0 f1 f2 f3 f4
    have hb16 := bel_next hb14 hb15
    have HF9 := Lib.hid (HF8.out.later hb15)
    have HB9 := Lib.hid ((HB8.out.later hb15).more hb15.size)
    have HP9 := Lib.hid ((HP.out.later hb15).more hb15.size)
    clear HF8 HB8 HP hb14 hb15
    go_upto_region 13 with fail
    generalize W9 = W0 at *
    have hln := Lib.hid (fun W (h : Below W0.heap.size W0 W) => show Calls Tryd.prog 24 #[(firmF q).agg] W fun e w' => e = .returned (.int .i64 (q.n : Nat)) ∧ Below W.heap.size W w' from by
      have hl := lenS (firmF q) ⟨q.l, [], -1, -1, false⟩ W ((HF9.out.later h).l) rfl (by have := right_s HF9.out.l; rw [hrq] at this; exact this.symm)
      rw [show (FileS.all ⟨q.l, [], -1, -1, false⟩).length = q.n by show (q.l ++ [].flatten).length = _; rw [List.flatten_nil, List.append_nil, hqlen]] at hl
      exact hl)
    have x0 : ∀ W, Below W0.heap.size W0 W → W.cell? ⟨g7, 0, none⟩ = some (.slice q.A q.n q.c) := fun W h => (HF9.out.later h).v.1.1
    have x1 : ∀ W, Below W0.heap.size W0 W → W.cell? ⟨g7, 1, none⟩ = some (.slice none 0 0) := fun W h => (HF9.out.later h).v.1.2.1
    have x2 : ∀ W, Below W0.heap.size W0 W → W.cell? ⟨g7, 2, none⟩ = some (.int .i64 (-1)) := fun W h => (HF9.out.later h).v.1.2.2.1
    have x3 : ∀ W, Below W0.heap.size W0 W → W.cell? ⟨g7, 3, none⟩ = some (.int .i64 (-1)) := fun W h => (HF9.out.later h).v.1.2.2.2.1
    have x4 : ∀ W, Below W0.heap.size W0 W → W.cell? ⟨g7, 4, none⟩ = some (.bool false) := fun W h => (HF9.out.later h).v.1.2.2.2.2
    simp only [firmF, FileT.agg, PcT.val] at hln
    obtain ⟨m, hm⟩ : ∃ m, p.n - q.n = m := ⟨_, rfl⟩
    have hm1 : 0 < m ∧ m ≤ 9000 := by omega
    obtain ⟨d, hd, hdm⟩ := cut_at cut m hm1.1
    obtain ⟨nn, hnn⟩ : ∃ nn, q.n + d = nn := ⟨_, rfl⟩
    have hnb : q.n ≤ nn ∧ nn < p.n := by omega
    have d1 : IntKind.i64.wrap ((p.n : Int) - (q.n : Int)) = (m : Int) := by rw [wrap_small _ (by omega)]; omega
    have d2 : IntKind.u64.wrap (m : Int) = (m : Int) := by rw [wrapU_small m (by omega)]
    have d3 : (m = 0) = False := by simp; omega
    have d5 : IntKind.i64.wrap (d : Int) = (d : Int) := wrap_small _ (by omega)
    have d6 : IntKind.i64.wrap ((q.n : Int) + (d : Int)) = (nn : Int) := by rw [wrap_small _ (by omega)]; omega
    clear hm hnn hm1 hdm hnle hpq7
    go_cut [13] (fun s wx => s = .int .i64 nn ∧ Below W0.heap.size W0 wx)
    case first =>
      refine wp_region_held_drew (S := fun W => Below W0.heap.size W0 W) (by kernel_rfl) (below_drewN (Below.refl _ _) 1) (fun hHeld => ?_)
      refine rg_in 0 rfl (by kernel_rfl) (by kernel_rfl) (by kernel_rfl) (by rfl) (v := ?_) (fun _ _ _ h => h) hHeld (fun w hSw => ?_) ?_
      rotate_left
      · (try dsimp only at hSw); go_simp <;> (with_reducible rfl)
      (try simp only [Act.put, List.setIfInBounds_toArray, List.set_cons_zero, List.set_cons_succ])
      refine rg_in 2 rfl (by kernel_rfl) (by kernel_rfl) (by kernel_rfl) (by rfl) (v := ?_) (fun _ _ _ h => h) hHeld (fun w hSw => ?_) ?_
      rotate_left
      · (try dsimp only at hSw); go_simp <;> (with_reducible rfl)
      (try simp only [Act.put, List.setIfInBounds_toArray, List.set_cons_zero, List.set_cons_succ])
      refine rg_in 3 rfl (by kernel_rfl) (by kernel_rfl) (by kernel_rfl) (by rfl) (v := ?_) (fun _ _ _ h => h) hHeld (fun w hSw => ?_) ?_
      rotate_left
      · (try dsimp only at hSw); go_simp <;> (with_reducible rfl)
      (try simp only [Act.put, List.setIfInBounds_toArray, List.set_cons_zero, List.set_cons_succ])
      refine rg_in 4 rfl (by kernel_rfl) (by kernel_rfl) (by kernel_rfl) (by rfl) (v := ?_) (fun _ _ _ h => h) hHeld (fun w hSw => ?_) ?_
      rotate_left
      · (try dsimp only at hSw); go_simp <;> (with_reducible rfl)
      (try simp only [Act.put, List.setIfInBounds_toArray, List.set_cons_zero, List.set_cons_succ])
      refine rg_in 5 rfl (by kernel_rfl) (by kernel_rfl) (by kernel_rfl) (by rfl) (v := ?_) (fun _ _ _ h => h) hHeld (fun w hSw => ?_) ?_
      rotate_left
      · (try dsimp only at hSw); go_simp <;> (with_reducible rfl)
      (try simp only [Act.put, List.setIfInBounds_toArray, List.set_cons_zero, List.set_cons_succ])
      refine rg_in 6 rfl (by kernel_rfl) (by kernel_rfl) (by kernel_rfl) (by rfl) (v := ?_) (fun _ _ _ h => h) hHeld (fun w hSw => ?_) ?_
      rotate_left
      · (try dsimp only at hSw); go_simp <;> (with_reducible rfl)
      (try simp only [Act.put, List.setIfInBounds_toArray, List.set_cons_zero, List.set_cons_succ])
      refine rg_do 1 rfl (by kernel_rfl) (by rfl) (fun K hK => ?_)
      go_simp
      (go_at_call 24; (with_reducible refine (hln.out _ hHeld).mono ?_); (rintro e w101 ⟨rfl, hb1⟩))
      refine hK.out _ _ (S_call hb1 hHeld rfl) (fun hHeld => ?_)
      clear hK K
      (try simp only [Act.put, List.setIfInBounds_toArray, List.set_cons_zero, List.set_cons_succ])
      refine rg_do 7 rfl (by kernel_rfl) (by rfl) (fun K hK => ?_)
      go_simp
      (go_at_call 24; (with_reducible refine (hln.out _ hHeld).mono ?_); (rintro e w107 ⟨rfl, hb7⟩))
      refine hK.out _ _ (S_call hb7 hHeld rfl) (fun hHeld => ?_)
      clear hK K
      (try simp only [Act.put, List.setIfInBounds_toArray, List.set_cons_zero, List.set_cons_succ])
      refine rg_in 8 rfl (by kernel_rfl) (by kernel_rfl) (by kernel_rfl) (by rfl) (v := ?_) (fun _ _ _ h => h) hHeld (fun w hSw => ?_) ?_
      rotate_left
      · (try dsimp only at hSw); go_simp <;> (with_reducible rfl)
      (try simp only [Act.put, List.setIfInBounds_toArray, List.set_cons_zero, List.set_cons_succ])
      refine rg_in 9 rfl (by kernel_rfl) (by kernel_rfl) (by kernel_rfl) (by rfl) (v := ?_) (fun _ _ _ h => h) hHeld (fun w hSw => ?_) ?_
      rotate_left
      · (try dsimp only at hSw); go_simp <;> (with_reducible rfl)
      (try simp only [Act.put, List.setIfInBounds_toArray, List.set_cons_zero, List.set_cons_succ])
      refine rg_in 10 rfl (by kernel_rfl) (by kernel_rfl) (by kernel_rfl) (by rfl) (v := ?_) (fun _ _ _ h => h) hHeld (fun w hSw => ?_) ?_
      rotate_left
      · (try dsimp only at hSw); go_simp <;> (with_reducible rfl)
      (try simp only [Act.put, List.setIfInBounds_toArray, List.set_cons_zero, List.set_cons_succ])
      refine rg_in 11 rfl (by kernel_rfl) (by kernel_rfl) (by kernel_rfl) (by rfl) (v := ?_) (fun _ _ _ h => h) hHeld (fun w hSw => ?_) ?_
      rotate_left
      · (try dsimp only at hSw); go_simp <;> (with_reducible rfl)
      (try simp only [Act.put, List.setIfInBounds_toArray, List.set_cons_zero, List.set_cons_succ])
      refine rg_in 12 rfl (by kernel_rfl) (by kernel_rfl) (by kernel_rfl) (by rfl) (v := ?_) (fun _ _ _ h => h) hHeld (fun w hSw => ?_) ?_
      rotate_left
      · (try dsimp only at hSw); go_simp <;> (with_reducible rfl)
      (try simp only [Act.put, List.setIfInBounds_toArray, List.set_cons_zero, List.set_cons_succ])
      refine rg_in 13 rfl (by kernel_rfl) (by kernel_rfl) (by kernel_rfl) (by rfl) (v := ?_) (fun _ _ _ h => h) hHeld (fun w hSw => ?_) ?_
      rotate_left
      · (try dsimp only at hSw); go_simp <;> (with_reducible rfl)
      (try simp only [Act.put, List.setIfInBounds_toArray, List.set_cons_zero, List.set_cons_succ])
      refine wpAnyH_done (by kernel_rfl) ?_ _
      have hHb := hHeld
      clear hHeld x0 x1 x2 x3 x4 hln
      go_wp2
      go_meet
      case rel => exact ⟨rfl, hHb⟩
    case rest =>
      obtain ⟨rfl, hbW⟩ := hcut
      clear hln x0 x1 x2 x3 x4 d1 d2 d3 d5 d6 hd HF9
      have hb17 := bel_next hb16 hbW
      have hpo := (HP9.out.later hbW).more hbW.size
      have HBc := Lib.hid ((HB9.out.later hbW).more hbW.size)
      have hpc := hpo.fits
      have hnc : (nn : Int) ≤ (p.c : Int) := by omega
      have hn00 : (0 : Int) ≤ (nn : Int) := by omega
      have hpt : PcT.Ok wc wc.heap.size ⟨p.A, nn, p.c, p.l.take nn⟩ := ⟨hpo.here.first (k := nn) (show nn ≤ p.n by omega), hpo.nil, (show nn ≤ p.c by omega), hpo.most⟩
      have HPT := Lib.hid hpt
      have HPO := Lib.hid hpo
      have HPL := Lib.hid hpl
      clear hpo hpt HB9 HP9 hb16 hbW hpl
      go_wp2_with fail
      refine (firm_any ⟨p.A, nn, p.c, p.l.take nn⟩ _).mono ?_
      rintro e W10 ⟨rfl, hb18⟩
      have hpt := (HPT.out.later hb18).more hb18.size
      have hb19 := bel_next hb17 hb18
      have hget : Calls Tryd.prog 20 #[(firmF ⟨p.A, nn, p.c, p.l.take nn⟩).agg, .int .i64 (at0 : Nat)] W10 fun e w' => e = .returned (.tuple #[.slice none 0 0, .int .i64 0, .int .i64 210]) ∧ Below W10.heap.size W10 w' := by
        have hr1 : (firmF ⟨p.A, nn, p.c, p.l.take nn⟩).right = true := firm_right hpt (show nn ≤ 524288 by omega)
        have hlt : (p.l.take nn).length = nn := by rw [List.length_take, HPO.out.len]; omega
        by_cases hle : nn ≤ at0
        · exact get_no _ _ W10.heap.size W10 (firm_lie hpt) (Nat.le_refl _) hr1 (.inr (.inl (by rw [firm_all]; show ((p.l.take nn).length : Int) ≤ _; omega)))
        · refine (getS _ at0 (p.l.take nn) none W10 (htab.below hb19 htab.lt) (firm_lie hpt) (firm_all _) hr1 (by omega) hatl.2.1 ?_).mono ?_
          · rw [HPL.out]
            refine HG2.out nn (by omega) ?_
            rw [List.length_append, hqlen]
            have := Hpn.out
            omega
          · rintro e w' ⟨hb, ⟨-, rfl⟩ | ⟨_, _, hg, -⟩⟩
            · exact ⟨rfl, hb⟩
            · cases hg
      simp only [firmF, FileT.agg, PcT.val] at hget ⊢
      go_wp2_with fail
      refine hget.mono ?_
      rintro e W11 ⟨rfl, hb20⟩
      have hb21 := bel_next hb19 hb20
      have hbf := bel_next hb18 hb20
      clear hget hpt HPT hb17 hb19 hb20 hb18
      go_wp2_with fail
      refine (firm_any p _).mono ?_
      rintro e W12 ⟨rfl, hb22⟩
      have hb23 := bel_next hb21 hb22
      have hbg := bel_next hbf hb22
      have hpo := (HPO.out.later hbg).more hbg.size
      have hget := getS (firmF p) at0 (q.l ++ pc) _ W12 (htab.below hb23 htab.lt) (firm_lie hpo) (by rw [firm_all]; exact HPL.out) (firm_right hpo (by omega)) hatl.2.2 hatl.2.1 HG1.out
      simp only [firmF, FileT.agg, PcT.val] at hget ⊢
      clear hb21 hb22 hbf
      go_wp2_with fail
      refine hget.mono ?_
      rintro e W13 ⟨hb24, ⟨hno, -⟩ | ⟨r, nx, hg, rfl, hro, -⟩⟩
      · cases hno
      · injection hg with hg
        injection hg with hgl hgn
        have hnx : nx = p.n := by rw [← hgn, List.length_append, hqlen, Hpn.out]
        subst hnx
        have hb25 := bel_next hb23 hb24
        have hbh := bel_next hbg hb24
        have hbo := HBc.out.later hbh
        have heq := bequal_any r.A b.A r.n r.c b.n b.c r.l b.l _ _ W13 hro.here hbo.here true (by unfold sameB; exact decide_eq_true hgl.symm)
        clear hget hb23 hb24 hbg hbh hgn hgl
        go_wp2_with fail
        refine heq.mono ?_
        rintro e W14 ⟨rfl, rfl⟩
        clear heq
        go_wp2
        go_ret
        exact ⟨rfl, hb25⟩
end Go.Proofs.YtghmehfmchadoaaDoor
/-
  Layer 11: bytes.Repeat at a byte.
-/
namespace Go.Proofs.YtghmehfmchadoaaDoor
open Go.RowKit
set_option linter.unusedVariables false

theorem u64_and (N : Nat) (h : N < 4294967296) : bits .and .u64 (N : Int) 4294967295 = (N : Int) := by
  show IntKind.u64.wrap ((BitVec.ofInt 64 (N : Int) &&& BitVec.ofInt 64 4294967295).toNat : Int) = _
  have h1 : (BitVec.ofInt 64 (N : Int)).toNat = N := by rw [BitVec.toNat_ofInt]; omega
  have h2 : (BitVec.ofInt 64 (4294967295 : Int)).toNat = 2 ^ 32 - 1 := by decide
  rw [BitVec.toNat_and, h1, h2, Nat.and_two_pow_sub_one_of_lt_two_pow (by omega)]
  have : IntKind.u64.wrap (N : Int) = (N : Int) % 18446744073709551616 := by simp [IntKind.wrap, IntKind.bits, IntKind.signed]
  rw [this]; omega
set_option maxRecDepth 20000 in
set_option maxHeartbeats 1000000 in
theorem mul64_one (N : Nat) (hN : N ≤ 1000) (w : World) :
    Calls Tryd.prog 66 #[.int .u64 1, .int .u64 (N : Nat)] w fun e w' => e = .returned (.tuple #[.int .u64 0, .int .u64 (N : Nat)]) ∧ w = w' := by
  have h1 := u64_and N (by omega)
  have h2 := u64_and 1 (by omega)
  have h3 := u64_and 0 (by omega)
  have h4 : (N : Int) / 4294967296 = 0 := by omega
  have h5 : N / 4294967296 = 0 := by omega
  rw [show ((1 : Nat) : Int) = 1 from rfl] at h2
  rw [show ((0 : Nat) : Int) = 0 from rfl] at h3
  go_enter Tryd.func66, Tryd.ntmps66
  go_wp2
  go_ret2
  exact ⟨rfl, rfl⟩
set_option maxRecDepth 20000 in
set_option maxHeartbeats 1000000 in
theorem mul_one' (N : Nat) (hN : N ≤ 1000) (w : World) :
    Calls Tryd.prog 46 #[.int .u64 1, .int .u64 (N : Nat)] w fun e w' => e = .returned (.tuple #[.int .u64 0, .int .u64 (N : Nat)]) ∧ w = w' := by
  have hm := mul64_one N hN w
  go_enter Tryd.func46, Tryd.ntmps46
  go_wp2_with fail
  refine hm.mono ?_
  rintro e w1 ⟨rfl, rfl⟩
  go_wp2
  go_ret2
  exact ⟨rfl, rfl⟩
set_option maxRecDepth 100000 in
set_option maxHeartbeats 4000000 in
theorem repeat_any (b off c1 : Nat) (m : UInt8) (N : Nat) (hN : 1 ≤ N ∧ N ≤ 1000) (B : Nat) (w : World) (hb : Bytes w B (some ⟨b, off, none⟩) 1 [m]) (hB : B ≤ w.heap.size) :
    Calls Tryd.prog 27 #[.slice (some ⟨b, off, none⟩) 1 c1, .int .i64 (N : Nat)] w (NewP (List.replicate N m) w) := by
  have hm := mul_one' N hN.2 w
  have n1 : ((N : Int) == 0) = false := by rw [beq_eq_false_iff_ne]; omega
  have n2 : ((N : Int) < 0) = False := eq_false (by omega)
  have n3 : ((9223372036854775807 : Int) < (N : Int)) = False := eq_false (by omega)
  have n4 : ((8192 : Int) < (N : Int)) = False := eq_false (by omega)
  have n5 : IntKind.u64.wrap (N : Int) = (N : Int) := by
    have : IntKind.u64.wrap (N : Int) = (N : Int) % 18446744073709551616 := by simp [IntKind.wrap, IntKind.bits, IntKind.signed]
    rw [this]; omega
  go_enter Tryd.func27, Tryd.ntmps27
  go_wp2_with fail
  refine hm.mono ?_
  rintro e w1 ⟨rfl, rfl⟩
  clear hm
  obtain ⟨cs, hrunM, hle, hmax⟩ := Lib.run_makeNoZero (P := Tryd.prog) w #[3] 22 5 Tryd.underlying22 N (by omega)
  have hcall : (callFunc 47 #[.int .i64 (N : Int)]).run Tryd.prog w = .ok (.value (.slice (some ⟨w.heap.size, 0, none⟩) N cs.size)) ((w.alloc (.cells cs 5)).drewN 2) := by
    rw [run_callFunc_extern Tryd.func47 (by kernel_rfl) (by kernel_rfl) (by kernel_rfl) (e := Extern.BytealgMakeNoZero.makeNoZero #[3] #[22]) (by kernel_rfl), hrunM]
    rfl
  clear hrunM
  have hcs := hmax (by unfold maxLen; omega)
  have own0 : ((w.alloc (.cells cs 5)).drewN 2).ownsRow w.heap.size 5 1 (.slice (some ⟨w.heap.size, 0, none⟩) N cs.size) N (cs.toList.take N) := by
    have h := own_later (own_made (e := 5) (size := 1) w cs N cs.size (Nat.le_refl _) hle hcs (by simp)) (below_drewN (Below.refl _ _) 2)
    rw [Nat.mul_one] at h
    exact h
  have hbw : Below w.heap.size w ((w.alloc (.cells cs 5)).drewN 2) := below_drewN ((Below.refl w.heap.size w).alloc (Nat.le_refl _) _) 2
  have i0 : (0 : Int) ≤ (N : Int) := by omega
  have i1 : (N : Int) ≤ (cs.size : Int) := by omega
  have hsrc : Shows ((w.alloc (.cells cs 5)).drewN 2) w.heap.size 1 (some ⟨b, off, none⟩) 1 [bv m] := (hb.more hB).below hbw
  obtain ⟨iu, hi, hz0, hz1, hz2⟩ := u8_info
  have hsz : (Tryd.prog.info? 5).map (·.size) = some 1 := by rw [hi]; simp [hz1]
  have hN1 : min 1 N = 1 := by omega
  have hone : ∀ v ∈ [bv m], v.oneCell' = true := bv_one [m]
  have hx0 : (splice (cs.toList.take N) 0 ([bv m].take N)).take 1 = List.replicate 1 (bv m) := by
    obtain ⟨N', rfl⟩ : ∃ N', N = N' + 1 := ⟨N - 1, by omega⟩
    simp [splice]
  generalize (w.alloc (.cells cs 5)).drewN 2 = W2 at *
  go_upto_region 17 with fail
  go_wp2_with (with_reducible refine wpList_copy_shows (o := ⟨some 60, _, _, _, _, _⟩) rfl (.tmp 58) (.tmp 59) _ _ rfl 5 Tryd.underlying22 hsz w.heap.size 5 w.heap.size N cs.size _ own0 0 _ N N rfl (fun _ => rfl) (by omega) w.heap.size (some ⟨b, off, none⟩) 1 c1 [bv m] rfl hsrc hone ?_)
  intro W3 own1 hg1 hb3
  have HX0 := Lib.hid hx0
  have HO1 := Lib.hid own1
  have hbw2 := hbw.trans hb3
  (try rw [hN1])
  clear own0 own1 hg1 hb3 hx0 hbw hsrc hcall hmax
  go_wp2_with fail
  go_loopw [10, 11] (fun x y wr => ∃ (p : Nat) (xs : List Value), 1 ≤ p ∧ p ≤ N ∧ x = .int .i64 p ∧ Hid (xs.take p = List.replicate p (bv m)) ∧ Hid (wr.ownsRow w.heap.size 5 1 (.slice (some ⟨w.heap.size, 0, none⟩) N cs.size) N xs) ∧ Below w.heap.size w wr) (fun x _ _ => N - (intOf x).toNat)
  case atStart => exact ⟨1, _, Nat.le_refl _, hN.1, rfl, HX0, HO1, hbw2⟩
  case round =>
    obtain ⟨p, xs, hp1, hpN, rfl, HX, HO, hbr⟩ := hrel
    rename World => wr
    have hp0 : (0 : Int) ≤ (p : Int) := by omega
    have hpI : (p : Int) ≤ (N : Int) := by omega
    by_cases hlt : p < N
    · have hlt' : (p : Int) < (N : Int) := by omega
      obtain ⟨q, hq⟩ : ∃ q, min p (N - p) = q := ⟨_, rfl⟩
      have hqb : 1 ≤ q ∧ p + q ≤ N ∧ q ≤ N - p := by omega
      have hne : ¬ N = p := by omega
      have hw : IntKind.i64.wrap ((p : Int) + (q : Int)) = (p : Int) + (q : Int) := by rw [wrap_small _ (by omega)]
      have hm1 : min (p : Int) (N : Int) = (p : Int) := by omega
      have hm2 : min p N = p := by omega
      have hm3 : ((N : Int) < (p : Int)) = False := eq_false (by omega)
      have hm4 : ((N : Int) ≤ (p : Int)) = False := eq_false (by omega)
      go_upto_region 20 with fail
      refine wp_region_held_drew (S := fun W => Below w.heap.size w W) (by kernel_rfl) (below_drewN hbr 1) (fun hHeld => ?_)
      refine rg_in 0 rfl (by kernel_rfl) (by kernel_rfl) (by kernel_rfl) (by rfl) (v := ?_) (fun _ _ _ h => h) hHeld (fun w hSw => ?_) ?_
      rotate_left
      · (try dsimp only at hSw); go_simp <;> (with_reducible rfl)
      (try simp only [Act.put, List.setIfInBounds_toArray, List.set_cons_zero, List.set_cons_succ])
      refine rg_in 1 rfl (by kernel_rfl) (by kernel_rfl) (by kernel_rfl) (by rfl) (v := ?_) (fun _ _ _ h => h) hHeld (fun w hSw => ?_) ?_
      rotate_left
      · (try dsimp only at hSw); go_simp <;> (with_reducible rfl)
      (try simp only [Act.put, List.setIfInBounds_toArray, List.set_cons_zero, List.set_cons_succ])
      refine rg_in 2 rfl (by kernel_rfl) (by kernel_rfl) (by kernel_rfl) (by rfl) (v := ?_) (fun _ _ _ h => h) hHeld (fun w hSw => ?_) ?_
      rotate_left
      · (try dsimp only at hSw); go_simp <;> (with_reducible rfl)
      (try simp only [Act.put, List.setIfInBounds_toArray, List.set_cons_zero, List.set_cons_succ])
      refine rg_in 3 rfl (by kernel_rfl) (by kernel_rfl) (by kernel_rfl) (by rfl) (v := ?_) (fun _ _ _ h => h) hHeld (fun w hSw => ?_) ?_
      rotate_left
      · (try dsimp only at hSw); go_simp <;> (with_reducible rfl)
      (try simp only [Act.put, List.setIfInBounds_toArray, List.set_cons_zero, List.set_cons_succ])
      refine rg_in 4 rfl (by kernel_rfl) (by kernel_rfl) (by kernel_rfl) (by rfl) (v := ?_) (fun _ _ _ h => h) hHeld (fun w hSw => ?_) ?_
      rotate_left
      · (try dsimp only at hSw); go_simp <;> (with_reducible rfl)
      (try simp only [Act.put, List.setIfInBounds_toArray, List.set_cons_zero, List.set_cons_succ])
      refine rg_in 5 rfl (by kernel_rfl) (by kernel_rfl) (by kernel_rfl) (by rfl) (v := ?_) (fun _ _ _ h => h) hHeld (fun w hSw => ?_) ?_
      rotate_left
      · (try dsimp only at hSw); go_simp <;> (with_reducible rfl)
      (try simp only [Act.put, List.setIfInBounds_toArray, List.set_cons_zero, List.set_cons_succ])
      refine rg_in 6 rfl (by kernel_rfl) (by kernel_rfl) (by kernel_rfl) (by rfl) (v := ?_) (fun _ _ _ h => h) hHeld (fun w hSw => ?_) ?_
      rotate_left
      · (try dsimp only at hSw); go_simp <;> (with_reducible rfl)
      (try simp only [Act.put, List.setIfInBounds_toArray, List.set_cons_zero, List.set_cons_succ])
      refine rg_do 7 rfl (by kernel_rfl) (by rfl) (fun K hK => ?_)
      have own7 := own_later HO.out (below_drewN (Below.refl _ _) 1)
      have sh7 : Shows (wr.drewN 1) (wr.drewN 1).heap.size 1 (some ⟨w.heap.size, 0, none⟩) p (List.replicate p (bv m)) := by have h := (Shows.own own7).first (k := p) (by omega); simpa [HX.out] using h
      refine wp_copy_shows (.tmp 70) (.tmp 73) 22 22 rfl 5 Tryd.underlying22 hsz w.heap.size 5 w.heap.size N cs.size xs own7 p (some ⟨w.heap.size, p, none⟩) (N - p) (N - p) rfl (fun _ => rfl) (by omega) _ (some ⟨w.heap.size, 0, none⟩) p N (List.replicate p (bv m)) rfl sh7 (fun v hv => by rw [List.eq_of_mem_replicate hv]; rfl) ?_
      intro w107 hown7 hgrow7 hb7
      rw [hq]
      refine hK.out _ _ (hHeld.trans hb7) (fun hHeld => ?_)
      clear hK K
      (try simp only [Act.put, List.setIfInBounds_toArray, List.set_cons_zero, List.set_cons_succ])
      refine rg_in 8 rfl (by kernel_rfl) (by kernel_rfl) (by kernel_rfl) (by rfl) (v := ?_) (fun _ _ _ h => h) hHeld (fun w hSw => ?_) ?_
      rotate_left
      · (try dsimp only at hSw); go_simp <;> (with_reducible rfl)
      (try simp only [Act.put, List.setIfInBounds_toArray, List.set_cons_zero, List.set_cons_succ])
      refine rg_in 9 rfl (by kernel_rfl) (by kernel_rfl) (by kernel_rfl) (by rfl) (v := ?_) (fun _ _ _ h => h) hHeld (fun w hSw => ?_) ?_
      rotate_left
      · (try dsimp only at hSw); go_simp <;> (with_reducible rfl)
      (try simp only [Act.put, List.setIfInBounds_toArray, List.set_cons_zero, List.set_cons_succ])
      refine wpAnyH_done (by kernel_rfl) ?_ _
      have hb8 : Below w.heap.size w w107 := hHeld
      have hxl : xs.length = N := by have := HO.out.1; simpa using this
      have hX2 := Lib.hid (show (splice xs p ((List.replicate p (bv m)).take (N - p))).take (p + q) = List.replicate (p + q) (bv m) by
        have e : (List.replicate p (bv m)).take (N - p) = List.replicate q (bv m) := by rw [List.take_replicate, Nat.min_comm, hq]
        rw [e]
        unfold splice
        rw [← List.append_assoc, List.take_append_of_le_length (by rw [List.length_append, List.length_take, List.length_replicate]; omega), List.take_of_length_le (by rw [List.length_append, List.length_take, List.length_replicate]; omega), HX.out, List.replicate_append_replicate])
      have HO7 := Lib.hid hown7
      clear hHeld hb7 hown7 hgrow7 sh7 own7 hm1 hm2 hm3 hm4 hq
      go_wp2
      go_roundw
      case rel => exact ⟨p + q, _, by omega, by omega, by go_num, hX2, HO7, hb8⟩
      case measure => simp [intOf]; omega
    · obtain rfl : p = N := by omega
      have hxl : xs.length = p := by have := HO.out.1; simpa using this
      have hxs : xs = (List.replicate p m).map bv := by rw [List.map_replicate, ← HX.out, List.take_of_length_le (by omega)]
      have hsh := Shows.own HO.out
      rw [hxs] at hsh
      have HP := Lib.hid (show PcT.Ok wr wr.heap.size ⟨some ⟨w.heap.size, 0, none⟩, p, p, List.replicate p m⟩ from ⟨hsh, nofun, Nat.le_refl _, by unfold maxLen; show p ≤ _; omega⟩)
      clear hxs hsh hxl HX HO
      go_wp2_with fail
      go_ret
      exact ⟨⟨some ⟨w.heap.size, 0, none⟩, p, p, List.replicate p m⟩, rfl, rfl, HP.out, hbr, fun g hg b' off' e hn => by
        injection e with e
        injection e with e1 e2
        omega⟩
end Go.Proofs.YtghmehfmchadoaaDoor
/-
  Layer 11, the law FrameFree: the walk.
-/
namespace Go.Proofs.YtghmehfmchadoaaDoor
open Go.RowKit
set_option linter.unusedVariables false
set_option linter.unusedSimpArgs false

set_option maxRecDepth 100000 in
set_option maxHeartbeats 8000000 in
theorem frameFree_walk (w : World) (A0 : Option Addr) (n0 c0 : Nat) (l0 : List UInt8) (h0 : Bytes w w.heap.size A0 n0 l0) (hA0 : A0 = none → c0 = 0) (hn0 : n0 ≤ c0) (hc0 : c0 ≤ maxLen)
    (mk : Int) (hmk : (Lit.int .u8 mk).wf = true) (cut : Int) (hcut : (Lit.int .i64 cut).wf = true) (htab : Tab w) :
    Calls Tryd.prog 7 #[.slice A0 n0 c0, .int .u8 mk, .int .i64 cut] w fun e w' => e = .returned (.bool true) ∧ Below w.heap.size w w' := by
  have HP0 := Lib.hid (show PcT.Ok w w.heap.size ⟨A0, n0, c0, l0⟩ from ⟨h0, hA0, hn0, hc0⟩)
  have hmk8 := wf_u8 hmk
  obtain ⟨m, rfl⟩ : ∃ m : UInt8, mk = (m.toNat : Int) := ⟨UInt8.ofNat mk.toNat, by rw [UInt8.toNat_ofNat']; omega⟩
  obtain ⟨d, hd, hdm⟩ := cut_at cut 600 (by omega)
  rw [show ((600 : Nat) : Int) = 600 from rfl] at hd
  have hd' : (IntKind.u64.wrap cut) % 600 = (d : Int) := by
    rw [← hd, Int.tmod_eq_emod_of_nonneg]
    have : IntKind.u64.wrap cut = cut % 18446744073709551616 := by simp [IntKind.wrap, IntKind.bits, IntKind.signed]
    rw [this]; omega
  have hd5 : IntKind.i64.wrap (d : Int) = (d : Int) := wrap_small _ (by omega)
  obtain ⟨N, hN⟩ : ∃ N, 1 + d = N := ⟨_, rfl⟩
  have hNI : (1 : Int) + (d : Int) = (N : Int) := by omega
  have hNb : 1 ≤ N ∧ N ≤ 1000 := by omega
  clear h0 hA0 hn0 hc0 hmk hmk8 hN
  go_enter Tryd.func7, Tryd.ntmps7
  go_wp2_with fail
  refine (wakes_any _ htab).mono ?_
  rintro e W1 ⟨rfl, hb1⟩
  have hfe := few_any ⟨A0, n0, c0, l0⟩ 300 w.heap.size W1 (HP0.out.later hb1) hb1.size (by omega)
  rw [show ((300 : Nat) : Int) = 300 from rfl] at hfe
  go_wp2_with fail
  refine hfe.mono ?_
  rintro e W2 ⟨q, rfl, hql, hqo, hb2, -⟩
  have hb3 := bel_next hb1 hb2
  clear hfe hb1 hb2
  go_wp2_with fail
  refine (firm_any q _).mono ?_
  rintro e W3 ⟨rfl, hb4⟩
  have hb5 := bel_next hb3 hb4
  have hqo3 := (hqo.later hb4).more hb4.size
  have hqn : q.n ≤ 300 := by rw [← hqo.len, hql, List.length_take]; omega
  have hqn0 : q.n ≤ n0 := by rw [← hqo.len, hql, List.length_take, HP0.out.len]; exact Nat.min_le_right _ _
  have Hql := Lib.hid (show q.l = l0.take 300 from hql)
  have HF := Lib.hid (FAt.new (firm_lie hqo3) 25)
  have hb6 := bel_alloc hb5 (.cells #[.slice q.A q.n q.c, .slice none 0 0, .int .i64 (-1), .int .i64 (-1), .bool false] 25)
  have hrq : (firmF q).right = true := firm_right (p := q) hqo3 (show q.n ≤ 524288 by omega)
  have hqlen : q.l.length = q.n := hqo.len
  simp only [firmF, FileT.agg, PcT.val] at HF ⊢
  clear hb3 hb4 hb5 hqo hqo3 hql
  go_upto_region 4 with fail
  generalize W3.alloc (.cells #[.slice q.A q.n q.c, .slice none 0 0, .int .i64 (-1), .int .i64 (-1), .bool false] 25) = W4 at *
  generalize W3.heap.size = g7 at *
  have hbn := bytes_new W4 [m] #[.int .u8 (m.toNat : Int)] 5 (0, 0) rfl
  have hb7 := bel_alloc hb6 (.cells #[.int .u8 (m.toNat : Int)] 5)
  have HF5 := Lib.hid (show FAt (W4.alloc (.cells #[.int .u8 (m.toNat : Int)] 5)) g7 (firmF q) from HF.out.later (bel_alloc (Below.refl W4.heap.size W4) (.cells #[.int .u8 (m.toNat : Int)] 5)))
  have hrp := repeat_any W4.heap.size 0 1 m N hNb (W4.heap.size + 1) _ hbn (by rw [World.size_alloc]; exact Nat.le_refl _)
  clear HF hb6 hbn
  go_wp2_with fail
  generalize W4.alloc (.cells #[.int .u8 (m.toNat : Int)] 5) = W5 at *
  refine hrp.mono ?_
  rintro e W6 ⟨b, rfl, hbl, hbo, hb8, -⟩
  have HF6 := Lib.hid (HF5.out.later hb8)
  have hb9 := bel_next hb7 hb8
  have hbn : b.n = N := by rw [← hbo.len, hbl, List.length_replicate]
  clear hrp hb7 hb8 HF5 hd hd' hd5 hNI
  have hpl := Fra.piece_len q.l (Fra.encL b.l) (by rw [Fra.encL_len, hbo.len]; omega)
  have hput := putS (firmF q) b q.l [] W6 (htab.below hb9 htab.lt) HF6.out.l hbo rfl hrq (by omega) (by rw [List.flatten_nil, List.append_nil, hqlen]; omega)
  rw [List.flatten_nil, List.append_nil, List.nil_append] at hput
  obtain ⟨pc, hpc⟩ : ∃ pc, Fra.pieceL q.l (Fra.encL b.l) = pc := ⟨_, rfl⟩
  have HPM := Lib.hid (fun i h1 h64 h2 => Fra.piece_marks q.l (Fra.encL b.l) i h1 h64 h2)
  have hpc0 : pc ≠ [] := by
    rw [← hpc]
    intro e
    have h1 := congrArg List.length e
    unfold Fra.pieceL at h1
    rw [List.length_append, List.length_nil] at h1
    have := (Fra.layP_ge (Fra.encL b.l) (Fra.atN q.l)).1
    rw [Fra.encL_len] at this
    omega
  rw [hpc] at hput hpl HPM
  generalize Fra.atN q.l = at0 at *
  clear hpc hbn hbl
  obtain ⟨⟨f0, f1, f2, f3, f4⟩, -⟩ := HF6.out.v
  simp only [firmF, FileT.agg, PcT.val] at hput f0 f1 f2 f3 f4
  have Hput := Lib.hid hput
  clear hput
  go_wp2_with fail
  refine Hput.out.mono ?_
  rintro e W7 ⟨Y, rfl, hYs, hYL, hb10, -⟩
  clear Hput f0 f1 f2 f3 f4 hbo
  have HF7 := Lib.hid (HF6.out.later hb10)
  have hb11 := bel_next hb9 hb10
  have hY1 := FAt.new hYL 25
  have hb12 := bel_alloc (Below.refl W7.heap.size W7) (.cells #[.slice Y.F.A Y.F.n Y.F.c, .slice Y.lA Y.ln Y.lc, .int .i64 Y.fuse, .int .i64 Y.fault, .bool Y.off] 25)
  have HY8 := Lib.hid hY1
  have HF8 := Lib.hid (HF7.out.later hb12)
  have hb13 := bel_next hb11 hb12
  have hallY : Y.all = q.l ++ pc := by rw [← all_s, hYs]; show q.l ++ [pc].flatten = _; simp
  have hrY := right_calm HY8.out.l hYs (by intro l hl e; rcases List.mem_singleton.1 hl with rfl; exact hpc0 e) (by simp; rw [hqlen]; omega)
  clear hb9 hb10 hb11 hb12 HF6 HF7 hYL hY1
  simp only [FileT.agg, PcT.val]
  go_upto_region 8 with fail
  generalize W7.alloc (.cells #[.slice Y.F.A Y.F.n Y.F.c, .slice Y.lA Y.ln Y.lc, .int .i64 Y.fuse, .int .i64 Y.fault, .bool Y.off] 25) = W8 at *
  generalize W7.heap.size = g9 at *
  have hln := lenS (firmF q) ⟨q.l, [], -1, -1, false⟩ W8 HF8.out.l rfl (by have := right_s HF8.out.l; rw [hrq] at this; exact this.symm)
  rw [show (FileS.all ⟨q.l, [], -1, -1, false⟩).length = q.n by show (q.l ++ [].flatten).length = _; rw [List.flatten_nil, List.append_nil, hqlen]] at hln
  obtain ⟨⟨f0, f1, f2, f3, f4⟩, -⟩ := HF8.out.v
  simp only [firmF, FileT.agg, PcT.val] at hln f0 f1 f2 f3 f4
  go_wp2_with fail
  refine hln.mono ?_
  rintro e W9 ⟨rfl, hb14⟩
  clear hln f0 f1 f2 f3 f4
  have HY9 := Lib.hid (HY8.out.later hb14)
  have hb15 := bel_next hb13 hb14
  have hsd := said_any Y _ _ HY9.out.l (Nat.le_refl _) hrY
  obtain ⟨⟨f0, f1, f2, f3, f4⟩, -⟩ := HY9.out.v
  simp only [FileT.agg, PcT.val] at hsd
  clear hb13 hb14 HY8 HF8
  go_wp2_with fail
  refine hsd.mono ?_
  rintro e W10 ⟨p, rfl, hpl', hpo, hb16, -⟩
  rw [hallY] at hpl'
  have hb17 := bel_next hb15 hb16
  have HP := Lib.hid hpo
  have HPL := Lib.hid (show p.l = q.l ++ pc from hpl')
  have hpnl : p.n = q.n + pc.length := by rw [← hpo.len, hpl', List.length_append, hqlen]
  have HPN := Lib.hid hpnl
  have hpn9 : p.n ≤ 9000 := by omega
  have Hqlen := Lib.hid hqlen
  clear hsd f0 f1 f2 f3 f4 hb15 hb16 HY9 hpo hpl' hpnl hYs hrY hallY hqlen hpl
  generalize W10 = WA at *
  go_wp2_with fail
  go_loopw [13, 14, 42] (fun x y iv wr => ∃ i : Nat, i ≤ p.n ∧ iv = .int .i64 i ∧ Below WA.heap.size WA wr) (fun _ _ iv _ => p.n - (intOf iv).toNat)
  case atStart => exact ⟨0, Nat.zero_le _, rfl, Below.refl _ _⟩
  case round =>
    obtain ⟨i, hi, rfl, hbr⟩ := hrel
    rename World => wr
    have hi0 : (0 : Int) ≤ (i : Int) := by omega
    by_cases hlt : i < p.n
    · have hlt' : (i : Int) < (p.n : Int) := by omega
      obtain ⟨b3, off3, e3, _, hc3⟩ := (HP.out.here.below hbr).cell (k := i) hlt
      obtain ⟨pA, hpA⟩ : ∃ A, p.A = A := ⟨_, rfl⟩
      rw [hpA] at e3
      subst e3
      rw [HPL.out] at hc3
      by_cases hiq : i < q.n
      · have hiq1 : ((i : Int) < (q.n : Int)) = True := eq_true (by omega)
        have hiq2 : ((q.n : Int) ≤ (i : Int)) = False := eq_false (by omega)
        have hin : (i : Int) < (n0 : Int) := by omega
        obtain ⟨b4, off4, e4, _, hc4⟩ := ((HP0.out.here.below hb17).below (hbr.mono hb17.size)).cell (k := i) (by show i < n0; omega)
        replace e4 : A0 = some ⟨b4, off4, none⟩ := e4
        have hsame : at8 (q.l ++ pc) i = at8 l0 i := by
          unfold at8
          rw [List.getD_eq_getElem?_getD, List.getElem?_append_left (by rw [Hqlen.out]; exact hiq), Hql.out, List.getElem?_take_of_lt (by omega), ← List.getD_eq_getElem?_getD]
        rw [hsame] at hc3
        obtain ⟨v, hv⟩ : ∃ v, at8 l0 i = v := ⟨_, rfl⟩
        rw [hv] at hc3 hc4
        have hvv : (v != v) = false := by rw [bne_self_eq_false]
        clear hsame hv
        subst e4
        rw [hpA]
        by_cases h64 : i % 64 = 0
        · have h64' : ((i : Int) % 64 == 0) = true := by rw [beq_iff_eq]; omega
          clear h64 hiq hpA
          go_wp2_with fail
          go_roundw
          case rel => exact ⟨i + 1, by omega, by go_num, hbr⟩
          case measure => simp [intOf]; omega
        · have h64' : ((i : Int) % 64 == 0) = false := by rw [beq_eq_false_iff_ne]; omega
          clear h64 hiq hpA
          go_wp2_with fail
          go_roundw
          case rel => exact ⟨i + 1, by omega, by go_num, hbr⟩
          case measure => simp [intOf]; omega
      · have hiq1 : ((i : Int) < (q.n : Int)) = False := eq_false (by omega)
        have hiq2 : ((q.n : Int) ≤ (i : Int)) = True := eq_true (by omega)
        rw [hpA]
        by_cases h64 : i % 64 = 0
        · have h64' : ((i : Int) % 64 == 0) = true := by rw [beq_iff_eq]; omega
          have h00 := HPM.out i (by rw [Hqlen.out]; omega) h64 (by rw [List.length_append, Hqlen.out, ← HPN.out]; exact hlt)
          have hz : at8 (q.l ++ pc) i = 0 := by
            unfold at8
            rw [List.getD_eq_getElem?_getD, h00]
            rfl
          rw [hz] at hc3
          clear h64 hiq h00 hz hpA
          go_wp2_with fail
          go_roundw
          case rel => exact ⟨i + 1, by omega, by go_num, hbr⟩
          case measure => simp [intOf]; omega
        · have h64' : ((i : Int) % 64 == 0) = false := by rw [beq_eq_false_iff_ne]; omega
          clear h64 hiq hpA
          go_wp2_with fail
          go_roundw
          case rel => exact ⟨i + 1, by omega, by go_num, hbr⟩
          case measure => simp [intOf]; omega
    · have hin : ((i : Int) < (p.n : Int)) = False := eq_false (by omega)
      have hbe := bel_next hb17 hbr
      clear hlt
      go_wp2_with fail
      go_ret
      exact ⟨rfl, hbe⟩
end Go.Proofs.YtghmehfmchadoaaDoor
