/-
  Layer 10: Sync.
-/
import Derived.Test.YthoenmggjbojoaaFilAF
namespace Go.Proofs.Ythoenmggjbojoaa
open Go.RowKit
set_option linter.unusedVariables false

theorem all_s (X : FileT) : X.s.all = X.all := by unfold FileS.all FileT.all FileT.s joinP; rfl
def SynJ (X : FileT) (D : Nat) (v0 v1 : Value) (W : World) : Prop :=
  ∃ p : PcT, v0 = .slice p.A p.n p.c ∧ v1 = .slice none 0 0 ∧ p.l = X.all ∧ p.Ok W W.heap.size ∧ ∀ k, k < D → AwayF X k → AwayP p k
theorem PcT.Ok.setAway5 {w : World} {B g : Nat} {p : PcT} (h : p.Ok w B) (ha : AwayP p g) (a b c d e : Value) : p.Ok (set5F w g a b c d e) B :=
  ((((h.setAway ha 0 a).setAway ha 1 b).setAway ha 2 c).setAway ha 3 d).setAway ha 4 e
theorem lie_syn {W : World} {p : PcT} {u v : Int} {b : Bool} (h : p.Ok W W.heap.size) (hu : (Lit.int .i64 u).wf = true) (hv : (Lit.int .i64 v).wf = true) : LieF W W.heap.size ⟨p, none, 0, 0, [], u, v, b⟩ :=
  ⟨h, Shows.zero _, fun q hq => (List.not_mem_nil hq).elim, fun _ => rfl, Nat.le_refl _, by show 0 ≤ maxLen; exact Nat.zero_le _, hu, hv⟩
set_option maxRecDepth 20000 in
set_option maxHeartbeats 4000000 in
theorem syncF_any (X : FileT) (B : Nat) (w : World) (hL : LieF w B X) (hB : B ≤ w.heap.size) (hr : X.right = true) :
    Calls Try.prog 30 #[X.agg] w (OpP X (fun _ => True) (X.s.sync X.long) w) := by
  obtain ⟨out, ho⟩ : ∃ out, X.s.sync X.long = out := ⟨_, rfl⟩
  have HO2 := Lib.hid ho.symm
  rw [ho]
  clear ho
  have hb1 := bel_alloc (bel_alloc (Below.refl w.heap.size w) (.cells #[.slice X.F.A X.F.n X.F.c, .slice X.lA X.ln X.lc, .int .i64 X.fuse, .int .i64 X.fault, .bool X.off] 25)) (.cells #[.slice none 0 0, .slice none 0 0, .int .i64 0, .int .i64 0, .bool false] 25)
  have HX := (FBox.new w X 25).later (bel_alloc (Below.refl _ _) (.cells #[.slice none 0 0, .slice none 0 0, .int .i64 0, .int .i64 0, .bool false] 25))
  obtain ⟨hN, hl, hln⟩ := right_rows hL hr
  have hch := checkF_any X B _ (hL.later (hb1.mono hB)) (Nat.le_trans hB hb1.size) hN
  rw [if_pos hr] at hch
  have HV := FVar.new (w.alloc (.cells #[.slice X.F.A X.F.n X.F.c, .slice X.lA X.ln X.lc, .int .i64 X.fuse, .int .i64 X.fault, .bool X.off] 25)) (.slice none 0 0) (.slice none 0 0) (.int .i64 0) (.int .i64 0) (.bool false) 25
  simp only [FileT.agg, PcT.val] at hch ⊢
  obtain ⟨f0, f1, f2, f3, f4⟩ := HX
  have hsz : ((w.alloc (.cells #[.slice X.F.A X.F.n X.F.c, .slice X.lA X.ln X.lc, .int .i64 X.fuse, .int .i64 X.fault, .bool X.off] 25)).alloc (.cells #[.slice none 0 0, .slice none 0 0, .int .i64 0, .int .i64 0, .bool false] 25)).heap.size = w.heap.size + 2 := by simp
  have hsz2 : (w.alloc (.cells #[.slice X.F.A X.F.n X.F.c, .slice X.lA X.ln X.lc, .int .i64 X.fuse, .int .i64 X.fault, .bool X.off] 25)).heap.size = w.heap.size + 1 := by simp
  rw [hsz2] at HV
  clear hsz2
  go_enter Try.func30, Try.ntmps30
  go_wp2_with fail
  generalize (w.alloc (.cells #[.slice X.F.A X.F.n X.F.c, .slice X.lA X.ln X.lc, .int .i64 X.fuse, .int .i64 X.fault, .bool X.off] 25)).alloc (.cells #[.slice none 0 0, .slice none 0 0, .int .i64 0, .int .i64 0, .bool false] 25) = W1 at *
  refine hch.mono ?_
  rintro e W2 ⟨rfl, hb2⟩
  clear hch
  have hb3 := bel_next hb1 hb2
  have HV2 := Lib.hid (HV.later hb2)
  have f0' := kept_later hb2 f0
  have f1' := kept_later hb2 f1
  have f2' := kept_later hb2 f2
  have f3' := kept_later hb2 f3
  have f4' := kept_later hb2 f4
  have hs2 := hb2.size
  have HS := Lib.hid hsz
  clear f0 f1 f2 f3 f4 HV hb1 hb2
  have hmf : ∀ (fn : Fn) (first cap : Array Value) (w : World), (Instr.makeFunc fn first cap).run Try.prog w = .ok (.func fn first cap) w := fun _ _ _ _ => rfl
  have HL := Lib.hid hL
  have HN := Lib.hid hN
  have Hr := Lib.hid hr
  clear hsz hN hL hr
  have hb4 := bel_alloc (bel_alloc hb3 (.cells #[.slice X.F.A X.F.n X.F.c, .slice X.lA X.ln X.lc, .int .i64 X.fuse, .int .i64 X.fault, .bool X.off, .int .i64 0] 70)) (.cells #[.pointer (some ⟨W2.heap.size, 0, none⟩)] 68)
  have hg4 : W2.heap.size < ((W2.alloc (.cells #[.slice X.F.A X.F.n X.F.c, .slice X.lA X.ln X.lc, .int .i64 X.fuse, .int .i64 X.fault, .bool X.off, .int .i64 0] 70)).alloc (.cells #[.pointer (some ⟨W2.heap.size, 0, none⟩)] 68)).heap.size := by rw [World.size_alloc, World.size_alloc]; omega
  obtain ⟨hV4, h54, hq4⟩ := chg_lay W2 (.slice X.F.A X.F.n X.F.c) (.slice X.lA X.ln X.lc) (.int .i64 X.fuse) (.int .i64 X.fault) (.bool X.off) (.int .i64 0) 70 68
  have hr4 := HV2.out.later (bel_alloc (bel_alloc (Below.refl _ _) (.cells #[.slice X.F.A X.F.n X.F.c, .slice X.lA X.ln X.lc, .int .i64 X.fuse, .int .i64 X.fault, .bool X.off, .int .i64 0] 70)) (.cells #[.pointer (some ⟨W2.heap.size, 0, none⟩)] 68))
  have hs4 := hb4.size
  have hs3 := hb3.size
  have hww : w.heap.size + 2 ≤ W2.heap.size := by have := HS.out; omega
  have hcf : ∀ (cap : Array Value) (W : World), Sem.run Try.prog (callFunc 50 cap) W = .ok (.enter 50 cap) W := fun _ _ => by kernel_rfl
  go_wp2_with fail
  generalize hW4 : (W2.alloc (.cells #[.slice X.F.A X.F.n X.F.c, .slice X.lA X.ln X.lc, .int .i64 X.fuse, .int .i64 X.fault, .bool X.off, .int .i64 0] 70)).alloc (.cells #[.pointer (some ⟨W2.heap.size, 0, none⟩)] 68) = W4 at *
  clear hW4
  have hL4 := (HL.out.later (hb4.mono hB)).more (Nat.le_trans hB hb4.size)
  refine (run_any X W2.heap.size 0 W2.heap.size 50 #[.pointer (some ⟨W2.heap.size + 1, 0, none⟩)] (SynJ X (W4.heap.size + 1)) W4 hV4 h54 ((HL.out.later (hb4.mono hB)).more (Nat.le_trans hB hs3)) (Nat.le_refl _) hg4 HN.out hl (hcf _) ?hwork ?hJ).mono ?_
  case hwork =>
    intro W hV hbW hsW hoW
    refine work2_any W2.heap.size (W2.heap.size + 1) W2.heap.size X _ _ _ W hV ((World.cell?_of_block (hoW _ (World.block_lt_of_cell? _ _ hq4) (show W2.heap.size + 1 ≠ W2.heap.size by omega))).trans hq4) (show W2.heap.size + 1 ≠ W2.heap.size by omega) (Nat.le_refl _) (by omega) (((HL.out.later (hb4.mono hB)).more (Nat.le_trans hB hs3)).later hbW) (tick_wf HL.out.fuse) (tick_wf HL.out.fault) Hr.out ?_
    intro p Wn hpl hpo hpa hb hV'
    have hag : AwayP p W2.heap.size := hpa _ (show W2.heap.size < W.heap.size by omega) (HL.out.away (by omega))
    have hpo2 := (hpo.setAway hag 0 (.slice p.A p.n p.c)).setAway hag 1 (.slice none 0 0)
    refine ⟨rfl, ((hb.mono (show W2.heap.size ≤ W.heap.size by omega)).setCell (show W2.heap.size ≤ W2.heap.size from Nat.le_refl _) _).setCell (show W2.heap.size ≤ W2.heap.size from Nat.le_refl _) _, fun k a b c d e hk hlt hf => fvar_other 1 _ (Ne.symm hk) (fvar_other 0 _ (Ne.symm hk) (hf.later hb)), _, _, _, _, _, _, (hV'.set0 _).set1 _, p, rfl, rfl, ?_, ?_, fun k hk ha => hpa k (by omega) ha⟩
    · rw [hpl, Nat.zero_add]
      unfold between
      rw [List.drop_zero, List.take_of_length_le (by rw [(right_all HL.out Hr.out).1]; exact Nat.le_refl _)]
    · rw [size_set, size_set]
      exact hpo2
  case hJ =>
    rintro v0 v1 W a b c d e ⟨p, rfl, rfl, h1, h2, h3⟩
    refine ⟨p, rfl, rfl, h1, ?_, h3⟩
    rw [size_set5]
    exact h2.setAway5 (h3 _ (Nat.lt_succ_self _) (HL.out.away (by omega))) a b c d e
  rintro e W5 ⟨r, hask, hb5, hcase⟩
  have hb6 := hb4.trans (hb5.mono hs3)
  have hV6 := hr4.low (by omega) hb5
  obtain ⟨⟨j0, j1, j2, j3, j4⟩, k0, k1, k2, k3, k4⟩ := hV6
  rcases hcase with ⟨hne, rfl⟩ | ⟨h0, v0, v1, ⟨p, rfl, rfl, hpl, hpo, hpa⟩, rfl⟩
  · have HO3 := Lib.hid (show out = X.s.asked X.long 0 by
      rw [HO2.out]
      unfold FileS.sync
      rw [if_neg (by rw [hask]; exact hne)])
    subst hask
    have hbe := fbelow_set5 (a := .slice X.F.A X.F.n X.F.c) (b := .slice X.lA X.ln X.lc) (c := .int .i64 (X.s.asked X.long 0).1.fuse) (d := .int .i64 (X.s.asked X.long 0).1.fault) (e := .bool (X.s.asked X.long 0).1.off) hb6 (show w.heap.size ≤ w.heap.size + 1 by omega)
    have HLe := Lib.hid (lie_asked (gr := 0) HL.out (hbe.mono hB) (Nat.le_trans hB hbe.size))
    have HSe := Lib.hid (show (⟨X.F.l, X.L.map (·.l), (X.s.asked X.long 0).1.fuse, (X.s.asked X.long 0).1.fault, (X.s.asked X.long 0).1.off⟩ : FileS) = (X.s.asked X.long 0).1 by
      obtain ⟨e1, e2⟩ := asked_same X.s X.long 0
      generalize X.s.asked X.long 0 = q at *
      obtain ⟨⟨q0, q1, q2, q3, q4⟩, q5⟩ := q
      cases e1
      cases e2
      rfl)
    generalize X.s.asked X.long 0 = q at *
    clear HL HN hV4 h54 hq4 hr4 hs4 hs3 hww hcf hmf hg4 hL4 hb5 hb6 hb4 hb3 hne f0' f1' f2' f3' f4' hs2 HS HV2 HO2 hl hln
    go_wp2
    refine bodyPost_ret (v := .tuple #[.agg #[.slice X.F.A X.F.n X.F.c, .slice X.lA X.ln X.lc, .int .i64 q.1.fuse, .int .i64 q.1.fault, .bool q.1.off], .int .i64 q.2]) ?_ rfl ⟨⟨X.F, X.lA, X.ln, X.lc, X.L, q.1.fuse, q.1.fault, q.1.off⟩, by rw [HO3.out]; rfl, by rw [HO3.out]; exact HSe.out, HLe.out, hbe, fun _ _ h _ => ⟨h.firm, h.row, h.loose⟩⟩
    simp [results, Try.results30, go_sem, *]
  · have HO3 := Lib.hid (show out = ({ (X.s.asked X.long 0).1 with firm := X.all, loose := [] }, (0 : Int)) by
      rw [HO2.out]
      unfold FileS.sync
      rw [if_pos (by rw [hask]; exact h0), all_s])
    subst hask
    have hbe := fbelow_set5 (a := .slice p.A p.n p.c) (b := .slice none 0 0) (c := .int .i64 (X.s.asked X.long 0).1.fuse) (d := .int .i64 (X.s.asked X.long 0).1.fault) (e := .bool (X.s.asked X.long 0).1.off) hb6 (show w.heap.size ≤ w.heap.size + 1 by omega)
    obtain ⟨q2, q3⟩ := asked_wf (gr := 0) HL.out.fuse HL.out.fault
    have hpo2 := hpo.setAway5 (hpa (w.heap.size + 1) (by omega) (HL.out.away (by omega))) (.slice p.A p.n p.c) (.slice none 0 0) (.int .i64 (X.s.asked X.long 0).1.fuse) (.int .i64 (X.s.asked X.long 0).1.fault) (.bool (X.s.asked X.long 0).1.off)
    rw [← size_set5 W5 (w.heap.size + 1) (.slice p.A p.n p.c) (.slice none 0 0) (.int .i64 (X.s.asked X.long 0).1.fuse) (.int .i64 (X.s.asked X.long 0).1.fault) (.bool (X.s.asked X.long 0).1.off)] at hpo2
    have HLe := Lib.hid (lie_syn (b := (X.s.asked X.long 0).1.off) hpo2 q2 q3)
    have HAw := Lib.hid (show ∀ g, g < w.heap.size → AwayF X g → True → AwayF ⟨p, none, 0, 0, [], (X.s.asked X.long 0).1.fuse, (X.s.asked X.long 0).1.fault, (X.s.asked X.long 0).1.off⟩ g from fun g hg h1 _ => ⟨hpa g (by omega) h1, fun _ _ h => (by cases h), fun q hq => (List.not_mem_nil hq).elim⟩)
    have HSe := Lib.hid (show (⟨p.l, [], (X.s.asked X.long 0).1.fuse, (X.s.asked X.long 0).1.fault, (X.s.asked X.long 0).1.off⟩ : FileS) = { (X.s.asked X.long 0).1 with firm := X.all, loose := [] } by
      rw [hpl])
    generalize X.s.asked X.long 0 = q at *
    clear HL HN hV4 h54 hq4 hr4 hs4 hs3 hww hcf hmf hg4 hL4 hb5 hb6 hb4 hb3 h0 f0' f1' f2' f3' f4' hs2 HS HV2 HO2 hl hln q2 q3 hpl hpo hpa hpo2
    go_wp2
    refine bodyPost_ret (v := .tuple #[.agg #[.slice p.A p.n p.c, .slice none 0 0, .int .i64 q.1.fuse, .int .i64 q.1.fault, .bool q.1.off], .int .i64 0]) ?_ rfl ⟨_, by rw [HO3.out]; rfl, by rw [HO3.out]; exact HSe.out, HLe.out, hbe, HAw.out⟩
    simp [results, Try.results30, go_sem, *]
end Go.Proofs.Ythoenmggjbojoaa
