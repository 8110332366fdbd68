import Derived.Test.YthoenmggjbojoaaGae
import Derived.Test.YthoenmggjbojoaaGaa
import Derived.Deep.Slices
import Derived.Deep.Fields
import Derived.ChangeSame
import Derived.Lib.SmallJoins
import Derived.Test.YthoenmggjbojoaaRows
import Derived.Deep.Modes
/-
  Layer 10: Sync.
-/
namespace Go.Proofs.Ythoenmggjbojoaa
open Go.RowKit
set_option linter.unusedVariables false

theorem all_s (X : FileT) : X.s.all = X.all := by unfold FileS.all FileT.all FileT.s joinP; rfl
def SynJ (X : FileT) (D : Nat) (v0 v1 : Value) (W : World) : Prop :=
  ∃ p : PcT, v0 = .slice p.A p.n p.c ∧ v1 = .slice none 0 0 ∧ p.l = X.all ∧ p.Ok W W.heap.size ∧ ∀ k, k < D → AwayF X k → AwayP p k
theorem PcT.Ok.setAway5 {w : World} {B g : Nat} {p : PcT} (h : p.Ok w B) (ha : AwayP p g) (a b c d e : Value) : p.Ok (set5F w g a b c d e) B :=
  ((((h.setAway ha 0 a).setAway ha 1 b).setAway ha 2 c).setAway ha 3 d).setAway ha 4 e
theorem lie_syn {W : World} {p : PcT} {u v : Int} {b : Bool} (h : p.Ok W W.heap.size) (hu : (Lit.int .i64 u).wf = true) (hv : (Lit.int .i64 v).wf = true) : LieF W W.heap.size ⟨p, none, 0, 0, [], u, v, b⟩ :=
  ⟨h, Shows.zero _, fun q hq => (List.not_mem_nil hq).elim, fun _ => rfl, Nat.le_refl _, by show 0 ≤ maxLen; exact Nat.zero_le _, hu, hv⟩
set_option maxRecDepth 20000 in
set_option maxHeartbeats 4000000 in
theorem syncF_any (X : FileT) (B : Nat) (w : World) (hL : LieF w B X) (hB : B ≤ w.heap.size) (hr : X.right = true) :
    Calls Try.prog 30 #[X.agg] w (OpP X (fun _ => True) (X.s.sync X.long) w) := by
  obtain ⟨out, ho⟩ : ∃ out, X.s.sync X.long = out := ⟨_, rfl⟩
  have HO2 := Lib.hid ho.symm
  rw [ho]
  clear ho
  have hb1 := bel_alloc (bel_alloc (Below.refl w.heap.size w) (.cells #[.slice X.F.A X.F.n X.F.c, .slice X.lA X.ln X.lc, .int .i64 X.fuse, .int .i64 X.fault, .bool X.off] 25)) (.cells #[.slice none 0 0, .slice none 0 0, .int .i64 0, .int .i64 0, .bool false] 25)
  have HX := (FBox.new w X 25).later (bel_alloc (Below.refl _ _) (.cells #[.slice none 0 0, .slice none 0 0, .int .i64 0, .int .i64 0, .bool false] 25))
  obtain ⟨hN, hl, hln⟩ := right_rows hL hr
  have hch := checkF_any X B _ (hL.later (hb1.mono hB)) (Nat.le_trans hB hb1.size) hN
  rw [if_pos hr] at hch
  have HV := FVar.new (w.alloc (.cells #[.slice X.F.A X.F.n X.F.c, .slice X.lA X.ln X.lc, .int .i64 X.fuse, .int .i64 X.fault, .bool X.off] 25)) (.slice none 0 0) (.slice none 0 0) (.int .i64 0) (.int .i64 0) (.bool false) 25
  simp only [FileT.agg, PcT.val] at hch ⊢
  obtain ⟨f0, f1, f2, f3, f4⟩ := HX
  have hsz : ((w.alloc (.cells #[.slice X.F.A X.F.n X.F.c, .slice X.lA X.ln X.lc, .int .i64 X.fuse, .int .i64 X.fault, .bool X.off] 25)).alloc (.cells #[.slice none 0 0, .slice none 0 0, .int .i64 0, .int .i64 0, .bool false] 25)).heap.size = w.heap.size + 2 := by simp
  have hsz2 : (w.alloc (.cells #[.slice X.F.A X.F.n X.F.c, .slice X.lA X.ln X.lc, .int .i64 X.fuse, .int .i64 X.fault, .bool X.off] 25)).heap.size = w.heap.size + 1 := by simp
  rw [hsz2] at HV
  clear hsz2
  go_enter Try.func30, Try.ntmps30
  go_wp2_with fail
  generalize (w.alloc (.cells #[.slice X.F.A X.F.n X.F.c, .slice X.lA X.ln X.lc, .int .i64 X.fuse, .int .i64 X.fault, .bool X.off] 25)).alloc (.cells #[.slice none 0 0, .slice none 0 0, .int .i64 0, .int .i64 0, .bool false] 25) = W1 at *
  refine hch.mono ?_
  rintro e W2 ⟨rfl, hb2⟩
  clear hch
  have hb3 := bel_next hb1 hb2
  have HV2 := Lib.hid (HV.later hb2)
  have f0' := kept_later hb2 f0
  have f1' := kept_later hb2 f1
  have f2' := kept_later hb2 f2
  have f3' := kept_later hb2 f3
  have f4' := kept_later hb2 f4
  have hs2 := hb2.size
  have HS := Lib.hid hsz
  clear f0 f1 f2 f3 f4 HV hb1 hb2
  have hmf : ∀ (fn : Fn) (first cap : Array Value) (w : World), (Instr.makeFunc fn first cap).run Try.prog w = .ok (.func fn first cap) w := fun _ _ _ _ => rfl
  have HL := Lib.hid hL
  have HN := Lib.hid hN
  have Hr := Lib.hid hr
  clear hsz hN hL hr
  have hb4 := bel_alloc (bel_alloc hb3 (.cells #[.slice X.F.A X.F.n X.F.c, .slice X.lA X.ln X.lc, .int .i64 X.fuse, .int .i64 X.fault, .bool X.off, .int .i64 0] 70)) (.cells #[.pointer (some ⟨W2.heap.size, 0, none⟩)] 68)
  have hg4 : W2.heap.size < ((W2.alloc (.cells #[.slice X.F.A X.F.n X.F.c, .slice X.lA X.ln X.lc, .int .i64 X.fuse, .int .i64 X.fault, .bool X.off, .int .i64 0] 70)).alloc (.cells #[.pointer (some ⟨W2.heap.size, 0, none⟩)] 68)).heap.size := by rw [World.size_alloc, World.size_alloc]; omega
  obtain ⟨hV4, h54, hq4⟩ := chg_lay W2 (.slice X.F.A X.F.n X.F.c) (.slice X.lA X.ln X.lc) (.int .i64 X.fuse) (.int .i64 X.fault) (.bool X.off) (.int .i64 0) 70 68
  have hr4 := HV2.out.later (bel_alloc (bel_alloc (Below.refl _ _) (.cells #[.slice X.F.A X.F.n X.F.c, .slice X.lA X.ln X.lc, .int .i64 X.fuse, .int .i64 X.fault, .bool X.off, .int .i64 0] 70)) (.cells #[.pointer (some ⟨W2.heap.size, 0, none⟩)] 68))
  have hs4 := hb4.size
  have hs3 := hb3.size
  have hww : w.heap.size + 2 ≤ W2.heap.size := by have := HS.out; omega
  have hcf : ∀ (cap : Array Value) (W : World), Sem.run Try.prog (callFunc 50 cap) W = .ok (.enter 50 cap) W := fun _ _ => by kernel_rfl
  go_wp2_with fail
  generalize hW4 : (W2.alloc (.cells #[.slice X.F.A X.F.n X.F.c, .slice X.lA X.ln X.lc, .int .i64 X.fuse, .int .i64 X.fault, .bool X.off, .int .i64 0] 70)).alloc (.cells #[.pointer (some ⟨W2.heap.size, 0, none⟩)] 68) = W4 at *
  clear hW4
  have hL4 := (HL.out.later (hb4.mono hB)).more (Nat.le_trans hB hb4.size)
  refine (run_any X W2.heap.size 0 W2.heap.size 50 #[.pointer (some ⟨W2.heap.size + 1, 0, none⟩)] (SynJ X (W4.heap.size + 1)) W4 hV4 h54 ((HL.out.later (hb4.mono hB)).more (Nat.le_trans hB hs3)) (Nat.le_refl _) hg4 HN.out hl (hcf _) ?hwork ?hJ).mono ?_
  case hwork =>
    intro W hV hbW hsW hoW
    refine work2_any W2.heap.size (W2.heap.size + 1) W2.heap.size X _ _ _ W hV ((World.cell?_of_block (hoW _ (World.block_lt_of_cell? _ _ hq4) (show W2.heap.size + 1 ≠ W2.heap.size by omega))).trans hq4) (show W2.heap.size + 1 ≠ W2.heap.size by omega) (Nat.le_refl _) (by omega) (((HL.out.later (hb4.mono hB)).more (Nat.le_trans hB hs3)).later hbW) (tick_wf HL.out.fuse) (tick_wf HL.out.fault) Hr.out ?_
    intro p Wn hpl hpo hpa hb hV'
    have hag : AwayP p W2.heap.size := hpa _ (show W2.heap.size < W.heap.size by omega) (HL.out.away (by omega))
    have hpo2 := (hpo.setAway hag 0 (.slice p.A p.n p.c)).setAway hag 1 (.slice none 0 0)
    refine ⟨rfl, ((hb.mono (show W2.heap.size ≤ W.heap.size by omega)).setCell (show W2.heap.size ≤ W2.heap.size from Nat.le_refl _) _).setCell (show W2.heap.size ≤ W2.heap.size from Nat.le_refl _) _, fun k a b c d e hk hlt hf => fvar_other 1 _ (Ne.symm hk) (fvar_other 0 _ (Ne.symm hk) (hf.later hb)), _, _, _, _, _, _, (hV'.set0 _).set1 _, p, rfl, rfl, ?_, ?_, fun k hk ha => hpa k (by omega) ha⟩
    · rw [hpl, Nat.zero_add]
      unfold between
      rw [List.drop_zero, List.take_of_length_le (by rw [(right_all HL.out Hr.out).1]; exact Nat.le_refl _)]
    · rw [size_set, size_set]
      exact hpo2
  case hJ =>
    rintro v0 v1 W a b c d e ⟨p, rfl, rfl, h1, h2, h3⟩
    refine ⟨p, rfl, rfl, h1, ?_, h3⟩
    rw [size_set5]
    exact h2.setAway5 (h3 _ (Nat.lt_succ_self _) (HL.out.away (by omega))) a b c d e
  rintro e W5 ⟨r, hask, hb5, hcase⟩
  have hb6 := hb4.trans (hb5.mono hs3)
  have hV6 := hr4.low (by omega) hb5
  obtain ⟨⟨j0, j1, j2, j3, j4⟩, k0, k1, k2, k3, k4⟩ := hV6
  rcases hcase with ⟨hne, rfl⟩ | ⟨h0, v0, v1, ⟨p, rfl, rfl, hpl, hpo, hpa⟩, rfl⟩
  · have HO3 := Lib.hid (show out = X.s.asked X.long 0 by
      rw [HO2.out]
      unfold FileS.sync
      rw [if_neg (by rw [hask]; exact hne)])
    subst hask
    have hbe := fbelow_set5 (a := .slice X.F.A X.F.n X.F.c) (b := .slice X.lA X.ln X.lc) (c := .int .i64 (X.s.asked X.long 0).1.fuse) (d := .int .i64 (X.s.asked X.long 0).1.fault) (e := .bool (X.s.asked X.long 0).1.off) hb6 (show w.heap.size ≤ w.heap.size + 1 by omega)
    have HLe := Lib.hid (lie_asked (gr := 0) HL.out (hbe.mono hB) (Nat.le_trans hB hbe.size))
    have HSe := Lib.hid (show (⟨X.F.l, X.L.map (·.l), (X.s.asked X.long 0).1.fuse, (X.s.asked X.long 0).1.fault, (X.s.asked X.long 0).1.off⟩ : FileS) = (X.s.asked X.long 0).1 by
      obtain ⟨e1, e2⟩ := asked_same X.s X.long 0
      generalize X.s.asked X.long 0 = q at *
      obtain ⟨⟨q0, q1, q2, q3, q4⟩, q5⟩ := q
      cases e1
      cases e2
      rfl)
    generalize X.s.asked X.long 0 = q at *
    clear HL HN hV4 h54 hq4 hr4 hs4 hs3 hww hcf hmf hg4 hL4 hb5 hb6 hb4 hb3 hne f0' f1' f2' f3' f4' hs2 HS HV2 HO2 hl hln
    go_wp2
    refine bodyPost_ret (v := .tuple #[.agg #[.slice X.F.A X.F.n X.F.c, .slice X.lA X.ln X.lc, .int .i64 q.1.fuse, .int .i64 q.1.fault, .bool q.1.off], .int .i64 q.2]) ?_ rfl ⟨⟨X.F, X.lA, X.ln, X.lc, X.L, q.1.fuse, q.1.fault, q.1.off⟩, by rw [HO3.out]; rfl, by rw [HO3.out]; exact HSe.out, HLe.out, hbe, fun _ _ h _ => ⟨h.firm, h.row, h.loose⟩⟩
    simp [results, Try.results30, go_sem, *]
  · have HO3 := Lib.hid (show out = ({ (X.s.asked X.long 0).1 with firm := X.all, loose := [] }, (0 : Int)) by
      rw [HO2.out]
      unfold FileS.sync
      rw [if_pos (by rw [hask]; exact h0), all_s])
    subst hask
    have hbe := fbelow_set5 (a := .slice p.A p.n p.c) (b := .slice none 0 0) (c := .int .i64 (X.s.asked X.long 0).1.fuse) (d := .int .i64 (X.s.asked X.long 0).1.fault) (e := .bool (X.s.asked X.long 0).1.off) hb6 (show w.heap.size ≤ w.heap.size + 1 by omega)
    obtain ⟨q2, q3⟩ := asked_wf (gr := 0) HL.out.fuse HL.out.fault
    have hpo2 := hpo.setAway5 (hpa (w.heap.size + 1) (by omega) (HL.out.away (by omega))) (.slice p.A p.n p.c) (.slice none 0 0) (.int .i64 (X.s.asked X.long 0).1.fuse) (.int .i64 (X.s.asked X.long 0).1.fault) (.bool (X.s.asked X.long 0).1.off)
    rw [← size_set5 W5 (w.heap.size + 1) (.slice p.A p.n p.c) (.slice none 0 0) (.int .i64 (X.s.asked X.long 0).1.fuse) (.int .i64 (X.s.asked X.long 0).1.fault) (.bool (X.s.asked X.long 0).1.off)] at hpo2
    have HLe := Lib.hid (lie_syn (b := (X.s.asked X.long 0).1.off) hpo2 q2 q3)
    have HAw := Lib.hid (show ∀ g, g < w.heap.size → AwayF X g → True → AwayF ⟨p, none, 0, 0, [], (X.s.asked X.long 0).1.fuse, (X.s.asked X.long 0).1.fault, (X.s.asked X.long 0).1.off⟩ g from fun g hg h1 _ => ⟨hpa g (by omega) h1, fun _ _ h => (by cases h), fun q hq => (List.not_mem_nil hq).elim⟩)
    have HSe := Lib.hid (show (⟨p.l, [], (X.s.asked X.long 0).1.fuse, (X.s.asked X.long 0).1.fault, (X.s.asked X.long 0).1.off⟩ : FileS) = { (X.s.asked X.long 0).1 with firm := X.all, loose := [] } by
      rw [hpl])
    generalize X.s.asked X.long 0 = q at *
    clear HL HN hV4 h54 hq4 hr4 hs4 hs3 hww hcf hmf hg4 hL4 hb5 hb6 hb4 hb3 h0 f0' f1' f2' f3' f4' hs2 HS HV2 HO2 hl hln q2 q3 hpl hpo hpa hpo2
    go_wp2
    refine bodyPost_ret (v := .tuple #[.agg #[.slice p.A p.n p.c, .slice none 0 0, .int .i64 q.1.fuse, .int .i64 q.1.fault, .bool q.1.off], .int .i64 0]) ?_ rfl ⟨_, by rw [HO3.out]; rfl, by rw [HO3.out]; exact HSe.out, HLe.out, hbe, HAw.out⟩
    simp [results, Try.results30, go_sem, *]
end Go.Proofs.Ythoenmggjbojoaa
/-
  Layer 10: Read.
-/
namespace Go.Proofs.Ythoenmggjbojoaa
open Go.RowKit
set_option linter.unusedVariables false

/-- What Read gives of a right file. -/
def ReadP (X : FileT) (a n : Nat) (w : World) (e : Ending) (w' : World) : Prop :=
  ∃ p : PcT, e = .returned (.tuple #[.slice p.A p.n p.c, .int .i64 0]) ∧ p.l = between X.all a (a + n) ∧ p.Ok w' w'.heap.size ∧ Below w.heap.size w w' ∧ ∀ g, g < w.heap.size → AwayF X g → AwayP p g
set_option maxRecDepth 20000 in
set_option maxHeartbeats 2000000 in
theorem readF_bad (X : FileT) (a n : Int) (B : Nat) (w : World) (hL : LieF w B X) (hB : B ≤ w.heap.size) (hN : ∀ p ∈ X.Q, p.n ≤ 1048576) (hr : X.right = false) :
    Calls Try.prog 19 #[X.agg, .int .i64 a, .int .i64 n] w fun e w' => e = .returned (.tuple #[.slice none 0 0, .int .i64 200]) ∧ Below w.heap.size w w' := by
  have hb1 := bel_alloc (Below.refl w.heap.size w) (.cells #[.slice X.F.A X.F.n X.F.c, .slice X.lA X.ln X.lc, .int .i64 X.fuse, .int .i64 X.fault, .bool X.off] 25)
  have HX := Lib.hid (FBox.new w X 25)
  have hch := checkF_any X B _ (hL.later (hb1.mono hB)) (Nat.le_trans hB hb1.size) hN
  rw [hr] at hch
  have Hr := Lib.hid hr
  simp only [FileT.agg, PcT.val] at *
  clear hL hN hr
  go_enter Try.func19, Try.ntmps19
  go_wp2_with fail
  generalize w.alloc (.cells #[.slice X.F.A X.F.n X.F.c, .slice X.lA X.ln X.lc, .int .i64 X.fuse, .int .i64 X.fault, .bool X.off] 25) = W1 at *
  refine hch.mono ?_
  rintro e W2 ⟨rfl, hb2⟩
  have hb3 := bel_next hb1 hb2
  obtain ⟨f0, f1, f2, f3, f4⟩ := HX.out.later hb2
  clear hch hb1 hb2 HX
  go_wp2
  all_goals
    (try rw [Exit.noGoto_ret])
    go_ret2
    exact ⟨rfl, hb3⟩
set_option maxRecDepth 20000 in
set_option maxHeartbeats 2000000 in
theorem readF_arg (X : FileT) (a n : Int) (B : Nat) (w : World) (hL : LieF w B X) (hB : B ≤ w.heap.size) (hN : ∀ p ∈ X.Q, p.n ≤ 1048576) (hr : X.right = true) (h : a < 0 ∨ n < 0) :
    Calls Try.prog 19 #[X.agg, .int .i64 a, .int .i64 n] w fun e w' => e = .returned (.tuple #[.slice none 0 0, .int .i64 2]) ∧ Below w.heap.size w w' := by
  have hb1 := bel_alloc (Below.refl w.heap.size w) (.cells #[.slice X.F.A X.F.n X.F.c, .slice X.lA X.ln X.lc, .int .i64 X.fuse, .int .i64 X.fault, .bool X.off] 25)
  have HX := Lib.hid (FBox.new w X 25)
  have hch := checkF_any X B _ (hL.later (hb1.mono hB)) (Nat.le_trans hB hb1.size) hN
  rw [hr] at hch
  have Hr := Lib.hid hr
  simp only [FileT.agg, PcT.val] at *
  clear hL hN hr
  go_enter Try.func19, Try.ntmps19
  go_wp2_with fail
  generalize w.alloc (.cells #[.slice X.F.A X.F.n X.F.c, .slice X.lA X.ln X.lc, .int .i64 X.fuse, .int .i64 X.fault, .bool X.off] 25) = W1 at *
  refine hch.mono ?_
  rintro e W2 ⟨rfl, hb2⟩
  have hb3 := bel_next hb1 hb2
  obtain ⟨f0, f1, f2, f3, f4⟩ := HX.out.later hb2
  clear hch hb1 hb2 HX
  by_cases h1 : a < 0
  · clear h
    go_wp2
    all_goals
      (try rw [Exit.noGoto_ret])
      go_ret2
      exact ⟨rfl, hb3⟩
  · have h2 : n < 0 := by omega
    clear h
    go_wp2
    all_goals
      (try rw [Exit.noGoto_ret])
      go_ret2
      exact ⟨rfl, hb3⟩
set_option maxRecDepth 20000 in
set_option maxHeartbeats 2000000 in
theorem readF_short (X : FileT) (a n : Nat) (B : Nat) (w : World) (hL : LieF w B X) (hB : B ≤ w.heap.size) (hN : ∀ p ∈ X.Q, p.n ≤ 1048576) (hr : X.right = true) (ha : (Lit.int .i64 (a : Int)).wf = true) (hn : (Lit.int .i64 (n : Int)).wf = true) (h : X.long < a + n) :
    Calls Try.prog 19 #[X.agg, .int .i64 a, .int .i64 n] w fun e w' => e = .returned (.tuple #[.slice none 0 0, .int .i64 6]) ∧ Below w.heap.size w w' := by
  have hb1 := bel_alloc (Below.refl w.heap.size w) (.cells #[.slice X.F.A X.F.n X.F.c, .slice X.lA X.ln X.lc, .int .i64 X.fuse, .int .i64 X.fault, .bool X.off] 25)
  have HX := Lib.hid (FBox.new w X 25)
  have hch := checkF_any X B _ (hL.later (hb1.mono hB)) (Nat.le_trans hB hb1.size) hN
  rw [hr] at hch
  have Hr := Lib.hid hr
  have Hle := Lib.hid (fun W (h : Below w.heap.size w W) => length_any X B W (hL.later (h.mono hB)) (Nat.le_trans hB h.size) hN)
  have hl := (right_rows hL hr).2.1
  have hwa := wf_i64 ha
  have hwn := wf_i64 hn
  clear ha hn
  have h1 : ¬ (a : Int) < 0 := by omega
  have h2 : ¬ (n : Int) < 0 := by omega
  simp only [FileT.agg, PcT.val] at *
  clear hL hN hr
  go_enter Try.func19, Try.ntmps19
  go_wp2_with fail
  generalize w.alloc (.cells #[.slice X.F.A X.F.n X.F.c, .slice X.lA X.ln X.lc, .int .i64 X.fuse, .int .i64 X.fault, .bool X.off] 25) = W1 at *
  refine hch.mono ?_
  rintro e W2 ⟨rfl, hb2⟩
  have hb3 := bel_next hb1 hb2
  obtain ⟨f0, f1, f2, f3, f4⟩ := HX.out.later hb2
  clear hch hb1 hb2 HX
  generalize X.long = lo at *
  have e1 : IntKind.i64.wrap ((lo : Int) - (n : Int)) = (lo : Int) - (n : Int) := by rw [IntKind.wrap_i64]; omega
  have e2 : wrap64 ((lo : Int) - (n : Int)) = (lo : Int) - (n : Int) := by unfold wrap64; omega
  have h3 : ((lo : Int) - (n : Int) < (a : Int)) = True := by simp; omega
  clear h hl hwa hwn
  go_wp2_with fail
  refine (Hle.out _ hb3).mono ?_
  rintro e W3 ⟨rfl, hb4⟩
  have hb3 := bel_next hb3 hb4
  clear Hle hb4 f0 f1 f2 f3 f4
  go_wp2
  all_goals
    (try rw [Exit.noGoto_ret])
    go_ret2
    exact ⟨rfl, hb3⟩
set_option maxRecDepth 20000 in
set_option maxHeartbeats 2000000 in
theorem readF_ok (X : FileT) (a n : Nat) (B : Nat) (w : World) (hL : LieF w B X) (hB : B ≤ w.heap.size) (hN : ∀ p ∈ X.Q, p.n ≤ 1048576) (hr : X.right = true) (h : a + n ≤ X.long) :
    Calls Try.prog 19 #[X.agg, .int .i64 a, .int .i64 n] w (ReadP X a n w) := by
  have hb1 := bel_alloc (Below.refl w.heap.size w) (.cells #[.slice X.F.A X.F.n X.F.c, .slice X.lA X.ln X.lc, .int .i64 X.fuse, .int .i64 X.fault, .bool X.off] 25)
  have HX := Lib.hid (FBox.new w X 25)
  have hch := checkF_any X B _ (hL.later (hb1.mono hB)) (Nat.le_trans hB hb1.size) hN
  rw [hr] at hch
  have Hr := Lib.hid hr
  have Hle := Lib.hid (fun W (h : Below w.heap.size w W) => length_any X B W (hL.later (h.mono hB)) (Nat.le_trans hB h.size) hN)
  have hl := (right_rows hL hr).2.1
  obtain ⟨hlong, hmax⟩ := right_all hL hr
  have Hsp := Lib.hid (fun W (h2 : Below w.heap.size w W) => span_any X a n B W (hL.later (h2.mono hB)) (Nat.le_trans hB h2.size) hN hl (by omega) hmax)
  have h1 : ¬ (a : Int) < 0 := by omega
  have h2 : ¬ (n : Int) < 0 := by omega
  simp only [FileT.agg, PcT.val] at *
  clear hL hN hr
  go_enter Try.func19, Try.ntmps19
  go_wp2_with fail
  generalize w.alloc (.cells #[.slice X.F.A X.F.n X.F.c, .slice X.lA X.ln X.lc, .int .i64 X.fuse, .int .i64 X.fault, .bool X.off] 25) = W1 at *
  refine hch.mono ?_
  rintro e W2 ⟨rfl, hb2⟩
  have hb3 := bel_next hb1 hb2
  obtain ⟨f0, f1, f2, f3, f4⟩ := HX.out.later hb2
  clear hch hb1 hb2 HX
  generalize X.long = lo at *
  have e1 : IntKind.i64.wrap ((lo : Int) - (n : Int)) = (lo : Int) - (n : Int) := by rw [IntKind.wrap_i64]; omega
  have e2 : wrap64 ((lo : Int) - (n : Int)) = (lo : Int) - (n : Int) := by unfold wrap64; omega
  have h3 : ((lo : Int) - (n : Int) < (a : Int)) = False := by simp; omega
  clear h hl hlong hmax
  have HX2 := Lib.hid (show FBox W2 w.heap.size X from ⟨f0, f1, f2, f3, f4⟩)
  go_wp2_with fail
  refine (Hle.out _ hb3).mono ?_
  rintro e W3 ⟨rfl, hb4⟩
  clear f0 f1 f2 f3 f4
  obtain ⟨f0, f1, f2, f3, f4⟩ := HX2.out.later hb4
  have hb5 := bel_next hb3 hb4
  clear Hle HX2 hb4
  go_wp2_with fail
  refine (Hsp.out _ hb5).mono ?_
  rintro e W4 ⟨p, rfl, hpl, hpo, hb6, hpa⟩
  have hs5 := hb5.size
  have HP := Lib.hid (And.intro hpl hpo)
  have HA := Lib.hid (show ∀ g, g < w.heap.size → AwayF X g → AwayP p g from fun g hg ha => hpa g (by omega) ha)
  have hb7 := bel_next hb5 hb6
  clear Hsp hpl hpo hpa hb6 hb5 hb3 f0 f1 f2 f3 f4
  go_wp2
  all_goals
    (try rw [Exit.noGoto_ret])
    go_ret2
    exact ⟨p, rfl, HP.out.1, HP.out.2, hb7, HA.out⟩
end Go.Proofs.Ythoenmggjbojoaa
/-
  Rows of an argument, cell by cell: flat_len, flat_get, shows_rows.
-/
namespace Go.Proofs.Ythoenmggjbojoaa
open Go.ChangeShapes Go.WideShapes Go.ChangeAt Go.RowKit Go.Deep
set_option linter.unusedVariables false

theorem flat_len {α : Type} (f : α → List Value) (k : Nat) (hf : ∀ x, (f x).length = k) : ∀ l : List α, (l.flatMap f).length = l.length * k
  | [] => by simp
  | x :: l => by rw [List.flatMap_cons, List.length_append, flat_len f k hf l, hf, List.length_cons, Nat.add_mul]; omega
theorem flat_get {α : Type} (f : α → List Value) (k : Nat) (hf : ∀ x, (f x).length = k) : ∀ (l : List α) (i j : Nat) (hi : i < l.length) (_ : j < k), (l.flatMap f)[i * k + j]? = (f (l[i]'hi))[j]?
  | x :: l, 0, j, _, hj => by
    rw [List.flatMap_cons, List.getElem?_append_left (by rw [hf]; omega)]
    simp
  | x :: l, i + 1, j, hi, hj => by
    have e : (i + 1) * k + j = (f x).length + (i * k + j) := by rw [hf, Nat.add_mul]; omega
    rw [List.flatMap_cons, e, List.getElem?_append_right (by omega), Nat.add_sub_cancel_left, flat_get f k hf l i j (by simpa using hi) hj]
    simp
/-- Rows of cells that are known one by one. -/
theorem shows_rows {α : Type} (f : α → List Value) (k : Nat) (hk : 0 < k) (hf : ∀ x, (f x).length = k) {w : World} {a : Addr} {n : Nat} (F : Nat → α) (h : ∀ i, i < n → ∀ j u, (f (F i))[j]? = some u → w.cell? (a.add (i * k + j)) = some u) :
    Shows w w.heap.size k (some a) n (((List.range n).map F).flatMap f) := by
  have hl : ((List.range n).map F).length = n := by simp
  refine ⟨by rw [flat_len f k hf, hl], fun hn => ?_⟩
  obtain ⟨b, off, spot⟩ := a
  have h00 : 0 < (f (F 0)).length := by rw [hf]; exact hk
  have hc0 := h 0 hn 0 _ (List.getElem?_eq_getElem h00)
  have hspot : spot = none := by simpa [Addr.add] using World.cell?_spot hc0
  subst hspot
  have hlt : b < w.heap.size := World.block_lt_of_cell? w _ (by simpa [Addr.add] using hc0)
  refine ⟨b, off, rfl, hlt, fun j u hu => ?_⟩
  have hj : j < (((List.range n).map F).flatMap f).length := (List.getElem?_eq_some_iff.1 hu).1
  rw [flat_len f k hf, hl] at hj
  have hd : j / k < n := Nat.div_lt_of_lt_mul (by rw [Nat.mul_comm]; exact hj)
  have hm : j % k < k := Nat.mod_lt _ hk
  have he : j = j / k * k + j % k := by rw [Nat.mul_comm]; exact (Nat.div_add_mod j k).symm
  rw [he, flat_get f k hf _ _ _ (by rw [hl]; exact hd) hm] at hu
  simp only [List.getElem_map, List.getElem_range] at hu
  have := h (j / k) hd (j % k) u hu
  rw [addr_add, ← he] at this
  exact this

end Go.Proofs.Ythoenmggjbojoaa
/-
  What the second form's bound gives: no part of a reading is greater than the whole. Rows of things that came in, each within the bound.
-/
namespace Go.Proofs.Ythoenmggjbojoaa
open Go.ChangeShapes Go.WideShapes Go.ChangeAt Go.RowKit Go.Deep
set_option linter.unusedVariables false

theorem blk_part {H : Type} {d : DataW H} : ∀ {l : List (DataW H)}, d ∈ l → Rows.uptoBulk d ≤ Rows.uptoBulkAll l
  | x :: r, h => by
    rw [Rows.uptoBulkAll]
    rcases List.mem_cons.1 h with rfl | h
    · omega
    · have := blk_part h; omega
theorem blk_agg {H : Type} {d : DataW H} {l : List (DataW H)} (h : d ∈ l) : Rows.uptoBulk d ≤ Rows.uptoBulk (.agg l) := by
  have := blk_part h
  rw [Rows.uptoBulk]
  omega
theorem blk_slice {H : Type} {d : DataW H} {l r : List (DataW H)} (h : d ∈ l) : Rows.uptoBulk d ≤ Rows.uptoBulk (.slice l r) := by
  have := blk_part h
  rw [Rows.uptoBulk]
  omega
theorem blk_str {H : Type} {s : ByteArray} {N : Nat} (h : Rows.uptoBulk (DataW.lit (H := H) (.string s.data.toList)) ≤ N) : s.size ≤ N := by
  rw [Rows.uptoBulk] at h
  have : s.data.toList.length = s.size := by rw [Array.length_toList]; rfl
  omega
theorem blk_all {H : Type} {l : List (DataW H)} (h : Rows.uptoSmall H l = true) {d : DataW H} (hd : d ∈ l) : Rows.uptoBulk d ≤ 1048576 := by
  have h1 := of_decide_eq_true h
  exact Nat.le_trans (blk_part hd) h1
section
variable {H : Type} {enc : TypeId × Value → H} {P : Program} {w W : World} {base : Nat} {spare : Nat → Bool} {held : Bool} {t e : TypeId} {N : Nat}
/-- A row of things that came in, one by one, each within the bound. -/
theorem open_rowsN {α : Type} (f : α → List Value) (z : α) (k : Nat) (hk : 0 < k) (hf : ∀ x, (f x).length = k) (Q : α → Prop) {fuel : Nat} {cs : List Value} {x : DataW H × List MemPlace} (ht : P.underlying t = some (.slice e)) (hC : P.cellsOf e = k)
    (hQ : ∀ n cs y, n < fuel → cs.length = k → DataW.trod enc P w base spare held n e cs = some y → Rows.uptoBulk y.1 ≤ N → ∃ x : α, cs = f x ∧ Q x)
    (h : DataW.trod enc P w base spare held fuel t cs = some x) (hN : Rows.uptoBulk x.1 ≤ N) : ∃ (A : Option Addr) (n c : Nat) (l : List α), cs = [.slice A n c] ∧ Shows w w.heap.size k A n (l.flatMap f) ∧ (∀ x ∈ l, Q x) ∧ (A = none → c = 0) ∧ n ≤ c ∧ c ≤ maxLen := by
  rcases DataW.trod_slice ht h with ⟨hcs, _⟩ | ⟨a, len, cap, elems, rest, n, hn, hcs, hx, _, hl, hm, hlen, hi, _, _⟩
  · exact ⟨none, 0, 0, [], hcs, ⟨by simp, fun h => absurd h (by decide)⟩, by simp, fun _ => rfl, Nat.le_refl _, Nat.zero_le _⟩
  · have hF : ∀ i, ∃ r : α, i < len → Q r ∧ ∀ j u, (f r)[j]? = some u → w.cell? (a.add (i * k + j)) = some u := by
      intro i
      by_cases hin : i < len
      · have h2 := hi i hin
        have hi' : i < elems.length := by rw [hlen]; exact hin
        rw [List.getElem?_eq_getElem hi'] at h2
        obtain ⟨cs', hc, htr⟩ := Option.bind_eq_some_iff.1 h2
        obtain ⟨_, hlen', hat⟩ := World.cells?_some hc
        rw [hC] at hlen' hat
        have hb : Rows.uptoBulk (elems[i]).1 ≤ N := by
          rw [hx] at hN
          exact Nat.le_trans (blk_slice (List.mem_map_of_mem (f := (·.1)) (List.getElem_mem hi'))) hN
        obtain ⟨r, rfl, hr⟩ := hQ n cs' _ (by omega) hlen' htr hb
        refine ⟨r, fun _ => ⟨hr, fun j u hu => ?_⟩⟩
        have hj : j < k := by have := (List.getElem?_eq_some_iff.1 hu).1; rw [hlen'] at this; exact this
        have := hat j hj
        rw [hu] at this
        rw [← this, ← Go.Deep.add_add]
      · exact ⟨z, fun h => absurd h hin⟩
    refine ⟨some a, len, cap, (List.range len).map fun i => Classical.choose (hF i), hcs, shows_rows f k hk hf _ fun i hi j u hu => (Classical.choose_spec (hF i) hi).2 j u hu, ?_, nofun, hl, hm⟩
    intro r hr
    obtain ⟨i, hi, rfl⟩ := List.mem_map.1 hr
    exact (Classical.choose_spec (hF i) (List.mem_range.1 hi)).1
theorem open_keysN {fuel : Nat} {cs : List Value} {x : DataW H × List MemPlace} (ht : P.underlying t = some (.slice e)) (hC : P.cellsOf e = 1) (he : P.underlying e = some .string) (h : DataW.trod enc P w base spare held fuel t cs = some x) (hN : Rows.uptoBulk x.1 ≤ N) :
    ∃ (A : Option Addr) (n c : Nat) (l : List ByteArray), cs = [.slice A n c] ∧ Shows w w.heap.size 1 A n (l.map Value.string) ∧ (∀ x ∈ l, x.size ≤ maxLen ∧ x.size ≤ N) ∧ (A = none → c = 0) ∧ n ≤ c ∧ c ≤ maxLen := by
  obtain ⟨A, n, c, l, h1, h2, h3⟩ := open_rowsN (fun s : ByteArray => [Value.string s]) ⟨#[]⟩ 1 (by decide) (fun _ => rfl) (fun s => s.size ≤ maxLen ∧ s.size ≤ N) ht hC (fun n cs y _ _ hy hb => by
    obtain ⟨s, e, hy1, hs⟩ := DataW.trod_string he hy
    rw [hy1] at hb
    exact ⟨s, e, hs, blk_str hb⟩) h hN
  have hfl : ∀ l : List ByteArray, l.flatMap (fun s => [Value.string s]) = l.map Value.string := by
    intro l
    induction l with
    | nil => rfl
    | cons x l ih => rw [List.flatMap_cons, ih]; rfl
  rw [hfl] at h2
  exact ⟨A, n, c, l, h1, h2, h3⟩
end
end Go.Proofs.Ythoenmggjbojoaa
/-
  Layer 10: a file that came in, opened; within the second form's bound each of its rows is short.
-/
namespace Go.Proofs.Ythoenmggjbojoaa
open Go.ChangeShapes Go.WideShapes Go.ChangeAt Go.RowKit Go.Deep
set_option linter.unusedVariables false

theorem bulk_pos {H : Type} (d : DataW H) : 1 ≤ Rows.uptoBulk d := by
  cases d with
  | lit x => cases x <;> simp [Rows.uptoBulk]
  | _ => simp [Rows.uptoBulk]
theorem bulk_len {H : Type} : ∀ l : List (DataW H), l.length ≤ Rows.uptoBulkAll l
  | [] => Nat.zero_le _
  | d :: r => by
    have h1 := bulk_pos d
    have h2 := bulk_len r
    rw [Rows.uptoBulkAll, List.length_cons]
    omega
theorem flat_one {α : Type} (f : α → Value) : ∀ l : List α, (l.flatMap fun x => [f x]) = l.map f
  | [] => rfl
  | a :: l => by rw [List.flatMap_cons, flat_one f l]; rfl
theorem u8_of {z : Int} (h : (Lit.int .u8 z).wf = true) : ∃ b : UInt8, bv b = .int .u8 z := by
  have h' : (decide (IntKind.u8.min ≤ z) && decide (z ≤ IntKind.u8.max)) = true := h
  rw [Bool.and_eq_true, decide_eq_true_iff, decide_eq_true_iff] at h'
  have h1 : 0 ≤ z := h'.1
  have h2 : z ≤ 255 := h'.2
  refine ⟨UInt8.ofNat z.toNat, ?_⟩
  unfold bv
  have : (UInt8.ofNat z.toNat).toNat = z.toNat := by simp; omega
  rw [this, Int.toNat_of_nonneg h1]
section
variable {H : Type} {enc : TypeId × Value → H} {P : Program} {w W : World} {base b0 : Nat} {spare : Nat → Bool} {held : Bool} {r : Reach} {t e : TypeId} {v : Value} {d : DataW H} {p : List MemPlace} {N : Nat}
theorem trod_lenN {fuel : Nat} {A : Option Addr} {n c : Nat} {x : DataW H × List MemPlace} (ht : P.underlying t = some (.slice e)) (h : DataW.trod enc P w base spare held fuel t [.slice A n c] = some x) (hN : Rows.uptoBulk x.1 ≤ N) : n ≤ N := by
  rcases DataW.trod_slice ht h with ⟨hcs, _⟩ | ⟨a, len, cap, elems, rest, n', hn, hcs, hx, _, hl, hm, hlen, hi, _, _⟩
  · simp at hcs
    omega
  · simp at hcs
    obtain ⟨_, rfl, _⟩ := hcs
    rw [hx] at hN
    have h1 := bulk_len (elems.map (·.1))
    rw [List.length_map, hlen] at h1
    simp only [Rows.uptoBulk] at hN
    omega
/-- A row of bytes that came in. -/
theorem trod_pieceN (ht : P.underlying t = some (.slice e)) (he : P.underlying e = some (.int .u8)) (hC : P.cellsOf e = 1) {fuel : Nat} {cs : List Value} {x : DataW H × List MemPlace} (h : DataW.trod enc P w base spare held fuel t cs = some x) (hN : Rows.uptoBulk x.1 ≤ N) : ∃ q : PcT, cs = [q.val] ∧ q.Ok w w.heap.size ∧ q.n ≤ N := by
  obtain ⟨A, n, c, l, rfl, hS, _, h1, h2, h3⟩ := open_rowsN (fun b : UInt8 => [bv b]) 0 1 (by decide) (fun _ => rfl) (fun _ => True) ht hC (fun n' cs' y _ hl hy _ => by
    obtain ⟨z, hz, _, hw⟩ := DataW.trod_int he hy
    obtain ⟨b, hb⟩ := u8_of hw
    exact ⟨b, by rw [hz, hb], trivial⟩) h hN
  rw [flat_one bv] at hS
  exact ⟨⟨A, n, c, l⟩, rfl, ⟨hS, h1, h2, h3⟩, trod_lenN ht h hN⟩
variable {f0 f1 f2 f3 f4 : Field} {eb : TypeId}
/-- A file that came in. -/
theorem came_fileN (ht : P.underlying t = some (.struct #[f0, f1, f2, f3, f4])) (hone : oneCellFields P #[f0, f1, f2, f3, f4] = true) (hC : P.cellsOf t = 5)
    (k0 : P.underlying f0.type = some (.slice eb)) (kb : P.underlying eb = some (.int .u8)) (cb : P.cellsOf eb = 1) (k1 : P.underlying f1.type = some (.slice f0.type)) (c1 : P.cellsOf f0.type = 1) (k2 : P.underlying f2.type = some (.int .i64)) (k3 : P.underlying f3.type = some (.int .i64)) (k4 : P.underlying f4.type = some .bool)
    (hv : Value.okWide P W r b0 t v) (h : DataW.Trod enc P w base spare held t v d p) (hN : Rows.uptoBulk d ≤ N) : ∃ X : FileT, v = X.agg ∧ LieF w w.heap.size X ∧ X.F.n ≤ N ∧ X.ln ≤ N ∧ ∀ q ∈ X.L, q.n ≤ N := by
  obtain ⟨cs, rfl, hsz⟩ := okWide_struct ht hv
  obtain ⟨fuel, hf⟩ := h
  have hf' : DataW.trod enc P w base spare held fuel t cs.toList = some (d, p) := by simpa [Value.cells] using hf
  have hl5 : cs.toList.length = 5 := by simpa using hsz.trans hC
  obtain ⟨cs⟩ := cs
  simp only at hf' hl5
  match cs, hl5 with
  | [c0, c1', c2, c3, c4], _ =>
    obtain ⟨xs, n, hn, hx, _, hlen, hg⟩ := DataW.trod_struct ht hf'
    obtain ⟨o0, q0⟩ := hone_of hone 0 f0 rfl
    obtain ⟨o1, q1⟩ := hone_of hone 1 f1 rfl
    obtain ⟨o2, q2⟩ := hone_of hone 2 f2 rfl
    obtain ⟨o3, q3⟩ := hone_of hone 3 f3 rfl
    obtain ⟨o4, q4⟩ := hone_of hone 4 f4 rfl
    match xs, hlen with
    | [y0, y1, y2, y3, y4], _ =>
      have hy0 : DataW.trod enc P w base spare held n f0.type [c0] = some y0 := by simpa [o0, q0] using hg 0 f0 rfl
      have hy1 : DataW.trod enc P w base spare held n f1.type [c1'] = some y1 := by simpa [o1, q1] using hg 1 f1 rfl
      have hy2 : DataW.trod enc P w base spare held n f2.type [c2] = some y2 := by simpa [o2, q2] using hg 2 f2 rfl
      have hy3 : DataW.trod enc P w base spare held n f3.type [c3] = some y3 := by simpa [o3, q3] using hg 3 f3 rfl
      have hy4 : DataW.trod enc P w base spare held n f4.type [c4] = some y4 := by simpa [o4, q4] using hg 4 f4 rfl
      have hb : ∀ y ∈ [y0, y1, y2, y3, y4], Rows.uptoBulk y.1 ≤ N := fun y hy => by
        have hd : d = _ := (Prod.ext_iff.1 hx).1
        rw [hd] at hN
        exact Nat.le_trans (blk_agg (List.mem_map_of_mem (f := (·.1)) hy)) hN
      obtain ⟨F, e0, hF, nF⟩ := trod_pieceN k0 kb cb hy0 (hb y0 (by simp))
      obtain ⟨A, m, c, L, e1, hS, hL, a1, a2, a3⟩ := open_rowsN (fun q : PcT => [q.val]) ⟨none, 0, 0, []⟩ 1 (by decide) (fun _ => rfl) (fun q => q.Ok w w.heap.size ∧ q.n ≤ N) k1 c1 (fun n' cs' y _ hl' hy' hb' => by
        obtain ⟨q, hq, h1, h2⟩ := trod_pieceN k0 kb cb hy' hb'
        exact ⟨q, hq, h1, h2⟩) hy1 (hb y1 (by simp))
      obtain ⟨z2, e2, _, w2⟩ := DataW.trod_int k2 hy2
      obtain ⟨z3, e3, _, w3⟩ := DataW.trod_int k3 hy3
      obtain ⟨z4, e4, _⟩ := DataW.trod_bool k4 hy4
      simp only [List.cons.injEq, and_true] at e0 e1 e2 e3 e4
      subst e0 e1 e2 e3 e4
      rw [flat_one PcT.val] at hS
      exact ⟨⟨F, A, m, c, L, z2, z3, z4⟩, rfl, ⟨hF, hS, fun q hq => (hL q hq).1, a1, a2, a3, w2, w3⟩, nF, trod_lenN k1 hy1 (hb y1 (by simp)), fun q hq => (hL q hq).2⟩
end
end Go.Proofs.Ythoenmggjbojoaa
/-
  Layer 10: deeds that came in, opened.
-/
namespace Go.Proofs.Ythoenmggjbojoaa
open Go.ChangeShapes Go.WideShapes Go.ChangeAt Go.RowKit Go.Deep
set_option linter.unusedVariables false

/-- A row of truths, with its head. -/
structure BoT where
  A : Option Addr
  n : Nat
  c : Nat
  l : List Bool
def BoT.val (p : BoT) : Value := .slice p.A p.n p.c
def Bools (w : World) (B : Nat) (A : Option Addr) (n : Nat) (l : List Bool) : Prop := Shows w B 1 A n (l.map Value.bool)
theorem Bools.cell {w : World} {B n : Nat} {A : Option Addr} {l : List Bool} (h : Bools w B A n l) {k : Nat} (hk : k < n) : ∃ b off, A = some ⟨b, off, none⟩ ∧ b < B ∧ w.cell? ⟨b, off + k, none⟩ = some (.bool (l.getD k false)) := by
  obtain ⟨b, off, rfl, hb, hc⟩ := h.2 (by omega)
  have hl : l.length = n := by have := h.1; simpa using this
  have hp : l[k]? = some (l[k]'(by omega)) := List.getElem?_eq_getElem (by omega)
  refine ⟨b, off, rfl, hb, hc k _ ?_⟩
  rw [List.getElem?_map, hp, List.getD_eq_getElem?_getD, hp]
  rfl
structure BoT.Ok (w : World) (B : Nat) (p : BoT) : Prop where
  here : Bools w B p.A p.n p.l
  nil : p.A = none → p.c = 0
  fits : p.n ≤ p.c
  most : p.c ≤ maxLen
theorem BoT.Ok.later {w w' : World} {B : Nat} {p : BoT} (h : p.Ok w B) (hb : Below B w w') : p.Ok w' B := ⟨Shows.below h.here hb, h.nil, h.fits, h.most⟩
theorem BoT.Ok.more {w : World} {B B' : Nat} {p : BoT} (h : p.Ok w B) (hB : B ≤ B') : p.Ok w B' := ⟨Shows.more h.here hB, h.nil, h.fits, h.most⟩
/-- A deed. -/
structure DeedT where
  kind : Int
  n : Int
  tear : Int
  bytes : PcT
  keep : BoT
def DeedT.cells (x : DeedT) : List Value := [.int .i64 x.kind, .int .i64 x.n, .int .i64 x.tear, x.bytes.val, x.keep.val]
structure DeedT.Ok (w : World) (B N : Nat) (x : DeedT) : Prop where
  kind : (Lit.int .i64 x.kind).wf = true
  n : (Lit.int .i64 x.n).wf = true
  tear : (Lit.int .i64 x.tear).wf = true
  bytes : x.bytes.Ok w B
  keep : x.keep.Ok w B
  few : x.bytes.n ≤ N ∧ x.keep.n ≤ N
theorem DeedT.Ok.later {w w' : World} {B N : Nat} {x : DeedT} (h : x.Ok w B N) (hb : Below B w w') : x.Ok w' B N := ⟨h.kind, h.n, h.tear, h.bytes.later hb, h.keep.later hb, h.few⟩
theorem DeedT.Ok.more {w : World} {B B' N : Nat} {x : DeedT} (h : x.Ok w B N) (hB : B ≤ B') : x.Ok w B' N := ⟨h.kind, h.n, h.tear, h.bytes.more hB, h.keep.more hB, h.few⟩
def Deeds (w : World) (B : Nat) (A : Option Addr) (n : Nat) (l : List DeedT) : Prop := Shows w B 5 A n (l.flatMap DeedT.cells)
section
variable {H : Type} {enc : TypeId × Value → H} {P : Program} {w W : World} {base b0 : Nat} {spare : Nat → Bool} {held : Bool} {r : Reach} {t e : TypeId} {v : Value} {d : DataW H} {p : List MemPlace} {N : Nat}
theorem trod_boolsN (ht : P.underlying t = some (.slice e)) (he : P.underlying e = some .bool) (hC : P.cellsOf e = 1) {fuel : Nat} {cs : List Value} {x : DataW H × List MemPlace} (h : DataW.trod enc P w base spare held fuel t cs = some x) (hN : Rows.uptoBulk x.1 ≤ N) : ∃ q : BoT, cs = [q.val] ∧ q.Ok w w.heap.size ∧ q.n ≤ N := by
  obtain ⟨A, n, c, l, rfl, hS, _, h1, h2, h3⟩ := open_rowsN (fun b : Bool => [Value.bool b]) false 1 (by decide) (fun _ => rfl) (fun _ => True) ht hC (fun n' cs' y _ hl hy _ => by
    obtain ⟨b, hb, _⟩ := DataW.trod_bool he hy
    exact ⟨b, hb, trivial⟩) h hN
  rw [flat_one Value.bool] at hS
  exact ⟨⟨A, n, c, l⟩, rfl, ⟨hS, h1, h2, h3⟩, trod_lenN ht h hN⟩
theorem came_boolsN {A : Option Addr} {n c : Nat} (ht : P.underlying t = some (.slice e)) (he : P.underlying e = some .bool) (hC : P.cellsOf e = 1) (h : DataW.Trod enc P w base spare held t (.slice A n c) d p) (hN : Rows.uptoBulk d ≤ N) :
    ∃ l : List Bool, Bools w w.heap.size A n l ∧ n ≤ N ∧ (A = none → c = 0) ∧ n ≤ c ∧ c ≤ maxLen := by
  obtain ⟨fuel, hf⟩ := h
  obtain ⟨q, hq, hok, hl⟩ := trod_boolsN ht he hC (by simpa [Value.cells] using hf) hN
  obtain ⟨A', n', c', l⟩ := q
  simp [BoT.val] at hq
  obtain ⟨rfl, rfl, rfl⟩ := hq
  exact ⟨l, hok.here, hl, hok.nil, hok.fits, hok.most⟩
variable {f0 f1 f2 f3 f4 : Field} {eb ek : TypeId}
theorem trod_deedN (ht : P.underlying t = some (.struct #[f0, f1, f2, f3, f4])) (hone : oneCellFields P #[f0, f1, f2, f3, f4] = true)
    (k0 : P.underlying f0.type = some (.int .i64)) (k1 : P.underlying f1.type = some (.int .i64)) (k2 : P.underlying f2.type = some (.int .i64)) (k3 : P.underlying f3.type = some (.slice eb)) (kb : P.underlying eb = some (.int .u8)) (cb : P.cellsOf eb = 1) (k4 : P.underlying f4.type = some (.slice ek)) (kk : P.underlying ek = some .bool) (ck : P.cellsOf ek = 1)
    {fuel : Nat} {cs : List Value} {x : DataW H × List MemPlace} (hl5 : cs.length = 5) (hf' : DataW.trod enc P w base spare held fuel t cs = some x) (hN : Rows.uptoBulk x.1 ≤ N) : ∃ X : DeedT, cs = X.cells ∧ X.Ok w w.heap.size N := by
  match cs, hl5 with
  | [c0, c1', c2, c3, c4], _ =>
    obtain ⟨xs, n, hn, hx, _, hlen, hg⟩ := DataW.trod_struct ht hf'
    obtain ⟨o0, q0⟩ := hone_of hone 0 f0 rfl
    obtain ⟨o1, q1⟩ := hone_of hone 1 f1 rfl
    obtain ⟨o2, q2⟩ := hone_of hone 2 f2 rfl
    obtain ⟨o3, q3⟩ := hone_of hone 3 f3 rfl
    obtain ⟨o4, q4⟩ := hone_of hone 4 f4 rfl
    match xs, hlen with
    | [y0, y1, y2, y3, y4], _ =>
      have hy0 : DataW.trod enc P w base spare held n f0.type [c0] = some y0 := by simpa [o0, q0] using hg 0 f0 rfl
      have hy1 : DataW.trod enc P w base spare held n f1.type [c1'] = some y1 := by simpa [o1, q1] using hg 1 f1 rfl
      have hy2 : DataW.trod enc P w base spare held n f2.type [c2] = some y2 := by simpa [o2, q2] using hg 2 f2 rfl
      have hy3 : DataW.trod enc P w base spare held n f3.type [c3] = some y3 := by simpa [o3, q3] using hg 3 f3 rfl
      have hy4 : DataW.trod enc P w base spare held n f4.type [c4] = some y4 := by simpa [o4, q4] using hg 4 f4 rfl
      have hb : ∀ y ∈ [y0, y1, y2, y3, y4], Rows.uptoBulk y.1 ≤ N := fun y hy => by
        rw [hx] at hN
        exact Nat.le_trans (blk_agg (List.mem_map_of_mem (f := (·.1)) hy)) hN
      obtain ⟨z0, e0, _, w0⟩ := DataW.trod_int k0 hy0
      obtain ⟨z1, e1, _, w1⟩ := DataW.trod_int k1 hy1
      obtain ⟨z2, e2, _, w2⟩ := DataW.trod_int k2 hy2
      obtain ⟨F, e3, hF, nF⟩ := trod_pieceN k3 kb cb hy3 (hb y3 (by simp))
      obtain ⟨K, e4, hK, nK⟩ := trod_boolsN k4 kk ck hy4 (hb y4 (by simp))
      simp only [List.cons.injEq, and_true] at e0 e1 e2 e3 e4
      subst e0 e1 e2 e3 e4
      exact ⟨⟨z0, z1, z2, F, K⟩, rfl, ⟨w0, w1, w2, hF, hK, nF, nK⟩⟩
theorem came_deedsN {A : Option Addr} {n c : Nat} (hu : P.underlying e = some (.slice t)) (ht : P.underlying t = some (.struct #[f0, f1, f2, f3, f4])) (hone : oneCellFields P #[f0, f1, f2, f3, f4] = true) (hC : P.cellsOf t = 5)
    (k0 : P.underlying f0.type = some (.int .i64)) (k1 : P.underlying f1.type = some (.int .i64)) (k2 : P.underlying f2.type = some (.int .i64)) (k3 : P.underlying f3.type = some (.slice eb)) (kb : P.underlying eb = some (.int .u8)) (cb : P.cellsOf eb = 1) (k4 : P.underlying f4.type = some (.slice ek)) (kk : P.underlying ek = some .bool) (ck : P.cellsOf ek = 1)
    (h : DataW.Trod enc P w base spare held e (.slice A n c) d p) (hN : Rows.uptoBulk d ≤ N) : ∃ l : List DeedT, Deeds w w.heap.size A n l ∧ (∀ x ∈ l, x.Ok w w.heap.size N) ∧ n ≤ N ∧ (A = none → c = 0) ∧ n ≤ c ∧ c ≤ maxLen := by
  obtain ⟨fuel, hf⟩ := h
  have hf' : DataW.trod enc P w base spare held fuel e [.slice A n c] = some (d, p) := by simpa [Value.cells] using hf
  obtain ⟨A', n', c', l, hcs, h2, h3, h4, h5, h6⟩ := open_rowsN DeedT.cells ⟨0, 0, 0, ⟨none, 0, 0, []⟩, ⟨none, 0, 0, []⟩⟩ 5 (by decide) (fun _ => rfl) (fun x => x.Ok w w.heap.size N) hu hC (fun n' cs' y _ hl' hy' hb' => trod_deedN ht hone k0 k1 k2 k3 kb cb k4 kk ck hl' hy' hb') hf' hN
  simp at hcs
  obtain ⟨rfl, rfl, rfl⟩ := hcs
  exact ⟨l, h2, h3, trod_lenN hu hf' hN, h4, h5, h6⟩
end
end Go.Proofs.Ythoenmggjbojoaa
/-
  Layer 10: how much of a piece survives.
-/
namespace Go.Proofs.Ythoenmggjbojoaa
open Go.RowKit
set_option linter.unusedVariables false

theorem surv_any (p : PcT) (i B : Nat) (k : BoT) (tear cut : Int) (w : World) (hp : p.l.length = p.n) (hk : k.Ok w B) :
    Calls Try.prog 44 #[.slice p.A p.n p.c, .int .i64 i, .slice k.A k.n k.c, .int .i64 tear, .int .i64 cut] w fun e w' => e = .returned (.int .i64 (survN p.l i k.l tear cut : Nat)) ∧ w = w' := by
  by_cases ht : (i : Int) = tear
  · have h1 : ((i : Int) == tear) = true := by rw [beq_iff_eq]; exact ht
    have hs : ((survN p.l i k.l tear cut : Nat) : Int) = min (max cut 0) (p.n : Int) := by
      unfold survN
      rw [if_pos ht, hp]
      omega
    have e1 : (if cut < 0 then 0 else cut) = max cut 0 := by split <;> omega
    have e2 : (if (p.n : Int) < max cut 0 then (p.n : Int) else max cut 0) = min (max cut 0) (p.n : Int) := by split <;> omega
    rw [hs]
    clear hs ht hp hk
    generalize hm : max cut 0 = m at *
    generalize hq : min m (p.n : Int) = q at *
    clear hm hq
    go_enter Try.func44, Try.ntmps44
    go_wp2
    all_goals
      (try rw [Exit.noGoto_ret])
      go_ret
      exact ⟨rfl, rfl⟩
  · have h1 : ((i : Int) == tear) = false := by rw [beq_eq_false_iff_ne]; exact ht
    by_cases hi : i < k.n
    · obtain ⟨b, off, hA, hb, hc⟩ := hk.here.cell hi
      have h2 : ((i : Int) < (k.n : Int)) = True := by simp; omega
      have h3 : (0 : Int) ≤ (i : Int) := by omega
      have hs : survN p.l i k.l tear cut = if k.l.getD i false = true then p.n else 0 := by
        unfold survN
        rw [if_neg ht, hp]
      rw [hs, hA]
      clear hs ht hp hk hA
      cases hv : k.l.getD i false
      · rw [hv] at hc
        clear hv
        go_enter Try.func44, Try.ntmps44
        go_wp2
        all_goals
          (try rw [Exit.noGoto_ret])
          go_ret
          exact ⟨rfl, rfl⟩
      · rw [hv] at hc
        clear hv
        go_enter Try.func44, Try.ntmps44
        go_wp2
        all_goals
          (try rw [Exit.noGoto_ret])
          go_ret
          exact ⟨rfl, rfl⟩
    · have h2 : ((i : Int) < (k.n : Int)) = False := by simp; omega
      have hs : survN p.l i k.l tear cut = 0 := by
        unfold survN
        rw [if_neg ht, List.getD_eq_getElem?_getD, List.getElem?_eq_none (by have := hk.here.1; simp at this; omega)]
        rfl
      rw [hs]
      clear hs ht hp hk
      go_enter Try.func44, Try.ntmps44
      go_wp2
      all_goals
        (try rw [Exit.noGoto_ret])
        go_ret
        exact ⟨rfl, rfl⟩
end Go.Proofs.Ythoenmggjbojoaa
