import Derived.Test.YtlknmpnjhbdlhaaDoorGai
import Derived.Test.YtlknmpnjhbdlhaaDoorGaf
import Derived.Test.YtlknmpnjhbdlhaaDoorGah
import Derived.Test.YtlknmpnjhbdlhaaDoorGag
import Derived.Test.YtlknmpnjhbdlhaaDoorGac
import Derived.Deep.LoopGhost
import Derived.BigRegion
import Derived.Test.YtlknmpnjhbdlhaaDoorGad
import Derived.Test.YtlknmpnjhbdlhaaDoorGab
import Derived.Test.YtlknmpnjhbdlhaaDoorGaa
/-
  Layer 10: Sync.
-/
namespace Go.Proofs.YtlknmpnjhbdlhaaDoor
open Go.RowKit
set_option linter.unusedVariables false

theorem all_s (X : FileT) : X.s.all = X.all := by unfold FileS.all FileT.all FileT.s joinP; rfl
def SynJ (X : FileT) (D : Nat) (v0 v1 : Value) (W : World) : Prop :=
  ∃ p : PcT, v0 = .slice p.A p.n p.c ∧ v1 = .slice none 0 0 ∧ p.l = X.all ∧ p.Ok W W.heap.size ∧ ∀ k, k < D → AwayF X k → AwayP p k
theorem PcT.Ok.setAway5 {w : World} {B g : Nat} {p : PcT} (h : p.Ok w B) (ha : AwayP p g) (a b c d e : Value) : p.Ok (set5F w g a b c d e) B :=
  ((((h.setAway ha 0 a).setAway ha 1 b).setAway ha 2 c).setAway ha 3 d).setAway ha 4 e
theorem lie_syn {W : World} {p : PcT} {u v : Int} {b : Bool} (h : p.Ok W W.heap.size) (hu : (Lit.int .i64 u).wf = true) (hv : (Lit.int .i64 v).wf = true) : LieF W W.heap.size ⟨p, none, 0, 0, [], u, v, b⟩ :=
  ⟨h, Shows.zero _, fun q hq => (List.not_mem_nil hq).elim, fun _ => rfl, Nat.le_refl _, by show 0 ≤ maxLen; exact Nat.zero_le _, hu, hv⟩
set_option maxRecDepth 20000 in
set_option maxHeartbeats 4000000 in
theorem syncF_any (X : FileT) (B : Nat) (w : World) (hL : LieF w B X) (hB : B ≤ w.heap.size) (hr : X.right = true) :
    Calls Tryd.prog 44 #[X.agg] w (OpP X (fun _ => True) (X.s.sync X.long) w) := by
  obtain ⟨out, ho⟩ : ∃ out, X.s.sync X.long = out := ⟨_, rfl⟩
  have HO2 := Lib.hid ho.symm
  rw [ho]
  clear ho
  have hb1 := bel_alloc (bel_alloc (Below.refl w.heap.size w) (.cells #[.slice X.F.A X.F.n X.F.c, .slice X.lA X.ln X.lc, .int .i64 X.fuse, .int .i64 X.fault, .bool X.off] 37)) (.cells #[.slice none 0 0, .slice none 0 0, .int .i64 0, .int .i64 0, .bool false] 37)
  have HX := (FBox.new w X 37).later (bel_alloc (Below.refl _ _) (.cells #[.slice none 0 0, .slice none 0 0, .int .i64 0, .int .i64 0, .bool false] 37))
  obtain ⟨hN, hl, hln⟩ := right_rows hL hr
  have hch := checkF_any X B _ (hL.later (hb1.mono hB)) (Nat.le_trans hB hb1.size) hN
  rw [if_pos hr] at hch
  have HV := FVar.new (w.alloc (.cells #[.slice X.F.A X.F.n X.F.c, .slice X.lA X.ln X.lc, .int .i64 X.fuse, .int .i64 X.fault, .bool X.off] 37)) (.slice none 0 0) (.slice none 0 0) (.int .i64 0) (.int .i64 0) (.bool false) 37
  simp only [FileT.agg, PcT.val] at hch ⊢
  obtain ⟨f0, f1, f2, f3, f4⟩ := HX
  have hsz : ((w.alloc (.cells #[.slice X.F.A X.F.n X.F.c, .slice X.lA X.ln X.lc, .int .i64 X.fuse, .int .i64 X.fault, .bool X.off] 37)).alloc (.cells #[.slice none 0 0, .slice none 0 0, .int .i64 0, .int .i64 0, .bool false] 37)).heap.size = w.heap.size + 2 := by simp
  have hsz2 : (w.alloc (.cells #[.slice X.F.A X.F.n X.F.c, .slice X.lA X.ln X.lc, .int .i64 X.fuse, .int .i64 X.fault, .bool X.off] 37)).heap.size = w.heap.size + 1 := by simp
  rw [hsz2] at HV
  clear hsz2
  go_enter Tryd.func44, Tryd.ntmps44
  go_wp2_with fail
  generalize (w.alloc (.cells #[.slice X.F.A X.F.n X.F.c, .slice X.lA X.ln X.lc, .int .i64 X.fuse, .int .i64 X.fault, .bool X.off] 37)).alloc (.cells #[.slice none 0 0, .slice none 0 0, .int .i64 0, .int .i64 0, .bool false] 37) = W1 at *
  refine hch.mono ?_
  rintro e W2 ⟨rfl, hb2⟩
  clear hch
  have hb3 := bel_next hb1 hb2
  have HV2 := Lib.hid (HV.later hb2)
  have f0' := kept_later hb2 f0
  have f1' := kept_later hb2 f1
  have f2' := kept_later hb2 f2
  have f3' := kept_later hb2 f3
  have f4' := kept_later hb2 f4
  have hs2 := hb2.size
  have HS := Lib.hid hsz
  clear f0 f1 f2 f3 f4 HV hb1 hb2
  have hmf : ∀ (fn : Fn) (first cap : Array Value) (w : World), (Instr.makeFunc fn first cap).run Tryd.prog w = .ok (.func fn first cap) w := fun _ _ _ _ => rfl
  have HL := Lib.hid hL
  have HN := Lib.hid hN
  have Hr := Lib.hid hr
  clear hsz hN hL hr
  have hb4 := bel_alloc (bel_alloc hb3 (.cells #[.slice X.F.A X.F.n X.F.c, .slice X.lA X.ln X.lc, .int .i64 X.fuse, .int .i64 X.fault, .bool X.off, .int .i64 0] 103)) (.cells #[.pointer (some ⟨W2.heap.size, 0, none⟩)] 101)
  have hg4 : W2.heap.size < ((W2.alloc (.cells #[.slice X.F.A X.F.n X.F.c, .slice X.lA X.ln X.lc, .int .i64 X.fuse, .int .i64 X.fault, .bool X.off, .int .i64 0] 103)).alloc (.cells #[.pointer (some ⟨W2.heap.size, 0, none⟩)] 101)).heap.size := by rw [World.size_alloc, World.size_alloc]; omega
  obtain ⟨hV4, h54, hq4⟩ := chg_lay W2 (.slice X.F.A X.F.n X.F.c) (.slice X.lA X.ln X.lc) (.int .i64 X.fuse) (.int .i64 X.fault) (.bool X.off) (.int .i64 0) 103 101
  have hr4 := HV2.out.later (bel_alloc (bel_alloc (Below.refl _ _) (.cells #[.slice X.F.A X.F.n X.F.c, .slice X.lA X.ln X.lc, .int .i64 X.fuse, .int .i64 X.fault, .bool X.off, .int .i64 0] 103)) (.cells #[.pointer (some ⟨W2.heap.size, 0, none⟩)] 101))
  have hs4 := hb4.size
  have hs3 := hb3.size
  have hww : w.heap.size + 2 ≤ W2.heap.size := by have := HS.out; omega
  have hcf : ∀ (cap : Array Value) (W : World), Sem.run Tryd.prog (callFunc 60 cap) W = .ok (.enter 60 cap) W := fun _ _ => by kernel_rfl
  go_wp2_with fail
  generalize hW4 : (W2.alloc (.cells #[.slice X.F.A X.F.n X.F.c, .slice X.lA X.ln X.lc, .int .i64 X.fuse, .int .i64 X.fault, .bool X.off, .int .i64 0] 103)).alloc (.cells #[.pointer (some ⟨W2.heap.size, 0, none⟩)] 101) = W4 at *
  clear hW4
  have hL4 := (HL.out.later (hb4.mono hB)).more (Nat.le_trans hB hb4.size)
  refine (run_any X W2.heap.size 0 W2.heap.size 60 #[.pointer (some ⟨W2.heap.size + 1, 0, none⟩)] (SynJ X (W4.heap.size + 1)) W4 hV4 h54 ((HL.out.later (hb4.mono hB)).more (Nat.le_trans hB hs3)) (Nat.le_refl _) hg4 HN.out hl (hcf _) ?hwork ?hJ).mono ?_
  case hwork =>
    intro W hV hbW hsW hoW
    refine work2_any W2.heap.size (W2.heap.size + 1) W2.heap.size X _ _ _ W hV ((World.cell?_of_block (hoW _ (World.block_lt_of_cell? _ _ hq4) (show W2.heap.size + 1 ≠ W2.heap.size by omega))).trans hq4) (show W2.heap.size + 1 ≠ W2.heap.size by omega) (Nat.le_refl _) (by omega) (((HL.out.later (hb4.mono hB)).more (Nat.le_trans hB hs3)).later hbW) (tick_wf HL.out.fuse) (tick_wf HL.out.fault) Hr.out ?_
    intro p Wn hpl hpo hpa hb hV'
    have hag : AwayP p W2.heap.size := hpa _ (show W2.heap.size < W.heap.size by omega) (HL.out.away (by omega))
    have hpo2 := (hpo.setAway hag 0 (.slice p.A p.n p.c)).setAway hag 1 (.slice none 0 0)
    refine ⟨rfl, ((hb.mono (show W2.heap.size ≤ W.heap.size by omega)).setCell (show W2.heap.size ≤ W2.heap.size from Nat.le_refl _) _).setCell (show W2.heap.size ≤ W2.heap.size from Nat.le_refl _) _, fun k a b c d e hk hlt hf => fvar_other 1 _ (Ne.symm hk) (fvar_other 0 _ (Ne.symm hk) (hf.later hb)), _, _, _, _, _, _, (hV'.set0 _).set1 _, p, rfl, rfl, ?_, ?_, fun k hk ha => hpa k (by omega) ha⟩
    · rw [hpl, Nat.zero_add]
      unfold between
      rw [List.drop_zero, List.take_of_length_le (by rw [(right_all HL.out Hr.out).1]; exact Nat.le_refl _)]
    · rw [size_set, size_set]
      exact hpo2
  case hJ =>
    rintro v0 v1 W a b c d e ⟨p, rfl, rfl, h1, h2, h3⟩
    refine ⟨p, rfl, rfl, h1, ?_, h3⟩
    rw [size_set5]
    exact h2.setAway5 (h3 _ (Nat.lt_succ_self _) (HL.out.away (by omega))) a b c d e
  rintro e W5 ⟨r, hask, hb5, hcase⟩
  have hb6 := hb4.trans (hb5.mono hs3)
  have hV6 := hr4.low (by omega) hb5
  obtain ⟨⟨j0, j1, j2, j3, j4⟩, k0, k1, k2, k3, k4⟩ := hV6
  rcases hcase with ⟨hne, rfl⟩ | ⟨h0, v0, v1, ⟨p, rfl, rfl, hpl, hpo, hpa⟩, rfl⟩
  · have HO3 := Lib.hid (show out = X.s.asked X.long 0 by
      rw [HO2.out]
      unfold FileS.sync
      rw [if_neg (by rw [hask]; exact hne)])
    subst hask
    have hbe := fbelow_set5 (a := .slice X.F.A X.F.n X.F.c) (b := .slice X.lA X.ln X.lc) (c := .int .i64 (X.s.asked X.long 0).1.fuse) (d := .int .i64 (X.s.asked X.long 0).1.fault) (e := .bool (X.s.asked X.long 0).1.off) hb6 (show w.heap.size ≤ w.heap.size + 1 by omega)
    have HLe := Lib.hid (lie_asked (gr := 0) HL.out (hbe.mono hB) (Nat.le_trans hB hbe.size))
    have HSe := Lib.hid (show (⟨X.F.l, X.L.map (·.l), (X.s.asked X.long 0).1.fuse, (X.s.asked X.long 0).1.fault, (X.s.asked X.long 0).1.off⟩ : FileS) = (X.s.asked X.long 0).1 by
      obtain ⟨e1, e2⟩ := asked_same X.s X.long 0
      generalize X.s.asked X.long 0 = q at *
      obtain ⟨⟨q0, q1, q2, q3, q4⟩, q5⟩ := q
      cases e1
      cases e2
      rfl)
    generalize X.s.asked X.long 0 = q at *
    clear HL HN hV4 h54 hq4 hr4 hs4 hs3 hww hcf hmf hg4 hL4 hb5 hb6 hb4 hb3 hne f0' f1' f2' f3' f4' hs2 HS HV2 HO2 hl hln
    go_wp2
    refine bodyPost_ret (v := .tuple #[.agg #[.slice X.F.A X.F.n X.F.c, .slice X.lA X.ln X.lc, .int .i64 q.1.fuse, .int .i64 q.1.fault, .bool q.1.off], .int .i64 q.2]) ?_ rfl ⟨⟨X.F, X.lA, X.ln, X.lc, X.L, q.1.fuse, q.1.fault, q.1.off⟩, by rw [HO3.out]; rfl, by rw [HO3.out]; exact HSe.out, HLe.out, hbe, fun _ _ h _ => ⟨h.firm, h.row, h.loose⟩⟩
    simp [results, Tryd.results44, go_sem, *]
  · have HO3 := Lib.hid (show out = ({ (X.s.asked X.long 0).1 with firm := X.all, loose := [] }, (0 : Int)) by
      rw [HO2.out]
      unfold FileS.sync
      rw [if_pos (by rw [hask]; exact h0), all_s])
    subst hask
    have hbe := fbelow_set5 (a := .slice p.A p.n p.c) (b := .slice none 0 0) (c := .int .i64 (X.s.asked X.long 0).1.fuse) (d := .int .i64 (X.s.asked X.long 0).1.fault) (e := .bool (X.s.asked X.long 0).1.off) hb6 (show w.heap.size ≤ w.heap.size + 1 by omega)
    obtain ⟨q2, q3⟩ := asked_wf (gr := 0) HL.out.fuse HL.out.fault
    have hpo2 := hpo.setAway5 (hpa (w.heap.size + 1) (by omega) (HL.out.away (by omega))) (.slice p.A p.n p.c) (.slice none 0 0) (.int .i64 (X.s.asked X.long 0).1.fuse) (.int .i64 (X.s.asked X.long 0).1.fault) (.bool (X.s.asked X.long 0).1.off)
    rw [← size_set5 W5 (w.heap.size + 1) (.slice p.A p.n p.c) (.slice none 0 0) (.int .i64 (X.s.asked X.long 0).1.fuse) (.int .i64 (X.s.asked X.long 0).1.fault) (.bool (X.s.asked X.long 0).1.off)] at hpo2
    have HLe := Lib.hid (lie_syn (b := (X.s.asked X.long 0).1.off) hpo2 q2 q3)
    have HAw := Lib.hid (show ∀ g, g < w.heap.size → AwayF X g → True → AwayF ⟨p, none, 0, 0, [], (X.s.asked X.long 0).1.fuse, (X.s.asked X.long 0).1.fault, (X.s.asked X.long 0).1.off⟩ g from fun g hg h1 _ => ⟨hpa g (by omega) h1, fun _ _ h => (by cases h), fun q hq => (List.not_mem_nil hq).elim⟩)
    have HSe := Lib.hid (show (⟨p.l, [], (X.s.asked X.long 0).1.fuse, (X.s.asked X.long 0).1.fault, (X.s.asked X.long 0).1.off⟩ : FileS) = { (X.s.asked X.long 0).1 with firm := X.all, loose := [] } by
      rw [hpl])
    generalize X.s.asked X.long 0 = q at *
    clear HL HN hV4 h54 hq4 hr4 hs4 hs3 hww hcf hmf hg4 hL4 hb5 hb6 hb4 hb3 h0 f0' f1' f2' f3' f4' hs2 HS HV2 HO2 hl hln q2 q3 hpl hpo hpa hpo2
    go_wp2
    refine bodyPost_ret (v := .tuple #[.agg #[.slice p.A p.n p.c, .slice none 0 0, .int .i64 q.1.fuse, .int .i64 q.1.fault, .bool q.1.off], .int .i64 0]) ?_ rfl ⟨_, by rw [HO3.out]; rfl, by rw [HO3.out]; exact HSe.out, HLe.out, hbe, HAw.out⟩
    simp [results, Tryd.results44, go_sem, *]
end Go.Proofs.YtlknmpnjhbdlhaaDoor
/-
  Layer 10: Read.
-/
namespace Go.Proofs.YtlknmpnjhbdlhaaDoor
open Go.RowKit
set_option linter.unusedVariables false

/-- What Read gives of a right file. -/
def ReadP (X : FileT) (a n : Nat) (w : World) (e : Ending) (w' : World) : Prop :=
  ∃ p : PcT, e = .returned (.tuple #[.slice p.A p.n p.c, .int .i64 0]) ∧ p.l = between X.all a (a + n) ∧ p.Ok w' w'.heap.size ∧ Below w.heap.size w w' ∧ ∀ g, g < w.heap.size → AwayF X g → AwayP p g
set_option maxRecDepth 20000 in
set_option maxHeartbeats 2000000 in
theorem readF_bad (X : FileT) (a n : Int) (B : Nat) (w : World) (hL : LieF w B X) (hB : B ≤ w.heap.size) (hN : ∀ p ∈ X.Q, p.n ≤ 1048576) (hr : X.right = false) :
    Calls Tryd.prog 59 #[X.agg, .int .i64 a, .int .i64 n] w fun e w' => e = .returned (.tuple #[.slice none 0 0, .int .i64 200]) ∧ Below w.heap.size w w' := by
  have hb1 := bel_alloc (Below.refl w.heap.size w) (.cells #[.slice X.F.A X.F.n X.F.c, .slice X.lA X.ln X.lc, .int .i64 X.fuse, .int .i64 X.fault, .bool X.off] 37)
  have HX := Lib.hid (FBox.new w X 37)
  have hch := checkF_any X B _ (hL.later (hb1.mono hB)) (Nat.le_trans hB hb1.size) hN
  rw [hr] at hch
  have Hr := Lib.hid hr
  simp only [FileT.agg, PcT.val] at *
  clear hL hN hr
  go_enter Tryd.func59, Tryd.ntmps59
  go_wp2_with fail
  generalize w.alloc (.cells #[.slice X.F.A X.F.n X.F.c, .slice X.lA X.ln X.lc, .int .i64 X.fuse, .int .i64 X.fault, .bool X.off] 37) = W1 at *
  refine hch.mono ?_
  rintro e W2 ⟨rfl, hb2⟩
  have hb3 := bel_next hb1 hb2
  obtain ⟨f0, f1, f2, f3, f4⟩ := HX.out.later hb2
  clear hch hb1 hb2 HX
  go_wp2
  all_goals
    (try rw [Exit.noGoto_ret])
    go_ret2
    exact ⟨rfl, hb3⟩
set_option maxRecDepth 20000 in
set_option maxHeartbeats 2000000 in
theorem readF_arg (X : FileT) (a n : Int) (B : Nat) (w : World) (hL : LieF w B X) (hB : B ≤ w.heap.size) (hN : ∀ p ∈ X.Q, p.n ≤ 1048576) (hr : X.right = true) (h : a < 0 ∨ n < 0) :
    Calls Tryd.prog 59 #[X.agg, .int .i64 a, .int .i64 n] w fun e w' => e = .returned (.tuple #[.slice none 0 0, .int .i64 2]) ∧ Below w.heap.size w w' := by
  have hb1 := bel_alloc (Below.refl w.heap.size w) (.cells #[.slice X.F.A X.F.n X.F.c, .slice X.lA X.ln X.lc, .int .i64 X.fuse, .int .i64 X.fault, .bool X.off] 37)
  have HX := Lib.hid (FBox.new w X 37)
  have hch := checkF_any X B _ (hL.later (hb1.mono hB)) (Nat.le_trans hB hb1.size) hN
  rw [hr] at hch
  have Hr := Lib.hid hr
  simp only [FileT.agg, PcT.val] at *
  clear hL hN hr
  go_enter Tryd.func59, Tryd.ntmps59
  go_wp2_with fail
  generalize w.alloc (.cells #[.slice X.F.A X.F.n X.F.c, .slice X.lA X.ln X.lc, .int .i64 X.fuse, .int .i64 X.fault, .bool X.off] 37) = W1 at *
  refine hch.mono ?_
  rintro e W2 ⟨rfl, hb2⟩
  have hb3 := bel_next hb1 hb2
  obtain ⟨f0, f1, f2, f3, f4⟩ := HX.out.later hb2
  clear hch hb1 hb2 HX
  by_cases h1 : a < 0
  · clear h
    go_wp2
    all_goals
      (try rw [Exit.noGoto_ret])
      go_ret2
      exact ⟨rfl, hb3⟩
  · have h2 : n < 0 := by omega
    clear h
    go_wp2
    all_goals
      (try rw [Exit.noGoto_ret])
      go_ret2
      exact ⟨rfl, hb3⟩
set_option maxRecDepth 20000 in
set_option maxHeartbeats 2000000 in
theorem readF_short (X : FileT) (a n : Nat) (B : Nat) (w : World) (hL : LieF w B X) (hB : B ≤ w.heap.size) (hN : ∀ p ∈ X.Q, p.n ≤ 1048576) (hr : X.right = true) (ha : (Lit.int .i64 (a : Int)).wf = true) (hn : (Lit.int .i64 (n : Int)).wf = true) (h : X.long < a + n) :
    Calls Tryd.prog 59 #[X.agg, .int .i64 a, .int .i64 n] w fun e w' => e = .returned (.tuple #[.slice none 0 0, .int .i64 6]) ∧ Below w.heap.size w w' := by
  have hb1 := bel_alloc (Below.refl w.heap.size w) (.cells #[.slice X.F.A X.F.n X.F.c, .slice X.lA X.ln X.lc, .int .i64 X.fuse, .int .i64 X.fault, .bool X.off] 37)
  have HX := Lib.hid (FBox.new w X 37)
  have hch := checkF_any X B _ (hL.later (hb1.mono hB)) (Nat.le_trans hB hb1.size) hN
  rw [hr] at hch
  have Hr := Lib.hid hr
  have Hle := Lib.hid (fun W (h : Below w.heap.size w W) => length_any X B W (hL.later (h.mono hB)) (Nat.le_trans hB h.size) hN)
  have hl := (right_rows hL hr).2.1
  have hwa := wf_i64 ha
  have hwn := wf_i64 hn
  clear ha hn
  have h1 : ¬ (a : Int) < 0 := by omega
  have h2 : ¬ (n : Int) < 0 := by omega
  simp only [FileT.agg, PcT.val] at *
  clear hL hN hr
  go_enter Tryd.func59, Tryd.ntmps59
  go_wp2_with fail
  generalize w.alloc (.cells #[.slice X.F.A X.F.n X.F.c, .slice X.lA X.ln X.lc, .int .i64 X.fuse, .int .i64 X.fault, .bool X.off] 37) = W1 at *
  refine hch.mono ?_
  rintro e W2 ⟨rfl, hb2⟩
  have hb3 := bel_next hb1 hb2
  obtain ⟨f0, f1, f2, f3, f4⟩ := HX.out.later hb2
  clear hch hb1 hb2 HX
  generalize X.long = lo at *
  have e1 : IntKind.i64.wrap ((lo : Int) - (n : Int)) = (lo : Int) - (n : Int) := by rw [IntKind.wrap_i64]; omega
  have e2 : wrap64 ((lo : Int) - (n : Int)) = (lo : Int) - (n : Int) := by unfold wrap64; omega
  have h3 : ((lo : Int) - (n : Int) < (a : Int)) = True := by simp; omega
  clear h hl hwa hwn
  go_wp2_with fail
  refine (Hle.out _ hb3).mono ?_
  rintro e W3 ⟨rfl, hb4⟩
  have hb3 := bel_next hb3 hb4
  clear Hle hb4 f0 f1 f2 f3 f4
  go_wp2
  all_goals
    (try rw [Exit.noGoto_ret])
    go_ret2
    exact ⟨rfl, hb3⟩
set_option maxRecDepth 20000 in
set_option maxHeartbeats 2000000 in
theorem readF_ok (X : FileT) (a n : Nat) (B : Nat) (w : World) (hL : LieF w B X) (hB : B ≤ w.heap.size) (hN : ∀ p ∈ X.Q, p.n ≤ 1048576) (hr : X.right = true) (h : a + n ≤ X.long) :
    Calls Tryd.prog 59 #[X.agg, .int .i64 a, .int .i64 n] w (ReadP X a n w) := by
  have hb1 := bel_alloc (Below.refl w.heap.size w) (.cells #[.slice X.F.A X.F.n X.F.c, .slice X.lA X.ln X.lc, .int .i64 X.fuse, .int .i64 X.fault, .bool X.off] 37)
  have HX := Lib.hid (FBox.new w X 37)
  have hch := checkF_any X B _ (hL.later (hb1.mono hB)) (Nat.le_trans hB hb1.size) hN
  rw [hr] at hch
  have Hr := Lib.hid hr
  have Hle := Lib.hid (fun W (h : Below w.heap.size w W) => length_any X B W (hL.later (h.mono hB)) (Nat.le_trans hB h.size) hN)
  have hl := (right_rows hL hr).2.1
  obtain ⟨hlong, hmax⟩ := right_all hL hr
  have Hsp := Lib.hid (fun W (h2 : Below w.heap.size w W) => span_any X a n B W (hL.later (h2.mono hB)) (Nat.le_trans hB h2.size) hN hl (by omega) hmax)
  have h1 : ¬ (a : Int) < 0 := by omega
  have h2 : ¬ (n : Int) < 0 := by omega
  simp only [FileT.agg, PcT.val] at *
  clear hL hN hr
  go_enter Tryd.func59, Tryd.ntmps59
  go_wp2_with fail
  generalize w.alloc (.cells #[.slice X.F.A X.F.n X.F.c, .slice X.lA X.ln X.lc, .int .i64 X.fuse, .int .i64 X.fault, .bool X.off] 37) = W1 at *
  refine hch.mono ?_
  rintro e W2 ⟨rfl, hb2⟩
  have hb3 := bel_next hb1 hb2
  obtain ⟨f0, f1, f2, f3, f4⟩ := HX.out.later hb2
  clear hch hb1 hb2 HX
  generalize X.long = lo at *
  have e1 : IntKind.i64.wrap ((lo : Int) - (n : Int)) = (lo : Int) - (n : Int) := by rw [IntKind.wrap_i64]; omega
  have e2 : wrap64 ((lo : Int) - (n : Int)) = (lo : Int) - (n : Int) := by unfold wrap64; omega
  have h3 : ((lo : Int) - (n : Int) < (a : Int)) = False := by simp; omega
  clear h hl hlong hmax
  have HX2 := Lib.hid (show FBox W2 w.heap.size X from ⟨f0, f1, f2, f3, f4⟩)
  go_wp2_with fail
  refine (Hle.out _ hb3).mono ?_
  rintro e W3 ⟨rfl, hb4⟩
  clear f0 f1 f2 f3 f4
  obtain ⟨f0, f1, f2, f3, f4⟩ := HX2.out.later hb4
  have hb5 := bel_next hb3 hb4
  clear Hle HX2 hb4
  go_wp2_with fail
  refine (Hsp.out _ hb5).mono ?_
  rintro e W4 ⟨p, rfl, hpl, hpo, hb6, hpa⟩
  have hs5 := hb5.size
  have HP := Lib.hid (And.intro hpl hpo)
  have HA := Lib.hid (show ∀ g, g < w.heap.size → AwayF X g → AwayP p g from fun g hg ha => hpa g (by omega) ha)
  have hb7 := bel_next hb5 hb6
  clear Hsp hpl hpo hpa hb6 hb5 hb3 f0 f1 f2 f3 f4
  go_wp2
  all_goals
    (try rw [Exit.noGoto_ret])
    go_ret2
    exact ⟨p, rfl, HP.out.1, HP.out.2, hb7, HA.out⟩
end Go.Proofs.YtlknmpnjhbdlhaaDoor
/-
  Layer 11: the marker of a block; a writer at a file's end.
-/
namespace Go.Proofs.YtlknmpnjhbdlhaaDoor
open Go.RowKit
set_option linter.unusedVariables false

set_option maxRecDepth 20000 in
set_option maxHeartbeats 1000000 in
theorem marker_any (X : FileT) (a m : Nat) (B : Nat) (w : World) (hL : LieF w B X) (hB : B ≤ w.heap.size) (hr : X.right = true) (hm : m = a - a % 64) (ha : m < X.all.length) (ha2 : a ≤ 524288) :
    Calls Tryd.prog 63 #[X.agg, .int .i64 (a : Int)] w fun e w' => e = .returned (.int .u8 (at8 X.all m)) ∧ Below w.heap.size w w' := by
  have hb1 := bel_alloc (Below.refl w.heap.size w) (.cells #[.slice X.F.A X.F.n X.F.c, .slice X.lA X.ln X.lc, .int .i64 X.fuse, .int .i64 X.fault, .bool X.off] 37)
  obtain ⟨f0, f1, f2, f3, f4⟩ := FBox.new w X 37
  have hmi : (a : Int) - (a : Int) % 64 = (m : Int) := by omega
  have hrd := readF_ok X m 1 B (w.alloc (.cells #[.slice X.F.A X.F.n X.F.c, .slice X.lA X.ln X.lc, .int .i64 X.fuse, .int .i64 X.fault, .bool X.off] 37)) (hL.later (hb1.mono hB)) (Nat.le_trans hB hb1.size) (right_rows hL hr).1 hr (by rw [(right_all hL hr).1]; omega)
  have hall := (right_all hL hr).2
  have HB := Lib.hid (show between X.all m (m + 1) = [X.all.getD m 0] by
    unfold between
    rw [take_snoc _ _ ha, List.drop_append, List.drop_of_length_le (by rw [List.length_take]; omega), List.nil_append, List.length_take, show m - min m X.all.length = 0 by omega]
    rfl)
  clear hL hm ha hr hall
  simp only [FileT.agg, PcT.val] at hrd ⊢
  go_enter Tryd.func63, Tryd.ntmps63
  go_wp2_with fail
  refine hrd.mono ?_
  rintro e w2 ⟨p, rfl, hpl, hpo, hb2, -⟩
  rw [HB.out] at hpl
  have hpn : p.n = 1 := by rw [← hpo.len, hpl]; rfl
  obtain ⟨b, off, hA, hbB, hc⟩ := hpo.here.cell (k := 0) (by omega)
  rw [Nat.add_zero, hpl] at hc
  rw [hA, hpn]
  have hbb := bel_next hb1 hb2
  have he := show at8 [X.all.getD m 0] 0 = at8 X.all m from rfl
  rw [he] at hc
  obtain ⟨v, hv⟩ : ∃ v, at8 X.all m = v := ⟨_, rfl⟩
  rw [hv] at hc
  have Hv := Lib.hid hv
  clear he hb1 hb2 hrd hpo hpl hpn hA f0 f1 f2 f3 f4 hv
  go_wp2
  go_ret
  exact ⟨by rw [Hv.out]; rfl, hbb⟩
end Go.Proofs.YtlknmpnjhbdlhaaDoor
/-
  Layer 11: a writer at a file's end.
-/
namespace Go.Proofs.YtlknmpnjhbdlhaaDoor
open Go.RowKit
set_option linter.unusedVariables false

theorem Wt.new (w : World) (s : Nat) (t : TypeId) : Wt (w.alloc (.cells #[.int .i64 (s : Nat), .slice none 0 0] t)) w.heap.size s [] := by
  refine ⟨none, 0, ?_, ?_, ?_, World.ownsRow_nil _ _ _ _⟩
  · simp [go_sem]
  · simp [go_sem]
  · simp [go_sem]
/-- What a writer's begin gives. -/
def BegP (all : List UInt8) (w : World) (e : Ending) (w' : World) : Prop :=
  ∃ b, e = .returned (.pointer (some ⟨b, 0, none⟩)) ∧ w.heap.size ≤ b ∧ Wt w' b all.length (Fra.aheadL all) ∧ Below w.heap.size w w'
theorem mark_rep (n k : Nat) : markL n (List.replicate k 0) = if (n + k) % 64 = 0 then List.replicate (k + 1) 0 else List.replicate k 0 := by
  unfold markL
  rw [List.length_replicate]
  split
  · rw [List.replicate_succ']
  · rfl
theorem ahead_is (all : List UInt8) : Fra.aheadL all = markL all.length (List.replicate (Fra.padN all) 0) := by
  rw [mark_rep]
  unfold Fra.aheadL Fra.atN Fra.frontN
  by_cases h : (all.length + Fra.padN all) % 64 = 0
  · rw [if_pos h, if_pos h, show all.length + Fra.padN all + 1 - all.length = Fra.padN all + 1 by omega]
  · rw [if_neg h, if_neg h, show all.length + Fra.padN all - all.length = Fra.padN all by omega]
set_option maxRecDepth 100000 in
set_option maxHeartbeats 4000000 in
theorem begin_any (X : FileT) (B : Nat) (w : World) (hL : LieF w B X) (hB : B ≤ w.heap.size) (hr : X.right = true) :
    Calls Tryd.prog 49 #[X.agg] w (BegP X.all w) := by
  have hb1 := bel_alloc (Below.refl w.heap.size w) (.cells #[.slice X.F.A X.F.n X.F.c, .slice X.lA X.ln X.lc, .int .i64 X.fuse, .int .i64 X.fault, .bool X.off] 37)
  have HF := Lib.hid (FBox.new w X 37)
  obtain ⟨hlong, hmax⟩ := right_all hL hr
  have hln := Lib.hid (fun W (h : Below w.heap.size w W) => lenF_any X B W (hL.later (h.mono hB)) (Nat.le_trans hB h.size) (right_rows hL hr).1)
  have HM := Lib.hid (fun W (h : Below w.heap.size w W) (m : Nat) (hm : m = X.all.length - X.all.length % 64) (h64 : X.all.length % 64 ≠ 0) => marker_any X X.all.length m B W (hL.later (h.mono hB)) (Nat.le_trans hB h.size) hr hm (by omega) hmax)
  rw [hr, hlong] at hln
  simp only [if_true] at hln
  have HE := Lib.hid (ahead_is X.all)
  have Hpc := Lib.hid (Fra.pad_case X.all)
  have HP0 := Lib.hid (show X.all.length % 64 ≠ 0 → at8 X.all (X.all.length - X.all.length % 64) ≠ 0 → Fra.padN X.all = 64 - X.all.length % 64 from fun h1 h2 => by
    unfold Fra.padN
    rw [if_pos ⟨h1, fun h => h2 (by unfold at8; rw [h]; rfl)⟩])
  have HP1 := Lib.hid (show (X.all.length % 64 = 0 ∨ at8 X.all (X.all.length - X.all.length % 64) = 0) → Fra.padN X.all = 0 from fun h => by
    unfold Fra.padN
    rw [if_neg]
    rintro ⟨h1, h2⟩
    rcases h with h | h
    · exact h1 h
    · refine h2 (UInt8.toNat_inj.1 ?_)
      unfold at8 at h
      have h : ((X.all.getD (X.all.length - X.all.length % 64) 0).toNat : Int) = 0 := h
      show _ = 0
      omega)
  clear hL hr hlong
  simp only [FileT.agg, PcT.val] at hln HM ⊢
  obtain ⟨n, hn⟩ : ∃ n, X.all.length = n := ⟨_, rfl⟩
  rw [hn] at hmax hln HM HE Hpc HP0 HP1
  generalize X.all = all at *
  have Hn := Lib.hid hn
  clear hn
  go_enter Tryd.func49, Tryd.ntmps49
  obtain ⟨f0, f1, f2, f3, f4⟩ := HF.out
  go_wp2_with fail
  refine (hln.out _ hb1).mono ?_
  rintro e W2 ⟨rfl, hb2⟩
  have hbb := bel_next hb1 hb2
  have HF2 := Lib.hid (HF.out.later hb2)
  have hw2 := hbb.size
  have HW := Wt.new W2 n 96
  have hb3 := bel_alloc hbb (.cells #[.int .i64 (n : Nat), .slice none 0 0] 96)
  have HF3 := Lib.hid (HF2.out.later (bel_alloc (Below.refl _ _) (.cells #[.int .i64 (n : Nat), .slice none 0 0] 96)))
  clear f0 f1 f2 f3 f4 HF HF2 hb1 hb2 hbb hln
  go_upto_region 2 with fail
  generalize W2.alloc (.cells #[.int .i64 (n : Nat), .slice none 0 0] 96) = W3 at *
  generalize W2.heap.size = gw at *
  have HWt := Lib.hid HW
  obtain ⟨A0, c0, q0, q1, q2, q3⟩ := HW
  clear q3
  have x0 : ∀ W, Below W3.heap.size W3 W → W.cell? ⟨gw, 0, none⟩ = some (.int .i64 (n : Nat)) := fun W h => kept_later h q0
  have y0 : ∀ W, Below W3.heap.size W3 W → W.cell? ⟨w.heap.size, 0, none⟩ = some (.slice X.F.A X.F.n X.F.c) := fun W h => (HF3.out.later h).1
  have y1 : ∀ W, Below W3.heap.size W3 W → W.cell? ⟨w.heap.size, 1, none⟩ = some (.slice X.lA X.ln X.lc) := fun W h => (HF3.out.later h).2.1
  have y2 : ∀ W, Below W3.heap.size W3 W → W.cell? ⟨w.heap.size, 2, none⟩ = some (.int .i64 X.fuse) := fun W h => (HF3.out.later h).2.2.1
  have y3 : ∀ W, Below W3.heap.size W3 W → W.cell? ⟨w.heap.size, 3, none⟩ = some (.int .i64 X.fault) := fun W h => (HF3.out.later h).2.2.2.1
  have y4 : ∀ W, Below W3.heap.size W3 W → W.cell? ⟨w.heap.size, 4, none⟩ = some (.bool X.off) := fun W h => (HF3.out.later h).2.2.2.2
  clear q0 q1 q2
  have hn0 : (0 : Int) ≤ (n : Int) := by omega
  by_cases h64 : n % 64 = 0
  · have HP := Lib.hid (HP1.out (.inl h64))
    have ht : ((n : Int).tmod 64 == 0) = true := by rw [beq_iff_eq, Int.tmod_eq_emod_of_nonneg (by omega)]; omega
    have ht2 : ((n : Int).tmod 64 != 0) = false := by rw [bne_eq_false_iff_eq, Int.tmod_eq_emod_of_nonneg (by omega)]; omega
    go_cut [25] (fun s wx => s = .bool false ∧ Below W3.heap.size W3 wx)
    case first =>
      refine wp_region_held_drew (S := fun W => Below W3.heap.size W3 W) (by kernel_rfl) (below_drewN (Below.refl _ _) 1) (fun hHeld => ?_)
      refine rg_in 0 rfl (by kernel_rfl) (by kernel_rfl) (by kernel_rfl) (by rfl) (v := ?_) (fun _ _ _ h => h) hHeld (fun w hSw => ?_) ?_
      rotate_left
      · (try dsimp only at hSw); go_simp <;> (with_reducible rfl)
      (try simp only [Act.put, List.setIfInBounds_toArray, List.set_cons_zero, List.set_cons_succ])
      refine rg_in 1 rfl (by kernel_rfl) (by kernel_rfl) (by kernel_rfl) (by rfl) (v := ?_) (fun _ _ _ h => h) hHeld (fun w hSw => ?_) ?_
      rotate_left
      · (try dsimp only at hSw); go_simp <;> (with_reducible rfl)
      (try simp only [Act.put, List.setIfInBounds_toArray, List.set_cons_zero, List.set_cons_succ])
      refine rg_in 2 rfl (by kernel_rfl) (by kernel_rfl) (by kernel_rfl) (by rfl) (v := ?_) (fun _ _ _ h => h) hHeld (fun w hSw => ?_) ?_
      rotate_left
      · (try dsimp only at hSw); go_simp <;> (with_reducible rfl)
      (try simp only [Act.put, List.setIfInBounds_toArray, List.set_cons_zero, List.set_cons_succ])
      refine rg_in 3 rfl (by kernel_rfl) (by kernel_rfl) (by kernel_rfl) (by rfl) (v := ?_) (fun _ _ _ h => h) hHeld (fun w hSw => ?_) ?_
      rotate_left
      · (try dsimp only at hSw); go_simp <;> (with_reducible rfl)
      (try simp only [Act.put, List.setIfInBounds_toArray, List.set_cons_zero, List.set_cons_succ])
      refine rg_in 4 rfl (by kernel_rfl) (by kernel_rfl) (by kernel_rfl) (by rfl) (v := ?_) (fun _ _ _ h => h) hHeld (fun w hSw => ?_) ?_
      rotate_left
      · (try dsimp only at hSw); go_simp <;> (with_reducible rfl)
      (try simp only [Act.put, List.setIfInBounds_toArray, List.set_cons_zero, List.set_cons_succ])
      refine rg_in 5 rfl (by kernel_rfl) (by kernel_rfl) (by kernel_rfl) (by rfl) (v := ?_) (fun _ _ _ h => h) hHeld (fun w hSw => ?_) ?_
      rotate_left
      · (try dsimp only at hSw); go_simp <;> (with_reducible rfl)
      (try simp only [Act.put, List.setIfInBounds_toArray, List.set_cons_zero, List.set_cons_succ])
      refine rg_in 6 rfl (by kernel_rfl) (by kernel_rfl) (by kernel_rfl) (by rfl) (v := ?_) (fun _ _ _ h => h) hHeld (fun w hSw => ?_) ?_
      rotate_left
      · (try dsimp only at hSw); go_simp <;> (with_reducible rfl)
      (try simp only [Act.put, List.setIfInBounds_toArray, List.set_cons_zero, List.set_cons_succ])
      refine rg_in 7 rfl (by kernel_rfl) (by kernel_rfl) (by kernel_rfl) (by rfl) (v := ?_) (fun _ _ _ h => h) hHeld (fun w hSw => ?_) ?_
      rotate_left
      · (try dsimp only at hSw); go_simp <;> (with_reducible rfl)
      (try simp only [Act.put, List.setIfInBounds_toArray, List.set_cons_zero, List.set_cons_succ])
      refine rg_off 8 rfl (by kernel_rfl) (by kernel_rfl) (by kernel_rfl) (by rfl) (fun _ _ _ h => h) hHeld ?_
      (try simp only [Act.put, List.setIfInBounds_toArray, List.set_cons_zero, List.set_cons_succ])
      refine rg_off 9 rfl (by kernel_rfl) (by kernel_rfl) (by kernel_rfl) (by rfl) (fun _ _ _ h => h) hHeld ?_
      (try simp only [Act.put, List.setIfInBounds_toArray, List.set_cons_zero, List.set_cons_succ])
      refine rg_off 10 rfl (by kernel_rfl) (by kernel_rfl) (by kernel_rfl) (by rfl) (fun _ _ _ h => h) hHeld ?_
      (try simp only [Act.put, List.setIfInBounds_toArray, List.set_cons_zero, List.set_cons_succ])
      refine rg_off 11 rfl (by kernel_rfl) (by kernel_rfl) (by kernel_rfl) (by rfl) (fun _ _ _ h => h) hHeld ?_
      (try simp only [Act.put, List.setIfInBounds_toArray, List.set_cons_zero, List.set_cons_succ])
      refine rg_off 12 rfl (by kernel_rfl) (by kernel_rfl) (by kernel_rfl) (by rfl) (fun _ _ _ h => h) hHeld ?_
      (try simp only [Act.put, List.setIfInBounds_toArray, List.set_cons_zero, List.set_cons_succ])
      refine rg_off 13 rfl (by kernel_rfl) (by kernel_rfl) (by kernel_rfl) (by rfl) (fun _ _ _ h => h) hHeld ?_
      (try simp only [Act.put, List.setIfInBounds_toArray, List.set_cons_zero, List.set_cons_succ])
      refine rg_off 14 rfl (by kernel_rfl) (by kernel_rfl) (by kernel_rfl) (by rfl) (fun _ _ _ h => h) hHeld ?_
      (try simp only [Act.put, List.setIfInBounds_toArray, List.set_cons_zero, List.set_cons_succ])
      refine rg_off 15 rfl (by kernel_rfl) (by kernel_rfl) (by kernel_rfl) (by rfl) (fun _ _ _ h => h) hHeld ?_
      (try simp only [Act.put, List.setIfInBounds_toArray, List.set_cons_zero, List.set_cons_succ])
      refine rg_in 16 rfl (by kernel_rfl) (by kernel_rfl) (by kernel_rfl) (by rfl) (v := ?_) (fun _ _ _ h => h) hHeld (fun w hSw => ?_) ?_
      rotate_left
      · (try dsimp only at hSw); go_simp <;> (with_reducible rfl)
      (try simp only [Act.put, List.setIfInBounds_toArray, List.set_cons_zero, List.set_cons_succ])
      refine wpAnyH_done (by kernel_rfl) ?_ _
      go_wp2
      go_meet
      case rel => exact ⟨by first | rfl | simp, hHeld⟩
    case rest =>
      obtain ⟨rfl, hb4⟩ := hcut
      have HW4 := HWt.out.later hb4
      have hm := mark_any gw n [] wc HW4 (by simp; omega) (by simp)
      have hb5 := hb3.trans (hb4.mono hb3.size)
      rw [show markL n [] = Fra.aheadL all by rw [HE.out, HP.out]; rfl] at hm
      clear x0 y0 y1 y2 y3 y4 ht ht2 HP HM HF3
      go_wp2_with fail
      refine hm.mono ?_
      rintro e W5 ⟨rfl, hw5, hb6⟩
      clear hm
      go_wp2
      go_ret
      refine ⟨gw, by simp, hw2, by rw [Hn.out]; exact hw5, hb5.trans (hb6.mono hw2)⟩
  · have ht : ((n : Int).tmod 64 == 0) = false := by rw [beq_eq_false_iff_ne, Ne, Int.tmod_eq_emod_of_nonneg (by omega)]; omega
    have ht2 : ((n : Int).tmod 64 != 0) = true := by rw [bne_iff_ne, Ne, Int.tmod_eq_emod_of_nonneg (by omega)]; omega
    obtain ⟨m, hm⟩ : ∃ m, m = n - n % 64 := ⟨_, rfl⟩
    have HcM := Lib.hid (fun W (h : Below W3.heap.size W3 W) => HM.out W (hb3.trans (h.mono hb3.size)) m hm h64)
    obtain ⟨v, hv⟩ : ∃ v, at8 all m = v := ⟨_, rfl⟩
    have hp0 : v ≠ 0 → Fra.padN all = 64 - n % 64 := fun h => HP0.out h64 (by rw [← hm, hv]; exact h)
    have hp1 : v = 0 → Fra.padN all = 0 := fun h => HP1.out (.inr (by rw [← hm, hv]; exact h))
    rw [hv] at HcM
    have HPP := Lib.hid (And.intro hp0 hp1)
    have H64 := Lib.hid h64
    clear hv hm HM HP0 HP1 Hpc hp0 hp1 h64
    obtain ⟨vb, hvb⟩ : ∃ vb, (v != 0) = vb := ⟨_, rfl⟩
    go_cut [25] (fun s wx => s = .bool vb ∧ Below W3.heap.size W3 wx)
    case first =>
      refine wp_region_held_drew (S := fun W => Below W3.heap.size W3 W) (by kernel_rfl) (below_drewN (Below.refl _ _) 1) (fun hHeld => ?_)
      refine rg_in 0 rfl (by kernel_rfl) (by kernel_rfl) (by kernel_rfl) (by rfl) (v := ?_) (fun _ _ _ h => h) hHeld (fun w hSw => ?_) ?_
      rotate_left
      · (try dsimp only at hSw); go_simp <;> (with_reducible rfl)
      (try simp only [Act.put, List.setIfInBounds_toArray, List.set_cons_zero, List.set_cons_succ])
      refine rg_in 1 rfl (by kernel_rfl) (by kernel_rfl) (by kernel_rfl) (by rfl) (v := ?_) (fun _ _ _ h => h) hHeld (fun w hSw => ?_) ?_
      rotate_left
      · (try dsimp only at hSw); go_simp <;> (with_reducible rfl)
      (try simp only [Act.put, List.setIfInBounds_toArray, List.set_cons_zero, List.set_cons_succ])
      refine rg_in 2 rfl (by kernel_rfl) (by kernel_rfl) (by kernel_rfl) (by rfl) (v := ?_) (fun _ _ _ h => h) hHeld (fun w hSw => ?_) ?_
      rotate_left
      · (try dsimp only at hSw); go_simp <;> (with_reducible rfl)
      (try simp only [Act.put, List.setIfInBounds_toArray, List.set_cons_zero, List.set_cons_succ])
      refine rg_in 3 rfl (by kernel_rfl) (by kernel_rfl) (by kernel_rfl) (by rfl) (v := ?_) (fun _ _ _ h => h) hHeld (fun w hSw => ?_) ?_
      rotate_left
      · (try dsimp only at hSw); go_simp <;> (with_reducible rfl)
      (try simp only [Act.put, List.setIfInBounds_toArray, List.set_cons_zero, List.set_cons_succ])
      refine rg_in 4 rfl (by kernel_rfl) (by kernel_rfl) (by kernel_rfl) (by rfl) (v := ?_) (fun _ _ _ h => h) hHeld (fun w hSw => ?_) ?_
      rotate_left
      · (try dsimp only at hSw); go_simp <;> (with_reducible rfl)
      (try simp only [Act.put, List.setIfInBounds_toArray, List.set_cons_zero, List.set_cons_succ])
      refine rg_in 5 rfl (by kernel_rfl) (by kernel_rfl) (by kernel_rfl) (by rfl) (v := ?_) (fun _ _ _ h => h) hHeld (fun w hSw => ?_) ?_
      rotate_left
      · (try dsimp only at hSw); go_simp <;> (with_reducible rfl)
      (try simp only [Act.put, List.setIfInBounds_toArray, List.set_cons_zero, List.set_cons_succ])
      refine rg_in 6 rfl (by kernel_rfl) (by kernel_rfl) (by kernel_rfl) (by rfl) (v := ?_) (fun _ _ _ h => h) hHeld (fun w hSw => ?_) ?_
      rotate_left
      · (try dsimp only at hSw); go_simp <;> (with_reducible rfl)
      (try simp only [Act.put, List.setIfInBounds_toArray, List.set_cons_zero, List.set_cons_succ])
      refine rg_in 7 rfl (by kernel_rfl) (by kernel_rfl) (by kernel_rfl) (by rfl) (v := ?_) (fun _ _ _ h => h) hHeld (fun w hSw => ?_) ?_
      rotate_left
      · (try dsimp only at hSw); go_simp <;> (with_reducible rfl)
      (try simp only [Act.put, List.setIfInBounds_toArray, List.set_cons_zero, List.set_cons_succ])
      refine rg_in 8 rfl (by kernel_rfl) (by kernel_rfl) (by kernel_rfl) (by rfl) (v := ?_) (fun _ _ _ h => h) hHeld (fun w hSw => ?_) ?_
      rotate_left
      · (try dsimp only at hSw); go_simp <;> (with_reducible rfl)
      (try simp only [Act.put, List.setIfInBounds_toArray, List.set_cons_zero, List.set_cons_succ])
      refine rg_in 9 rfl (by kernel_rfl) (by kernel_rfl) (by kernel_rfl) (by rfl) (v := ?_) (fun _ _ _ h => h) hHeld (fun w hSw => ?_) ?_
      rotate_left
      · (try dsimp only at hSw); go_simp <;> (with_reducible rfl)
      (try simp only [Act.put, List.setIfInBounds_toArray, List.set_cons_zero, List.set_cons_succ])
      refine rg_in 10 rfl (by kernel_rfl) (by kernel_rfl) (by kernel_rfl) (by rfl) (v := ?_) (fun _ _ _ h => h) hHeld (fun w hSw => ?_) ?_
      rotate_left
      · (try dsimp only at hSw); go_simp <;> (with_reducible rfl)
      (try simp only [Act.put, List.setIfInBounds_toArray, List.set_cons_zero, List.set_cons_succ])
      refine rg_in 11 rfl (by kernel_rfl) (by kernel_rfl) (by kernel_rfl) (by rfl) (v := ?_) (fun _ _ _ h => h) hHeld (fun w hSw => ?_) ?_
      rotate_left
      · (try dsimp only at hSw); go_simp <;> (with_reducible rfl)
      (try simp only [Act.put, List.setIfInBounds_toArray, List.set_cons_zero, List.set_cons_succ])
      refine rg_in 12 rfl (by kernel_rfl) (by kernel_rfl) (by kernel_rfl) (by rfl) (v := ?_) (fun _ _ _ h => h) hHeld (fun w hSw => ?_) ?_
      rotate_left
      · (try dsimp only at hSw); go_simp <;> (with_reducible rfl)
      (try simp only [Act.put, List.setIfInBounds_toArray, List.set_cons_zero, List.set_cons_succ])
      refine rg_in 13 rfl (by kernel_rfl) (by kernel_rfl) (by kernel_rfl) (by rfl) (v := ?_) (fun _ _ _ h => h) hHeld (fun w hSw => ?_) ?_
      rotate_left
      · (try dsimp only at hSw); go_simp <;> (with_reducible rfl)
      (try simp only [Act.put, List.setIfInBounds_toArray, List.set_cons_zero, List.set_cons_succ])
      refine rg_do 14 rfl (by kernel_rfl) (by rfl) (fun K hK => ?_)
      go_simp
      (go_at_call 63; (with_reducible refine (HcM.out _ hHeld).mono ?_); (rintro e w114 ⟨rfl, hb14⟩))
      refine hK.out _ _ (S_call hb14 hHeld rfl) (fun hHeld => ?_)
      clear hK K
      (try simp only [Act.put, List.setIfInBounds_toArray, List.set_cons_zero, List.set_cons_succ])
      refine rg_in 15 rfl (by kernel_rfl) (by kernel_rfl) (by kernel_rfl) (by rfl) (v := ?_) (fun _ _ _ h => h) hHeld (fun w hSw => ?_) ?_
      rotate_left
      · (try dsimp only at hSw); go_simp <;> (with_reducible rfl)
      (try simp only [Act.put, List.setIfInBounds_toArray, List.set_cons_zero, List.set_cons_succ])
      refine rg_in 16 rfl (by kernel_rfl) (by kernel_rfl) (by kernel_rfl) (by rfl) (v := ?_) (fun _ _ _ h => h) hHeld (fun w hSw => ?_) ?_
      rotate_left
      · (try dsimp only at hSw); go_simp <;> (with_reducible rfl)
      (try simp only [Act.put, List.setIfInBounds_toArray, List.set_cons_zero, List.set_cons_succ])
      refine wpAnyH_done (by kernel_rfl) ?_ _
      go_wp2
      go_meet
      case rel => exact ⟨by first | rfl | simp [hvb], hHeld⟩
    case rest =>
      obtain ⟨rfl, hb4⟩ := hcut
      have HW4 := Lib.hid (HWt.out.later hb4)
      have hb5 := hb3.trans (hb4.mono hb3.size)
      have Hvb := Lib.hid hvb
      clear x0 y0 y1 y2 y3 y4 ht ht2 HF3 HcM hvb HWt hb4 hb3
      cases vb
      · have HP := Lib.hid (HPP.out.2 (by have := Hvb.out; simpa using this))
        have hm := mark_any gw n [] wc HW4.out (by simp; omega) (by simp)
        rw [show markL n [] = Fra.aheadL all by rw [HE.out, HP.out]; rfl] at hm
        go_wp2_with fail
        refine hm.mono ?_
        rintro e W5 ⟨rfl, hw5, hb6⟩
        clear hm
        go_wp2
        go_ret
        refine ⟨gw, by simp, hw2, by rw [Hn.out]; exact hw5, hb5.trans (hb6.mono hw2)⟩
      · have HP := Lib.hid (HPP.out.1 (by have := Hvb.out; simpa using this))
        obtain ⟨d, hd⟩ : ∃ d, d = 64 - n % 64 := ⟨_, rfl⟩
        have hd0 : 0 < d ∧ d ≤ 64 ∧ (n + d) % 64 = 0 := by omega
        have Hnd := Lib.hid (show ∀ k, k < d → (n + k) % 64 ≠ 0 from fun k hk => by have := H64.out; omega)
        rw [← hd] at HP
        have Hd := Lib.hid hd0
        have hd64 := hd0.2.1
        clear hd hd0 Hvb HPP
        go_wp2_with fail
        go_loopg [29] d (fun k _ wr => ∃ j, j + k = d ∧ Hid (Wt wr gw n (List.replicate j 0)) ∧ Below w.heap.size w wr)
        case atStart => exact ⟨0, by omega, HW4, hb5⟩
        case round =>
          obtain ⟨j, hj, HWr, hbr⟩ := hrel
          have hen := end_any gw n (List.replicate j 0) wr HWr.out (by rw [List.length_replicate]; omega)
          rw [List.length_replicate] at hen
          by_cases hjd : j < d
          · have h1 : (((n + j : Nat) : Int) % 64 != 0) = true := by rw [bne_iff_ne]; have := Hnd.out j hjd; omega
            have hput := fun q => put_any gw n (List.replicate j 0) 0 (wr.drewN q) (HWr.out.drewN q) (by rw [List.length_replicate]; omega)
            rw [← List.replicate_succ'] at hput
            have HWj := Lib.hid hput
            clear hput
            generalize hnj : n + j = nj at *
            have Hnj := Lib.hid hnj
            clear hnj
            go_wp2_with fail
            refine hen.mono ?_
            rintro e W5 ⟨rfl, q, rfl⟩
            go_wp2_with fail
            refine (HWj.out q).mono ?_
            rintro e W6 ⟨rfl, hw6, hb6⟩
            go_wp2
            go_roundg (gk - 1)
            case measure => omega
            case rel => exact ⟨j + 1, by omega, Lib.hid hw6, hbr.trans ((below_undrewN hb6).mono hw2)⟩
          · have hjd' : j = d := by omega
            subst hjd'
            have h1 : (((n + j : Nat) : Int) % 64 != 0) = false := by rw [bne_eq_false_iff_eq]; have := Hd.out; omega
            have hmk := fun q => mark_any gw n (List.replicate j 0) (wr.drewN q) (HWr.out.drewN q) (by rw [List.length_replicate]; omega) (by rw [List.length_replicate]; omega)
            rw [show markL n (List.replicate j 0) = Fra.aheadL all by rw [HE.out, HP.out]] at hmk
            have HWj := Lib.hid hmk
            clear hmk
            generalize hnj : n + j = nj at *
            have Hnj := Lib.hid hnj
            clear hnj
            go_wp2_with fail
            refine hen.mono ?_
            rintro e W5 ⟨rfl, q, rfl⟩
            go_wp2_with fail
            refine (HWj.out q).mono ?_
            rintro e W6 ⟨rfl, hw6, hb6⟩
            go_wp2
            go_ret
            refine ⟨gw, by simp, hw2, by rw [Hn.out]; exact hw6, hbr.trans ((below_undrewN hb6).mono hw2)⟩
end Go.Proofs.YtlknmpnjhbdlhaaDoor
/-
  Layer 11: the writer beside another row of one's own.
-/
namespace Go.Proofs.YtlknmpnjhbdlhaaDoor
open Go.RowKit
set_option linter.unusedVariables false

/-- The writer, with the head of its row. -/
def WtV (w : World) (b s : Nat) (l : List UInt8) (v : Value) : Prop :=
  ∃ A c, v = .slice A l.length c ∧ w.cell? ⟨b, 0, none⟩ = some (.int .i64 (s : Nat)) ∧ w.cell? ⟨b, 1, none⟩ = some (.slice A l.length c) ∧ w.frozen? ⟨b, 1, none⟩ = false ∧ w.ownsRow (b + 1) 5 1 (.slice A l.length c) l.length (l.map bv)
theorem WtV.wt {w : World} {b s : Nat} {l : List UInt8} {v : Value} (h : WtV w b s l v) : Wt w b s l := by
  obtain ⟨A, c, _, h⟩ := h
  exact ⟨A, c, h⟩
theorem Wt.wtv {w : World} {b s : Nat} {l : List UInt8} (h : Wt w b s l) : ∃ v, WtV w b s l v := by
  obtain ⟨A, c, h⟩ := h
  exact ⟨_, A, c, rfl, h⟩
theorem WtV.later {w w' : World} {b s : Nat} {l : List UInt8} {v : Value} (h : WtV w b s l v) (hb : Below w.heap.size w w') : WtV w' b s l v := by
  obtain ⟨A, c, hv, h0, h1, h2, h3⟩ := h
  exact ⟨A, c, hv, kept_later hb h0, kept_later hb h1, froz_later hb h1 h2, own_below h3 hb⟩
theorem WtV.drewN {w : World} {b s : Nat} {l : List UInt8} {v : Value} (h : WtV w b s l v) (k : Nat) : WtV (w.drewN k) b s l v := h
/-- Blocks that are neither the writer's nor its row's stay. -/
structure Spares (b : Nat) (v : Value) (w : World) (v' : Value) (w' : World) : Prop where
  s : w.heap.size ≤ w'.heap.size
  k : ∀ E, E < w.heap.size → E ≠ b → v.ownBlock ≠ some E → w'.heap[E]? = w.heap[E]? ∧ v'.ownBlock ≠ some E
theorem Spares.refl (b : Nat) (v : Value) (w : World) : Spares b v w v w := ⟨Nat.le_refl _, fun _ _ _ h => ⟨rfl, h⟩⟩
theorem Spares.trans {b : Nat} {v v' v'' : Value} {w w' w'' : World} (h : Spares b v w v' w') (h' : Spares b v' w' v'' w'') : Spares b v w v'' w'' :=
  ⟨Nat.le_trans h.s h'.s, fun E h1 h2 h3 => by
    obtain ⟨a1, a2⟩ := h.k E h1 h2 h3
    obtain ⟨b1, b2⟩ := h'.k E (Nat.lt_of_lt_of_le h1 h.s) h2 a2
    exact ⟨b1.trans a1, b2⟩⟩
theorem Spares.drewN {b : Nat} {v v' : Value} {w w' : World} (h : Spares b v w v' w') (k : Nat) : Spares b v w v' (w'.drewN k) := ⟨h.s, h.k⟩
theorem Spares.undrewN {b k : Nat} {v v' : Value} {w w' : World} (h : Spares b v (w.drewN k) v' w') : Spares b v w v' w' := ⟨h.s, h.k⟩
theorem spare_done {w w2 : World} {b n : Nat} {o : Obj} {v v' u : Value} (hbs : b < w.heap.size) (hg : (w.alloc o).grownBy w2 v.ownBlock) (hor : v'.ownBlock = v.ownBlock ∨ v'.ownBlock = some (w.alloc o).heap.size) :
    Spares b v w v' (w2.setCell ⟨b, n, none⟩ u) := by
  have hs := hg.size
  rw [World.size_alloc] at hs
  refine ⟨by rw [size_set]; omega, fun E h1 h2 h3 => ⟨?_, ?_⟩⟩
  · refine (Below.heap_setCell w2 _ _ E h2).trans ?_
    exact (hg.block E (by rw [World.size_alloc]; omega) (fun e => h3 e.symm)).trans (Below.heap_alloc w o E h1)
  · rcases hor with h | h
    · rw [h]; exact h3
    · rw [h, World.size_alloc]
      intro e
      injection e with e
      omega
set_option maxRecDepth 20000 in
set_option maxHeartbeats 1000000 in
theorem put_v (b s : Nat) (l : List UInt8) (x : UInt8) (v : Value) (w : World) (hw : WtV w b s l v) (hl : l.length ≤ 100000) :
    Calls Tryd.prog 65 #[.pointer (some ⟨b, 0, none⟩), .int .u8 (x.toNat : Int)] w fun e w' => e = .returned (.tuple #[]) ∧ ∃ v', WtV w' b s (l ++ [x]) v' ∧ Below b w w' ∧ Spares b v w v' w' := by
  have hbs := hw.wt.lt
  obtain ⟨A, c, rfl, h0, hc, hf, hown⟩ := hw
  have H0 := Lib.hid h0
  obtain ⟨i0, hi, hz0, hz1, hz2⟩ := u8_info
  have hbs' : b + 1 ≤ (w.alloc (.cells #[.int .u8 (x.toNat : Int)] 5)).heap.size := by simp; omega
  have hnew := bytes_new w [x] #[.int .u8 (x.toNat : Int)] 5 (0, 0) rfl
  obtain ⟨n, hn⟩ : ∃ n, n = l.length := ⟨_, rfl⟩
  rw [← hn] at hc hown hl
  have Hn := Lib.hid hn
  rw [← hn]
  clear hn h0
  go_enter Tryd.func65, Tryd.ntmps65
  go_wp2_with (first
    | (at_builtin; go_must (refine wpList_appO rfl _ _ _ rfl (b + 1) 5 i0 (.int .u8 0) 1 1 Tryd.underlying34 hi hz0 hz1 hz2 rfl (by decide) _ _ _ rfl (hown.alloc _) (w.heap.size + 1) w.heap.size _ _ ([x].map bv) rfl hnew (bv_one _) ?c3 ?c4 ?c5 ?_)))
  case c3 => unfold maxLen; simp; omega
  case c4 => simp; omega
  case c5 => exact hbs'
  intro A2 c2 w2 hown2 hg2 hb2 hor
  have hc2 : w2.cell? ⟨b, 1, none⟩ = some (.slice A n c) := (hb2.cell (p := ⟨b, 1, none⟩) (by show b < b + 1; omega)).trans (cell_keep hc _)
  have hf2 : w2.frozen? ⟨b, 1, none⟩ = false := (hb2.frozen (p := ⟨b, 1, none⟩) (by show b < b + 1; omega)).trans ((frozen_keep hc _).trans hf)
  have hd := Lib.hid (wt_done Hn.out hbs H0.out hb2 hc2 hf2 hown2)
  have hsp := Lib.hid (spare_done (b := b) (n := 1) (v' := .slice A2 (n + 1) c2) (u := .slice A2 (n + 1) c2) hbs hg2 (hor.imp id (fun h => h.trans (by rw [World.size_alloc]))))
  clear hor hg2
  go_wp2
  go_end0
  obtain ⟨⟨A3, c3, e0, e1, e2, e3⟩, e4⟩ := hd.out
  refine ⟨rfl, .slice A2 (n + 1) c2, ⟨A2, c2, by rw [Hn.out, List.length_append]; rfl, e0, ?_, e2, ?_⟩, e4, hsp.out⟩
  · rw [List.length_append, ← Hn.out]; exact cell_set hc2 _
  · have e5 := e1.symm.trans (cell_set hc2 (.slice A2 (n + 1) c2))
    injection e5 with e5
    injection e5 with e6 e7 e8
    subst e6 e8
    exact e3
set_option maxRecDepth 20000 in
set_option maxHeartbeats 1000000 in
theorem mark_v (b s : Nat) (l : List UInt8) (v : Value) (w : World) (hw : WtV w b s l v) (hl : s + l.length ≤ 2000000) (hl2 : l.length ≤ 100000) :
    Calls Tryd.prog 66 #[.pointer (some ⟨b, 0, none⟩)] w fun e w' => e = .returned (.tuple #[]) ∧ ∃ v', WtV w' b s (markL s l) v' ∧ Below b w w' ∧ Spares b v w v' w' := by
  by_cases h : (s + l.length) % 64 = 0
  · rw [show markL s l = l ++ [0] from if_pos h]
    have hend := end_any b s l w hw.wt hl
    have hput := fun k => put_v b s l 0 v (w.drewN k) (hw.drewN k) hl2
    have h1 : (((s + l.length : Nat) : Int) % 64 == 0) = true := by rw [beq_iff_eq]; omega
    generalize s + l.length = m at *
    go_enter Tryd.func66, Tryd.ntmps66
    go_wp2_with fail
    refine hend.mono ?_
    rintro e w' ⟨rfl, k, rfl⟩
    go_wp2_with fail
    refine (hput k).mono ?_
    rintro e w2 ⟨rfl, v', h2, hb, hs⟩
    go_wp2
    go_end0
    exact ⟨rfl, v', h2, below_undrewN hb, hs.undrewN⟩
  · rw [show markL s l = l from if_neg h]
    have hend := end_any b s l w hw.wt hl
    have hw2 := fun k => hw.drewN k
    have h1 : (((s + l.length : Nat) : Int) % 64 == 0) = false := by rw [beq_eq_false_iff_ne]; omega
    generalize s + l.length = m at *
    go_enter Tryd.func66, Tryd.ntmps66
    go_wp2_with fail
    refine hend.mono ?_
    rintro e w' ⟨rfl, k, rfl⟩
    go_wp2
    go_end0
    exact ⟨rfl, v, hw2 k, below_drewN (Below.refl _ _) k, (Spares.refl b v w).drewN k⟩
set_option maxRecDepth 20000 in
set_option maxHeartbeats 1000000 in
theorem wdata_v (b s : Nat) (l : List UInt8) (x : UInt8) (v : Value) (w : World) (hw : WtV w b s l v) (hl : s + l.length ≤ 2000000) (hl2 : l.length ≤ 90000) :
    Calls Tryd.prog 67 #[.pointer (some ⟨b, 0, none⟩), .int .u8 (x.toNat : Int)] w fun e w' => e = .returned (.tuple #[]) ∧ ∃ v', WtV w' b s (l ++ Fra.layP (s + l.length) [x]) v' ∧ Below b w w' ∧ Spares b v w v' w' := by
  rw [← lay_one]
  have hm := mark_v b s l v w hw hl (by omega)
  have hml := mark_len s l
  have hput := fun w' v' (h : WtV w' b s (markL s l) v') => put_v b s (markL s l) x v' w' h (by omega)
  generalize markL s l = m at *
  have Hput := Lib.hid hput
  clear hput hml hl hl2 hw
  go_enter Tryd.func67, Tryd.ntmps67
  go_wp2_with fail
  refine hm.mono ?_
  rintro e w1 ⟨rfl, v1, h1, hb1, hs1⟩
  go_wp2_with fail
  refine (Hput.out w1 v1 h1).mono ?_
  rintro e w2 ⟨rfl, v2, h2, hb2, hs2⟩
  go_wp2
  go_end0
  exact ⟨rfl, v2, h2, hb1.trans hb2, hs1.trans hs2⟩
end Go.Proofs.YtlknmpnjhbdlhaaDoor
/-
  Layer 11: a record goes out through a writer.
-/
namespace Go.Proofs.YtlknmpnjhbdlhaaDoor
open Go.RowKit
set_option linter.unusedVariables false

/-- A row of one's own stays where its block does. -/
theorem own_block {w w' : World} {D n c E : Nat} {t : TypeId} {off : Nat} {l : List UInt8} (h : w.ownsRow D t 1 (.slice (some ⟨E, off, none⟩) n c) n (l.map bv)) (hE : w'.heap[E]? = w.heap[E]?) (hs : w.heap.size ≤ w'.heap.size) : Bytes w' w'.heap.size (some ⟨E, off, none⟩) n l := by
  obtain ⟨h1, h2⟩ := Bytes.own h
  refine ⟨h1, fun hn => ?_⟩
  obtain ⟨b, o, e, hb, hc⟩ := h2 hn
  injection e with e
  injection e with e1 e2
  subst e1 e2
  exact ⟨E, off, rfl, Nat.lt_of_lt_of_le hb hs, fun j u hj => (World.cell?_of_block hE).trans (hc j u hj)⟩
theorem lay_step (s : Nat) (l e : List UInt8) (k : Nat) (hk : k < e.length) : l ++ Fra.layP (s + l.length) (e.take k) ++ Fra.layP (s + (l ++ Fra.layP (s + l.length) (e.take k)).length) [e.getD k 0] = l ++ Fra.layP (s + l.length) (e.take (k + 1)) := by
  rw [take_snoc _ _ hk, Fra.layP_append, List.append_assoc, List.length_append, Nat.add_assoc]
theorem lay_long (n k : Nat) (e : List UInt8) (he : e.length ≤ 4102) : (Fra.layP n (e.take k)).length ≤ 8204 := by
  have h1 := (Fra.layP_ge (e.take k) n).2
  have h2 : (e.take k).length ≤ e.length := by rw [List.length_take]; omega
  omega
set_option maxRecDepth 20000 in
set_option maxHeartbeats 2000000 in
theorem write_any (b s : Nat) (l : List UInt8) (p : PcT) (B : Nat) (w : World) (htab : Tab w) (hw : Wt w b s l) (hp : p.Ok w B) (hB : B ≤ w.heap.size) (hn : p.n ≤ 4096) (hs : s ≤ 600000) (hl : l.length ≤ 1000) :
    Calls Tryd.prog 50 #[.pointer (some ⟨b, 0, none⟩), .slice p.A p.n p.c] w fun e w' => e = .returned (.int .i64 ((s + l.length : Nat) : Int)) ∧ Wt w' b s (l ++ Fra.layP (s + l.length) (Fra.encL p.l)) ∧ Below b w w' := by
  have hend := end_any b s l w hw (by omega)
  have hblt := hw.lt
  have henc := Lib.hid (fun k => encoding_any p B (w.drewN k) htab (hp.later (below_drewN (Below.refl _ _) k)) hB hn)
  have hmf : ∀ (fn : Fn) (first cap : Array Value) (w : World), (Instr.makeFunc fn first cap).run Tryd.prog w = .ok (.func fn first cap) w := fun _ _ _ _ => rfl
  have hel : (Fra.encL p.l).length ≤ 4102 := by rw [Fra.encL_len, hp.len]; omega
  have hne : 6 ≤ (Fra.encL p.l).length := by rw [Fra.encL_len]; omega
  clear htab hp hn
  generalize Fra.encL p.l = en at *
  obtain ⟨at0, ha⟩ : ∃ a, s + l.length = a := ⟨_, rfl⟩
  rw [ha] at hend
  have Ha := Lib.hid ha
  go_enter Tryd.func50, Tryd.ntmps50
  go_wp2_with fail
  refine hend.mono ?_
  rintro e W1 ⟨rfl, k1, rfl⟩
  go_wp2_with fail
  refine (henc.out k1).mono ?_
  rintro e W2 ⟨A, n, c, rfl, hown, hb2⟩
  have hb3 := below_undrewN hb2
  obtain ⟨v0, hv0⟩ := (hw.later hb3).wtv
  have hnl : n = en.length := by have := hown.1; simpa using this.symm
  obtain ⟨E, hA⟩ : ∃ E, A = some ⟨E, 0, none⟩ := own_some hown (by omega)
  subst hA
  have hElt := hown.lt E (by rfl)
  have hE0 : w.heap.size ≤ E := hElt.1
  have Hown := Lib.hid hown
  have HV := Lib.hid (show ∃ v, WtV W2 b s l v ∧ v.ownBlock ≠ some E from by
    obtain ⟨v, hv⟩ := hw.wtv
    refine ⟨v, hv.later hb3, fun e => ?_⟩
    obtain ⟨A', c', rfl, _, _, _, h4⟩ := hv
    have := (h4.lt E e).2
    omega)
  have hb4 : Below b w W2 := hb3.mono (Nat.le_of_lt hblt)
  have Hmf := Lib.hid hmf
  have hEs := hElt.2
  have hEb : E ≠ b := by omega
  clear henc hb2 hb3 hv0 hend hw hown hElt
  subst hnl
  go_wp2_with fail
  go_loopw [18] (fun iv wr => ∃ (i : Nat) (v : Value), i ≤ en.length ∧ iv = .int .i64 i ∧ Hid (WtV wr b s (l ++ Fra.layP (s + l.length) (en.take i)) v ∧ v.ownBlock ≠ some E) ∧ Hid (wr.heap[E]? = W2.heap[E]?) ∧ Below b w wr ∧ W2.heap.size ≤ wr.heap.size) (fun iv _ => en.length - (intOf iv).toNat)
  case atStart =>
    obtain ⟨v, h1, h2⟩ := HV.out
    exact ⟨0, v, Nat.zero_le _, rfl, Lib.hid ⟨by rw [List.take_zero, Fra.layP_nil, List.append_nil]; exact h1, h2⟩, Lib.hid rfl, hb4, Nat.le_refl _⟩
  case round =>
    clear HV hb4
    obtain ⟨i, v, hi, rfl, HV, HE, hbr, hsr⟩ := hrel
    rename World => wr
    have hbt := own_block Hown.out HE.out hsr
    by_cases hlt : i < en.length
    · obtain ⟨b', off, e', hb', hc⟩ := hbt.cell hlt
      injection e' with e'
      injection e' with e1 e2
      subst e1 e2
      rw [Nat.zero_add] at hc
      have hll := lay_long (s + l.length) i en hel
      have hdt := wdata_v b s (l ++ Fra.layP (s + l.length) (en.take i)) (en.getD i 0) v wr HV.out.1 (by rw [List.length_append]; omega) (by rw [List.length_append]; omega)
      have hst := lay_step s l en i hlt
      have hx : at8 en i = ((en.getD i 0).toNat : Int) := rfl
      rw [hx] at hc
      obtain ⟨x, hxx⟩ : ∃ x, en.getD i 0 = x := ⟨_, rfl⟩
      rw [hxx] at hc hst hdt
      rw [hst] at hdt
      have hdt := Lib.hid hdt
      clear hst hxx
      have hlt' : (i : Int) < (en.length : Int) := by omega
      have hi0 : (0 : Int) ≤ (i : Int) := by omega
      have Hsp := Lib.hid (show ∀ v' w', Spares b v wr v' w' → w'.heap[E]? = wr.heap[E]? ∧ v'.ownBlock ≠ some E from fun v' w' h => h.k E (by omega) hEb HV.out.2)
      clear hx hll hbt
      go_wp2_with fail
      with_reducible refine hdt.out.mono ?_
      rintro e w5 ⟨rfl, v', h5, hb5, hs5⟩
      have hsp := Hsp.out v' w5 hs5
      have HV5 := Lib.hid (And.intro h5 hsp.2)
      have HE5 := Lib.hid (hsp.1.trans HE.out)
      have hb6 := hbr.trans hb5
      have hs6 := Nat.le_trans hsr hs5.s
      clear hdt Hsp h5 hsp HV HE hbr hsr hb5 hs5 hc
      go_wp2
      go_roundw
      case rel => exact ⟨i + 1, v', by omega, by go_num, HV5, HE5, hb6, hs6⟩
      case measure => simp [intOf]; omega
    · have hi' : i = en.length := by omega
      subst hi'
      have HW := Lib.hid HV.out.1.wt
      clear hbt HV HE
      go_wp2
      go_ret
      refine ⟨by rw [Ha.out]; rfl, ?_, hbr⟩
      have := HW.out
      rw [List.take_length] at this
      exact this
end Go.Proofs.YtlknmpnjhbdlhaaDoor
/-
  Layer 10: how much of a piece survives.
-/
namespace Go.Proofs.YtlknmpnjhbdlhaaDoor
open Go.RowKit
set_option linter.unusedVariables false

theorem surv_any (p : PcT) (i B : Nat) (k : BoT) (tear cut : Int) (w : World) (hp : p.l.length = p.n) (hk : k.Ok w B) :
    Calls Tryd.prog 46 #[.slice p.A p.n p.c, .int .i64 i, .slice k.A k.n k.c, .int .i64 tear, .int .i64 cut] w fun e w' => e = .returned (.int .i64 (survN p.l i k.l tear cut : Nat)) ∧ w = w' := by
  by_cases ht : (i : Int) = tear
  · have h1 : ((i : Int) == tear) = true := by rw [beq_iff_eq]; exact ht
    have hs : ((survN p.l i k.l tear cut : Nat) : Int) = min (max cut 0) (p.n : Int) := by
      unfold survN
      rw [if_pos ht, hp]
      omega
    have e1 : (if cut < 0 then 0 else cut) = max cut 0 := by split <;> omega
    have e2 : (if (p.n : Int) < max cut 0 then (p.n : Int) else max cut 0) = min (max cut 0) (p.n : Int) := by split <;> omega
    rw [hs]
    clear hs ht hp hk
    generalize hm : max cut 0 = m at *
    generalize hq : min m (p.n : Int) = q at *
    clear hm hq
    go_enter Tryd.func46, Tryd.ntmps46
    go_wp2
    all_goals
      (try rw [Exit.noGoto_ret])
      go_ret
      exact ⟨rfl, rfl⟩
  · have h1 : ((i : Int) == tear) = false := by rw [beq_eq_false_iff_ne]; exact ht
    by_cases hi : i < k.n
    · obtain ⟨b, off, hA, hb, hc⟩ := hk.here.cell hi
      have h2 : ((i : Int) < (k.n : Int)) = True := by simp; omega
      have h3 : (0 : Int) ≤ (i : Int) := by omega
      have hs : survN p.l i k.l tear cut = if k.l.getD i false = true then p.n else 0 := by
        unfold survN
        rw [if_neg ht, hp]
      rw [hs, hA]
      clear hs ht hp hk hA
      cases hv : k.l.getD i false
      · rw [hv] at hc
        clear hv
        go_enter Tryd.func46, Tryd.ntmps46
        go_wp2
        all_goals
          (try rw [Exit.noGoto_ret])
          go_ret
          exact ⟨rfl, rfl⟩
      · rw [hv] at hc
        clear hv
        go_enter Tryd.func46, Tryd.ntmps46
        go_wp2
        all_goals
          (try rw [Exit.noGoto_ret])
          go_ret
          exact ⟨rfl, rfl⟩
    · have h2 : ((i : Int) < (k.n : Int)) = False := by simp; omega
      have hs : survN p.l i k.l tear cut = 0 := by
        unfold survN
        rw [if_neg ht, List.getD_eq_getElem?_getD, List.getElem?_eq_none (by have := hk.here.1; simp at this; omega)]
        rfl
      rw [hs]
      clear hs ht hp hk
      go_enter Tryd.func46, Tryd.ntmps46
      go_wp2
      all_goals
        (try rw [Exit.noGoto_ret])
        go_ret
        exact ⟨rfl, rfl⟩
end Go.Proofs.YtlknmpnjhbdlhaaDoor
