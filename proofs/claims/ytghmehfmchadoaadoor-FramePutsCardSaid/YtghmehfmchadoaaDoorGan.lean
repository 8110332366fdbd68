import Derived.Test.YtghmehfmchadoaaDoorGal
import Derived.Test.YtghmehfmchadoaaDoorGai
/-
  Layer 11: a file of one's own, not more of it than is of interest.
-/
namespace Go.Proofs.YtghmehfmchadoaaDoor
open Go.RowKit
set_option linter.unusedVariables false

set_option maxRecDepth 20000 in
set_option maxHeartbeats 1000000 in
theorem few_own (p : PcT) (k B : Nat) (w : World) (hp : p.Ok w B) (hB : B ≤ w.heap.size) (hk : k ≤ 100000) :
    Calls Tryd.prog 10 #[.slice p.A p.n p.c, .int .i64 (k : Nat)] w (GivesBytes 5 (p.l.take k) w) := by
  have hc := hp.most
  have hn := hp.fits
  unfold maxLen at hc
  by_cases h4 : p.n ≤ k
  · have hl : p.l.take k = p.l := List.take_of_length_le (by rw [hp.len]; exact h4)
    rw [hl]
    have hcl := Lib.hid (clone_any p.A p.n p.c p.l B w hp.here hp.nil hB (by omega))
    clear hl hp
    have hm : min (p.n : Int) (k : Int) = (p.n : Int) := by omega
    have hm2 : min p.n k = p.n := by omega
    go_enter Tryd.func10, Tryd.ntmps10
    go_wp2_with fail
    refine hcl.out.mono ?_
    rintro e w1 ⟨A2, n2, c2, rfl, hq⟩
    have HQ := Lib.hid hq
    clear hq
    go_wp2
    go_ret
    exact ⟨A2, n2, c2, rfl, HQ.out⟩
  · have hm : min (p.n : Int) (k : Int) = (k : Int) := by omega
    have hm2 : min p.n k = k := by omega
    have hkn : k < p.n := by omega
    have hkn2 : ((p.n : Int) < (k : Int)) = False := by simp; omega
    have hkn3 : ((p.n : Int) ≤ (k : Int)) = False := by simp; omega
    have hcl := Lib.hid (clone_any p.A k p.c (p.l.take k) B w (hp.here.first (k := k) (by omega)) hp.nil hB (by omega))
    have h5 : (k : Int) ≤ (p.c : Int) := by omega
    clear hp h4
    go_enter Tryd.func10, Tryd.ntmps10
    go_wp2_with fail
    refine hcl.out.mono ?_
    rintro e w1 ⟨A2, n2, c2, rfl, hq⟩
    have HQ := Lib.hid hq
    clear hq
    go_wp2
    go_ret
    exact ⟨A2, n2, c2, rfl, HQ.out⟩
/-- What 'some' leaves of a file. -/
def someS (s : FileS) : FileS := ⟨s.firm.take 1000, (s.loose.take 6).map (·.take 300), s.fuse, s.fault, s.off⟩
set_option maxRecDepth 20000 in
set_option maxHeartbeats 4000000 in
theorem some_any (X : FileT) (B : Nat) (w : World) (hL : LieF w B X) (hB : B ≤ w.heap.size) :
    Calls Tryd.prog 9 #[X.agg] w fun e w' => ∃ Y : FileT, e = .returned Y.agg ∧ Y.s = someS X.s ∧ LieF w' w'.heap.size Y ∧ Below w.heap.size w w' ∧ (∀ g, g < w.heap.size → AwayF Y g) ∧ (∀ p ∈ Y.Q, p.n ≤ 1000) ∧ Y.ln ≤ 6 := by
  have hb := bel_alloc (bel_alloc (Below.refl w.heap.size w) (.cells #[.slice X.F.A X.F.n X.F.c, .slice X.lA X.ln X.lc, .int .i64 X.fuse, .int .i64 X.fault, .bool X.off] 25)) (.cells #[.slice none 0 0, .slice none 0 0, .int .i64 0, .int .i64 0, .bool false] 25)
  have HV := Lib.hid ((FVar.new w (.slice X.F.A X.F.n X.F.c) (.slice X.lA X.ln X.lc) (.int .i64 X.fuse) (.int .i64 X.fault) (.bool X.off) 25).lay (.cells #[.slice none 0 0, .slice none 0 0, .int .i64 0, .int .i64 0, .bool false] 25))
  have hR := FVar.new (w.alloc (.cells #[.slice X.F.A X.F.n X.F.c, .slice X.lA X.ln X.lc, .int .i64 X.fuse, .int .i64 X.fault, .bool X.off] 25)) (.slice none 0 0) (.slice none 0 0) (.int .i64 0) (.int .i64 0) (.bool false) 25
  rw [World.size_alloc] at hR
  have HR := Lib.hid hR
  have hn2 : w.heap.size + 2 ≤ ((w.alloc (.cells #[.slice X.F.A X.F.n X.F.c, .slice X.lA X.ln X.lc, .int .i64 X.fuse, .int .i64 X.fault, .bool X.off] 25)).alloc (.cells #[.slice none 0 0, .slice none 0 0, .int .i64 0, .int .i64 0, .bool false] 25)).heap.size := by rw [World.size_alloc, World.size_alloc]; omega
  have HL := Lib.hid (fun W (h : Below w.heap.size w W) => hL.later (h.mono hB))
  have HlL := Lib.hid hL.len
  have Hw := Lib.hid (And.intro hL.fuse hL.fault)
  have HFn := Lib.hid hL.firm.len
  have hcl := fun W (h : Below w.heap.size w W) => few_own X.F 1000 B W (hL.later (h.mono hB)).firm (Nat.le_trans hB h.size) (by omega)
  rw [show ((1000 : Nat) : Int) = 1000 from rfl] at hcl
  have hcl := Lib.hid hcl
  have Htl := Lib.hid (show X.ln ≤ 6 → X.L.take 6 = X.L.take X.ln from fun h => by rw [← hL.len] at h ⊢; rw [List.take_of_length_le h, List.take_of_length_le (Nat.le_refl _)])
  have hfit := hL.fits
  clear hR hL
  simp only [FileT.agg, PcT.val]
  go_enter Tryd.func9, Tryd.ntmps9
  obtain ⟨⟨f0, f1, f2, f3, f4⟩, k0, k1, k2, k3, k4⟩ := HV.out
  obtain ⟨⟨j0, j1, j2, j3, j4⟩, m0, m1, m2, m3, m4⟩ := HR.out
  go_wp2_with fail
  generalize (w.alloc (.cells #[.slice X.F.A X.F.n X.F.c, .slice X.lA X.ln X.lc, .int .i64 X.fuse, .int .i64 X.fault, .bool X.off] 25)).alloc (.cells #[.slice none 0 0, .slice none 0 0, .int .i64 0, .int .i64 0, .bool false] 25) = W1 at *
  refine (hcl.out _ hb).mono ?_
  rintro e W2 ⟨A1, n1, c1, rfl, hO1, hb2⟩
  clear f0 f1 f2 f3 f4 k0 k1 k2 k3 k4 j0 j1 j2 j3 j4 m0 m1 m2 m3 m4
  have hln1 : n1 = min 1000 X.F.l.length := by have := hO1.1; simpa using this.symm
  have hn1 : n1 ≤ 1000 := by omega
  have hs2 := hb2.size
  have hb := bel_next hb hb2
  have HV := Lib.hid (HV.out.later hb2)
  have HR := Lib.hid (HR.out.later hb2)
  obtain ⟨⟨f0, f1, f2, f3, f4⟩, k0, k1, k2, k3, k4⟩ := HV.out
  obtain ⟨⟨j0, j1, j2, j3, j4⟩, m0, m1, m2, m3, m4⟩ := HR.out
  clear hb2 hln1
  have HO1 := Lib.hid (ownsRow_setCell_below hO1 (show (⟨w.heap.size, 0, none⟩ : Addr).block < _ by show w.heap.size < _; omega) (.slice A1 n1 c1))
  clear hO1
  go_upto_region 2 with fail
  clear f0 f1 f2 f3 f4 k0 k1 k2 k3 k4 j0 j1 j2 j3 j4 m0 m1 m2 m3 m4
  have HV := Lib.hid (HV.out.set0 (.slice A1 n1 c1))
  have HR := Lib.hid (HR.out.other (g := w.heap.size) (i := 0) (.slice A1 n1 c1) (show w.heap.size + 1 ≠ w.heap.size by omega))
  have hb := Below.setCell hb (p := ⟨w.heap.size, 0, none⟩) (Nat.le_refl w.heap.size) (.slice A1 n1 c1)
  have hn3 : w.heap.size + 2 ≤ (W2.setCell ⟨w.heap.size, 0, none⟩ (.slice A1 n1 c1)).heap.size := by rw [size_set]; omega
  generalize W2.setCell ⟨w.heap.size, 0, none⟩ (.slice A1 n1 c1) = W3 at *
  have HV := Lib.hid HV.out
  obtain ⟨⟨f0, f1, f2, f3, f4⟩, k0, k1, k2, k3, k4⟩ := HV.out
  obtain ⟨⟨j0, j1, j2, j3, j4⟩, m0, m1, m2, m3, m4⟩ := HR.out
  by_cases h6 : X.ln ≤ 6
  · have hm : min (X.ln : Int) 6 = (X.ln : Int) := by omega
    have hm2 : min X.ln 6 = X.ln := by omega
    have hmc : (X.ln : Int) ≤ (X.lc : Int) := by omega
    have hk1 : ((6 : Int) < (X.ln : Int)) = False := by simp; omega
    have hk2 : ((X.ln : Int) ≤ 6) = True := by simp; omega
    obtain ⟨iP, hiP, hzP, hsP, hbP⟩ := slice_info
    obtain ⟨lA, hlA⟩ : ∃ A, X.lA = A := ⟨_, rfl⟩
    rw [hlA] at f1
    have HlA := Lib.hid hlA
    clear hlA
    go_wp2_with fail
    clear f0 f1 f2 f3 f4 k0 k1 k2 k3 k4 j0 j1 j2 j3 j4 m0 m1 m2 m3 m4
    go_loopw [3, 18] (fun lv iv wr => ∃ (i : Nat) (A : Option Addr) (c : Nat) (L : List PcT), i ≤ X.ln ∧ iv = .int .i64 i ∧ lv = .slice A i c ∧ Hid (wr.ownsRow W3.heap.size 22 1 (.slice A i c) i (L.map PcT.val)) ∧ Hid (OwnR wr W3.heap.size L) ∧ Hid (L.map (·.l) = ((X.L.take i).map (·.l)).map (·.take 300)) ∧ Hid (∀ p ∈ L, p.n ≤ 300) ∧ Below W3.heap.size W3 wr) (fun _ iv _ => X.ln - (intOf iv).toNat)
    case atStart => exact ⟨0, none, 0, [], Nat.zero_le _, rfl, rfl, Lib.hid (World.ownsRow_nil W3 W3.heap.size 22 1), Lib.hid (fun p hp => (List.not_mem_nil hp).elim), Lib.hid rfl, Lib.hid (fun p hp => (List.not_mem_nil hp).elim), Below.refl _ _⟩
    case round =>
      obtain ⟨i, A, c, L, hi, rfl, rfl, HA, HOL, HLL, HLN, hbr⟩ := hrel
      rename World => wr
      have hbw := hb.trans (hbr.mono hb.size)
      have hs3 := hbr.size
      by_cases hlt : i < X.ln
      · obtain ⟨b, off, p, hAp, _, hp, hc⟩ := pc_at (HL.out wr hbw).row (show i < X.ln by omega)
        obtain rfl : lA = some ⟨b, off, none⟩ := HlA.out.symm.trans hAp
        have hpo := (HL.out wr hbw).loose p (List.mem_of_getElem? hp)
        have hcp := few_own p 300 B wr hpo (Nat.le_trans hB hbw.size) (by omega)
        rw [show ((300 : Nat) : Int) = 300 from rfl] at hcp
        have hlt' : (i : Int) < (X.ln : Int) := by omega
        have hi0 : (0 : Int) ≤ (i : Int) := by omega
        have HP2 := Lib.hid (take_map hp)
        clear hpo hAp hp
        go_wp2_with fail
        refine hcp.mono ?_
        rintro e W5 ⟨A5, n5, c5, rfl, hO5, hb5⟩
        have hn5 : n5 ≤ 300 := by have := hO5.1; simp at this; omega
        clear hcp hc
        have hba := bel_alloc hb5 (.cells #[.slice A5 n5 c5] 22)
        have hn6 := own_later HA.out hba
        have HN6 := Lib.hid hn6
        have HOL6 := Lib.hid (OwnR.snoc (p := ⟨A5, n5, c5, p.l.take 300⟩) (HOL.out.later hba) (own_base (own_later hO5 (bel_alloc (Below.refl _ _) (.cells #[.slice A5 n5 c5] 22))) hs3))
        have hs6 := shows_new' W5 #[.slice A5 n5 c5] 22 1 1 rfl
        have hz6 : W3.heap.size ≤ (W5.alloc (.cells #[.slice A5 n5 c5] 22)).heap.size := Nat.le_trans hs3 hba.size
        have h63 : i + 1 ≤ maxLen := by unfold maxLen; omega
        have hbt : (i + 1) * 24 ≤ 140737488355328 := by omega
        have HX6 := Lib.hid (hbr.trans (hba.mono hs3))
        clear hO5 hb5 hba
        go_wp2_with (at_builtin; refine wpList_append_shows _ rfl _ _ 23 rfl W3.heap.size 22 iP (.slice none 0 0) 1 24 Tryd.underlying23 hiP hzP hsP hbP rfl (by decide) _ _ _ rfl hn6 _ _ 1 _ _ rfl hs6 (slice_one _ _ _) h63 hbt hz6 ?_; intro A7 c7 w7 hown7 hgrow7 hb7; have HO7 := Lib.hid hown7; have HOL7 := Lib.hid (OwnR.grown HOL6.out HN6.out hgrow7); clear hown7 hgrow7 hn6 hs6 h63 hbt hz6)
        go_roundw
        case rel => exact ⟨i + 1, A7, c7, L ++ [⟨A5, n5, c5, p.l.take 300⟩], by omega, by go_num, rfl, Lib.hid (by rw [List.map_append]; exact HO7.out), HOL7, Lib.hid (by rw [List.map_append, HLL.out, HP2.out, List.map_append]; rfl), Lib.hid (fun q hq => by
          rcases List.mem_append.1 hq with h | h
          · exact HLN.out q h
          · rw [List.mem_singleton.1 h]; exact hn5), HX6.out.trans hb7⟩
        case measure => simp [intOf]; omega
      · obtain rfl : X.ln = i := by omega
        have HLL2 := Lib.hid (show L.map (·.l) = (X.s.loose.take 6).map (·.take 300) by
          show _ = ((X.L.map (·.l)).take 6).map (·.take 300)
          rw [← List.map_take, Htl.out h6]
          exact HLL.out)
        have HV := Lib.hid (HV.out.later hbr)
        have HR := Lib.hid (HR.out.later hbr)
        have HO1 := Lib.hid (own_later HO1.out hbr)
        clear HLL
        obtain ⟨⟨f0, f1, f2, f3, f4⟩, k0, k1, k2, k3, k4⟩ := HV.out
        obtain ⟨⟨j0, j1, j2, j3, j4⟩, m0, m1, m2, m3, m4⟩ := HR.out
        go_upto_region 9 with fail
        clear f0 f1 f2 f3 f4 k0 k1 k2 k3 k4 j0 j1 j2 j3 j4 m0 m1 m2 m3 m4
        have HV := Lib.hid (HV.out.set1 (.slice A X.ln c))
        have HR := Lib.hid (HR.out.other (g := w.heap.size) (i := 1) (.slice A X.ln c) (show w.heap.size + 1 ≠ w.heap.size by omega))
        have hb := Below.setCell hbw (p := ⟨w.heap.size, 1, none⟩) (Nat.le_refl w.heap.size) (.slice A X.ln c)
        have q1 := own_base (ownsRow_setCell_below HO1.out (show (⟨w.heap.size, 1, none⟩ : Addr).block < _ by show w.heap.size < _; omega) (.slice A X.ln c)) hn2
        have q2 := own_base (ownsRow_setCell_below HA.out (show (⟨w.heap.size, 1, none⟩ : Addr).block < _ by show w.heap.size < _; omega) (.slice A X.ln c)) hn3
        have q3 := (OwnR.setBelow HOL.out (a := ⟨w.heap.size, 1, none⟩) (by show w.heap.size < _; omega) (.slice A X.ln c)).base hn3
        generalize wr.setCell ⟨w.heap.size, 1, none⟩ (.slice A X.ln c) = W8 at *
        obtain ⟨hL8, haw8⟩ := own_lie (p := ⟨A1, n1, c1, X.F.l.take 1000⟩) (of := X.off) q1 q2 q3 Hw.out.1 Hw.out.2
        have hbe := fbelow_set5 (a := .slice A1 n1 c1) (b := .slice A X.ln c) (c := .int .i64 X.fuse) (d := .int .i64 X.fault) (e := .bool X.off) hb (show w.heap.size ≤ w.heap.size + 1 by omega)
        have hLe := Lib.hid (lie_res (a := .slice A1 n1 c1) (b := .slice A X.ln c) (c := .int .i64 X.fuse) (d := .int .i64 X.fault) (e := .bool X.off) hL8 (haw8 (w.heap.size + 1) (by omega)))
        have HAw := Lib.hid (show ∀ g, g < w.heap.size → AwayF ⟨⟨A1, n1, c1, X.F.l.take 1000⟩, A, X.ln, c, L, X.fuse, X.fault, X.off⟩ g from fun g hg => haw8 g (by omega))
        have HS := Lib.hid (show FileT.s ⟨⟨A1, n1, c1, X.F.l.take 1000⟩, A, X.ln, c, L, X.fuse, X.fault, X.off⟩ = someS X.s by
          show FileS.mk (X.F.l.take 1000) (L.map (·.l)) X.fuse X.fault X.off = _
          rw [HLL2.out]
          rfl)
        have HQ := Lib.hid (show ∀ p ∈ FileT.Q ⟨⟨A1, n1, c1, X.F.l.take 1000⟩, A, X.ln, c, L, X.fuse, X.fault, X.off⟩, p.n ≤ 1000 by
          intro p hp
          rcases List.mem_cons.1 hp with h | h
          · rw [h]; exact hn1
          · have := HLN.out p h; omega)
        clear q1 q2 q3 hL8 haw8 hb hbw HA HOL HO1 HLL2 hbr
        obtain ⟨⟨f0, f1, f2, f3, f4⟩, k0, k1, k2, k3, k4⟩ := HV.out
        obtain ⟨⟨j0, j1, j2, j3, j4⟩, m0, m1, m2, m3, m4⟩ := HR.out
        go_wp2
        (try rw [Exit.noGoto_ret])
        refine bodyPost_ret (v := .agg #[.slice A1 n1 c1, .slice A X.ln c, .int .i64 X.fuse, .int .i64 X.fault, .bool X.off]) ?_ rfl ⟨⟨⟨A1, n1, c1, X.F.l.take 1000⟩, A, X.ln, c, L, X.fuse, X.fault, X.off⟩, rfl, HS.out, hLe.out, hbe, HAw.out, HQ.out, by omega⟩
        simp [results, Tryd.results9, go_sem, *]
  · have hm : min (X.ln : Int) 6 = 6 := by omega
    have hm2 : min X.ln 6 = 6 := by omega
    have hmc : (6 : Int) ≤ (X.lc : Int) := by omega
    have hkn2 : ((X.ln : Int) < 6) = False := by simp; omega
    have hkn3 : ((X.ln : Int) ≤ 6) = False := by simp; omega
    obtain ⟨iP, hiP, hzP, hsP, hbP⟩ := slice_info
    obtain ⟨lA, hlA⟩ : ∃ A, X.lA = A := ⟨_, rfl⟩
    rw [hlA] at f1
    have HlA := Lib.hid hlA
    clear hlA
    go_wp2_with fail
    clear f0 f1 f2 f3 f4 k0 k1 k2 k3 k4 j0 j1 j2 j3 j4 m0 m1 m2 m3 m4
    go_loopw [3, 18] (fun lv iv wr => ∃ (i : Nat) (A : Option Addr) (c : Nat) (L : List PcT), i ≤ 6 ∧ iv = .int .i64 i ∧ lv = .slice A i c ∧ Hid (wr.ownsRow W3.heap.size 22 1 (.slice A i c) i (L.map PcT.val)) ∧ Hid (OwnR wr W3.heap.size L) ∧ Hid (L.map (·.l) = ((X.L.take i).map (·.l)).map (·.take 300)) ∧ Hid (∀ p ∈ L, p.n ≤ 300) ∧ Below W3.heap.size W3 wr) (fun _ iv _ => 6 - (intOf iv).toNat)
    case atStart => exact ⟨0, none, 0, [], Nat.zero_le _, rfl, rfl, Lib.hid (World.ownsRow_nil W3 W3.heap.size 22 1), Lib.hid (fun p hp => (List.not_mem_nil hp).elim), Lib.hid rfl, Lib.hid (fun p hp => (List.not_mem_nil hp).elim), Below.refl _ _⟩
    case round =>
      obtain ⟨i, A, c, L, hi, rfl, rfl, HA, HOL, HLL, HLN, hbr⟩ := hrel
      rename World => wr
      have hbw := hb.trans (hbr.mono hb.size)
      have hs3 := hbr.size
      by_cases hlt : i < 6
      · obtain ⟨b, off, p, hAp, _, hp, hc⟩ := pc_at (HL.out wr hbw).row (show i < X.ln by omega)
        obtain rfl : lA = some ⟨b, off, none⟩ := HlA.out.symm.trans hAp
        have hpo := (HL.out wr hbw).loose p (List.mem_of_getElem? hp)
        have hcp := few_own p 300 B wr hpo (Nat.le_trans hB hbw.size) (by omega)
        rw [show ((300 : Nat) : Int) = 300 from rfl] at hcp
        have hlt' : (i : Int) < (6 : Int) := by omega
        have hi0 : (0 : Int) ≤ (i : Int) := by omega
        have HP2 := Lib.hid (take_map hp)
        clear hpo hAp hp
        go_wp2_with fail
        refine hcp.mono ?_
        rintro e W5 ⟨A5, n5, c5, rfl, hO5, hb5⟩
        have hn5 : n5 ≤ 300 := by have := hO5.1; simp at this; omega
        clear hcp hc
        have hba := bel_alloc hb5 (.cells #[.slice A5 n5 c5] 22)
        have hn6 := own_later HA.out hba
        have HN6 := Lib.hid hn6
        have HOL6 := Lib.hid (OwnR.snoc (p := ⟨A5, n5, c5, p.l.take 300⟩) (HOL.out.later hba) (own_base (own_later hO5 (bel_alloc (Below.refl _ _) (.cells #[.slice A5 n5 c5] 22))) hs3))
        have hs6 := shows_new' W5 #[.slice A5 n5 c5] 22 1 1 rfl
        have hz6 : W3.heap.size ≤ (W5.alloc (.cells #[.slice A5 n5 c5] 22)).heap.size := Nat.le_trans hs3 hba.size
        have h63 : i + 1 ≤ maxLen := by unfold maxLen; omega
        have hbt : (i + 1) * 24 ≤ 140737488355328 := by omega
        have HX6 := Lib.hid (hbr.trans (hba.mono hs3))
        clear hO5 hb5 hba
        go_wp2_with (at_builtin; refine wpList_append_shows _ rfl _ _ 23 rfl W3.heap.size 22 iP (.slice none 0 0) 1 24 Tryd.underlying23 hiP hzP hsP hbP rfl (by decide) _ _ _ rfl hn6 _ _ 1 _ _ rfl hs6 (slice_one _ _ _) h63 hbt hz6 ?_; intro A7 c7 w7 hown7 hgrow7 hb7; have HO7 := Lib.hid hown7; have HOL7 := Lib.hid (OwnR.grown HOL6.out HN6.out hgrow7); clear hown7 hgrow7 hn6 hs6 h63 hbt hz6)
        go_roundw
        case rel => exact ⟨i + 1, A7, c7, L ++ [⟨A5, n5, c5, p.l.take 300⟩], by omega, by go_num, rfl, Lib.hid (by rw [List.map_append]; exact HO7.out), HOL7, Lib.hid (by rw [List.map_append, HLL.out, HP2.out, List.map_append]; rfl), Lib.hid (fun q hq => by
          rcases List.mem_append.1 hq with h | h
          · exact HLN.out q h
          · rw [List.mem_singleton.1 h]; exact hn5), HX6.out.trans hb7⟩
        case measure => simp [intOf]; omega
      · obtain rfl : 6 = i := by omega
        have HLL2 := Lib.hid (show L.map (·.l) = (X.s.loose.take 6).map (·.take 300) by
          show _ = ((X.L.map (·.l)).take 6).map (·.take 300)
          rw [← List.map_take]
          exact HLL.out)
        have HV := Lib.hid (HV.out.later hbr)
        have HR := Lib.hid (HR.out.later hbr)
        have HO1 := Lib.hid (own_later HO1.out hbr)
        clear HLL
        obtain ⟨⟨f0, f1, f2, f3, f4⟩, k0, k1, k2, k3, k4⟩ := HV.out
        obtain ⟨⟨j0, j1, j2, j3, j4⟩, m0, m1, m2, m3, m4⟩ := HR.out
        go_upto_region 9 with fail
        clear f0 f1 f2 f3 f4 k0 k1 k2 k3 k4 j0 j1 j2 j3 j4 m0 m1 m2 m3 m4
        have HV := Lib.hid (HV.out.set1 (.slice A 6 c))
        have HR := Lib.hid (HR.out.other (g := w.heap.size) (i := 1) (.slice A 6 c) (show w.heap.size + 1 ≠ w.heap.size by omega))
        have hb := Below.setCell hbw (p := ⟨w.heap.size, 1, none⟩) (Nat.le_refl w.heap.size) (.slice A 6 c)
        have q1 := own_base (ownsRow_setCell_below HO1.out (show (⟨w.heap.size, 1, none⟩ : Addr).block < _ by show w.heap.size < _; omega) (.slice A 6 c)) hn2
        have q2 := own_base (ownsRow_setCell_below HA.out (show (⟨w.heap.size, 1, none⟩ : Addr).block < _ by show w.heap.size < _; omega) (.slice A 6 c)) hn3
        have q3 := (OwnR.setBelow HOL.out (a := ⟨w.heap.size, 1, none⟩) (by show w.heap.size < _; omega) (.slice A 6 c)).base hn3
        generalize wr.setCell ⟨w.heap.size, 1, none⟩ (.slice A 6 c) = W8 at *
        obtain ⟨hL8, haw8⟩ := own_lie (p := ⟨A1, n1, c1, X.F.l.take 1000⟩) (of := X.off) q1 q2 q3 Hw.out.1 Hw.out.2
        have hbe := fbelow_set5 (a := .slice A1 n1 c1) (b := .slice A 6 c) (c := .int .i64 X.fuse) (d := .int .i64 X.fault) (e := .bool X.off) hb (show w.heap.size ≤ w.heap.size + 1 by omega)
        have hLe := Lib.hid (lie_res (a := .slice A1 n1 c1) (b := .slice A 6 c) (c := .int .i64 X.fuse) (d := .int .i64 X.fault) (e := .bool X.off) hL8 (haw8 (w.heap.size + 1) (by omega)))
        have HAw := Lib.hid (show ∀ g, g < w.heap.size → AwayF ⟨⟨A1, n1, c1, X.F.l.take 1000⟩, A, 6, c, L, X.fuse, X.fault, X.off⟩ g from fun g hg => haw8 g (by omega))
        have HS := Lib.hid (show FileT.s ⟨⟨A1, n1, c1, X.F.l.take 1000⟩, A, 6, c, L, X.fuse, X.fault, X.off⟩ = someS X.s by
          show FileS.mk (X.F.l.take 1000) (L.map (·.l)) X.fuse X.fault X.off = _
          rw [HLL2.out]
          rfl)
        have HQ := Lib.hid (show ∀ p ∈ FileT.Q ⟨⟨A1, n1, c1, X.F.l.take 1000⟩, A, 6, c, L, X.fuse, X.fault, X.off⟩, p.n ≤ 1000 by
          intro p hp
          rcases List.mem_cons.1 hp with h | h
          · rw [h]; exact hn1
          · have := HLN.out p h; omega)
        clear q1 q2 q3 hL8 haw8 hb hbw HA HOL HO1 HLL2 hbr
        obtain ⟨⟨f0, f1, f2, f3, f4⟩, k0, k1, k2, k3, k4⟩ := HV.out
        obtain ⟨⟨j0, j1, j2, j3, j4⟩, m0, m1, m2, m3, m4⟩ := HR.out
        go_wp2
        (try rw [Exit.noGoto_ret])
        refine bodyPost_ret (v := .agg #[.slice A1 n1 c1, .slice A 6 c, .int .i64 X.fuse, .int .i64 X.fault, .bool X.off]) ?_ rfl ⟨⟨⟨A1, n1, c1, X.F.l.take 1000⟩, A, 6, c, L, X.fuse, X.fault, X.off⟩, rfl, HS.out, hLe.out, hbe, HAw.out, HQ.out, by omega⟩
        simp [results, Tryd.results9, go_sem, *]
end Go.Proofs.YtghmehfmchadoaaDoor
/-
  Layer 11: the reference's Bytes and Out.
-/
namespace Go.Proofs.YtghmehfmchadoaaDoor
open Go.RowKit
set_option linter.unusedVariables false

set_option maxRecDepth 20000 in
set_option maxHeartbeats 2000000 in
theorem refBytes_any (X : FileT) (B : Nat) (w : World) (hL : LieF w B X) (hB : B ≤ w.heap.size) (hr : X.right = true) :
    Calls Tryd.prog 16 #[X.agg] w fun e w' => ∃ A c, e = .returned (.slice A X.long c) ∧ Hid (w'.ownsRow w.heap.size 5 1 (.slice A X.long c) X.long (X.all.map bv)) ∧ Below w.heap.size w w' := by
  obtain ⟨i0, hi, hz0, hz1, hz2⟩ := u8_info
  obtain ⟨hlong, hmax⟩ := right_all hL hr
  have hsum : X.all.length = X.F.n + sumN X.L := by unfold FileT.all; rw [List.length_append, hL.firm.len, sumN_len hL.loose]
  have hb1 := bel_alloc (Below.refl w.heap.size w) (.cells #[.slice X.F.A X.F.n X.F.c, .slice X.lA X.ln X.lc, .int .i64 X.fuse, .int .i64 X.fault, .bool X.off] 25)
  have HX := Lib.hid (FBox.new w X 25)
  have HL := Lib.hid (fun W (h : Below w.heap.size w W) => hL.later (h.mono hB))
  have hln := Nat.le_trans hL.fits hL.most
  unfold maxLen at hln
  have hMx : 600000 ≤ maxLen := by decide
  have Hlong := Lib.hid (show X.long = X.F.n + sumN X.L by rw [hlong, hsum])
  have hFn : X.F.n ≤ 524288 := by omega
  have Hsum := Lib.hid (show X.F.n + sumN X.L ≤ 524288 by omega)
  have HlL := Lib.hid hL.len
  clear hlong hmax hsum hr
  simp only [FileT.agg, PcT.val]
  go_enter Tryd.func16, Tryd.ntmps16
  go_upto_region 2 with fail
  generalize (w.alloc (.cells #[.slice X.F.A X.F.n X.F.c, .slice X.lA X.ln X.lc, .int .i64 X.fuse, .int .i64 X.fault, .bool X.off] 25)) = W1 at *
  obtain ⟨f0, f1, -⟩ := HX.out
  have hn0 := World.ownsRow_nil W1 W1.heap.size 5 1
  have hs0 := (HL.out W1 hb1).firm.here
  go_wp2_with (at_builtin; refine wpList_append_shows _ rfl _ _ 22 rfl W1.heap.size 5 i0 (.int .u8 0) 1 1 Tryd.underlying22 hi hz0 hz1 hz2 rfl (by decide) _ _ _ rfl hn0 B _ X.F.n _ (X.F.l.map bv) rfl hs0 (bv_one _) (by omega) (by omega) (Nat.le_refl _) ?_; intro A7 c7 w7 hown7 hgrow7 hb7; have hx7 : Below w.heap.size w w7 := bel_next hb1 hb7; have HO7 := Lib.hid hown7; clear hown7 hgrow7 hn0 hs0)
  have HO := Lib.hid (show w7.ownsRow W1.heap.size 5 1 (.slice A7 X.F.n c7) X.F.n ((X.F.l ++ joinP (X.L.take 0)).map bv) by simpa [joinP] using HO7.out)
  clear HO7 f0 f1
  go_wp2
  go_loopw [3, 4] (fun o i wr => ∃ (j m : Nat) (A : Option Addr) (c : Nat), j ≤ X.ln ∧ i = .int .i64 j ∧ o = .slice A m c ∧ Hid (m = X.F.n + sumN (X.L.take j)) ∧ Hid (wr.ownsRow W1.heap.size 5 1 (.slice A m c) m ((X.F.l ++ joinP (X.L.take j)).map bv)) ∧ Below W1.heap.size W1 wr) (fun _ i _ => X.ln - (intOf i).toNat)
  case atStart => exact ⟨0, X.F.n, A7, c7, Nat.zero_le _, rfl, by first | rfl | simp, Lib.hid (by simp [sumN]), HO, hb7⟩
  case round =>
    obtain ⟨j, m, A, c, hj, rfl, rfl, HM, HO, hbr⟩ := hrel
    rename World => wr
    clear hb7 hx7
    obtain ⟨f0, f1, -⟩ := HX.out.later hbr
    have hbw := bel_next hb1 hbr
    have hLr := HL.out wr hbw
    by_cases hlt : j < X.ln
    · obtain ⟨b, off, p, hA, _, hp, hc⟩ := pc_at hLr.row hlt
      have hs := (hLr.loose p (List.mem_of_getElem? hp)).here
      have hlt' : (j : Int) < X.ln := by omega
      have HM2 := Lib.hid (show m + p.n = X.F.n + sumN (X.L.take (j + 1)) by
        rw [HM.out]
        have : sumN (X.L.take (j + 1)) = sumN (X.L.take j) + p.n := by unfold sumN; rw [List.take_add_one, hp]; simp
        omega)
      have hle : m + p.n ≤ 524288 := by
        rw [HM2.out]
        have h1 := sumN_take X.L (j + 1)
        have := Hsum.out
        omega
      have HJ := Lib.hid (joinP_take hp)
      have hown := HO.out
      have hbs := hbr.size
      rw [hA] at f1
      clear hp HM HO hLr hA
      go_wp2_with (at_builtin; refine wpList_append_shows _ rfl _ _ 22 rfl W1.heap.size 5 i0 (.int .u8 0) 1 1 Tryd.underlying22 hi hz0 hz1 hz2 rfl (by decide) _ _ _ rfl hown B _ p.n _ (p.l.map bv) rfl hs (bv_one _) (by omega) (by omega) hbs ?_; intro A8 c8 w8 hown8 hgrow8 hb8; have HO8 := Lib.hid hown8; clear hown8 hgrow8 hown hs)
      go_roundw
      case rel => exact ⟨j + 1, m + p.n, A8, c8, by omega, by go_num, rfl, HM2, Lib.hid (by rw [HJ.out, ← List.append_assoc, List.map_append]; exact HO8.out), hbr.trans hb8⟩
      case measure => simp [intOf]; omega
    · obtain rfl : j = X.ln := by omega
      have htk : X.L.take X.ln = X.L := List.take_of_length_le (by rw [HlL.out]; exact Nat.le_refl _)
      have HM2 := Lib.hid (show m = X.long by rw [Hlong.out, HM.out, htk])
      have HO2 := Lib.hid (show wr.ownsRow W1.heap.size 5 1 (.slice A m c) m (X.all.map bv) by have h := HO.out; rw [htk] at h; exact h)
      clear HM HO htk hLr
      go_wp2
      go_ret
      exact ⟨A, c, by rw [← HM2.out]; rfl, Lib.hid (by rw [← HM2.out]; exact own_base HO2.out hb1.size), hbw⟩

set_option maxRecDepth 20000 in
set_option maxHeartbeats 4000000 in
theorem refOut_any (A : Option Addr) (n c B : Nat) (l : List UInt8) (w : World) (hp : PcT.Ok w B ⟨A, n, c, l⟩) (hB : B ≤ w.heap.size) (hn : n ≤ 4096) :
    Calls Tryd.prog 17 #[.slice A n c] w (GivesBytes 5 (Fra.encL l) w) := by
  obtain ⟨i0, hi, hz0, hz1, hz2⟩ := u8_info
  obtain ⟨C, hC⟩ : ∃ C : List UInt8, C = Fra.sizeL n := ⟨_, rfl⟩
  have hcs := size_cells n hn
  rw [← hC] at hcs
  have hsz := Lib.hid (bytes_new w C #[.int .u8 ((n : Int) / 256), .int .u8 ((n : Int) % 256)] 5 (0, 0) hcs)
  have hCl : C.length = 2 := by rw [hC]; rfl
  have hl : l.length = n := hp.len
  have HE := Lib.hid (show Fra.encL l = C ++ (Crc.laid (Crc.more 0 (C ++ l)) ++ l) by
    unfold Fra.encL
    rw [hl, ← hC])
  rw [hCl] at hsz
  have HP := Lib.hid hp
  have hd1 : (n : Int).tdiv 256 = (n : Int) / 256 := by rw [Int.tdiv_eq_ediv_of_nonneg (by omega)]
  have hd2 : (n : Int).tmod 256 = (n : Int) % 256 := by rw [Int.tmod_eq_emod_of_nonneg (by omega)]
  have hd3 : IntKind.u8.wrap ((n : Int) / 256) = (n : Int) / 256 := by
    have : IntKind.u8.wrap ((n : Int) / 256) = (n : Int) / 256 % 256 := by simp [IntKind.wrap, IntKind.bits, IntKind.signed]
    rw [this]; omega
  have hd4 : IntKind.u8.wrap ((n : Int) % 256) = (n : Int) % 256 := by
    have : IntKind.u8.wrap ((n : Int) % 256) = (n : Int) % 256 % 256 := by simp [IntKind.wrap, IntKind.bits, IntKind.signed]
    rw [this]; omega
  have hba := bel_alloc (Below.refl w.heap.size w) (.cells #[.int .u8 ((n : Int) / 256), .int .u8 ((n : Int) % 256)] 5)
  have hs1 : w.heap.size + 1 ≤ (w.alloc (.cells #[.int .u8 ((n : Int) / 256), .int .u8 ((n : Int) % 256)] 5)).heap.size := by rw [World.size_alloc]; omega
  have own0 := World.ownsRow_lit (base := w.heap.size + 1) (e := 5) (size := 1) (w.alloc (.cells #[.int .u8 ((n : Int) / 256), .int .u8 ((n : Int) % 256)] 5)) #[] 0 hs1 (Nat.zero_le _) (by simp)
  rw [World.size_alloc] at own0
  have hbb := bel_alloc hba (.cells #[] 5)
  have hz2' : w.heap.size + 1 ≤ ((w.alloc (.cells #[.int .u8 ((n : Int) / 256), .int .u8 ((n : Int) % 256)] 5)).alloc (.cells #[] 5)).heap.size := by rw [World.size_alloc]; omega
  have HS := Lib.hid ((hsz.out.alloc hs1 (.cells #[] 5)))
  clear hC hcs hp hl hsz hba hs1
  go_enter Tryd.func17, Tryd.ntmps17
  go_wp2_with (first
    | (at_builtin; go_must (refine wpList_append_shows (o := ⟨some 18, _, _, _, _, _⟩) _ rfl (.tmp 16) (.tmp 17) _ rfl (w.heap.size + 1) 5 i0 (.int .u8 0) 1 1 Tryd.underlying22 hi hz0 hz1 hz2 rfl (by decide) _ _ _ rfl own0 (w.heap.size + 1) _ _ _ (C.map bv) rfl HS.out (bv_one _) ?c3_18 ?c4_18 ?c5_18 ?_)))
  (try case c3_18 => (unfold maxLen; omega))
  (try case c4_18 => omega)
  (try case c5_18 => first | exact hz2' | omega)
  intro A1 c1 W1 own1 hg1 hb1
  replace own1 : W1.ownsRow (w.heap.size + 1) 5 1 (.slice A1 2 c1) 2 (C.map bv) := by simpa using own1
  have hb1' := hb1.mono (Nat.le_succ w.heap.size)
  have hbc := hbb.trans hb1'
  have hz3 : w.heap.size + 1 ≤ W1.heap.size := Nat.le_trans hz2' hb1.size
  have HS1 := Lib.hid (HS.out.below hb1)
  clear own0 hg1 hb1 hb1' hbb hz2' HS
  have hP1 := Lib.hid ((HP.out.here.more hB).below hbc)
  go_wp2_with (first
    | (at_builtin; go_must (refine wpList_append_shows (o := ⟨some 21, _, _, _, _, _⟩) _ rfl (.tmp 19) (.tmp 20) _ rfl (w.heap.size + 1) 5 i0 (.int .u8 0) 1 1 Tryd.underlying22 hi hz0 hz1 hz2 rfl (by decide) _ _ _ rfl own1 w.heap.size _ _ _ (l.map bv) rfl hP1.out (bv_one _) ?c3_21 ?c4_21 ?c5_21 ?_)))
  (try case c3_21 => (unfold maxLen; omega))
  (try case c4_21 => omega)
  (try case c5_21 => first | exact hz3 | omega)
  intro A2 c2 W2 own2 hg2 hb2
  have hbd := hbc.trans (hb2.mono (Nat.le_succ w.heap.size))
  have hz4 := Nat.le_trans hz3 hb2.size
  have HS2 := Lib.hid ((HS1.out.below hb2).alloc hz4 (.cells #[] 5))
  rw [← List.map_append] at own2
  have own3 := World.ownsRow_lit (base := w.heap.size + 1) (e := 5) (size := 1) W2 #[] 0 hz4 (Nat.zero_le _) (by simp)
  have HO2 := Lib.hid (own_later own2 (bel_alloc (Below.refl W2.heap.size W2) (.cells #[] 5)))
  have hbe := bel_alloc hbd (.cells #[] 5)
  have hz5 : w.heap.size + 1 ≤ (W2.alloc (.cells #[] 5)).heap.size := by rw [World.size_alloc]; omega
  have Hne := Lib.hid own3
  have HO2w := Lib.hid own2
  clear hb2 hbd hbc hz3 hg2 own1 hP1 HS1 own2
  go_wp2_with (first
    | (at_builtin; go_must (refine wpList_append_shows (o := ⟨some 24, _, _, _, _, _⟩) _ rfl (.tmp 22) (.tmp 23) _ rfl (w.heap.size + 1) 5 i0 (.int .u8 0) 1 1 Tryd.underlying22 hi hz0 hz1 hz2 rfl (by decide) _ _ _ rfl own3 (w.heap.size + 1) _ _ _ (C.map bv) rfl HS2.out (bv_one _) ?c3_24 ?c4_24 ?c5_24 ?_)))
  (try case c3_24 => (unfold maxLen; omega))
  (try case c4_24 => omega)
  (try case c5_24 => first | exact hz5 | omega)
  intro A3 c3 W3 own4 hg3 hb3
  replace own4 : W3.ownsRow (w.heap.size + 1) 5 1 (.slice A3 2 c3) 2 (C.map bv) := by simpa using own4
  have HO3 := Lib.hid (HO2.out.kept hg3 (by
    rcases HO2w.out.2 with ⟨e, _⟩ | ⟨g, cap, cur, e, _, hh, _⟩
    · rw [e]; exact .inl rfl
    · rw [e]
      exact .inr (fun h => by
        have h : some g = some W2.heap.size := h
        injection h with h
        have := blk_lt hh
        omega)))
  have HB3 := Lib.hid (Bytes.own HO3.out)
  have hbf := hbe.trans (hb3.mono (Nat.le_succ w.heap.size))
  have hz6 := Nat.le_trans hz5 hb3.size
  clear own3 Hne hb3 hbe hz5 hg3 HO2 HS2
  go_wp2_with fail
  refine (refmore_any A2 (2 + n) c2 W3.heap.size (C ++ l) 0 W3 HB3.out (by omega) (by unfold maxLen; omega)).mono ?_
  rintro e W4 ⟨rfl, rfl⟩
  obtain ⟨s, hs⟩ : ∃ s, Crc.more 0 (C ++ l) = s := ⟨_, rfl⟩
  have hsl : s < 4294967296 := by rw [← hs]; exact Crc.more_lt _ _
  rw [hs]
  have Hs := Lib.hid hs
  clear hs
  go_wp2_with fail
  refine (laid_any s W3 hsl).mono ?_
  rintro e W5 ⟨A5, n5, c5, rfl, ho5, hb5⟩
  have hn5 : n5 = 4 := by have := ho5.1; simpa [Crc.laid] using this.symm
  subst hn5
  have HB5 := Lib.hid (Bytes.own ho5)
  have own5 := own_later own4 hb5
  have hbg := hbf.trans (hb5.mono (Nat.le_trans (Nat.le_succ _) hz6))
  have hz7 := Nat.le_trans hz6 hb5.size
  clear own4 hb5 ho5 hbf hz6 HB3 HO3
  go_wp2_with (first
    | (at_builtin; go_must (refine wpList_append_shows (o := ⟨some 29, _, _, _, _, _⟩) _ rfl (.tmp 25) (.tmp 28) _ rfl (w.heap.size + 1) 5 i0 (.int .u8 0) 1 1 Tryd.underlying22 hi hz0 hz1 hz2 rfl (by decide) _ _ _ rfl own5 W5.heap.size _ _ _ ((Crc.laid s).map bv) rfl HB5.out (bv_one _) ?c3_29 ?c4_29 ?c5_29 ?_)))
  (try case c3_29 => (unfold maxLen; omega))
  (try case c4_29 => omega)
  (try case c5_29 => first | exact hz7 | omega)
  intro A6 c6 W6 own6 hg6 hb6
  have hbh := hbg.trans (hb6.mono (Nat.le_succ w.heap.size))
  have hz8 := Nat.le_trans hz7 hb6.size
  replace own6 : W6.ownsRow (w.heap.size + 1) 5 1 (.slice A6 6 c6) 6 ((C ++ Crc.laid s).map bv) := by rw [List.map_append]; exact own6
  have hP6 := Lib.hid ((HP.out.here.more hB).below hbh)
  clear own5 HB5 hbg hz7 hg6 hb6
  go_wp2_with (first
    | (at_builtin; go_must (refine wpList_append_shows (o := ⟨some 32, _, _, _, _, _⟩) _ rfl (.tmp 30) (.tmp 31) _ rfl (w.heap.size + 1) 5 i0 (.int .u8 0) 1 1 Tryd.underlying22 hi hz0 hz1 hz2 rfl (by decide) _ _ _ rfl own6 w.heap.size _ _ _ (l.map bv) rfl hP6.out (bv_one _) ?c3_32 ?c4_32 ?c5_32 ?_)))
  (try case c3_32 => (unfold maxLen; omega))
  (try case c4_32 => omega)
  (try case c5_32 => first | exact hz8 | omega)
  intro A7 c7 W7 own7 hg7 hb7
  have hbi := hbh.trans (hb7.mono (Nat.le_succ w.heap.size))
  clear own6 hg7 hb7 hbh hz8
  go_wp2
  go_ret
  refine ⟨A7, _, c7, rfl, ?_, hbi⟩
  rw [HE.out, Hs.out, List.map_append, List.map_append]
  exact own_base own7 (Nat.le_succ _)
end Go.Proofs.YtghmehfmchadoaaDoor
/-
  Layer 11: the reference's Past.
-/
namespace Go.Proofs.YtghmehfmchadoaaDoor
open Go.RowKit
set_option linter.unusedVariables false

theorem int_info11 : ∃ i, Tryd.prog.info? 3 = some i ∧ i.zero = some (.int .i64 0) ∧ i.size = 1 ∧ i.bytes = 8 := ⟨Tryd.t3, by kernel_rfl, by kernel_rfl, by kernel_rfl, by kernel_rfl⟩
theorem own_grown {W W' : World} {D E n n' s : Nat} {t1 t2 : TypeId} {v v' : Value} {xs ys : List Value} (h : W.ownsRow D t1 1 v n xs) (ho : W.ownsRow E t2 s v' n' ys) (hg : W.grownBy W' v'.ownBlock) (ht : t1 ≠ t2) : W'.ownsRow D t1 1 v n xs := by
  refine h.kept hg ?_
  rcases h.2 with ⟨e, _⟩ | ⟨g, cap, cur, e, _, hh, _⟩
  · rw [e]; exact .inl rfl
  · rw [e]; exact .inr (own_blk_ne ho hh ht)
/-- The place of a byte past the marks. -/
def placeV (x : UInt8 × Nat) : Value := .int .i64 ((x.2 - 1 : Nat) : Int)
/-- What 'Past' gives. -/
def PastP (p : List (UInt8 × Nat)) (w : World) (e : Ending) (w' : World) : Prop :=
  ∃ (A1 A2 : Option Addr) (c1 c2 : Nat), e = .returned (.tuple #[.slice A1 p.length c1, .slice A2 p.length c2]) ∧ Hid (w'.ownsRow w.heap.size 5 1 (.slice A1 p.length c1) p.length ((p.map Prod.fst).map bv)) ∧ Hid (w'.ownsRow w.heap.size 3 1 (.slice A2 p.length c2) p.length (p.map placeV)) ∧ Below w.heap.size w w'
theorem past_nil (w : World) : PastP [] w (.returned (.tuple #[.slice none 0 0, .slice none 0 0])) w :=
  ⟨none, none, 0, 0, rfl, Lib.hid (World.ownsRow_nil w w.heap.size 5 1), Lib.hid (World.ownsRow_nil w w.heap.size 3 1), Below.refl _ _⟩
theorem drop_head {l : List UInt8} {i : Nat} (h : i < l.length) : l.drop i = l.getD i 0 :: l.drop (i + 1) := by
  rw [List.drop_eq_getElem_cons h, List.getD_eq_getElem?_getD, List.getElem?_eq_getElem h]
  rfl
set_option maxRecDepth 20000 in
set_option maxHeartbeats 2000000 in
theorem refPast_in (A : Option Addr) (n c B : Nat) (l : List UInt8) (a : Nat) (w : World) (hp : PcT.Ok w B ⟨A, n, c, l⟩) (hB : B ≤ w.heap.size) (hn : n ≤ 1000000) (hs : Fra.startB l a = true) :
    Calls Tryd.prog 44 #[.slice A n c, .int .i64 (a : Nat)] w (PastP (Fra.pastP a (l.drop a)) w) := by
  obtain ⟨i0, hi, hz0, hz1, hz2⟩ := u8_info
  obtain ⟨j0, hj, hjz0, hjz1, hjz2⟩ := int_info11
  have hlen : l.length = n := hp.len
  unfold Fra.startB at hs
  simp only [Bool.and_eq_true, decide_eq_true_eq, Bool.not_eq_true', beq_eq_false_iff_ne, beq_iff_eq] at hs
  obtain ⟨ha, ha64, hm0⟩ := hs
  rw [hlen] at ha
  obtain ⟨q, hq⟩ : ∃ q, a - a % 64 = q := ⟨_, rfl⟩
  have hqI : (a : Int) - (a : Int) % 64 = (q : Int) := by omega
  have hqI2 : (a : Int) - (a : Int).tmod 64 = (q : Int) := by rw [Int.tmod_eq_emod_of_nonneg (by omega)]; omega
  have hqn : (q : Int) < (n : Int) := by omega
  obtain ⟨b, off, rfl, hbB, hc⟩ := hp.here.cell (k := q) (by show q < n; omega)
  rw [show at8 l q = 0 by unfold at8; rw [← hq, hm0]; rfl] at hc
  have ha1 : ¬ (a : Int) < 0 := by omega
  have ha2 : ¬ (n : Int) ≤ (a : Int) := by omega
  have ha3 : (a : Int) < (n : Int) := by omega
  have ha4 : ((a : Int) % 64 == 0) = false := by rw [beq_eq_false_iff_ne]; omega
  have Han := Lib.hid (show a ≤ n by omega)
  have Hlen := Lib.hid hlen
  have HP := Lib.hid hp
  have hq0 : (0 : Int) ≤ (q : Int) := by omega
  clear hp hlen hq hm0 ha ha64 hbB
  go_enter Tryd.func44, Tryd.ntmps44
  go_wp2_with fail
  clear hc hqI hqI2 hqn ha1 ha2 ha3 ha4 hq0
  go_loopw [6, 7, 8] (fun ov pv iv wr => ∃ (i m : Nat) (acc : List (UInt8 × Nat)) (A1 A2 : Option Addr) (c1 c2 : Nat), i ≤ n ∧ m ≤ i ∧ iv = .int .i64 i ∧ ov = .slice A1 m c1 ∧ pv = .slice A2 m c2 ∧ Hid (acc.length = m) ∧ Hid (wr.ownsRow w.heap.size 5 1 (.slice A1 m c1) m ((acc.map Prod.fst).map bv)) ∧ Hid (wr.ownsRow w.heap.size 3 1 (.slice A2 m c2) m (acc.map placeV)) ∧ Hid (acc ++ Fra.pastP i (l.drop i) = Fra.pastP a (l.drop a)) ∧ Below w.heap.size w wr) (fun _ _ iv _ => n - (intOf iv).toNat)
  case atStart => exact ⟨a, 0, [], none, none, 0, 0, Han.out, Nat.zero_le _, rfl, rfl, rfl, Lib.hid rfl, Lib.hid (World.ownsRow_nil w w.heap.size 5 1), Lib.hid (World.ownsRow_nil w w.heap.size 3 1), Lib.hid rfl, Below.refl _ _⟩
  case round =>
    obtain ⟨i, m, acc, A1, A2, c1, c2, hi', hmi, rfl, rfl, rfl, HM, HO1, HO2, HA, hbr⟩ := hrel
    rename World => wr
    have hsz := hbr.size
    have hi0 : (0 : Int) ≤ (i : Int) := by omega
    by_cases hlt : i < n
    · have hlt' : (i : Int) < (n : Int) := by omega
      obtain ⟨b2, off2, e, hb2, hc⟩ := ((HP.out.here.more hB).below hbr).cell (k := i) hlt
      injection e with e
      injection e with e1 e2
      subst e1 e2
      have hdr := drop_head (l := l) (i := i) (by rw [Hlen.out]; exact hlt)
      obtain ⟨u, hu⟩ : ∃ u, l.getD i 0 = u := ⟨_, rfl⟩
      have hat : at8 l i = (u.toNat : Int) := by unfold at8; rw [hu]
      rw [hu] at hdr
      rw [hat] at hc
      by_cases h64 : i % 64 = 0
      · have h64' : ((i : Int) % 64 == 0) = true := by rw [beq_iff_eq]; omega
        by_cases hu0 : u = 0
        · subst hu0
          have HA2 := Lib.hid (show acc ++ Fra.pastP (i + 1) (l.drop (i + 1)) = Fra.pastP a (l.drop a) by rw [← HA.out, hdr, Fra.pastP_at _ h64])
          rw [show (((0 : UInt8).toNat : Nat) : Int) = 0 from rfl] at hc
          clear HA hdr hat hu h64
          go_wp2_with fail
          go_roundw
          case rel => exact ⟨i + 1, m, acc, A1, A2, c1, c2, by omega, by omega, by go_num, rfl, rfl, HM, HO1, HO2, HA2, hbr⟩
          case measure => simp [intOf]; omega
        · have HA2 := Lib.hid (show acc = Fra.pastP a (l.drop a) by rw [← HA.out, hdr, Fra.pastP_off _ h64 hu0, List.append_nil])
          have hun : ¬ u.toNat = 0 := fun h => hu0 (UInt8.toNat_inj.1 h)
          have hu1 : ((u.toNat : Int) != 0) = true := by rw [bne_iff_ne]; omega
          have hu2 : ¬ (u.toNat : Int) = 0 := by omega
          clear HA hdr hat hu h64 hu0
          go_wp2_with fail
          go_ret2
          rw [← HA2.out]
          exact ⟨A1, A2, c1, c2, by rw [HM.out]; rfl, Lib.hid (by rw [HM.out]; exact HO1.out), Lib.hid (by rw [HM.out]; exact HO2.out), hbr⟩
      · have h64' : ((i : Int) % 64 == 0) = false := by rw [beq_eq_false_iff_ne]; omega
        have HA2 := Lib.hid (show (acc ++ [(u, i + 1)]) ++ Fra.pastP (i + 1) (l.drop (i + 1)) = Fra.pastP a (l.drop a) by rw [← HA.out, hdr, Fra.pastP_in _ _ h64, List.append_assoc]; rfl)
        clear HA hdr hat hu h64
        have hba := bel_alloc (Below.refl wr.heap.size wr) (.cells #[.int .u8 (u.toNat : Int)] 5)
        have n1 := own_later HO1.out hba
        have HN1 := Lib.hid n1
        have HO2a := Lib.hid (own_later HO2.out hba)
        have s1 := shows_new' wr #[.int .u8 (u.toNat : Int)] 5 1 1 rfl
        have z1 : w.heap.size ≤ (wr.alloc (.cells #[.int .u8 (u.toNat : Int)] 5)).heap.size := Nat.le_trans hsz hba.size
        have hX1 := hbr.trans (hba.mono hsz)
        have g1 : m + 1 ≤ maxLen := by unfold maxLen; omega
        have g2 : (m + 1) * 1 ≤ 140737488355328 := by omega
        have g3 : (m + 1) * 8 ≤ 140737488355328 := by omega
        clear hba
        go_upto_region 12 with (at_builtin; refine wpList_append_shows _ rfl _ _ 22 rfl w.heap.size 5 i0 (.int .u8 0) 1 1 Tryd.underlying22 hi hz0 hz1 hz2 rfl (by decide) _ _ _ rfl n1 _ _ 1 _ _ rfl s1 (by intro x hx; rw [List.mem_singleton.1 hx]; rfl) g1 g2 z1 ?_; intro A7 c7 w7 hown7 hgrow7 hb7; have HO7 := Lib.hid hown7; have HO2b := Lib.hid (own_grown HO2a.out HN1.out hgrow7 (by decide)); have hX2 := hX1.trans hb7; clear hown7 hgrow7 n1 s1 z1 hb7 HO2a HN1 hX1)
        have hba := bel_alloc (Below.refl w7.heap.size w7) (.cells #[.int .i64 (i : Int)] 3)
        have n1 := own_later HO2b.out hba
        have HN1 := Lib.hid n1
        have HO1a := Lib.hid (own_later HO7.out hba)
        have s1 := shows_new' w7 #[.int .i64 (i : Int)] 3 1 1 rfl
        have z1 : w.heap.size ≤ (w7.alloc (.cells #[.int .i64 (i : Int)] 3)).heap.size := Nat.le_trans hX2.size hba.size
        have hX3 := hX2.trans (hba.mono hX2.size)
        clear hba hX2
        go_wp2_with (at_builtin; refine wpList_append_shows _ rfl _ _ 53 rfl w.heap.size 3 j0 (.int .i64 0) 1 8 Tryd.underlying53 hj hjz0 hjz1 hjz2 rfl (by decide) _ _ _ rfl n1 _ _ 1 _ _ rfl s1 (by intro x hx; rw [List.mem_singleton.1 hx]; rfl) g1 g3 z1 ?_; intro A8 c8 w8 hown8 hgrow8 hb8; have HO8 := Lib.hid hown8; have HO1b := Lib.hid (own_grown HO1a.out HN1.out hgrow8 (by decide)); have hX4 := hX3.trans hb8; clear hown8 hgrow8 n1 s1 z1 hb8 HO1a HN1 hX3)
        go_roundw
        case rel =>
          exact ⟨i + 1, m + 1, acc ++ [(u, i + 1)], A7, A8, c7, c8, by omega, by omega, by go_num, rfl, rfl, Lib.hid (by rw [List.length_append, HM.out]; rfl), Lib.hid (by rw [List.map_append, List.map_append]; exact HO1b.out), Lib.hid (by rw [List.map_append]; exact HO8.out), HA2, hX4⟩
        case measure => simp [intOf]; omega
    · obtain rfl : i = n := by omega
      have HA2 := Lib.hid (show acc = Fra.pastP a (l.drop a) by
        rw [← HA.out, List.drop_eq_nil_of_le (by rw [Hlen.out]; exact Nat.le_refl _), Fra.pastP_nil, List.append_nil])
      clear HA
      go_wp2_with fail
      go_ret2
      rw [← HA2.out]
      exact ⟨A1, A2, c1, c2, by rw [HM.out]; rfl, Lib.hid (by rw [HM.out]; exact HO1.out), Lib.hid (by rw [HM.out]; exact HO2.out), hbr⟩
set_option maxRecDepth 20000 in
set_option maxHeartbeats 2000000 in
theorem refPast_no (A : Option Addr) (n c B : Nat) (l : List UInt8) (a : Int) (w : World) (hp : PcT.Ok w B ⟨A, n, c, l⟩) (hB : B ≤ w.heap.size) (hn : n ≤ 1000000) (hs : a < 0 ∨ Fra.startB l a.toNat = false) :
    Calls Tryd.prog 44 #[.slice A n c, .int .i64 a] w (PastP [] w) := by
  have hlen : l.length = n := hp.len
  by_cases h0 : a < 0
  · have h0' : (a < 0) = True := eq_true (by omega)
    clear hs
    go_enter Tryd.func44, Tryd.ntmps44
    go_wp2_with fail
    go_ret2
    exact past_nil w
  · have hs := hs.resolve_left h0
    obtain ⟨k, rfl⟩ : ∃ k : Nat, a = (k : Int) := ⟨a.toNat, by omega⟩
    rw [Int.toNat_natCast] at hs
    have h0' : ((k : Int) < 0) = False := eq_false (by omega)
    by_cases h1 : n ≤ k
    · have h1' : ((n : Int) ≤ (k : Int)) = True := eq_true (by omega)
      have h1'' : ((k : Int) < (n : Int)) = False := eq_false (by omega)
      clear hs h1
      go_enter Tryd.func44, Tryd.ntmps44
      go_wp2_with fail
      go_ret2
      exact past_nil w
    · have h1' : ((n : Int) ≤ (k : Int)) = False := eq_false (by omega)
      have h1'' : ((k : Int) < (n : Int)) = True := eq_true (by omega)
      by_cases h2 : k % 64 = 0
      · have h2' : ((k : Int) % 64 == 0) = true := by rw [beq_iff_eq]; omega
        clear hs h1
        go_enter Tryd.func44, Tryd.ntmps44
        go_wp2_with fail
        go_ret2
        exact past_nil w
      · have h2' : ((k : Int) % 64 == 0) = false := by rw [beq_eq_false_iff_ne]; omega
        obtain ⟨q, hq⟩ : ∃ q, k - k % 64 = q := ⟨_, rfl⟩
        have hqI : (k : Int) - (k : Int) % 64 = (q : Int) := by omega
        have hqI2 : (k : Int) - (k : Int).tmod 64 = (q : Int) := by rw [Int.tmod_eq_emod_of_nonneg (by omega)]; omega
        have hqn : (q : Int) < (n : Int) := by omega
        have hq0 : (0 : Int) ≤ (q : Int) := by omega
        obtain ⟨b, off, rfl, hbB, hc⟩ := hp.here.cell (k := q) (by show q < n; omega)
        have hne : l.getD q 0 ≠ 0 := by
          unfold Fra.startB at hs
          rw [decide_eq_true (by omega), beq_eq_false_iff_ne.2 h2, hq] at hs
          simpa using hs
        obtain ⟨u, hu⟩ : ∃ u, l.getD q 0 = u := ⟨_, rfl⟩
        rw [show at8 l q = (u.toNat : Int) by unfold at8; rw [hu]] at hc
        rw [hu] at hne
        have hun : ¬ u.toNat = 0 := fun h => hne (UInt8.toNat_inj.1 h)
        have hu1 : ((u.toNat : Int) != 0) = true := by rw [bne_iff_ne]; omega
        have hu2 : ¬ (u.toNat : Int) = 0 := by omega
        clear hs h1 hu hne h2 hq hp hlen
        go_enter Tryd.func44, Tryd.ntmps44
        go_wp2_with fail
        go_ret2
        exact past_nil w
end Go.Proofs.YtghmehfmchadoaaDoor
/-
  Layer 11: the reference's Get.
-/
namespace Go.Proofs.YtghmehfmchadoaaDoor
open Go.RowKit
set_option linter.unusedVariables false

/-- The record at an offset that may be any number. -/
def getZ (l : List UInt8) (a : Int) : Option (List UInt8 × Nat) := if a < 0 then none else Fra.getL l a.toNat
/-- What the reference's Get gives. -/
def RGetP (g : Option (List UInt8 × Nat)) (w : World) (e : Ending) (w' : World) : Prop :=
  Below w.heap.size w w' ∧ ((g = none ∧ e = .returned (.tuple #[.slice none 0 0, .int .i64 0, .bool false])) ∨ ∃ (p : PcT) (nx : Nat), g = some (p.l, nx) ∧ e = .returned (.tuple #[.slice p.A p.n p.c, .int .i64 (nx : Nat), .bool true]) ∧ p.Ok w' w'.heap.size)
theorem past_pos : ∀ (l : List UInt8) (n : Nat) (x : UInt8 × Nat), x ∈ Fra.pastP n l → 1 ≤ x.2 ∧ x.2 ≤ n + l.length
  | [], n, x, h => by rw [Fra.pastP_nil] at h; exact (List.not_mem_nil h).elim
  | y :: l, n, x, h => by
    by_cases h64 : n % 64 = 0
    · by_cases hy : y = 0
      · subst hy
        rw [Fra.pastP_at _ h64] at h
        have := past_pos l (n + 1) x h
        simp only [List.length_cons]; omega
      · rw [Fra.pastP_off _ h64 hy] at h; exact (List.not_mem_nil h).elim
    · rw [Fra.pastP_in _ _ h64] at h
      rcases List.mem_cons.1 h with h | h
      · subst h; simp only [List.length_cons]; omega
      · have := past_pos l (n + 1) x h
        simp only [List.length_cons]; omega
set_option maxRecDepth 20000 in
set_option maxHeartbeats 2000000 in
theorem refGet_no (A : Option Addr) (n c B : Nat) (l : List UInt8) (a : Int) (w : World) (hp : PcT.Ok w B ⟨A, n, c, l⟩) (hB : B ≤ w.heap.size) (hn : n ≤ 1000000) (hs : a < 0 ∨ Fra.startB l a.toNat = false) :
    Calls Tryd.prog 21 #[.slice A n c, .int .i64 a] w (RGetP none w) := by
  have hpa := refPast_no A n c B l a w hp hB hn hs
  clear hs
  go_enter Tryd.func21, Tryd.ntmps21
  go_wp2_with fail
  refine hpa.mono ?_
  rintro e w1 ⟨A1, A2, c1, c2, rfl, h1, h2, hb⟩
  clear hpa
  simp only [List.length_nil]
  go_wp2
  go_ret3
  exact ⟨hb, .inl ⟨rfl, rfl⟩⟩
set_option maxRecDepth 100000 in
set_option maxHeartbeats 4000000 in
theorem refGet_in (A : Option Addr) (n c B : Nat) (l : List UInt8) (a : Nat) (w : World) (hp : PcT.Ok w B ⟨A, n, c, l⟩) (hB : B ≤ w.heap.size) (hn : n ≤ 1000000) (hs : Fra.startB l a = true) :
    Calls Tryd.prog 21 #[.slice A n c, .int .i64 (a : Nat)] w (RGetP (Fra.getP (Fra.pastP a (l.drop a))) w) := by
  have hpa := refPast_in A n c B l a w hp hB hn hs
  have hpos := Lib.hid (fun x h => past_pos (l.drop a) a x h)
  have han : a + (l.drop a).length ≤ 1000000 := by
    have hlen : l.length = n := hp.len
    have ha : a < l.length := by
      unfold Fra.startB at hs
      simp only [Bool.and_eq_true, decide_eq_true_eq] at hs
      exact hs.1
    rw [List.length_drop]; omega
  clear hs hp
  generalize Fra.pastP a (l.drop a) = P at *
  obtain ⟨m, hm⟩ : ∃ m, P.length = m := ⟨_, rfl⟩
  obtain ⟨R, hRP⟩ : ∃ R, Fra.getP P = R := ⟨_, rfl⟩
  rw [hRP]
  have HRP := Lib.hid hRP
  clear hRP
  go_enter Tryd.func21, Tryd.ntmps21
  go_wp2_with fail
  refine hpa.mono ?_
  rintro e w1 ⟨A1, A2, c1, c2, rfl, H1, H2, hb⟩
  clear hpa
  rw [hm] at H1 H2 ⊢
  obtain ⟨L, hL⟩ : ∃ L, P.map Prod.fst = L := ⟨_, rfl⟩
  rw [hL] at H1
  have hLn : L.length = m := by rw [← hL, List.length_map, hm]
  by_cases h7 : m < 7
  · have h7' : ((m : Int) < 7) = True := eq_true (by omega)
    have hR : R = none := by rw [← HRP.out]; unfold Fra.getP; simp only; rw [if_pos (.inl (by rw [hm]; exact h7))]
    clear h7
    go_wp2
    go_ret3
    exact ⟨hb, .inl ⟨hR, rfl⟩⟩
  · have h7' : ((m : Int) < 7) = False := eq_false (by omega)
    have hB1 := Bytes.own H1.out
    obtain ⟨f1, f2, f3⟩ := own_facts H1.out
    obtain ⟨b, off, hA, hbB, hc0⟩ := hB1.cell (k := 0) (by omega)
    obtain ⟨b', off', hA', hbB', hc1⟩ := hB1.cell (k := 1) (by omega)
    subst hA
    injection hA' with hA'
    injection hA' with e1 e2
    subst e1 e2
    rw [Nat.add_zero] at hc0
    obtain ⟨u0, hu0⟩ : ∃ u0, (L.getD 0 0).toNat = u0 := ⟨_, rfl⟩
    obtain ⟨u1, hu1⟩ : ∃ u1, (L.getD 1 0).toNat = u1 := ⟨_, rfl⟩
    have hl0 : u0 < 256 := by rw [← hu0]; exact (L.getD 0 0).toNat_lt
    have hl1 : u1 < 256 := by rw [← hu1]; exact (L.getD 1 0).toNat_lt
    rw [show at8 L 0 = (u0 : Int) from congrArg Int.ofNat hu0] at hc0
    rw [show at8 L 1 = (u1 : Int) from congrArg Int.ofNat hu1] at hc1
    obtain ⟨k, hk⟩ : ∃ k, u0 * 256 + u1 = k := ⟨_, rfl⟩
    have hki : (u0 : Int) * 256 + (u1 : Int) = (k : Int) := by omega
    have hR : R = if m < 7 ∨ k < 1 ∨ 4096 < k ∨ m < 6 + k then none else if Fra.encL ((L.drop 6).take k) = L.take (6 + k) then some ((L.drop 6).take k, (P.getD (5 + k) (0, 0)).2) else none := by
      rw [← HRP.out]
      unfold Fra.getP
      simp only
      rw [hL, hu0, hu1, hk, hm]
    have HR := Lib.hid hR
    have hk6 : k < 65536 := by omega
    have h6 : 1 < m := by omega
    have HB1 := Lib.hid hB1
    have HPP := Lib.hid (And.intro hm hL)
    clear hL hm hu0 hu1 hk hR hB1 f1
    go_upto_region 4 with fail
    go_wp2
    go_quiet (fail)
    have hb2 := below_drewN hb nq
    have HB2 := Lib.hid (show Bytes (w1.drewN nq) (w1.drewN nq).heap.size (some ⟨b, off, none⟩) m L from HB1.out.drewN nq)
    have HP2 := Lib.hid (own_later H2.out (below_drewN (Below.refl _ _) nq))
    clear hc0 hc1 hki hl0 hl1 HB1 H1 H2 hb
    generalize w1.drewN nq = w2 at *
    by_cases hk1 : k < 1
    · have g1 : ((k : Int) < 1) = True := eq_true (by omega)
      have hRn : R = none := by rw [HR.out, if_pos (.inr (.inl hk1))]
      clear hk1
      go_wp2
      go_ret3
      exact ⟨hb2, .inl ⟨hRn, rfl⟩⟩
    · have g1 : ((k : Int) < 1) = False := eq_false (by omega)
      by_cases hk2 : 4096 < k
      · have g2 : ((4096 : Int) < (k : Int)) = True := eq_true (by omega)
        have hRn : R = none := by rw [HR.out, if_pos (.inr (.inr (.inl hk2)))]
        clear hk1 hk2
        go_wp2
        go_ret3
        exact ⟨hb2, .inl ⟨hRn, rfl⟩⟩
      · have g2 : ((4096 : Int) < (k : Int)) = False := eq_false (by omega)
        by_cases hk3 : m < 6 + k
        · have g3 : ((m : Int) < 6 + (k : Int)) = True := eq_true (by omega)
          have hRn : R = none := by rw [HR.out, if_pos (.inr (.inr (.inr hk3)))]
          clear hk1 hk2 hk3
          go_wp2
          go_ret3
          exact ⟨hb2, .inl ⟨hRn, rfl⟩⟩
        · have g3 : ((m : Int) < 6 + (k : Int)) = False := eq_false (by omega)
          have HR := Lib.hid (show R = if Fra.encL ((L.drop 6).take k) = L.take (6 + k) then some ((L.drop 6).take k, (P.getD (5 + k) (0, 0)).2) else none by rw [HR.out, if_neg (by omega)])
          unfold maxLen at f3
          have g4 : (6 : Int) + (k : Int) ≤ (c1 : Int) := by omega
          have g5 : ¬ c1 = 6 := by omega
          have hd := (HB2.out.cut (k := 6) (cap := c1) (by omega) f2).first (k := k) (by omega)
          rw [if_neg g5, Option.map_some, addr_add] at hd
          have hpq : PcT.Ok w2 w2.heap.size ⟨some ⟨b, off + 6, none⟩, k, c1 - 6, (L.drop 6).take k⟩ := ⟨hd, nofun, by show k ≤ c1 - 6; omega, by unfold maxLen; show c1 - 6 ≤ _; omega⟩
          have hout := Lib.hid (refOut_any (some ⟨b, off + 6, none⟩) k (c1 - 6) w2.heap.size ((L.drop 6).take k) w2 hpq (Nat.le_refl _) (by omega))
          have HPQ := Lib.hid hpq
          obtain ⟨pay, hpay⟩ : ∃ pay, (L.drop 6).take k = pay := ⟨_, rfl⟩
          rw [hpay] at hout HR HPQ
          have hpl : (Fra.encL pay).length = 6 + k := by rw [Fra.encL_len, ← hpay, List.length_take, List.length_drop]; omega
          obtain ⟨E, hE⟩ : ∃ E, Fra.encL pay = E := ⟨_, rfl⟩
          rw [hE] at hout HR hpl
          obtain ⟨y, hy⟩ : ∃ y, 6 + k = y := ⟨_, rfl⟩
          rw [hy] at hpl
          have HR : Hid (R = if E = L.take y then some (pay, (P.getD (5 + k) (0, 0)).2) else none) := by rw [hy] at HR; exact HR
          clear hpq hd hpay hE
          go_upto_region 8 with fail
          rw [show 6 + k - 6 = k by omega]
          go_wp2_with fail
          refine hout.out.mono ?_
          rintro e w3 ⟨A3, n3, c3, rfl, ho3, hb3⟩
          have hn3 : y = n3 := by have := ho3.1; simpa [hpl] using this
          subst hn3
          have HB3 := Lib.hid (Bytes.own ho3)
          have HB4 := Lib.hid ((HB2.out.below hb3).more hb3.size)
          have HPQ3 := Lib.hid ((HPQ.out.later hb3).more hb3.size)
          have hb4 := bel_next hb2 hb3
          have HP3 := Lib.hid (own_later HP2.out hb3)
          have hyb : y ≤ 4102 ∧ y ≤ m := by omega
          have hy5 : 5 + k < m := by omega
          clear hout ho3 hb2 hb3 HB2 HPQ HP2 g1 g2 g3 g4 g5 h6 h7' h7 hy hk1 hk2 hk3
          go_wp2
          go_loopw [12] (fun iv wr => ∃ i : Nat, i ≤ y ∧ iv = .int .i64 i ∧ Hid (E.take i = L.take i) ∧ Below w3.heap.size w3 wr) (fun iv _ => y - (intOf iv).toNat)
          case atStart => exact ⟨0, Nat.zero_le _, rfl, Lib.hid rfl, Below.refl _ _⟩
          case round =>
            obtain ⟨i, hi, rfl, HT, hbr⟩ := hrel
            rename World => wr
            have hi0 : (0 : Int) ≤ (i : Int) := by omega
            by_cases hlt : i < y
            · have hlt1 : (i : Int) < (y : Int) := by omega
              have hlt2 : (i : Int) < (m : Int) := by omega
              obtain ⟨b3, off3, e3, _, hc3⟩ := (HB3.out.below hbr).cell (k := i) hlt
              obtain ⟨b4, off4, e4, _, hc4⟩ := (HB4.out.below hbr).cell (k := i) (by omega)
              injection e4 with e4
              injection e4 with e5 e6
              subst e5 e6
              subst e3
              obtain ⟨u, hu⟩ : ∃ u, E.getD i 0 = u := ⟨_, rfl⟩
              obtain ⟨v, hv⟩ : ∃ v, L.getD i 0 = v := ⟨_, rfl⟩
              rw [show at8 E i = (u.toNat : Int) by unfold at8; rw [hu]] at hc3
              rw [show at8 L i = (v.toNat : Int) by unfold at8; rw [hv]] at hc4
              by_cases huv : u = v
              · subst huv
                have HT2 := Lib.hid (show E.take (i + 1) = L.take (i + 1) by rw [take_snoc E i (by omega), take_snoc L i (by omega), HT.out, hu, hv])
                clear hu hv HT
                go_upto_region 12 with fail
                go_wp2
                go_quiet (fail)
                go_wp2
                have hbr2 := below_drewN hbr nq
                go_roundw
                case rel => exact ⟨i + 1, by omega, by go_num, HT2, hbr2⟩
                case measure => simp [intOf]; omega
              · have hun : ¬ u.toNat = v.toNat := fun h => huv (UInt8.toNat_inj.1 h)
                have hu1 : ((u.toNat : Int) != (v.toNat : Int)) = true := by rw [bne_iff_ne]; omega
                have hu2 : ¬ (u.toNat : Int) = (v.toNat : Int) := by omega
                have hRn : R = none := by
                  rw [HR.out, if_neg]
                  intro h
                  apply huv
                  rw [← hu, ← hv, h, List.getD_eq_getElem?_getD, List.getElem?_take_of_lt (by omega), ← List.getD_eq_getElem?_getD]
                clear hu hv HT huv HR
                go_upto_region 12 with fail
                go_wp2
                go_quiet (fail)
                go_wp2
                go_ret3
                exact ⟨below_drewN (bel_next hb4 hbr) nq, .inl ⟨hRn, rfl⟩⟩
            · obtain rfl : i = y := by omega
              have hET : E = L.take i := by rw [← HT.out, List.take_of_length_le (by omega)]
              have hRs : R = some (pay, (P.getD (5 + k) (0, 0)).2) := by rw [HR.out, if_pos hET]
              obtain ⟨x, hx⟩ : ∃ x, P.getD (5 + k) (0, 0) = x := ⟨_, rfl⟩
              rw [hx] at hRs
              have hPk : P[5 + k]? = some x := by
                rw [List.getElem?_eq_getElem (by rw [HPP.out.1]; exact hy5), ← hx, List.getD_eq_getElem?_getD, List.getElem?_eq_getElem (by rw [HPP.out.1]; exact hy5)]
                rfl
              have hxp := hpos.out x (List.mem_of_getElem? hPk)
              obtain ⟨z, hz⟩ : ∃ z, x.2 - 1 = z := ⟨_, rfl⟩
              have hzb : z ≤ 1000000 := by omega
              obtain ⟨b5, off5, e5, _, hc5⟩ := (Shows.own (own_later HP3.out hbr)).2 (by omega)
              have hc5 := hc5 (5 + k) (placeV x) (by rw [List.getElem?_map, hPk]; rfl)
              rw [show placeV x = .int .i64 (z : Int) by unfold placeV; rw [hz]] at hc5
              subst e5
              have g1 : (5 : Int) + (k : Int) < (m : Int) := by omega
              have g2 : (0 : Int) ≤ 5 + (k : Int) := by omega
              have HRS := Lib.hid (show R = some (pay, z + 1) by rw [hRs, ← hz]; congr 2; omega)
              have HPQ4 := Lib.hid ((HPQ3.out.later hbr).more hbr.size)
              have hb5 := bel_next hb4 hbr
              clear hx hPk hxp hz hRs hET HT HR
              go_upto_region 14 with fail
              go_wp2
              go_quiet (fail)
              go_wp2
              go_ret3
              exact ⟨below_drewN hb5 nq, .inr ⟨⟨some ⟨b, off + 6, none⟩, k, c1 - 6, pay⟩, z + 1, HRS.out, rfl, pc_keep HPQ4.out (Nat.le_refl _) (fun _ _ _ _ _ => rfl)⟩⟩
end Go.Proofs.YtghmehfmchadoaaDoor
