import Derived.Test.YtlknmpnjhbdlhaaDoorGal
import Derived.Deep.CutBlock
import Derived.Test.YtlknmpnjhbdlhaaDoorGak
import Derived.Test.YtlknmpnjhbdlhaaDoorGaj
import Derived.Deep.DeepCutAuto
import Derived.Test.YtlknmpnjhbdlhaaDoorGaf
import Derived.RangeFuncBound
import Derived.RangeFuncCalls
import Derived.RangeFuncLeaves
import Derived.Shelf.Abstract
import Derived.Shelf.RegionOpen
import Derived.OwnWalkIn
import Derived.TacticsInMore
import Derived.LoopNIn
import Derived.LoopIn
import Derived.Stop.RegionWithIn
/-
  Layer 10: the reference's Append.
-/
namespace Go.Proofs.YtlknmpnjhbdlhaaDoor
open Go.RowKit
set_option linter.unusedVariables false

theorem slice_one (A : Option Addr) (n c : Nat) : ∀ u ∈ (#[.slice A n c] : Array Value).toList, u.oneCell' = true := by
  intro u hu
  obtain rfl : u = .slice A n c := by simpa using hu
  rfl
theorem vals_one (L : List PcT) : ∀ u ∈ L.map PcT.val, u.oneCell' = true := by
  intro u hu
  obtain ⟨p, _, rfl⟩ := List.mem_map.1 hu
  rfl
/-- A file behind a piece of its own at the end of a row of its own. -/
theorem grow_lie {W3 w7 w9 w11 : World} {Y : FileT} {A11 A9 A7 : Option Addr} {c11 c9 c7 pn n : Nat} {pl : List UInt8} {t : TypeId} (hL : LieF W3 W3.heap.size Y) (h7 : Below W3.heap.size W3 w7) (h9 : Below w7.heap.size w7 w9)
    (o9 : w9.ownsRow w7.heap.size 5 1 (.slice A9 pn c9) pn (pl.map bv)) (o10 : (w9.alloc (.cells #[.slice A9 pn c9] t)).ownsRow W3.heap.size 34 1 (.slice A7 Y.ln c7) Y.ln (Y.L.map PcT.val))
    (g11 : (w9.alloc (.cells #[.slice A9 pn c9] t)).grownBy w11 (Value.slice A7 Y.ln c7).ownBlock) (b11 : Below W3.heap.size (w9.alloc (.cells #[.slice A9 pn c9] t)) w11)
    (o11 : w11.ownsRow W3.heap.size 34 1 (.slice A11 (Y.ln + 1) c11) (Y.ln + 1) (Y.L.map PcT.val ++ (#[.slice A9 pn c9] : Array Value).toList)) (hn : n < W3.heap.size) (ha : AwayF Y n) (u : Value) :
    LieF (w11.setCell ⟨n, 1, none⟩ u) (w11.setCell ⟨n, 1, none⟩ u).heap.size ⟨Y.F, A11, Y.ln + 1, c11, Y.L ++ [⟨A9, pn, c9, pl⟩], Y.fuse, Y.fault, Y.off⟩ ∧
      ∀ g, g < W3.heap.size → AwayF Y g → AwayF ⟨Y.F, A11, Y.ln + 1, c11, Y.L ++ [⟨A9, pn, c9, pl⟩], Y.fuse, Y.fault, Y.off⟩ g := by
  have hs7 := h7.size
  have hbl := bel_alloc (Below.refl w9.heap.size w9) (.cells #[.slice A9 pn c9] t)
  have o9' := own_later o9 hbl
  have hne : (Value.slice A9 pn c9).ownBlock = none ∨ (Value.slice A9 pn c9).ownBlock ≠ (Value.slice A7 Y.ln c7).ownBlock := by
    rcases o9'.2 with ⟨e, _⟩ | ⟨g, cap, cur, e, _, hg, _⟩
    · rw [e]; exact .inl rfl
    · rw [e]
      exact .inr (own_blk_ne o10 hg (by decide))
  have p9 := o9'.kept g11 hne
  have q9 := ownsRow_setCell_below p9 (show (⟨n, 1, none⟩ : Addr).block < _ by show n < _; omega) u
  have q11 := ownsRow_setCell_below o11 (show (⟨n, 1, none⟩ : Addr).block < _ by show n < _; exact hn) u
  have hb : Below W3.heap.size W3 w11 := (bel_alloc (h7.trans (h9.mono hs7)) (.cells #[.slice A9 pn c9] t)).trans b11
  have hL2 := ((hL.later hb).more hb.size).setAway ha 1 u
  obtain ⟨r1, r2, r3⟩ := own_facts q11
  obtain ⟨s1, s2, s3⟩ := own_facts q9
  have hsz : (w11.setCell ⟨n, 1, none⟩ u).heap.size = w11.heap.size := size_set _ _ _
  refine ⟨⟨?_, ?_, ?_, r1, r2, r3, hL.fuse, hL.fault⟩, fun g hg h => ⟨h.firm, own_away o11 hg, ?_⟩⟩
  · rw [hsz]; exact hL2.firm
  · have h := Shows.own q11
    show Shows _ _ 1 A11 (Y.ln + 1) ((Y.L ++ [(⟨A9, pn, c9, pl⟩ : PcT)]).map PcT.val)
    rw [List.map_append]
    exact h
  · intro q hq
    rcases List.mem_append.1 hq with h | h
    · rw [hsz]; exact hL2.loose q h
    · obtain rfl := List.mem_singleton.1 h
      exact ⟨Bytes.own q9, s1, s2, s3⟩
  · intro q hq
    rcases List.mem_append.1 hq with h' | h'
    · exact h.loose q h'
    · obtain rfl := List.mem_singleton.1 h'
      exact own_away p9 (by omega)
set_option maxRecDepth 20000 in
set_option maxHeartbeats 4000000 in
theorem refAppend_any (X : FileT) (p : PcT) (B : Nat) (w : World) (hL : LieF w B X) (hp : p.Ok w B) (hB : B ≤ w.heap.size) (hr : X.right = true) (hpn : p.n ≤ 1048576) :
    Calls Tryd.prog 19 #[X.agg, p.val] w (OpP X (fun _ => True) (X.s.append X.long p.l) w) := by
  rw [show X.s.append X.long p.l = (if (X.s.asked X.long p.n).2 = 0 then ({ (X.s.asked X.long p.n).1 with loose := X.s.loose ++ [p.l] }, 0) else X.s.asked X.long p.n) by unfold FileS.append; rw [hp.len]]
  obtain ⟨out, hout⟩ : ∃ out, (if (X.s.asked X.long p.n).2 = 0 then ({ (X.s.asked X.long p.n).1 with loose := X.s.loose ++ [p.l] }, 0) else X.s.asked X.long p.n) = out := ⟨_, rfl⟩
  have Hout := Lib.hid hout
  rw [hout]
  clear hout
  have hAs := Lib.hid (fun W (h : Below w.heap.size w W) => refAsked_any X p.n B W hpn (hL.later (h.mono hB)) (Nat.le_trans hB h.size) hr)
  simp only [FileT.agg, PcT.val] at hAs ⊢
  have HL := Lib.hid (hL.more hB)
  have Hr := Lib.hid (show X.s.right = true by rw [← right_s hL]; exact hr)
  have Hlo := Lib.hid (show X.long = X.s.all.length from long_s hL hr)
  have hb := bel_alloc (bel_alloc (Below.refl w.heap.size w) (.cells #[.slice X.F.A X.F.n X.F.c, .slice X.lA X.ln X.lc, .int .i64 X.fuse, .int .i64 X.fault, .bool X.off] 37)) (.cells #[.slice none 0 0, .slice none 0 0, .int .i64 0, .int .i64 0, .bool false] 37)
  have HV := Lib.hid ((FVar.new w (.slice X.F.A X.F.n X.F.c) (.slice X.lA X.ln X.lc) (.int .i64 X.fuse) (.int .i64 X.fault) (.bool X.off) 37).lay (.cells #[.slice none 0 0, .slice none 0 0, .int .i64 0, .int .i64 0, .bool false] 37))
  have hR := FVar.new (w.alloc (.cells #[.slice X.F.A X.F.n X.F.c, .slice X.lA X.ln X.lc, .int .i64 X.fuse, .int .i64 X.fault, .bool X.off] 37)) (.slice none 0 0) (.slice none 0 0) (.int .i64 0) (.int .i64 0) (.bool false) 37
  rw [World.size_alloc] at hR
  have HR := Lib.hid hR
  have hn2 : w.heap.size + 2 ≤ ((w.alloc (.cells #[.slice X.F.A X.F.n X.F.c, .slice X.lA X.ln X.lc, .int .i64 X.fuse, .int .i64 X.fault, .bool X.off] 37)).alloc (.cells #[.slice none 0 0, .slice none 0 0, .int .i64 0, .int .i64 0, .bool false] 37)).heap.size := by rw [World.size_alloc, World.size_alloc]; omega
  have HP := Lib.hid (fun W (h : Below w.heap.size w W) => (hp.later (h.mono hB)))
  clear hR hL hr hp
  go_enter Tryd.func19, Tryd.ntmps19
  obtain ⟨⟨f0, f1, f2, f3, f4⟩, k0, k1, k2, k3, k4⟩ := HV.out
  obtain ⟨⟨j0, j1, j2, j3, j4⟩, m0, m1, m2, m3, m4⟩ := HR.out
  go_wp2_with fail
  generalize (w.alloc (.cells #[.slice X.F.A X.F.n X.F.c, .slice X.lA X.ln X.lc, .int .i64 X.fuse, .int .i64 X.fault, .bool X.off] 37)).alloc (.cells #[.slice none 0 0, .slice none 0 0, .int .i64 0, .int .i64 0, .bool false] 37) = W1 at *
  refine (hAs.out _ hb).mono ?_
  rintro e W2 ⟨Y, rfl, hYs, hYL, hb2, haw⟩
  clear f0 f1 f2 f3 f4 k0 k1 k2 k3 k4 j0 j1 j2 j3 j4 m0 m1 m2 m3 m4
  have HV := Lib.hid (HV.out.later hb2)
  have HR := Lib.hid (HR.out.later hb2)
  have ha0 := haw w.heap.size (by omega) (HL.out.away (Nat.le_refl _)) trivial
  have ha1 := Lib.hid (haw (w.heap.size + 1) (by omega) (HL.out.away (Nat.le_succ _)) trivial)
  have HAw := Lib.hid (show ∀ g, g < w.heap.size → AwayF X g → AwayF Y g from fun g hg ha => haw g (by omega) ha trivial)
  have hs2 := hb2.size
  have hn3 : w.heap.size + 2 ≤ (set5F W2 w.heap.size (.slice Y.F.A Y.F.n Y.F.c) (.slice Y.lA Y.ln Y.lc) (.int .i64 Y.fuse) (.int .i64 Y.fault) (.bool Y.off)).heap.size := by rw [size_set5]; omega
  have hb := fbelow_set5 (a := .slice Y.F.A Y.F.n Y.F.c) (b := .slice Y.lA Y.ln Y.lc) (c := .int .i64 Y.fuse) (d := .int .i64 Y.fault) (e := .bool Y.off) (bel_next hb hb2) (Nat.le_refl w.heap.size)
  have hL3 := lie_res (a := .slice Y.F.A Y.F.n Y.F.c) (b := .slice Y.lA Y.ln Y.lc) (c := .int .i64 Y.fuse) (d := .int .i64 Y.fault) (e := .bool Y.off) hYL ha0
  have hV3 := FVar.set5 (a' := .slice Y.F.A Y.F.n Y.F.c) (b' := .slice Y.lA Y.ln Y.lc) (c' := .int .i64 Y.fuse) (d' := .int .i64 Y.fault) (e' := .bool Y.off) HV.out
  have hR3 := FVar.other5 (g := w.heap.size) (a' := .slice Y.F.A Y.F.n Y.F.c) (b' := .slice Y.lA Y.ln Y.lc) (c' := .int .i64 Y.fuse) (d' := .int .i64 Y.fault) (e' := .bool Y.off) (show w.heap.size + 1 ≠ w.heap.size by omega) HR.out
  have HV := Lib.hid HV.out
  obtain ⟨⟨f0, f1, f2, f3, f4⟩, k0, k1, k2, k3, k4⟩ := HV.out
  obtain ⟨⟨j0, j1, j2, j3, j4⟩, m0, m1, m2, m3, m4⟩ := HR.out
  unfold set5F at hL3 hV3 hR3 hn3
  have HL3 := Lib.hid hL3
  have HYs := Lib.hid hYs
  have ha0 := Lib.hid ha0
  clear hL3 hYs hYL haw hAs hb2 hs2 hn2
  simp only [FileT.agg, PcT.val]
  go_upto_region 2 with fail
  clear f0 f1 f2 f3 f4 k0 k1 k2 k3 k4 j0 j1 j2 j3 j4 m0 m1 m2 m3 m4
  clear HV HR
  have HV := Lib.hid hV3
  have HR := Lib.hid hR3
  clear hV3 hR3
  generalize (((((W2.setCell ⟨w.heap.size, 0, none⟩ (.slice Y.F.A Y.F.n Y.F.c)).setCell ⟨w.heap.size, 1, none⟩ (.slice Y.lA Y.ln Y.lc)).setCell ⟨w.heap.size, 2, none⟩ (.int .i64 Y.fuse)).setCell ⟨w.heap.size, 3, none⟩ (.int .i64 Y.fault)).setCell ⟨w.heap.size, 4, none⟩ (.bool Y.off)) = W3 at *
  obtain ⟨⟨f0, f1, f2, f3, f4⟩, k0, k1, k2, k3, k4⟩ := HV.out
  obtain ⟨⟨j0, j1, j2, j3, j4⟩, m0, m1, m2, m3, m4⟩ := HR.out
  by_cases hz : (X.s.asked X.long p.n).2 = 0
  · have hz' : ((X.s.asked X.long p.n).2 == 0) = true := beq_iff_eq.2 hz
    have HO := Lib.hid (show out = ({ (X.s.asked X.long p.n).1 with loose := X.s.loose ++ [p.l] }, 0) from Hout.out.symm.trans (if_pos hz))
    obtain ⟨iP, hiP, hzP, hsP, hbP⟩ := slice_info
    obtain ⟨i0, hi, hz0, hz1, hz2⟩ := u8_info
    have Hfu := Lib.hid (And.intro HL3.out.fuse HL3.out.fault)
    have Hsame := Lib.hid (asked_same X.s X.long p.n)
    have HrA := Lib.hid (show (X.s.asked X.long p.n).1.right = true by rw [Hlo.out]; exact asked_right Hr.out p.n)
    generalize (X.s.asked X.long p.n) = ask at *
    have Hz := Lib.hid hz
    clear hz
    go_upto_region 4 with fail
    have hn0 := World.ownsRow_nil W3 W3.heap.size 34 1
    have hs0 := HL3.out.row
    have hln5 : Y.ln ≤ 524288 := (right_rows HL3.out (by rw [right_s HL3.out, HYs.out]; exact HrA.out)).2.2
    have h63 : 0 + Y.ln ≤ maxLen := by unfold maxLen; omega
    have hbt : (0 + Y.ln) * 24 ≤ 140737488355328 := by omega
    have hq63 : 0 + p.n ≤ maxLen := by unfold maxLen; omega
    have hqbt : (0 + p.n) * 1 ≤ 140737488355328 := by omega
    have hr63 : Y.ln + 1 ≤ maxLen := by unfold maxLen; omega
    have hrbt : (Y.ln + 1) * 24 ≤ 140737488355328 := by omega
    have HbS := Lib.hid hb.size
    go_upto_region 6 with (at_builtin; first | (refine wpList_append_shows _ rfl _ _ 35 rfl W3.heap.size 34 iP (.slice none 0 0) 1 24 Tryd.underlying35 hiP hzP hsP hbP rfl (by decide) _ _ _ rfl hn0 _ _ Y.ln _ (Y.L.map PcT.val) rfl hs0 (vals_one _) h63 hbt (Nat.le_refl _) ?_; intro A7 c7 w7 hown7 hgrow7 hb7; rw [Nat.zero_add, List.nil_append] at hown7; have HO7 := Lib.hid hown7; have hb8 := bel_alloc (bel_next hb hb7) (.cells #[] 5); have hp8 := (HP.out _ hb8).here; have hn8 := World.ownsRow_made (e := 5) (size := 1) (base := w7.heap.size) w7 #[] 0 (Nat.le_refl _) (Nat.zero_le _) rfl; have hs8 : w7.heap.size ≤ (w7.alloc (.cells #[] 5)).heap.size := (by rw [World.size_alloc]; omega); clear hown7 hgrow7 hn0 hs0 h63 hbt) | (refine wpList_append_shows _ rfl _ _ 34 rfl w7.heap.size 5 i0 (.int .u8 0) 1 1 Tryd.underlying34 hi hz0 hz1 hz2 rfl (by decide) _ _ _ rfl hn8 B _ p.n _ (p.l.map bv) rfl hp8 (bv_one _) hq63 hqbt hs8 ?_; intro A9 c9 w9 hown9 hgrow9 hb9; rw [Nat.zero_add, List.nil_append] at hown9; have HO9 := Lib.hid hown9; have hx9 : Below w7.heap.size w7 w9 := (bel_alloc (Below.refl _ _) (.cells #[] 5)).trans hb9; have hx10 := bel_alloc hx9 (.cells #[.slice A9 p.n c9] 34); have hn10 := own_later HO7.out hx10; have HO10 := Lib.hid hn10; have hs10 := shows_new' w9 #[.slice A9 p.n c9] 34 1 1 rfl; have hz10 : W3.heap.size ≤ (w9.alloc (.cells #[.slice A9 p.n c9] 34)).heap.size := (Nat.le_trans hb7.size hx10.size); clear hown9 hgrow9 hn8 hp8 hs8 hb8) | (refine wpList_append_shows _ rfl _ _ 35 rfl W3.heap.size 34 iP (.slice none 0 0) 1 24 Tryd.underlying35 hiP hzP hsP hbP rfl (by decide) _ _ _ rfl hn10 _ _ 1 _ _ rfl hs10 (slice_one _ _ _) hr63 hrbt hz10 ?_; intro A11 c11 w11 hown11 hgrow11 hb11; have HO11 := Lib.hid hown11; have HG11 := Lib.hid hgrow11; have HB11 := Lib.hid hb11; have hx11 := Below.trans (bel_alloc (bel_next (bel_next hb hb7) hx9) (.cells #[.slice A9 p.n c9] 34)) (hb11.mono HbS.out); have HV := Lib.hid (HV.out.later ((hb7.trans (hx10.mono hb7.size)).trans hb11)); have HR := Lib.hid (HR.out.later ((hb7.trans (hx10.mono hb7.size)).trans hb11)); clear hown11 hgrow11 hn10 hs10 hz10 f0 f1 f2 f3 f4 k0 k1 k2 k3 k4 j0 j1 j2 j3 j4 m0 m1 m2 m3 m4; obtain ⟨⟨f0, f1, f2, f3, f4⟩, k0, k1, k2, k3, k4⟩ := HV.out; obtain ⟨⟨j0, j1, j2, j3, j4⟩, m0, m1, m2, m3, m4⟩ := HR.out))
    clear f0 f1 f2 f3 f4 k0 k1 k2 k3 k4 j0 j1 j2 j3 j4 m0 m1 m2 m3 m4
    obtain ⟨hL12, haw12⟩ := grow_lie HL3.out hb7 hx9 HO9.out HO10.out HG11.out HB11.out HO11.out (n := w.heap.size) (by omega) ha0.out (.slice A11 (Y.ln + 1) c11)
    have HV := Lib.hid (HV.out.set1 (.slice A11 (Y.ln + 1) c11))
    have HR := Lib.hid (HR.out.other (g := w.heap.size) (i := 1) (.slice A11 (Y.ln + 1) c11) (show w.heap.size + 1 ≠ w.heap.size by omega))
    have hb := Below.setCell hx11 (p := ⟨w.heap.size, 1, none⟩) (Nat.le_refl w.heap.size) (.slice A11 (Y.ln + 1) c11)
    generalize w11.setCell ⟨w.heap.size, 1, none⟩ (.slice A11 (Y.ln + 1) c11) = W12 at *
    have hbe := fbelow_set5 (a := .slice Y.F.A Y.F.n Y.F.c) (b := .slice A11 (Y.ln + 1) c11) (c := .int .i64 Y.fuse) (d := .int .i64 Y.fault) (e := .bool Y.off) hb (show w.heap.size ≤ w.heap.size + 1 by omega)
    have hLe := Lib.hid (lie_res (a := .slice Y.F.A Y.F.n Y.F.c) (b := .slice A11 (Y.ln + 1) c11) (c := .int .i64 Y.fuse) (d := .int .i64 Y.fault) (e := .bool Y.off) hL12 (haw12 (w.heap.size + 1) (by omega) ha1.out))
    have HAw2 := Lib.hid (show ∀ g, g < w.heap.size → AwayF X g → True → AwayF ⟨Y.F, A11, Y.ln + 1, c11, Y.L ++ [⟨A9, p.n, c9, p.l⟩], Y.fuse, Y.fault, Y.off⟩ g from fun g hg h _ => haw12 g (by omega) (HAw.out g hg h))
    have HS := Lib.hid (show FileT.s ⟨Y.F, A11, Y.ln + 1, c11, Y.L ++ [⟨A9, p.n, c9, p.l⟩], Y.fuse, Y.fault, Y.off⟩ = out.1 by
      rw [HO.out, ← HYs.out]
      show FileS.mk Y.F.l ((Y.L ++ [(⟨A9, p.n, c9, p.l⟩ : PcT)]).map PcT.l) Y.fuse Y.fault Y.off = _
      rw [List.map_append]
      have e : Y.s.loose = X.s.loose := by rw [HYs.out]; exact Hsame.out.2
      rw [← e]
      rfl)
    have Ho2 := Lib.hid (show out.2 = 0 by rw [HO.out])
    clear hL12 haw12 hb hb7 hx9 hx10 hx11 hb9 hb11 HO7 HO9 HO10 HO11 HG11 HB11 HAw hq63 hqbt hr63 hrbt hln5
    obtain ⟨⟨f0, f1, f2, f3, f4⟩, k0, k1, k2, k3, k4⟩ := HV.out
    obtain ⟨⟨j0, j1, j2, j3, j4⟩, m0, m1, m2, m3, m4⟩ := HR.out
    go_wp2
    (try rw [Exit.noGoto_ret])
    refine bodyPost_ret (v := .tuple #[.agg #[.slice Y.F.A Y.F.n Y.F.c, .slice A11 (Y.ln + 1) c11, .int .i64 Y.fuse, .int .i64 Y.fault, .bool Y.off], .int .i64 ask.2]) ?_ rfl ⟨_, by rw [Ho2.out, Hz.out]; rfl, HS.out, hLe.out, hbe, HAw2.out⟩
    simp [results, Tryd.results19, go_sem, *]
  · have hz' : ((X.s.asked X.long p.n).2 == 0) = false := beq_eq_false_iff_ne.2 hz
    have HO := Lib.hid (show out = X.s.asked X.long p.n from Hout.out.symm.trans (if_neg hz))
    generalize (X.s.asked X.long p.n) = ask at *
    clear hz
    have hbe := fbelow_set5 (a := .slice Y.F.A Y.F.n Y.F.c) (b := .slice Y.lA Y.ln Y.lc) (c := .int .i64 Y.fuse) (d := .int .i64 Y.fault) (e := .bool Y.off) hb (show w.heap.size ≤ w.heap.size + 1 by omega)
    have hLe := Lib.hid (lie_res (a := .slice Y.F.A Y.F.n Y.F.c) (b := .slice Y.lA Y.ln Y.lc) (c := .int .i64 Y.fuse) (d := .int .i64 Y.fault) (e := .bool Y.off) HL3.out ha1.out)
    have HAw2 := Lib.hid (show ∀ g, g < w.heap.size → AwayF X g → True → AwayF Y g from fun g hg ha _ => HAw.out g hg ha)
    clear hb HL3 HAw
    go_wp2
    (try rw [Exit.noGoto_ret])
    refine bodyPost_ret (v := .tuple #[.agg #[.slice Y.F.A Y.F.n Y.F.c, .slice Y.lA Y.ln Y.lc, .int .i64 Y.fuse, .int .i64 Y.fault, .bool Y.off], .int .i64 ask.2]) ?_ rfl ⟨Y, by rw [HO.out]; rfl, by rw [HO.out]; exact HYs.out, hLe.out, hbe, HAw2.out⟩
    simp [results, Tryd.results19, go_sem, *]
end Go.Proofs.YtlknmpnjhbdlhaaDoor
/-
  Layer 10: own.
-/
namespace Go.Proofs.YtlknmpnjhbdlhaaDoor
open Go.RowKit
set_option linter.unusedVariables false

/-- Rows of one's own, as made. -/
def OwnR (W : World) (D : Nat) (L : List PcT) : Prop := ∀ p ∈ L, W.ownsRow D 5 1 (.slice p.A p.n p.c) p.n (p.l.map bv)
theorem OwnR.later {W W' : World} {D : Nat} {L : List PcT} (h : OwnR W D L) (hb : Below W.heap.size W W') : OwnR W' D L := fun p hp => own_later (h p hp) hb
theorem OwnR.base {W : World} {D D' : Nat} {L : List PcT} (h : OwnR W D L) (hb : D' ≤ D) : OwnR W D' L := fun p hp => own_base (h p hp) hb
theorem OwnR.snoc {W : World} {D : Nat} {L : List PcT} {p : PcT} (h : OwnR W D L) (hp : W.ownsRow D 5 1 (.slice p.A p.n p.c) p.n (p.l.map bv)) : OwnR W D (L ++ [p]) := fun q hq => by
  rcases List.mem_append.1 hq with h' | h'
  · exact h q h'
  · obtain rfl := List.mem_singleton.1 h'
    exact hp
theorem OwnR.grown {W W' : World} {D E n : Nat} {L : List PcT} {v : Value} {xs : List Value} (h : OwnR W D L) (ho : W.ownsRow E 34 1 v n xs) (hg : W.grownBy W' v.ownBlock) : OwnR W' D L := fun p hp => by
  have h2 := h p hp
  refine h2.kept hg ?_
  rcases h2.2 with ⟨e, _⟩ | ⟨g, cap, cur, e, _, hh, _⟩
  · rw [e]; exact .inl rfl
  · rw [e]
    exact .inr (own_blk_ne ho hh (by decide))
theorem OwnR.setBelow {W : World} {D : Nat} {L : List PcT} (h : OwnR W D L) {a : Addr} (ha : a.block < D) (u : Value) : OwnR (W.setCell a u) D L := fun p hp => ownsRow_setCell_below (h p hp) ha u
theorem own_lie {W : World} {D c n : Nat} {A : Option Addr} {L : List PcT} {p : PcT} {fu fa : Int} {of : Bool} (hp : W.ownsRow D 5 1 (.slice p.A p.n p.c) p.n (p.l.map bv)) (hr : W.ownsRow D 34 1 (.slice A n c) n (L.map PcT.val)) (hL : OwnR W D L) (hu : (Lit.int .i64 fu).wf = true) (ha : (Lit.int .i64 fa).wf = true) :
    LieF W W.heap.size ⟨p, A, n, c, L, fu, fa, of⟩ ∧ ∀ g, g < D → AwayF ⟨p, A, n, c, L, fu, fa, of⟩ g := by
  obtain ⟨r1, r2, r3⟩ := own_facts hr
  obtain ⟨s1, s2, s3⟩ := own_facts hp
  refine ⟨⟨⟨Bytes.own hp, s1, s2, s3⟩, Shows.own hr, fun q hq => ?_, r1, r2, r3, hu, ha⟩, fun g hg => ⟨own_away hp hg, own_away hr hg, fun q hq => own_away (hL q hq) hg⟩⟩
  obtain ⟨q1, q2, q3⟩ := own_facts (hL q hq)
  exact ⟨Bytes.own (hL q hq), q1, q2, q3⟩
end Go.Proofs.YtlknmpnjhbdlhaaDoor
/-
  Layer 10, plain: a loss of power byte by byte, as the document walks it.
-/
namespace Go.Proofs.YtlknmpnjhbdlhaaDoor
open Go.RowKit
set_option linter.unusedVariables false

section
variable (l : List UInt8) (i : Nat) (keep : List Bool) (tear cut : Int)
theorem mask_get {k : Nat} {x : UInt8} (hk : l[k]? = some x) : (maskP l i keep tear cut)[k]? = some (if k < survN l i keep tear cut then x else 0) := by
  have hkl := (List.getElem?_eq_some_iff.1 hk).1
  have hs := survN_le l i keep tear cut
  unfold maskP zerosU
  by_cases h : k < survN l i keep tear cut
  · rw [List.getElem?_append_left (by rw [List.length_take]; omega), List.getElem?_take, if_pos h, if_pos h, hk]
  · rw [List.getElem?_append_right (by rw [List.length_take]; omega), List.length_take, List.getElem?_replicate, if_pos (by omega), if_neg h]
theorem mask_yes {k : Nat} {x : UInt8} (hk : l[k]? = some x) (h : k < survN l i keep tear cut) : (maskP l i keep tear cut).take (k + 1) = (maskP l i keep tear cut).take k ++ [x] := by
  rw [List.take_add_one, mask_get l i keep tear cut hk, if_pos h]
  rfl
theorem mask_no {k : Nat} {x : UInt8} (hk : l[k]? = some x) (h : ¬ k < survN l i keep tear cut) : (maskP l i keep tear cut).take (k + 1) = (maskP l i keep tear cut).take k ++ [0] := by
  rw [List.take_add_one, mask_get l i keep tear cut hk, if_neg h]
  rfl
theorem mask_all : (maskP l i keep tear cut).take l.length = maskP l i keep tear cut := List.take_of_length_le (by rw [mask_len]; exact Nat.le_refl _)
end
/-- The end behind so many bytes of a piece of which so many stay. -/
def endK (s a e k : Nat) : Nat := if 0 < min k s then a + min k s else e
theorem endK_0 (s a e : Nat) : endK s a e 0 = e := by unfold endK; rw [Nat.zero_min]; rfl
theorem endK_yes {s a e k : Nat} (h : k < s) : endK s a e (k + 1) = a + k + 1 := by unfold endK; rw [if_pos (by omega)]; omega
theorem endK_no {s a e k : Nat} (h : ¬ k < s) : endK s a e (k + 1) = endK s a e k := by
  unfold endK
  rw [show min (k + 1) s = min k s by omega]
theorem endK_all {s a e n : Nat} (h : s ≤ n) : endK s a e n = if 0 < s then a + s else e := by unfold endK; rw [Nat.min_eq_right h]
theorem endK_le {s a e k : Nat} (h : e ≤ a) : endK s a e k ≤ a + k := by unfold endK; split <;> omega
theorem set_mid {α : Type} (P R : List α) (x v : α) : (P ++ x :: R).set P.length v = P ++ v :: R := by
  induction P with
  | nil => rfl
  | cons p P ih => rw [List.cons_append, List.length_cons, List.set_cons_succ, ih, List.cons_append]
theorem all_step {w : World} {B : Nat} {X : FileT} (hL : LieF w B X) {i : Nat} {p : PcT} (hp : X.L[i]? = some p) : X.all.drop (X.F.n + sumN (X.L.take i)) = p.l ++ X.all.drop (X.F.n + sumN (X.L.take (i + 1))) := by
  have e1 : (joinP (X.L.take i)).length = sumN (X.L.take i) := sumN_len (w := w) (B := B) (fun q hq => hL.loose q (List.mem_of_mem_take hq))
  have e2 : (joinP (X.L.take (i + 1))).length = sumN (X.L.take (i + 1)) := sumN_len (w := w) (B := B) (fun q hq => hL.loose q (List.mem_of_mem_take hq))
  have hj : ∀ n, joinP X.L = joinP (X.L.take n) ++ joinP (X.L.drop n) := fun n => by rw [← joinP_append, List.take_append_drop]
  have d : ∀ n, (joinP (X.L.take n)).length = sumN (X.L.take n) → X.all.drop (X.F.n + sumN (X.L.take n)) = joinP (X.L.drop n) := fun n hn => by
    unfold FileT.all
    rw [hj n, ← List.append_assoc]
    exact List.drop_left' (by rw [List.length_append, hL.firm.len, hn])
  rw [d i e1, d (i + 1) e2]
  have h3 : X.L.drop i = p :: X.L.drop (i + 1) := by
    obtain ⟨h, he⟩ := List.getElem?_eq_some_iff.1 hp
    rw [List.drop_eq_getElem_cons h, he]
  rw [h3, joinP_cons]
theorem all_start {w : World} {B : Nat} {X : FileT} (hL : LieF w B X) : X.all = X.F.l ++ X.all.drop (X.F.n + sumN (X.L.take 0)) := by
  have h : X.all.drop (X.F.n + sumN (X.L.take 0)) = joinP X.L := by
    unfold FileT.all
    rw [List.take_zero]
    exact List.drop_left' (by rw [hL.firm.len]; rfl)
  rw [h]
  rfl
theorem mask_step {keep : List Bool} {tear cut : Int} {L : List PcT} {i : Nat} {p : PcT} {M R : List UInt8} (hp : L[i]? = some p) (h : maskGo keep tear cut ((L.drop i).map (·.l)) i M = R) : maskGo keep tear cut ((L.drop (i + 1)).map (·.l)) (i + 1) (M ++ maskP p.l i keep tear cut) = R := by
  obtain ⟨hi, he⟩ := List.getElem?_eq_some_iff.1 hp
  rw [List.drop_eq_getElem_cons hi, he, List.map_cons] at h
  exact h
theorem end_step {keep : List Bool} {tear cut : Int} {L : List PcT} {i a e E : Nat} {p : PcT} (hp : L[i]? = some p) (hl : p.l.length = p.n) (h : endGo keep tear cut ((L.drop i).map (·.l)) i a e = E) : endGo keep tear cut ((L.drop (i + 1)).map (·.l)) (i + 1) (a + p.n) (endK (survN p.l i keep tear cut) a e p.n) = E := by
  obtain ⟨hi, he⟩ := List.getElem?_eq_some_iff.1 hp
  rw [List.drop_eq_getElem_cons hi, he, List.map_cons] at h
  have h2 : endGo keep tear cut ((L.drop (i + 1)).map (·.l)) (i + 1) (a + p.l.length) (if 0 < survN p.l i keep tear cut then a + survN p.l i keep tear cut else e) = E := h
  rw [endK_all (by rw [← hl]; exact survN_le _ _ _ _ _), ← hl]
  exact h2
/-- What both come to. -/
theorem crash_doc (X : FileT) (keep : List Bool) (tear cut : Int) : (X.s.crash keep tear cut).firm = (maskGo keep tear cut ((X.L.drop 0).map (·.l)) 0 X.F.l).take (endGo keep tear cut ((X.L.drop 0).map (·.l)) 0 X.F.l.length X.F.l.length) :=
  crash_is keep tear cut X.s.loose 0 X.F.l.length X.F.l.length X.F.l X.F.l rfl ⟨rfl, by rw [Nat.sub_self]; unfold zerosU; rw [List.replicate_zero, List.append_nil], Nat.le_refl _⟩
end Go.Proofs.YtlknmpnjhbdlhaaDoor
/-
  Layer 10: a deed done and what it comes to, of any file.
-/
namespace Go.Proofs.YtlknmpnjhbdlhaaDoor
open Go.RowKit
set_option linter.unusedVariables false

/-- What a deed comes to, of a file that may be or not. -/
def outB (X : FileT) (x : DeedT) : FileS × Int := if X.right = true then doS X.s X.long x else (X.s, 200)
end Go.Proofs.YtlknmpnjhbdlhaaDoor
/-
  Layer 10, plain: what a deed comes to hangs on what the file is, not on where it lies.
-/
namespace Go.Proofs.YtlknmpnjhbdlhaaDoor
open Go.RowKit
set_option linter.unusedVariables false

theorem outB_same {w : World} {B D : Nat} {X Y : FileT} (hX : LieF w B X) (hY : LieF w D Y) (h : Y.s = X.s) (x : DeedT) : outB Y x = outB X x := by
  have hr : Y.right = X.right := by rw [right_s hX, right_s hY, h]
  unfold outB
  rw [hr, h]
  by_cases hx : X.right = true
  · rw [if_pos hx, if_pos hx, long_s hX hx, long_s hY (hr.trans hx), h]
  · rw [if_neg hx, if_neg hx]
/-- Its rows are short. -/
def Short (X : FileT) : Prop := (∀ p ∈ X.Q, p.n ≤ 1048576) ∧ X.ln ≤ 1048576
theorem short_right {w : World} {B : Nat} {X : FileT} (h : LieF w B X) (hr : X.right = true) : Short X := by
  obtain ⟨h1, _, h3⟩ := right_rows h hr
  exact ⟨h1, by omega⟩
/-- A deed that was no error leaves a file that may be. -/
theorem outB_right {w w' : World} {B D N : Nat} {X Y : FileT} {x : DeedT} (hX : LieF w B X) (hx : x.Ok w B N) (hY : LieF w' D Y) (h : Y.s = (outB X x).1) (hk : (outB X x).2 ≠ 200) : Y.right = true := by
  by_cases hr : X.right = true
  · rw [show outB X x = doS X.s X.long x from if_pos hr, long_s hX hr] at h
    rw [right_s hY, h]
    exact doS_right (by rw [← right_s hX]; exact hr) x hx.bytes.len
  · rw [show outB X x = (X.s, 200) from if_neg hr] at hk
    exact absurd rfl hk
theorem two_done' {w V : World} {g h : Nat} {Y Z : FileT} {a b c d e a' b' c' d' e' : Value} (hX : FVar V g a b c d e) (hT : FVar V h a' b' c' d' e') (hY : LieF V V.heap.size Y) (hZ : LieF V V.heap.size Z) (hYg : AwayF Y g) (hYh : AwayF Y h) (hZg : AwayF Z g) (hZh : AwayF Z h) (hne : g ≠ h)
    (hb : Below w.heap.size w V) (hg : w.heap.size ≤ g) (hh : w.heap.size ≤ h) (hgs : g < V.heap.size) (hhs : h < V.heap.size) :
    FAt (set5F (set5F V g (.slice Y.F.A Y.F.n Y.F.c) (.slice Y.lA Y.ln Y.lc) (.int .i64 Y.fuse) (.int .i64 Y.fault) (.bool Y.off)) h (.slice Z.F.A Z.F.n Z.F.c) (.slice Z.lA Z.ln Z.lc) (.int .i64 Z.fuse) (.int .i64 Z.fault) (.bool Z.off)) g Y ∧
    FAt (set5F (set5F V g (.slice Y.F.A Y.F.n Y.F.c) (.slice Y.lA Y.ln Y.lc) (.int .i64 Y.fuse) (.int .i64 Y.fault) (.bool Y.off)) h (.slice Z.F.A Z.F.n Z.F.c) (.slice Z.lA Z.ln Z.lc) (.int .i64 Z.fuse) (.int .i64 Z.fault) (.bool Z.off)) h Z ∧
    Below w.heap.size w (set5F (set5F V g (.slice Y.F.A Y.F.n Y.F.c) (.slice Y.lA Y.ln Y.lc) (.int .i64 Y.fuse) (.int .i64 Y.fault) (.bool Y.off)) h (.slice Z.F.A Z.F.n Z.F.c) (.slice Z.lA Z.ln Z.lc) (.int .i64 Z.fuse) (.int .i64 Z.fault) (.bool Z.off)) ∧
    g < (set5F (set5F V g (.slice Y.F.A Y.F.n Y.F.c) (.slice Y.lA Y.ln Y.lc) (.int .i64 Y.fuse) (.int .i64 Y.fault) (.bool Y.off)) h (.slice Z.F.A Z.F.n Z.F.c) (.slice Z.lA Z.ln Z.lc) (.int .i64 Z.fuse) (.int .i64 Z.fault) (.bool Z.off)).heap.size ∧
    h < (set5F (set5F V g (.slice Y.F.A Y.F.n Y.F.c) (.slice Y.lA Y.ln Y.lc) (.int .i64 Y.fuse) (.int .i64 Y.fault) (.bool Y.off)) h (.slice Z.F.A Z.F.n Z.F.c) (.slice Z.lA Z.ln Z.lc) (.int .i64 Z.fuse) (.int .i64 Z.fault) (.bool Z.off)).heap.size := by
  refine ⟨⟨FVar.other5 hne hX.set5, lie_res (lie_res hY hYg) hYh, hYg⟩, ⟨(FVar.other5 (Ne.symm hne) hT).set5, lie_res (lie_res hZ hZg) hZh, hZh⟩, ?_, by rw [size_set5, size_set5]; exact hgs, by rw [size_set5, size_set5]; exact hhs⟩
  exact fbelow_set5 (fbelow_set5 hb hg) hh
theorem file_info : ∃ i, Tryd.prog.info? 37 = some i ∧ i.zero = some (.agg #[.slice none 0 0, .slice none 0 0, .int .i64 0, .int .i64 0, .bool false]) := ⟨Tryd.t37, by kernel_rfl, by kernel_rfl⟩
theorem fvar_blk {W : World} {g : Nat} {a b c d e : Value} {t : TypeId} (h : W.heap[g]? = some (.cells #[a, b, c, d, e] t)) : FVar W g a b c d e :=
  ⟨⟨by simp [World.cell?, h], by simp [World.cell?, h], by simp [World.cell?, h], by simp [World.cell?, h], by simp [World.cell?, h]⟩, frozen_of_row W g 0 _ t h, frozen_of_row W g 1 _ t h, frozen_of_row W g 2 _ t h, frozen_of_row W g 3 _ t h, frozen_of_row W g 4 _ t h⟩
/-- All blocks but two are as they were. -/
structure STwo (g h : Nat) (w W : World) : Prop where
  s : w.heap.size ≤ W.heap.size
  b : ∀ k, k < w.heap.size → k ≠ g → k ≠ h → W.heap[k]? = w.heap[k]?
theorem STwo.drew (g h : Nat) (w : World) : STwo g h w (w.drewN 1) := ⟨Nat.le_refl _, fun _ _ _ _ => rfl⟩
theorem STwo.next {g h : Nat} {w W W' : World} (hs : STwo g h w W) (hb : Below W.heap.size W W') : STwo g h w W' := ⟨Nat.le_trans hs.s hb.size, fun k hk h1 h2 => (hb.block k (Nat.lt_of_lt_of_le hk hs.s)).trans (hs.b k hk h1 h2)⟩
theorem STwo.set {g h k : Nat} {w W : World} {a b c d e : Value} (hs : STwo g h w W) (hk : k = g ∨ k = h) : STwo g h w (set5F W k a b c d e) := by
  refine ⟨by rw [size_set5]; exact hs.s, fun j hj h1 h2 => ?_⟩
  have hne : j ≠ k := by rcases hk with rfl | rfl <;> assumption
  unfold set5F
  rw [Below.heap_setCell _ _ _ _ hne, Below.heap_setCell _ _ _ _ hne, Below.heap_setCell _ _ _ _ hne, Below.heap_setCell _ _ _ _ hne, Below.heap_setCell _ _ _ _ hne]
  exact hs.b j hj h1 h2
theorem STwo.cell {g h k i : Nat} {w W : World} {v : Value} (hs : STwo g h w W) (hc : w.cell? ⟨k, i, none⟩ = some v) (h1 : k ≠ g) (h2 : k ≠ h) : W.cell? ⟨k, i, none⟩ = some v :=
  (World.cell?_of_block (hs.b k (World.block_lt_of_cell? w _ hc) h1 h2)).trans hc
end Go.Proofs.YtlknmpnjhbdlhaaDoor
/-
  Layer 11: Put and Size.
-/
namespace Go.Proofs.YtlknmpnjhbdlhaaDoor
open Go.RowKit
set_option linter.unusedVariables false

/-- What Put gives. -/
def PutP (X : FileT) (S : FileS) (a : Nat) (k : Int) (w : World) (e : Ending) (w' : World) : Prop :=
  ∃ Y : FileT, e = .returned (.tuple #[Y.agg, .int .i64 (a : Nat), .int .i64 k]) ∧ Y.s = S ∧ LieF w' w'.heap.size Y ∧ Below w.heap.size w w' ∧ (∀ g, g < w.heap.size → AwayF X g → AwayF Y g)
def allowB (n : Int) : Bool := decide (1 ≤ n) && decide (n ≤ 4096)
set_option maxRecDepth 20000 in
theorem allowed_any (n : Int) (w : World) : Calls Tryd.prog 48 #[.int .i64 n] w fun e w' => e = .returned (.bool (allowB n)) ∧ w = w' := by
  by_cases h1 : 1 ≤ n
  · have h1' : decide ((1 : Int) ≤ n) = true := decide_eq_true h1
    by_cases h2 : n ≤ 4096
    · rw [show allowB n = true by unfold allowB; simp [h1, h2]]
      go_enter Tryd.func48, Tryd.ntmps48
      go_wp2
      go_ret
      exact ⟨by simp, rfl⟩
    · have h2' : (n ≤ 4096) = False := by simp; omega
      rw [show allowB n = false by unfold allowB; simp [h1, h2]]
      go_enter Tryd.func48, Tryd.ntmps48
      go_wp2
      go_ret
      exact ⟨by simp, rfl⟩
  · rw [show allowB n = false by unfold allowB; simp [h1]]
    have h1' : ((1 : Int) ≤ n) = False := by simp; omega
    go_enter Tryd.func48, Tryd.ntmps48
    go_wp2
    go_ret
    exact ⟨by simp, rfl⟩
set_option maxRecDepth 20000 in
set_option maxHeartbeats 2000000 in
theorem put_bad (X : FileT) (p : PcT) (B : Nat) (w : World) (hL : LieF w B X) (hB : B ≤ w.heap.size) (hN : ∀ p ∈ X.Q, p.n ≤ 1048576) (hr : X.right = false) :
    Calls Tryd.prog 29 #[X.agg, .slice p.A p.n p.c] w (PutP X X.s 0 200 w) := by
  have hb1 := bel_alloc (bel_alloc (Below.refl w.heap.size w) (.cells #[.slice X.F.A X.F.n X.F.c, .slice X.lA X.ln X.lc, .int .i64 X.fuse, .int .i64 X.fault, .bool X.off] 37)) (.cells #[.slice none 0 0, .slice none 0 0, .int .i64 0, .int .i64 0, .bool false] 37)
  have HX := (FBox.new w X 37).later (bel_alloc (Below.refl _ _) (.cells #[.slice none 0 0, .slice none 0 0, .int .i64 0, .int .i64 0, .bool false] 37))
  have hch := checkF_any X B _ (hL.later (hb1.mono hB)) (Nat.le_trans hB hb1.size) hN
  rw [hr] at hch
  have HV := FVar.new (w.alloc (.cells #[.slice X.F.A X.F.n X.F.c, .slice X.lA X.ln X.lc, .int .i64 X.fuse, .int .i64 X.fault, .bool X.off] 37)) (.slice none 0 0) (.slice none 0 0) (.int .i64 0) (.int .i64 0) (.bool false) 37
  rw [World.size_alloc] at HV
  simp only [FileT.agg, PcT.val] at hch ⊢
  obtain ⟨f0, f1, f2, f3, f4⟩ := HX
  clear hN hr
  go_enter Tryd.func29, Tryd.ntmps29
  go_wp2_with fail
  generalize ((w.alloc (.cells #[.slice X.F.A X.F.n X.F.c, .slice X.lA X.ln X.lc, .int .i64 X.fuse, .int .i64 X.fault, .bool X.off] 37)).alloc (.cells #[.slice none 0 0, .slice none 0 0, .int .i64 0, .int .i64 0, .bool false] 37)) = W1 at *
  refine hch.mono ?_
  rintro e W2 ⟨rfl, hb2⟩
  have hb3 := bel_next hb1 hb2
  have f0' := kept_later hb2 f0
  have f1' := kept_later hb2 f1
  have f2' := kept_later hb2 f2
  have f3' := kept_later hb2 f3
  have f4' := kept_later hb2 f4
  obtain ⟨⟨j0, j1, j2, j3, j4⟩, k0, k1, k2, k3, k4⟩ := HV.later hb2
  have hbe := fbelow_set5 (a := .slice X.F.A X.F.n X.F.c) (b := .slice X.lA X.ln X.lc) (c := .int .i64 X.fuse) (d := .int .i64 X.fault) (e := .bool X.off) hb3 (show w.heap.size ≤ w.heap.size + 1 by omega)
  have hLe := (hL.later (hbe.mono hB)).more (Nat.le_trans hB hbe.size)
  clear hch f0 f1 f2 f3 f4 HV hb1 hb2 hL
  go_wp2
  (try rw [Exit.noGoto_ret])
  refine bodyPost_ret (v := .tuple #[.agg #[.slice X.F.A X.F.n X.F.c, .slice X.lA X.ln X.lc, .int .i64 X.fuse, .int .i64 X.fault, .bool X.off], .int .i64 0, .int .i64 200]) ?_ rfl ⟨X, rfl, rfl, hLe, hbe, fun _ _ h => h⟩
  simp [results, Tryd.results29, go_sem, *]
set_option maxRecDepth 20000 in
set_option maxHeartbeats 2000000 in
theorem put_arg (X : FileT) (p : PcT) (B : Nat) (w : World) (hL : LieF w B X) (hB : B ≤ w.heap.size) (hr : X.right = true) (hn : allowB (p.n : Int) = false) :
    Calls Tryd.prog 29 #[X.agg, .slice p.A p.n p.c] w (PutP X X.s 0 2 w) := by
  have hb1 := bel_alloc (bel_alloc (Below.refl w.heap.size w) (.cells #[.slice X.F.A X.F.n X.F.c, .slice X.lA X.ln X.lc, .int .i64 X.fuse, .int .i64 X.fault, .bool X.off] 37)) (.cells #[.slice none 0 0, .slice none 0 0, .int .i64 0, .int .i64 0, .bool false] 37)
  have HX := (FBox.new w X 37).later (bel_alloc (Below.refl _ _) (.cells #[.slice none 0 0, .slice none 0 0, .int .i64 0, .int .i64 0, .bool false] 37))
  have hch := checkF_any X B _ (hL.later (hb1.mono hB)) (Nat.le_trans hB hb1.size) (right_rows hL hr).1
  rw [if_pos hr] at hch
  have hal := fun W => allowed_any (p.n : Int) W
  rw [hn] at hal
  have HV := FVar.new (w.alloc (.cells #[.slice X.F.A X.F.n X.F.c, .slice X.lA X.ln X.lc, .int .i64 X.fuse, .int .i64 X.fault, .bool X.off] 37)) (.slice none 0 0) (.slice none 0 0) (.int .i64 0) (.int .i64 0) (.bool false) 37
  rw [World.size_alloc] at HV
  simp only [FileT.agg, PcT.val] at hch ⊢
  obtain ⟨f0, f1, f2, f3, f4⟩ := HX
  clear hr hn
  go_enter Tryd.func29, Tryd.ntmps29
  go_wp2_with fail
  generalize ((w.alloc (.cells #[.slice X.F.A X.F.n X.F.c, .slice X.lA X.ln X.lc, .int .i64 X.fuse, .int .i64 X.fault, .bool X.off] 37)).alloc (.cells #[.slice none 0 0, .slice none 0 0, .int .i64 0, .int .i64 0, .bool false] 37)) = W1 at *
  refine hch.mono ?_
  rintro e W2 ⟨rfl, hb2⟩
  have hb3 := bel_next hb1 hb2
  have f0' := kept_later hb2 f0
  have f1' := kept_later hb2 f1
  have f2' := kept_later hb2 f2
  have f3' := kept_later hb2 f3
  have f4' := kept_later hb2 f4
  obtain ⟨⟨j0, j1, j2, j3, j4⟩, k0, k1, k2, k3, k4⟩ := HV.later hb2
  have hbe := fbelow_set5 (a := .slice X.F.A X.F.n X.F.c) (b := .slice X.lA X.ln X.lc) (c := .int .i64 X.fuse) (d := .int .i64 X.fault) (e := .bool X.off) hb3 (show w.heap.size ≤ w.heap.size + 1 by omega)
  have hLe := (hL.later (hbe.mono hB)).more (Nat.le_trans hB hbe.size)
  clear hch f0 f1 f2 f3 f4 HV hb1 hb2 hL
  go_wp2_with fail
  refine (hal _).mono ?_
  rintro e W3 ⟨rfl, rfl⟩
  clear hal
  go_wp2
  (try rw [Exit.noGoto_ret])
  refine bodyPost_ret (v := .tuple #[.agg #[.slice X.F.A X.F.n X.F.c, .slice X.lA X.ln X.lc, .int .i64 X.fuse, .int .i64 X.fault, .bool X.off], .int .i64 0, .int .i64 2]) ?_ rfl ⟨X, rfl, rfl, hLe, hbe, fun _ _ h => h⟩
  simp [results, Tryd.results29, go_sem, *]
/-- What a record's piece becomes of a file. -/
def putO (S : FileS) (long : Nat) (b : List UInt8) : FileS × Int := S.append long (Fra.pieceL S.all (Fra.encL b))
set_option maxRecDepth 100000 in
set_option maxHeartbeats 4000000 in
theorem put_ok (X : FileT) (p : PcT) (B : Nat) (w : World) (htab : Tab w) (hL : LieF w B X) (hp : p.Ok w B) (hB : B ≤ w.heap.size) (hr : X.right = true) (hn : 1 ≤ p.n ∧ p.n ≤ 4096) :
    Calls Tryd.prog 29 #[X.agg, .slice p.A p.n p.c] w (PutP X (putO X.s X.long p.l).1 (if (putO X.s X.long p.l).2 = 0 then Fra.atN X.all else 0) (putO X.s X.long p.l).2 w) := by
  obtain ⟨S, k, hSk⟩ : ∃ S k, putO X.s X.long p.l = (S, k) := ⟨_, _, rfl⟩
  obtain ⟨a, ha⟩ : ∃ a, (if k = 0 then Fra.atN X.all else 0) = a := ⟨_, rfl⟩
  rw [hSk]
  simp only
  rw [ha]
  have hb1 := bel_alloc (bel_alloc (Below.refl w.heap.size w) (.cells #[.slice X.F.A X.F.n X.F.c, .slice X.lA X.ln X.lc, .int .i64 X.fuse, .int .i64 X.fault, .bool X.off] 37)) (.cells #[.slice none 0 0, .slice none 0 0, .int .i64 0, .int .i64 0, .bool false] 37)
  have HX := Lib.hid ((FBox.new w X 37).later (bel_alloc (Below.refl _ _) (.cells #[.slice none 0 0, .slice none 0 0, .int .i64 0, .int .i64 0, .bool false] 37)))
  obtain ⟨hlong, hmax⟩ := right_all hL hr
  have hch := checkF_any X B _ (hL.later (hb1.mono hB)) (Nat.le_trans hB hb1.size) (right_rows hL hr).1
  rw [if_pos hr] at hch
  have hal := fun W => allowed_any (p.n : Int) W
  rw [show allowB (p.n : Int) = true by unfold allowB; simp; omega] at hal
  have hV := FVar.new (w.alloc (.cells #[.slice X.F.A X.F.n X.F.c, .slice X.lA X.ln X.lc, .int .i64 X.fuse, .int .i64 X.fault, .bool X.off] 37)) (.slice none 0 0) (.slice none 0 0) (.int .i64 0) (.int .i64 0) (.bool false) 37
  rw [World.size_alloc] at hV
  have HV := Lib.hid hV
  have hbg := Lib.hid (fun W (h : Below w.heap.size w W) => begin_any X B W (hL.later (h.mono hB)) (Nat.le_trans hB h.size) hr)
  have hwr := Lib.hid (fun W b s l (h : Below w.heap.size w W) (hw : Wt W b s l) (h1 : s ≤ 600000) (h2 : l.length ≤ 1000) => write_any b s l p B W (htab.below h htab.lt) hw (hp.later (h.mono hB)) (Nat.le_trans hB h.size) hn.2 h1 h2)
  have hap := Lib.hid (fun W (h : Below w.heap.size w W) (q : PcT) (hq : q.Ok W W.heap.size) (hql : q.l = Fra.pieceL X.all (Fra.encL p.l)) => show Calls Tryd.prog 38 #[X.agg, q.val] W (OpP X (AwayP q) (S, k) W) from by
    have h1 := appendF_any X q W.heap.size W ((hL.later (h.mono hB)).more (Nat.le_trans hB h.size)) hq (Nat.le_refl _) hr
    have hqn : ¬ q.n = 0 := by
      rw [← hq.len, hql]
      unfold Fra.pieceL
      rw [List.length_append]
      have := (Fra.layP_ge (Fra.encL p.l) (Fra.atN X.all)).1
      rw [Fra.encL_len] at this
      omega
    rw [if_neg hqn, hql] at h1
    have e : X.s.append X.long (Fra.pieceL X.all (Fra.encL p.l)) = (S, k) := by rw [← hSk]; unfold putO; rw [all_s]
    rw [e] at h1
    exact h1)
  have hXA := Lib.hid (fun g (hg : B ≤ g) => hL.away hg)
  simp only [FileT.agg, PcT.val] at hch hbg hap ⊢
  have Ha := Lib.hid ha
  have hal0 : (X.all).length ≤ 524288 := hmax
  have hel := Lib.hid (show Fra.aheadL X.all ++ Fra.layP (X.all.length + (Fra.aheadL X.all).length) (Fra.encL p.l) = Fra.pieceL X.all (Fra.encL p.l) ∧ (X.all.length + (Fra.aheadL X.all).length) = Fra.atN X.all ∧ (Fra.aheadL X.all).length ≤ 1000 ∧ (Fra.pieceL X.all (Fra.encL p.l)).length ≤ 8300 from by
    have e := Fra.piece_at X.all []
    rw [List.length_append] at e
    refine ⟨by rw [e]; rfl, e, ?_, Fra.piece_len X.all _ (by rw [Fra.encL_len, hp.len]; omega)⟩
    rw [Fra.aheadL_len]
    unfold Fra.atN Fra.frontN Fra.padN
    split <;> split <;> omega)
  generalize Fra.pieceL X.all (Fra.encL p.l) = pc at *
  clear hp hn hlong hmax hr htab ha hSk hV
  obtain ⟨f0, f1, f2, f3, f4⟩ := HX.out
  obtain ⟨iF, hiF, hzF⟩ := file_info
  go_enter Tryd.func29, Tryd.ntmps29
  go_wp2_with fail
  generalize ((w.alloc (.cells #[.slice X.F.A X.F.n X.F.c, .slice X.lA X.ln X.lc, .int .i64 X.fuse, .int .i64 X.fault, .bool X.off] 37)).alloc (.cells #[.slice none 0 0, .slice none 0 0, .int .i64 0, .int .i64 0, .bool false] 37)) = W1 at *
  refine hch.mono ?_
  rintro e W2 ⟨rfl, hb2⟩
  have hb3 := bel_next hb1 hb2
  have HX2 := Lib.hid (HX.out.later hb2)
  have HV2 := Lib.hid (HV.out.later hb2)
  clear hch f0 f1 f2 f3 f4 HX HV hb1 hb2
  obtain ⟨f0, f1, f2, f3, f4⟩ := HX2.out
  go_wp2_with fail
  refine (hal _).mono ?_
  rintro e W3 ⟨rfl, rfl⟩
  clear hal
  go_wp2_with fail
  refine (hbg.out _ hb3).mono ?_
  rintro e W4 ⟨b, rfl, hbge, hw4, hb4⟩
  have hb5 := bel_next hb3 hb4
  have HX4 := Lib.hid (HX2.out.later hb4)
  have HV4 := Lib.hid (HV2.out.later hb4)
  have hw := hb3.size
  have hgb : w.heap.size ≤ b := by omega
  have hb2s : w.heap.size + 2 ≤ W2.heap.size := by
    have := World.block_lt_of_cell? _ _ HV2.out.1.1
    have : w.heap.size + 1 < W2.heap.size := this
    omega
  clear f0 f1 f2 f3 f4 HX2 HV2 hb4 hb3 hbg
  go_wp2_with fail
  refine (hwr.out _ b _ _ hb5 hw4 (by omega) hel.out.2.2.1).mono ?_
  rintro e W5 ⟨rfl, hw5, hb6⟩
  rw [hel.out.1] at hw5
  rw [hel.out.2.1]
  obtain ⟨A, c, w50, w51, w52, w53⟩ := hw5
  have hb7 := hb5.trans (hb6.mono hgb)
  have HX5 := Lib.hid (show FBox W5 w.heap.size X from by
    obtain ⟨g0, g1, g2, g3, g4⟩ := HX4.out
    have hlt : w.heap.size < b := by omega
    exact ⟨(hb6.cell (p := ⟨w.heap.size, 0, none⟩) hlt).trans g0, (hb6.cell (p := ⟨w.heap.size, 1, none⟩) hlt).trans g1, (hb6.cell (p := ⟨w.heap.size, 2, none⟩) hlt).trans g2, (hb6.cell (p := ⟨w.heap.size, 3, none⟩) hlt).trans g3, (hb6.cell (p := ⟨w.heap.size, 4, none⟩) hlt).trans g4⟩)
  have HV5 := Lib.hid (HV4.out.low (B := b) (by omega) hb6)
  have hpo : PcT.Ok W5 W5.heap.size ⟨A, pc.length, c, pc⟩ := ⟨Bytes.own w53, (own_facts w53).1, (own_facts w53).2.1, (own_facts w53).2.2⟩
  have HcA := Lib.hid (fun W (h : Below W5.heap.size W5 W) => hap.out W (hb7.trans (h.mono hb7.size)) ⟨A, pc.length, c, pc⟩ ((hpo.later h).more h.size) rfl)
  have hPA := Lib.hid (fun g (hg : g < b + 1) => (own_away w53 hg : ∀ b' off, A = some ⟨b', off, none⟩ → 0 < pc.length → b' ≠ g))
  have hPA2 := Lib.hid (fun g (hg : W5.heap.size ≤ g) => (hpo.away hg : AwayP _ g))
  have hgw := Lib.hid hb7.size
  have hbl := World.block_lt_of_cell? _ _ w51
  have hz5 : w.heap.size + 2 ≤ b ∧ b < W5.heap.size := ⟨Nat.le_trans hb2s hbge, hbl⟩
  clear hbl
  have hbs := hb6.size
  clear hel hwr hap w50 w52 w53 hb6 hb5 hw4 HX4 HV4 hpo
  go_upto_region 7 with fail
  have x0 : ∀ W, Below W5.heap.size W5 W → W.cell? ⟨w.heap.size, 0, none⟩ = some (.slice X.F.A X.F.n X.F.c) := fun W h => (HX5.out.later h).1
  have x1 : ∀ W, Below W5.heap.size W5 W → W.cell? ⟨w.heap.size, 1, none⟩ = some (.slice X.lA X.ln X.lc) := fun W h => (HX5.out.later h).2.1
  have x2 : ∀ W, Below W5.heap.size W5 W → W.cell? ⟨w.heap.size, 2, none⟩ = some (.int .i64 X.fuse) := fun W h => (HX5.out.later h).2.2.1
  have x3 : ∀ W, Below W5.heap.size W5 W → W.cell? ⟨w.heap.size, 3, none⟩ = some (.int .i64 X.fault) := fun W h => (HX5.out.later h).2.2.2.1
  have x4 : ∀ W, Below W5.heap.size W5 W → W.cell? ⟨w.heap.size, 4, none⟩ = some (.bool X.off) := fun W h => (HX5.out.later h).2.2.2.2
  have y1 : ∀ W, Below W5.heap.size W5 W → W.cell? ⟨b, 1, none⟩ = some (.slice A pc.length c) := fun W h => kept_later h w51
  clear w51
  go_cut [9, 10] (fun s9 s10 wx => ∃ (g9 : Nat) (Y : FileT), s9 = .pointer (some ⟨g9, 0, none⟩) ∧ s10 = .int .i64 k ∧ Hid (FAt wx g9 Y) ∧ Y.s = S ∧ Below W5.heap.size W5 wx ∧ W5.heap.size ≤ g9 ∧ Hid (∀ g, g < b → AwayF X g → AwayF Y g))
  case first =>
    refine wp_region_held_drew (S := fun W => Below W5.heap.size W5 W) (by kernel_rfl) (below_drewN (Below.refl _ _) 1) (fun hHeld => ?_)
    refine rg_in 0 rfl (by kernel_rfl) (by kernel_rfl) (by kernel_rfl) (by rfl) (v := ?_) (fun _ _ _ h => h) hHeld (fun w hSw => ?_) ?_
    rotate_left
    · (try dsimp only at hSw); go_simp <;> (with_reducible rfl)
    (try simp only [Act.put, List.setIfInBounds_toArray, List.set_cons_zero, List.set_cons_succ])
    refine rg_in 1 rfl (by kernel_rfl) (by kernel_rfl) (by kernel_rfl) (by rfl) (v := ?_) (fun _ _ _ h => h) hHeld (fun w hSw => ?_) ?_
    rotate_left
    · (try dsimp only at hSw); go_simp <;> (with_reducible rfl)
    (try simp only [Act.put, List.setIfInBounds_toArray, List.set_cons_zero, List.set_cons_succ])
    refine rg_in 2 rfl (by kernel_rfl) (by kernel_rfl) (by kernel_rfl) (by rfl) (v := ?_) (fun _ _ _ h => h) hHeld (fun w hSw => ?_) ?_
    rotate_left
    · (try dsimp only at hSw); go_simp <;> (with_reducible rfl)
    (try simp only [Act.put, List.setIfInBounds_toArray, List.set_cons_zero, List.set_cons_succ])
    refine rg_in 3 rfl (by kernel_rfl) (by kernel_rfl) (by kernel_rfl) (by rfl) (v := ?_) (fun _ _ _ h => h) hHeld (fun w hSw => ?_) ?_
    rotate_left
    · (try dsimp only at hSw); go_simp <;> (with_reducible rfl)
    (try simp only [Act.put, List.setIfInBounds_toArray, List.set_cons_zero, List.set_cons_succ])
    refine rg_in 4 rfl (by kernel_rfl) (by kernel_rfl) (by kernel_rfl) (by rfl) (v := ?_) (fun _ _ _ h => h) hHeld (fun w hSw => ?_) ?_
    rotate_left
    · (try dsimp only at hSw); go_simp <;> (with_reducible rfl)
    (try simp only [Act.put, List.setIfInBounds_toArray, List.set_cons_zero, List.set_cons_succ])
    refine rg_in 5 rfl (by kernel_rfl) (by kernel_rfl) (by kernel_rfl) (by rfl) (v := ?_) (fun _ _ _ h => h) hHeld (fun w hSw => ?_) ?_
    rotate_left
    · (try dsimp only at hSw); go_simp <;> (with_reducible rfl)
    (try simp only [Act.put, List.setIfInBounds_toArray, List.set_cons_zero, List.set_cons_succ])
    refine wpAnyH_ready (rs := [6, 10]) (by kernel_rfl) (by simp) ?_
    refine rg_cons rfl (by rfl) (fun K hK => ?_) ?_
    · have hgw6 := hHeld.size
      go_simp
      (go_at_call 38; (with_reducible refine (HcA.out _ hHeld).mono ?_); (rintro e w106 ⟨Y, rfl, hYs, hYL, hb6, hYa⟩))
      simp only [FileT.agg, PcT.val]
      refine hK.out _ _ (S_call hb6 hHeld rfl) (fun hHeld => ?_)
      clear hK K
      (try simp only [Act.put, List.setIfInBounds_toArray, List.set_cons_zero, List.set_cons_succ])
      refine rg_in 7 rfl (by kernel_rfl) (by kernel_rfl) (by kernel_rfl) (by rfl) (v := ?_) (fun _ _ _ h => h) hHeld (fun w hSw => ?_) ?_
      rotate_left
      · (try dsimp only at hSw); go_simp <;> (with_reducible rfl)
      (try simp only [Act.put, List.setIfInBounds_toArray, List.set_cons_zero, List.set_cons_succ])
      refine rg_in 8 rfl (by kernel_rfl) (by kernel_rfl) (by kernel_rfl) (by rfl) (v := ?_) (fun _ _ _ h => h) hHeld (fun w hSw => ?_) ?_
      rotate_left
      · (try dsimp only at hSw); go_simp <;> (with_reducible rfl)
      (try simp only [Act.put, List.setIfInBounds_toArray, List.set_cons_zero, List.set_cons_succ])
      refine rg_in 9 rfl (by kernel_rfl) (by kernel_rfl) (by kernel_rfl) (by rfl) (v := ?_) (fun _ _ _ h => h) hHeld (fun w hSw => ?_) ?_
      rotate_left
      · (try dsimp only at hSw); go_simp <;> (with_reducible rfl)
      (try simp only [Act.put, List.setIfInBounds_toArray, List.set_cons_zero, List.set_cons_succ])
      refine rg_do 10 rfl (by kernel_rfl) (by rfl) (fun K hK => ?_)
      have hgw10 := hHeld.size
      refine step_alloc 37 rfl iF _ hiF hzF ?_
      intro g110 w110 hge10 hbox10 hb10
      refine hK.out _ _ (S_call hb10 hHeld rfl) (fun hHeld => ?_)
      clear hK K
      (try simp only [Act.put, List.setIfInBounds_toArray, List.set_cons_zero, List.set_cons_succ])
      refine rg_do 11 rfl (by kernel_rfl) (by rfl) (fun K hK => ?_)
      have hV10 := Lib.hid (FVar.later (fvar_blk hbox10) (Below.refl _ _))
      have hLY := Lib.hid ((hYL.later hb10).more (Below.size hb10))
      have hHb := Lib.hid hHeld
      have q0 := hV10.out.1.1
      have q1 := hV10.out.1.2.1
      have q2 := hV10.out.1.2.2.1
      have q3 := hV10.out.1.2.2.2.1
      have q4 := hV10.out.1.2.2.2.2
      have p0 := hV10.out.2.1
      have p1 := hV10.out.2.2.1
      have p2 := hV10.out.2.2.2.1
      have p3 := hV10.out.2.2.2.2.1
      have p4 := hV10.out.2.2.2.2.2
      go_simp
      clear q0 q1 q2 q3 q4 p0 p1 p2 p3 p4
      refine hK.out _ _ (fbelow_set5 hHeld (show W5.heap.size ≤ g110 by (have := hge10; omega))) (fun hHeld => ?_)
      clear hK K
      (try simp only [Act.put, List.setIfInBounds_toArray, List.set_cons_zero, List.set_cons_succ])
      refine rg_in 12 rfl (by kernel_rfl) (by kernel_rfl) (by kernel_rfl) (by rfl) (v := ?_) (fun _ _ _ h => h) hHeld (fun w hSw => ?_) ?_
      rotate_left
      · (try dsimp only at hSw); go_simp <;> (with_reducible rfl)
      (try simp only [Act.put, List.setIfInBounds_toArray, List.set_cons_zero, List.set_cons_succ])
      refine wpAnyH_done (by kernel_rfl) ?_ _
      have ay : AwayF Y g110 := by have z6 := hb6.size; have z10 := hb10.size; have l10 := blk_lt hbox10; exact hYL.away (by omega)
      have hfa := FAt.set hV10.out hLY.out ay
      have hbX := hHeld
      clear hHeld
      unfold set5F at hfa
      go_wp2
      go_meet
      case rel => exact ⟨g110, Y, rfl, rfl, Lib.hid hfa, hYs, hbX, by have := hge10; omega, Lib.hid (fun g h1 h2 => hYa g (by have z6 := hb6.size; have z10 := hb10.size; have l10 := blk_lt hbox10; omega) h2 (hPA.out g (by omega)))⟩
    refine rg_cons rfl (by rfl) (fun K hK => ?_) ?_
    · have hgw10 := hHeld.size
      refine step_alloc 37 rfl iF _ hiF hzF ?_
      intro g110 w110 hge10 hbox10 hb10
      refine hK.out _ _ (S_call hb10 hHeld rfl) (fun hHeld => ?_)
      clear hK K
      (try simp only [Act.put, List.setIfInBounds_toArray, List.set_cons_zero, List.set_cons_succ])
      refine rg_do 6 rfl (by kernel_rfl) (by rfl) (fun K hK => ?_)
      have hgw6 := hHeld.size
      go_simp
      (go_at_call 38; (with_reducible refine (HcA.out _ hHeld).mono ?_); (rintro e w106 ⟨Y, rfl, hYs, hYL, hb6, hYa⟩))
      simp only [FileT.agg, PcT.val]
      refine hK.out _ _ (S_call hb6 hHeld rfl) (fun hHeld => ?_)
      clear hK K
      (try simp only [Act.put, List.setIfInBounds_toArray, List.set_cons_zero, List.set_cons_succ])
      refine rg_in 7 rfl (by kernel_rfl) (by kernel_rfl) (by kernel_rfl) (by rfl) (v := ?_) (fun _ _ _ h => h) hHeld (fun w hSw => ?_) ?_
      rotate_left
      · (try dsimp only at hSw); go_simp <;> (with_reducible rfl)
      (try simp only [Act.put, List.setIfInBounds_toArray, List.set_cons_zero, List.set_cons_succ])
      refine rg_in 8 rfl (by kernel_rfl) (by kernel_rfl) (by kernel_rfl) (by rfl) (v := ?_) (fun _ _ _ h => h) hHeld (fun w hSw => ?_) ?_
      rotate_left
      · (try dsimp only at hSw); go_simp <;> (with_reducible rfl)
      (try simp only [Act.put, List.setIfInBounds_toArray, List.set_cons_zero, List.set_cons_succ])
      refine rg_in 9 rfl (by kernel_rfl) (by kernel_rfl) (by kernel_rfl) (by rfl) (v := ?_) (fun _ _ _ h => h) hHeld (fun w hSw => ?_) ?_
      rotate_left
      · (try dsimp only at hSw); go_simp <;> (with_reducible rfl)
      (try simp only [Act.put, List.setIfInBounds_toArray, List.set_cons_zero, List.set_cons_succ])
      refine rg_do 11 rfl (by kernel_rfl) (by rfl) (fun K hK => ?_)
      have hV10 := Lib.hid (FVar.later (fvar_blk hbox10) hb6)
      have hLY := Lib.hid hYL
      have hHb := Lib.hid hHeld
      have q0 := hV10.out.1.1
      have q1 := hV10.out.1.2.1
      have q2 := hV10.out.1.2.2.1
      have q3 := hV10.out.1.2.2.2.1
      have q4 := hV10.out.1.2.2.2.2
      have p0 := hV10.out.2.1
      have p1 := hV10.out.2.2.1
      have p2 := hV10.out.2.2.2.1
      have p3 := hV10.out.2.2.2.2.1
      have p4 := hV10.out.2.2.2.2.2
      go_simp
      clear q0 q1 q2 q3 q4 p0 p1 p2 p3 p4
      refine hK.out _ _ (fbelow_set5 hHeld (show W5.heap.size ≤ g110 by (have := hge10; omega))) (fun hHeld => ?_)
      clear hK K
      (try simp only [Act.put, List.setIfInBounds_toArray, List.set_cons_zero, List.set_cons_succ])
      refine rg_in 12 rfl (by kernel_rfl) (by kernel_rfl) (by kernel_rfl) (by rfl) (v := ?_) (fun _ _ _ h => h) hHeld (fun w hSw => ?_) ?_
      rotate_left
      · (try dsimp only at hSw); go_simp <;> (with_reducible rfl)
      (try simp only [Act.put, List.setIfInBounds_toArray, List.set_cons_zero, List.set_cons_succ])
      refine wpAnyH_done (by kernel_rfl) ?_ _
      have ay : AwayF Y g110 := by have z6 := hb6.size; have z10 := hb10.size; have l10 := blk_lt hbox10; exact hYa _ (by omega) (hXA.out _ (by omega)) (hPA2.out _ (by omega))
      have hfa := FAt.set hV10.out hLY.out ay
      have hbX := hHeld
      clear hHeld
      unfold set5F at hfa
      go_wp2
      go_meet
      case rel => exact ⟨g110, Y, rfl, rfl, Lib.hid hfa, hYs, hbX, by have := hge10; omega, Lib.hid (fun g h1 h2 => hYa g (by have z6 := hb6.size; have z10 := hb10.size; have l10 := blk_lt hbox10; omega) h2 (hPA.out g (by omega)))⟩
    exact AllReadyH.nil
  case rest =>
    obtain ⟨g9, Y, rfl, rfl, HF, hYs, hbx, hg9, hYA⟩ := hcut
    clear x0 x1 x2 x3 x4 y1 HcA hPA hPA2 HX5 hiF hzF
    have HV6 := HV5.out.later hbx
    have hb8 := hb7.trans (hbx.mono hb7.size)
    obtain ⟨⟨j0, j1, j2, j3, j4⟩, k0, k1, k2, k3, k4⟩ := HV6
    obtain ⟨⟨y0, y1, y2, y3, y4⟩, -⟩ := HF.out.v
    have hne : g9 ≠ w.heap.size + 1 := by omega
    have hbe := fbelow_set5 (a := .slice Y.F.A Y.F.n Y.F.c) (b := .slice Y.lA Y.ln Y.lc) (c := .int .i64 Y.fuse) (d := .int .i64 Y.fault) (e := .bool Y.off) hb8 (show w.heap.size ≤ w.heap.size + 1 by omega)
    have hLe := Lib.hid (show LieF (set5F wc (w.heap.size + 1) (.slice Y.F.A Y.F.n Y.F.c) (.slice Y.lA Y.ln Y.lc) (.int .i64 Y.fuse) (.int .i64 Y.fault) (.bool Y.off)) (set5F wc (w.heap.size + 1) (.slice Y.F.A Y.F.n Y.F.c) (.slice Y.lA Y.ln Y.lc) (.int .i64 Y.fuse) (.int .i64 Y.fault) (.bool Y.off)).heap.size Y from lie_res HF.out.l (hYA.out _ (by omega) (hXA.out _ (by omega))))
    have Hbe := Lib.hid hbe
    have HYA := Lib.hid (show ∀ g, g < w.heap.size → AwayF X g → AwayF Y g from fun g h1 h2 => hYA.out g (by omega) h2)
    clear hbe HV5 hb8 hXA hYA
    by_cases hk : k = 0
    · subst hk
      have Ha2 := Ha.out
      rw [if_pos rfl] at Ha2
      subst Ha2
      clear Ha
      go_wp2
      (try rw [Exit.noGoto_ret])
      refine bodyPost_ret (v := .tuple #[.agg #[.slice Y.F.A Y.F.n Y.F.c, .slice Y.lA Y.ln Y.lc, .int .i64 Y.fuse, .int .i64 Y.fault, .bool Y.off], .int .i64 (Fra.atN X.all : Nat), .int .i64 0]) ?_ rfl ⟨Y, rfl, hYs, hLe.out, Hbe.out, HYA.out⟩
      simp [results, Tryd.results29, go_sem, *]
    · have hk1 : (k != 0) = true := bne_iff_ne.2 hk
      have Ha2 := Ha.out
      rw [if_neg hk] at Ha2
      subst Ha2
      clear Ha
      go_wp2
      (try rw [Exit.noGoto_ret])
      refine bodyPost_ret (v := .tuple #[.agg #[.slice Y.F.A Y.F.n Y.F.c, .slice Y.lA Y.ln Y.lc, .int .i64 Y.fuse, .int .i64 Y.fault, .bool Y.off], .int .i64 ((0 : Nat) : Int), .int .i64 k]) ?_ rfl ⟨Y, rfl, hYs, hLe.out, Hbe.out, HYA.out⟩
      simp [results, Tryd.results29, go_sem, *]
end Go.Proofs.YtlknmpnjhbdlhaaDoor
/-
  Layer 11: Size.
-/
namespace Go.Proofs.YtlknmpnjhbdlhaaDoor
open Go.RowKit
set_option linter.unusedVariables false

theorem lay_same : ∀ (l m : List UInt8) (n : Nat), l.length = m.length → (Fra.layP n l).length = (Fra.layP n m).length
  | [], [], n, _ => rfl
  | x :: l, y :: m, n, h => by
    by_cases h0 : n % 64 = 0
    · rw [Fra.layP_at x l h0, Fra.layP_at y m h0, List.length_cons, List.length_cons, List.length_cons, List.length_cons, lay_same l m (n + 2) (by simpa using h)]
    · rw [Fra.layP_in x l h0, Fra.layP_in y m h0, List.length_cons, List.length_cons, lay_same l m (n + 1) (by simpa using h)]
  | [], _ :: _, _, h => by simp at h
  | _ :: _, [], _, h => by simp at h
/-- How many bytes a record of n bytes brings. -/
def sizeN (all : List UInt8) (n : Nat) : Nat := (Fra.pieceL all (Fra.encL (List.replicate n 0))).length
theorem size_is (all l : List UInt8) : sizeN all l.length = (Fra.pieceL all (Fra.encL l)).length := by
  unfold sizeN Fra.pieceL
  rw [List.length_append, List.length_append, lay_same _ (Fra.encL l) _ (by rw [Fra.encL_len, Fra.encL_len, List.length_replicate])]
end Go.Proofs.YtlknmpnjhbdlhaaDoor
/-
  Layer 11: the iterator over data bytes.
-/
namespace Go.Proofs.YtlknmpnjhbdlhaaDoor
open Go.RowKit Go.Shelf
set_option linter.unusedVariables false
attribute [local go_sem] Oper.semAt_some

/-- What a round answers: go on, or not. -/
def YesNo (Y N : World → Prop) (e : Ending) (w' : World) : Prop := ∃ g : Bool, e = .returned (.bool g) ∧ (g = true → Y w') ∧ (g = false → N w')
/-- The bytes that were read. -/
def rowR (X : FileT) (a : Nat) : List UInt8 := (X.all.drop (a - a % 64)).take (min 4288 (X.all.length - (a - a % 64)))
theorem row_len (X : FileT) (a : Nat) : (rowR X a).length = min 4288 (X.all.length - (a - a % 64)) := by
  unfold rowR
  rw [List.length_take, List.length_drop]
  omega
theorem row_between (X : FileT) (a : Nat) (ha : a < X.all.length) : between X.all (a - a % 64) ((a - a % 64) + min 4288 (X.all.length - (a - a % 64))) = rowR X a := by
  unfold between rowR
  rw [List.drop_take, show (a - a % 64) + min 4288 (X.all.length - (a - a % 64)) - (a - a % 64) = min 4288 (X.all.length - (a - a % 64)) by omega]
theorem row_head (X : FileT) (a : Nat) (ha : a < X.all.length) : at8 (rowR X a) 0 = at8 X.all (a - a % 64) := by
  unfold at8 rowR
  have e : ((X.all.drop (a - a % 64)).take (min 4288 (X.all.length - (a - a % 64)))).getD 0 0 = X.all.getD (a - a % 64) 0 := by
    rw [List.getD_eq_getElem?_getD, List.getElem?_take_of_lt (by omega), List.getElem?_drop, Nat.add_zero, ← List.getD_eq_getElem?_getD]
  rw [e]

end Go.Proofs.YtlknmpnjhbdlhaaDoor
