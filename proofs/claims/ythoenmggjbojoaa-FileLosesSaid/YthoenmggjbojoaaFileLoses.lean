/-
  Layer 10, the law FileLoses: the walk.
-/
import Derived.Test.YthoenmggjbojoaaFileCounts
import Derived.Test.YthoenmggjbojoaaFilAR
import Derived.Test.YthoenmggjbojoaaFilAQ
import Derived.Deep.CutBlock
namespace Go.Proofs.Ythoenmggjbojoaa
open Go.RowKit
set_option linter.unusedVariables false

theorem one_done' {w V : World} {h : Nat} {T Z : FileT} (hT : FAt V h T) (hZ : LieF V V.heap.size Z) (hZh : AwayF Z h) (hb : Below w.heap.size w V) (hh : w.heap.size ≤ h) (hhs : h < V.heap.size) :
    FAt (((((V.setCell ⟨h, 0, none⟩ (.slice Z.F.A Z.F.n Z.F.c)).setCell ⟨h, 1, none⟩ (.slice Z.lA Z.ln Z.lc)).setCell ⟨h, 2, none⟩ (.int .i64 Z.fuse)).setCell ⟨h, 3, none⟩ (.int .i64 Z.fault)).setCell ⟨h, 4, none⟩ (.bool Z.off)) h Z ∧ Below w.heap.size w (((((V.setCell ⟨h, 0, none⟩ (.slice Z.F.A Z.F.n Z.F.c)).setCell ⟨h, 1, none⟩ (.slice Z.lA Z.ln Z.lc)).setCell ⟨h, 2, none⟩ (.int .i64 Z.fuse)).setCell ⟨h, 3, none⟩ (.int .i64 Z.fault)).setCell ⟨h, 4, none⟩ (.bool Z.off)) ∧ h < ((((((V.setCell ⟨h, 0, none⟩ (.slice Z.F.A Z.F.n Z.F.c)).setCell ⟨h, 1, none⟩ (.slice Z.lA Z.ln Z.lc)).setCell ⟨h, 2, none⟩ (.int .i64 Z.fuse)).setCell ⟨h, 3, none⟩ (.int .i64 Z.fault)).setCell ⟨h, 4, none⟩ (.bool Z.off))).heap.size := by
  have h2 := FAt.set hT.v hZ hZh
  have hs := size_set5 V h (.slice Z.F.A Z.F.n Z.F.c) (.slice Z.lA Z.ln Z.lc) (.int .i64 Z.fuse) (.int .i64 Z.fault) (.bool Z.off)
  have hb2 := fbelow_set5 (a := .slice Z.F.A Z.F.n Z.F.c) (b := .slice Z.lA Z.ln Z.lc) (c := .int .i64 Z.fuse) (d := .int .i64 Z.fault) (e := .bool Z.off) hb hh
  unfold set5F at h2 hs
  exact ⟨h2, hb2, by rw [hs]; exact hhs⟩
theorem q_keep {W : World} {g n i : Nat} {x : Value} {a b c d e : Value} (hne : n ≠ g) (h : W.cell? ⟨n, i, none⟩ = some x) : (((((W.setCell ⟨g, 0, none⟩ a).setCell ⟨g, 1, none⟩ b).setCell ⟨g, 2, none⟩ c).setCell ⟨g, 3, none⟩ d).setCell ⟨g, 4, none⟩ e).cell? ⟨n, i, none⟩ = some x := by
  have ne : ∀ j, (⟨g, j, none⟩ : Addr) ≠ ⟨n, i, none⟩ := fun j e => hne (by injection e with e; exact e.symm)
  rw [World.cell?_setCell_other _ _ _ _ (ne _), World.cell?_setCell_other _ _ _ _ (ne _), World.cell?_setCell_other _ _ _ _ (ne _), World.cell?_setCell_other _ _ _ _ (ne _), World.cell?_setCell_other _ _ _ _ (ne _)]
  exact h
theorem crash_len {S : FileS} (keep : List Bool) (tear cut : Int) : S.firm.length ≤ (S.crash keep tear cut).all.length ∧ (S.crash keep tear cut).all.length ≤ S.all.length ∧ (S.crash keep tear cut).all = crashGo keep tear cut S.loose 0 S.firm.length S.firm ∧ S.firm <+: (S.crash keep tear cut).all := by
  have e : (S.crash keep tear cut).all = crashGo keep tear cut S.loose 0 S.firm.length S.firm := by
    show crashGo keep tear cut S.loose 0 S.firm.length S.firm ++ ([] : List (List UInt8)).flatten = _
    rw [List.flatten_nil, List.append_nil]
  obtain ⟨h1, h2⟩ := crashGo_len keep tear cut S.loose 0 S.firm.length S.firm (Nat.le_refl _)
  rw [e, all_len]
  exact ⟨h1.length_le, h2, rfl, h1⟩
set_option maxRecDepth 100000 in
set_option maxHeartbeats 16000000 in
theorem fileLoses_walk (w : World) (a : Option Addr) (len cap : Nat) (l : List DeedT) (N : Nat) (hD : Deeds w w.heap.size a len l) (hX : ∀ x ∈ l, x.Ok w w.heap.size N) (hfit : len ≤ cap) (hmost : cap ≤ maxLen)
    (ka : Option Addr) (kn kc : Nat) (kl : List Bool) (hk : Bools w w.heap.size ka kn kl) (hkz : ka = none → kc = 0) (hkf : kn ≤ kc) (hkm : kc ≤ maxLen) (o0 o1 : Int) :
    Calls Try.prog 6 #[.slice a len cap, .slice ka kn kc, .agg #[.int .i64 o0, .int .i64 o1]] w fun e w' => e = .returned (.bool true) ∧ Below w.heap.size w w' := by
  have hK : BoT.Ok w w.heap.size ⟨ka, kn, kc, kl⟩ := ⟨hk, hkz, hkf, hkm⟩
  have HK := Lib.hid hK
  have hb0 := bel_alloc (Below.refl w.heap.size w) (.cells #[.int .i64 o0, .int .i64 o1] 49)
  have hq0 : (w.alloc (.cells #[.int .i64 o0, .int .i64 o1] 49)).cell? ⟨w.heap.size, 0, none⟩ = some (.int .i64 o0) := by simp [go_sem]
  have hq1 : (w.alloc (.cells #[.int .i64 o0, .int .i64 o1] 49)).cell? ⟨w.heap.size, 1, none⟩ = some (.int .i64 o1) := by simp [go_sem]
  clear hk hkz hkf hkm hK
  go_enter Try.func6, Try.ntmps6
  go_wp2_with fail
  generalize w.alloc (.cells #[.int .i64 o0, .int .i64 o1] 49) = W0 at *
  have hlt0 : w.heap.size < W0.heap.size := World.block_lt_of_cell? _ _ hq0
  refine (lwakes_any _).mono ?_
  rintro e W1 ⟨rfl, hb1⟩
  have hq0 := kept_later hb1 hq0
  have hq1 := kept_later hb1 hq1
  go_wp2_with fail
  refine (newF_any _).mono ?_
  rintro e W2 ⟨rfl, hb2⟩
  have hb3 := bel_next (bel_next hb0 hb1) hb2
  have hF := FAt.new (newF_lies W2) 25
  simp only [newF] at hF
  have hb4 := bel_alloc hb3 (.cells #[.slice none 0 0, .slice none 0 0, .int .i64 (-1), .int .i64 (-1), .bool false] 25)
  have hg : w.heap.size ≤ W2.heap.size := hb3.size
  have hgl : W2.heap.size < (W2.alloc (.cells #[.slice none 0 0, .slice none 0 0, .int .i64 (-1), .int .i64 (-1), .bool false] 25)).heap.size := by rw [World.size_alloc]; omega
  have hq0 := kept_later (bel_alloc hb2 (.cells #[.slice none 0 0, .slice none 0 0, .int .i64 (-1), .int .i64 (-1), .bool false] 25)) hq0
  have hq1 := kept_later (bel_alloc hb2 (.cells #[.slice none 0 0, .slice none 0 0, .int .i64 (-1), .int .i64 (-1), .bool false] 25)) hq1
  have hng : w.heap.size < W2.heap.size := Nat.lt_of_lt_of_le (Nat.lt_of_lt_of_le hlt0 hb1.size) hb2.size
  clear hb0 hb1 hb2 hb3
  go_wp2_with fail
  generalize W2.alloc (.cells #[.slice none 0 0, .slice none 0 0, .int .i64 (-1), .int .i64 (-1), .bool false] 25) = W3 at *
  generalize W2.heap.size = g at *
  refine (few_any a len cap _ hfit hmost).mono ?_
  rintro e W4 ⟨rfl, rfl⟩
  obtain ⟨m, hm⟩ : ∃ m, min len 40 = m := ⟨_, rfl⟩
  rw [hm]
  have hml : m ≤ len := by omega
  have hm40 : m ≤ 40 := by omega
  clear hm
  have HD := Lib.hid hD
  have HX := Lib.hid hX
  have HF := Lib.hid (show FAt W3 g newF from hF)
  have HXs := Lib.hid (show newF.s = ⟨[], [], -1, -1, false⟩ from rfl)
  have HR := Lib.hid (show FileS.right ⟨[], [], -1, -1, false⟩ = true by kernel_rfl)
  have HQ := Lib.hid (And.intro hq0 hq1)
  clear hD hX hF hmost hfit hq0 hq1
  go_wp2_with fail
  go_loopw [30] (fun iv wr => ∃ (i : Nat) (fi : List UInt8) (lo : List (List UInt8)) (X : FileT), i ≤ m ∧ iv = .int .i64 i ∧ Hid (FAt wr g X) ∧ Hid (X.s = ⟨fi, lo, -1, -1, false⟩) ∧ Hid (FileS.right ⟨fi, lo, -1, -1, false⟩ = true) ∧ Hid (wr.cell? ⟨w.heap.size, 0, none⟩ = some (.int .i64 o0) ∧ wr.cell? ⟨w.heap.size, 1, none⟩ = some (.int .i64 o1)) ∧ Below w.heap.size w wr ∧ g < wr.heap.size) (fun iv _ => m - (intOf iv).toNat)
  case atStart => exact ⟨0, [], [], newF, Nat.zero_le _, rfl, HF, HXs, HR, HQ, hb4, hgl⟩
  case round =>
    clear HF HXs HR HQ hb4 hgl
    obtain ⟨i, fi, lo, X, hi, rfl, HF, HXs, HR, HQ, hbr, hgr⟩ := hrel
    rename World => wr
    by_cases hlt : i < m
    · obtain ⟨b, off, x, rfl, hbB, hx, c0, c1, c2, c3, c4⟩ := deed_at (Shows.below HD.out hbr) (show i < len by omega)
      have hxo := ((HX.out x (List.mem_of_getElem? hx)).later hbr).more hbr.size
      have hbw := (HX.out x (List.mem_of_getElem? hx)).bytes.away hg
      have hlt' : (i : Int) < (m : Int) := by omega
      have hi0 : (0 : Int) ≤ (i : Int) := by omega
      have x1 := bel_alloc (Below.refl wr.heap.size wr) (.cells #[.int .i64 x.kind, .int .i64 x.n, .int .i64 x.tear, .slice x.bytes.A x.bytes.n x.bytes.c, .slice x.keep.A x.keep.n x.keep.c] 34)
      have HDB := Lib.hid (DBox.new wr x 34)
      have HF1 := Lib.hid (HF.out.later x1)
      have HQ1 := Lib.hid (And.intro (kept_later x1 HQ.out.1) (kept_later x1 HQ.out.2))
      have hb7 := hbr.trans (x1.mono hbr.size)
      have HXO := Lib.hid ((hxo.later x1).more x1.size)
      have hgm := Nat.lt_of_lt_of_le hgr x1.size
      have hwc := fun W => which_any x W
      have hq7 := (which_is x.kind).2
      clear hx hxo HF HQ hbr hgr x1
      go_upto_region 7 with fail
      clear c0 c1 c2 c3 c4
      generalize wr.alloc (.cells #[.int .i64 x.kind, .int .i64 x.n, .int .i64 x.tear, .slice x.bytes.A x.bytes.n x.bytes.c, .slice x.keep.A x.keep.n x.keep.c] 34) = V0 at *
      generalize wr.heap.size = gx at *
      obtain ⟨d0, d1, d2, d3, d4⟩ := HDB.out
      by_cases hgo : whichN x.kind < 4 ∧ 0 < x.bytes.n
      · have hq4 : (((whichN x.kind : Nat) : Int) < 4) = True := by simp; omega
        have hn0 : 0 < x.bytes.n := hgo.2
        have Hps := Lib.hid (plain_step2 fi lo (fi ++ lo.flatten).length x (by omega) (by omega))
        generalize whichN x.kind = q at *
        clear hgo hq7
        go_wp2_with fail
        refine (hwc _).mono ?_
        rintro e V1 ⟨rfl, hb8⟩
        have HF2 := Lib.hid (HF1.out.later hb8)
        have HQ2 := Lib.hid (And.intro (kept_later hb8 HQ1.out.1) (kept_later hb8 HQ1.out.2))
        have HDB2 := Lib.hid (HDB.out.later hb8)
        have HXO2 := Lib.hid ((HXO.out.later hb8).more hb8.size)
        have hb9 := hb7.trans (hb8.mono hb7.size)
        have hgn := Nat.lt_of_lt_of_le hgm hb8.size
        clear d0 d1 d2 d3 d4 hwc hb7 hb8 HF1 HQ1 HDB HXO hgm
        obtain ⟨d0, d1, d2, d3, d4⟩ := HDB2.out
        go_upto_region 8 with fail
        clear d0 d1 d2 d3 d4 hq4 hn0
        rcases Hps.out with h8 | ⟨fi', lo', h8⟩
        · have hd1 := doesK HF2.out.l HXO2.out HXs.out HR.out (congrArg Prod.fst h8) (congrArg Prod.snd h8)
          obtain ⟨⟨f0, f1, f2, f3, f4⟩, -⟩ := HF2.out.v
          obtain ⟨d0, d1, d2, d3, d4⟩ := HDB2.out
          simp only [FileT.agg, PcT.val] at hd1
          go_wp2_with fail
          refine hd1.mono ?_
          rintro e V3 ⟨Y, rfl, hsY, hLY, hb12, haY⟩
          clear hd1 f0 f1 f2 f3 f4 d0 d1 d2 d3 d4
          have y1 := bel_alloc (Below.refl V3.heap.size V3) (.cells #[.slice Y.F.A Y.F.n Y.F.c, .slice Y.lA Y.ln Y.lc, .int .i64 Y.fuse, .int .i64 Y.fault, .bool Y.off] 25)
          have hbY := bel_next hb12 y1
          have HY3 := Lib.hid (FAt.new hLY 25)
          have hAY := haY g hgn HF2.out.a hbw
          have HYs := Lib.hid hsY
          have HF3 := Lib.hid (HF2.out.later hbY)
          have hb13 := hb9.trans (hbY.mono hb9.size)
          have hgo' := Nat.lt_of_lt_of_le hgn hbY.size
          have hn1 : ¬ V3.heap.size = g := by have := hb12.size; omega
          have HQ3 := Lib.hid (And.intro (kept_later hbY HQ2.out.1) (kept_later hbY HQ2.out.2))
          clear hsY hLY hb12 haY y1 HF2 HDB2 HXO2 HQ2 hb9 hbY hgn
          simp only [FileT.agg, PcT.val]
          go_upto_region 9 with fail
          generalize V3.alloc (.cells #[.slice Y.F.A Y.F.n Y.F.c, .slice Y.lA Y.ln Y.lc, .int .i64 Y.fuse, .int .i64 Y.fault, .bool Y.off] 25) = V4 at *
          generalize V3.heap.size = n11 at *
          have Hone := Lib.hid (one_done' HF3.out HY3.out.l hAY hb13 hg hgo')
          have Hng := Lib.hid (Nat.ne_of_lt hng)
          obtain ⟨⟨y0, y1, y2, y3, y4⟩, -⟩ := HY3.out.v
          obtain ⟨⟨f0, f1, f2, f3, f4⟩, k0, k1, k2, k3, k4⟩ := HF3.out.v
          clear HY3 HF3 hAY hb13 hgo'
          go_wp2
          all_goals
            go_roundw
            case rel => exact ⟨i + 1, fi, lo, Y, by omega, by go_num, Lib.hid Hone.out.1, HYs, HR, Lib.hid ⟨q_keep Hng.out HQ3.out.1, q_keep Hng.out HQ3.out.2⟩, Hone.out.2.1, Hone.out.2.2⟩
            case measure => simp [intOf]; omega
        · have hd1 := doesK HF2.out.l HXO2.out HXs.out HR.out (congrArg Prod.fst h8) (congrArg Prod.snd h8)
          have hr2 := doS_right HR.out x HXO2.out.bytes.len
          have HR2 := Lib.hid (show FileS.right ⟨fi', lo', -1, -1, false⟩ = true by
            have e := congrArg Prod.fst h8
            exact (congrArg FileS.right e).symm.trans hr2)
          clear hr2
          obtain ⟨⟨f0, f1, f2, f3, f4⟩, -⟩ := HF2.out.v
          obtain ⟨d0, d1, d2, d3, d4⟩ := HDB2.out
          simp only [FileT.agg, PcT.val] at hd1
          go_wp2_with fail
          refine hd1.mono ?_
          rintro e V3 ⟨Y, rfl, hsY, hLY, hb12, haY⟩
          clear hd1 f0 f1 f2 f3 f4 d0 d1 d2 d3 d4
          have y1 := bel_alloc (Below.refl V3.heap.size V3) (.cells #[.slice Y.F.A Y.F.n Y.F.c, .slice Y.lA Y.ln Y.lc, .int .i64 Y.fuse, .int .i64 Y.fault, .bool Y.off] 25)
          have hbY := bel_next hb12 y1
          have HY3 := Lib.hid (FAt.new hLY 25)
          have hAY := haY g hgn HF2.out.a hbw
          have HYs := Lib.hid hsY
          have HF3 := Lib.hid (HF2.out.later hbY)
          have hb13 := hb9.trans (hbY.mono hb9.size)
          have hgo' := Nat.lt_of_lt_of_le hgn hbY.size
          have hn1 : ¬ V3.heap.size = g := by have := hb12.size; omega
          have HQ3 := Lib.hid (And.intro (kept_later hbY HQ2.out.1) (kept_later hbY HQ2.out.2))
          clear hsY hLY hb12 haY y1 HF2 HDB2 HXO2 HQ2 hb9 hbY hgn
          simp only [FileT.agg, PcT.val]
          go_upto_region 9 with fail
          generalize V3.alloc (.cells #[.slice Y.F.A Y.F.n Y.F.c, .slice Y.lA Y.ln Y.lc, .int .i64 Y.fuse, .int .i64 Y.fault, .bool Y.off] 25) = V4 at *
          generalize V3.heap.size = n11 at *
          have Hone := Lib.hid (one_done' HF3.out HY3.out.l hAY hb13 hg hgo')
          have Hng := Lib.hid (Nat.ne_of_lt hng)
          obtain ⟨⟨y0, y1, y2, y3, y4⟩, -⟩ := HY3.out.v
          obtain ⟨⟨f0, f1, f2, f3, f4⟩, k0, k1, k2, k3, k4⟩ := HF3.out.v
          clear HY3 HF3 hAY hb13 hgo'
          go_wp2
          all_goals
            go_roundw
            case rel => exact ⟨i + 1, fi', lo', Y, by omega, by go_num, Lib.hid Hone.out.1, HYs, HR2, Lib.hid ⟨q_keep Hng.out HQ3.out.1, q_keep Hng.out HQ3.out.2⟩, Hone.out.2.1, Hone.out.2.2⟩
            case measure => simp [intOf]; omega
      · have hor : (((whichN x.kind : Nat) : Int) < 4) = False ∨ ((((whichN x.kind : Nat) : Int) < 4) = True ∧ x.bytes.n = 0) := by
          by_cases h : whichN x.kind < 4
          · exact .inr ⟨by simp; omega, by omega⟩
          · exact .inl (by simp; omega)
        generalize whichN x.kind = q at *
        clear hgo hq7
        rcases hor with hq4 | ⟨hq4, hn0⟩
        · go_wp2_with fail
          refine (hwc _).mono ?_
          rintro e V1 ⟨rfl, hb8⟩
          have HF2 := Lib.hid (HF1.out.later hb8)
          have HQ2 := Lib.hid (And.intro (kept_later hb8 HQ1.out.1) (kept_later hb8 HQ1.out.2))
          have hb9 := hb7.trans (hb8.mono hb7.size)
          have hgn := Nat.lt_of_lt_of_le hgm hb8.size
          clear d0 d1 d2 d3 d4
          obtain ⟨d0, d1, d2, d3, d4⟩ := HDB.out.later hb8
          clear hwc hb7 hb8 HF1 HQ1 HDB HXO hgm
          go_wp2
          all_goals
            go_roundw
            case rel => exact ⟨i + 1, fi, lo, X, by omega, by go_num, HF2, HXs, HR, HQ2, hb9, hgn⟩
            case measure => simp [intOf]; omega
        · have hn1 : ((0 : Int) < (x.bytes.n : Int)) = False := by simp; omega
          have hn2 : ¬ 0 < x.bytes.n := by omega
          clear hn0
          go_wp2_with fail
          refine (hwc _).mono ?_
          rintro e V1 ⟨rfl, hb8⟩
          have HF2 := Lib.hid (HF1.out.later hb8)
          have HQ2 := Lib.hid (And.intro (kept_later hb8 HQ1.out.1) (kept_later hb8 HQ1.out.2))
          have hb9 := hb7.trans (hb8.mono hb7.size)
          have hgn := Nat.lt_of_lt_of_le hgm hb8.size
          clear d0 d1 d2 d3 d4
          obtain ⟨d0, d1, d2, d3, d4⟩ := HDB.out.later hb8
          clear hwc hb7 hb8 HF1 HQ1 HDB HXO hgm
          go_wp2
          all_goals
            go_roundw
            case rel => exact ⟨i + 1, fi, lo, X, by omega, by go_num, HF2, HXs, HR, HQ2, hb9, hgn⟩
            case measure => simp [intOf]; omega
    · have HcX := Lib.hid (fun W (h : Below wr.heap.size wr W) => contentR X W ((HF.out.l.later h).more h.size) (by rw [HXs.out]; exact HR.out))
      simp only [FileT.agg, PcT.val] at HcX
      have z0 : ∀ W, Below wr.heap.size wr W → W.cell? ⟨g, 0, none⟩ = some (.slice X.F.A X.F.n X.F.c) := fun W h => (HF.out.later h).v.1.1
      have z1 : ∀ W, Below wr.heap.size wr W → W.cell? ⟨g, 1, none⟩ = some (.slice X.lA X.ln X.lc) := fun W h => (HF.out.later h).v.1.2.1
      have z2 : ∀ W, Below wr.heap.size wr W → W.cell? ⟨g, 2, none⟩ = some (.int .i64 X.fuse) := fun W h => (HF.out.later h).v.1.2.2.1
      have z3 : ∀ W, Below wr.heap.size wr W → W.cell? ⟨g, 3, none⟩ = some (.int .i64 X.fault) := fun W h => (HF.out.later h).v.1.2.2.2.1
      have z4 : ∀ W, Below wr.heap.size wr W → W.cell? ⟨g, 4, none⟩ = some (.bool X.off) := fun W h => (HF.out.later h).v.1.2.2.2.2
      go_upto_region 13 with fail
      refine wp_region_held_drew (S := fun W => Below wr.heap.size wr W) (by kernel_rfl) (below_drewN (Below.refl _ _) 1) (fun hHeld => ?_)
      refine rg_in 0 rfl (by kernel_rfl) (by kernel_rfl) (by kernel_rfl) (by rfl) (v := ?_) (fun _ _ _ h => h) hHeld (fun w hSw => ?_) ?_
      rotate_left
      · (try dsimp only at hSw); go_simp <;> (with_reducible rfl)
      (try simp only [Act.put, List.setIfInBounds_toArray, List.set_cons_zero, List.set_cons_succ])
      refine rg_in 2 rfl (by kernel_rfl) (by kernel_rfl) (by kernel_rfl) (by rfl) (v := ?_) (fun _ _ _ h => h) hHeld (fun w hSw => ?_) ?_
      rotate_left
      · (try dsimp only at hSw); go_simp <;> (with_reducible rfl)
      (try simp only [Act.put, List.setIfInBounds_toArray, List.set_cons_zero, List.set_cons_succ])
      refine rg_in 3 rfl (by kernel_rfl) (by kernel_rfl) (by kernel_rfl) (by rfl) (v := ?_) (fun _ _ _ h => h) hHeld (fun w hSw => ?_) ?_
      rotate_left
      · (try dsimp only at hSw); go_simp <;> (with_reducible rfl)
      (try simp only [Act.put, List.setIfInBounds_toArray, List.set_cons_zero, List.set_cons_succ])
      refine rg_do 1 rfl (by kernel_rfl) (by rfl) (fun K hK => ?_)
      go_simp
      (go_at_call 25; (with_reducible refine (HcX.out _ hHeld).mono ?_); (rintro e w101 ⟨p1, rfl, hpl1, hpo1, hb1, -⟩))
      have hpn1 := hpo1.len
      refine hK.out _ _ (S_call hb1 hHeld rfl) (fun hHeld => ?_)
      clear hK K
      (try simp only [Act.put, List.setIfInBounds_toArray, List.set_cons_zero, List.set_cons_succ])
      refine rg_in 4 rfl (by kernel_rfl) (by kernel_rfl) (by kernel_rfl) (by rfl) (v := ?_) (fun _ _ _ h => h) hHeld (fun w hSw => ?_) ?_
      rotate_left
      · (try dsimp only at hSw); go_simp <;> (with_reducible rfl)
      (try simp only [Act.put, List.setIfInBounds_toArray, List.set_cons_zero, List.set_cons_succ])
      refine rg_in 5 rfl (by kernel_rfl) (by kernel_rfl) (by kernel_rfl) (by rfl) (v := ?_) (fun _ _ _ h => h) hHeld (fun w hSw => ?_) ?_
      rotate_left
      · (try dsimp only at hSw); go_simp <;> (with_reducible rfl)
      (try simp only [Act.put, List.setIfInBounds_toArray, List.set_cons_zero, List.set_cons_succ])
      refine wpAnyH_done (by kernel_rfl) ?_ _
      have hbe := hHeld
      clear hHeld z0 z1 z2 z3 z4 HcX
      have HFa := Lib.hid (HF.out.later hbe)
      have hb5 := hbr.trans (hbe.mono hbr.size)
      have hKa := (HK.out.later hb5).more hb5.size
      have hcr := crashS X ⟨ka, kn, kc, kl⟩ o0 o1 _ _ HFa.out.l hKa HXs.out HR.out
      have hq0 := kept_later hbe HQ.out.1
      have hq1 := kept_later hbe HQ.out.2
      obtain ⟨⟨f0, f1, f2, f3, f4⟩, -⟩ := HFa.out.v
      simp only [FileT.agg, PcT.val] at hcr
      go_wp2_with fail
      refine hcr.mono ?_
      rintro e V2 ⟨Y, rfl, hsY, hLY, hb6, -⟩
      clear hcr f0 f1 f2 f3 f4
      have y1 := bel_alloc (Below.refl V2.heap.size V2) (.cells #[.slice Y.F.A Y.F.n Y.F.c, .slice Y.lA Y.ln Y.lc, .int .i64 Y.fuse, .int .i64 Y.fault, .bool Y.off] 25)
      have hbY := bel_next hb6 y1
      have HYa := Lib.hid (FAt.new hLY 25)
      have HFb := Lib.hid (HFa.out.later hbY)
      have hp1b := Lib.hid ((hpo1.later hbY).more hbY.size)
      have hb7 := hb5.trans (hbY.mono hb5.size)
      have HQb := Lib.hid (And.intro (kept_later hbY hq0) (kept_later hbY hq1))
      have HYs := Lib.hid hsY
      clear hsY hLY hb6 y1 hbe hb5 hbY hpo1 hKa hq0 hq1 HF HFa HQ hbr
      simp only [FileT.agg, PcT.val]
      go_upto_region 15 with fail
      generalize V2.alloc (.cells #[.slice Y.F.A Y.F.n Y.F.c, .slice Y.lA Y.ln Y.lc, .int .i64 Y.fuse, .int .i64 Y.fault, .bool Y.off] 25) = V3 at *
      generalize V2.heap.size = n14 at *
      have hrY : Y.s.right = true := by rw [HYs.out]; exact crash_right HR.out _ _ _
      have hct := contentR Y V3 HYa.out.l hrY
      obtain ⟨⟨f0, f1, f2, f3, f4⟩, -⟩ := HYa.out.v
      simp only [FileT.agg, PcT.val] at hct
      go_wp2_with fail
      refine hct.mono ?_
      rintro e V4 ⟨p2, rfl, hpl2, hpo2, hb8, -⟩
      clear hct f0 f1 f2 f3 f4
      have HYc := Lib.hid (HYa.out.later hb8)
      have HFc := Lib.hid (HFb.out.later hb8)
      have hb9 := hb7.trans (hb8.mono hb7.size)
      have HQc := Lib.hid (And.intro (kept_later hb8 HQb.out.1) (kept_later hb8 HQb.out.2))
      clear HYa HFb hb7 hb8 HQb
      have hck := checkR Y V4 HYc.out.l hrY
      obtain ⟨⟨y0, y1, y2, y3, y4⟩, -⟩ := HYc.out.v
      simp only [FileT.agg, PcT.val] at hck
      go_wp2_with fail
      refine hck.mono ?_
      rintro e V5 ⟨rfl, hb8⟩
      clear hck y0 y1 y2 y3 y4
      have HYd := Lib.hid (HYc.out.later hb8)
      have HFd := Lib.hid (HFc.out.later hb8)
      have hb10 := hb9.trans (hb8.mono hb9.size)
      have HQd := Lib.hid (And.intro (kept_later hb8 HQc.out.1) (kept_later hb8 HQc.out.2))
      have hp2d := Lib.hid ((hpo2.later hb8).more hb8.size)
      clear HYc HFc hb9 hb8 HQc hpo2 hp1b
      obtain ⟨⟨y0, y1, y2, y3, y4⟩, -⟩ := HYd.out.v
      obtain ⟨⟨f0, f1, f2, f3, f4⟩, -⟩ := HFd.out.v
      obtain ⟨hc1, hc2, hc3, hc4⟩ := crash_len (S := X.s) kl o0 o1
      have hXsS : X.s = ⟨fi, lo, -1, -1, false⟩ := HXs.out
      have hpl3 : p2.l = (X.s.crash kl o0 o1).all := by rw [hpl2, HYs.out, hXsS]
      have hn2 : p2.n = (X.s.crash kl o0 o1).all.length := by rw [← hp2d.out.len, hpl3]
      have hn1 : p1.n = X.s.all.length := by rw [← hpn1, hpl1]
      have hnF : X.s.firm.length = X.F.n := HFd.out.l.firm.len
      have hyo : Y.off = false := congrArg FileS.off HYs.out
      have hyl : Y.ln = 0 := by
        have h : Y.s.loose = [] := congrArg FileS.loose HYs.out
        have h2 := HYd.out.l.len
        have h3 : Y.L.map (·.l) = [] := h
        have h4 : Y.L = [] := List.map_eq_nil_iff.1 h3
        rw [h4] at h2
        exact h2.symm
      have g1 : ((Y.ln : Int) != 0) = false := by rw [hyl]; rfl
      have g2 : ((p1.n : Int) < (p2.n : Int)) = False := by simp; omega
      have g3 : ((p2.n : Int) < (X.F.n : Int)) = False := by simp; omega
      have HnF : X.F.n ≤ p2.n := by omega
      have hn25 : p2.n ≤ 524288 := by
        have := (rightS.1 HR.out).2.2.2.2
        rw [← hXsS] at this
        omega
      have HR2 := Lib.hid (show crashGo kl o0 o1 X.s.loose 0 X.s.firm.length X.s.firm = p2.l by rw [hpl3, hc3])
      have HTk := Lib.hid (show p2.l.take X.F.n = X.F.l by
        rw [← hnF, hpl3]
        exact (List.prefix_iff_eq_take.1 hc4).symm)
      have hn2c := hp2d.out.fits
      have Hyo := Lib.hid hyo
      clear hc1 hc2 hc3 hc4 hXsS hpl2 hpl3 hn2 hn1 hnF hyl hpl1 hpn1
      go_upto_region 18 with fail
      clear hyo g1 g2 g3 y0 y1 y2 y3 y4
      have HcE := Lib.hid (fun W (h : Below V5.heap.size V5 W) => bequal_any p2.A X.F.A X.F.n p2.c X.F.n X.F.c (p2.l.take X.F.n) X.F.l _ _ W ((((hp2d.out.later h)).here).first HnF) ((HFd.out.l.later h).firm.here) true (same_yes' HTk.out))
      have i0 : (0 : Int) ≤ (X.F.n : Int) := by omega
      have i1 : (X.F.n : Int) ≤ (p2.c : Int) := by omega
      have z0 : ∀ W, Below V5.heap.size V5 W → W.cell? ⟨g, 0, none⟩ = some (.slice X.F.A X.F.n X.F.c) := fun W h => (HFd.out.later h).v.1.1
      go_upto_region 19 with fail
      clear f0 f1 f2 f3 f4
      refine wp_region_held_drew (S := fun W => Below V5.heap.size V5 W) (by kernel_rfl) (below_drewN (Below.refl _ _) 1) (fun hHeld => ?_)
      refine rg_in 0 rfl (by kernel_rfl) (by kernel_rfl) (by kernel_rfl) (by rfl) (v := ?_) (fun _ _ _ h => h) hHeld (fun w hSw => ?_) ?_
      rotate_left
      · (try dsimp only at hSw); go_simp <;> (with_reducible rfl)
      (try simp only [Act.put, List.setIfInBounds_toArray, List.set_cons_zero, List.set_cons_succ])
      refine rg_in 1 rfl (by kernel_rfl) (by kernel_rfl) (by kernel_rfl) (by rfl) (v := ?_) (fun _ _ _ h => h) hHeld (fun w hSw => ?_) ?_
      rotate_left
      · (try dsimp only at hSw); go_simp <;> (with_reducible rfl)
      (try simp only [Act.put, List.setIfInBounds_toArray, List.set_cons_zero, List.set_cons_succ])
      refine rg_in 2 rfl (by kernel_rfl) (by kernel_rfl) (by kernel_rfl) (by rfl) (v := ?_) (fun _ _ _ h => h) hHeld (fun w hSw => ?_) ?_
      rotate_left
      · (try dsimp only at hSw); go_simp <;> (with_reducible rfl)
      (try simp only [Act.put, List.setIfInBounds_toArray, List.set_cons_zero, List.set_cons_succ])
      refine rg_in 3 rfl (by kernel_rfl) (by kernel_rfl) (by kernel_rfl) (by rfl) (v := ?_) (fun _ _ _ h => h) hHeld (fun w hSw => ?_) ?_
      rotate_left
      · (try dsimp only at hSw); go_simp <;> (with_reducible rfl)
      (try simp only [Act.put, List.setIfInBounds_toArray, List.set_cons_zero, List.set_cons_succ])
      refine rg_in 4 rfl (by kernel_rfl) (by kernel_rfl) (by kernel_rfl) (by rfl) (v := ?_) (fun _ _ _ h => h) hHeld (fun w hSw => ?_) ?_
      rotate_left
      · (try dsimp only at hSw); go_simp <;> (with_reducible rfl)
      (try simp only [Act.put, List.setIfInBounds_toArray, List.set_cons_zero, List.set_cons_succ])
      refine rg_do 5 rfl (by kernel_rfl) (by rfl) (fun K hK => ?_)
      go_simp
      (go_at_call 22; (with_reducible refine (HcE.out _ hHeld).mono ?_); (rintro e w9 ⟨rfl, rfl⟩))
      refine hK.out _ _ hHeld (fun hHeld => ?_)
      clear hK K
      (try simp only [Act.put, List.setIfInBounds_toArray, List.set_cons_zero, List.set_cons_succ])
      refine rg_in 6 rfl (by kernel_rfl) (by kernel_rfl) (by kernel_rfl) (by rfl) (v := ?_) (fun _ _ _ h => h) hHeld (fun w hSw => ?_) ?_
      rotate_left
      · (try dsimp only at hSw); go_simp <;> (with_reducible rfl)
      (try simp only [Act.put, List.setIfInBounds_toArray, List.set_cons_zero, List.set_cons_succ])
      refine wpAnyH_done (by kernel_rfl) ?_ _
      have hbe := hHeld
      clear hHeld z0 HcE i0 i1 HTk Hyo
      have HL := Lib.hid (HFd.out.l.later hbe)
      have HP2 := Lib.hid (hp2d.out.later hbe)
      have hbf := hb10.trans (hbe.mono hb10.size)
      have HK2 := Lib.hid (HK.out.later hbf)
      have hq0 := kept_later hbe HQd.out.1
      have hq1 := kept_later hbe HQd.out.2
      have HB := Lib.hid hbf
      have hsum : X.F.n + sumN X.L ≤ 524288 := by
        have h := (rightS.1 HR.out).2.2.2.2
        have h1 := HFd.out.l.firm.len
        have h2 := sumN_len HFd.out.l.loose
        rw [← HXs.out] at h
        have h3 : X.s.all.length = X.all.length := by rw [all_s]
        unfold FileT.all at h3
        rw [List.length_append] at h3
        omega
      have Hsum := Lib.hid hsum
      have hln9 : X.ln ≤ 9223372036854775807 := by
        have := HFd.out.l.fits
        have := HFd.out.l.most
        unfold maxLen at this
        omega
      have hF5 : X.F.n ≤ 524288 := by omega
      clear HFd hp2d HYd HYs HXs HR HQd hb10 hbe hbf HK hsum HnF
      generalize V5.drew = Ve at *
      obtain ⟨nA, hnA⟩ : ∃ A, p2.A = A := ⟨_, rfl⟩
      obtain ⟨lA, hlA⟩ : ∃ A, X.lA = A := ⟨_, rfl⟩
      rw [hnA, hlA]
      have HnA := Lib.hid hnA
      have HlA := Lib.hid hlA
      clear hnA hlA
      go_upto_region 21 with fail
      go_wp2_with fail
      go_loopw [117, 17] (fun iv pv wr => ∃ (i q : Nat), i ≤ X.ln ∧ iv = .int .i64 i ∧ pv = .int .i64 q ∧ Hid (q = X.F.n + sumN (X.L.take i)) ∧ q ≤ 524288 ∧ Ve = wr) (fun iv _ _ => X.ln - (intOf iv).toNat)
      case atStart => exact ⟨0, X.F.n, Nat.zero_le _, rfl, rfl, Lib.hid (by simp [sumN]), hF5, rfl⟩
      case round =>
        obtain ⟨i, q, hi, rfl, rfl, HM, hq5, rfl⟩ := hrel
        by_cases hlt : i < X.ln
        · obtain ⟨b, off, p, hAp, _, hp, hc⟩ := pc_at HL.out.row hlt
          obtain rfl : lA = some ⟨b, off, none⟩ := HlA.out.symm.trans hAp
          have hpo := HL.out.loose p (List.mem_of_getElem? hp)
          have hlt' : (i : Int) < X.ln := by omega
          have hi0 : (0 : Int) ≤ (i : Int) := by omega
          have hst := sumN_take X.L (i + 1)
          have htk : sumN (X.L.take (i + 1)) = sumN (X.L.take i) + p.n := by unfold sumN; rw [List.take_add_one, hp]; simp
          have HM2 := Lib.hid (show q + p.n = X.F.n + sumN (X.L.take (i + 1)) by rw [HM.out]; omega)
          have hmp : q + p.n ≤ 524288 := by rw [HM2.out]; have := Hsum.out; omega
          have HP := Lib.hid hpo
          have Hp := Lib.hid hp
          have HZ := Lib.hid (fun k x (hk : p.l[k]? = some x) => (HM.out ▸ crash_at HL.out HR2.out hp hk : ByteZ p2.l (stayB i k kl o0 o1) (q + k) x))
          obtain ⟨pA, hpA⟩ : ∃ A, p.A = A := ⟨_, rfl⟩
          rw [hpA] at hc
          have HpA := Lib.hid hpA
          clear hAp hp hst htk HM hpo hpA
          go_upto_region 24 with fail
          clear hc
          obtain ⟨wh, hwh⟩ : ∃ wh, (kl.getD i false && ((i : Int) != o0)) = wh := ⟨_, rfl⟩
          have Hwh := Lib.hid hwh
          clear hwh
          go_cut [20] (fun s wx => s = .bool wh ∧ Ve = wx)
          case first =>
            by_cases hik : i < kn
            · obtain ⟨b1, off1, rfl, _, hk1⟩ := HK2.out.here.cell hik
              have h2 : (i : Int) < (kn : Int) := by omega
              cases hv : kl.getD i false
              · rw [hv] at hk1
                have Hv := Lib.hid hv
                clear hv
                go_wp2
                all_goals
                  go_meet
                  case rel => exact ⟨by rw [← Hwh.out, Hv.out]; rfl, rfl⟩
              · rw [hv] at hk1
                have Hv := Lib.hid hv
                clear hv
                by_cases hio : (i : Int) = o0
                · have g1 : ((i : Int) != o0) = false := by rw [bne, beq_iff_eq.2 hio]; rfl
                  have Hg := Lib.hid g1
                  clear hio
                  go_wp2
                  all_goals
                    go_meet
                    case rel => exact ⟨by rw [← Hwh.out, Hv.out, Hg.out]; rfl, rfl⟩
                · have g1 : ((i : Int) != o0) = true := by rw [bne, beq_eq_false_iff_ne.2 hio]; rfl
                  have Hg := Lib.hid g1
                  clear hio
                  go_wp2
                  all_goals
                    go_meet
                    case rel => exact ⟨by rw [← Hwh.out, Hv.out, Hg.out]; rfl, rfl⟩
            · have h2 : ((i : Int) < (kn : Int)) = False := by simp; omega
              have hv : kl.getD i false = false := by
                rw [List.getD_eq_getElem?_getD, List.getElem?_eq_none (by have := HK2.out.here.1; simp at this; omega)]
                rfl
              have Hv := Lib.hid hv
              clear hv
              go_wp2
              all_goals
                go_meet
                case rel => exact ⟨by rw [← Hwh.out, Hv.out]; rfl, rfl⟩
          case rest =>
            obtain ⟨rfl, rfl⟩ := hcut
            have hpn9 : p.n ≤ 9223372036854775807 := by omega
            go_wp2_with fail
            go_loopw [140, 17] (fun kv pv wr => ∃ k : Nat, k ≤ p.n ∧ kv = .int .i64 k ∧ pv = .int .i64 (q + k : Nat) ∧ Ve = wr) (fun kv _ _ => p.n - (intOf kv).toNat)
            case atStart => exact ⟨0, Nat.zero_le _, rfl, rfl, rfl⟩
            case round =>
              obtain ⟨k, hk, rfl, rfl, rfl⟩ := hrel
              by_cases hlk : k < p.n
              · obtain ⟨b3, off3, hA3, _, hc3⟩ := HP.out.here.cell hlk
                obtain rfl : pA = some ⟨b3, off3, none⟩ := HpA.out.symm.trans hA3
                have hkl : k < p.l.length := by rw [HP.out.len]; exact hlk
                obtain ⟨x, hx⟩ : ∃ x, p.l[k]? = some x := ⟨_, List.getElem?_eq_getElem hkl⟩
                have hz := HZ.out k x hx
                have hxv : at8 p.l k = (x.toNat : Int) := by unfold at8; rw [List.getD_eq_getElem?_getD, hx]; rfl
                rw [hxv] at hc3
                obtain ⟨st, hst⟩ : ∃ st, stayB i k kl o0 o1 = st := ⟨_, rfl⟩
                rw [hst] at hz
                have Hst := Lib.hid hst
                have Hz := Lib.hid hz
                have hlk' : (k : Int) < (p.n : Int) := by omega
                have hk0 : (0 : Int) ≤ (k : Int) := by omega
                clear hst hz hxv hx hkl hA3
                go_upto_region 28 with fail
                go_cut [23] (fun s wx => s = .bool st ∧ Ve = wx)
                case first =>
                  cases wh
                  · by_cases hio : (i : Int) = o0
                    · have g1 : ((i : Int) == o0) = true := beq_iff_eq.2 hio
                      have He := Lib.hid (show decide ((k : Int) < o1) = st by
                        rw [← Hst.out]; unfold stayB; rw [if_pos hio])
                      clear hio
                      cases st
                      · have g2 : ((k : Int) < o1) = False := eq_false (of_decide_eq_false He.out)
                        go_wp2
                        all_goals
                          go_meet
                          case rel => exact ⟨rfl, rfl⟩
                      · have g2 : ((k : Int) < o1) = True := eq_true (of_decide_eq_true He.out)
                        go_wp2
                        all_goals
                          go_meet
                          case rel => exact ⟨rfl, rfl⟩
                    · have g1 : ((i : Int) == o0) = false := beq_eq_false_iff_ne.2 hio
                      have He := Lib.hid (show false = st by
                        have h := Hwh.out
                        rw [show ((i : Int) != o0) = true by rw [bne, beq_eq_false_iff_ne.2 hio]; rfl, Bool.and_true] at h
                        rw [← Hst.out]; unfold stayB; rw [if_neg hio, h])
                      clear hio
                      go_wp2
                      all_goals
                        go_meet
                        case rel => exact ⟨by rw [← He.out], rfl⟩
                  · have He := Lib.hid (show true = st by
                      have h := Hwh.out
                      rw [Bool.and_eq_true] at h
                      have hio : ¬ (i : Int) = o0 := by
                        intro e
                        have h2 := h.2
                        rw [e, bne_self_eq_false] at h2
                        cases h2
                      rw [← Hst.out]; unfold stayB; rw [if_neg hio, h.1])
                    go_wp2
                    all_goals
                      go_meet
                      case rel => exact ⟨by rw [← He.out], rfl⟩
                case rest =>
                  obtain ⟨rfl, rfl⟩ := hcut
                  have hpl : q + k ≤ 524287 := by omega
                  have hnx : q + k + 1 = q + (k + 1) := by omega
                  have Hnx := Lib.hid hnx
                  clear hnx
                  generalize hpq : q + k = pl at *
                  have Hpq := Lib.hid hpq
                  clear hpq
                  have hpl0 : (0 : Int) ≤ (pl : Int) := by omega
                  have hnl : p2.l.length = p2.n := HP2.out.len
                  cases st
                  · by_cases hin : pl < p2.n
                    · obtain ⟨hz1, hz2⟩ := Hz.out.2 rfl (by omega)
                      obtain ⟨b4, off4, hA4, _, hc4⟩ := HP2.out.here.cell hin
                      obtain rfl : nA = some ⟨b4, off4, none⟩ := HnA.out.symm.trans hA4
                      have hz3 : at8 p2.l pl = 0 := by unfold at8; rw [List.getD_eq_getElem?_getD, hz1]; rfl
                      rw [hz3] at hc4
                      have h5 : ((p2.n : Int) ≤ (pl : Int)) = False := by simp; omega
                      have h6 : (pl : Int) < (p2.n : Int) := by omega
                      have g3 : ((pl : Int) == (p2.n : Int) - 1) = false := by rw [beq_eq_false_iff_ne]; omega
                      clear hz1 hz2 hA4 hz3 hnl
                      go_wp2
                      all_goals
                        go_roundw
                        case rel => exact ⟨k + 1, by omega, by go_num, by rw [← Hnx.out]; go_num, trivial⟩
                        case measure => simp [intOf]; omega
                    · have h5 : (p2.n : Int) ≤ (pl : Int) := by omega
                      have h6 : ((pl : Int) < (p2.n : Int)) = False := by simp; omega
                      have g3 : ((pl : Int) == (p2.n : Int) - 1) = false := by rw [beq_eq_false_iff_ne]; omega
                      clear hnl
                      go_wp2
                      all_goals
                        go_roundw
                        case rel => exact ⟨k + 1, by omega, by go_num, by rw [← Hnx.out]; go_num, trivial⟩
                        case measure => simp [intOf]; omega
                  · obtain ⟨hz1, hz2⟩ := Hz.out.1 rfl
                    have hin : pl < p2.n := by omega
                    obtain ⟨b4, off4, hA4, _, hc4⟩ := HP2.out.here.cell hin
                    obtain rfl : nA = some ⟨b4, off4, none⟩ := HnA.out.symm.trans hA4
                    have hz3 : at8 p2.l pl = (x.toNat : Int) := by unfold at8; rw [List.getD_eq_getElem?_getD, hz2]; rfl
                    rw [hz3] at hc4
                    have h5 : ((p2.n : Int) ≤ (pl : Int)) = False := by simp; omega
                    have h6 : (pl : Int) < (p2.n : Int) := by omega
                    clear hz1 hz2 hA4 hz3 hnl
                    by_cases hed : (pl : Int) = (p2.n : Int) - 1
                    · have g3 : ((pl : Int) == (p2.n : Int) - 1) = true := beq_iff_eq.2 hed
                      clear hed
                      go_wp2
                      all_goals
                        go_roundw
                        case rel => exact ⟨k + 1, by omega, by go_num, by rw [← Hnx.out]; go_num, trivial⟩
                        case measure => simp [intOf]; omega
                    · have g3 : ((pl : Int) == (p2.n : Int) - 1) = false := beq_eq_false_iff_ne.2 hed
                      clear hed
                      go_wp2
                      all_goals
                        go_roundw
                        case rel => exact ⟨k + 1, by omega, by go_num, by rw [← Hnx.out]; go_num, trivial⟩
                        case measure => simp [intOf]; omega
              · obtain rfl : p.n = k := by omega
                go_wp2
                all_goals
                  go_roundw
                  case rel => exact ⟨i + 1, q + p.n, by omega, by go_num, rfl, HM2, hmp, trivial⟩
                  case measure => simp [intOf]; omega
        · clear HM
          go_wp2
          go_ret
          exact ⟨rfl, HB.out⟩
end Go.Proofs.Ythoenmggjbojoaa
