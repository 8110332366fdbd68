/-
  Layer 10, the law FileStays: the walk.
-/
import Derived.Test.YthoenmggjbojoaaFilAN
namespace Go.Proofs.Ythoenmggjbojoaa
open Go.RowKit
set_option linter.unusedVariables false

set_option maxRecDepth 100000 in
set_option maxHeartbeats 4000000 in
theorem fileStays_walk (w : World) (a : Option Addr) (len cap : Nat) (l : List DeedT) (N : Nat) (hD : Deeds w w.heap.size a len l) (hX : ∀ x ∈ l, x.Ok w w.heap.size N) (hfit : len ≤ cap) (hmost : cap ≤ maxLen) :
    Calls Try.prog 5 #[.slice a len cap] w fun e w' => e = .returned (.bool true) ∧ Below w.heap.size w w' := by
  go_enter Try.func5, Try.ntmps5
  go_wp2_with fail
  refine (lwakes_any _).mono ?_
  rintro e W1 ⟨rfl, hb1⟩
  go_wp2_with fail
  refine (newF_any _).mono ?_
  rintro e W2 ⟨rfl, hb2⟩
  have hb3 := bel_next hb1 hb2
  have hF := FAt.new (newF_lies W2) 25
  simp only [newF] at hF
  have hb4 := bel_alloc hb3 (.cells #[.slice none 0 0, .slice none 0 0, .int .i64 (-1), .int .i64 (-1), .bool false] 25)
  have hg : w.heap.size ≤ W2.heap.size := hb3.size
  have hgl : W2.heap.size < (W2.alloc (.cells #[.slice none 0 0, .slice none 0 0, .int .i64 (-1), .int .i64 (-1), .bool false] 25)).heap.size := by simp
  clear hb1 hb2 hb3
  go_wp2_with fail
  generalize W2.alloc (.cells #[.slice none 0 0, .slice none 0 0, .int .i64 (-1), .int .i64 (-1), .bool false] 25) = W3 at *
  generalize W2.heap.size = g at *
  refine (few_any a len cap _ hfit hmost).mono ?_
  rintro e W4 ⟨rfl, rfl⟩
  obtain ⟨m, hm⟩ : ∃ m, min len 40 = m := ⟨_, rfl⟩
  rw [hm]
  have hml : m ≤ len := by omega
  have hm40 : m ≤ 40 := by omega
  clear hm
  have HD := Lib.hid hD
  have HX := Lib.hid hX
  have HF := Lib.hid (show FAt W3 g newF from hF)
  have HR := Lib.hid (show newF.s.right = true by kernel_rfl)
  clear hD hX hF hmost hfit
  go_wp2_with fail
  go_loopw [4, 15] (fun fv iv wr => ∃ (i : Nat) (X : FileT), i ≤ m ∧ iv = .int .i64 i ∧ fv = .slice X.F.A X.F.n X.F.c ∧ Hid (FAt wr g X) ∧ Hid (X.s.right = true) ∧ Below w.heap.size w wr ∧ g < wr.heap.size) (fun _ iv _ => m - (intOf iv).toNat)
  case atStart => exact ⟨0, newF, Nat.zero_le _, rfl, rfl, HF, HR, hb4, hgl⟩
  case round =>
    clear HF HR hb4 hgl
    obtain ⟨i, X, hi, rfl, rfl, HF, HR, hbr, hgr⟩ := hrel
    rename World => wr
    by_cases hlt : i < m
    · obtain ⟨b, off, x, rfl, hbB, hx, c0, c1, c2, c3, c4⟩ := deed_at (Shows.below HD.out hbr) (show i < len by omega)
      have hxo := ((HX.out x (List.mem_of_getElem? hx)).later hbr).more hbr.size
      have hlt' : (i : Int) < (m : Int) := by omega
      have hi0 : (0 : Int) ≤ (i : Int) := by omega
      obtain ⟨⟨f0, f1, f2, f3, f4⟩, k0, k1, k2, k3, k4⟩ := HF.out.v
      have x1 := bel_alloc (Below.refl wr.heap.size wr) (.cells #[.int .i64 x.kind, .int .i64 x.n, .int .i64 x.tear, .slice x.bytes.A x.bytes.n x.bytes.c, .slice x.keep.A x.keep.n x.keep.c] 34)
      have hdo := doesR X x N (wr.alloc (.cells #[.int .i64 x.kind, .int .i64 x.n, .int .i64 x.tear, .slice x.bytes.A x.bytes.n x.bytes.c, .slice x.keep.A x.keep.n x.keep.c] 34)) ((HF.out.l.later x1).more x1.size) ((hxo.later x1).more x1.size) HR.out
      have hDB := Lib.hid (DBox.new wr x 34)
      simp only [FileT.agg, PcT.val] at hdo
      have hbw := (HX.out x (List.mem_of_getElem? hx)).bytes.away hg
      clear hx
      go_wp2_with fail
      refine hdo.mono ?_
      rintro e W5 ⟨Y, rfl, hs, hL, hb5, haw⟩
      clear hdo c0 c1 c2 c3 c4 f0 f1 f2 f3 f4 k0 k1 k2 k3 k4
      have hbx := bel_next x1 hb5
      have hag : AwayF Y g := haw g (by have := x1.size; omega) HF.out.a hbw
      have hFo := HF.out.later hbx
      have HRy := Lib.hid (doR hxo HR.out hs)
      obtain ⟨ht1, ht2, ht3⟩ := doS_stays X.s X.s.all.length x
      rw [← hs] at ht1
      have hpre := Lib.hid (show X.F.l <+: Y.F.l from ht1)
      generalize (doS X.s X.s.all.length x).2 = er at *
      have hdb := hDB.out.later hb5
      have y1 := bel_alloc (Below.refl W5.heap.size W5) (.cells #[.slice Y.F.A Y.F.n Y.F.c, .slice Y.lA Y.ln Y.lc, .int .i64 Y.fuse, .int .i64 Y.fault, .bool Y.off] 25)
      have hFY := Lib.hid (FAt.new hL 25)
      have hFo2 := Lib.hid (hFo.later y1)
      have HLY := Lib.hid ((hL.later y1).more y1.size)
      have hdb2 := Lib.hid (hdb.later y1)
      have HAG := Lib.hid hag
      have hb7 := hbr.trans ((bel_next hbx y1).mono hbr.size)
      have hsz7 : g < (W5.alloc (.cells #[.slice Y.F.A Y.F.n Y.F.c, .slice Y.lA Y.ln Y.lc, .int .i64 Y.fuse, .int .i64 Y.fault, .bool Y.off] 25)).heap.size := by have := hbx.size; have := y1.size; omega
      clear hs hL hFo hdb hDB y1 hag haw ht1 hbx hb5 x1
      simp only [FileT.agg, PcT.val]
      go_upto_region 9 with fail
      generalize W5.alloc (.cells #[.slice Y.F.A Y.F.n Y.F.c, .slice Y.lA Y.ln Y.lc, .int .i64 Y.fuse, .int .i64 Y.fault, .bool Y.off] 25) = W6 at *
      generalize W5.heap.size = n7 at *
      by_cases her : er = 2
      · obtain ⟨hq, hn⟩ := ht3 her
        subst her
        have hq3 : (((whichN x.kind : Nat) : Int) < 3) = True := by simp; omega
        have hn0 : ((x.bytes.n : Int) == 0) = true := by rw [beq_iff_eq]; omega
        obtain ⟨d0, d1, d2, d3, d4⟩ := hdb2.out
        have HDB := Lib.hid hdb2.out
        have hwc := fun W => which_any x W
        generalize whichN x.kind = q at *
        clear hq ht2 ht3 hn hFo2 hFY HLY HAG HF HR HRy hpre hdb2
        go_wp2_with fail
        refine (hwc _).mono ?_
        rintro e W8 ⟨rfl, hb8⟩
        have hb9 := hb7.trans (hb8.mono hb7.size)
        clear hwc d0 d1 d2 d3 d4
        obtain ⟨d0, d1, d2, d3, d4⟩ := HDB.out.later hb8
        clear HDB hb7 hb8
        go_wp2
        all_goals
          go_ret
          exact ⟨rfl, hb9⟩
      · have he1 : (er == 2) = false := beq_eq_false_iff_ne.2 her
        have he2 : (er == 200) = false := beq_eq_false_iff_ne.2 ht2
        clear her ht2 ht3 hdb2
        obtain ⟨⟨j0, j1, j2, j3, j4⟩, -⟩ := hFY.out.v
        obtain ⟨⟨f0, f1, f2, f3, f4⟩, k0, k1, k2, k3, k4⟩ := hFo2.out.v
        have HF7 := FAt.set hFo2.out.v HLY.out HAG.out
        have HX7 := hFo2.out.l.firm.setAway5 hFo2.out.a.firm (.slice Y.F.A Y.F.n Y.F.c) (.slice Y.lA Y.ln Y.lc) (.int .i64 Y.fuse) (.int .i64 Y.fault) (.bool Y.off)
        have hb9 := fbelow_set5 (a := .slice Y.F.A Y.F.n Y.F.c) (b := .slice Y.lA Y.ln Y.lc) (c := .int .i64 Y.fuse) (d := .int .i64 Y.fault) (e := .bool Y.off) hb7 hg
        have hs9 : g < (set5F W6 g (.slice Y.F.A Y.F.n Y.F.c) (.slice Y.lA Y.ln Y.lc) (.int .i64 Y.fuse) (.int .i64 Y.fault) (.bool Y.off)).heap.size := by rw [size_set5]; exact hsz7
        unfold set5F at HF7 HX7 hs9
        clear hFo2 hFY HLY HAG HF HR hb7 hsz7
        go_upto_region 12 with fail
        clear j0 j1 j2 j3 j4 f0 f1 f2 f3 f4 k0 k1 k2 k3 k4
        generalize (((((W6.setCell ⟨g, 0, none⟩ (.slice Y.F.A Y.F.n Y.F.c)).setCell ⟨g, 1, none⟩ (.slice Y.lA Y.ln Y.lc)).setCell ⟨g, 2, none⟩ (.int .i64 Y.fuse)).setCell ⟨g, 3, none⟩ (.int .i64 Y.fault)).setCell ⟨g, 4, none⟩ (.bool Y.off)) = W7 at *
        obtain ⟨⟨f0, f1, f2, f3, f4⟩, k0, k1, k2, k3, k4⟩ := HF7.v
        have hpf := hasPrefix_any Y.F.A X.F.A Y.F.n Y.F.c X.F.n X.F.c Y.F.l X.F.l _ _ W7 HF7.l.firm.here HX7.here HF7.l.firm.fits true (prefix_yes HF7.l.firm.len HX7.len hpre.out)
        have hck := checkR Y W7 HF7.l HRy.out
        simp only [FileT.agg, PcT.val] at hck
        have HF8 := Lib.hid HF7
        clear HF7 HX7
        go_wp2_with fail
        refine hpf.mono ?_
        rintro e W8 ⟨rfl, rfl⟩
        clear hpf
        go_wp2_with fail
        refine hck.mono ?_
        rintro e W8 ⟨rfl, hb10⟩
        clear hck f0 f1 f2 f3 f4 k0 k1 k2 k3 k4
        have HF9 := Lib.hid (HF8.out.later hb10)
        have hb11 := hb9.trans (hb10.mono hb9.size)
        have hs11 := Nat.lt_of_lt_of_le hs9 hb10.size
        obtain ⟨⟨f0, f1, f2, f3, f4⟩, k0, k1, k2, k3, k4⟩ := HF9.out.v
        clear HF8 hb9 hb10 hs9
        go_wp2
        go_roundw
        case rel => exact ⟨i + 1, Y, by omega, by go_num, rfl, HF9, HRy, hb11, hs11⟩
        case measure => simp [intOf]; omega
    · clear HF HR
      go_wp2
      go_ret
      exact ⟨rfl, hbr⟩
end Go.Proofs.Ythoenmggjbojoaa
