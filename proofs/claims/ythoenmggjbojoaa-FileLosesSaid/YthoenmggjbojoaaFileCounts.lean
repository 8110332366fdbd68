/-
  Layer 10, the law FileCounts: the walk.
-/
import Derived.Test.YthoenmggjbojoaaFilAP
import Derived.BigRegion
namespace Go.Proofs.Ythoenmggjbojoaa
open Go.RowKit
set_option linter.unusedVariables false

theorem same_yes {l m : List UInt8} (h : l = m) : sameB l m = true := by unfold sameB; exact decide_eq_true h
/-- What a deed gives whose outcome is known. -/
def DoneP (X : FileT) (Z : Nat → Prop) (S : FileS) (k : Int) (w : World) (e : Ending) (w' : World) : Prop :=
  ∃ Y : FileT, e = .returned (.tuple #[Y.agg, .int .i64 k]) ∧ Y.s = S ∧ LieF w' w'.heap.size Y ∧ Below w.heap.size w w' ∧ (∀ g, g < w.heap.size → AwayF X g → Z g → AwayF Y g)
theorem doesK {X : FileT} {x : DeedT} {N : Nat} {w : World} {S T : FileS} {k : Int} (hL : LieF w w.heap.size X) (hx : x.Ok w w.heap.size N) (hs : X.s = S) (hr : S.right = true) (h1 : (doS S S.all.length x).1 = T) (h2 : (doS S S.all.length x).2 = k) :
    Calls Try.prog 14 #[X.agg, .agg #[.int .i64 x.kind, .int .i64 x.n, .int .i64 x.tear, .slice x.bytes.A x.bytes.n x.bytes.c, .slice x.keep.A x.keep.n x.keep.c]] w (DoneP X (AwayP x.bytes) T k w) := by
  subst hs
  refine (doesR X x N w hL hx hr).mono ?_
  rintro e w' ⟨Y, rfl, h⟩
  subst h1 h2
  exact ⟨Y, rfl, h⟩
theorem lightS (X : FileT) (n : Int) (S : FileS) (w : World) (hL : LieF w w.heap.size X) (hn : (Lit.int .i64 n).wf = true) (hs : X.s = S) (hS : S.right = true) (ho : S.off = false) :
    Calls Try.prog 27 #[X.agg, .int .i64 n] w (OkP X (fun _ => True) ⟨S.firm, S.loose, max n (-1), S.fault, false⟩ w) := by
  have hr : X.right = true := by rw [right_s hL, hs]; exact hS
  refine (lightF_any X _ n w hL (Nat.le_refl _) hr hn).mono fun e w' h => ok_of h ?_
  subst hs
  rw [if_neg (by show ¬ X.off = true; rw [show X.off = false from ho]; decide)]
  rfl
theorem fvar_other5 {W : World} {g k : Nat} {a b c d e a' b' c' d' e' : Value} (hk : g ≠ k) (h : FVar W k a b c d e) : FVar (set5F W g a' b' c' d' e') k a b c d e :=
  fvar_other 4 _ hk (fvar_other 3 _ hk (fvar_other 2 _ hk (fvar_other 1 _ hk (fvar_other 0 _ hk h))))
theorem two_set {V : World} {g h : Nat} {X T Y Z : FileT} (hX : FAt V g X) (hT : FAt V h T) (hY : LieF V V.heap.size Y) (hZ : LieF V V.heap.size Z) (hYg : AwayF Y g) (hYh : AwayF Y h) (hZg : AwayF Z g) (hZh : AwayF Z h) (hne : g ≠ h) :
    FAt (set5F (set5F V g (.slice Y.F.A Y.F.n Y.F.c) (.slice Y.lA Y.ln Y.lc) (.int .i64 Y.fuse) (.int .i64 Y.fault) (.bool Y.off)) h (.slice Z.F.A Z.F.n Z.F.c) (.slice Z.lA Z.ln Z.lc) (.int .i64 Z.fuse) (.int .i64 Z.fault) (.bool Z.off)) g Y ∧
    FAt (set5F (set5F V g (.slice Y.F.A Y.F.n Y.F.c) (.slice Y.lA Y.ln Y.lc) (.int .i64 Y.fuse) (.int .i64 Y.fault) (.bool Y.off)) h (.slice Z.F.A Z.F.n Z.F.c) (.slice Z.lA Z.ln Z.lc) (.int .i64 Z.fuse) (.int .i64 Z.fault) (.bool Z.off)) h Z := by
  refine ⟨⟨fvar_other5 (Ne.symm hne) hX.v.set5, lie_res (lie_res hY hYg) hYh, hYg⟩, ⟨(fvar_other5 hne hT.v).set5, lie_res (lie_res hZ hZg) hZh, hZh⟩⟩
theorem fat_drew {W : World} {g : Nat} {X : FileT} (h : FAt W g X) : FAt W.drew g X := h.later (below_drewN (Below.refl _ _) 1)
theorem size_drew (W : World) : W.drew.heap.size = W.heap.size := rfl
theorem two_done {w V : World} {g h : Nat} {X T Y Z : FileT} (hX : FAt V g X) (hT : FAt V h T) (hY : LieF V V.heap.size Y) (hZ : LieF V V.heap.size Z) (hYg : AwayF Y g) (hYh : AwayF Y h) (hZg : AwayF Z g) (hZh : AwayF Z h) (hne : g ≠ h)
    (hb : Below w.heap.size w V) (hg : w.heap.size ≤ g) (hh : w.heap.size ≤ h) (hgs : g < V.heap.size) (hhs : h < V.heap.size) :
    FAt (((((((((((V.setCell ⟨g, 0, none⟩ (.slice Y.F.A Y.F.n Y.F.c)).setCell ⟨g, 1, none⟩ (.slice Y.lA Y.ln Y.lc)).setCell ⟨g, 2, none⟩ (.int .i64 Y.fuse)).setCell ⟨g, 3, none⟩ (.int .i64 Y.fault)).setCell ⟨g, 4, none⟩ (.bool Y.off)).setCell ⟨h, 0, none⟩ (.slice Z.F.A Z.F.n Z.F.c)).setCell ⟨h, 1, none⟩ (.slice Z.lA Z.ln Z.lc)).setCell ⟨h, 2, none⟩ (.int .i64 Z.fuse)).setCell ⟨h, 3, none⟩ (.int .i64 Z.fault)).setCell ⟨h, 4, none⟩ (.bool Z.off)).drew) g Y ∧ FAt (((((((((((V.setCell ⟨g, 0, none⟩ (.slice Y.F.A Y.F.n Y.F.c)).setCell ⟨g, 1, none⟩ (.slice Y.lA Y.ln Y.lc)).setCell ⟨g, 2, none⟩ (.int .i64 Y.fuse)).setCell ⟨g, 3, none⟩ (.int .i64 Y.fault)).setCell ⟨g, 4, none⟩ (.bool Y.off)).setCell ⟨h, 0, none⟩ (.slice Z.F.A Z.F.n Z.F.c)).setCell ⟨h, 1, none⟩ (.slice Z.lA Z.ln Z.lc)).setCell ⟨h, 2, none⟩ (.int .i64 Z.fuse)).setCell ⟨h, 3, none⟩ (.int .i64 Z.fault)).setCell ⟨h, 4, none⟩ (.bool Z.off)).drew) h Z ∧ Below w.heap.size w (((((((((((V.setCell ⟨g, 0, none⟩ (.slice Y.F.A Y.F.n Y.F.c)).setCell ⟨g, 1, none⟩ (.slice Y.lA Y.ln Y.lc)).setCell ⟨g, 2, none⟩ (.int .i64 Y.fuse)).setCell ⟨g, 3, none⟩ (.int .i64 Y.fault)).setCell ⟨g, 4, none⟩ (.bool Y.off)).setCell ⟨h, 0, none⟩ (.slice Z.F.A Z.F.n Z.F.c)).setCell ⟨h, 1, none⟩ (.slice Z.lA Z.ln Z.lc)).setCell ⟨h, 2, none⟩ (.int .i64 Z.fuse)).setCell ⟨h, 3, none⟩ (.int .i64 Z.fault)).setCell ⟨h, 4, none⟩ (.bool Z.off)).drew) ∧ g < (((((((((((V.setCell ⟨g, 0, none⟩ (.slice Y.F.A Y.F.n Y.F.c)).setCell ⟨g, 1, none⟩ (.slice Y.lA Y.ln Y.lc)).setCell ⟨g, 2, none⟩ (.int .i64 Y.fuse)).setCell ⟨g, 3, none⟩ (.int .i64 Y.fault)).setCell ⟨g, 4, none⟩ (.bool Y.off)).setCell ⟨h, 0, none⟩ (.slice Z.F.A Z.F.n Z.F.c)).setCell ⟨h, 1, none⟩ (.slice Z.lA Z.ln Z.lc)).setCell ⟨h, 2, none⟩ (.int .i64 Z.fuse)).setCell ⟨h, 3, none⟩ (.int .i64 Z.fault)).setCell ⟨h, 4, none⟩ (.bool Z.off)).drew).heap.size ∧ h < (((((((((((V.setCell ⟨g, 0, none⟩ (.slice Y.F.A Y.F.n Y.F.c)).setCell ⟨g, 1, none⟩ (.slice Y.lA Y.ln Y.lc)).setCell ⟨g, 2, none⟩ (.int .i64 Y.fuse)).setCell ⟨g, 3, none⟩ (.int .i64 Y.fault)).setCell ⟨g, 4, none⟩ (.bool Y.off)).setCell ⟨h, 0, none⟩ (.slice Z.F.A Z.F.n Z.F.c)).setCell ⟨h, 1, none⟩ (.slice Z.lA Z.ln Z.lc)).setCell ⟨h, 2, none⟩ (.int .i64 Z.fuse)).setCell ⟨h, 3, none⟩ (.int .i64 Z.fault)).setCell ⟨h, 4, none⟩ (.bool Z.off)).drew).heap.size := by
  obtain ⟨h1, h2⟩ := two_set hX hT hY hZ hYg hYh hZg hZh hne
  have hs := (size_set5 (set5F V g (.slice Y.F.A Y.F.n Y.F.c) (.slice Y.lA Y.ln Y.lc) (.int .i64 Y.fuse) (.int .i64 Y.fault) (.bool Y.off)) h (.slice Z.F.A Z.F.n Z.F.c) (.slice Z.lA Z.ln Z.lc) (.int .i64 Z.fuse) (.int .i64 Z.fault) (.bool Z.off)).trans (size_set5 V g (.slice Y.F.A Y.F.n Y.F.c) (.slice Y.lA Y.ln Y.lc) (.int .i64 Y.fuse) (.int .i64 Y.fault) (.bool Y.off))
  have hb2 := fbelow_set5 (a := .slice Z.F.A Z.F.n Z.F.c) (b := .slice Z.lA Z.ln Z.lc) (c := .int .i64 Z.fuse) (d := .int .i64 Z.fault) (e := .bool Z.off) (fbelow_set5 (a := .slice Y.F.A Y.F.n Y.F.c) (b := .slice Y.lA Y.ln Y.lc) (c := .int .i64 Y.fuse) (d := .int .i64 Y.fault) (e := .bool Y.off) hb hg) hh
  unfold set5F at h1 h2 hs
  exact ⟨fat_drew h1, fat_drew h2, below_drewN hb2 1, by rw [size_drew, hs]; exact hgs, by rw [size_drew, hs]; exact hhs⟩
set_option maxRecDepth 100000 in
set_option maxHeartbeats 8000000 in
theorem fileCounts_walk (w : World) (a : Option Addr) (len cap : Nat) (l : List DeedT) (N : Nat) (hD : Deeds w w.heap.size a len l) (hX : ∀ x ∈ l, x.Ok w w.heap.size N) (hfit : len ≤ cap) (hmost : cap ≤ maxLen) (n : Int) (hn : (Lit.int .u8 n).wf = true) :
    Calls Try.prog 7 #[.slice a len cap, .int .u8 n] w fun e w' => e = .returned (.bool true) ∧ Below w.heap.size w w' := by
  have hn8 := wf_u8 hn
  obtain ⟨k0, rfl⟩ : ∃ k0 : Nat, n = (k0 : Int) := ⟨n.toNat, by omega⟩
  have hwf : (Lit.int .i64 (k0 : Int)).wf = true := by simp [Lit.wf, IntKind.min, IntKind.max, IntKind.bits, IntKind.signed]; omega
  have hk0 : k0 ≤ 255 := by omega
  have hmx : max (k0 : Int) (-1) = (k0 : Int) := by omega
  have hnw : wrap64 (k0 : Int) = (k0 : Int) := by unfold wrap64; omega
  have hnw2 : IntKind.i64.wrap (k0 : Int) = (k0 : Int) := by rw [IntKind.wrap_i64]; omega
  have Hmx := Lib.hid hmx
  clear hn hn8 hmx
  go_enter Try.func7, Try.ntmps7
  go_wp2_with fail
  refine (lwakes_any _).mono ?_
  rintro e W1 ⟨rfl, hb1⟩
  go_wp2_with fail
  refine (newF_any _).mono ?_
  rintro e W2 ⟨rfl, hb2⟩
  have hb3 := bel_next hb1 hb2
  have hF := FAt.new (newF_lies W2) 25
  have hli := lightS newF k0 newF.s (W2.alloc (.cells #[.slice none 0 0, .slice none 0 0, .int .i64 (-1), .int .i64 (-1), .bool false] 25)) (newF_lies _) hwf rfl (by kernel_rfl) rfl
  simp only [newF, FileT.agg, PcT.val] at hF hli
  have hb4 := bel_alloc hb3 (.cells #[.slice none 0 0, .slice none 0 0, .int .i64 (-1), .int .i64 (-1), .bool false] 25)
  have hg5 : w.heap.size ≤ W2.heap.size := hb3.size
  have hgl : W2.heap.size < (W2.alloc (.cells #[.slice none 0 0, .slice none 0 0, .int .i64 (-1), .int .i64 (-1), .bool false] 25)).heap.size := by simp
  clear hb1 hb2 hb3
  go_wp2_with fail
  generalize W2.alloc (.cells #[.slice none 0 0, .slice none 0 0, .int .i64 (-1), .int .i64 (-1), .bool false] 25) = W3 at *
  generalize W2.heap.size = g5 at *
  refine hli.mono ?_
  rintro e W4 ⟨T0, rfl, hs0, hL0, hb5, ha0⟩
  have hF4 := hF.later hb5
  have hT := FAt.new hL0 25
  have hF5 := hF4.later (bel_alloc (Below.refl _ _) (.cells #[.slice T0.F.A T0.F.n T0.F.c, .slice T0.lA T0.ln T0.lc, .int .i64 T0.fuse, .int .i64 T0.fault, .bool T0.off] 25))
  have hb6 := bel_alloc (bel_next hb4 hb5) (.cells #[.slice T0.F.A T0.F.n T0.F.c, .slice T0.lA T0.ln T0.lc, .int .i64 T0.fuse, .int .i64 T0.fault, .bool T0.off] 25)
  have hg6 : w.heap.size ≤ W4.heap.size := (bel_next hb4 hb5).size
  have hgn : g5 ≠ W4.heap.size := by have := hb5.size; omega
  have hg6l : W4.heap.size < (W4.alloc (.cells #[.slice T0.F.A T0.F.n T0.F.c, .slice T0.lA T0.ln T0.lc, .int .i64 T0.fuse, .int .i64 T0.fault, .bool T0.off] 25)).heap.size := by rw [World.size_alloc]; omega
  have hg5l : g5 < (W4.alloc (.cells #[.slice T0.F.A T0.F.n T0.F.c, .slice T0.lA T0.ln T0.lc, .int .i64 T0.fuse, .int .i64 T0.fault, .bool T0.off] 25)).heap.size := by have := hb5.size; omega
  have hA1 : AwayF newF W4.heap.size := (newF_lies W4).away (Nat.le_refl _)
  have hA2 : AwayF T0 g5 := ha0 g5 hgl hF.a trivial
  have hTs : T0.s = ⟨[], [], (k0 : Int), -1, false⟩ := by rw [hs0]; show (⟨[], [], max (k0 : Int) (-1), -1, false⟩ : FileS) = _; rw [Hmx.out]
  have HF := Lib.hid (show FAt (W4.alloc (.cells #[.slice T0.F.A T0.F.n T0.F.c, .slice T0.lA T0.ln T0.lc, .int .i64 T0.fuse, .int .i64 T0.fault, .bool T0.off] 25)) g5 newF from hF5)
  have HT := Lib.hid hT
  have HXs := Lib.hid (show newF.s = ⟨[], [], -1, -1, false⟩ from rfl)
  have HTs := Lib.hid hTs
  have HA := Lib.hid (And.intro hA1 hA2)
  have HR := Lib.hid (show FileS.right ⟨[], [], -1, -1, false⟩ = true by kernel_rfl)
  clear hli hs0 hL0 ha0 hF4 hF5 hF hT hb4 hb5 hA1 hA2 hTs hgl Hmx
  simp only [FileT.agg, PcT.val]
  go_upto_region 5 with fail
  generalize W4.alloc (.cells #[.slice T0.F.A T0.F.n T0.F.c, .slice T0.lA T0.ln T0.lc, .int .i64 T0.fuse, .int .i64 T0.fault, .bool T0.off] 25) = W5 at *
  generalize W4.heap.size = g6 at *
  go_wp2_with fail
  refine (few_any a len cap _ hfit hmost).mono ?_
  rintro e W6 ⟨rfl, rfl⟩
  obtain ⟨m, hm⟩ : ∃ m, min len 40 = m := ⟨_, rfl⟩
  rw [hm]
  have hml : m ≤ len := by omega
  have hm40 : m ≤ 40 := by omega
  clear hm
  have HD := Lib.hid hD
  have HX := Lib.hid hX
  clear hD hX hmost hfit hnw hnw2 hwf
  go_wp2_with fail
  go_loopw [8, 34] (fun lv iv wr => ∃ (i k : Nat) (fi : List UInt8) (lo : List (List UInt8)) (X T : FileT), i ≤ m ∧ iv = .int .i64 i ∧ lv = .int .i64 k ∧ k ≤ 255 ∧ Hid (FAt wr g5 X) ∧ Hid (FAt wr g6 T) ∧ Hid (X.s = ⟨fi, lo, -1, -1, false⟩) ∧ Hid (T.s = ⟨fi, lo, (k : Nat), -1, false⟩) ∧ Hid (AwayF X g6 ∧ AwayF T g5) ∧ Hid (FileS.right ⟨fi, lo, -1, -1, false⟩ = true) ∧ Below w.heap.size w wr ∧ g5 < wr.heap.size ∧ g6 < wr.heap.size) (fun _ iv _ => m - (intOf iv).toNat)
  case atStart => exact ⟨0, k0, [], [], newF, T0, Nat.zero_le _, rfl, rfl, hk0, HF, HT, HXs, HTs, HA, HR, hb6, hg5l, hg6l⟩
  case round =>
    clear HF HT HXs HTs HA HR hb6 hg5l hg6l
    obtain ⟨i, k, fi, lo, X, T, hi, rfl, rfl, hk, HF, HT, HXs, HTs, HA, HR, hbr, hg5l, hg6l⟩ := hrel
    rename World => wr
    by_cases hlt : i < m
    · obtain ⟨b, off, x, rfl, hbB, hx, c0, c1, c2, c3, c4⟩ := deed_at (Shows.below HD.out hbr) (show i < len by omega)
      have hxo := ((HX.out x (List.mem_of_getElem? hx)).later hbr).more hbr.size
      have hbw5 := (HX.out x (List.mem_of_getElem? hx)).bytes.away hg5
      have hbw6 := (HX.out x (List.mem_of_getElem? hx)).bytes.away hg6
      have hlt' : (i : Int) < (m : Int) := by omega
      have hi0 : (0 : Int) ≤ (i : Int) := by omega
      have x1 := bel_alloc (Below.refl wr.heap.size wr) (.cells #[.int .i64 x.kind, .int .i64 x.n, .int .i64 x.tear, .slice x.bytes.A x.bytes.n x.bytes.c, .slice x.keep.A x.keep.n x.keep.c] 34)
      have HDB := Lib.hid (DBox.new wr x 34)
      have HF1 := Lib.hid (HF.out.later x1)
      have HT1 := Lib.hid (HT.out.later x1)
      have hb7 := hbr.trans (x1.mono hbr.size)
      have HXO := Lib.hid ((hxo.later x1).more x1.size)
      have hg5m := Nat.lt_of_lt_of_le hg5l x1.size
      have hg6m := Nat.lt_of_lt_of_le hg6l x1.size
      have hwc := fun W => which_any x W
      have hq7 := (which_is x.kind).2
      clear hx hxo HF HT hbr hg5l hg6l x1
      go_upto_region 11 with fail
      clear c0 c1 c2 c3 c4
      generalize wr.alloc (.cells #[.int .i64 x.kind, .int .i64 x.n, .int .i64 x.tear, .slice x.bytes.A x.bytes.n x.bytes.c, .slice x.keep.A x.keep.n x.keep.c] 34) = V0 at *
      generalize wr.heap.size = gx at *
      obtain ⟨d0, d1, d2, d3, d4⟩ := HDB.out
      by_cases h3 : whichN x.kind ≤ 3
      · have hq3 : ((3 : Int) < ((whichN x.kind : Nat) : Int)) = False := by simp; omega
        by_cases hbn : whichN x.kind < 3 ∧ x.bytes.n = 0
        · have hq2 : (((whichN x.kind : Nat) : Int) < 3) = True := by simp; omega
          have hn0 : ((x.bytes.n : Int) == 0) = true := by rw [beq_iff_eq]; omega
          generalize whichN x.kind = q at *
          clear h3 hq7 hbn
          go_wp2_with fail
          refine (hwc _).mono ?_
          rintro e V1 ⟨rfl, hb8⟩
          have HDB1 := Lib.hid (HDB.out.later hb8)
          clear d0 d1 d2 d3 d4
          obtain ⟨d0, d1, d2, d3, d4⟩ := HDB1.out
          go_wp2_with fail
          refine (hwc _).mono ?_
          rintro e V2 ⟨rfl, hb10⟩
          have hb11 := bel_next hb8 hb10
          have HF2 := Lib.hid (HF1.out.later hb11)
          have HT2 := Lib.hid (HT1.out.later hb11)
          have hb9 := hb7.trans (hb11.mono hb7.size)
          have hg5n := Nat.lt_of_lt_of_le hg5m hb11.size
          have hg6n := Nat.lt_of_lt_of_le hg6m hb11.size
          clear d0 d1 d2 d3 d4
          obtain ⟨d0, d1, d2, d3, d4⟩ := HDB1.out.later hb10
          clear hwc hb7 hb8 HF1 HT1 hg5m hg6m hb10 hb11 HDB HDB1
          go_wp2
          all_goals
            go_roundw
            case rel => exact ⟨i + 1, k, fi, lo, X, T, by omega, by go_num, rfl, hk, HF2, HT2, HXs, HTs, HA, HR, hb9, hg5n, hg6n⟩
            case measure => simp [intOf]; omega
        · have hcs := counts_step fi lo k (fi ++ lo.flatten).length x h3 (by omega)
          have Hcs := Lib.hid hcs
          clear hcs
          have hor : ((((whichN x.kind : Nat) : Int) < 3) = True ∧ ((x.bytes.n : Int) == 0) = false) ∨ (((whichN x.kind : Nat) : Int) < 3) = False := by
            by_cases h : whichN x.kind < 3
            · exact .inl ⟨by simp; omega, beq_eq_false_iff_ne.2 (by omega)⟩
            · exact .inr (by simp; omega)
          generalize whichN x.kind = q at *
          clear h3 hq7 hbn
          rcases hor with ⟨hq2, hn0⟩ | hq2
          all_goals
            go_wp2_with fail
            refine (hwc _).mono ?_
            rintro e V1 ⟨rfl, hb8⟩
            have HDB1 := Lib.hid (HDB.out.later hb8)
            clear d0 d1 d2 d3 d4
            obtain ⟨d0, d1, d2, d3, d4⟩ := HDB1.out
            go_wp2_with fail
            refine (hwc _).mono ?_
            rintro e V2 ⟨rfl, hb10⟩
            have hb11 := bel_next hb8 hb10
            have HF2 := Lib.hid (HF1.out.later hb11)
            have HT2 := Lib.hid (HT1.out.later hb11)
            have hb9 := hb7.trans (hb11.mono hb7.size)
            have hg5n := Nat.lt_of_lt_of_le hg5m hb11.size
            have hg6n := Nat.lt_of_lt_of_le hg6m hb11.size
            have HXO2 := Lib.hid ((HXO.out.later hb11).more hb11.size)
            have HDB2 := Lib.hid (HDB1.out.later hb10)
            clear d0 d1 d2 d3 d4
            obtain ⟨d0, d1, d2, d3, d4⟩ := HDB2.out
            clear hwc hb7 hb8 HF1 HT1 hg5m hg6m hb10 hb11 HDB HDB1 HXO
            go_upto_region 12 with fail
            clear d0 d1 d2 d3 d4 hq3 hq2
            rcases Hcs.out with ⟨h8, h8'⟩ | ⟨h0, hk0', hT0, hT1⟩ | ⟨hkp, fi', lo', hS1, hT1⟩
            · have hd1 := doesK HF2.out.l HXO2.out HXs.out HR.out rfl h8
              have hrT : FileS.right ⟨fi, lo, (k : Nat), -1, false⟩ = true := right_u HR.out (by omega) (Int.le_refl _)
              obtain ⟨⟨f0, f1, f2, f3, f4⟩, -⟩ := HF2.out.v
              obtain ⟨d0, d1, d2, d3, d4⟩ := HDB2.out
              simp only [FileT.agg, PcT.val] at hd1
              go_wp2_with fail
              refine hd1.mono ?_
              rintro e V3 ⟨Y, rfl, hsY, hLY, hb12, haY⟩
              clear hd1 f0 f1 f2 f3 f4 d0 d1 d2 d3 d4
              have y1 := bel_alloc (Below.refl V3.heap.size V3) (.cells #[.slice Y.F.A Y.F.n Y.F.c, .slice Y.lA Y.ln Y.lc, .int .i64 Y.fuse, .int .i64 Y.fault, .bool Y.off] 25)
              have hbY := bel_next hb12 y1
              have g51 : g5 < V3.heap.size := Nat.lt_of_lt_of_le hg5n hb12.size
              have g61 : g6 < V3.heap.size := Nat.lt_of_lt_of_le hg6n hb12.size
              have HY3 := Lib.hid (FAt.new hLY 25)
              have HAY := Lib.hid (And.intro (haY g5 hg5n HF2.out.a hbw5) (haY g6 hg6n HA.out.1 hbw6))
              have HYs := Lib.hid hsY
              have HF3 := Lib.hid (HF2.out.later hbY)
              have HT3 := Lib.hid (HT2.out.later hbY)
              have HDB3 := Lib.hid (HDB2.out.later hbY)
              have HXO3 := Lib.hid ((HXO2.out.later hbY).more hbY.size)
              have hg5o := Nat.lt_of_lt_of_le hg5n hbY.size
              have hg6o := Nat.lt_of_lt_of_le hg6n hbY.size
              have hn1 : V3.heap.size < (V3.alloc (.cells #[.slice Y.F.A Y.F.n Y.F.c, .slice Y.lA Y.ln Y.lc, .int .i64 Y.fuse, .int .i64 Y.fault, .bool Y.off] 25)).heap.size := by rw [World.size_alloc]; omega
              clear hsY hLY hb12 haY y1 HF2 HT2 HDB2 HXO2
              simp only [FileT.agg, PcT.val]
              go_upto_region 13 with fail
              generalize V3.alloc (.cells #[.slice Y.F.A Y.F.n Y.F.c, .slice Y.lA Y.ln Y.lc, .int .i64 Y.fuse, .int .i64 Y.fault, .bool Y.off] 25) = V4 at *
              generalize V3.heap.size = n11 at *
              have hd2 := doesK HT3.out.l HXO3.out HTs.out hrT rfl h8'
              obtain ⟨⟨f0, f1, f2, f3, f4⟩, -⟩ := HT3.out.v
              obtain ⟨d0, d1, d2, d3, d4⟩ := HDB3.out
              simp only [FileT.agg, PcT.val] at hd2
              go_wp2_with fail
              refine hd2.mono ?_
              rintro e V5 ⟨Z, rfl, hsZ, hLZ, hb12, haZ⟩
              clear hd2 f0 f1 f2 f3 f4 d0 d1 d2 d3 d4
              have y1 := bel_alloc (Below.refl V5.heap.size V5) (.cells #[.slice Z.F.A Z.F.n Z.F.c, .slice Z.lA Z.ln Z.lc, .int .i64 Z.fuse, .int .i64 Z.fault, .bool Z.off] 25)
              have hbZ := bel_next hb12 y1
              have g53 : g5 < V5.heap.size := Nat.lt_of_lt_of_le hg5o hb12.size
              have g63 : g6 < V5.heap.size := Nat.lt_of_lt_of_le hg6o hb12.size
              have HZ := Lib.hid (FAt.new hLZ 25)
              have HY := Lib.hid (HY3.out.later hbZ)
              have HAZ := Lib.hid (And.intro (haZ g5 hg5o HA.out.2 hbw5) (haZ g6 hg6o HT3.out.a hbw6))
              have HZs := Lib.hid hsZ
              have HF4 := Lib.hid (HF3.out.later hbZ)
              have HT4 := Lib.hid (HT3.out.later hbZ)
              have HDB4 := Lib.hid (HDB3.out.later hbZ)
              have HXO4 := Lib.hid ((HXO3.out.later hbZ).more hbZ.size)
              clear hsZ hLZ hb12 haZ y1 HF3 HT3 HDB3 HXO3 HY3 hg5o hg6o
              simp only [FileT.agg, PcT.val]
              go_upto_region 14 with fail
              generalize V5.alloc (.cells #[.slice Z.F.A Z.F.n Z.F.c, .slice Z.lA Z.ln Z.lc, .int .i64 Z.fuse, .int .i64 Z.fault, .bool Z.off] 25) = V6 at *
              generalize V5.heap.size = n13 at *
              have HF9 := Lib.hid HF4.out
              have hb12 := hb9.trans ((bel_next hbY hbZ).mono hb9.size)
              have hg5p := Nat.lt_of_lt_of_le hg5n (bel_next hbY hbZ).size
              have hg6p := Nat.lt_of_lt_of_le hg6n (bel_next hbY hbZ).size
              clear HY HZ HAY HAZ
              go_wp2
              all_goals
                go_roundw
                case rel => exact ⟨i + 1, k, fi, lo, X, T, by omega, by go_num, rfl, hk, HF4, HT4, HXs, HTs, HA, HR, hb12, hg5p, hg6p⟩
                case measure => simp [intOf]; omega
            · have hd1 := doesK HF2.out.l HXO2.out HXs.out HR.out rfl h0
              have hrT : FileS.right ⟨fi, lo, (k : Nat), -1, false⟩ = true := right_u HR.out (by omega) (Int.le_refl _)
              have hk1 : ((k : Int) == 0) = true := by rw [beq_iff_eq]; omega
              have hb12' := hb9
              obtain ⟨⟨f0, f1, f2, f3, f4⟩, -⟩ := HF2.out.v
              obtain ⟨d0, d1, d2, d3, d4⟩ := HDB2.out
              simp only [FileT.agg, PcT.val] at hd1
              go_wp2_with fail
              refine hd1.mono ?_
              rintro e V3 ⟨Y, rfl, hsY, hLY, hb12, haY⟩
              clear hd1 f0 f1 f2 f3 f4 d0 d1 d2 d3 d4
              have y1 := bel_alloc (Below.refl V3.heap.size V3) (.cells #[.slice Y.F.A Y.F.n Y.F.c, .slice Y.lA Y.ln Y.lc, .int .i64 Y.fuse, .int .i64 Y.fault, .bool Y.off] 25)
              have hbY := bel_next hb12 y1
              have g51 : g5 < V3.heap.size := Nat.lt_of_lt_of_le hg5n hb12.size
              have g61 : g6 < V3.heap.size := Nat.lt_of_lt_of_le hg6n hb12.size
              have HY3 := Lib.hid (FAt.new hLY 25)
              have HAY := Lib.hid (And.intro (haY g5 hg5n HF2.out.a hbw5) (haY g6 hg6n HA.out.1 hbw6))
              have HYs := Lib.hid hsY
              have HF3 := Lib.hid (HF2.out.later hbY)
              have HT3 := Lib.hid (HT2.out.later hbY)
              have HDB3 := Lib.hid (HDB2.out.later hbY)
              have HXO3 := Lib.hid ((HXO2.out.later hbY).more hbY.size)
              have hg5o := Nat.lt_of_lt_of_le hg5n hbY.size
              have hg6o := Nat.lt_of_lt_of_le hg6n hbY.size
              have hn1 : V3.heap.size < (V3.alloc (.cells #[.slice Y.F.A Y.F.n Y.F.c, .slice Y.lA Y.ln Y.lc, .int .i64 Y.fuse, .int .i64 Y.fault, .bool Y.off] 25)).heap.size := by rw [World.size_alloc]; omega
              clear hsY hLY hb12 haY y1 HF2 HT2 HDB2 HXO2
              simp only [FileT.agg, PcT.val]
              go_upto_region 13 with fail
              generalize V3.alloc (.cells #[.slice Y.F.A Y.F.n Y.F.c, .slice Y.lA Y.ln Y.lc, .int .i64 Y.fuse, .int .i64 Y.fault, .bool Y.off] 25) = V4 at *
              generalize V3.heap.size = n11 at *
              have hd2 := doesK HT3.out.l HXO3.out HTs.out hrT (congrArg Prod.fst hT0) (congrArg Prod.snd hT0)
              obtain ⟨⟨f0, f1, f2, f3, f4⟩, -⟩ := HT3.out.v
              obtain ⟨d0, d1, d2, d3, d4⟩ := HDB3.out
              simp only [FileT.agg, PcT.val] at hd2
              go_wp2_with fail
              refine hd2.mono ?_
              rintro e V5 ⟨Z, rfl, hsZ, hLZ, hb12, haZ⟩
              clear hd2 f0 f1 f2 f3 f4 d0 d1 d2 d3 d4
              have y1 := bel_alloc (Below.refl V5.heap.size V5) (.cells #[.slice Z.F.A Z.F.n Z.F.c, .slice Z.lA Z.ln Z.lc, .int .i64 Z.fuse, .int .i64 Z.fault, .bool Z.off] 25)
              have hbZ := bel_next hb12 y1
              have g53 : g5 < V5.heap.size := Nat.lt_of_lt_of_le hg5o hb12.size
              have g63 : g6 < V5.heap.size := Nat.lt_of_lt_of_le hg6o hb12.size
              have HZ := Lib.hid (FAt.new hLZ 25)
              have HY := Lib.hid (HY3.out.later hbZ)
              have HAZ := Lib.hid (And.intro (haZ g5 hg5o HA.out.2 hbw5) (haZ g6 hg6o HT3.out.a hbw6))
              have HZs := Lib.hid hsZ
              have HF4 := Lib.hid (HF3.out.later hbZ)
              have HT4 := Lib.hid (HT3.out.later hbZ)
              have HDB4 := Lib.hid (HDB3.out.later hbZ)
              have HXO4 := Lib.hid ((HXO3.out.later hbZ).more hbZ.size)
              clear hsZ hLZ hb12 haZ y1 HF3 HT3 HDB3 HXO3 HY3 hg5o hg6o
              simp only [FileT.agg, PcT.val]
              go_upto_region 14 with fail
              generalize V5.alloc (.cells #[.slice Z.F.A Z.F.n Z.F.c, .slice Z.lA Z.ln Z.lc, .int .i64 Z.fuse, .int .i64 Z.fault, .bool Z.off] 25) = V6 at *
              generalize V5.heap.size = n13 at *
              have hd3 := doesK HZ.out.l HXO4.out HZs.out (right_o HR.out) rfl hT1
              obtain ⟨⟨f0, f1, f2, f3, f4⟩, -⟩ := HZ.out.v
              obtain ⟨d0, d1, d2, d3, d4⟩ := HDB4.out
              simp only [FileT.agg, PcT.val] at hd3
              clear hk0'
              go_wp2_with fail
              refine hd3.mono ?_
              rintro e V7 ⟨U, rfl, -, hLU, hb12, -⟩
              clear hd3 f0 f1 f2 f3 f4 d0 d1 d2 d3 d4
              have y1 := bel_alloc (Below.refl V7.heap.size V7) (.cells #[.slice U.F.A U.F.n U.F.c, .slice U.lA U.ln U.lc, .int .i64 U.fuse, .int .i64 U.fault, .bool U.off] 25)
              have hbU := bel_next hb12 y1
              have HZ8 := Lib.hid (HZ.out.later hbU)
              have HT8 := Lib.hid (HT4.out.later hbU)
              have hb7 := hb12'.trans ((bel_next (bel_next hbY hbZ) hbU).mono hb12'.size)
              have hzo : Z.off = true := congrArg FileS.off HZs.out
              clear hb12 hLU y1 HZ HT4 HF4 HDB4 HXO4 HY HAY HAZ hbY hbZ
              simp only [FileT.agg, PcT.val]
              go_upto_region 19 with fail
              generalize V7.alloc (.cells #[.slice U.F.A U.F.n U.F.c, .slice U.lA U.ln U.lc, .int .i64 U.fuse, .int .i64 U.fault, .bool U.off] 25) = W0 at *
              clear hbU hk1
              have HcZ := Lib.hid (fun W (h : Below W0.heap.size W0 W) => contentR Z W ((HZ8.out.l.later h).more h.size) (by rw [HZs.out]; exact right_o HR.out))
              have HcT := Lib.hid (fun W (h : Below W0.heap.size W0 W) => contentR T W ((HT8.out.l.later h).more h.size) (by rw [HTs.out]; exact hrT))
              have HlZ := Lib.hid (fun W (h : Below W0.heap.size W0 W) => HZ8.out.l.later h)
              have HlT := Lib.hid (fun W (h : Below W0.heap.size W0 W) => HT8.out.l.later h)
              have Heq := Lib.hid (show Z.s.all = T.s.all ∧ Z.F.l = T.F.l from ⟨by rw [HZs.out, HTs.out]; rfl, (congrArg FileS.firm HZs.out).trans (congrArg FileS.firm HTs.out).symm⟩)
              simp only [FileT.agg, PcT.val, hzo] at HcZ HcT
              have z0 : ∀ W, Below W0.heap.size W0 W → W.cell? ⟨n13, 0, none⟩ = some (.slice Z.F.A Z.F.n Z.F.c) := fun W h => (HZ8.out.later h).v.1.1
              have z1 : ∀ W, Below W0.heap.size W0 W → W.cell? ⟨n13, 1, none⟩ = some (.slice Z.lA Z.ln Z.lc) := fun W h => (HZ8.out.later h).v.1.2.1
              have z2 : ∀ W, Below W0.heap.size W0 W → W.cell? ⟨n13, 2, none⟩ = some (.int .i64 Z.fuse) := fun W h => (HZ8.out.later h).v.1.2.2.1
              have z3 : ∀ W, Below W0.heap.size W0 W → W.cell? ⟨n13, 3, none⟩ = some (.int .i64 Z.fault) := fun W h => (HZ8.out.later h).v.1.2.2.2.1
              have z4 : ∀ W, Below W0.heap.size W0 W → W.cell? ⟨n13, 4, none⟩ = some (.bool Z.off) := fun W h => (HZ8.out.later h).v.1.2.2.2.2
              have t0 : ∀ W, Below W0.heap.size W0 W → W.cell? ⟨g6, 0, none⟩ = some (.slice T.F.A T.F.n T.F.c) := fun W h => (HT8.out.later h).v.1.1
              have t1 : ∀ W, Below W0.heap.size W0 W → W.cell? ⟨g6, 1, none⟩ = some (.slice T.lA T.ln T.lc) := fun W h => (HT8.out.later h).v.1.2.1
              have t2 : ∀ W, Below W0.heap.size W0 W → W.cell? ⟨g6, 2, none⟩ = some (.int .i64 T.fuse) := fun W h => (HT8.out.later h).v.1.2.2.1
              have t3 : ∀ W, Below W0.heap.size W0 W → W.cell? ⟨g6, 3, none⟩ = some (.int .i64 T.fault) := fun W h => (HT8.out.later h).v.1.2.2.2.1
              have t4 : ∀ W, Below W0.heap.size W0 W → W.cell? ⟨g6, 4, none⟩ = some (.bool T.off) := fun W h => (HT8.out.later h).v.1.2.2.2.2
              rw [hzo] at z4
              clear hzo hrT
              refine wp_region_held_drew (S := fun W => Below W0.heap.size W0 W) (by kernel_rfl) (below_drewN (Below.refl _ _) 1) (fun hHeld => ?_)
              refine rg_in 0 rfl (by kernel_rfl) (by kernel_rfl) (by kernel_rfl) (by rfl) (v := ?_) (fun _ _ _ h => h) hHeld (fun w hSw => ?_) ?_
              rotate_left
              · (try dsimp only at hSw); go_simp <;> (with_reducible rfl)
              (try simp only [Act.put, List.setIfInBounds_toArray, List.set_cons_zero, List.set_cons_succ])
              refine rg_in 1 rfl (by kernel_rfl) (by kernel_rfl) (by kernel_rfl) (by rfl) (v := ?_) (fun _ _ _ h => h) hHeld (fun w hSw => ?_) ?_
              rotate_left
              · (try dsimp only at hSw); go_simp <;> (with_reducible rfl)
              (try simp only [Act.put, List.setIfInBounds_toArray, List.set_cons_zero, List.set_cons_succ])
              refine rg_in 2 rfl (by kernel_rfl) (by kernel_rfl) (by kernel_rfl) (by rfl) (v := ?_) (fun _ _ _ h => h) hHeld (fun w hSw => ?_) ?_
              rotate_left
              · (try dsimp only at hSw); go_simp <;> (with_reducible rfl)
              (try simp only [Act.put, List.setIfInBounds_toArray, List.set_cons_zero, List.set_cons_succ])
              refine rg_in 3 rfl (by kernel_rfl) (by kernel_rfl) (by kernel_rfl) (by rfl) (v := ?_) (fun _ _ _ h => h) hHeld (fun w hSw => ?_) ?_
              rotate_left
              · (try dsimp only at hSw); go_simp <;> (with_reducible rfl)
              (try simp only [Act.put, List.setIfInBounds_toArray, List.set_cons_zero, List.set_cons_succ])
              refine rg_in 4 rfl (by kernel_rfl) (by kernel_rfl) (by kernel_rfl) (by rfl) (v := ?_) (fun _ _ _ h => h) hHeld (fun w hSw => ?_) ?_
              rotate_left
              · (try dsimp only at hSw); go_simp <;> (with_reducible rfl)
              (try simp only [Act.put, List.setIfInBounds_toArray, List.set_cons_zero, List.set_cons_succ])
              refine rg_in 5 rfl (by kernel_rfl) (by kernel_rfl) (by kernel_rfl) (by rfl) (v := ?_) (fun _ _ _ h => h) hHeld (fun w hSw => ?_) ?_
              rotate_left
              · (try dsimp only at hSw); go_simp <;> (with_reducible rfl)
              (try simp only [Act.put, List.setIfInBounds_toArray, List.set_cons_zero, List.set_cons_succ])
              refine rg_in 6 rfl (by kernel_rfl) (by kernel_rfl) (by kernel_rfl) (by rfl) (v := ?_) (fun _ _ _ h => h) hHeld (fun w hSw => ?_) ?_
              rotate_left
              · (try dsimp only at hSw); go_simp <;> (with_reducible rfl)
              (try simp only [Act.put, List.setIfInBounds_toArray, List.set_cons_zero, List.set_cons_succ])
              refine rg_in 7 rfl (by kernel_rfl) (by kernel_rfl) (by kernel_rfl) (by rfl) (v := ?_) (fun _ _ _ h => h) hHeld (fun w hSw => ?_) ?_
              rotate_left
              · (try dsimp only at hSw); go_simp <;> (with_reducible rfl)
              (try simp only [Act.put, List.setIfInBounds_toArray, List.set_cons_zero, List.set_cons_succ])
              refine rg_in 8 rfl (by kernel_rfl) (by kernel_rfl) (by kernel_rfl) (by rfl) (v := ?_) (fun _ _ _ h => h) hHeld (fun w hSw => ?_) ?_
              rotate_left
              · (try dsimp only at hSw); go_simp <;> (with_reducible rfl)
              (try simp only [Act.put, List.setIfInBounds_toArray, List.set_cons_zero, List.set_cons_succ])
              refine rg_in 9 rfl (by kernel_rfl) (by kernel_rfl) (by kernel_rfl) (by rfl) (v := ?_) (fun _ _ _ h => h) hHeld (fun w hSw => ?_) ?_
              rotate_left
              · (try dsimp only at hSw); go_simp <;> (with_reducible rfl)
              (try simp only [Act.put, List.setIfInBounds_toArray, List.set_cons_zero, List.set_cons_succ])
              refine rg_in 10 rfl (by kernel_rfl) (by kernel_rfl) (by kernel_rfl) (by rfl) (v := ?_) (fun _ _ _ h => h) hHeld (fun w hSw => ?_) ?_
              rotate_left
              · (try dsimp only at hSw); go_simp <;> (with_reducible rfl)
              (try simp only [Act.put, List.setIfInBounds_toArray, List.set_cons_zero, List.set_cons_succ])
              refine rg_in 11 rfl (by kernel_rfl) (by kernel_rfl) (by kernel_rfl) (by rfl) (v := ?_) (fun _ _ _ h => h) hHeld (fun w hSw => ?_) ?_
              rotate_left
              · (try dsimp only at hSw); go_simp <;> (with_reducible rfl)
              (try simp only [Act.put, List.setIfInBounds_toArray, List.set_cons_zero, List.set_cons_succ])
              refine rg_in 13 rfl (by kernel_rfl) (by kernel_rfl) (by kernel_rfl) (by rfl) (v := ?_) (fun _ _ _ h => h) hHeld (fun w hSw => ?_) ?_
              rotate_left
              · (try dsimp only at hSw); go_simp <;> (with_reducible rfl)
              (try simp only [Act.put, List.setIfInBounds_toArray, List.set_cons_zero, List.set_cons_succ])
              refine rg_do 12 rfl (by kernel_rfl) (by rfl) (fun K hK => ?_)
              go_simp
              (go_at_call 25; (with_reducible refine (HcZ.out _ hHeld).mono ?_); (rintro e w112 ⟨p1, rfl, hpl1, hpo1, hb12, -⟩))
              refine hK.out _ _ (S_call hb12 hHeld rfl) (fun hHeld => ?_)
              clear hK K
              (try simp only [Act.put, List.setIfInBounds_toArray, List.set_cons_zero, List.set_cons_succ])
              refine rg_do 14 rfl (by kernel_rfl) (by rfl) (fun K hK => ?_)
              go_simp
              (go_at_call 25; (with_reducible refine (HcT.out _ hHeld).mono ?_); (rintro e w114 ⟨p2, rfl, hpl2, hpo2, hb14, -⟩))
              refine hK.out _ _ (S_call hb14 hHeld rfl) (fun hHeld => ?_)
              clear hK K
              (try simp only [Act.put, List.setIfInBounds_toArray, List.set_cons_zero, List.set_cons_succ])
              refine rg_do 15 rfl (by kernel_rfl) (by rfl) (fun K hK => ?_)
              have he := bequal_any p1.A p2.A p1.n p1.c p2.n p2.c p1.l p2.l _ _ w114 ((hpo1.later hb14).here) (hpo2.here) true (same_yes (hpl1.trans (Heq.out.1.trans hpl2.symm)))
              go_simp
              (go_at_call 22; (with_reducible refine he.mono ?_); (rintro e w9 ⟨rfl, rfl⟩))
              clear he
              refine hK.out _ _ hHeld (fun hHeld => ?_)
              clear hK K
              (try simp only [Act.put, List.setIfInBounds_toArray, List.set_cons_zero, List.set_cons_succ])
              refine rg_in 16 rfl (by kernel_rfl) (by kernel_rfl) (by kernel_rfl) (by rfl) (v := ?_) (fun _ _ _ h => h) hHeld (fun w hSw => ?_) ?_
              rotate_left
              · (try dsimp only at hSw); go_simp <;> (with_reducible rfl)
              (try simp only [Act.put, List.setIfInBounds_toArray, List.set_cons_zero, List.set_cons_succ])
              refine rg_in 17 rfl (by kernel_rfl) (by kernel_rfl) (by kernel_rfl) (by rfl) (v := ?_) (fun _ _ _ h => h) hHeld (fun w hSw => ?_) ?_
              rotate_left
              · (try dsimp only at hSw); go_simp <;> (with_reducible rfl)
              (try simp only [Act.put, List.setIfInBounds_toArray, List.set_cons_zero, List.set_cons_succ])
              refine rg_in 18 rfl (by kernel_rfl) (by kernel_rfl) (by kernel_rfl) (by rfl) (v := ?_) (fun _ _ _ h => h) hHeld (fun w hSw => ?_) ?_
              rotate_left
              · (try dsimp only at hSw); go_simp <;> (with_reducible rfl)
              (try simp only [Act.put, List.setIfInBounds_toArray, List.set_cons_zero, List.set_cons_succ])
              refine rg_in 19 rfl (by kernel_rfl) (by kernel_rfl) (by kernel_rfl) (by rfl) (v := ?_) (fun _ _ _ h => h) hHeld (fun w hSw => ?_) ?_
              rotate_left
              · (try dsimp only at hSw); go_simp <;> (with_reducible rfl)
              (try simp only [Act.put, List.setIfInBounds_toArray, List.set_cons_zero, List.set_cons_succ])
              refine rg_in 20 rfl (by kernel_rfl) (by kernel_rfl) (by kernel_rfl) (by rfl) (v := ?_) (fun _ _ _ h => h) hHeld (fun w hSw => ?_) ?_
              rotate_left
              · (try dsimp only at hSw); go_simp <;> (with_reducible rfl)
              (try simp only [Act.put, List.setIfInBounds_toArray, List.set_cons_zero, List.set_cons_succ])
              refine rg_in 21 rfl (by kernel_rfl) (by kernel_rfl) (by kernel_rfl) (by rfl) (v := ?_) (fun _ _ _ h => h) hHeld (fun w hSw => ?_) ?_
              rotate_left
              · (try dsimp only at hSw); go_simp <;> (with_reducible rfl)
              (try simp only [Act.put, List.setIfInBounds_toArray, List.set_cons_zero, List.set_cons_succ])
              refine rg_do 22 rfl (by kernel_rfl) (by rfl) (fun K hK => ?_)
              have he := bequal_any Z.F.A T.F.A Z.F.n Z.F.c T.F.n T.F.c Z.F.l T.F.l _ _ w114 ((HlZ.out _ hHeld).firm.here) ((HlT.out _ hHeld).firm.here) true (same_yes Heq.out.2)
              go_simp
              (go_at_call 22; (with_reducible refine he.mono ?_); (rintro e w9 ⟨rfl, rfl⟩))
              clear he
              refine hK.out _ _ hHeld (fun hHeld => ?_)
              clear hK K
              (try simp only [Act.put, List.setIfInBounds_toArray, List.set_cons_zero, List.set_cons_succ])
              refine rg_in 23 rfl (by kernel_rfl) (by kernel_rfl) (by kernel_rfl) (by rfl) (v := ?_) (fun _ _ _ h => h) hHeld (fun w hSw => ?_) ?_
              rotate_left
              · (try dsimp only at hSw); go_simp <;> (with_reducible rfl)
              (try simp only [Act.put, List.setIfInBounds_toArray, List.set_cons_zero, List.set_cons_succ])
              refine rg_in 24 rfl (by kernel_rfl) (by kernel_rfl) (by kernel_rfl) (by rfl) (v := ?_) (fun _ _ _ h => h) hHeld (fun w hSw => ?_) ?_
              rotate_left
              · (try dsimp only at hSw); go_simp <;> (with_reducible rfl)
              (try simp only [Act.put, List.setIfInBounds_toArray, List.set_cons_zero, List.set_cons_succ])
              refine rg_in 25 rfl (by kernel_rfl) (by kernel_rfl) (by kernel_rfl) (by rfl) (v := ?_) (fun _ _ _ h => h) hHeld (fun w hSw => ?_) ?_
              rotate_left
              · (try dsimp only at hSw); go_simp <;> (with_reducible rfl)
              (try simp only [Act.put, List.setIfInBounds_toArray, List.set_cons_zero, List.set_cons_succ])
              refine rg_in 26 rfl (by kernel_rfl) (by kernel_rfl) (by kernel_rfl) (by rfl) (v := ?_) (fun _ _ _ h => h) hHeld (fun w hSw => ?_) ?_
              rotate_left
              · (try dsimp only at hSw); go_simp <;> (with_reducible rfl)
              (try simp only [Act.put, List.setIfInBounds_toArray, List.set_cons_zero, List.set_cons_succ])
              refine rg_in 27 rfl (by kernel_rfl) (by kernel_rfl) (by kernel_rfl) (by rfl) (v := ?_) (fun _ _ _ h => h) hHeld (fun w hSw => ?_) ?_
              rotate_left
              · (try dsimp only at hSw); go_simp <;> (with_reducible rfl)
              (try simp only [Act.put, List.setIfInBounds_toArray, List.set_cons_zero, List.set_cons_succ])
              refine rg_in 28 rfl (by kernel_rfl) (by kernel_rfl) (by kernel_rfl) (by rfl) (v := ?_) (fun _ _ _ h => h) hHeld (fun w hSw => ?_) ?_
              rotate_left
              · (try dsimp only at hSw); go_simp <;> (with_reducible rfl)
              (try simp only [Act.put, List.setIfInBounds_toArray, List.set_cons_zero, List.set_cons_succ])
              refine wpAnyH_done (by kernel_rfl) ?_ _
              have hbe := hHeld
              clear z0 z1 z2 z3 z4 t0 t1 t2 t3 t4
              go_wp2
              all_goals
                go_ret
                exact ⟨rfl, hb7.trans (hbe.mono hb7.size)⟩
            · have hd1 := doesK HF2.out.l HXO2.out HXs.out HR.out (congrArg Prod.fst hS1) (congrArg Prod.snd hS1)
              have hrT : FileS.right ⟨fi, lo, (k : Nat), -1, false⟩ = true := right_u HR.out (by omega) (Int.le_refl _)
              have hr2 := doS_right HR.out x HXO2.out.bytes.len
              have HR2 := Lib.hid (show FileS.right ⟨fi', lo', -1, -1, false⟩ = true by
                have e := congrArg Prod.fst hS1
                exact (congrArg FileS.right e).symm.trans hr2)
              have hk1 : ((k : Int) == 0) = false := by rw [beq_eq_false_iff_ne]; omega
              clear hr2
              obtain ⟨⟨f0, f1, f2, f3, f4⟩, -⟩ := HF2.out.v
              obtain ⟨d0, d1, d2, d3, d4⟩ := HDB2.out
              simp only [FileT.agg, PcT.val] at hd1
              go_wp2_with fail
              refine hd1.mono ?_
              rintro e V3 ⟨Y, rfl, hsY, hLY, hb12, haY⟩
              clear hd1 f0 f1 f2 f3 f4 d0 d1 d2 d3 d4
              have y1 := bel_alloc (Below.refl V3.heap.size V3) (.cells #[.slice Y.F.A Y.F.n Y.F.c, .slice Y.lA Y.ln Y.lc, .int .i64 Y.fuse, .int .i64 Y.fault, .bool Y.off] 25)
              have hbY := bel_next hb12 y1
              have g51 : g5 < V3.heap.size := Nat.lt_of_lt_of_le hg5n hb12.size
              have g61 : g6 < V3.heap.size := Nat.lt_of_lt_of_le hg6n hb12.size
              have HY3 := Lib.hid (FAt.new hLY 25)
              have HAY := Lib.hid (And.intro (haY g5 hg5n HF2.out.a hbw5) (haY g6 hg6n HA.out.1 hbw6))
              have HYs := Lib.hid hsY
              have HF3 := Lib.hid (HF2.out.later hbY)
              have HT3 := Lib.hid (HT2.out.later hbY)
              have HDB3 := Lib.hid (HDB2.out.later hbY)
              have HXO3 := Lib.hid ((HXO2.out.later hbY).more hbY.size)
              have hg5o := Nat.lt_of_lt_of_le hg5n hbY.size
              have hg6o := Nat.lt_of_lt_of_le hg6n hbY.size
              have hn1 : V3.heap.size < (V3.alloc (.cells #[.slice Y.F.A Y.F.n Y.F.c, .slice Y.lA Y.ln Y.lc, .int .i64 Y.fuse, .int .i64 Y.fault, .bool Y.off] 25)).heap.size := by rw [World.size_alloc]; omega
              clear hsY hLY hb12 haY y1 HF2 HT2 HDB2 HXO2
              simp only [FileT.agg, PcT.val]
              go_upto_region 13 with fail
              generalize V3.alloc (.cells #[.slice Y.F.A Y.F.n Y.F.c, .slice Y.lA Y.ln Y.lc, .int .i64 Y.fuse, .int .i64 Y.fault, .bool Y.off] 25) = V4 at *
              generalize V3.heap.size = n11 at *
              have hd2 := doesK HT3.out.l HXO3.out HTs.out hrT (congrArg Prod.fst hT1) (congrArg Prod.snd hT1)
              obtain ⟨⟨f0, f1, f2, f3, f4⟩, -⟩ := HT3.out.v
              obtain ⟨d0, d1, d2, d3, d4⟩ := HDB3.out
              simp only [FileT.agg, PcT.val] at hd2
              go_wp2_with fail
              refine hd2.mono ?_
              rintro e V5 ⟨Z, rfl, hsZ, hLZ, hb12, haZ⟩
              clear hd2 f0 f1 f2 f3 f4 d0 d1 d2 d3 d4
              have y1 := bel_alloc (Below.refl V5.heap.size V5) (.cells #[.slice Z.F.A Z.F.n Z.F.c, .slice Z.lA Z.ln Z.lc, .int .i64 Z.fuse, .int .i64 Z.fault, .bool Z.off] 25)
              have hbZ := bel_next hb12 y1
              have g53 : g5 < V5.heap.size := Nat.lt_of_lt_of_le hg5o hb12.size
              have g63 : g6 < V5.heap.size := Nat.lt_of_lt_of_le hg6o hb12.size
              have HZ := Lib.hid (FAt.new hLZ 25)
              have HY := Lib.hid (HY3.out.later hbZ)
              have HAZ := Lib.hid (And.intro (haZ g5 hg5o HA.out.2 hbw5) (haZ g6 hg6o HT3.out.a hbw6))
              have HZs := Lib.hid hsZ
              have HF4 := Lib.hid (HF3.out.later hbZ)
              have HT4 := Lib.hid (HT3.out.later hbZ)
              have HDB4 := Lib.hid (HDB3.out.later hbZ)
              have HXO4 := Lib.hid ((HXO3.out.later hbZ).more hbZ.size)
              clear hsZ hLZ hb12 haZ y1 HF3 HT3 HDB3 HXO3 HY3 hg5o hg6o
              simp only [FileT.agg, PcT.val]
              go_upto_region 14 with fail
              generalize V5.alloc (.cells #[.slice Z.F.A Z.F.n Z.F.c, .slice Z.lA Z.ln Z.lc, .int .i64 Z.fuse, .int .i64 Z.fault, .bool Z.off] 25) = V6 at *
              generalize V5.heap.size = n13 at *
              go_upto_region 21 with fail
              clear hk1
              have hb7 := hb9.trans ((bel_next hbY hbZ).mono hb9.size)
              have hg5p := Nat.lt_of_lt_of_le hg5n (bel_next hbY hbZ).size
              have hg6p := Nat.lt_of_lt_of_le hg6n (bel_next hbY hbZ).size
              clear hbY hbZ hb9
              generalize V6 = W0 at *
              have HcY := Lib.hid (fun W (h : Below W0.heap.size W0 W) => contentR Y W ((HY.out.l.later h).more h.size) (by rw [HYs.out]; exact HR2.out))
              have HcZ := Lib.hid (fun W (h : Below W0.heap.size W0 W) => contentR Z W ((HZ.out.l.later h).more h.size) (by rw [HZs.out]; exact right_u HR2.out (by omega) (Int.le_refl _)))
              have HlY := Lib.hid (fun W (h : Below W0.heap.size W0 W) => HY.out.l.later h)
              have HlZ := Lib.hid (fun W (h : Below W0.heap.size W0 W) => HZ.out.l.later h)
              have Heq := Lib.hid (show Y.s.all = Z.s.all ∧ Y.F.l = Z.F.l from ⟨by rw [HYs.out, HZs.out]; rfl, (congrArg FileS.firm HYs.out).trans (congrArg FileS.firm HZs.out).symm⟩)
              simp only [FileT.agg, PcT.val] at HcY HcZ
              have z0 : ∀ W, Below W0.heap.size W0 W → W.cell? ⟨n11, 0, none⟩ = some (.slice Y.F.A Y.F.n Y.F.c) := fun W h => (HY.out.later h).v.1.1
              have z1 : ∀ W, Below W0.heap.size W0 W → W.cell? ⟨n11, 1, none⟩ = some (.slice Y.lA Y.ln Y.lc) := fun W h => (HY.out.later h).v.1.2.1
              have z2 : ∀ W, Below W0.heap.size W0 W → W.cell? ⟨n11, 2, none⟩ = some (.int .i64 Y.fuse) := fun W h => (HY.out.later h).v.1.2.2.1
              have z3 : ∀ W, Below W0.heap.size W0 W → W.cell? ⟨n11, 3, none⟩ = some (.int .i64 Y.fault) := fun W h => (HY.out.later h).v.1.2.2.2.1
              have z4 : ∀ W, Below W0.heap.size W0 W → W.cell? ⟨n11, 4, none⟩ = some (.bool Y.off) := fun W h => (HY.out.later h).v.1.2.2.2.2
              have t0 : ∀ W, Below W0.heap.size W0 W → W.cell? ⟨n13, 0, none⟩ = some (.slice Z.F.A Z.F.n Z.F.c) := fun W h => (HZ.out.later h).v.1.1
              have t1 : ∀ W, Below W0.heap.size W0 W → W.cell? ⟨n13, 1, none⟩ = some (.slice Z.lA Z.ln Z.lc) := fun W h => (HZ.out.later h).v.1.2.1
              have t2 : ∀ W, Below W0.heap.size W0 W → W.cell? ⟨n13, 2, none⟩ = some (.int .i64 Z.fuse) := fun W h => (HZ.out.later h).v.1.2.2.1
              have t3 : ∀ W, Below W0.heap.size W0 W → W.cell? ⟨n13, 3, none⟩ = some (.int .i64 Z.fault) := fun W h => (HZ.out.later h).v.1.2.2.2.1
              have t4 : ∀ W, Below W0.heap.size W0 W → W.cell? ⟨n13, 4, none⟩ = some (.bool Z.off) := fun W h => (HZ.out.later h).v.1.2.2.2.2
              clear hrT
              refine wp_region_held_drew (S := fun W => Below W0.heap.size W0 W) (by kernel_rfl) (below_drewN (Below.refl _ _) 1) (fun hHeld => ?_)
              refine rg_in 0 rfl (by kernel_rfl) (by kernel_rfl) (by kernel_rfl) (by rfl) (v := ?_) (fun _ _ _ h => h) hHeld (fun w hSw => ?_) ?_
              rotate_left
              · (try dsimp only at hSw); go_simp <;> (with_reducible rfl)
              (try simp only [Act.put, List.setIfInBounds_toArray, List.set_cons_zero, List.set_cons_succ])
              refine rg_in 1 rfl (by kernel_rfl) (by kernel_rfl) (by kernel_rfl) (by rfl) (v := ?_) (fun _ _ _ h => h) hHeld (fun w hSw => ?_) ?_
              rotate_left
              · (try dsimp only at hSw); go_simp <;> (with_reducible rfl)
              (try simp only [Act.put, List.setIfInBounds_toArray, List.set_cons_zero, List.set_cons_succ])
              refine rg_in 2 rfl (by kernel_rfl) (by kernel_rfl) (by kernel_rfl) (by rfl) (v := ?_) (fun _ _ _ h => h) hHeld (fun w hSw => ?_) ?_
              rotate_left
              · (try dsimp only at hSw); go_simp <;> (with_reducible rfl)
              (try simp only [Act.put, List.setIfInBounds_toArray, List.set_cons_zero, List.set_cons_succ])
              refine rg_in 3 rfl (by kernel_rfl) (by kernel_rfl) (by kernel_rfl) (by rfl) (v := ?_) (fun _ _ _ h => h) hHeld (fun w hSw => ?_) ?_
              rotate_left
              · (try dsimp only at hSw); go_simp <;> (with_reducible rfl)
              (try simp only [Act.put, List.setIfInBounds_toArray, List.set_cons_zero, List.set_cons_succ])
              refine rg_in 4 rfl (by kernel_rfl) (by kernel_rfl) (by kernel_rfl) (by rfl) (v := ?_) (fun _ _ _ h => h) hHeld (fun w hSw => ?_) ?_
              rotate_left
              · (try dsimp only at hSw); go_simp <;> (with_reducible rfl)
              (try simp only [Act.put, List.setIfInBounds_toArray, List.set_cons_zero, List.set_cons_succ])
              refine rg_in 5 rfl (by kernel_rfl) (by kernel_rfl) (by kernel_rfl) (by rfl) (v := ?_) (fun _ _ _ h => h) hHeld (fun w hSw => ?_) ?_
              rotate_left
              · (try dsimp only at hSw); go_simp <;> (with_reducible rfl)
              (try simp only [Act.put, List.setIfInBounds_toArray, List.set_cons_zero, List.set_cons_succ])
              refine rg_in 6 rfl (by kernel_rfl) (by kernel_rfl) (by kernel_rfl) (by rfl) (v := ?_) (fun _ _ _ h => h) hHeld (fun w hSw => ?_) ?_
              rotate_left
              · (try dsimp only at hSw); go_simp <;> (with_reducible rfl)
              (try simp only [Act.put, List.setIfInBounds_toArray, List.set_cons_zero, List.set_cons_succ])
              refine rg_in 7 rfl (by kernel_rfl) (by kernel_rfl) (by kernel_rfl) (by rfl) (v := ?_) (fun _ _ _ h => h) hHeld (fun w hSw => ?_) ?_
              rotate_left
              · (try dsimp only at hSw); go_simp <;> (with_reducible rfl)
              (try simp only [Act.put, List.setIfInBounds_toArray, List.set_cons_zero, List.set_cons_succ])
              refine rg_in 9 rfl (by kernel_rfl) (by kernel_rfl) (by kernel_rfl) (by rfl) (v := ?_) (fun _ _ _ h => h) hHeld (fun w hSw => ?_) ?_
              rotate_left
              · (try dsimp only at hSw); go_simp <;> (with_reducible rfl)
              (try simp only [Act.put, List.setIfInBounds_toArray, List.set_cons_zero, List.set_cons_succ])
              refine rg_do 8 rfl (by kernel_rfl) (by rfl) (fun K hK => ?_)
              go_simp
              (go_at_call 25; (with_reducible refine (HcY.out _ hHeld).mono ?_); (rintro e w108 ⟨p1, rfl, hpl1, hpo1, hb8, -⟩))
              refine hK.out _ _ (S_call hb8 hHeld rfl) (fun hHeld => ?_)
              clear hK K
              (try simp only [Act.put, List.setIfInBounds_toArray, List.set_cons_zero, List.set_cons_succ])
              refine rg_do 10 rfl (by kernel_rfl) (by rfl) (fun K hK => ?_)
              go_simp
              (go_at_call 25; (with_reducible refine (HcZ.out _ hHeld).mono ?_); (rintro e w110 ⟨p2, rfl, hpl2, hpo2, hb10, -⟩))
              refine hK.out _ _ (S_call hb10 hHeld rfl) (fun hHeld => ?_)
              clear hK K
              (try simp only [Act.put, List.setIfInBounds_toArray, List.set_cons_zero, List.set_cons_succ])
              refine rg_do 11 rfl (by kernel_rfl) (by rfl) (fun K hK => ?_)
              have he := bequal_any p1.A p2.A p1.n p1.c p2.n p2.c p1.l p2.l _ _ w110 ((hpo1.later hb10).here) (hpo2.here) true (same_yes (hpl1.trans (Heq.out.1.trans hpl2.symm)))
              go_simp
              (go_at_call 22; (with_reducible refine he.mono ?_); (rintro e w9 ⟨rfl, rfl⟩))
              clear he
              refine hK.out _ _ hHeld (fun hHeld => ?_)
              clear hK K
              (try simp only [Act.put, List.setIfInBounds_toArray, List.set_cons_zero, List.set_cons_succ])
              refine rg_in 12 rfl (by kernel_rfl) (by kernel_rfl) (by kernel_rfl) (by rfl) (v := ?_) (fun _ _ _ h => h) hHeld (fun w hSw => ?_) ?_
              rotate_left
              · (try dsimp only at hSw); go_simp <;> (with_reducible rfl)
              (try simp only [Act.put, List.setIfInBounds_toArray, List.set_cons_zero, List.set_cons_succ])
              refine rg_in 13 rfl (by kernel_rfl) (by kernel_rfl) (by kernel_rfl) (by rfl) (v := ?_) (fun _ _ _ h => h) hHeld (fun w hSw => ?_) ?_
              rotate_left
              · (try dsimp only at hSw); go_simp <;> (with_reducible rfl)
              (try simp only [Act.put, List.setIfInBounds_toArray, List.set_cons_zero, List.set_cons_succ])
              refine rg_in 14 rfl (by kernel_rfl) (by kernel_rfl) (by kernel_rfl) (by rfl) (v := ?_) (fun _ _ _ h => h) hHeld (fun w hSw => ?_) ?_
              rotate_left
              · (try dsimp only at hSw); go_simp <;> (with_reducible rfl)
              (try simp only [Act.put, List.setIfInBounds_toArray, List.set_cons_zero, List.set_cons_succ])
              refine rg_in 15 rfl (by kernel_rfl) (by kernel_rfl) (by kernel_rfl) (by rfl) (v := ?_) (fun _ _ _ h => h) hHeld (fun w hSw => ?_) ?_
              rotate_left
              · (try dsimp only at hSw); go_simp <;> (with_reducible rfl)
              (try simp only [Act.put, List.setIfInBounds_toArray, List.set_cons_zero, List.set_cons_succ])
              refine rg_in 16 rfl (by kernel_rfl) (by kernel_rfl) (by kernel_rfl) (by rfl) (v := ?_) (fun _ _ _ h => h) hHeld (fun w hSw => ?_) ?_
              rotate_left
              · (try dsimp only at hSw); go_simp <;> (with_reducible rfl)
              (try simp only [Act.put, List.setIfInBounds_toArray, List.set_cons_zero, List.set_cons_succ])
              refine rg_in 17 rfl (by kernel_rfl) (by kernel_rfl) (by kernel_rfl) (by rfl) (v := ?_) (fun _ _ _ h => h) hHeld (fun w hSw => ?_) ?_
              rotate_left
              · (try dsimp only at hSw); go_simp <;> (with_reducible rfl)
              (try simp only [Act.put, List.setIfInBounds_toArray, List.set_cons_zero, List.set_cons_succ])
              refine rg_in 18 rfl (by kernel_rfl) (by kernel_rfl) (by kernel_rfl) (by rfl) (v := ?_) (fun _ _ _ h => h) hHeld (fun w hSw => ?_) ?_
              rotate_left
              · (try dsimp only at hSw); go_simp <;> (with_reducible rfl)
              (try simp only [Act.put, List.setIfInBounds_toArray, List.set_cons_zero, List.set_cons_succ])
              refine rg_do 19 rfl (by kernel_rfl) (by rfl) (fun K hK => ?_)
              have he := bequal_any Y.F.A Z.F.A Y.F.n Y.F.c Z.F.n Z.F.c Y.F.l Z.F.l _ _ w110 ((HlY.out _ hHeld).firm.here) ((HlZ.out _ hHeld).firm.here) true (same_yes Heq.out.2)
              go_simp
              (go_at_call 22; (with_reducible refine he.mono ?_); (rintro e w9 ⟨rfl, rfl⟩))
              clear he
              refine hK.out _ _ hHeld (fun hHeld => ?_)
              clear hK K
              (try simp only [Act.put, List.setIfInBounds_toArray, List.set_cons_zero, List.set_cons_succ])
              refine rg_in 20 rfl (by kernel_rfl) (by kernel_rfl) (by kernel_rfl) (by rfl) (v := ?_) (fun _ _ _ h => h) hHeld (fun w hSw => ?_) ?_
              rotate_left
              · (try dsimp only at hSw); go_simp <;> (with_reducible rfl)
              (try simp only [Act.put, List.setIfInBounds_toArray, List.set_cons_zero, List.set_cons_succ])
              refine rg_in 21 rfl (by kernel_rfl) (by kernel_rfl) (by kernel_rfl) (by rfl) (v := ?_) (fun _ _ _ h => h) hHeld (fun w hSw => ?_) ?_
              rotate_left
              · (try dsimp only at hSw); go_simp <;> (with_reducible rfl)
              (try simp only [Act.put, List.setIfInBounds_toArray, List.set_cons_zero, List.set_cons_succ])
              refine wpAnyH_done (by kernel_rfl) ?_ _
              have hbe := hHeld
              clear hHeld z0 z1 z2 z3 z4 t0 t1 t2 t3 t4 HcY HcZ HlY HlZ Heq
              have HY9 := HY.out.later hbe
              have HZ9 := HZ.out.later hbe
              have HF9 := HF4.out.later hbe
              have HT9 := HT4.out.later hbe
              have hb9 := hb7.trans (hbe.mono hb7.size)
              have hg5q := Nat.lt_of_lt_of_le hg5p hbe.size
              have hg6q := Nat.lt_of_lt_of_le hg6p hbe.size
              have Htwo := Lib.hid (two_done HF9 HT9 HY9.l HZ9.l HAY.out.1 HAY.out.2 HAZ.out.1 HAZ.out.2 hgn hb9 hg5 hg6 hg5q hg6q)
              obtain ⟨⟨y0, y1, y2, y3, y4⟩, -⟩ := HY9.v
              obtain ⟨⟨z0, z1, z2, z3, z4⟩, -⟩ := HZ9.v
              obtain ⟨⟨f0, f1, f2, f3, f4⟩, k0, k1, k2, k3, k4⟩ := HF9.v
              obtain ⟨⟨t0, t1, t2, t3, t4⟩, m0, m1, m2, m3, m4⟩ := HT9.v
              clear HY9 HZ9 HF9 HT9 HY HZ HF4 HT4 HDB4 HXO4 hb7 hg5p hg6p hbe hpo1 hpo2 hpl1 hpl2
              have q1 : ¬ n11 = g5 := by omega
              have q2 : ¬ n11 = g6 := by omega
              have q3 : ¬ n13 = g5 := by omega
              have q4 : ¬ n13 = g6 := by omega
              have q5 : ¬ g5 = g6 := hgn
              have q6 : ¬ g6 = g5 := Ne.symm hgn
              clear g51 g61 g53 g63
              go_upto_region 23 with fail
              go_region
              clear q1 q2 q3 q4 q5 q6 y0 y1 y2 y3 y4 z0 z1 z2 z3 z4 f0 f1 f2 f3 f4 k0 k1 k2 k3 k4 t0 t1 t2 t3 t4 m0 m1 m2 m3 m4
              have HF9 := Lib.hid Htwo.out.1
              have HT9 := Lib.hid Htwo.out.2.1
              have HAW := Lib.hid (And.intro HAY.out.2 HAZ.out.1)
              have HB9 := Lib.hid Htwo.out.2.2
              clear Htwo hb9 hg5q hg6q
              go_wp2
              go_roundw
              case rel => exact ⟨i + 1, k - 1, fi', lo', Y, Z, by omega, by go_num, congrArg (Value.int .i64) (by omega), by omega, HF9, HT9, HYs, HZs, HAW, HR2, HB9.out.1, HB9.out.2.1, HB9.out.2.2⟩
              case measure => simp [intOf]; omega
      · have hq3 : ((3 : Int) < ((whichN x.kind : Nat) : Int)) = True := by simp; omega
        generalize whichN x.kind = q at *
        clear h3 hq7
        go_wp2_with fail
        refine (hwc _).mono ?_
        rintro e V1 ⟨rfl, hb8⟩
        have HF2 := Lib.hid (HF1.out.later hb8)
        have HT2 := Lib.hid (HT1.out.later hb8)
        have hb9 := hb7.trans (hb8.mono hb7.size)
        have hg5n := Nat.lt_of_lt_of_le hg5m hb8.size
        have hg6n := Nat.lt_of_lt_of_le hg6m hb8.size
        clear hwc d0 d1 d2 d3 d4 hb7 hb8 HF1 HT1 hg5m hg6m
        go_wp2
        all_goals
          go_roundw
          case rel => exact ⟨i + 1, k, fi, lo, X, T, by omega, by go_num, rfl, hk, HF2, HT2, HXs, HTs, HA, HR, hb9, hg5n, hg6n⟩
          case measure => simp [intOf]; omega
    · obtain ⟨⟨f0, f1, f2, f3, f4⟩, -⟩ := HT.out.v
      have hoff := congrArg FileS.off HTs.out
      have ho : T.off = false := hoff
      clear HF HT HXs HTs HA HR hoff
      go_wp2
      go_ret
      exact ⟨rfl, hbr⟩
end Go.Proofs.Ythoenmggjbojoaa
