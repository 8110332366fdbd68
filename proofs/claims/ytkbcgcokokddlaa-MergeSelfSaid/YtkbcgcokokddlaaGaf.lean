import Derived.Test.YtkbcgcokokddlaaGae
import Derived.Deep.CutBlock
import Derived.Test.YtkbcgcokokddlaaRows
import Derived.Test.YtkbcgcokokddlaaGab
/-
  Layer 15: the reference's With, Sort.
-/
namespace Go.Proofs.Ytkbcgcokokddlaa
open Go.RowKit
set_option linter.unusedVariables false
set_option linter.unusedSimpArgs false

/-- A new row of one edit. -/
theorem ed_new (w : World) (x : EdT) : Shows (w.alloc (.cells #[.slice x.k.A x.k.n x.k.c, .bool x.put, .slice x.v.A x.v.n x.v.c, .bool x.b, .int .i64 x.n] 49)) (w.heap.size + 1) 5 (some ⟨w.heap.size, 0, none⟩) 1 x.cells :=
  ⟨rfl, fun _ => ⟨w.heap.size, 0, rfl, by omega, fun j u hu => by rw [Nat.zero_add, cell_of_row _ _ j _ _ _ (heap_alloc_new w _)]; simpa [EdT.cells] using hu⟩⟩
theorem OwnE.snoc {W w' : World} {D B n c c' : Nat} {A A' : Option Addr} {E : List EdT} {x : EdT} (h : OwnE W D B ⟨A, n, c, E⟩) (hbb : Below B W w') (hown : w'.ownsRow D 49 5 (.slice A' (n + 1) c') (n + 1) (E.flatMap EdT.cells ++ x.cells)) (hx : x.Ok w' B) : OwnE w' D B ⟨A', n + 1, c', E ++ [x]⟩ := by
  refine ⟨?_, fun y hy => ?_⟩
  · show w'.ownsRow D _ 5 _ (n + 1) ((E ++ [x]).flatMap EdT.cells)
    rw [List.flatMap_append, List.flatMap_singleton]
    exact hown
  · rcases List.mem_append.1 hy with hy | hy
    · exact (h.all y hy).later hbb
    · rw [List.mem_singleton.1 hy]
      exact hx
/-- What With has yet to do. -/
def restE (d : Bool) (l : List EdS) (x : EdS) : List EdS := if d then l.filter (fun z => decide (z.k ≠ x.k)) else withE l x
theorem restE_true (l : List EdS) (x : EdS) : restE true l x = l.filter (fun z => decide (z.k ≠ x.k)) := by unfold restE; rw [if_pos rfl]
theorem restE_false (l : List EdS) (x : EdS) : restE false l x = withE l x := by unfold restE; rw [if_neg Bool.noConfusion]
theorem restE_step (d : Bool) (y : EdS) (l : List EdS) (x : EdS) (a b : Bool) (ha : a = true ↔ d = false ∧ ¬ cmpL y.k x.k < 0) (hb : b = true ↔ y.k = x.k) : restE d (y :: l) x = (if a then [x] else []) ++ ((if b then [] else [y]) ++ restE (d || a) l x) := by
  have hy : (y :: l).filter (fun z => decide (z.k ≠ x.k)) = (if b then [] else [y]) ++ l.filter (fun z => decide (z.k ≠ x.k)) := by
    rw [List.filter_cons]
    cases b
    · rw [if_pos (by simp only [decide_eq_true_iff]; intro h; exact Bool.noConfusion (hb.2 h))]
      rfl
    · rw [if_neg (by simp only [decide_eq_true_iff]; intro h; exact h (hb.1 rfl))]
      rfl
  cases d
  · rw [restE_false]
    cases a
    · have hlt : cmpL y.k x.k < 0 := Classical.byContradiction (fun h => Bool.noConfusion (ha.2 ⟨rfl, h⟩))
      have hne : y.k ≠ x.k := fun e => by rw [e, cmpL_self] at hlt; omega
      have hbf : b = false := by cases b with | false => rfl | true => exact absurd (hb.1 rfl) hne
      subst hbf
      unfold withE
      rw [if_pos hlt, Bool.or_false, restE_false]
      rfl
    · have hlt := (ha.1 rfl).2
      unfold withE
      rw [if_neg hlt, hy, Bool.or_true, restE_true]
      rfl
  · have haf : a = false := by cases a with | false => rfl | true => exact Bool.noConfusion (ha.1 rfl).1
    subst haf
    rw [restE_true, hy, Bool.or_false, restE_true]
    rfl
theorem restE_end (d : Bool) (x : EdS) : restE d [] x = if d then [] else [x] := by
  cases d
  · rw [restE_false]; rfl
  · rw [restE_true]; rfl
def WthP (l : List EdS) (x : EdS) (W : World) (e : Ending) (W' : World) : Prop := Below W.heap.size W W' ∧ ∃ Y : EsT, e = .returned (.slice Y.A Y.n Y.c) ∧ Y.s = withE l x ∧ Y.Lie W' W'.heap.size
set_option maxRecDepth 20000 in
set_option maxHeartbeats 2000000 in
theorem rwith_any (X : EsT) (x : EdT) (B : Nat) (w : World) (hX : X.Lie w B) (hx : x.Ok w B) (hB : B ≤ w.heap.size) (hn : X.n ≤ 1048576) :
    Calls Try.prog 41 #[.slice X.A X.n X.c, .agg #[.slice x.k.A x.k.n x.k.c, .bool x.put, .slice x.v.A x.v.n x.v.c, .bool x.b, .int .i64 x.n]] w (WthP X.s x.s w) := by
  obtain ⟨XA, n, Xc, E⟩ := X
  have hlen := hX.len
  simp only at hlen hn ⊢
  have hb0 := bel_alloc (Below.refl w.heap.size w) (.cells #[.slice x.k.A x.k.n x.k.c, .bool x.put, .slice x.v.A x.v.n x.v.c, .bool x.b, .int .i64 x.n] 49)
  have HX4 := Lib.hid (heap_alloc_new w (.cells #[.slice x.k.A x.k.n x.k.c, .bool x.put, .slice x.v.A x.v.n x.v.c, .bool x.b, .int .i64 x.n] 49))
  have HX := Lib.hid (hX.later (hb0.mono hB))
  have HXO := Lib.hid (hx.later (hb0.mono hB))
  have HBD : Hid (w.heap.size ≤ w.heap.size) := Lib.hid (Nat.le_refl _)
  have HB := Lib.hid hB
  have HL := Lib.hid hlen
  have HB0 := Lib.hid hb0
  obtain ⟨i0, hi0, hz0, hz1, hz2⟩ := edit_info
  clear hX hx hB hlen hb0
  go_enter Try.func41, Try.ntmps41
  go_wp2_with fail
  generalize w.alloc (.cells #[.slice x.k.A x.k.n x.k.c, .bool x.put, .slice x.v.A x.v.n x.v.c, .bool x.b, .int .i64 x.n] 49) = W1 at *
  obtain ⟨k3, hk3⟩ : ∃ k3, w.heap.size = k3 := ⟨_, rfl⟩
  rw [hk3] at HX4 ⊢
  have HK3 := Lib.hid hk3
  obtain ⟨TG, hTG⟩ : ∃ TG, withE (E.map EdT.s) x.s = TG := ⟨_, rfl⟩
  have HTG := Lib.hid hTG
  have HD0 : Hid (EsT.s ⟨none, 0, 0, []⟩ ++ restE false ((E.drop 0).map EdT.s) x.s = TG) := Lib.hid (by rw [restE_false]; exact hTG)
  have HBD1 : Hid (W1.heap.size ≤ W1.heap.size) := Lib.hid (Nat.le_refl _)
  have HBW1 : Hid (B ≤ W1.heap.size) := Lib.hid (Nat.le_trans HB.out HB0.out.size)
  clear hTG hk3
  go_loopw [5, 6, 7] (fun o d s wr => ∃ (i : Nat) (dn : Bool) (Z : EsT), o = .slice Z.A Z.n Z.c ∧ d = .bool dn ∧ s = .int .i64 i ∧ i ≤ n ∧ Z.n ≤ i + 1 ∧ Hid (Z.n + (if dn then 0 else 1) ≤ i + 1) ∧ Hid (OwnE wr W1.heap.size B Z) ∧ Hid (Z.s ++ restE dn ((E.drop i).map EdT.s) x.s = TG) ∧ Hid (Below W1.heap.size W1 wr)) (fun _ _ s _ => n - (intOf s).toNat)
  case atStart => exact ⟨0, false, ⟨none, 0, 0, []⟩, rfl, rfl, rfl, Nat.zero_le _, by decide, Lib.hid (Nat.le_refl _), Lib.hid (OwnE.none _ _ _), HD0, Lib.hid (Below.refl _ _)⟩
  case round =>
    obtain ⟨i, dn, ⟨ZA, Zn, Zc, ZE⟩, rfl, rfl, rfl, hi, hZn, HZN, HOZ, HEQ, HBr⟩ := hrel
    simp only at hZn HZN ⊢
    have HBD : Hid (W1.heap.size ≤ wr.heap.size) := Lib.hid HBr.out.size
    have HBw : Hid (B ≤ wr.heap.size) := Lib.hid (Nat.le_trans HBW1.out HBr.out.size)
    by_cases hin : i < n
    · obtain ⟨b, off, y, hA, hbb, hy, v0, v1, v2, v3, v4⟩ := ed_at HX.out.row (i := i) hin
      have hyo1 := HX.out.all y (List.mem_of_getElem? hy)
      have hyo := hyo1.later (HBr.out.mono HBW1.out)
      have hxo := HXO.out.later (HBr.out.mono HBW1.out)
      obtain ⟨⟨x0, x1, x2, x3, x4⟩, -⟩ := five_blk (blk_later HX4.out HBr.out)
      simp only at hA hy
      subst hA
      obtain ⟨zl, hzl⟩ : ∃ z, decide (cmpL y.k.l x.k.l < 0) = z := ⟨_, rfl⟩
      obtain ⟨zi, hzi⟩ : ∃ z, sameB y.k.l x.k.l = z := ⟨_, rfl⟩
      have hle := fun (j : Nat) => rahead_any y.k x.k B B (wr.drewN j) (hyo.key.later (below_drewN (Below.refl B wr) j)) (hxo.key.later (below_drewN (Below.refl B wr) j))
      rw [hzl] at hle
      have HIS : Hid (∀ W, Below W1.heap.size W1 W → Calls Try.prog 42 #[.slice y.k.A y.k.n y.k.c, .slice x.k.A x.k.n x.k.c] W fun e w' => e = .returned (.bool zi) ∧ W = w') := Lib.hid (fun W h => ris_any y.k x.k B B W (hyo1.key.later (h.mono HBW1.out)) (HXO.out.key.later (h.mono HBW1.out)) zi hzi)
      have HA : Hid ((!dn && !zl) = true ↔ dn = false ∧ ¬ cmpL y.s.k x.s.k < 0) := Lib.hid (by
        rw [← hzl, Bool.and_eq_true, Bool.not_eq_true', Bool.not_eq_true', decide_eq_false_iff_not]
        exact Iff.rfl)
      have HBI : Hid (zi = true ↔ y.s.k = x.s.k) := Lib.hid (by rw [← hzi]; unfold sameB; exact decide_eq_true_iff)
      have hdr : (E.drop i).map EdT.s = y.s :: (E.drop (i + 1)).map EdT.s := by
        obtain ⟨hl, he⟩ := List.getElem?_eq_some_iff.1 hy
        rw [List.drop_eq_getElem_cons hl, he]
        rfl
      have HEQ2 : Hid (EsT.s ⟨ZA, Zn, Zc, ZE⟩ ++ ((if (!dn && !zl) then [x.s] else []) ++ ((if zi then [] else [y.s]) ++ restE (dn || (!dn && !zl)) ((E.drop (i + 1)).map EdT.s) x.s)) = TG) := Lib.hid (by
        rw [← restE_step dn y.s _ x.s _ _ HA.out HBI.out, ← hdr]
        exact HEQ.out)
      have hin' : (i : Int) < (n : Int) := by omega
      have w3 : wrap64 ((i : Int) + 1) = ((i + 1 : Nat) : Int) := by unfold wrap64; omega
      have HYO := Lib.hid hyo
      have HXO2 := Lib.hid hxo
      have HYall : Hid (∀ W, Below W1.heap.size W1 W → W.cell? ⟨b, off + i * 5, none⟩ = some (.slice y.k.A y.k.n y.k.c) ∧ W.cell? ⟨b, off + i * 5 + 1, none⟩ = some (.bool y.put) ∧ W.cell? ⟨b, off + i * 5 + 2, none⟩ = some (.slice y.v.A y.v.n y.v.c) ∧ W.cell? ⟨b, off + i * 5 + 3, none⟩ = some (.bool y.b) ∧ W.cell? ⟨b, off + i * 5 + 4, none⟩ = some (.int .i64 y.n)) := Lib.hid (fun W h => ⟨kept_later h v0, kept_later h v1, kept_later h v2, kept_later h v3, kept_later h v4⟩)
      obtain ⟨y0, y1, y2, y3, y4⟩ := HYall.out wr HBr.out
      have HYO1 := Lib.hid hyo1
      have HX5 := Lib.hid (blk_later HX4.out HBr.out)
      have HIN := Lib.hid hin
      clear hzl hzi hdr hyo hyo1 hxo hbb hy HA HEQ hi hin v0 v1 v2 v3 v4
      go_upto_region 6 with fail
      go_cut [26] (fun s wx => s = .bool (!dn && !zl) ∧ Below wr.heap.size wr wx)
      case first =>
        cases dn
        · go_quiet ((go_at_call 15; exact Calls.quiet_of_same ((hle _).mono fun _ _ h => ⟨h.1, h.2.symm⟩)))
          go_wp2_with fail
          go_meet
          case rel => exact ⟨by simp, below_drewN (Below.refl _ _) _⟩
        · go_quiet (fail)
          go_wp2_with fail
          go_meet
          case rel => exact ⟨by simp, below_drewN (Below.refl _ _) _⟩
      case rest =>
        obtain ⟨rfl, hbc⟩ := hcut
        obtain ⟨st, hst⟩ : ∃ st, (!dn && !zl) = st := ⟨_, rfl⟩
        have HST := Lib.hid hst
        rw [hst]
        have HEQ3 : Hid (EsT.s ⟨ZA, Zn, Zc, ZE⟩ ++ ((if st then [x.s] else []) ++ ((if zi then [] else [y.s]) ++ restE (dn || st) ((E.drop (i + 1)).map EdT.s) x.s)) = TG) := Lib.hid (by rw [← HST.out]; exact HEQ2.out)
        have HBc := Lib.hid hbc
        have HOc := Lib.hid (HOZ.out.later HBw.out hbc)
        have HXc := Lib.hid (blk_later HX5.out hbc)
        have HXOc := Lib.hid (HXO2.out.later (hbc.mono HBw.out))
        have HBwc : Hid (B ≤ wc.heap.size) := Lib.hid (Nat.le_trans HBw.out hbc.size)
        have HBDc : Hid (W1.heap.size ≤ wc.heap.size) := Lib.hid (Nat.le_trans HBD.out hbc.size)
        clear hst hbc hle HEQ2 HX5 HXO2 HOZ HBw x0 x1 x2 x3 x4 y0 y1 y2 y3 y4
        go_upto_if 26 with fail
        go_cut [5, 6] (fun o d wx => ∃ (A5 : Option Addr) (n5 c5 : Nat) (E5 : List EdT) (d5 : Bool), o = .slice A5 n5 c5 ∧ d = .bool d5 ∧ n5 ≤ i + 1 ∧ Hid (n5 + (if d5 then 0 else 1) ≤ i + 1) ∧ Hid (OwnE wx W1.heap.size B ⟨A5, n5, c5, E5⟩) ∧ Hid (EsT.s ⟨A5, n5, c5, E5⟩ ++ ((if zi then [] else [y.s]) ++ restE d5 ((E.drop (i + 1)).map EdT.s) x.s) = TG) ∧ Hid (Below W1.heap.size wc wx))
        case first =>
          cases st
          · have HE4 : Hid (EsT.s ⟨ZA, Zn, Zc, ZE⟩ ++ ((if zi then [] else [y.s]) ++ restE dn ((E.drop (i + 1)).map EdT.s) x.s) = TG) := Lib.hid (by
              have h := HEQ3.out
              rw [Bool.or_false] at h
              exact h)
            go_wp2
            go_meet
            case rel => exact ⟨ZA, Zn, Zc, ZE, dn, rfl, rfl, hZn, HZN, HOc, HE4, Lib.hid (Below.refl _ _)⟩
          · have hdn : dn = false := by
              have h := HST.out
              cases dn
              · rfl
              · exact Bool.noConfusion h
            subst hdn
            have hZ2 : Zn + 1 ≤ i + 1 := HZN.out
            obtain ⟨⟨x0, x1, x2, x3, x4⟩, -⟩ := five_blk HXc.out
            have HBD := HBDc
            have hbC := bel_alloc (Below.refl wc.heap.size wc) (.cells #[.slice x.k.A x.k.n x.k.c, .bool x.put, .slice x.v.A x.v.n x.v.c, .bool x.b, .int .i64 x.n] 49)
            have hsC := ed_new wc x
            have hown := own_later HOc.out.row hbC
            have g1 : Zn + 1 ≤ maxLen := by unfold maxLen; omega
            have g2 : (Zn + 1) * 72 ≤ 140737488355328 := by omega
            have g3 : W1.heap.size ≤ (wc.alloc (.cells #[.slice x.k.A x.k.n x.k.c, .bool x.put, .slice x.v.A x.v.n x.v.c, .bool x.b, .int .i64 x.n] 49)).heap.size := Nat.le_trans HBD.out hbC.size
            have h1c := cells_ed1 [x]
            rw [List.flatMap_singleton] at h1c
            have HBC := Lib.hid hbC
            clear hbC
            go_wp2_with (at_builtin; refine wpList_append_shows _ rfl _ _ 22 rfl W1.heap.size 49 i0 (.agg #[.slice none 0 0, .bool false, .slice none 0 0, .bool false, .int .i64 0]) 5 72 Try.underlying22 hi0 hz0 hz1 hz2 rfl (by decide) _ _ _ rfl hown (wc.heap.size + 1) _ 1 _ _ rfl hsC h1c g1 g2 g3 ?_; intro A7 c7 w7 hown7 hgrow7 hb7; have HON7 := Lib.hid hown7; have HB7 : Hid (Below W1.heap.size wc w7) := Lib.hid ((HBC.out.mono HBD.out).trans hb7); clear hown7 hgrow7 hb7 hown hsC g1 g2 g3 h1c)
            have HBB7 : Hid (Below B wc w7) := Lib.hid (HB7.out.mono HBW1.out)
            have HO7 : Hid (OwnE w7 W1.heap.size B ⟨A7, Zn + 1, c7, ZE ++ [x]⟩) := Lib.hid (HOc.out.snoc HBB7.out HON7.out (HXOc.out.later HBB7.out))
            have HE4 : Hid (EsT.s ⟨A7, Zn + 1, c7, ZE ++ [x]⟩ ++ ((if zi then [] else [y.s]) ++ restE true ((E.drop (i + 1)).map EdT.s) x.s) = TG) := Lib.hid (by
              have h := HEQ3.out
              unfold EsT.s at h ⊢
              simp only at h ⊢
              rw [List.map_append, List.append_assoc]
              exact h)
            go_meet
            case rel => exact ⟨A7, Zn + 1, c7, ZE ++ [x], true, rfl, rfl, hZ2, Lib.hid hZ2, HO7, HE4, HB7⟩
        case rest =>
          obtain ⟨A5, n5, c5, E5, d5, rfl, rfl, hn5, HN5, HO5, HE5, HB5⟩ := hcut
          have HB6 : Hid (Below W1.heap.size W1 wc) := Lib.hid ((HBr.out.trans (HBc.out.mono HBD.out)).trans HB5.out)
          have HXO6 := Lib.hid (HXO.out.later (HB6.out.mono HBW1.out))
          obtain ⟨⟨x0, x1, x2, x3, x4⟩, -⟩ := five_blk (blk_later HX4.out HB6.out)
          obtain ⟨y0, y1, y2, y3, y4⟩ := HYall.out wc HB6.out
          have hq := fun (j : Nat) => HIS.out (wc.drewN j) (below_drewN HB6.out j)
          have HOK : Hid (OwnE wc W1.heap.size B ⟨A5, n5, c5, E5⟩) := HO5
          clear HBD HOc HXc HXOc HBwc HBDc HST HEQ3 HBc HZN
          clear hZn
          go_upto_region 9 with fail
          go_quiet ((go_at_call 42; exact Calls.quiet_of_same ((hq _).mono fun _ _ h => ⟨h.1, h.2.symm⟩)))
          have hbn := below_drewN (Below.refl wc.heap.size wc) nq
          obtain ⟨w6, hw6⟩ : ∃ w6, wc.drewN nq = w6 := ⟨_, rfl⟩
          rw [hw6] at hbn ⊢
          have HBw5 : Hid (B ≤ wc.heap.size) := Lib.hid (Nat.le_trans HBW1.out HB6.out.size)
          have HO6 := Lib.hid (HO5.out.later HBw5.out hbn)
          have HB7 := Lib.hid (HB6.out.trans (hbn.mono HB6.out.size))
          have HYO6 := Lib.hid (HYO1.out.later (HB7.out.mono HBW1.out))
          clear hw6 hq x0 x1 x2 x3 x4 y0 y1 y2 y3 y4 HO5 HOK hbn
          obtain ⟨y0, y1, y2, y3, y4⟩ := HYall.out w6 HB7.out
          cases zi
          · have HBD : Hid (W1.heap.size ≤ w6.heap.size) := Lib.hid HB7.out.size
            have hbC := bel_alloc (Below.refl w6.heap.size w6) (.cells #[.slice y.k.A y.k.n y.k.c, .bool y.put, .slice y.v.A y.v.n y.v.c, .bool y.b, .int .i64 y.n] 49)
            have hsC := ed_new w6 y
            have hown := own_later HO6.out.row hbC
            have g1 : n5 + 1 ≤ maxLen := by unfold maxLen; omega
            have g2 : (n5 + 1) * 72 ≤ 140737488355328 := by omega
            have g3 : W1.heap.size ≤ (w6.alloc (.cells #[.slice y.k.A y.k.n y.k.c, .bool y.put, .slice y.v.A y.v.n y.v.c, .bool y.b, .int .i64 y.n] 49)).heap.size := Nat.le_trans HBD.out hbC.size
            have h1c := cells_ed1 [y]
            rw [List.flatMap_singleton] at h1c
            have HBC := Lib.hid hbC
            clear hbC
            go_wp2_with (at_builtin; refine wpList_append_shows _ rfl _ _ 22 rfl W1.heap.size 49 i0 (.agg #[.slice none 0 0, .bool false, .slice none 0 0, .bool false, .int .i64 0]) 5 72 Try.underlying22 hi0 hz0 hz1 hz2 rfl (by decide) _ _ _ rfl hown (w6.heap.size + 1) _ 1 _ _ rfl hsC h1c g1 g2 g3 ?_; intro A9 c9 w9 hown9 hgrow9 hb9; have HON9 := Lib.hid hown9; have HB9 : Hid (Below W1.heap.size w6 w9) := Lib.hid ((HBC.out.mono HBD.out).trans hb9); clear hown9 hgrow9 hb9 hown hsC g1 g2 g3 h1c)
            have HBB9 : Hid (Below B w6 w9) := Lib.hid (HB9.out.mono HBW1.out)
            have HO9 : Hid (OwnE w9 W1.heap.size B ⟨A9, n5 + 1, c9, E5 ++ [y]⟩) := Lib.hid (HO6.out.snoc HBB9.out HON9.out (HYO6.out.later HBB9.out))
            have HE9 : Hid (EsT.s ⟨A9, n5 + 1, c9, E5 ++ [y]⟩ ++ restE d5 ((E.drop (i + 1)).map EdT.s) x.s = TG) := Lib.hid (by
              have h := HE5.out
              unfold EsT.s at h ⊢
              simp only at h ⊢
              rw [List.map_append, List.append_assoc]
              exact h)
            have HBz : Hid (Below W1.heap.size W1 w9) := Lib.hid (HB7.out.trans HB9.out)
            have HN9 : Hid (n5 + 1 + (if d5 then 0 else 1) ≤ i + 1 + 1) := Lib.hid (by have := HN5.out; omega)
            go_roundw
            case rel => exact ⟨i + 1, d5, ⟨A9, n5 + 1, c9, E5 ++ [y]⟩, rfl, rfl, by first | rfl | go_num, HIN.out, by show n5 + 1 ≤ i + 1 + 1; omega, HN9, HO9, HE9, HBz⟩
            case measure => have := HIN.out; simp [intOf]; omega
          · have HN9 : Hid (n5 + (if d5 then 0 else 1) ≤ i + 1 + 1) := Lib.hid (Nat.le_succ_of_le HN5.out)
            clear y0 y1 y2 y3 y4
            go_wp2_with fail
            go_roundw
            case rel => exact ⟨i + 1, d5, ⟨A5, n5, c5, E5⟩, rfl, rfl, by first | rfl | go_num, HIN.out, by show n5 ≤ i + 1 + 1; omega, HN9, HO6, Lib.hid HE5.out, HB7⟩
            case measure => have := HIN.out; simp [intOf]; omega
    · have e : i = n := by omega
      subst e
      have hin' : ¬ (i : Int) < (i : Int) := by omega
      have HE2 : Hid (EsT.s ⟨ZA, Zn, Zc, ZE⟩ ++ (if dn then [] else [x.s]) = withE (E.map EdT.s) x.s) := Lib.hid (by
        have h := HEQ.out
        rw [List.drop_eq_nil_of_le (Nat.le_of_eq HL.out), List.map_nil, restE_end] at h
        rw [HTG.out]
        exact h)
      have HBt : Hid (Below w.heap.size w wr) := Lib.hid (HB0.out.trans (HBr.out.mono HB0.out.size))
      obtain ⟨⟨x0, x1, x2, x3, x4⟩, -⟩ := five_blk (blk_later HX4.out HBr.out)
      have HXOr := Lib.hid (HXO.out.later (HBr.out.mono HBW1.out))
      clear HEQ HTG hin hi
      cases dn
      · have HBD := HBD
        have hbC := bel_alloc (Below.refl wr.heap.size wr) (.cells #[.slice x.k.A x.k.n x.k.c, .bool x.put, .slice x.v.A x.v.n x.v.c, .bool x.b, .int .i64 x.n] 49)
        have hsC := ed_new wr x
        have hown := own_later HOZ.out.row hbC
        have g1 : Zn + 1 ≤ maxLen := by unfold maxLen; omega
        have g2 : (Zn + 1) * 72 ≤ 140737488355328 := by omega
        have g3 : W1.heap.size ≤ (wr.alloc (.cells #[.slice x.k.A x.k.n x.k.c, .bool x.put, .slice x.v.A x.v.n x.v.c, .bool x.b, .int .i64 x.n] 49)).heap.size := Nat.le_trans HBD.out hbC.size
        have h1c := cells_ed1 [x]
        rw [List.flatMap_singleton] at h1c
        have HBC := Lib.hid hbC
        clear hbC
        go_wp2_with (at_builtin; refine wpList_append_shows _ rfl _ _ 22 rfl W1.heap.size 49 i0 (.agg #[.slice none 0 0, .bool false, .slice none 0 0, .bool false, .int .i64 0]) 5 72 Try.underlying22 hi0 hz0 hz1 hz2 rfl (by decide) _ _ _ rfl hown (wr.heap.size + 1) _ 1 _ _ rfl hsC h1c g1 g2 g3 ?_; intro A9 c9 w9 hown9 hgrow9 hb9; have HON9 := Lib.hid hown9; have HB9 : Hid (Below W1.heap.size wr w9) := Lib.hid ((HBC.out.mono HBD.out).trans hb9); clear hown9 hgrow9 hb9 hown hsC g1 g2 g3 h1c)
        have HBB9 : Hid (Below B wr w9) := Lib.hid (HB9.out.mono HBW1.out)
        have HO9 : Hid (OwnE w9 W1.heap.size B ⟨A9, Zn + 1, c9, ZE ++ [x]⟩) := Lib.hid (HOZ.out.snoc HBB9.out HON9.out (HXOr.out.later HBB9.out))
        have HP : Hid (WthP (E.map EdT.s) x.s w (.returned (.slice A9 (Zn + 1) c9)) w9) := Lib.hid ⟨HBt.out.trans (HB9.out.mono HB0.out.size), ⟨A9, Zn + 1, c9, ZE ++ [x]⟩, rfl, by
          rw [← HE2.out]
          unfold EsT.s
          rw [List.map_append]
          rfl, HO9.out.lie (Nat.le_trans HBw.out HB9.out.size)⟩
        go_ret
        exact HP.out
      · have HP : Hid (WthP (E.map EdT.s) x.s w (.returned (.slice ZA Zn Zc)) wr) := Lib.hid ⟨HBt.out, ⟨ZA, Zn, Zc, ZE⟩, rfl, by
          have h := HE2.out
          rw [if_pos rfl, List.append_nil] at h
          exact h, HOZ.out.lie HBw.out⟩
        go_wp2
        go_ret
        exact HP.out
end Go.Proofs.Ytkbcgcokokddlaa
namespace Go.Proofs.Ytkbcgcokokddlaa
open Go.RowKit

theorem bytes_nil {w : World} {B n : Nat} {l : List UInt8} (h : Bytes w B none n l) : n = 0 ∧ l = [] := by
  have hn0 : n = 0 := by
    rcases Nat.eq_zero_or_pos n with h0 | h0
    · exact h0
    · obtain ⟨_, _, h, _⟩ := h.2 h0
      cases h
  exact ⟨hn0, List.eq_nil_of_length_eq_zero (by rw [h.len, hn0])⟩

set_option maxRecDepth 20000 in
theorem u8_info : ∃ i, Try.prog.info? 5 = some i ∧ i.zero = some (.int .u8 0) ∧ i.size = 1 ∧ i.bytes = 1 := ⟨Try.t5, by kernel_rfl, by kernel_rfl, by kernel_rfl, by kernel_rfl⟩

set_option maxRecDepth 20000 in
set_option maxHeartbeats 1000000 in
theorem clone_any (A : Option Addr) (n c : Nat) (l : List UInt8) (B : Nat) (w : World) (h : Bytes w B A n l) (hA : A = none → c = 0) (hB : B ≤ w.heap.size) (hn : n ≤ 140737488355328) :
    Calls Try.prog 32 #[.slice A n c] w (GivesBytes 5 l w) := by
  have hnil := fun (W : World) (a : Option Addr) (n c : Nat) => Lib.run_eql_slice_nil (P := Try.prog) W 23 5 a n c 0 0 Try.underlying23
  rcases A with _ | a
  · obtain rfl := hA rfl
    obtain ⟨rfl, rfl⟩ := bytes_nil h
    go_enter Try.func32, Try.ntmps32
    go_wp2
    go_ret
    exact ⟨none, 0, 0, rfl, World.ownsRow_nil _ _ _ _, Below.refl _ _⟩
  · obtain ⟨i0, hi, hz0, hz1, hz2⟩ := u8_info
    have hown := World.ownsRow_made (base := w.heap.size) (e := 5) (size := 1) w #[] 0 (Nat.le_refl _) (Nat.zero_le _) rfl
    have hs := (h.more hB).alloc (Nat.le_refl _) (.cells #[] 5)
    go_enter Try.func32, Try.ntmps32
    go_wp2_with (at_builtin; refine wpList_append_shows _ rfl _ _ _ rfl w.heap.size 5 i0 (.int .u8 0) 1 1 Try.underlying23 hi hz0 hz1 hz2 rfl (by decide) _ _ _ rfl hown w.heap.size _ _ _ (l.map bv) rfl hs (bv_one l) ?c3 ?c4 ?c5 ?_)
    case c3 => unfold maxLen; omega
    case c4 => omega
    case c5 => simp
    · intro A' c' w1 hown' _ hbel
      go_wp2
      go_ret
      exact ⟨A', n, c', by simp, hown', ((Below.refl _ _).alloc (Nat.le_refl _) _).trans hbel⟩
end Go.Proofs.Ytkbcgcokokddlaa
/-
  A region that draws its order and, at its end, stores into what it has loaded: what is held may be less once a store has come up. No program in sight.
-/
namespace Go.Proofs.Ytkbcgcokokddlaa
open Go.RowKit
set_option linter.unusedVariables false

section
variable {P : Program} {md : Region.Mode} {ops : Array Oper} {Q : Exit → Act → World → Prop} {G : Array Bool → World → Prop}
/-- Whatever order is picked from here on, and behind every operation that is carried out holds what G asks at that point. -/
def wpAnyL (P : Program) (md : Region.Mode) (ops : Array Oper) (Q : Exit → Act → World → Prop) (G : Array Bool → World → Prop) : Nat → Array Bool → Act → World → Prop
  | 0, listed, a, w => Region.ready md ops listed = [] ∧ Q .normal a w
  | fuel + 1, listed, a, w =>
    (Region.ready md ops listed = [] → Q .normal a w) ∧
    ∀ i ∈ Region.ready md ops listed, wpOp P ops Q i (fun a' w' => G (listed.setIfInBounds i true) w' ∧ wpAnyL P md ops Q G fuel (listed.setIfInBounds i true) a' w') a w
theorem wpAny_of_L : ∀ (fuel : Nat) (listed : Array Bool) (a : Act) (w : World), wpAnyL P md ops Q G fuel listed a w → wpAny P md ops Q fuel listed a w
  | 0, _, _, _, h => h
  | fuel + 1, _, _, _, h => ⟨h.1, fun i hi => wpOp_mono (fun a' w' h' => wpAny_of_L fuel _ a' w' h'.2) (h.2 i hi)⟩
/-- Taken first: I is what stays so of the list while i has not come up. -/
theorem wpAnyL_first {S : World → Prop} {I : Array Bool → Prop} {i : Nat} {oi : Oper} {v : Value} (hi : ops[i]? = some oi) (hsel : ∀ (j : Nat) (o : Oper) cs b, ops[j]? = some o → o.op ≠ .select cs b)
    (hQ : ∀ c a w, Q (.panic c) (a.put oi.dst v) w → Q (.panic c) a w)
    (hI : ∀ listed j, I listed → i ∈ Region.ready md ops listed → j ∈ Region.ready md ops listed → j ≠ i → I (listed.setIfInBounds j true))
    (hG : ∀ listed w, I listed → G listed w → S w) (hU : ∀ listed w, G (listed.setIfInBounds i true) w ↔ G listed w) :
    ∀ (fuel : Nat) (listed : Array Bool) (a : Act) (w : World),
      (∀ j oj, ops[j]? = some oj → j ≠ i → listed.getD j true = false → (∀ e ∈ oj.after, Region.binds md e = true → e.on ≠ i) → oi.apart ops oj = true) →
      i ∈ Region.ready md ops listed → I listed → YieldsIf P ops S oi v a → G listed w →
      wpAnyL P md ops Q G fuel (listed.setIfInBounds i true) (a.put oi.dst v) w → wpAnyL P md ops Q G (fuel + 1) listed a w := by
  intro fuel
  induction fuel with
  | zero =>
    intro listed a w _ hr hL hy hS H
    refine ⟨fun h => (by rw [h] at hr; cases hr), fun j hj => ?_⟩
    by_cases hji : j = i
    · subst hji; exact hy.wpOp hi (hG _ _ hL hS) ⟨(hU _ _).2 hS, H⟩
    · have := ready_mono hj hji
      rw [H.1] at this
      cases this
  | succ fuel ih =>
    intro listed a w hfree hr hL hy hS H
    refine ⟨fun h => (by rw [h] at hr; cases hr), fun j hj => ?_⟩
    by_cases hji : j = i
    · subst hji; exact hy.wpOp hi (hG _ _ hL hS) ⟨(hU _ _).2 hS, H⟩
    · have h1 := H.2 j (ready_mono hj hji)
      obtain ⟨hjun, oj, hoj, hall⟩ := mem_ready.1 hj
      have hnot : ∀ e ∈ oj.after, Region.binds md e = true → e.on ≠ i := fun e he hb heq => by
        have h1 := hall e he hb
        have h0 := (mem_ready.1 hr).1
        rw [heq] at h1
        rcases Nat.lt_or_ge i listed.size with h' | h'
        · simp [h'] at h0 h1; rw [h0] at h1; cases h1
        · simp [Array.getElem?_eq_none h'] at h1
      have h2 := wpOp_putIf hoj (hfree j oj hoj hji hjun hnot) (fun cs b => hsel i oi cs b hi) (fun cs b => hsel j oj cs b hoj) hQ hy h1
      have hfree' : ∀ k ok, ops[k]? = some ok → k ≠ i → (listed.setIfInBounds j true).getD k true = false →
          (∀ e ∈ ok.after, Region.binds md e = true → e.on ≠ i) → oi.apart ops ok = true := fun k ok hk hki hun hno => by
        refine hfree k ok hk hki ?_ hno
        by_cases hjk : j = k
        · subst hjk; exact hjun
        · rw [getD_set_ne true hjk] at hun; exact hun
      refine wpOp_mono (fun a' w' h3 => ?_) h2
      have hg : G (listed.setIfInBounds j true) w' := by
        have h4 := h3.2.1
        rw [Array.setIfInBounds_comm _ _ (Ne.symm hji)] at h4
        exact (hU _ _).1 h4
      refine ⟨hg, ih (listed.setIfInBounds j true) a' w' hfree' (ready_mono hr (Ne.symm hji)) (hI listed j hL hr hj hji) h3.1 hg ?_⟩
      rw [Array.setIfInBounds_comm _ _ hji]
      exact h3.2.2
/-- None of these has come up. -/
def bef (st : List Nat) (listed : Array Bool) : Bool := st.all fun s => !(listed.getD s true)
theorem bef_set {st : List Nat} {listed : Array Bool} {i : Nat} (h : st.contains i = false) : bef st (listed.setIfInBounds i true) = bef st listed := by
  have hn : ∀ s ∈ st, i ≠ s := fun s hs e => by subst e; simp at h; exact h hs
  unfold bef
  rw [Bool.eq_iff_iff, List.all_eq_true, List.all_eq_true]
  exact ⟨fun hh s hs => by have := hh s hs; rw [getD_set_ne true (hn s hs)] at this; exact this, fun hh s hs => by rw [getD_set_ne true (hn s hs)]; exact hh s hs⟩
/-- What is held: A all through, S0 while none of st has come up. -/
def GL (A S0 : World → Prop) (st : List Nat) (listed : Array Bool) (w : World) : Prop := A w ∧ (bef st listed = true → S0 w)
/-- Each of st waits for i. -/
def waits (md : Region.Mode) (l : List Oper) (st : List Nat) (i : Nat) : Bool := st.all fun s => match l[s]? with
  | none => false
  | some o => o.after.any fun e => Region.binds md e && e.on == i
end
section
variable {P : Program} {l : List Oper} {Q : Exit → Act → World → Prop} {A S0 : World → Prop} {st : List Nat}
/-- Operation i is wanted, and yields in every world in which S0 holds: it is taken first. -/
theorem rl_in (i : Nat) {oi : Oper} {v : Value} {fuel : Nat} {listed : Array Bool} {a : Act} {w : World} (hi : l[i]? = some oi)
    (hs : Region.noSelect l.toArray = true) (hf : Region.free .any l.toArray listed i = true) (hr : (Region.ready .any l.toArray listed).contains i = true)
    (hc : st.contains i = false) (hb : bef st listed = true) (hwt : waits .any l st i = true)
    (hw : Region.wanted oi (yielded l.toArray a.tmps) = true) (hQ : ∀ c a w, Q (.panic c) (a.put oi.dst v) w → Q (.panic c) a w) (hS : GL A S0 st listed w) (hv : ∀ w, S0 w → (execOp a.eval oi).run P w = .ok (.value v) w)
    (h : wpAnyL P .any l.toArray Q (GL A S0 st) fuel (listed.setIfInBounds i true) (a.put oi.dst v) w) : wpAnyL P .any l.toArray Q (GL A S0 st) (fuel + 1) listed a w := by
  have hi' : l.toArray[i]? = some oi := by rw [List.getElem?_toArray]; exact hi
  refine wpAnyL_first (S := S0) (I := fun L => bef st L = true) hi' (Region.noSelect_spec hs) hQ (fun L j hL hri hrj hne => ?_) (fun L w hL hg => hg.2 hL) (fun L w => ?_) fuel listed a w (Region.free_spec hi' hf) (by simpa using hr) hb (.inl ⟨hw, hv⟩) hS h
  · have hjs : st.contains j = false := by
      cases hcj : st.contains j with
      | false => rfl
      | true =>
        exfalso
        have hmem : j ∈ st := by simpa using hcj
        have h1 := List.all_eq_true.1 hwt j hmem
        obtain ⟨hjun, oj, hoj, hall⟩ := mem_ready.1 hrj
        rw [List.getElem?_toArray] at hoj
        rw [hoj] at h1
        simp only [Array.any_eq_true', Bool.and_eq_true, beq_iff_eq] at h1
        obtain ⟨e, he, hbd, hon⟩ := h1
        have h2 := hall e he hbd
        have h3 := (mem_ready.1 hri).1
        rw [hon] at h2
        rcases Nat.lt_or_ge i L.size with h' | h'
        · simp [h'] at h2 h3; rw [h3] at h2; cases h2
        · simp [Array.getElem?_eq_none h'] at h2
    show bef st (L.setIfInBounds j true) = true
    rw [bef_set hjs]
    exact hL
  · unfold GL
    rw [bef_set hc]
/-- Operation i is wanted and yields in every world in which A holds. -/
theorem rl_inA (i : Nat) {oi : Oper} {v : Value} {fuel : Nat} {listed : Array Bool} {a : Act} {w : World} (hi : l[i]? = some oi)
    (hs : Region.noSelect l.toArray = true) (hf : Region.free .any l.toArray listed i = true) (hr : (Region.ready .any l.toArray listed).contains i = true)
    (hc : st.contains i = false)
    (hw : Region.wanted oi (yielded l.toArray a.tmps) = true) (hQ : ∀ c a w, Q (.panic c) (a.put oi.dst v) w → Q (.panic c) a w) (hS : GL A S0 st listed w) (hv : ∀ w, A w → (execOp a.eval oi).run P w = .ok (.value v) w)
    (h : wpAnyL P .any l.toArray Q (GL A S0 st) fuel (listed.setIfInBounds i true) (a.put oi.dst v) w) : wpAnyL P .any l.toArray Q (GL A S0 st) (fuel + 1) listed a w := by
  have hi' : l.toArray[i]? = some oi := by rw [List.getElem?_toArray]; exact hi
  refine wpAnyL_first (S := A) (I := fun _ => True) hi' (Region.noSelect_spec hs) hQ (fun _ _ _ _ _ _ => trivial) (fun L w _ hg => hg.1) (fun L w => ?_) fuel listed a w (Region.free_spec hi' hf) (by simpa using hr) trivial (.inl ⟨hw, hv⟩) hS h
  unfold GL
  rw [bef_set hc]
/-- Operation i is not wanted: it is passed over. -/
theorem rl_off (i : Nat) {oi : Oper} {fuel : Nat} {listed : Array Bool} {a : Act} {w : World} (hi : l[i]? = some oi)
    (hs : Region.noSelect l.toArray = true) (hf : Region.free .any l.toArray listed i = true) (hr : (Region.ready .any l.toArray listed).contains i = true)
    (hc : st.contains i = false)
    (hw : Region.wanted oi (yielded l.toArray a.tmps) = false) (hQ : ∀ c a w, Q (.panic c) (a.put oi.dst undef) w → Q (.panic c) a w) (hS : GL A S0 st listed w)
    (h : wpAnyL P .any l.toArray Q (GL A S0 st) fuel (listed.setIfInBounds i true) (a.put oi.dst undef) w) : wpAnyL P .any l.toArray Q (GL A S0 st) (fuel + 1) listed a w := by
  have hi' : l.toArray[i]? = some oi := by rw [List.getElem?_toArray]; exact hi
  refine wpAnyL_first (S := A) (I := fun _ => True) hi' (Region.noSelect_spec hs) hQ (fun _ _ _ _ _ _ => trivial) (fun L w _ hg => hg.1) (fun L w => ?_) fuel listed a w (Region.free_spec hi' hf) (by simpa using hr) trivial (.inr ⟨hw, rfl⟩) hS h
  unfold GL
  rw [bef_set hc]
/-- Each of these comes up next. -/
def AllReadyL (P : Program) (l : List Oper) (Q : Exit → Act → World → Prop) (G : Array Bool → World → Prop) (fuel : Nat) (listed : Array Bool) (a : Act) (w : World) (rs : List Nat) : Prop :=
  ∀ i ∈ rs, wpOp P l.toArray Q i (fun a' w' => G (listed.setIfInBounds i true) w' ∧ wpAnyL P .any l.toArray Q G fuel (listed.setIfInBounds i true) a' w') a w
variable {G : Array Bool → World → Prop}
theorem AllReadyL.nil {fuel : Nat} {listed : Array Bool} {a : Act} {w : World} : AllReadyL P l Q G fuel listed a w [] := fun _ h => by cases h
theorem rl_cons {i : Nat} {oi : Oper} {rs : List Nat} {fuel : Nat} {listed : Array Bool} {a : Act} {w : World} (hi : l[i]? = some oi)
    (hw : Region.wanted oi (yielded l.toArray a.tmps) = true)
    (h : ∀ K' : Act → World → Prop, Shut (∀ a w, G (listed.setIfInBounds i true) w → (G (listed.setIfInBounds i true) w → wpAnyL P .any l.toArray Q G fuel (listed.setIfInBounds i true) a w) → K' a w) → Oper.wp P oi a w K' Q)
    (hs : AllReadyL P l Q G fuel listed a w rs) : AllReadyL P l Q G fuel listed a w (i :: rs) := fun j hj => by
  rcases List.mem_cons.1 hj with rfl | hj
  · refine wpOp_step (by rw [List.getElem?_toArray]; exact hi) (fun K' hK => ?_)
    rw [if_pos hw]
    exact h K' (fun a w hS hW => hK a w ⟨hS, hW hS⟩)
  · exact hs j hj
theorem rl_ready {rs : List Nat} {fuel : Nat} {listed : Array Bool} {a : Act} {w : World} (hr : Region.ready .any l.toArray listed = rs) (hne : rs ≠ [])
    (h : AllReadyL P l Q G fuel listed a w rs) : wpAnyL P .any l.toArray Q G (fuel + 1) listed a w := ⟨fun h0 => absurd (hr ▸ h0) hne, hr ▸ h⟩
theorem rl_do (i : Nat) {oi : Oper} {fuel : Nat} {listed : Array Bool} {a : Act} {w : World} (hi : l[i]? = some oi)
    (hr : Region.ready .any l.toArray listed = [i]) (hw : Region.wanted oi (yielded l.toArray a.tmps) = true)
    (h : ∀ K' : Act → World → Prop, Shut (∀ a w, G (listed.setIfInBounds i true) w → (G (listed.setIfInBounds i true) w → wpAnyL P .any l.toArray Q G fuel (listed.setIfInBounds i true) a w) → K' a w) → Oper.wp P oi a w K' Q) : wpAnyL P .any l.toArray Q G (fuel + 1) listed a w :=
  rl_ready hr (by simp) (rl_cons hi hw h AllReadyL.nil)
theorem rl_done {listed : Array Bool} {a : Act} {w : World} (hr : Region.ready .any l.toArray listed = []) (h : Q .normal a w) : ∀ fuel, wpAnyL P .any l.toArray Q G fuel listed a w
  | 0 => ⟨hr, h⟩
  | _ + 1 => ⟨fun _ => h, by rw [hr]; simp⟩
theorem rl_begin (A S0 : World → Prop) (st : List Nat) {id : Nat} {a : Act} {w : World} (hm : P.follows .mixedOrders = true) (hA : A w.drew) (hS : S0 w.drew)
    (h : GL A S0 st (Array.replicate l.length false) w.drew → wpAnyL P .any l.toArray Q (GL A S0 st) l.length (Array.replicate l.length false) a w.drew) : (Code.region id l.toArray true).wp P Q a w := by
  refine wp_region_any hm (wpAny_of_L (G := GL A S0 st) _ _ _ _ ?_)
  have h1 := h ⟨hA, fun _ => hS⟩
  rw [List.size_toArray]
  exact h1
end
end Go.Proofs.Ytkbcgcokokddlaa
