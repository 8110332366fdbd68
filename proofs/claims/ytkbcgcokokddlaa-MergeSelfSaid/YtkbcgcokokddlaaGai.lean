import Derived.Test.YtkbcgcokokddlaaGaf
import Derived.Test.YtkbcgcokokddlaaGah
import Derived.Great.BuildSlice
/-
  Layer 15: the reference's Sort, Done.
-/
namespace Go.Proofs.Ytkbcgcokokddlaa
open Go.RowKit
set_option linter.unusedVariables false
set_option linter.unusedSimpArgs false

def SoP (l : List EdS) (W : World) (e : Ending) (W' : World) : Prop := Below W.heap.size W W' ∧ ∃ Y : EsT, e = .returned (.slice Y.A Y.n Y.c) ∧ Y.s = l ∧ Y.Lie W' W'.heap.size
set_option maxRecDepth 20000 in
set_option maxHeartbeats 1000000 in
theorem rsort_any (X : EsT) (B : Nat) (w : World) (hX : X.Lie w B) (hB : B ≤ w.heap.size) (hn : X.n ≤ 1048576) :
    Calls Try.prog 18 #[.slice X.A X.n X.c] w (SoP (sortE X.s) w) := by
  obtain ⟨XA, n, Xc, E⟩ := X
  have hlen := hX.len
  simp only at hlen hn ⊢
  have HX := Lib.hid hX
  have HB := Lib.hid hB
  have HL := Lib.hid hlen
  clear hX hB hlen
  go_enter Try.func18, Try.ntmps18
  go_wp2_with fail
  go_loopw [3, 4] (fun o s wr => ∃ (i : Nat) (Z : EsT), o = .slice Z.A Z.n Z.c ∧ s = .int .i64 i ∧ i ≤ n ∧ Z.n ≤ i ∧ Hid (Z.s = sortE ((E.take i).map EdT.s)) ∧ Hid (Z.Lie wr wr.heap.size) ∧ Hid (Below w.heap.size w wr)) (fun _ s _ => n - (intOf s).toNat)
  case atStart => exact ⟨0, ⟨none, 0, 0, []⟩, rfl, rfl, Nat.zero_le _, Nat.le_refl _, Lib.hid rfl, Lib.hid ((OwnE.none w 0 0).lie (Nat.zero_le _)), Lib.hid (Below.refl _ _)⟩
  case round =>
    obtain ⟨i, Z, rfl, rfl, hi, hZn, HZ, HLZ, HBr⟩ := hrel
    by_cases hin : i < n
    · obtain ⟨b, off, x, hA, hbb, hx, x0, x1, x2, x3, x4⟩ := ed_at (HX.out.later (HBr.out.mono HB.out)).row (i := i) hin
      have hxo := ((HX.out.later (HBr.out.mono HB.out)).all x (List.mem_of_getElem? hx)).more (Nat.le_trans HB.out HBr.out.size)
      have hw := rwith_any Z x wr.heap.size wr HLZ.out hxo (Nat.le_refl _) (by omega)
      simp only at hA hx
      subst hA
      have HTK : Hid ((E.take (i + 1)).map EdT.s = (E.take i).map EdT.s ++ [x.s]) := Lib.hid (by rw [List.take_add_one, hx, List.map_append]; rfl)
      have hin' : (i : Int) < (n : Int) := by omega
      have w3 : wrap64 ((i : Int) + 1) = ((i + 1 : Nat) : Int) := by unfold wrap64; omega
      clear hbb hx hxo hi
      go_wp2_with fail
      refine hw.mono ?_
      rintro e w1 ⟨hb1, Y, rfl, hY, hYL⟩
      have HY : Hid (Y.s = sortE ((E.take (i + 1)).map EdT.s)) := Lib.hid (by rw [hY, HZ.out, HTK.out, sortE_snoc])
      have hYn : Y.n ≤ i + 1 := by
        have h1 := hYL.len
        have h2 := len_withE Z.s x.s
        rw [← hY] at h2
        unfold EsT.s at h2
        rw [List.length_map, List.length_map, h1, HLZ.out.len] at h2
        omega
      have HB1 : Hid (Below w.heap.size w w1) := Lib.hid (HBr.out.trans (hb1.mono HBr.out.size))
      have HYL := Lib.hid hYL
      clear hw hb1 hY hYL x0 x1 x2 x3 x4
      go_wp2_with fail
      go_roundw
      case rel => exact ⟨i + 1, Y, rfl, by first | rfl | go_num, hin, hYn, HY, HYL, HB1⟩
      case measure => simp [intOf]; omega
    · have e : i = n := by omega
      subst e
      have hin' : ¬ (i : Int) < (i : Int) := by omega
      have HP : Hid (SoP (sortE (E.map EdT.s)) w (.returned (.slice Z.A Z.n Z.c)) wr) := Lib.hid ⟨HBr.out, Z, rfl, by rw [HZ.out, List.take_of_length_le (Nat.le_of_eq HL.out)], HLZ.out⟩
      clear hin hi
      go_wp2
      go_ret
      exact HP.out
theorem restI_true (l : List ItS) (e : EdS) : restI true l e = goI l e := by unfold restI; rw [if_pos rfl]
theorem restI_false (l : List ItS) (e : EdS) : restI false l e = filtI l e.k := by unfold restI; rw [if_neg Bool.noConfusion]
theorem restI_end (p : Bool) (e : EdS) : restI p [] e = if p then [itemE e] else [] := by
  cases p
  · rw [restI_false]; rfl
  · rw [restI_true]; rfl
theorem restI_step (p : Bool) (y : ItS) (l : List ItS) (e : EdS) (a b : Bool) (ha : a = true ↔ p = true ∧ ¬ cmpL y.k e.k < 0) (hb : b = true ↔ y.k = e.k) : restI p (y :: l) e = (if a then [itemE e] else []) ++ ((if b then [] else [y]) ++ restI (p && !a) l e) := by
  have hy : filtI (y :: l) e.k = (if b then [] else [y]) ++ filtI l e.k := by
    rw [filtI_cons]
    cases b
    · rw [if_neg (fun h => Bool.noConfusion (hb.2 h))]
      rfl
    · rw [if_pos (hb.1 rfl)]
      rfl
  cases p
  · have haf : a = false := by cases a with | false => rfl | true => exact Bool.noConfusion (ha.1 rfl).1
    subst haf
    rw [restI_false, hy, Bool.false_and, restI_false]
    rfl
  · rw [restI_true]
    cases a
    · have hlt : cmpL y.k e.k < 0 := Classical.byContradiction (fun h => Bool.noConfusion (ha.2 ⟨rfl, h⟩))
      have hne : y.k ≠ e.k := fun e' => by rw [e', cmpL_self] at hlt; omega
      have hbf : b = false := by cases b with | false => rfl | true => exact absurd (hb.1 rfl) hne
      subst hbf
      rw [goI_cons, if_pos hlt, Bool.not_false, Bool.true_and, restI_true]
      rfl
    · have hlt := (ha.1 rfl).2
      rw [goI_cons, if_neg hlt, hy, Bool.not_true, Bool.and_false, restI_false]
      rfl
theorem OwnI.snoc {W w' : World} {D B n c c' : Nat} {A A' : Option Addr} {E : List ItT} {x : ItT} (h : OwnI W D B ⟨A, n, c, E⟩) (hbb : Below B W w') (hown : w'.ownsRow D 54 4 (.slice A' (n + 1) c') (n + 1) (E.flatMap ItT.cells ++ x.cells)) (hx : x.Ok w' B) : OwnI w' D B ⟨A', n + 1, c', E ++ [x]⟩ := by
  refine ⟨?_, fun y hy => ?_⟩
  · show w'.ownsRow D _ 4 _ (n + 1) ((E ++ [x]).flatMap ItT.cells)
    rw [List.flatMap_append, List.flatMap_singleton]
    exact hown
  · rcases List.mem_append.1 hy with hy | hy
    · exact (h.all y hy).later hbb
    · rw [List.mem_singleton.1 hy]
      exact hx
theorem it_new (w : World) (x : ItT) : Shows (w.alloc (.cells #[.slice x.k.A x.k.n x.k.c, .slice x.v.A x.v.n x.v.c, .bool x.b, .int .i64 x.n] 54)) (w.heap.size + 1) 4 (some ⟨w.heap.size, 0, none⟩) 1 x.cells :=
  ⟨rfl, fun _ => ⟨w.heap.size, 0, rfl, by omega, fun j u hu => by rw [Nat.zero_add, cell_of_row _ _ j _ _ _ (heap_alloc_new w _)]; simpa [ItT.cells] using hu⟩⟩
end Go.Proofs.Ytkbcgcokokddlaa
/-
  Layer 15: the reference's Done.
-/
namespace Go.Proofs.Ytkbcgcokokddlaa
open Go.RowKit
set_option linter.unusedVariables false
set_option linter.unusedSimpArgs false

theorem fill_i (v0 v1 v2 v3 : Value) (h : (Value.agg #[v0, v1, v2, v3]).cells = #[v0, v1, v2, v3]) : Instr.fill (fun q => some (q * 4, 4)) ((Array.range (1 * 4)).map ((Value.agg #[.slice none 0 0, .slice none 0 0, .bool false, .int .i64 0]).cells[· % (Value.agg #[.slice none 0 0, .slice none 0 0, .bool false, .int .i64 0]).cells.size]!)) [(0, .agg #[v0, v1, v2, v3])] = some #[v0, v1, v2, v3] := by
  have e : Array.range (1 * 4) = #[0, 1, 2, 3] := by first | rfl | decide
  rw [e]
  simp [Instr.fill, h]
theorem it_one (A1 A2 : Option Addr) (n1 c1 n2 c2 : Nat) (b : Bool) (n : Int) : ∀ u ∈ (#[.slice A1 n1 c1, .slice A2 n2 c2, .bool b, .int .i64 n] : Array Value).toList, u.oneCell' = true := by
  intro u hu
  simp only [List.mem_cons, List.not_mem_nil, or_false] at hu
  rcases hu with rfl | rfl | rfl | rfl <;> rfl
/-- What the reference's Done hands back. -/
def RDoP (l : List ItS) (W : World) (e : Ending) (W' : World) : Prop := Below W.heap.size W W' ∧ ∃ Y : IsT, e = .returned (.slice Y.A Y.n Y.c) ∧ Y.s = l ∧ Y.Lie W' W'.heap.size
set_option maxRecDepth 20000 in
set_option maxHeartbeats 4000000 in
theorem rdone_any (X : IsT) (Y : EsT) (B : Nat) (w : World) (hX : X.Lie w B) (hY : Y.Lie w B) (hB : B ≤ w.heap.size) (hn : X.n ≤ 1048576) (hm : Y.n ≤ 1048576) :
    Calls Try.prog 26 #[.slice X.A X.n X.c, .slice Y.A Y.n Y.c] w (RDoP (doneR X.s Y.s) w) := by
  obtain ⟨MA, m, Mc, M⟩ := Y
  have hlm := hY.len
  have HX := Lib.hid (hX.more hB)
  have HY := Lib.hid hY
  have HB := Lib.hid hB
  simp only at hlm hm ⊢
  have HL := Lib.hid hlm
  have HN := Lib.hid hn
  clear hX hY hB hlm hn
  obtain ⟨i0, hi0, hz0, hz1, hz2⟩ := item_info
  go_enter Try.func26, Try.ntmps26
  go_wp2_with fail
  go_loopw [5, 6] (fun o s wr => ∃ (i : Nat) (Z : IsT), o = .slice Z.A Z.n Z.c ∧ s = .int .i64 i ∧ i ≤ m ∧ Z.n ≤ X.n + i ∧ Hid (Z.s = doneR X.s ((M.take i).map EdT.s)) ∧ Hid (Z.Lie wr wr.heap.size) ∧ Hid (Below w.heap.size w wr)) (fun _ s _ => m - (intOf s).toNat)
  case atStart => exact ⟨0, X, rfl, rfl, Nat.zero_le _, Nat.le_refl _, Lib.hid rfl, HX, Lib.hid (Below.refl _ _)⟩
  case round =>
    obtain ⟨i, ⟨ZA, n, Zc, E⟩, rfl, rfl, hi, hZn, HZ, HLZ, HBr⟩ := hrel
    simp only at hZn ⊢
    have hlz := HLZ.out.len
    have hXn := HN.out
    simp only at hlz
    have HLn := Lib.hid hlz
    clear hlz
    by_cases him : i < m
    · obtain ⟨b, off, x, hA, hbb, hx, v0, v1, v2, v3, v4⟩ := ed_at (HY.out.later (HBr.out.mono HB.out)).row (i := i) him
      have hxo := ((HY.out.later (HBr.out.mono HB.out)).all x (List.mem_of_getElem? hx)).more (Nat.le_trans HB.out HBr.out.size)
      simp only at hA hx
      subst hA
      have HTK : Hid ((M.take (i + 1)).map EdT.s = (M.take i).map EdT.s ++ [x.s]) := Lib.hid (by rw [List.take_add_one, hx, List.map_append]; rfl)
      have him' : (i : Int) < (m : Int) := by omega
      have w3 : wrap64 ((i : Int) + 1) = ((i + 1 : Nat) : Int) := by unfold wrap64; omega
      obtain ⟨W3, hW3⟩ : ∃ W3, wr = W3 := ⟨_, rfl⟩
      rw [hW3] at v0 v1 v2 v3 v4 hxo ⊢
      have HBW : Hid (Below w.heap.size w W3) := Lib.hid (by rw [← hW3]; exact HBr.out)
      have HLW : Hid (IsT.Lie W3 W3.heap.size ⟨ZA, n, Zc, E⟩) := Lib.hid (by rw [← hW3]; exact HLZ.out)
      have HXO := Lib.hid hxo
      have HV : Hid (∀ W, Below W3.heap.size W3 W → W.cell? ⟨b, off + i * 5, none⟩ = some (.slice x.k.A x.k.n x.k.c) ∧ W.cell? ⟨b, off + i * 5 + 1, none⟩ = some (.bool x.put) ∧ W.cell? ⟨b, off + i * 5 + 2, none⟩ = some (.slice x.v.A x.v.n x.v.c) ∧ W.cell? ⟨b, off + i * 5 + 3, none⟩ = some (.bool x.b) ∧ W.cell? ⟨b, off + i * 5 + 4, none⟩ = some (.int .i64 x.n)) := Lib.hid (fun W h => ⟨kept_later h v0, kept_later h v1, kept_later h v2, kept_later h v3, kept_later h v4⟩)
      have HXit : Hid (∀ W, Below W3.heap.size W3 W → (⟨x.k, x.v, x.b, x.n⟩ : ItT).Ok W W3.heap.size) := Lib.hid (fun W h => by
        have h1 := hxo.later h
        exact ⟨h1.key, h1.val, h1.num.1, Int.lt_of_le_of_lt h1.num.2 (by decide)⟩)
      obtain ⟨TG, hTG⟩ : ∃ TG, stepI (E.map ItT.s) x.s = TG := ⟨_, rfl⟩
      have HTG := Lib.hid hTG
      have HD0 : Hid (IsT.s ⟨none, 0, 0, []⟩ ++ restI x.put ((E.drop 0).map ItT.s) x.s = TG) := Lib.hid hTG
      have HEQo : Hid (doneR X.s ((M.take (i + 1)).map EdT.s) = TG) := Lib.hid (by
        rw [HTK.out, doneR_append, ← HZ.out, ← hTG]
        rfl)
      clear hbb hx hxo hi HLZ HBr HZ HTK hTG hW3
      clear wr
      go_upto_block 2 with fail
      clear v0 v1 v2 v3 v4
      go_cut [7, 8] (fun o d wx => ∃ (Y : IsT) (pt : Bool), o = .slice Y.A Y.n Y.c ∧ d = .bool pt ∧ Y.n ≤ n + 1 ∧ Hid (Y.n + (if pt then 1 else 0) ≤ n + 1) ∧ Hid (OwnI wx W3.heap.size W3.heap.size Y) ∧ Hid (Y.s ++ (if pt then [itemE x.s] else []) = TG) ∧ Hid (Below W3.heap.size W3 wx))
      case first =>
        go_wp2_with fail
        go_loopw [7, 8, 9] (fun o d s wr => ∃ (k : Nat) (pt : Bool) (Y : IsT), o = .slice Y.A Y.n Y.c ∧ d = .bool pt ∧ s = .int .i64 k ∧ k ≤ n ∧ Y.n ≤ k + 1 ∧ Hid (Y.n + (if pt then 1 else 0) ≤ k + 1) ∧ Hid (OwnI wr W3.heap.size W3.heap.size Y) ∧ Hid (Y.s ++ restI pt ((E.drop k).map ItT.s) x.s = TG) ∧ Hid (Below W3.heap.size W3 wr)) (fun _ _ s _ => n - (intOf s).toNat)
        case atStart => exact ⟨0, x.put, ⟨none, 0, 0, []⟩, rfl, rfl, rfl, Nat.zero_le _, by decide, Lib.hid (by cases x.put <;> decide), Lib.hid (OwnI.none _ _ _), HD0, Lib.hid (Below.refl _ _)⟩
        case round =>
          obtain ⟨k, pt, ⟨YA, Yn, Yc, YE⟩, rfl, rfl, rfl, hk, hYn, HYN, HOY, HEQ, HBr⟩ := hrel
          simp only at hYn HYN ⊢
          obtain ⟨v0, v1, v2, v3, v4⟩ := HV.out wr HBr.out
          by_cases hkn : k < n
          · obtain ⟨b2, off2, y, hRA, hbb, hy, y0, y1, y2, y3⟩ := it_at HLW.out.row (i := k) hkn
            have hyo1 := HLW.out.all y (List.mem_of_getElem? hy)
            simp only at hRA hy
            subst hRA
            have HYall : Hid (∀ W, Below W3.heap.size W3 W → W.cell? ⟨b2, off2 + k * 4, none⟩ = some (.slice y.k.A y.k.n y.k.c) ∧ W.cell? ⟨b2, off2 + k * 4 + 1, none⟩ = some (.slice y.v.A y.v.n y.v.c) ∧ W.cell? ⟨b2, off2 + k * 4 + 2, none⟩ = some (.bool y.b) ∧ W.cell? ⟨b2, off2 + k * 4 + 3, none⟩ = some (.int .i64 y.n)) := Lib.hid (fun W h => ⟨kept_later h y0, kept_later h y1, kept_later h y2, kept_later h y3⟩)
            clear y0 y1 y2 y3
            obtain ⟨y0, -⟩ := HYall.out wr HBr.out
            obtain ⟨zl, hzl⟩ : ∃ z, decide (cmpL y.k.l x.k.l < 0) = z := ⟨_, rfl⟩
            obtain ⟨zi, hzi⟩ : ∃ z, sameB y.k.l x.k.l = z := ⟨_, rfl⟩
            have hle := fun (j : Nat) => rahead_any y.k x.k W3.heap.size W3.heap.size (wr.drewN j) (hyo1.key.later (below_drewN HBr.out j)) (HXO.out.key.later (below_drewN HBr.out j))
            rw [hzl] at hle
            have HIS : Hid (∀ W, Below W3.heap.size W3 W → Calls Try.prog 42 #[.slice y.k.A y.k.n y.k.c, .slice x.k.A x.k.n x.k.c] W fun e w' => e = .returned (.bool zi) ∧ W = w') := Lib.hid (fun W h => ris_any y.k x.k W3.heap.size W3.heap.size W (hyo1.key.later h) (HXO.out.key.later h) zi hzi)
            have HA : Hid ((pt && !zl) = true ↔ pt = true ∧ ¬ cmpL y.s.k x.s.k < 0) := Lib.hid (by
              rw [← hzl, Bool.and_eq_true, Bool.not_eq_true', decide_eq_false_iff_not]
              exact Iff.rfl)
            have HBI : Hid (zi = true ↔ y.s.k = x.s.k) := Lib.hid (by rw [← hzi]; unfold sameB; exact decide_eq_true_iff)
            have hdr : (E.drop k).map ItT.s = y.s :: (E.drop (k + 1)).map ItT.s := by
              obtain ⟨hl, he⟩ := List.getElem?_eq_some_iff.1 hy
              rw [List.drop_eq_getElem_cons hl, he]
              rfl
            have HEQ2 : Hid (IsT.s ⟨YA, Yn, Yc, YE⟩ ++ ((if (pt && !zl) then [itemE x.s] else []) ++ ((if zi then [] else [y.s]) ++ restI (pt && !(pt && !zl)) ((E.drop (k + 1)).map ItT.s) x.s)) = TG) := Lib.hid (by
              rw [← restI_step pt y.s _ x.s _ _ HA.out HBI.out, ← hdr]
              exact HEQ.out)
            have hkn' : (k : Int) < (n : Int) := by omega
            have w4 : wrap64 ((k : Int) + 1) = ((k + 1 : Nat) : Int) := by unfold wrap64; omega
            have HYO1 := Lib.hid hyo1
            have HKN := Lib.hid hkn
            clear hzl hzi hdr hyo1 hbb hy HA HEQ hk hkn
            go_upto_region 10 with fail
            go_cut [42] (fun s wx => s = .bool (pt && !zl) ∧ Below wr.heap.size wr wx)
            case first =>
              cases pt
              · go_quiet (fail)
                go_wp2_with fail
                go_meet
                case rel => exact ⟨by simp, below_drewN (Below.refl _ _) _⟩
              · go_quiet ((go_at_call 15; exact Calls.quiet_of_same ((hle _).mono fun _ _ h => ⟨h.1, h.2.symm⟩)))
                go_wp2_with fail
                go_meet
                case rel => exact ⟨by simp, below_drewN (Below.refl _ _) _⟩
            case rest =>
              obtain ⟨rfl, hbc⟩ := hcut
              obtain ⟨st, hst⟩ : ∃ st, (pt && !zl) = st := ⟨_, rfl⟩
              have HST := Lib.hid hst
              rw [hst]
              have HEQ3 : Hid (IsT.s ⟨YA, Yn, Yc, YE⟩ ++ ((if st then [itemE x.s] else []) ++ ((if zi then [] else [y.s]) ++ restI (pt && !st) ((E.drop (k + 1)).map ItT.s) x.s)) = TG) := Lib.hid (by rw [← HST.out]; exact HEQ2.out)
              have HBq : Hid (Below W3.heap.size W3 wc) := Lib.hid (HBr.out.trans (hbc.mono HBr.out.size))
              have HOc := Lib.hid (HOY.out.later HBr.out.size hbc)
              clear hst hbc hle HEQ2 HOY HBr y0 v0 v1 v2 v3 v4
              go_upto_if 42 with fail
              go_cut [7, 8] (fun o d wx => ∃ (A5 : Option Addr) (n5 c5 : Nat) (E5 : List ItT) (d5 : Bool), o = .slice A5 n5 c5 ∧ d = .bool d5 ∧ n5 ≤ k + 1 ∧ Hid (n5 + (if d5 then 1 else 0) ≤ k + 1) ∧ Hid (OwnI wx W3.heap.size W3.heap.size ⟨A5, n5, c5, E5⟩) ∧ Hid (IsT.s ⟨A5, n5, c5, E5⟩ ++ ((if zi then [] else [y.s]) ++ restI d5 ((E.drop (k + 1)).map ItT.s) x.s) = TG) ∧ Hid (Below W3.heap.size W3 wx))
              case first =>
                cases st
                · have HE4 : Hid (IsT.s ⟨YA, Yn, Yc, YE⟩ ++ ((if zi then [] else [y.s]) ++ restI pt ((E.drop (k + 1)).map ItT.s) x.s) = TG) := Lib.hid (by
                    have h := HEQ3.out
                    rw [Bool.not_false, Bool.and_true] at h
                    exact h)
                  go_wp2
                  go_meet
                  case rel => exact ⟨YA, Yn, Yc, YE, pt, rfl, rfl, hYn, HYN, HOc, HE4, HBq⟩
                · have hpt : pt = true := by
                    have h := HST.out
                    cases pt
                    · exact Bool.noConfusion h
                    · rfl
                  subst hpt
                  have hY2 : Yn + 1 ≤ k + 1 := HYN.out
                  have hV0 := fun W h => (HV.out W h).1
                  have hV2 := fun W h => (HV.out W h).2.2.1
                  have hV3 := fun W h => (HV.out W h).2.2.2.1
                  have hV4 := fun W h => (HV.out W h).2.2.2.2
                  go_upto_region 11 with fail
                  have gg1 : Yn + 1 ≤ maxLen := by unfold maxLen; omega
                  have gg2 : (Yn + 1) * 64 ≤ 140737488355328 := by omega
                  have HBs : Hid (W3.heap.size ≤ wc.heap.size) := Lib.hid HBq.out.size
                  refine wp_region_held_drew (S := fun W => Below W3.heap.size W3 W) (by kernel_rfl) (below_drewN HBq.out 1) (fun hHeld => ?_)
                  refine rg_in 0 rfl (by kernel_rfl) (by kernel_rfl) (by kernel_rfl) (by rfl) (v := ?_) (fun _ _ _ h => h) hHeld (fun w hSw => ?_) ?_
                  rotate_left
                  · (try dsimp only at hSw); go_simp <;> (with_reducible rfl)
                  (try simp only [Act.put, List.setIfInBounds_toArray, List.set_cons_zero, List.set_cons_succ])
                  refine rg_in 1 rfl (by kernel_rfl) (by kernel_rfl) (by kernel_rfl) (by rfl) (v := ?_) (fun _ _ _ h => h) hHeld (fun w hSw => ?_) ?_
                  rotate_left
                  · (try dsimp only at hSw); go_simp <;> (with_reducible rfl)
                  (try simp only [Act.put, List.setIfInBounds_toArray, List.set_cons_zero, List.set_cons_succ])
                  refine rg_in 2 rfl (by kernel_rfl) (by kernel_rfl) (by kernel_rfl) (by rfl) (v := ?_) (fun _ _ _ h => h) hHeld (fun w hSw => ?_) ?_
                  rotate_left
                  · (try dsimp only at hSw); go_simp <;> (with_reducible rfl)
                  (try simp only [Act.put, List.setIfInBounds_toArray, List.set_cons_zero, List.set_cons_succ])
                  refine rg_in 3 rfl (by kernel_rfl) (by kernel_rfl) (by kernel_rfl) (by rfl) (v := ?_) (fun _ _ _ h => h) hHeld (fun w hSw => ?_) ?_
                  rotate_left
                  · (try dsimp only at hSw); go_simp <;> (with_reducible rfl)
                  (try simp only [Act.put, List.setIfInBounds_toArray, List.set_cons_zero, List.set_cons_succ])
                  refine rg_in 4 rfl (by kernel_rfl) (by kernel_rfl) (by kernel_rfl) (by rfl) (v := ?_) (fun _ _ _ h => h) hHeld (fun w hSw => ?_) ?_
                  rotate_left
                  · (try dsimp only at hSw); go_simp <;> (with_reducible rfl)
                  (try simp only [Act.put, List.setIfInBounds_toArray, List.set_cons_zero, List.set_cons_succ])
                  refine rg_in 5 rfl (by kernel_rfl) (by kernel_rfl) (by kernel_rfl) (by rfl) (v := ?_) (fun _ _ _ h => h) hHeld (fun w hSw => ?_) ?_
                  rotate_left
                  · (try dsimp only at hSw); go_simp <;> (with_reducible rfl)
                  (try simp only [Act.put, List.setIfInBounds_toArray, List.set_cons_zero, List.set_cons_succ])
                  refine rg_in 6 rfl (by kernel_rfl) (by kernel_rfl) (by kernel_rfl) (by rfl) (v := ?_) (fun _ _ _ h => h) hHeld (fun w hSw => ?_) ?_
                  rotate_left
                  · (try dsimp only at hSw); go_simp <;> (with_reducible rfl)
                  (try simp only [Act.put, List.setIfInBounds_toArray, List.set_cons_zero, List.set_cons_succ])
                  refine rg_in 7 rfl (by kernel_rfl) (by kernel_rfl) (by kernel_rfl) (by rfl) (v := ?_) (fun _ _ _ h => h) hHeld (fun w hSw => ?_) ?_
                  rotate_left
                  · (try dsimp only at hSw); go_simp <;> (with_reducible rfl)
                  (try simp only [Act.put, List.setIfInBounds_toArray, List.set_cons_zero, List.set_cons_succ])
                  refine rg_in 8 rfl (by kernel_rfl) (by kernel_rfl) (by kernel_rfl) (by rfl) (v := ?_) (fun _ _ _ h => h) hHeld (fun w hSw => ?_) ?_
                  rotate_left
                  · (try dsimp only at hSw); go_simp <;> (with_reducible rfl)
                  (try simp only [Act.put, List.setIfInBounds_toArray, List.set_cons_zero, List.set_cons_succ])
                  refine rg_in 9 rfl (by kernel_rfl) (by kernel_rfl) (by kernel_rfl) (by rfl) (v := ?_) (fun _ _ _ h => h) hHeld (fun w hSw => ?_) ?_
                  rotate_left
                  · (try dsimp only at hSw); go_simp <;> (with_reducible rfl)
                  (try simp only [Act.put, List.setIfInBounds_toArray, List.set_cons_zero, List.set_cons_succ])
                  refine rg_in 10 rfl (by kernel_rfl) (by kernel_rfl) (by kernel_rfl) (by rfl) (v := ?_) (fun _ _ _ h => h) hHeld (fun w hSw => ?_) ?_
                  rotate_left
                  · (try dsimp only at hSw); go_simp <;> (with_reducible rfl)
                  (try simp only [Act.put, List.setIfInBounds_toArray, List.set_cons_zero, List.set_cons_succ])
                  refine rg_in 11 rfl (by kernel_rfl) (by kernel_rfl) (by kernel_rfl) (by rfl) (v := ?_) (fun _ _ _ h => h) hHeld (fun w hSw => ?_) ?_
                  rotate_left
                  · (try dsimp only at hSw); go_simp <;> (with_reducible rfl)
                  (try simp only [Act.put, List.setIfInBounds_toArray, List.set_cons_zero, List.set_cons_succ])
                  refine rg_in 12 rfl (by kernel_rfl) (by kernel_rfl) (by kernel_rfl) (by rfl) (v := ?_) (fun _ _ _ h => h) hHeld (fun w hSw => ?_) ?_
                  rotate_left
                  · (try dsimp only at hSw); go_simp <;> (with_reducible rfl)
                  (try simp only [Act.put, List.setIfInBounds_toArray, List.set_cons_zero, List.set_cons_succ])
                  refine rg_in 13 rfl (by kernel_rfl) (by kernel_rfl) (by kernel_rfl) (by rfl) (v := ?_) (fun _ _ _ h => h) hHeld (fun w hSw => ?_) ?_
                  rotate_left
                  · (try dsimp only at hSw); go_simp <;> (with_reducible rfl)
                  (try simp only [Act.put, List.setIfInBounds_toArray, List.set_cons_zero, List.set_cons_succ])
                  refine rg_in 14 rfl (by kernel_rfl) (by kernel_rfl) (by kernel_rfl) (by rfl) (v := ?_) (fun _ _ _ h => h) hHeld (fun w hSw => ?_) ?_
                  rotate_left
                  · (try dsimp only at hSw); go_simp <;> (with_reducible rfl)
                  (try simp only [Act.put, List.setIfInBounds_toArray, List.set_cons_zero, List.set_cons_succ])
                  refine rg_in 15 rfl (by kernel_rfl) (by kernel_rfl) (by kernel_rfl) (by rfl) (v := ?_) (fun _ _ _ h => h) hHeld (fun w hSw => ?_) ?_
                  rotate_left
                  · (try dsimp only at hSw); go_simp <;> (with_reducible rfl)
                  (try simp only [Act.put, List.setIfInBounds_toArray, List.set_cons_zero, List.set_cons_succ])
                  refine rg_in 16 rfl (by kernel_rfl) (by kernel_rfl) (by kernel_rfl) (by rfl) (v := ?_) (fun _ _ _ h => h) hHeld (fun w hSw => ?_) ?_
                  rotate_left
                  · (try dsimp only at hSw); go_simp <;> (with_reducible rfl)
                  (try simp only [Act.put, List.setIfInBounds_toArray, List.set_cons_zero, List.set_cons_succ])
                  refine rg_in 17 rfl (by kernel_rfl) (by kernel_rfl) (by kernel_rfl) (by rfl) (v := ?_) (fun _ _ _ h => h) hHeld (fun w hSw => ?_) ?_
                  rotate_left
                  · (try dsimp only at hSw); go_simp <;> (with_reducible rfl)
                  (try simp only [Act.put, List.setIfInBounds_toArray, List.set_cons_zero, List.set_cons_succ])
                  refine rg_in 18 rfl (by kernel_rfl) (by kernel_rfl) (by kernel_rfl) (by rfl) (v := ?_) (fun _ _ _ h => h) hHeld (fun w hSw => ?_) ?_
                  rotate_left
                  · (try dsimp only at hSw); go_simp <;> (with_reducible rfl)
                  (try simp only [Act.put, List.setIfInBounds_toArray, List.set_cons_zero, List.set_cons_succ])
                  refine rg_in 19 rfl (by kernel_rfl) (by kernel_rfl) (by kernel_rfl) (by rfl) (v := ?_) (fun _ _ _ h => h) hHeld (fun w hSw => ?_) ?_
                  rotate_left
                  · (try dsimp only at hSw); go_simp <;> (with_reducible rfl)
                  (try simp only [Act.put, List.setIfInBounds_toArray, List.set_cons_zero, List.set_cons_succ])
                  refine rg_in 20 rfl (by kernel_rfl) (by kernel_rfl) (by kernel_rfl) (by rfl) (v := ?_) (fun _ _ _ h => h) hHeld (fun w hSw => ?_) ?_
                  rotate_left
                  · (try dsimp only at hSw); go_simp <;> (with_reducible rfl)
                  (try simp only [Act.put, List.setIfInBounds_toArray, List.set_cons_zero, List.set_cons_succ])
                  refine rg_in 21 rfl (by kernel_rfl) (by kernel_rfl) (by kernel_rfl) (by rfl) (v := ?_) (fun _ _ _ h => h) hHeld (fun w hSw => ?_) ?_
                  rotate_left
                  · (try dsimp only at hSw); go_simp <;> (with_reducible rfl)
                  (try simp only [Act.put, List.setIfInBounds_toArray, List.set_cons_zero, List.set_cons_succ])
                  refine rg_do 22 rfl (by kernel_rfl) (by rfl) (fun K hK => ?_)
                  refine step_rows 39 54 1 _ rfl 4 i0 (.agg #[.slice none 0 0, .slice none 0 0, .bool false, .int .i64 0]) Try.underlying39 hi0 hz0 hz1 #[.slice x.k.A x.k.n x.k.c, .slice x.v.A x.v.n x.v.c, .bool x.b, .int .i64 x.n] (fill_i _ _ _ _ rfl) rfl (by decide) (by decide) ?_
                  intro g22 w122 hge22 sh22 hl22 hb22
                  have own22 := own_later HOc.out.row.drew hb22
                  refine hK.out _ _ (hHeld.trans (hb22.mono hHeld.size)) (fun hHeld => ?_)
                  clear hK K
                  (try simp only [Act.put, List.setIfInBounds_toArray, List.set_cons_zero, List.set_cons_succ])
                  refine rg_do 23 rfl (by kernel_rfl) (by rfl) (fun K hK => ?_)
                  refine wp_append_shows _ _ _ 39 rfl W3.heap.size 54 i0 (.agg #[.slice none 0 0, .slice none 0 0, .bool false, .int .i64 0]) 4 64 Try.underlying39 hi0 hz0 hz1 hz2 rfl (by decide) _ _ _ rfl own22 (g22 + 1) _ 1 _ _ rfl sh22 (it_one _ _ _ _ _ _ _ _) gg1 gg2 hHeld.size ?_
                  intro Az cz w123 own23 hgr23 hb23
                  refine hK.out _ _ (hHeld.trans hb23) (fun hHeld => ?_)
                  clear hK K
                  (try simp only [Act.put, List.setIfInBounds_toArray, List.set_cons_zero, List.set_cons_succ])
                  refine rg_in 24 rfl (by kernel_rfl) (by kernel_rfl) (by kernel_rfl) (by rfl) (v := ?_) (fun _ _ _ h => h) hHeld (fun w hSw => ?_) ?_
                  rotate_left
                  · (try dsimp only at hSw); go_simp <;> (with_reducible rfl)
                  (try simp only [Act.put, List.setIfInBounds_toArray, List.set_cons_zero, List.set_cons_succ])
                  refine wpAnyH_done (by kernel_rfl) ?_ _
                  have HONz : Hid (w123.ownsRow W3.heap.size 54 4 (.slice Az (Yn + 1) cz) (Yn + 1) (_ ++ (⟨x.k, x.v, x.b, x.n⟩ : ItT).cells)) := Lib.hid own23
                  have HBz : Hid (Below W3.heap.size W3 w123) := Lib.hid hHeld
                  have HGz : Hid (Below W3.heap.size wc w123) := Lib.hid (((below_drewN (Below.refl _ _) 1).trans (hb22.mono HBs.out)).trans hb23)
                  clear hHeld sh22 own22 hb22 hl22 hge22 hgr23 hb23
                  have HOz : Hid (OwnI w123 W3.heap.size W3.heap.size ⟨Az, Yn + 1, cz, YE ++ [⟨x.k, x.v, x.b, x.n⟩]⟩) := Lib.hid (HOc.out.snoc HGz.out HONz.out (HXit.out _ HBz.out))
                  have HE4 : Hid (IsT.s ⟨Az, Yn + 1, cz, YE ++ [⟨x.k, x.v, x.b, x.n⟩]⟩ ++ ((if zi then [] else [y.s]) ++ restI false ((E.drop (k + 1)).map ItT.s) x.s) = TG) := Lib.hid (by
                    have h := HEQ3.out
                    unfold IsT.s at h ⊢
                    simp only at h ⊢
                    rw [List.map_append, List.append_assoc]
                    exact h)
                  clear hV0 hV2 hV3 hV4
                  go_wp2_with fail
                  go_meet
                  case rel => exact ⟨Az, Yn + 1, cz, YE ++ [⟨x.k, x.v, x.b, x.n⟩], false, rfl, rfl, hY2, Lib.hid hY2, HOz, HE4, HBz⟩
              case rest =>
                obtain ⟨A5, n5, c5, E5, d5, rfl, rfl, hn5, HN5, HO5, HE5, HB5⟩ := hcut
                obtain ⟨v0, -⟩ := HV.out wc HB5.out
                obtain ⟨y0, y1, y2, y3⟩ := HYall.out wc HB5.out
                have hq := fun (j : Nat) => HIS.out (wc.drewN j) (below_drewN HB5.out j)
                clear HOc HST HEQ3 HBq HYN
                clear hYn
                go_upto_region 13 with fail
                go_quiet ((go_at_call 42; exact Calls.quiet_of_same ((hq _).mono fun _ _ h => ⟨h.1, h.2.symm⟩)))
                have hbn := below_drewN (Below.refl wc.heap.size wc) nq
                obtain ⟨w6, hw6⟩ : ∃ w6, wc.drewN nq = w6 := ⟨_, rfl⟩
                rw [hw6] at hbn ⊢
                have HO6 := Lib.hid (HO5.out.later HB5.out.size hbn)
                have HB6 := Lib.hid (HB5.out.trans (hbn.mono HB5.out.size))
                have HYO6 := Lib.hid (HYO1.out.later HB6.out)
                clear hw6 hq y0 y1 y2 y3 v0 HO5 hbn
                obtain ⟨y0, y1, y2, y3⟩ := HYall.out w6 HB6.out
                cases zi
                · have hbC := bel_alloc (Below.refl w6.heap.size w6) (.cells #[.slice y.k.A y.k.n y.k.c, .slice y.v.A y.v.n y.v.c, .bool y.b, .int .i64 y.n] 54)
                  have hsC := it_new w6 y
                  have hown := own_later HO6.out.row hbC
                  have g1 : n5 + 1 ≤ maxLen := by unfold maxLen; omega
                  have g2 : (n5 + 1) * 64 ≤ 140737488355328 := by omega
                  have g3 : W3.heap.size ≤ (w6.alloc (.cells #[.slice y.k.A y.k.n y.k.c, .slice y.v.A y.v.n y.v.c, .bool y.b, .int .i64 y.n] 54)).heap.size := Nat.le_trans HB6.out.size hbC.size
                  have h1c := cells_it [y]
                  rw [List.flatMap_singleton] at h1c
                  have HBC := Lib.hid hbC
                  clear hbC
                  go_wp2_with (at_builtin; refine wpList_append_shows _ rfl _ _ 39 rfl W3.heap.size 54 i0 (.agg #[.slice none 0 0, .slice none 0 0, .bool false, .int .i64 0]) 4 64 Try.underlying39 hi0 hz0 hz1 hz2 rfl (by decide) _ _ _ rfl hown (w6.heap.size + 1) _ 1 _ _ rfl hsC h1c g1 g2 g3 ?_; intro A9 c9 w9 hown9 hgrow9 hb9; have HON9 := Lib.hid hown9; have HB9 : Hid (Below W3.heap.size w6 w9) := Lib.hid ((HBC.out.mono HB6.out.size).trans hb9); clear hown9 hgrow9 hb9 hown hsC g1 g2 g3 h1c)
                  have HO9 : Hid (OwnI w9 W3.heap.size W3.heap.size ⟨A9, n5 + 1, c9, E5 ++ [y]⟩) := Lib.hid (HO6.out.snoc HB9.out HON9.out (HYO6.out.later HB9.out))
                  have HE9 : Hid (IsT.s ⟨A9, n5 + 1, c9, E5 ++ [y]⟩ ++ restI d5 ((E.drop (k + 1)).map ItT.s) x.s = TG) := Lib.hid (by
                    have h := HE5.out
                    unfold IsT.s at h ⊢
                    simp only at h ⊢
                    rw [List.map_append, List.append_assoc]
                    exact h)
                  have HBz : Hid (Below W3.heap.size W3 w9) := Lib.hid (HB6.out.trans HB9.out)
                  have HN9 : Hid (n5 + 1 + (if d5 then 1 else 0) ≤ k + 1 + 1) := Lib.hid (by have := HN5.out; omega)
                  go_roundw
                  case rel => exact ⟨k + 1, d5, ⟨A9, n5 + 1, c9, E5 ++ [y]⟩, rfl, rfl, by first | rfl | go_num, HKN.out, by show n5 + 1 ≤ k + 1 + 1; omega, HN9, HO9, HE9, HBz⟩
                  case measure => have := HKN.out; simp [intOf]; omega
                · have HN9 : Hid (n5 + (if d5 then 1 else 0) ≤ k + 1 + 1) := Lib.hid (Nat.le_succ_of_le HN5.out)
                  clear y0 y1 y2 y3
                  go_wp2_with fail
                  go_roundw
                  case rel => exact ⟨k + 1, d5, ⟨A5, n5, c5, E5⟩, rfl, rfl, by first | rfl | go_num, HKN.out, by show n5 ≤ k + 1 + 1; omega, HN9, HO6, Lib.hid HE5.out, HB6⟩
                  case measure => have := HKN.out; simp [intOf]; omega
          · have e : k = n := by omega
            subst e
            have hkn' : ¬ (k : Int) < (k : Int) := by omega
            have HE2 : Hid (IsT.s ⟨YA, Yn, Yc, YE⟩ ++ (if pt then [itemE x.s] else []) = TG) := Lib.hid (by
              have h := HEQ.out
              rw [List.drop_eq_nil_of_le (Nat.le_of_eq HLn.out), List.map_nil, restI_end] at h
              exact h)
            clear HEQ hkn hk v0 v1 v2 v3 v4
            go_wp2_with fail
            go_meet
            case rel => exact ⟨⟨YA, Yn, Yc, YE⟩, pt, rfl, rfl, hYn, HYN, HOY, HE2, HBr⟩
      case rest =>
        obtain ⟨⟨YA, Yn, Yc, YE⟩, pt, rfl, rfl, hYn, HYN, HOc, HEQ, HBq⟩ := hcut
        simp only at hYn HYN ⊢
        go_upto_region 15 with fail
        cases pt
        · have HZ2 : Hid (IsT.s ⟨YA, Yn, Yc, YE⟩ = doneR X.s ((M.take (i + 1)).map EdT.s)) := Lib.hid (by
            have h := HEQ.out
            rw [if_neg Bool.noConfusion, List.append_nil] at h
            rw [HEQo.out]
            exact h)
          have HLz := Lib.hid (HOc.out.lie HBq.out.size)
          have HBf := Lib.hid (HBW.out.trans (HBq.out.mono HBW.out.size))
          go_wp2_with fail
          go_roundw
          case rel => exact ⟨i + 1, ⟨YA, Yn, Yc, YE⟩, rfl, by first | rfl | go_num, him, by show Yn ≤ X.n + (i + 1); omega, HZ2, HLz, HBf⟩
          case measure => simp [intOf]; omega
        · have hY2 : Yn + 1 ≤ n + 1 := HYN.out
          have hV0 := fun W h => (HV.out W h).1
          have hV2 := fun W h => (HV.out W h).2.2.1
          have hV3 := fun W h => (HV.out W h).2.2.2.1
          have hV4 := fun W h => (HV.out W h).2.2.2.2
          go_upto_region 16 with fail
          have gg1 : Yn + 1 ≤ maxLen := by unfold maxLen; omega
          have gg2 : (Yn + 1) * 64 ≤ 140737488355328 := by omega
          have HBs : Hid (W3.heap.size ≤ wc.heap.size) := Lib.hid HBq.out.size
          refine wp_region_held_drew (S := fun W => Below W3.heap.size W3 W) (by kernel_rfl) (below_drewN HBq.out 1) (fun hHeld => ?_)
          refine rg_in 0 rfl (by kernel_rfl) (by kernel_rfl) (by kernel_rfl) (by rfl) (v := ?_) (fun _ _ _ h => h) hHeld (fun w hSw => ?_) ?_
          rotate_left
          · (try dsimp only at hSw); go_simp <;> (with_reducible rfl)
          (try simp only [Act.put, List.setIfInBounds_toArray, List.set_cons_zero, List.set_cons_succ])
          refine rg_in 1 rfl (by kernel_rfl) (by kernel_rfl) (by kernel_rfl) (by rfl) (v := ?_) (fun _ _ _ h => h) hHeld (fun w hSw => ?_) ?_
          rotate_left
          · (try dsimp only at hSw); go_simp <;> (with_reducible rfl)
          (try simp only [Act.put, List.setIfInBounds_toArray, List.set_cons_zero, List.set_cons_succ])
          refine rg_in 2 rfl (by kernel_rfl) (by kernel_rfl) (by kernel_rfl) (by rfl) (v := ?_) (fun _ _ _ h => h) hHeld (fun w hSw => ?_) ?_
          rotate_left
          · (try dsimp only at hSw); go_simp <;> (with_reducible rfl)
          (try simp only [Act.put, List.setIfInBounds_toArray, List.set_cons_zero, List.set_cons_succ])
          refine rg_in 3 rfl (by kernel_rfl) (by kernel_rfl) (by kernel_rfl) (by rfl) (v := ?_) (fun _ _ _ h => h) hHeld (fun w hSw => ?_) ?_
          rotate_left
          · (try dsimp only at hSw); go_simp <;> (with_reducible rfl)
          (try simp only [Act.put, List.setIfInBounds_toArray, List.set_cons_zero, List.set_cons_succ])
          refine rg_in 4 rfl (by kernel_rfl) (by kernel_rfl) (by kernel_rfl) (by rfl) (v := ?_) (fun _ _ _ h => h) hHeld (fun w hSw => ?_) ?_
          rotate_left
          · (try dsimp only at hSw); go_simp <;> (with_reducible rfl)
          (try simp only [Act.put, List.setIfInBounds_toArray, List.set_cons_zero, List.set_cons_succ])
          refine rg_in 5 rfl (by kernel_rfl) (by kernel_rfl) (by kernel_rfl) (by rfl) (v := ?_) (fun _ _ _ h => h) hHeld (fun w hSw => ?_) ?_
          rotate_left
          · (try dsimp only at hSw); go_simp <;> (with_reducible rfl)
          (try simp only [Act.put, List.setIfInBounds_toArray, List.set_cons_zero, List.set_cons_succ])
          refine rg_in 6 rfl (by kernel_rfl) (by kernel_rfl) (by kernel_rfl) (by rfl) (v := ?_) (fun _ _ _ h => h) hHeld (fun w hSw => ?_) ?_
          rotate_left
          · (try dsimp only at hSw); go_simp <;> (with_reducible rfl)
          (try simp only [Act.put, List.setIfInBounds_toArray, List.set_cons_zero, List.set_cons_succ])
          refine rg_in 7 rfl (by kernel_rfl) (by kernel_rfl) (by kernel_rfl) (by rfl) (v := ?_) (fun _ _ _ h => h) hHeld (fun w hSw => ?_) ?_
          rotate_left
          · (try dsimp only at hSw); go_simp <;> (with_reducible rfl)
          (try simp only [Act.put, List.setIfInBounds_toArray, List.set_cons_zero, List.set_cons_succ])
          refine rg_in 8 rfl (by kernel_rfl) (by kernel_rfl) (by kernel_rfl) (by rfl) (v := ?_) (fun _ _ _ h => h) hHeld (fun w hSw => ?_) ?_
          rotate_left
          · (try dsimp only at hSw); go_simp <;> (with_reducible rfl)
          (try simp only [Act.put, List.setIfInBounds_toArray, List.set_cons_zero, List.set_cons_succ])
          refine rg_in 9 rfl (by kernel_rfl) (by kernel_rfl) (by kernel_rfl) (by rfl) (v := ?_) (fun _ _ _ h => h) hHeld (fun w hSw => ?_) ?_
          rotate_left
          · (try dsimp only at hSw); go_simp <;> (with_reducible rfl)
          (try simp only [Act.put, List.setIfInBounds_toArray, List.set_cons_zero, List.set_cons_succ])
          refine rg_in 10 rfl (by kernel_rfl) (by kernel_rfl) (by kernel_rfl) (by rfl) (v := ?_) (fun _ _ _ h => h) hHeld (fun w hSw => ?_) ?_
          rotate_left
          · (try dsimp only at hSw); go_simp <;> (with_reducible rfl)
          (try simp only [Act.put, List.setIfInBounds_toArray, List.set_cons_zero, List.set_cons_succ])
          refine rg_in 11 rfl (by kernel_rfl) (by kernel_rfl) (by kernel_rfl) (by rfl) (v := ?_) (fun _ _ _ h => h) hHeld (fun w hSw => ?_) ?_
          rotate_left
          · (try dsimp only at hSw); go_simp <;> (with_reducible rfl)
          (try simp only [Act.put, List.setIfInBounds_toArray, List.set_cons_zero, List.set_cons_succ])
          refine rg_in 12 rfl (by kernel_rfl) (by kernel_rfl) (by kernel_rfl) (by rfl) (v := ?_) (fun _ _ _ h => h) hHeld (fun w hSw => ?_) ?_
          rotate_left
          · (try dsimp only at hSw); go_simp <;> (with_reducible rfl)
          (try simp only [Act.put, List.setIfInBounds_toArray, List.set_cons_zero, List.set_cons_succ])
          refine rg_in 13 rfl (by kernel_rfl) (by kernel_rfl) (by kernel_rfl) (by rfl) (v := ?_) (fun _ _ _ h => h) hHeld (fun w hSw => ?_) ?_
          rotate_left
          · (try dsimp only at hSw); go_simp <;> (with_reducible rfl)
          (try simp only [Act.put, List.setIfInBounds_toArray, List.set_cons_zero, List.set_cons_succ])
          refine rg_in 14 rfl (by kernel_rfl) (by kernel_rfl) (by kernel_rfl) (by rfl) (v := ?_) (fun _ _ _ h => h) hHeld (fun w hSw => ?_) ?_
          rotate_left
          · (try dsimp only at hSw); go_simp <;> (with_reducible rfl)
          (try simp only [Act.put, List.setIfInBounds_toArray, List.set_cons_zero, List.set_cons_succ])
          refine rg_in 15 rfl (by kernel_rfl) (by kernel_rfl) (by kernel_rfl) (by rfl) (v := ?_) (fun _ _ _ h => h) hHeld (fun w hSw => ?_) ?_
          rotate_left
          · (try dsimp only at hSw); go_simp <;> (with_reducible rfl)
          (try simp only [Act.put, List.setIfInBounds_toArray, List.set_cons_zero, List.set_cons_succ])
          refine rg_in 16 rfl (by kernel_rfl) (by kernel_rfl) (by kernel_rfl) (by rfl) (v := ?_) (fun _ _ _ h => h) hHeld (fun w hSw => ?_) ?_
          rotate_left
          · (try dsimp only at hSw); go_simp <;> (with_reducible rfl)
          (try simp only [Act.put, List.setIfInBounds_toArray, List.set_cons_zero, List.set_cons_succ])
          refine rg_in 17 rfl (by kernel_rfl) (by kernel_rfl) (by kernel_rfl) (by rfl) (v := ?_) (fun _ _ _ h => h) hHeld (fun w hSw => ?_) ?_
          rotate_left
          · (try dsimp only at hSw); go_simp <;> (with_reducible rfl)
          (try simp only [Act.put, List.setIfInBounds_toArray, List.set_cons_zero, List.set_cons_succ])
          refine rg_in 18 rfl (by kernel_rfl) (by kernel_rfl) (by kernel_rfl) (by rfl) (v := ?_) (fun _ _ _ h => h) hHeld (fun w hSw => ?_) ?_
          rotate_left
          · (try dsimp only at hSw); go_simp <;> (with_reducible rfl)
          (try simp only [Act.put, List.setIfInBounds_toArray, List.set_cons_zero, List.set_cons_succ])
          refine rg_in 19 rfl (by kernel_rfl) (by kernel_rfl) (by kernel_rfl) (by rfl) (v := ?_) (fun _ _ _ h => h) hHeld (fun w hSw => ?_) ?_
          rotate_left
          · (try dsimp only at hSw); go_simp <;> (with_reducible rfl)
          (try simp only [Act.put, List.setIfInBounds_toArray, List.set_cons_zero, List.set_cons_succ])
          refine rg_in 20 rfl (by kernel_rfl) (by kernel_rfl) (by kernel_rfl) (by rfl) (v := ?_) (fun _ _ _ h => h) hHeld (fun w hSw => ?_) ?_
          rotate_left
          · (try dsimp only at hSw); go_simp <;> (with_reducible rfl)
          (try simp only [Act.put, List.setIfInBounds_toArray, List.set_cons_zero, List.set_cons_succ])
          refine rg_in 21 rfl (by kernel_rfl) (by kernel_rfl) (by kernel_rfl) (by rfl) (v := ?_) (fun _ _ _ h => h) hHeld (fun w hSw => ?_) ?_
          rotate_left
          · (try dsimp only at hSw); go_simp <;> (with_reducible rfl)
          (try simp only [Act.put, List.setIfInBounds_toArray, List.set_cons_zero, List.set_cons_succ])
          refine rg_do 22 rfl (by kernel_rfl) (by rfl) (fun K hK => ?_)
          refine step_rows 39 54 1 _ rfl 4 i0 (.agg #[.slice none 0 0, .slice none 0 0, .bool false, .int .i64 0]) Try.underlying39 hi0 hz0 hz1 #[.slice x.k.A x.k.n x.k.c, .slice x.v.A x.v.n x.v.c, .bool x.b, .int .i64 x.n] (fill_i _ _ _ _ rfl) rfl (by decide) (by decide) ?_
          intro g22 w122 hge22 sh22 hl22 hb22
          have own22 := own_later HOc.out.row.drew hb22
          refine hK.out _ _ (hHeld.trans (hb22.mono hHeld.size)) (fun hHeld => ?_)
          clear hK K
          (try simp only [Act.put, List.setIfInBounds_toArray, List.set_cons_zero, List.set_cons_succ])
          refine rg_do 23 rfl (by kernel_rfl) (by rfl) (fun K hK => ?_)
          refine wp_append_shows _ _ _ 39 rfl W3.heap.size 54 i0 (.agg #[.slice none 0 0, .slice none 0 0, .bool false, .int .i64 0]) 4 64 Try.underlying39 hi0 hz0 hz1 hz2 rfl (by decide) _ _ _ rfl own22 (g22 + 1) _ 1 _ _ rfl sh22 (it_one _ _ _ _ _ _ _ _) gg1 gg2 hHeld.size ?_
          intro Az cz w123 own23 hgr23 hb23
          refine hK.out _ _ (hHeld.trans hb23) (fun hHeld => ?_)
          clear hK K
          (try simp only [Act.put, List.setIfInBounds_toArray, List.set_cons_zero, List.set_cons_succ])
          refine rg_in 24 rfl (by kernel_rfl) (by kernel_rfl) (by kernel_rfl) (by rfl) (v := ?_) (fun _ _ _ h => h) hHeld (fun w hSw => ?_) ?_
          rotate_left
          · (try dsimp only at hSw); go_simp <;> (with_reducible rfl)
          (try simp only [Act.put, List.setIfInBounds_toArray, List.set_cons_zero, List.set_cons_succ])
          refine wpAnyH_done (by kernel_rfl) ?_ _
          have HONz : Hid (w123.ownsRow W3.heap.size 54 4 (.slice Az (Yn + 1) cz) (Yn + 1) (_ ++ (⟨x.k, x.v, x.b, x.n⟩ : ItT).cells)) := Lib.hid own23
          have HBz : Hid (Below W3.heap.size W3 w123) := Lib.hid hHeld
          have HGz : Hid (Below W3.heap.size wc w123) := Lib.hid (((below_drewN (Below.refl _ _) 1).trans (hb22.mono HBs.out)).trans hb23)
          clear hHeld sh22 own22 hb22 hl22 hge22 hgr23 hb23
          have HOz : Hid (OwnI w123 W3.heap.size W3.heap.size ⟨Az, Yn + 1, cz, YE ++ [⟨x.k, x.v, x.b, x.n⟩]⟩) := Lib.hid (HOc.out.snoc HGz.out HONz.out (HXit.out _ HBz.out))
          have HZ2 : Hid (IsT.s ⟨Az, Yn + 1, cz, YE ++ [⟨x.k, x.v, x.b, x.n⟩]⟩ = doneR X.s ((M.take (i + 1)).map EdT.s)) := Lib.hid (by
            have h := HEQ.out
            rw [if_pos rfl] at h
            rw [HEQo.out, ← h]
            unfold IsT.s
            simp only
            rw [List.map_append]
            rfl)
          have HLz := Lib.hid (HOz.out.lie HBz.out.size)
          have HBf := Lib.hid (HBW.out.trans (HBz.out.mono HBW.out.size))
          clear hV0 hV2 hV3 hV4
          go_wp2_with fail
          go_roundw
          case rel => exact ⟨i + 1, ⟨Az, Yn + 1, cz, YE ++ [⟨x.k, x.v, x.b, x.n⟩]⟩, rfl, by first | rfl | go_num, him, by show Yn + 1 ≤ X.n + (i + 1); omega, HZ2, HLz, HBf⟩
          case measure => simp [intOf]; omega
    · have e : i = m := by omega
      subst e
      have him' : ¬ (i : Int) < (i : Int) := by omega
      have HP : Hid (RDoP (doneR X.s (M.map EdT.s)) w (.returned (.slice ZA n Zc)) wr) := Lib.hid ⟨HBr.out, ⟨ZA, n, Zc, E⟩, rfl, by rw [HZ.out, List.take_of_length_le (Nat.le_of_eq HL.out)], HLZ.out⟩
      clear him hi
      go_wp2
      go_ret
      exact HP.out
end Go.Proofs.Ytkbcgcokokddlaa
