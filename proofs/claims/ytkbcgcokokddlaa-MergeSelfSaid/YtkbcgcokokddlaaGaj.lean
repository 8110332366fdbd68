import Derived.Test.YtkbcgcokokddlaaGag
import Derived.Test.YtkbcgcokokddlaaGah
import Derived.Test.YtkbcgcokokddlaaGai
import Derived.Test.YtkbcgcokokddlaaGae
/-
  Layer 15: the law's some, items, put.
-/
namespace Go.Proofs.Ytkbcgcokokddlaa
open Go.RowKit
set_option linter.unusedVariables false
set_option linter.unusedSimpArgs false

/-- A row of rows of edits, all in memory of its own. -/
structure OwnS (W : World) (D : Nat) (A : Option Addr) (n c : Nat) (L : List EsT) : Prop where
  row : W.ownsRow D 22 1 (.slice A n c) n (L.map EsT.val)
  all : ∀ X ∈ L, OwnL W D X
theorem OwnS.none (W : World) (D : Nat) : OwnS W D Option.none 0 0 [] := ⟨World.ownsRow_nil _ _ _ _, nofun⟩
theorem OwnS.later {W W' : World} {D n c : Nat} {A : Option Addr} {L : List EsT} (h : OwnS W D A n c L) (hb : Below W.heap.size W W') : OwnS W' D A n c L := ⟨own_later h.row hb, fun X hX => (h.all X hX).later hb⟩
theorem OwnS.shows {W : World} {D n c : Nat} {A : Option Addr} {L : List EsT} (h : OwnS W D A n c L) : Shows W W.heap.size 1 A n (L.map EsT.val) := Shows.own h.row
theorem OwnS.len {W : World} {D n c : Nat} {A : Option Addr} {L : List EsT} (h : OwnS W D A n c L) : L.length = n := by
  have := h.row.1
  simpa using this
theorem OwnS.snoc {W W' : World} {D n c c' : Nat} {A A' : Option Addr} {L : List EsT} {X : EsT} (h : OwnS W D A n c L) (hX : OwnL W D X) (hg : W.grownBy W' (Value.slice A n c).ownBlock) (hown : W'.ownsRow D 22 1 (.slice A' (n + 1) c') (n + 1) (L.map EsT.val ++ [X.val])) : OwnS W' D A' (n + 1) c' (L ++ [X]) := by
  refine ⟨by rw [List.map_append, List.map_singleton]; exact hown, fun Y hY => ?_⟩
  rcases List.mem_append.1 hY with hY | hY
  · exact (h.all Y hY).other h.row (by decide) (by decide) hg
  · rw [List.mem_singleton.1 hY]
    exact hX.other h.row (by decide) (by decide) hg
def someS (L : List (List EdS)) : List (List EdS) := (L.take 12).map (fun l => (l.take 60).map fewS)
def SomP (LL : List (List EdS)) (W : World) (e : Ending) (W' : World) : Prop := Below W.heap.size W W' ∧ ∃ (A : Option Addr) (n c : Nat) (L : List EsT), e = .returned (.slice A n c) ∧ L.map EsT.s = LL ∧ OwnS W' W.heap.size A n c L
set_option maxRecDepth 20000 in
set_option maxHeartbeats 2000000 in
theorem msome_any (A : Option Addr) (n c B : Nat) (L : List EsT) (w : World) (hS : Shows w B 1 A n (L.map EsT.val)) (hL : ∀ X ∈ L, X.Lie w B) (hB : B ≤ w.heap.size) (hfit : n ≤ c) (hmax : c ≤ maxLen) :
    Calls Try.prog 20 #[.slice A n c] w (SomP (someS (L.map EsT.s)) w) := by
  have hl : L.length = n := by have := hS.1; simpa using this
  unfold maxLen at hmax
  obtain ⟨r, hr⟩ : ∃ r, r = min n 12 := ⟨_, rfl⟩
  have hrn : r ≤ n := by omega
  have hr12 : r ≤ 12 := by omega
  have HTK : Hid (L.take 12 = L.take r) := Lib.hid (by
    rcases Nat.le_total n 12 with h | h
    · rw [show r = n by omega, List.take_of_length_le (by omega), List.take_of_length_le (by omega)]
    · rw [show r = 12 by omega])
  have i1 : (r : Int) ≤ (n : Int) := by omega
  have i2 : (n : Int) ≤ (c : Int) := by omega
  have i3 : (r : Int) ≤ (c : Int) := by omega
  have i4 : (0 : Int) ≤ (r : Int) := by omega
  have HS := Lib.hid hS
  have HL := Lib.hid hL
  have HB := Lib.hid hB
  obtain ⟨i0, hi0, hz0, hz1, hz2⟩ := edits_info
  obtain ⟨TL, hTL⟩ : ∃ TL, someS (L.map EsT.s) = TL := ⟨_, rfl⟩
  rw [hTL]
  have HTL := Lib.hid hTL
  have HRN := Lib.hid hrn
  clear hS hL hB hTL hl
  go_enter Try.func20, Try.ntmps20
  go_upto_region 2 with fail
  go_cut [10, 11, 12] (fun p q s wx => p = .slice A r c ∧ q = .int .i64 r ∧ s = .int .i64 0 ∧ w = wx)
  case first =>
    by_cases hmn : 12 < n
    · have hrr : r = 12 := by omega
      clear hr
      subst hrr
      go_wp2
      go_meet
      case rel => exact ⟨rfl, rfl, rfl, rfl⟩
    · have hrr : n = r := by omega
      clear hr
      subst hrr
      go_wp2
      go_meet
      case rel => exact ⟨rfl, rfl, rfl, rfl⟩
  obtain ⟨rfl, rfl, rfl, hw0⟩ := hcut
  subst hw0
  clear hr
  go_wp2_with fail
  go_loopw [3, 12] (fun o s wr => ∃ (i : Nat) (A2 : Option Addr) (c2 : Nat) (L2 : List EsT), o = .slice A2 i c2 ∧ s = .int .i64 i ∧ i ≤ r ∧ Hid (OwnS wr w.heap.size A2 i c2 L2) ∧ Hid (L2.map EsT.s = (L.take i).map (fun X => (X.s.take 60).map fewS)) ∧ Hid (Below w.heap.size w wr)) (fun _ s _ => r - (intOf s).toNat)
  case atStart => exact ⟨0, none, 0, [], rfl, rfl, Nat.zero_le _, Lib.hid (OwnS.none _ _), Lib.hid rfl, Lib.hid (Below.refl _ _)⟩
  case round =>
    obtain ⟨i, A2, c2, L2, rfl, rfl, hi, HO, HZ, HBr⟩ := hrel
    by_cases hin : i < r
    · obtain ⟨b, off, X, hA, hbb, hX, x0⟩ := es_at (HS.out.below (HBr.out.mono HB.out)) (show i < n by omega)
      have hlie := (HL.out X (List.mem_of_getElem? hX)).later (HBr.out.mono HB.out)
      have hf := mfew_any X 60 B wr hlie (Nat.le_trans HB.out HBr.out.size) (by decide)
      rw [show ((60 : Nat) : Int) = 60 from rfl] at hf
      have hin' : (i : Int) < (r : Int) := by omega
      have w3 : wrap64 ((i : Int) + 1) = ((i + 1 : Nat) : Int) := by unfold wrap64; omega
      have HXX := Lib.hid hX
      have HIN := Lib.hid hin
      subst hA
      clear hbb hX hlie hi hin
      go_wp2_with fail
      refine hf.mono ?_
      rintro e w1 ⟨hb1, Y, rfl, hY, hOY⟩
      have HO1 := Lib.hid (HO.out.later hb1)
      have HY := Lib.hid hY
      have HOY := Lib.hid (hOY.base HBr.out.size)
      have HB1 := Lib.hid (HBr.out.trans (hb1.mono HBr.out.size))
      have hbC := bel_alloc (Below.refl w1.heap.size w1) (.cells #[.slice Y.A Y.n Y.c] 22)
      have hsC : Shows (w1.alloc (.cells #[.slice Y.A Y.n Y.c] 22)) (w1.heap.size + 1) 1 (some ⟨w1.heap.size, 0, none⟩) 1 [.slice Y.A Y.n Y.c] :=
        ⟨rfl, fun _ => ⟨w1.heap.size, 0, rfl, by omega, fun j u hu => by rw [Nat.zero_add, cell_of_row _ _ j _ _ _ (heap_alloc_new w1 _)]; simpa using hu⟩⟩
      have hown := own_later HO1.out.row hbC
      have g1 : i + 1 ≤ maxLen := by have := HIN.out; unfold maxLen; omega
      have g2 : (i + 1) * 24 ≤ 140737488355328 := by have := HIN.out; omega
      have g3 : w.heap.size ≤ (w1.alloc (.cells #[.slice Y.A Y.n Y.c] 22)).heap.size := Nat.le_trans HB1.out.size hbC.size
      have h1c : ∀ u ∈ [Value.slice Y.A Y.n Y.c], u.oneCell' = true := by intro u hu; rw [List.mem_singleton.1 hu]; rfl
      have HBC := Lib.hid hbC
      clear hbC hf hb1 hY hOY x0
      go_wp2_with (at_builtin; refine wpList_append_shows _ rfl _ _ 35 rfl w.heap.size 22 i0 (.slice none 0 0) 1 24 Try.underlying35 hi0 hz0 hz1 hz2 rfl (by decide) _ _ _ rfl hown (w1.heap.size + 1) _ 1 _ _ rfl hsC h1c g1 g2 g3 ?_; intro A7 c7 w7 hown7 hgrow7 hb7; have HO7 : Hid (OwnS w7 w.heap.size A7 (i + 1) c7 (L2 ++ [Y])) := Lib.hid ((HO1.out.later HBC.out).snoc (HOY.out.later HBC.out) hgrow7 hown7); have HB7 := Lib.hid ((HB1.out.trans (HBC.out.mono HB1.out.size)).trans hb7); clear hown7 hgrow7 hb7 hown hsC g1 g2 g3 h1c)
      have HZ7 : Hid ((L2 ++ [Y]).map EsT.s = (L.take (i + 1)).map (fun X => (X.s.take 60).map fewS)) := Lib.hid (by
        rw [List.take_add_one, HXX.out, List.map_append, List.map_append, HZ.out]
        show _ ++ [Y.s] = _
        rw [HY.out]
        rfl)
      go_roundw
      case rel => exact ⟨i + 1, A7, c7, L2 ++ [Y], rfl, by first | rfl | go_num, HIN.out, HO7, HZ7, HB7⟩
      case measure => have := HIN.out; simp [intOf]; omega
    · have e : i = r := by omega
      subst e
      have hin' : ¬ (i : Int) < (i : Int) := by omega
      have HP : Hid (SomP TL w (.returned (.slice A2 i c2)) wr) := Lib.hid ⟨HBr.out, A2, i, c2, L2, rfl, by
        rw [HZ.out, ← HTL.out]
        unfold someS
        rw [← List.map_take, HTK.out, List.map_map]
        rfl, HO.out⟩
      clear hin hi
      go_wp2
      go_ret
      exact HP.out
/-- What the edits of a row put. -/
def itemsS (l : List EdS) : List ItS := (l.filter (fun e => e.put)).map itemE
set_option maxRecDepth 20000 in
set_option maxHeartbeats 2000000 in
theorem mitems_any (X : EsT) (B : Nat) (w : World) (hX : X.Lie w B) (hB : B ≤ w.heap.size) (hn : X.n ≤ 1048576) :
    Calls Try.prog 22 #[.slice X.A X.n X.c] w (RDoP (itemsS X.s) w) := by
  obtain ⟨XA, n, Xc, E⟩ := X
  have hlen := hX.len
  simp only at hlen hn ⊢
  have HX := Lib.hid hX
  have HB := Lib.hid hB
  have HL := Lib.hid hlen
  obtain ⟨i0, hi0, hz0, hz1, hz2⟩ := item_info
  obtain ⟨TL, hTL⟩ : ∃ TL, itemsS (E.map EdT.s) = TL := ⟨_, rfl⟩
  show Calls _ _ _ _ (RDoP (itemsS (E.map EdT.s)) w)
  rw [hTL]
  have HTL := Lib.hid hTL
  clear hX hB hlen hTL
  go_enter Try.func22, Try.ntmps22
  go_wp2_with fail
  go_loopw [3, 8] (fun o s wr => ∃ (i : Nat) (Z : IsT), o = .slice Z.A Z.n Z.c ∧ s = .int .i64 i ∧ i ≤ n ∧ Z.n ≤ i ∧ Hid (OwnI wr w.heap.size B Z) ∧ Hid (Z.s = itemsS ((E.take i).map EdT.s)) ∧ Hid (Below w.heap.size w wr)) (fun _ s _ => n - (intOf s).toNat)
  case atStart => exact ⟨0, ⟨none, 0, 0, []⟩, rfl, rfl, Nat.zero_le _, Nat.le_refl _, Lib.hid (OwnI.none _ _ _), Lib.hid rfl, Lib.hid (Below.refl _ _)⟩
  case round =>
    obtain ⟨i, ⟨ZA, Zn, Zc, ZE⟩, rfl, rfl, hi, hZn, HO, HZ, HBr⟩ := hrel
    simp only at hZn ⊢
    by_cases hin : i < n
    · obtain ⟨b, off, y, hA, hbb, hy, v0, v1, v2, v3, v4⟩ := ed_at (HX.out.later (HBr.out.mono HB.out)).row (i := i) hin
      have hyo := ((HX.out.later (HBr.out.mono HB.out)).all y (List.mem_of_getElem? hy))
      simp only at hA hy
      subst hA
      have hin' : (i : Int) < (n : Int) := by omega
      have w3 : wrap64 ((i : Int) + 1) = ((i + 1 : Nat) : Int) := by unfold wrap64; omega
      have hb4 := bel_alloc (Below.refl wr.heap.size wr) (.cells #[.slice y.k.A y.k.n y.k.c, .bool y.put, .slice y.v.A y.v.n y.v.c, .bool y.b, .int .i64 y.n] 49)
      have HX4 := Lib.hid (heap_alloc_new wr (.cells #[.slice y.k.A y.k.n y.k.c, .bool y.put, .slice y.v.A y.v.n y.v.c, .bool y.b, .int .i64 y.n] 49))
      have HBk : Hid (B ≤ wr.heap.size) := Lib.hid (Nat.le_trans HB.out HBr.out.size)
      have HO4 := Lib.hid (HO.out.later HBk.out hb4)
      have HB4 := Lib.hid (HBr.out.trans (hb4.mono HBr.out.size))
      have HYO := Lib.hid (hyo.later (hb4.mono HBk.out))
      have HBk4 := Lib.hid (Nat.le_trans HBk.out hb4.size)
      have HTK : Hid ((E.take (i + 1)).map EdT.s = (E.take i).map EdT.s ++ [y.s]) := Lib.hid (by rw [List.take_add_one, hy, List.map_append]; rfl)
      have HIN := Lib.hid hin
      clear hbb hy hyo hi hin hb4
      go_upto_region 5 with fail
      generalize wr.alloc (.cells #[.slice y.k.A y.k.n y.k.c, .bool y.put, .slice y.v.A y.v.n y.v.c, .bool y.b, .int .i64 y.n] 49) = W4 at *
      generalize wr.heap.size = k7 at *
      clear v0 v1 v2 v3 v4
      obtain ⟨⟨x0, x1, x2, x3, x4⟩, -⟩ := five_blk HX4.out
      obtain ⟨pt, hpt⟩ : ∃ pt, y.put = pt := ⟨_, rfl⟩
      rw [hpt] at x1
      have HPT := Lib.hid hpt
      clear hpt
      cases pt
      · have HZ9 : Hid (IsT.s ⟨ZA, Zn, Zc, ZE⟩ = itemsS ((E.take (i + 1)).map EdT.s)) := Lib.hid (by
          rw [HTK.out, HZ.out]
          unfold itemsS
          rw [List.filter_append, List.filter_cons, if_neg (by rw [show y.s.put = y.put from rfl, HPT.out]; exact Bool.noConfusion)]
          simp)
        go_wp2_with fail
        go_roundw
        case rel => exact ⟨i + 1, ⟨ZA, Zn, Zc, ZE⟩, rfl, by first | rfl | go_num, HIN.out, by show Zn ≤ i + 1; omega, HO4, HZ9, HB4⟩
        case measure => have := HIN.out; simp [intOf]; omega
      · have hbC := bel_alloc (Below.refl W4.heap.size W4) (.cells #[.slice y.k.A y.k.n y.k.c, .slice y.v.A y.v.n y.v.c, .bool y.b, .int .i64 y.n] 54)
        have hsC := it_new W4 ⟨y.k, y.v, y.b, y.n⟩
        have hown := own_later HO4.out.row hbC
        have g1 : Zn + 1 ≤ maxLen := by have := HIN.out; unfold maxLen; omega
        have g2 : (Zn + 1) * 64 ≤ 140737488355328 := by have := HIN.out; omega
        have g3 : w.heap.size ≤ (W4.alloc (.cells #[.slice y.k.A y.k.n y.k.c, .slice y.v.A y.v.n y.v.c, .bool y.b, .int .i64 y.n] 54)).heap.size := Nat.le_trans HB4.out.size hbC.size
        have h1c := cells_it [(⟨y.k, y.v, y.b, y.n⟩ : ItT)]
        rw [List.flatMap_singleton] at h1c
        have HBC := Lib.hid hbC
        clear hbC
        go_wp2_with (at_builtin; refine wpList_append_shows _ rfl _ _ 39 rfl w.heap.size 54 i0 (.agg #[.slice none 0 0, .slice none 0 0, .bool false, .int .i64 0]) 4 64 Try.underlying39 hi0 hz0 hz1 hz2 rfl (by decide) _ _ _ rfl hown (W4.heap.size + 1) _ 1 _ _ rfl hsC h1c g1 g2 g3 ?_; intro A9 c9 w9 hown9 hgrow9 hb9; have HON9 := Lib.hid hown9; have HBB9 : Hid (Below B W4 w9) := Lib.hid ((HBC.out.mono HBk4.out).trans (hb9.mono HB.out)); have HB9 := Lib.hid ((HB4.out.trans (HBC.out.mono HB4.out.size)).trans hb9); clear hown9 hgrow9 hb9 hown hsC g1 g2 g3 h1c x0 x1 x2 x3 x4)
        have HO9 : Hid (OwnI w9 w.heap.size B ⟨A9, Zn + 1, c9, ZE ++ [⟨y.k, y.v, y.b, y.n⟩]⟩) := Lib.hid (HO4.out.snoc HBB9.out HON9.out (by
          have h := HYO.out.later HBB9.out
          exact ⟨h.key, h.val, h.num.1, Int.lt_of_le_of_lt h.num.2 (by decide)⟩))
        have HZ9 : Hid (IsT.s ⟨A9, Zn + 1, c9, ZE ++ [⟨y.k, y.v, y.b, y.n⟩]⟩ = itemsS ((E.take (i + 1)).map EdT.s)) := Lib.hid (by
          rw [HTK.out]
          unfold itemsS
          rw [List.filter_append, List.filter_cons, if_pos (show y.s.put = true from HPT.out), List.map_append]
          have h := HZ.out
          unfold itemsS at h
          rw [← h]
          unfold IsT.s
          rw [List.map_append]
          rfl)
        go_roundw
        case rel => exact ⟨i + 1, ⟨A9, Zn + 1, c9, ZE ++ [⟨y.k, y.v, y.b, y.n⟩]⟩, rfl, by first | rfl | go_num, HIN.out, by show Zn + 1 ≤ i + 1; omega, HO9, HZ9, HB9⟩
        case measure => have := HIN.out; simp [intOf]; omega
    · have e : i = n := by omega
      subst e
      have hin' : ¬ (i : Int) < (i : Int) := by omega
      have HP : Hid (RDoP TL w (.returned (.slice ZA Zn Zc)) wr) := Lib.hid ⟨HBr.out, ⟨ZA, Zn, Zc, ZE⟩, rfl, by rw [HZ.out, ← HTL.out, List.take_of_length_le (Nat.le_of_eq HL.out)], HO.out.lie (Nat.le_trans HB.out HBr.out.size)⟩
      clear hin hi
      go_wp2
      go_ret
      exact HP.out
/-- An edit that puts a row of one byte. -/
def PutP (a b : UInt8) (W : World) (e : Ending) (W' : World) : Prop := Below W.heap.size W W' ∧ ∃ x : EdT, e = .returned x.agg ∧ x.s = ⟨[a], true, [b], false, 0⟩ ∧ x.Ok W' W'.heap.size
set_option maxRecDepth 20000 in
set_option maxHeartbeats 2000000 in
theorem mput_any (a b : UInt8) (za zb : Int) (ha : za = (a.toNat : Int)) (hb : zb = (b.toNat : Int)) (w : World) :
    Calls Try.prog 31 #[.int .u8 za, .int .u8 zb] w (PutP a b w) := by
  subst ha hb
  have HP : Hid (∀ o1 : Obj, PutP a b w (.returned (.agg #[.slice (some ⟨w.heap.size + 1, 0, none⟩) 1 1, .bool true, .slice (some ⟨w.heap.size + 1 + 1, 0, none⟩) 1 1, .bool false, .int .i64 0])) (((w.alloc o1).alloc (.cells #[.int .u8 a.toNat] 5)).alloc (.cells #[.int .u8 b.toNat] 5))) := Lib.hid (fun o1 => by
    have h1 := bytes_new (w.alloc o1) [a] #[.int .u8 a.toNat] 5 (0, 0) rfl
    rw [World.size_alloc] at h1
    have h2 := bytes_new ((w.alloc o1).alloc (.cells #[.int .u8 a.toNat] 5)) [b] #[.int .u8 b.toNat] 5 (0, 0) rfl
    rw [World.size_alloc, World.size_alloc] at h2
    have hk := h1.alloc (by rw [World.size_alloc, World.size_alloc]; exact Nat.le_refl _) (.cells #[.int .u8 b.toNat] 5)
    refine ⟨bel_alloc (bel_alloc (bel_alloc (Below.refl _ _) _) _) _, ⟨⟨some ⟨w.heap.size + 1, 0, none⟩, 1, 1, [a]⟩, true, ⟨some ⟨w.heap.size + 1 + 1, 0, none⟩, 1, 1, [b]⟩, false, 0⟩, rfl, rfl, ⟨⟨hk.more ?_, nofun, Nat.le_refl _, ?_⟩, ⟨h2.more ?_, nofun, Nat.le_refl _, ?_⟩, (show (-9223372036854775808 : Int) ≤ 0 ∧ (0 : Int) ≤ 9223372036854775807 from ⟨by decide, by decide⟩)⟩⟩
    · rw [World.size_alloc, World.size_alloc, World.size_alloc]; omega
    · show 1 ≤ maxLen; unfold maxLen; omega
    · rw [World.size_alloc, World.size_alloc, World.size_alloc]; omega
    · show 1 ≤ maxLen; unfold maxLen; omega)
  go_enter Try.func31, Try.ntmps31
  go_wp2
  refine bodyPost_ret (v := .agg #[.slice (some ⟨w.heap.size + 1, 0, none⟩) 1 1, .bool true, .slice (some ⟨w.heap.size + 1 + 1, 0, none⟩) 1 1, .bool false, .int .i64 0]) ?_ rfl (HP.out _)
  simp [results, Try.results31, go_sem, *]
end Go.Proofs.Ytkbcgcokokddlaa
/-
  Layer 15: the reference's SameEdits, SameItems.
-/
namespace Go.Proofs.Ytkbcgcokokddlaa
open Go.RowKit
set_option linter.unusedVariables false
set_option linter.unusedSimpArgs false

theorem two_one (W : World) (o1 o2 : Obj) : Below W.heap.size W ((W.alloc o1).alloc o2).drew ∧ ((W.alloc o1).alloc o2).drew.heap[W.heap.size]? = some o1 ∧ ((W.alloc o1).alloc o2).drew.heap[W.heap.size + 1]? = some o2 := two_new W o1 o2
theorem four_blk {W : World} {g : Nat} {a b c d : Value} {t : TypeId} (h : W.heap[g]? = some (.cells #[a, b, c, d] t (0, 0))) : W.cell? ⟨g, 0, none⟩ = some a ∧ W.cell? ⟨g, 1, none⟩ = some b ∧ W.cell? ⟨g, 2, none⟩ = some c ∧ W.cell? ⟨g, 3, none⟩ = some d := by
  have hc : ∀ k, W.cell? ⟨g, k, none⟩ = #[a, b, c, d][k]? := fun k => cell_of_row W g k #[a, b, c, d] t (0, 0) h
  exact ⟨(hc 0).trans rfl, (hc 1).trans rfl, (hc 2).trans rfl, (hc 3).trans rfl⟩
set_option maxRecDepth 20000 in
set_option maxHeartbeats 2000000 in
theorem sameE_any (X Y : EsT) (B : Nat) (w : World) (hX : X.Lie w B) (hY : Y.Lie w B) (hB : B ≤ w.heap.size) :
    Calls Try.prog 19 #[.slice X.A X.n X.c, .slice Y.A Y.n Y.c] w (BoolP (X.s = Y.s) w) := by
  obtain ⟨XA, n, Xc, E⟩ := X
  obtain ⟨YA, m, Yc, F⟩ := Y
  have hlx := hX.len
  have hly := hY.len
  have hmax := Nat.le_trans hX.fit hX.most
  have HX := Lib.hid hX
  have HY := Lib.hid hY
  have HB := Lib.hid hB
  simp only at hlx hly hmax
  unfold maxLen at hmax
  have HLX := Lib.hid hlx
  have HLY := Lib.hid hly
  clear hX hY hB
  show Calls _ _ #[.slice XA n Xc, .slice YA m Yc] _ _
  by_cases hnm : n = m
  case neg =>
    have HN : Hid (BoolP (E.map EdT.s = F.map EdT.s) w (.returned (.bool false)) w) := Lib.hid (boolP_mk false ⟨fun h => Bool.noConfusion h, fun h => by
      have := congrArg List.length h
      rw [List.length_map, List.length_map] at this
      exact absurd (by omega) hnm⟩ (Below.refl _ _))
    have h1 : ((n : Int) == (m : Int)) = false := by simp; omega
    have h2 : ((n : Int) != (m : Int)) = true := by simp; omega
    have h3 : ¬ (n : Int) = (m : Int) := by omega
    clear hlx hly hnm
    go_enter Try.func19, Try.ntmps19
    go_wp2
    go_ret
    exact HN.out
  subst hnm
  clear hlx hly
  go_enter Try.func19, Try.ntmps19
  go_wp2_with fail
  go_loopw [5] (fun s wr => ∃ i : Nat, s = .int .i64 i ∧ i ≤ n ∧ Hid ((E.take i).map EdT.s = (F.take i).map EdT.s) ∧ Below w.heap.size w wr) (fun s _ => n - (intOf s).toNat)
  case atStart => exact ⟨0, rfl, Nat.zero_le _, Lib.hid rfl, Below.refl _ _⟩
  case round =>
    obtain ⟨i, rfl, hi, HD, hbr⟩ := hrel
    by_cases hin : i < n
    · have hBr := Nat.le_trans HB.out hbr.size
      obtain ⟨b, off, x, hA, hbb, hx, x0, x1, x2, x3, x4⟩ := ed_at (HX.out.later (hbr.mono HB.out)).row (i := i) hin
      obtain ⟨b', off', y, hA', hbb', hy, y0, y1, y2, y3, y4⟩ := ed_at (HY.out.later (hbr.mono HB.out)).row (i := i) hin
      have hxo := (HX.out.later (hbr.mono HB.out)).all x (List.mem_of_getElem? hx)
      have hyo := (HY.out.later (hbr.mono HB.out)).all y (List.mem_of_getElem? hy)
      simp only at hA hA' hx hy
      have hin' : (i : Int) < (n : Int) := by omega
      have w3 : wrap64 ((i : Int) + 1) = ((i + 1 : Nat) : Int) := by unfold wrap64; omega
      have HXX := Lib.hid hx
      have HYY := Lib.hid hy
      have HXO := Lib.hid hxo
      have HYO := Lib.hid hyo
      have HBr := Lib.hid hBr
      have HBR := Lib.hid hbr
      have hbl : b < wr.heap.size := by omega
      have hbl' : b' < wr.heap.size := by omega
      have hbn : b ≠ wr.heap.size := by omega
      have hbn' : b' ≠ wr.heap.size := by omega
      subst hA hA'
      clear hbb hbb' hx hy hxo hyo hi hBr hbr
      go_upto_region 6 with fail
      go_cut [6, 7] (fun s k wx => ∃ gx gy : Nat, s = .pointer (some ⟨gx, 0, none⟩) ∧ k = .pointer (some ⟨gy, 0, none⟩) ∧ Below wr.heap.size wr wx ∧ wx.heap[gx]? = some (.cells #[.slice x.k.A x.k.n x.k.c, .bool x.put, .slice x.v.A x.v.n x.v.c, .bool x.b, .int .i64 x.n] 49 (0, 0)) ∧ wx.heap[gy]? = some (.cells #[.slice y.k.A y.k.n y.k.c, .bool y.put, .slice y.v.A y.v.n y.v.c, .bool y.b, .int .i64 y.n] 49 (0, 0)))
      case first =>
        go_region
        all_goals (go_wp2_with fail; go_meet)
        case rel => exact ⟨_, _, rfl, rfl, (two_new wr _ _).1, (two_new wr _ _).2.1, (two_new wr _ _).2.2⟩
        case rel => exact ⟨_, _, rfl, rfl, (two_new wr _ _).1, (two_new wr _ _).2.2, (two_new wr _ _).2.1⟩
      case rest =>
        obtain ⟨gx, gy, rfl, rfl, hb, hgx, hgy⟩ := hcut
        obtain ⟨⟨f0, f1, f2, f3, f4⟩, -⟩ := five_blk hgx
        obtain ⟨⟨g0, g1, g2, g3, g4⟩, -⟩ := five_blk hgy
        have hXk := (HXO.out.later (hb.mono HBr.out)).key
        have hYk := (HYO.out.later (hb.mono HBr.out)).key
        have hXv := (HXO.out.later (hb.mono HBr.out)).val
        have hYv := (HYO.out.later (hb.mono HBr.out)).val
        have HB2 := Lib.hid (HBR.out.trans (hb.mono HBR.out.size))
        obtain ⟨zk, hzk⟩ : ∃ z, sameB x.k.l y.k.l = z := ⟨_, rfl⟩
        obtain ⟨zv, hzv⟩ : ∃ z, sameB x.v.l y.v.l = z := ⟨_, rfl⟩
        have hck := ris_any x.k y.k B B wc hXk hYk zk hzk
        have hcv := ris_any x.v y.v B B wc hXv hYv zv hzv
        have HZK : Hid (zk = true ↔ x.k.l = y.k.l) := Lib.hid (by rw [← hzk]; unfold sameB; exact decide_eq_true_iff)
        have HZV : Hid (zv = true ↔ x.v.l = y.v.l) := Lib.hid (by rw [← hzv]; unfold sameB; exact decide_eq_true_iff)
        clear hgx hgy hXk hYk hXv hYv hzk hzv x0 x1 x2 x3 x4 y0 y1 y2 y3 y4 hbl hbl' hbn hbn' hb
        go_upto_region 7 with fail
        go_cut [61] (fun s wx => ∃ st : Bool, s = .bool st ∧ Hid (st = false ↔ x.s = y.s) ∧ wc = wx)
        case first =>
          cases zk
          · have HS : Hid (¬ x.s = y.s) := Lib.hid (fun h => absurd (HZK.out.2 (show x.k.l = y.k.l from congrArg EdS.k h)) (fun h => Bool.noConfusion h))
            go_wp2_with (first | ((with_reducible refine hck.mono ?_); rintro e w1 ⟨rfl, hw1⟩; subst hw1) | ((with_reducible refine hcv.mono ?_); rintro e w1 ⟨rfl, hw1⟩; subst hw1))
            (try go_meet)
            all_goals (try exact ⟨true, rfl, Lib.hid ⟨fun h => Bool.noConfusion h, fun h => absurd h HS.out⟩, rfl⟩)
          · have HEk := Lib.hid (HZK.out.1 rfl)
            by_cases hp : x.put = y.put
            · have HEp := Lib.hid hp
              have tp : (x.put == y.put) = true := by simp [hp]
              clear hp
              cases zv
              · have HS : Hid (¬ x.s = y.s) := Lib.hid (fun h => absurd (HZV.out.2 (show x.v.l = y.v.l from congrArg EdS.v h)) (fun h => Bool.noConfusion h))
                go_wp2_with (first | ((with_reducible refine hck.mono ?_); rintro e w1 ⟨rfl, hw1⟩; subst hw1) | ((with_reducible refine hcv.mono ?_); rintro e w1 ⟨rfl, hw1⟩; subst hw1))
                (try go_meet)
                all_goals (try exact ⟨true, rfl, Lib.hid ⟨fun h => Bool.noConfusion h, fun h => absurd h HS.out⟩, rfl⟩)
              · have HEv := Lib.hid (HZV.out.1 rfl)
                by_cases hb : x.b = y.b
                · have HEb := Lib.hid hb
                  have tb : (x.b == y.b) = true := by simp [hb]
                  clear hb
                  by_cases hn : x.n = y.n
                  · have HEn := Lib.hid hn
                    have t1 : (x.n == y.n) = true := by simp [hn]
                    have t2 : (x.n != y.n) = false := by simp [hn]
                    clear hn
                    have HS : Hid (x.s = y.s) := Lib.hid (by unfold EdT.s; rw [HEk.out, HEp.out, HEv.out, HEb.out, HEn.out])
                    clear HZK HZV
                    go_wp2_with (first | ((with_reducible refine hck.mono ?_); rintro e w1 ⟨rfl, hw1⟩; subst hw1) | ((with_reducible refine hcv.mono ?_); rintro e w1 ⟨rfl, hw1⟩; subst hw1))
                    (try go_meet)
                    all_goals (try exact ⟨false, rfl, Lib.hid ⟨fun _ => HS.out, fun _ => rfl⟩, rfl⟩)
                  · have HS : Hid (¬ x.s = y.s) := Lib.hid (fun h => absurd (congrArg EdS.n h) hn)
                    have t1 : (x.n == y.n) = false := by simp [hn]
                    have t2 : (x.n != y.n) = true := by simp [hn]
                    go_wp2_with (first | ((with_reducible refine hck.mono ?_); rintro e w1 ⟨rfl, hw1⟩; subst hw1) | ((with_reducible refine hcv.mono ?_); rintro e w1 ⟨rfl, hw1⟩; subst hw1))
                    (try go_meet)
                    all_goals (try exact ⟨true, rfl, Lib.hid ⟨fun h => Bool.noConfusion h, fun h => absurd h HS.out⟩, rfl⟩)
                · have HS : Hid (¬ x.s = y.s) := Lib.hid (fun h => absurd (congrArg EdS.b h) hb)
                  have tb : (x.b == y.b) = false := by simp [hb]
                  clear hb
                  go_wp2_with (first | ((with_reducible refine hck.mono ?_); rintro e w1 ⟨rfl, hw1⟩; subst hw1) | ((with_reducible refine hcv.mono ?_); rintro e w1 ⟨rfl, hw1⟩; subst hw1))
                  (try go_meet)
                  all_goals (try exact ⟨true, rfl, Lib.hid ⟨fun h => Bool.noConfusion h, fun h => absurd h HS.out⟩, rfl⟩)
            · have HS : Hid (¬ x.s = y.s) := Lib.hid (fun h => absurd (congrArg EdS.put h) hp)
              have tp : (x.put == y.put) = false := by simp [hp]
              clear hp
              go_wp2_with (first | ((with_reducible refine hck.mono ?_); rintro e w1 ⟨rfl, hw1⟩; subst hw1) | ((with_reducible refine hcv.mono ?_); rintro e w1 ⟨rfl, hw1⟩; subst hw1))
              (try go_meet)
              all_goals (try exact ⟨true, rfl, Lib.hid ⟨fun h => Bool.noConfusion h, fun h => absurd h HS.out⟩, rfl⟩)
        case rest =>
          obtain ⟨st, rfl, HST, hw⟩ := hcut
          subst hw
          clear hck hcv f0 f1 f2 f3 f4 g0 g1 g2 g3 g4
          cases st
          · have HD2 : Hid ((E.take (i + 1)).map EdT.s = (F.take (i + 1)).map EdT.s) := Lib.hid (by
              rw [List.take_add_one, List.take_add_one, HXX.out, HYY.out, List.map_append, List.map_append, HD.out]
              show _ ++ [x.s] = _ ++ [y.s]
              rw [HST.out.1 rfl])
            go_wp2_with fail
            go_roundw
            case rel => exact ⟨i + 1, by first | rfl | go_num, by omega, HD2, HB2.out⟩
            case measure => simp [intOf]; omega
          · have HP : Hid (BoolP (E.map EdT.s = F.map EdT.s) w (.returned (.bool false)) wc) := Lib.hid (boolP_mk false ⟨fun h => Bool.noConfusion h, fun h => by
              have h1 : (E.map EdT.s)[i]? = (F.map EdT.s)[i]? := by rw [h]
              rw [List.getElem?_map, List.getElem?_map, HXX.out, HYY.out] at h1
              exact (HST.out.2 (Option.some.inj h1)).symm⟩ HB2.out)
            go_wp2
            go_ret
            exact HP.out
    · have e : i = n := by omega
      subst e
      have HP : Hid (BoolP (E.map EdT.s = F.map EdT.s) w (.returned (.bool true)) wr) := Lib.hid (boolP_mk true ⟨fun _ => by
        have h := HD.out
        rw [List.take_of_length_le (Nat.le_of_eq HLX.out), List.take_of_length_le (Nat.le_of_eq HLY.out)] at h
        exact h, fun _ => rfl⟩ hbr)
      have hin' : ¬ (i : Int) < (i : Int) := by omega
      clear hin hi hbr
      go_wp2
      go_ret
      exact HP.out
set_option maxRecDepth 20000 in
set_option maxHeartbeats 2000000 in
theorem sameI_any (X Y : IsT) (B : Nat) (w : World) (hX : X.Lie w B) (hY : Y.Lie w B) (hB : B ≤ w.heap.size) :
    Calls Try.prog 25 #[.slice X.A X.n X.c, .slice Y.A Y.n Y.c] w (BoolP (X.s = Y.s) w) := by
  obtain ⟨XA, n, Xc, E⟩ := X
  obtain ⟨YA, m, Yc, F⟩ := Y
  have hlx := hX.len
  have hly := hY.len
  have hmax := Nat.le_trans hX.fit hX.most
  have HX := Lib.hid hX
  have HY := Lib.hid hY
  have HB := Lib.hid hB
  simp only at hlx hly hmax
  unfold maxLen at hmax
  have HLX := Lib.hid hlx
  have HLY := Lib.hid hly
  clear hX hY hB
  show Calls _ _ #[.slice XA n Xc, .slice YA m Yc] _ _
  by_cases hnm : n = m
  case neg =>
    have HN : Hid (BoolP (E.map ItT.s = F.map ItT.s) w (.returned (.bool false)) w) := Lib.hid (boolP_mk false ⟨fun h => Bool.noConfusion h, fun h => by
      have := congrArg List.length h
      rw [List.length_map, List.length_map] at this
      exact absurd (by omega) hnm⟩ (Below.refl _ _))
    have h1 : ((n : Int) == (m : Int)) = false := by simp; omega
    have h2 : ((n : Int) != (m : Int)) = true := by simp; omega
    have h3 : ¬ (n : Int) = (m : Int) := by omega
    clear hlx hly hnm
    go_enter Try.func25, Try.ntmps25
    go_wp2
    go_ret
    exact HN.out
  subst hnm
  clear hlx hly
  go_enter Try.func25, Try.ntmps25
  go_wp2_with fail
  go_loopw [5] (fun s wr => ∃ i : Nat, s = .int .i64 i ∧ i ≤ n ∧ Hid ((E.take i).map ItT.s = (F.take i).map ItT.s) ∧ Below w.heap.size w wr) (fun s _ => n - (intOf s).toNat)
  case atStart => exact ⟨0, rfl, Nat.zero_le _, Lib.hid rfl, Below.refl _ _⟩
  case round =>
    obtain ⟨i, rfl, hi, HD, hbr⟩ := hrel
    by_cases hin : i < n
    · have hBr := Nat.le_trans HB.out hbr.size
      obtain ⟨b, off, x, hA, hbb, hx, x0, x1, x2, x3⟩ := it_at (HX.out.later (hbr.mono HB.out)).row (i := i) hin
      obtain ⟨b', off', y, hA', hbb', hy, y0, y1, y2, y3⟩ := it_at (HY.out.later (hbr.mono HB.out)).row (i := i) hin
      have hxo := (HX.out.later (hbr.mono HB.out)).all x (List.mem_of_getElem? hx)
      have hyo := (HY.out.later (hbr.mono HB.out)).all y (List.mem_of_getElem? hy)
      simp only at hA hA' hx hy
      have hin' : (i : Int) < (n : Int) := by omega
      have w3 : wrap64 ((i : Int) + 1) = ((i + 1 : Nat) : Int) := by unfold wrap64; omega
      have HXX := Lib.hid hx
      have HYY := Lib.hid hy
      have HXO := Lib.hid hxo
      have HYO := Lib.hid hyo
      have HBr := Lib.hid hBr
      have HBR := Lib.hid hbr
      have hbl : b < wr.heap.size := by omega
      have hbl' : b' < wr.heap.size := by omega
      have hbn : b ≠ wr.heap.size := by omega
      have hbn' : b' ≠ wr.heap.size := by omega
      subst hA hA'
      clear hbb hbb' hx hy hxo hyo hi hBr hbr
      go_upto_region 6 with fail
      go_cut [6, 7] (fun s k wx => ∃ gx gy : Nat, s = .pointer (some ⟨gx, 0, none⟩) ∧ k = .pointer (some ⟨gy, 0, none⟩) ∧ Below wr.heap.size wr wx ∧ wx.heap[gx]? = some (.cells #[.slice x.k.A x.k.n x.k.c, .slice x.v.A x.v.n x.v.c, .bool x.b, .int .i64 x.n] 54 (0, 0)) ∧ wx.heap[gy]? = some (.cells #[.slice y.k.A y.k.n y.k.c, .slice y.v.A y.v.n y.v.c, .bool y.b, .int .i64 y.n] 54 (0, 0)))
      case first =>
        go_region
        all_goals (go_wp2_with fail; go_meet)
        case rel => exact ⟨_, _, rfl, rfl, (two_new wr _ _).1, (two_new wr _ _).2.1, (two_new wr _ _).2.2⟩
        case rel => exact ⟨_, _, rfl, rfl, (two_new wr _ _).1, (two_new wr _ _).2.2, (two_new wr _ _).2.1⟩
      case rest =>
        obtain ⟨gx, gy, rfl, rfl, hb, hgx, hgy⟩ := hcut
        obtain ⟨f0, f1, f2, f3⟩ := four_blk hgx
        obtain ⟨g0, g1, g2, g3⟩ := four_blk hgy
        have hXk := (HXO.out.later (hb.mono HBr.out)).key
        have hYk := (HYO.out.later (hb.mono HBr.out)).key
        have hXv := (HXO.out.later (hb.mono HBr.out)).val
        have hYv := (HYO.out.later (hb.mono HBr.out)).val
        have HB2 := Lib.hid (HBR.out.trans (hb.mono HBR.out.size))
        obtain ⟨zk, hzk⟩ : ∃ z, sameB x.k.l y.k.l = z := ⟨_, rfl⟩
        obtain ⟨zv, hzv⟩ : ∃ z, sameB x.v.l y.v.l = z := ⟨_, rfl⟩
        have hck := ris_any x.k y.k B B wc hXk hYk zk hzk
        have hcv := ris_any x.v y.v B B wc hXv hYv zv hzv
        have HZK : Hid (zk = true ↔ x.k.l = y.k.l) := Lib.hid (by rw [← hzk]; unfold sameB; exact decide_eq_true_iff)
        have HZV : Hid (zv = true ↔ x.v.l = y.v.l) := Lib.hid (by rw [← hzv]; unfold sameB; exact decide_eq_true_iff)
        clear hgx hgy hXk hYk hXv hYv hzk hzv x0 x1 x2 x3 y0 y1 y2 y3 hbl hbl' hbn hbn' hb
        go_upto_region 7 with fail
        go_cut [54] (fun s wx => ∃ st : Bool, s = .bool st ∧ Hid (st = false ↔ x.s = y.s) ∧ wc = wx)
        case first =>
          cases zk
          · have HS : Hid (¬ x.s = y.s) := Lib.hid (fun h => absurd (HZK.out.2 (show x.k.l = y.k.l from congrArg ItS.k h)) (fun h => Bool.noConfusion h))
            go_wp2_with (first | ((with_reducible refine hck.mono ?_); rintro e w1 ⟨rfl, hw1⟩; subst hw1) | ((with_reducible refine hcv.mono ?_); rintro e w1 ⟨rfl, hw1⟩; subst hw1))
            (try go_meet)
            all_goals (try exact ⟨true, rfl, Lib.hid ⟨fun h => Bool.noConfusion h, fun h => absurd h HS.out⟩, rfl⟩)
          · have HEk := Lib.hid (HZK.out.1 rfl)
            cases zv
            · have HS : Hid (¬ x.s = y.s) := Lib.hid (fun h => absurd (HZV.out.2 (show x.v.l = y.v.l from congrArg ItS.v h)) (fun h => Bool.noConfusion h))
              go_wp2_with (first | ((with_reducible refine hck.mono ?_); rintro e w1 ⟨rfl, hw1⟩; subst hw1) | ((with_reducible refine hcv.mono ?_); rintro e w1 ⟨rfl, hw1⟩; subst hw1))
              (try go_meet)
              all_goals (try exact ⟨true, rfl, Lib.hid ⟨fun h => Bool.noConfusion h, fun h => absurd h HS.out⟩, rfl⟩)
            · have HEv := Lib.hid (HZV.out.1 rfl)
              by_cases hb : x.b = y.b
              · have HEb := Lib.hid hb
                have tb : (x.b == y.b) = true := by simp [hb]
                clear hb
                by_cases hn : x.n = y.n
                · have HEn := Lib.hid hn
                  have t1 : (x.n == y.n) = true := by simp [hn]
                  have t2 : (x.n != y.n) = false := by simp [hn]
                  clear hn
                  have HS : Hid (x.s = y.s) := Lib.hid (by unfold ItT.s; rw [HEk.out, HEv.out, HEb.out, HEn.out])
                  clear HZK HZV
                  go_wp2_with (first | ((with_reducible refine hck.mono ?_); rintro e w1 ⟨rfl, hw1⟩; subst hw1) | ((with_reducible refine hcv.mono ?_); rintro e w1 ⟨rfl, hw1⟩; subst hw1))
                  (try go_meet)
                  all_goals (try exact ⟨false, rfl, Lib.hid ⟨fun _ => HS.out, fun _ => rfl⟩, rfl⟩)
                · have HS : Hid (¬ x.s = y.s) := Lib.hid (fun h => absurd (congrArg ItS.n h) hn)
                  have t1 : (x.n == y.n) = false := by simp [hn]
                  have t2 : (x.n != y.n) = true := by simp [hn]
                  go_wp2_with (first | ((with_reducible refine hck.mono ?_); rintro e w1 ⟨rfl, hw1⟩; subst hw1) | ((with_reducible refine hcv.mono ?_); rintro e w1 ⟨rfl, hw1⟩; subst hw1))
                  (try go_meet)
                  all_goals (try exact ⟨true, rfl, Lib.hid ⟨fun h => Bool.noConfusion h, fun h => absurd h HS.out⟩, rfl⟩)
              · have HS : Hid (¬ x.s = y.s) := Lib.hid (fun h => absurd (congrArg ItS.b h) hb)
                have tb : (x.b == y.b) = false := by simp [hb]
                clear hb
                go_wp2_with (first | ((with_reducible refine hck.mono ?_); rintro e w1 ⟨rfl, hw1⟩; subst hw1) | ((with_reducible refine hcv.mono ?_); rintro e w1 ⟨rfl, hw1⟩; subst hw1))
                (try go_meet)
                all_goals (try exact ⟨true, rfl, Lib.hid ⟨fun h => Bool.noConfusion h, fun h => absurd h HS.out⟩, rfl⟩)
        case rest =>
          obtain ⟨st, rfl, HST, hw⟩ := hcut
          subst hw
          clear hck hcv f0 f1 f2 f3 g0 g1 g2 g3
          cases st
          · have HD2 : Hid ((E.take (i + 1)).map ItT.s = (F.take (i + 1)).map ItT.s) := Lib.hid (by
              rw [List.take_add_one, List.take_add_one, HXX.out, HYY.out, List.map_append, List.map_append, HD.out]
              show _ ++ [x.s] = _ ++ [y.s]
              rw [HST.out.1 rfl])
            go_wp2_with fail
            go_roundw
            case rel => exact ⟨i + 1, by first | rfl | go_num, by omega, HD2, HB2.out⟩
            case measure => simp [intOf]; omega
          · have HP : Hid (BoolP (E.map ItT.s = F.map ItT.s) w (.returned (.bool false)) wc) := Lib.hid (boolP_mk false ⟨fun h => Bool.noConfusion h, fun h => by
              have h1 : (E.map ItT.s)[i]? = (F.map ItT.s)[i]? := by rw [h]
              rw [List.getElem?_map, List.getElem?_map, HXX.out, HYY.out] at h1
              exact (HST.out.2 (Option.some.inj h1)).symm⟩ HB2.out)
            go_wp2
            go_ret
            exact HP.out
    · have e : i = n := by omega
      subst e
      have HP : Hid (BoolP (E.map ItT.s = F.map ItT.s) w (.returned (.bool true)) wr) := Lib.hid (boolP_mk true ⟨fun _ => by
        have h := HD.out
        rw [List.take_of_length_le (Nat.le_of_eq HLX.out), List.take_of_length_le (Nat.le_of_eq HLY.out)] at h
        exact h, fun _ => rfl⟩ hbr)
      have hin' : ¬ (i : Int) < (i : Int) := by omega
      clear hin hi hbr
      go_wp2
      go_ret
      exact HP.out
end Go.Proofs.Ytkbcgcokokddlaa
