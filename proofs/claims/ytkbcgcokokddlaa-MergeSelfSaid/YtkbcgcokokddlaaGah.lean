import Derived.Test.YtkbcgcokokddlaaGag
import Derived.Test.YtkbcgcokokddlaaGae
import Derived.OwnWalk
import Derived.Deep.CutBlock
import Derived.Test.YtkbcgcokokddlaaGab
import Derived.Great.BuildSlice
/-
  Layer 15: Sort, Merge.
-/
namespace Go.Proofs.Ytkbcgcokokddlaa
open Go.RowKit
set_option linter.unusedVariables false
set_option linter.unusedSimpArgs false

set_option maxRecDepth 20000 in
theorem edits_info : ∃ i, Try.prog.info? 22 = some i ∧ i.zero = some (.slice none 0 0) ∧ i.size = 1 ∧ i.bytes = 24 := ⟨Try.t22, by kernel_rfl, by kernel_rfl, by kernel_rfl, by kernel_rfl⟩
theorem val_one (L : List EsT) : ∀ u ∈ L.map EsT.val, u.oneCell' = true := by
  intro u hu
  obtain ⟨X, _, rfl⟩ := List.mem_map.1 hu
  rfl
/-- What sorting or merging hands back: p says whether it may be, l the edits in their order. -/
def SrtP (p : Prop) (l : List EdS) (W : World) (e : Ending) (W' : World) : Prop :=
  Below W.heap.size W W' ∧ ((¬ p ∧ e = .returned (.tuple #[.slice none 0 0, .int .i64 250])) ∨ (p ∧ 512 < (sortE l).length ∧ e = .returned (.tuple #[.slice none 0 0, .int .i64 3])) ∨
    (p ∧ (sortE l).length ≤ 512 ∧ ∃ X : EsT, e = .returned (.tuple #[.slice X.A X.n X.c, .int .i64 0]) ∧ X.s = sortE l ∧ X.Lie W' W'.heap.size))
theorem flat_single (l : List EdS) : (l.map (fun x => [x])).flatten = l := by
  induction l with
  | nil => rfl
  | cons x l ih => rw [List.map_cons, List.flatten_cons, ih]; rfl
/-- One edit of a row, as a row. -/
theorem ed_one {w : World} {B n : Nat} {b off : Nat} {L : List EdT} (h : Shows w B 5 (some ⟨b, off, none⟩) n (L.flatMap EdT.cells)) {i : Nat} {x : EdT} (hx : L[i]? = some x) (hi : i < n) : Shows w B 5 (some ⟨b, off + i * 5, none⟩) 1 ([x].flatMap EdT.cells) := by
  obtain ⟨b', off', hA, hb, hc⟩ := h.2 (by omega)
  injection hA with hA
  injection hA with e1 e2
  subst e1 e2
  refine ⟨rfl, fun _ => ⟨b, off + i * 5, rfl, hb, fun j u hu => ?_⟩⟩
  rw [List.flatMap_singleton] at hu
  have hj : j < 5 := (List.getElem?_eq_some_iff.1 hu).1
  rw [Nat.add_assoc]
  exact hc (i * 5 + j) u ((flatN_at EdT.cells 5 (fun _ => rfl) L i x hx j hj).trans hu)
set_option maxRecDepth 20000 in
set_option maxHeartbeats 2000000 in
theorem msort_any (X : EsT) (B : Nat) (w : World) (hX : X.Lie w B) (hB : B ≤ w.heap.size) (hn : X.n ≤ 1048576) :
    Calls Try.prog 16 #[.slice X.A X.n X.c] w (SrtP (∀ x ∈ X.s, mayS x = true) X.s w) := by
  obtain ⟨XA, n, Xc, E⟩ := X
  have hlen := hX.len
  have hfit := hX.fit
  have hmax := hX.most
  simp only at hlen hfit hn hmax
  unfold maxLen at hmax
  have HX := Lib.hid hX
  have HB := Lib.hid hB
  have HL := Lib.hid hlen
  obtain ⟨i0, hi0, hz0, hz1, hz2⟩ := edits_info
  have b2 : i0.bytes * n ≤ 281474976710656 := by rw [hz2]; omega
  have b3 : n ≤ maxLen := by unfold maxLen; omega
  clear hX hB hlen
  show Calls _ _ #[.slice XA n Xc] _ _
  go_enter Try.func16, Try.ntmps16
  go_wp2_with (refine wpList_make_own _ rfl _ _ _ rfl w.heap.size 22 i0 (.slice none 0 0) 1 Try.underlying35 hi0 hz0 hz1 .i64 .i64 _ n rfl rfl rfl b2 b3 (Nat.le_refl _) ?_; intro W1 hown1 hgrow1; have HO1 := Lib.hid hown1; have HB1 : Hid (Below w.heap.size w W1) := Lib.hid ⟨hgrow1.os, hgrow1.tape, hgrow1.output, hgrow1.size, fun k hk => hgrow1.block k hk (by simp)⟩; clear hown1 hgrow1 b2 b3)
  go_loopw [4, 11] (fun l s wr => ∃ (i : Nat) (A : Option Addr) (c : Nat) (L : List EsT), l = .slice A i c ∧ s = .int .i64 i ∧ i ≤ n ∧ Hid (wr.ownsRow w.heap.size 22 1 (.slice A i c) i (L.map EsT.val)) ∧ Hid (∀ Y ∈ L, Y.Lie wr B) ∧ Hid (L.map EsT.s = (E.take i).map (fun x => [x.s])) ∧ Hid (∀ x ∈ E.take i, mayS x.s = true) ∧ Hid (Below w.heap.size w wr)) (fun _ s _ => n - (intOf s).toNat)
  case atStart => exact ⟨0, _, _, [], rfl, rfl, Nat.zero_le _, HO1, Lib.hid nofun, Lib.hid rfl, Lib.hid nofun, HB1⟩
  case round =>
    clear HO1 HB1
    obtain ⟨i, A, c, L, rfl, rfl, hi, HO, HLL, HLS, HM, HBr⟩ := hrel
    by_cases hin : i < n
    · have hlie := HX.out.later (HBr.out.mono HB.out)
      have hBr := Nat.le_trans HB.out HBr.out.size
      obtain ⟨b, off, x, hA, hbb, hx, x0, x1, x2, x3, x4⟩ := ed_at hlie.row (i := i) hin
      have hxo := hlie.all x (List.mem_of_getElem? hx)
      simp only at hA
      obtain ⟨z, hz⟩ : ∃ z, mayS x.s = z := ⟨_, rfl⟩
      have hc := validEdit_any x B wr hxo
      rw [hz] at hc
      unfold EdT.agg at hc
      have hin' : (i : Int) < (n : Int) := by omega
      have HZ := Lib.hid hz
      have HXX := Lib.hid (show E[i]? = some x from hx)
      have HXO := Lib.hid hxo
      have HBB := Lib.hid hBr
      have HBb := Lib.hid hbb
      have hrow := hlie.row
      simp only [hA] at hrow
      have HS1 : Hid ((⟨some ⟨b, off + i * 5, none⟩, 1, 1, [x]⟩ : EsT).Lie wr B) := Lib.hid ⟨ed_one hrow hx hin, fun y hy => by rw [List.mem_singleton.1 hy]; exact hxo, nofun, Nat.le_refl _, by show 1 ≤ maxLen; unfold maxLen; omega⟩
      clear hrow
      subst hA
      clear hz hlie hBr hbb hx hxo hi
      go_wp2_with fail
      refine hc.mono ?_
      rintro e w1 ⟨rfl, hb1⟩
      have HB2 := Lib.hid (HBr.out.trans (hb1.mono HBr.out.size))
      have HO2 := Lib.hid (own_later HO.out hb1)
      have HS2 := Lib.hid (HS1.out.later (hb1.mono HBB.out))
      have HL2 : Hid (∀ Y ∈ L, Y.Lie w1 B) := Lib.hid (fun Y hY => (HLL.out Y hY).later (hb1.mono HBB.out))
      have HBB2 := Lib.hid (Nat.le_trans HBB.out hb1.size)
      clear hc x0 x1 x2 x3 x4 hb1 HBr HO HS1 HLL HBB
      cases z
      · have HP : Hid (SrtP (∀ x ∈ E.map EdT.s, mayS x = true) (E.map EdT.s) w (.returned (.tuple #[.slice none 0 0, .int .i64 250])) w1) := Lib.hid ⟨HB2.out, .inl ⟨fun h => by
          have := h x.s (List.mem_map_of_mem (List.mem_of_getElem? HXX.out))
          rw [HZ.out] at this
          exact Bool.noConfusion this, rfl⟩⟩
        go_wp2
        refine bodyPost_ret (v := .tuple #[.slice none 0 0, .int .i64 250]) ?_ rfl HP.out
        simp [results, Try.results16, go_sem, *]
      · have w3 : wrap64 ((i : Int) + 1) = ((i + 1 : Nat) : Int) := by unfold wrap64; omega
        have j1 : (i : Int) ≤ ((i + 1 : Nat) : Int) := by omega
        have j2 : ((i + 1 : Nat) : Int) ≤ (Xc : Int) := by omega
        have j3 : i ≠ i + 1 := by omega
        have hbC := bel_alloc (Below.refl w1.heap.size w1) (.cells #[.slice (some ⟨b, off + i * 5, none⟩) 1 1] 22)
        have hsC : Shows (w1.alloc (.cells #[.slice (some ⟨b, off + i * 5, none⟩) 1 1] 22)) (w1.heap.size + 1) 1 (some ⟨w1.heap.size, 0, none⟩) 1 [.slice (some ⟨b, off + i * 5, none⟩) 1 1] :=
          ⟨rfl, fun _ => ⟨w1.heap.size, 0, rfl, by omega, fun j u hu => by rw [Nat.zero_add, cell_of_row _ _ j _ _ _ (heap_alloc_new w1 _)]; simpa using hu⟩⟩
        have hown := own_later HO2.out hbC
        have g1 : i + 1 ≤ maxLen := by unfold maxLen; omega
        have g2 : (i + 1) * 24 ≤ 140737488355328 := by omega
        have g3 : w.heap.size ≤ (w1.alloc (.cells #[.slice (some ⟨b, off + i * 5, none⟩) 1 1] 22)).heap.size := Nat.le_trans HB2.out.size hbC.size
        have h1c : ∀ u ∈ [Value.slice (some ⟨b, off + i * 5, none⟩) 1 1], u.oneCell' = true := by intro u hu; rw [List.mem_singleton.1 hu]; rfl
        have HBC := Lib.hid hbC
        clear hbC
        go_wp2_with (at_builtin; refine wpList_append_shows _ rfl _ _ 35 rfl w.heap.size 22 i0 (.slice none 0 0) 1 24 Try.underlying35 hi0 hz0 hz1 hz2 rfl (by decide) _ _ _ rfl hown (w1.heap.size + 1) _ 1 _ _ rfl hsC h1c g1 g2 g3 ?_; intro A7 c7 w7 hown7 hgrow7 hb7; have HO7 : Hid (w7.ownsRow w.heap.size 22 1 (.slice A7 (i + 1) c7) (i + 1) ((L ++ [(⟨some ⟨b, off + i * 5, none⟩, 1, 1, [x]⟩ : EsT)]).map EsT.val)) := Lib.hid (by rw [List.map_append, List.map_singleton]; exact hown7); have HBB7 : Hid (Below B w1 w7) := Lib.hid ((HBC.out.mono HBB2.out).trans (hb7.mono HB.out)); have HB7 := Lib.hid ((HB2.out.trans (HBC.out.mono HB2.out.size)).trans hb7); clear hown7 hgrow7 hb7 hown hsC g1 g2 g3 h1c)
        have HL7 : Hid (∀ Y ∈ L ++ [(⟨some ⟨b, off + i * 5, none⟩, 1, 1, [x]⟩ : EsT)], Y.Lie w7 B) := Lib.hid (fun Y hY => by
          rcases List.mem_append.1 hY with hY | hY
          · exact (HL2.out Y hY).later HBB7.out
          · rw [List.mem_singleton.1 hY]
            exact HS2.out.later HBB7.out)
        have HS7 : Hid ((L ++ [(⟨some ⟨b, off + i * 5, none⟩, 1, 1, [x]⟩ : EsT)]).map EsT.s = (E.take (i + 1)).map (fun x => [x.s])) := Lib.hid (by
          rw [List.take_add_one, HXX.out, List.map_append, List.map_append, HLS.out]
          rfl)
        have HM7 : Hid (∀ y ∈ E.take (i + 1), mayS y.s = true) := Lib.hid (fun y hy => by
          rw [List.take_add_one, HXX.out] at hy
          rcases List.mem_append.1 hy with hy | hy
          · exact HM.out y hy
          · rw [List.mem_singleton.1 hy]
            exact HZ.out)
        go_roundw
        case rel => exact ⟨i + 1, A7, c7, L ++ [(⟨some ⟨b, off + i * 5, none⟩, 1, 1, [x]⟩ : EsT)], rfl, by first | rfl | go_num, by omega, HO7, HL7, HS7, HM7, HB7⟩
        case measure => simp [intOf]; omega
    · have e : i = n := by omega
      subst e
      have hin' : ¬ (i : Int) < (i : Int) := by omega
      have htk : E.take i = E := List.take_of_length_le (Nat.le_of_eq HL.out)
      have hls := HLS.out
      have hm := HM.out
      rw [htk] at hls hm
      have hfl : (L.map EsT.s).flatten = E.map EdT.s := by
        rw [hls, ← flat_single (E.map EdT.s), List.map_map]
        rfl
      have hmg := merged_any A i c wr.heap.size L wr (Shows.own HO.out) (fun Y hY => (HLL.out Y hY).more (Nat.le_trans HB.out HBr.out.size)) (Nat.le_refl _) hn (fun Y hY => by
        have h1 : Y.s ∈ L.map EsT.s := List.mem_map_of_mem hY
        rw [hls] at h1
        obtain ⟨x, -, h2⟩ := List.mem_map.1 h1
        rw [← h2]
        exact List.pairwise_singleton _ _)
      have HF := Lib.hid hfl
      have HM2 := Lib.hid hm
      clear hin hi htk hls hm hfl HO HLL HLS HM
      go_wp2_with fail
      refine hmg.mono ?_
      rintro e w1 ⟨hb1, hh⟩
      have hbz := HBr.out.trans (hb1.mono HBr.out.size)
      rw [HF.out] at hh
      have hmay : ∀ x ∈ E.map EdT.s, mayS x = true := fun y hy => by
        obtain ⟨x, hx, rfl⟩ := List.mem_map.1 hy
        exact HM2.out x hx
      clear hmg
      rcases hh with ⟨h1, rfl⟩ | ⟨h1, Y, rfl, h2, h3⟩
      · have HP : Hid (SrtP (∀ x ∈ E.map EdT.s, mayS x = true) (E.map EdT.s) w (.returned (.tuple #[.slice none 0 0, .int .i64 3])) w1) := Lib.hid ⟨hbz, .inr (.inl ⟨hmay, h1, rfl⟩)⟩
        clear hmay h1 hbz hb1
        go_wp2
        refine bodyPost_ret (v := .tuple #[.slice none 0 0, .int .i64 3]) ?_ rfl HP.out
        simp [results, Try.results16, go_sem, *]
      · have HP : Hid (SrtP (∀ x ∈ E.map EdT.s, mayS x = true) (E.map EdT.s) w (.returned (.tuple #[.slice Y.A Y.n Y.c, .int .i64 0])) w1) := Lib.hid ⟨hbz, .inr (.inr ⟨hmay, h1, Y, rfl, h2, h3.lie hb1.size⟩)⟩
        unfold EsT.val
        clear hmay h1 hbz hb1 h2 h3
        go_wp2
        refine bodyPost_ret (v := .tuple #[.slice Y.A Y.n Y.c, .int .i64 0]) ?_ rfl HP.out
        simp [results, Try.results16, go_sem, *]
set_option maxRecDepth 20000 in
set_option maxHeartbeats 2000000 in
theorem mmerge_any (A : Option Addr) (n c B : Nat) (L : List EsT) (w : World) (hS : Shows w B 1 A n (L.map EsT.val)) (hL : ∀ X ∈ L, X.Lie w B) (hB : B ≤ w.heap.size) (hn : n ≤ 1048576) :
    Calls Try.prog 21 #[.slice A n c] w (SrtP (∀ s ∈ L.map EsT.s, RightS s) (L.map EsT.s).flatten w) := by
  have hl : L.length = n := by have := hS.1; simpa using this
  have HS := Lib.hid hS
  have HL := Lib.hid hL
  have HB := Lib.hid hB
  have HLn := Lib.hid hl
  clear hS hL hB hl
  go_enter Try.func21, Try.ntmps21
  go_wp2_with fail
  go_loopw [9] (fun s wr => ∃ i : Nat, s = .int .i64 i ∧ i ≤ n ∧ Hid (∀ X ∈ L.take i, RightS X.s) ∧ Hid (Below w.heap.size w wr)) (fun s _ => n - (intOf s).toNat)
  case atStart => exact ⟨0, rfl, Nat.zero_le _, Lib.hid nofun, Lib.hid (Below.refl _ _)⟩
  case round =>
    obtain ⟨i, rfl, hi, HD, HBr⟩ := hrel
    by_cases hin : i < n
    · obtain ⟨b, off, X, hA, hbb, hX, x0⟩ := es_at (HS.out.below (HBr.out.mono HB.out)) hin
      have hlie := (HL.out X (List.mem_of_getElem? hX)).later (HBr.out.mono HB.out)
      have hc := mcheck_any X B wr hlie (Nat.le_trans HB.out HBr.out.size)
      have hin' : (i : Int) < (n : Int) := by omega
      have HXX := Lib.hid hX
      subst hA
      clear hlie hbb hX hi
      go_wp2_with fail
      refine hc.mono ?_
      rintro e w1 ⟨hb1, ⟨rfl, hr⟩ | ⟨rfl, hr⟩⟩
      · have HB2 := Lib.hid (HBr.out.trans (hb1.mono HBr.out.size))
        have HD2 : Hid (∀ Y ∈ L.take (i + 1), RightS Y.s) := Lib.hid (fun Y hY => by
          rw [List.take_add_one, HXX.out] at hY
          rcases List.mem_append.1 hY with hY | hY
          · exact HD.out Y hY
          · rw [List.mem_singleton.1 hY]
            exact hr)
        clear hc x0 hb1 hr
        go_wp2_with fail
        go_roundw
        case rel => exact ⟨i + 1, by first | rfl | go_num, by omega, HD2, HB2⟩
        case measure => simp [intOf]; omega
      · have HP : Hid (SrtP (∀ s ∈ L.map EsT.s, RightS s) (L.map EsT.s).flatten w (.returned (.tuple #[.slice none 0 0, .int .i64 250])) w1) := Lib.hid ⟨HBr.out.trans (hb1.mono HBr.out.size), .inl ⟨fun h => hr (h X.s (List.mem_map_of_mem (List.mem_of_getElem? HXX.out))), rfl⟩⟩
        clear hc x0 hb1 hr
        go_wp2
        refine bodyPost_ret (v := .tuple #[.slice none 0 0, .int .i64 250]) ?_ rfl HP.out
        simp [results, Try.results21, go_sem, *]
    · have e : i = n := by omega
      subst e
      have hin' : ¬ (i : Int) < (i : Int) := by omega
      have hright : ∀ s ∈ L.map EsT.s, RightS s := fun s hs => by
        obtain ⟨X, hX, rfl⟩ := List.mem_map.1 hs
        exact HD.out X (by rw [List.take_of_length_le (Nat.le_of_eq HLn.out)]; exact hX)
      have hmg := merged_any A i c B L wr (HS.out.below (HBr.out.mono HB.out)) (fun Y hY => (HL.out Y hY).later (HBr.out.mono HB.out)) (Nat.le_trans HB.out HBr.out.size) hn (fun Y hY => (hright Y.s (List.mem_map_of_mem hY)).2)
      have HR := Lib.hid hright
      have HBz := Lib.hid (Nat.le_trans HB.out HBr.out.size)
      clear hin hi hright
      go_wp2_with fail
      refine hmg.mono ?_
      rintro e w1 ⟨hb1, hh⟩
      have hbz := HBr.out.trans (hb1.mono HBr.out.size)
      clear hmg
      rcases hh with ⟨h1, rfl⟩ | ⟨h1, Y, rfl, h2, h3⟩
      · have HP : Hid (SrtP (∀ s ∈ L.map EsT.s, RightS s) (L.map EsT.s).flatten w (.returned (.tuple #[.slice none 0 0, .int .i64 3])) w1) := Lib.hid ⟨hbz, .inr (.inl ⟨HR.out, h1, rfl⟩)⟩
        clear h1 hbz hb1
        go_wp2
        refine bodyPost_ret (v := .tuple #[.slice none 0 0, .int .i64 3]) ?_ rfl HP.out
        simp [results, Try.results21, go_sem, *]
      · have HP : Hid (SrtP (∀ s ∈ L.map EsT.s, RightS s) (L.map EsT.s).flatten w (.returned (.tuple #[.slice Y.A Y.n Y.c, .int .i64 0])) w1) := Lib.hid ⟨hbz, .inr (.inr ⟨HR.out, h1, Y, rfl, h2, h3.lie (Nat.le_trans HBz.out hb1.size)⟩)⟩
        unfold EsT.val
        clear h1 hbz hb1 h2 h3
        go_wp2
        refine bodyPost_ret (v := .tuple #[.slice Y.A Y.n Y.c, .int .i64 0]) ?_ rfl HP.out
        simp [results, Try.results21, go_sem, *]
end Go.Proofs.Ytkbcgcokokddlaa
/-
  Layer 15: Done.
-/
namespace Go.Proofs.Ytkbcgcokokddlaa
open Go.RowKit
set_option linter.unusedVariables false
set_option linter.unusedSimpArgs false

theorem cells_it (L : List ItT) : ∀ u ∈ L.flatMap ItT.cells, u.oneCell' = true := by
  intro u hu
  obtain ⟨x, _, hx⟩ := List.mem_flatMap.1 hu
  simp only [ItT.cells, List.mem_cons, List.not_mem_nil, or_false] at hx
  rcases hx with rfl | rfl | rfl | rfl <;> rfl
set_option maxRecDepth 20000 in
theorem item_info : ∃ i, Try.prog.info? 54 = some i ∧ i.zero = some (.agg #[.slice none 0 0, .slice none 0 0, .bool false, .int .i64 0]) ∧ i.size = 4 ∧ i.bytes = 64 := ⟨Try.t54, by kernel_rfl, by kernel_rfl, by kernel_rfl, by kernel_rfl⟩
/-- A row of items in memory of its own. -/
structure OwnI (W : World) (D B : Nat) (X : IsT) : Prop where
  row : W.ownsRow D 54 4 (.slice X.A X.n X.c) X.n (X.E.flatMap ItT.cells)
  all : ∀ x ∈ X.E, x.Ok W B
theorem OwnI.lie {W : World} {D B : Nat} {X : IsT} (h : OwnI W D B X) (hB : B ≤ W.heap.size) : X.Lie W W.heap.size := by
  obtain ⟨h1, h2, h3⟩ := own_heads h.row
  exact ⟨Shows.own h.row, fun x hx => (h.all x hx).more hB, h1, h2, h3⟩
theorem OwnI.none (W : World) (D B : Nat) : OwnI W D B ⟨Option.none, 0, 0, []⟩ := ⟨World.ownsRow_nil _ _ _ _, nofun⟩
theorem OwnI.len {W : World} {D B : Nat} {X : IsT} (h : OwnI W D B X) : X.E.length = X.n := by
  have := h.row.1
  rw [flatN_len ItT.cells 4 (fun _ => rfl)] at this
  omega
theorem OwnI.later {W W' : World} {D B : Nat} {X : IsT} (h : OwnI W D B X) (hB : B ≤ W.heap.size) (hb : Below W.heap.size W W') : OwnI W' D B X :=
  ⟨own_later h.row hb, fun x hx => (h.all x hx).later (hb.mono hB)⟩
/-- A row's part ahead of a place, behind it. -/
theorem its_take (L : List ItT) (m : Nat) : (L.flatMap ItT.cells).take (m * 4) = (L.take m).flatMap ItT.cells := by
  rw [← List.take_append_drop m L, List.flatMap_append]
  rcases Nat.le_total m L.length with h | h
  · have hl : ((L.take m).flatMap ItT.cells).length = m * 4 := by rw [flatN_len ItT.cells 4 (fun _ => rfl), List.length_take]; omega
    rw [List.take_left' hl, List.take_append_drop]
  · rw [List.drop_eq_nil_of_le h, List.flatMap_nil, List.append_nil, List.append_nil, List.take_take, Nat.min_self]
    refine List.take_of_length_le ?_
    rw [flatN_len ItT.cells 4 (fun _ => rfl), List.length_take]
    omega
theorem its_drop (L : List ItT) (m : Nat) : (L.flatMap ItT.cells).drop (m * 4) = (L.drop m).flatMap ItT.cells := by
  have h1 : (L.flatMap ItT.cells).take (m * 4) ++ (L.flatMap ItT.cells).drop (m * 4) = (L.take m).flatMap ItT.cells ++ (L.drop m).flatMap ItT.cells := by
    rw [List.take_append_drop, ← List.flatMap_append, List.take_append_drop]
  rw [its_take] at h1
  exact List.append_cancel_left h1
/-- Items behind a place. -/
theorem is_tail {W : World} {B : Nat} {X : IsT} (h : X.Lie W B) {k : Nat} (hk : k ≤ X.n) : ∃ A, A = (if X.c = k then X.A else X.A.map (·.add (k * 4))) ∧ (⟨A, X.n - k, X.c - k, X.E.drop k⟩ : IsT).Lie W B := by
  have hf := h.fit
  have hm := h.most
  have hs := Shows.cut h.row hk hf
  rw [its_drop] at hs
  refine ⟨_, rfl, hs, fun x hx => h.all x (List.mem_of_mem_drop hx), ?_, by show X.n - k ≤ X.c - k; omega, by show X.c - k ≤ maxLen; omega⟩
  show _ = none → X.c - k = 0
  split
  · intro _; omega
  · intro hn
    have : X.A = none := by
      cases hA : X.A with
      | none => rfl
      | some a => rw [hA] at hn; exact absurd hn (by simp)
    have := h.nil this
    omega
theorem ahead_len {L : List ItS} {k : List UInt8} {m : Nat} (h1 : ∀ x ∈ L.take m, cmpL x.k k < 0) (h2 : ∀ x, L[m]? = some x → ¬ cmpL x.k k < 0) : aheadI L k = L.take m ∧ behindI L k = L.drop m := by
  induction m generalizing L with
  | zero =>
    cases L with
    | nil => exact ⟨rfl, rfl⟩
    | cons y L =>
      have h := h2 y rfl
      unfold aheadI behindI
      rw [List.takeWhile_cons, List.dropWhile_cons, if_neg (by simpa using h), if_neg (by simpa using h)]
      exact ⟨rfl, rfl⟩
  | succ m ih =>
    cases L with
    | nil => exact ⟨rfl, rfl⟩
    | cons y L =>
      have h := h1 y (by rw [List.take_succ_cons]; exact List.mem_cons_self)
      obtain ⟨e1, e2⟩ := ih (L := L) (fun x hx => h1 x (by rw [List.take_succ_cons]; exact List.mem_cons_of_mem _ hx)) (fun x hx => h2 x (by rw [List.getElem?_cons_succ]; exact hx))
      unfold aheadI behindI at *
      rw [List.takeWhile_cons, List.dropWhile_cons, if_pos (decide_eq_true h), if_pos (decide_eq_true h), e1, e2]
      exact ⟨rfl, rfl⟩
/-- What Done hands back. -/
def DonP (l : List ItS) (es : List EdS) (W : World) (e : Ending) (W' : World) : Prop :=
  Below W.heap.size W W' ∧ ((¬ (RightS es ∧ IncI l) ∧ e = .returned (.tuple #[.slice none 0 0, .int .i64 250])) ∨
    ((RightS es ∧ IncI l) ∧ ∃ X : IsT, e = .returned (.tuple #[.slice X.A X.n X.c, .int .i64 0]) ∧ X.s = doneR l es ∧ X.Lie W' W'.heap.size))
set_option maxRecDepth 20000 in
set_option maxHeartbeats 2000000 in
theorem mdone_any (X : IsT) (Y : EsT) (B : Nat) (w : World) (hX : X.Lie w B) (hY : Y.Lie w B) (hB : B ≤ w.heap.size) (hn : X.n ≤ 1048576) (hm : Y.n ≤ 1048576) :
    Calls Try.prog 23 #[.slice X.A X.n X.c, .slice Y.A Y.n Y.c] w (DonP X.s Y.s w) := by
  have hh := mcheck_any Y B w hY hB
  have HI := Lib.hid (fun W (h : Below w.heap.size w W) => incI_any X B W (hX.later (h.mono hB)) (Nat.le_trans hB h.size))
  have HX := Lib.hid hX
  have HY := Lib.hid hY
  have HB := Lib.hid hB
  have HN := Lib.hid hn
  have HM := Lib.hid hm
  clear hX hY hB hn hm
  go_enter Try.func23, Try.ntmps23
  go_wp2_with fail
  refine hh.mono ?_
  rintro e w1 ⟨hb1, ⟨rfl, hr⟩ | ⟨rfl, hr⟩⟩
  · have hin := HI.out w1 hb1
    have HR := Lib.hid hr
    have HB1 := Lib.hid hb1
    clear hh hr hb1 HI
    go_wp2_with fail
    refine hin.mono ?_
    rintro e w2 ⟨z, rfl, hz, hb2⟩
    have HZ := Lib.hid hz
    have HB2 := Lib.hid (bel_next HB1.out hb2)
    clear hin hz hb2 HB1
    cases z
    · have HP : Hid (DonP X.s Y.s w (.returned (.tuple #[.slice none 0 0, .int .i64 250])) w2) := Lib.hid ⟨HB2.out, .inl ⟨fun h => Bool.noConfusion (HZ.out.2 h.2), rfl⟩⟩
      go_wp2
      refine bodyPost_ret (v := .tuple #[.slice none 0 0, .int .i64 250]) ?_ rfl HP.out
      simp [results, Try.results23, go_sem, *]
    · have HINC := Lib.hid (HZ.out.1 rfl)
      go_wp2_with fail
      obtain ⟨YA, m, Yc, YE⟩ := Y
      have hYl := HY.out.len
      have hmm := HM.out
      have hXn := HN.out
      simp only at hYl hmm ⊢
      have HYL := Lib.hid hYl
      obtain ⟨TG, hTG⟩ : ∃ TG, doneR X.s (EsT.s ⟨YA, m, Yc, YE⟩) = TG := ⟨_, rfl⟩
      have HD0 : Hid (IsT.s ⟨none, 0, 0, []⟩ ++ doneP X.s ((YE.drop 0).map EdT.s) = TG) := Lib.hid ((doneP_eq HR.out.2 HINC.out).trans hTG)
      have HTG := Lib.hid hTG
      clear hTG
      have HX0 := Lib.hid (HX.out.later (HB2.out.mono HB.out))
      clear hYl
      go_loopw [0, 6, 20] (fun a o s wr => ∃ (i : Nat) (R Z : IsT), a = .slice R.A R.n R.c ∧ o = .slice Z.A Z.n Z.c ∧ s = .int .i64 i ∧ i ≤ m ∧ Z.n + R.n ≤ X.n + i ∧ Hid (R.Lie wr B) ∧ Hid (OwnI wr w2.heap.size B Z) ∧ Hid (Z.s ++ doneP R.s ((YE.drop i).map EdT.s) = TG) ∧ Hid (Below w2.heap.size w2 wr)) (fun _ _ s _ => m - (intOf s).toNat)
      case atStart => exact ⟨0, X, ⟨none, 0, 0, []⟩, rfl, rfl, rfl, Nat.zero_le _, by show 0 + X.n ≤ X.n + 0; omega, HX0, Lib.hid (OwnI.none _ _ _), HD0, Lib.hid (Below.refl _ _)⟩
      case round =>
        obtain ⟨i, R, Z, rfl, rfl, rfl, hi, hZR, HLR, HOZ, HEQ, HBr⟩ := hrel
        have HBw : Hid (B ≤ wr.heap.size) := Lib.hid (Nat.le_trans HB.out (Nat.le_trans HB2.out.size HBr.out.size))
        have HBd : Hid (w2.heap.size ≤ wr.heap.size) := Lib.hid HBr.out.size
        have HBt : Hid (Below w.heap.size w wr) := Lib.hid (HB2.out.trans (HBr.out.mono HB2.out.size))
        by_cases him : i < m
        · obtain ⟨b, off, x, hA, hbb, hx, x0, x1, x2, x3, x4⟩ := ed_at (HY.out.later (HBt.out.mono HB.out)).row (i := i) him
          have hxo := (HY.out.later (HBt.out.mono HB.out)).all x (List.mem_of_getElem? hx)
          simp only at hA hx
          have him' : (i : Int) < (m : Int) := by omega
          have hb34 := bel_alloc (Below.refl wr.heap.size wr) (.cells #[.slice x.k.A x.k.n x.k.c, .bool x.put, .slice x.v.A x.v.n x.v.c, .bool x.b, .int .i64 x.n] 49)
          have hX4 := heap_alloc_new wr (.cells #[.slice x.k.A x.k.n x.k.c, .bool x.put, .slice x.v.A x.v.n x.v.c, .bool x.b, .int .i64 x.n] 49)
          have hdr : (YE.drop i).map EdT.s = x.s :: (YE.drop (i + 1)).map EdT.s := by
            obtain ⟨hl, he⟩ := List.getElem?_eq_some_iff.1 hx
            rw [List.drop_eq_getElem_cons hl, he]
            rfl
          have HEQ2 : Hid (Z.s ++ (aheadI R.s x.s.k ++ (putI x.s ++ doneP (cutI (behindI R.s x.s.k) x.s.k) ((YE.drop (i + 1)).map EdT.s))) = TG) := Lib.hid (by
            have h := HEQ.out
            rw [hdr, doneP_cons] at h
            exact h)
          have HLR4 := Lib.hid (HLR.out.later (hb34.mono HBw.out))
          have HOZ4 := Lib.hid (HOZ.out.later HBw.out hb34)
          have HB4 := Lib.hid (HBr.out.trans (hb34.mono HBd.out))
          have HXO4 := Lib.hid (hxo.later (hb34.mono HBw.out))
          have HBw4 := Lib.hid (Nat.le_trans HBw.out hb34.size)
          have HBd4 := Lib.hid (Nat.le_trans HBd.out hb34.size)
          have HX4 := Lib.hid hX4
          subst hA
          clear hbb hx hxo hb34 hX4 hdr HLR HOZ HEQ HBt HBr HBd hi
          go_upto_block 2 with fail
          generalize wr.alloc (.cells #[.slice x.k.A x.k.n x.k.c, .bool x.put, .slice x.v.A x.v.n x.v.c, .bool x.b, .int .i64 x.n] 49) = W4 at *
          generalize wr.heap.size = k8 at *
          obtain ⟨RA, Rn, Rc, RE⟩ := R
          have hRl := HLR4.out.len
          have hRf := HLR4.out.fit
          have hRm := HLR4.out.most
          simp only at hRl hRf hRm hZR ⊢
          unfold maxLen at hRm
          have HRL := Lib.hid hRl
          have HK8 := Lib.hid (blk_lt HX4.out)
          clear hRl
          go_cut [9] (fun s wx => ∃ k : Nat, s = .int .i64 k ∧ k ≤ Rn ∧ Hid (aheadI (RE.map ItT.s) x.s.k = (RE.map ItT.s).take k ∧ behindI (RE.map ItT.s) x.s.k = (RE.map ItT.s).drop k) ∧ Hid (Below W4.heap.size W4 wx))
          case first =>
            go_wp2_with fail
            go_loopw [9] (fun s wv => ∃ k : Nat, s = .int .i64 k ∧ k ≤ Rn ∧ Hid (∀ y ∈ RE.take k, cmpL y.k.l x.k.l < 0) ∧ Hid (Below W4.heap.size W4 wv)) (fun s _ => Rn - (intOf s).toNat)
            case atStart => exact ⟨0, rfl, Nat.zero_le _, Lib.hid nofun, Lib.hid (Below.refl _ _)⟩
            case round =>
              obtain ⟨k, rfl, hk, HA, HBv⟩ := hrel
              obtain ⟨⟨z0, -⟩, -⟩ := five_blk (blk_later HX4.out HBv.out)
              have hXOv := HXO4.out.later (HBv.out.mono HBw4.out)
              have hRv := HLR4.out.later (HBv.out.mono HBw4.out)
              have HBwv := Lib.hid (Nat.le_trans HBw4.out HBv.out.size)
              go_upto_region 8 with fail
              go_cut [37] (fun s wx => ∃ st : Bool, s = .bool st ∧ Hid (st = true → k < Rn ∧ ∀ y, RE[k]? = some y → cmpL y.k.l x.k.l < 0) ∧ Hid (st = false → ∀ y, RE[k]? = some y → ¬ cmpL y.k.l x.k.l < 0) ∧ Hid (Below W4.heap.size W4 wx))
              case first =>
                by_cases hkn : k < Rn
                · obtain ⟨b2, off2, y, hRA, hbb, hy, c0, -⟩ := it_at hRv.row (i := k) hkn
                  simp only at hRA hy
                  subst hRA
                  obtain ⟨st, hst⟩ : ∃ st, decide (cmpL y.k.l x.k.l < 0) = st := ⟨_, rfl⟩
                  have hyo := hRv.all y (List.mem_of_getElem? hy)
                  have hle := fun (j : Nat) => mless_any y.k x.k B B (wr.drewN j) (hyo.key.later (below_drewN (Below.refl B wr) j)) (hXOv.key.later (below_drewN (Below.refl B wr) j))
                  rw [hst] at hle
                  have HYes : Hid (st = true → k < Rn ∧ ∀ y, RE[k]? = some y → cmpL y.k.l x.k.l < 0) := Lib.hid (fun h => ⟨hkn, fun y' hy' => by
                    rw [hy] at hy'
                    cases hy'
                    exact of_decide_eq_true (hst.trans h)⟩)
                  have HNo : Hid (st = false → ∀ y, RE[k]? = some y → ¬ cmpL y.k.l x.k.l < 0) := Lib.hid (fun h y' hy' => by
                    rw [hy] at hy'
                    cases hy'
                    exact of_decide_eq_false (hst.trans h))
                  have hkn' : (k : Int) < (Rn : Int) := by omega
                  have HKN := Lib.hid hkn
                  clear hst hyo hXOv hRv hbb hy hk
                  go_quiet ((go_at_call 14; exact Calls.quiet_of_same (hle _)))
                  go_wp2_with fail
                  go_meet
                  case rel => exact ⟨st, rfl, HYes, HNo, Lib.hid (below_drewN HBv.out _)⟩
                · have HKN := Lib.hid (show RE[k]? = none from List.getElem?_eq_none (by have := HRL.out; omega))
                  have hkn' : ¬ (k : Int) < (Rn : Int) := by omega
                  clear hkn
                  go_quiet (fail)
                  go_wp2_with fail
                  go_meet
                  case rel => exact ⟨false, rfl, Lib.hid (fun h => Bool.noConfusion h), Lib.hid (fun h y hy => by rw [HKN.out] at hy; cases hy), Lib.hid (below_drewN HBv.out _)⟩
              case rest =>
                obtain ⟨st, rfl, HYes, HNo, HBx⟩ := hcut
                clear z0 hXOv hRv
                cases st
                · have HAB : Hid (aheadI (RE.map ItT.s) x.s.k = (RE.map ItT.s).take k ∧ behindI (RE.map ItT.s) x.s.k = (RE.map ItT.s).drop k) := Lib.hid (ahead_len (fun z hz => by
                    rw [← List.map_take] at hz
                    obtain ⟨y, hy, rfl⟩ := List.mem_map.1 hz
                    exact HA.out y hy) (fun z hz => by
                    rw [List.getElem?_map] at hz
                    obtain ⟨y, hy, rfl⟩ := Option.map_eq_some_iff.1 hz
                    exact HNo.out rfl y hy))
                  go_wp2_with fail
                  go_meet
                  case rel => exact ⟨k, rfl, hk, HAB, HBx⟩
                · have hkn := (HYes.out rfl).1
                  have w3 : wrap64 ((k : Int) + 1) = ((k + 1 : Nat) : Int) := by unfold wrap64; omega
                  have HA2 : Hid (∀ y ∈ RE.take (k + 1), cmpL y.k.l x.k.l < 0) := Lib.hid (fun y hy => by
                    rw [List.take_add_one] at hy
                    rcases List.mem_append.1 hy with hy | hy
                    · exact HA.out y hy
                    · cases he : RE[k]? with
                      | none => rw [he] at hy; cases hy
                      | some y' =>
                        rw [he] at hy
                        rw [List.mem_singleton.1 hy]
                        exact (HYes.out rfl).2 y' he)
                  go_wp2_with fail
                  go_roundw
                  case rel => exact ⟨k + 1, by first | rfl | go_num, by omega, HA2, HBx⟩
                  case measure => simp [intOf]; omega
          case rest =>
            obtain ⟨k, rfl, hk, HAB, HBc⟩ := hcut
            obtain ⟨⟨z0, z1, z2, z3, z4⟩, -⟩ := five_blk (blk_later HX4.out HBc.out)
            have hRv := HLR4.out.later (HBc.out.mono HBw4.out)
            have hOZ := HOZ4.out.later HBw4.out HBc.out
            have HXO5 := Lib.hid (HXO4.out.later (HBc.out.mono HBw4.out))
            have HBw5 := Lib.hid (Nat.le_trans HBw4.out HBc.out.size)
            have HB5 := Lib.hid (HB4.out.trans (HBc.out.mono HBd4.out))
            have HBd5 := Lib.hid (Nat.le_trans HBd4.out HBc.out.size)
            have HX5 := Lib.hid (blk_later HX4.out HBc.out)
            obtain ⟨i0, hi0, hz0, hz1, hz2⟩ := item_info
            have hs1 : Shows wc B 4 RA k ((RE.take k).flatMap ItT.cells) := by
              have h := Shows.first hRv.row (k := k) hk
              rw [its_take] at h
              exact h
            have h1c := cells_it (RE.take k)
            have hown := hOZ.row
            have g1 : Z.n + k ≤ maxLen := by unfold maxLen; have := HN.out; omega
            have g2 : (Z.n + k) * 64 ≤ 140737488355328 := by have := HN.out; omega
            have g3 := HBd5.out
            obtain ⟨A2, hA2, hT2⟩ := is_tail hRv (k := k) hk
            simp only at hA2 hT2
            have HT2 := Lib.hid hT2
            have HZall := Lib.hid hOZ.all
            have HRall := Lib.hid hRv.all
            have i1 : (k : Int) ≤ (Rn : Int) := by omega
            have i2 : (k : Int) ≤ (Rc : Int) := by omega
            have i3 : (Rn : Int) ≤ (Rc : Int) := by omega
            have i4 : (0 : Int) ≤ (k : Int) := by omega
            clear hRv hOZ hT2 HLR4 HOZ4 HXO4 HB4 HX4
            have HA2 := Lib.hid hA2
            have HNE := Lib.hid (own_blk_ne hown HX5.out (by decide))
            clear hA2
            go_upto_region 11 with (at_builtin; refine wpList_append_shows _ rfl _ _ 39 rfl w2.heap.size 54 i0 (.agg #[.slice none 0 0, .slice none 0 0, .bool false, .int .i64 0]) 4 64 Try.underlying39 hi0 hz0 hz1 hz2 rfl (by decide) _ _ _ rfl hown B _ k _ _ rfl hs1 h1c g1 g2 g3 ?_; intro A7 c7 w7 hown7 hgrow7 hb7; have HO7 := Lib.hid hown7; have HB7 := Lib.hid hb7; have HG7 := Lib.hid hgrow7; clear hown7 hgrow7 hb7 hown hs1 g1 g2 g3 h1c)
            have HBB7 : Hid (Below B wc w7) := Lib.hid (HB7.out.mono (Nat.le_trans HB.out HB2.out.size))
            have HOZ7 : Hid (OwnI w7 w2.heap.size B ⟨A7, Z.n + k, c7, Z.E ++ RE.take k⟩) := Lib.hid (by
              refine ⟨?_, fun y hy => ?_⟩
              · show w7.ownsRow _ _ 4 _ (Z.n + k) ((Z.E ++ RE.take k).flatMap ItT.cells)
                rw [List.flatMap_append]
                exact HO7.out
              · rcases List.mem_append.1 hy with hy | hy
                · exact (HZall.out y hy).later HBB7.out
                · exact (HRall.out y (List.mem_of_mem_take hy)).later HBB7.out)
            have HT7 := Lib.hid (HT2.out.later HBB7.out)
            have HZR7 : Hid (Z.n + k + (Rn - k) ≤ X.n + i) := Lib.hid (by omega)
            have HEQ7 : Hid (IsT.s ⟨A7, Z.n + k, c7, Z.E ++ RE.take k⟩ ++ (putI x.s ++ doneP (cutI ((RE.drop k).map ItT.s) x.s.k) ((YE.drop (i + 1)).map EdT.s)) = TG) := Lib.hid (by
              have h := HEQ2.out
              unfold IsT.s at h ⊢
              simp only at h ⊢
              rw [HAB.out.1, HAB.out.2] at h
              rw [List.map_append, List.map_take, List.map_drop, List.append_assoc]
              exact h)
            go_cut [0] (fun s wx => ∃ (A3 : Option Addr) (c3 : Nat), s = .slice A3 (Rn - k) c3 ∧ Hid (IsT.Lie w7 B ⟨A3, Rn - k, c3, RE.drop k⟩) ∧ w7 = wx)
            case first =>
              by_cases hck : Rc = k
              · have HT8 : Hid (IsT.Lie w7 B ⟨RA, Rn - k, 0, RE.drop k⟩) := Lib.hid (by
                  have h := HT7.out
                  rw [HA2.out, if_pos hck, show Rc - k = 0 by omega] at h
                  exact h)
                go_wp2
                go_meet
                case rel => exact ⟨_, _, rfl, HT8, rfl⟩
              · have HT8 : Hid (IsT.Lie w7 B ⟨RA.map (fun x => x.add (k * 4)), Rn - k, Rc - k, RE.drop k⟩) := Lib.hid (by
                  have h := HT7.out
                  rw [HA2.out, if_neg hck] at h
                  exact h)
                go_wp2
                go_meet
                case rel => exact ⟨_, _, rfl, HT8, rfl⟩
            case rest =>
              obtain ⟨A3, c3, rfl, HT3, hw⟩ := hcut
              subst hw
              obtain ⟨n3, hn3⟩ : ∃ n3, Rn - k = n3 := ⟨_, rfl⟩
              obtain ⟨E3, hE3⟩ : ∃ E3, RE.drop k = E3 := ⟨_, rfl⟩
              obtain ⟨n6, hn6⟩ : ∃ n6, Z.n + k = n6 := ⟨_, rfl⟩
              obtain ⟨E6, hE6⟩ : ∃ E6, Z.E ++ RE.take k = E6 := ⟨_, rfl⟩
              rw [hn3, hE3] at HT3
              rw [hE6, hn6] at HOZ7
              rw [hE3, hE6, hn6] at HEQ7
              rw [hn3, hn6] at HZR7
              rw [hn3, hn6]
              have HB7' : Hid (Below w2.heap.size w2 w7) := Lib.hid ((HB5.out).trans HB7.out)
              have HXO7 := Lib.hid (HXO5.out.later HBB7.out)
              have HBw7 := Lib.hid (Nat.le_trans HBw5.out HB7.out.size)
              have HX7 : Hid (w7.heap[k8]? = some (.cells #[.slice x.k.A x.k.n x.k.c, .bool x.put, .slice x.v.A x.v.n x.v.c, .bool x.b, .int .i64 x.n] 49 (0, 0))) := Lib.hid (blk_other HX5.out HG7.out HNE.out)
              clear hn3 hE3 hn6 hE6 HT2 HT7 HZall HRall HO7 HBB7 HG7 HB7 HA2 i1 i2 i3 i4 z0 z1 z2 z3 z4 hRf hRm hi0 hz0 hz1 hz2 HXO5 HBw5 HX5
              obtain ⟨⟨z0, z1, z2, z3, z4⟩, -⟩ := five_blk HX7.out
              go_upto_region 12 with fail
              go_cut [59] (fun s wx => ∃ st : Bool, s = .bool st ∧ Hid (st = true ↔ ∃ y, E3[0]? = some y ∧ y.k.l = x.k.l) ∧ Hid (Below w7.heap.size w7 wx))
              case first =>
                have hl3 := HT3.out.len
                simp only at hl3
                by_cases hn0 : 0 < n3
                · obtain ⟨b2, off2, y, hRA, hbb, hy, c0, -⟩ := it_at HT3.out.row (i := 0) hn0
                  rw [Nat.zero_mul, Nat.add_zero] at c0
                  simp only at hRA hy
                  subst hRA
                  obtain ⟨st, hst⟩ : ∃ st, sameB y.k.l x.k.l = st := ⟨_, rfl⟩
                  have hyo := HT3.out.all y (List.mem_of_getElem? hy)
                  have hbe := fun (j : Nat) => bequal_any y.k.A x.k.A y.k.n y.k.c x.k.n x.k.c y.k.l x.k.l B B (w7.drewN j) (hyo.key.here.below (below_drewN (Below.refl B w7) j)) (HXO7.out.key.here.below (below_drewN (Below.refl B w7) j)) st hst
                  have HYes : Hid (st = true ↔ ∃ y, E3[0]? = some y ∧ y.k.l = x.k.l) := Lib.hid (by
                    rw [← hst, hy]
                    unfold sameB
                    rw [decide_eq_true_iff]
                    exact ⟨fun h => ⟨y, rfl, h⟩, fun ⟨y', e, h⟩ => by cases e; exact h⟩)
                  clear hst hyo hbb hy hl3
                  go_quiet ((go_at_call 45; exact Calls.quiet_of_same ((hbe _).mono fun _ _ h => ⟨h.1, h.2.symm⟩)))
                  go_wp2_with fail
                  go_meet
                  case rel => exact ⟨st, rfl, HYes, Lib.hid (below_drewN (Below.refl _ _) _)⟩
                · have HNo : Hid (E3 = []) := Lib.hid (List.eq_nil_of_length_eq_zero (by omega))
                  clear hl3
                  go_quiet (fail)
                  go_wp2_with fail
                  go_meet
                  case rel => exact ⟨false, rfl, Lib.hid ⟨fun h => Bool.noConfusion h, fun ⟨y, h, _⟩ => by rw [HNo.out] at h; cases h⟩, Lib.hid (below_drewN (Below.refl _ _) _)⟩
              case rest =>
                obtain ⟨st, rfl, HST, HB8⟩ := hcut
                have HT8 := Lib.hid (HT3.out.later (HB8.out.mono HBw7.out))
                have HOZ8 := Lib.hid (HOZ7.out.later HBw7.out HB8.out)
                have HX8 := Lib.hid (blk_later HX7.out HB8.out)
                have HXO8 := Lib.hid (HXO7.out.later (HB8.out.mono HBw7.out))
                have HBw8 := Lib.hid (Nat.le_trans HBw7.out HB8.out.size)
                have HB8' := Lib.hid (HB7'.out.trans (HB8.out.mono HB7'.out.size))
                clear HT3 HOZ7 HX7 HXO7 HBw7 z0 z1 z2 z3 z4
                go_upto_if 59 with fail
                obtain ⟨w8, hw8⟩ : ∃ w8, w8 = wc := ⟨_, rfl⟩
                go_cut [0] (fun s wx => ∃ (A4 : Option Addr) (n4 c4 : Nat) (E4 : List ItT), s = .slice A4 n4 c4 ∧ Hid (IsT.Lie wx B ⟨A4, n4, c4, E4⟩) ∧ Hid (E4.map ItT.s = cutI (E3.map ItT.s) x.s.k) ∧ n4 ≤ n3 ∧ w8 = wx)
                case first =>
                  subst hw8
                  cases st
                  · have HE4 : Hid (E3.map ItT.s = cutI (E3.map ItT.s) x.s.k) := Lib.hid (by
                      cases E3 with
                      | nil => rfl
                      | cons y E3 =>
                        rw [List.map_cons, cutI_cons, if_neg]
                        exact fun h => Bool.noConfusion (HST.out.2 ⟨y, rfl, h⟩))
                    go_wp2
                    go_meet
                    case rel => exact ⟨A3, n3, c3, E3, rfl, HT8, HE4, Nat.le_refl _, rfl⟩
                  · have hl3 := HT8.out.len
                    have hf3 := HT8.out.fit
                    have hm3 := HT8.out.most
                    simp only at hl3 hf3 hm3
                    unfold maxLen at hm3
                    obtain ⟨y, hy, hyk⟩ := HST.out.1 rfl
                    have hn0 : 0 < n3 := by have := (List.getElem?_eq_some_iff.1 hy).1; omega
                    obtain ⟨b2, off2, -, hRA, -⟩ := it_at HT8.out.row (i := 0) hn0
                    simp only at hRA
                    subst hRA
                    obtain ⟨A4, hA4, hT4⟩ := is_tail HT8.out (k := 1) hn0
                    simp only at hA4 hT4
                    rw [Option.map_some, addr_add, Nat.one_mul] at hA4
                    have HE4 : Hid ((E3.drop 1).map ItT.s = cutI (E3.map ItT.s) x.s.k) := Lib.hid (by
                      cases E3 with
                      | nil => cases hy
                      | cons z E3 =>
                        cases hy
                        rw [List.map_cons, cutI_cons, if_pos (show (ItT.s y).k = x.s.k from hyk)]
                        rfl)
                    have i1 : (1 : Int) ≤ (n3 : Int) := by omega
                    have i2 : (1 : Int) ≤ (c3 : Int) := by omega
                    have i3 : (n3 : Int) ≤ (c3 : Int) := by omega
                    have HLE : Hid (n3 - 1 ≤ n3) := Lib.hid (Nat.sub_le _ _)
                    have HT4 := Lib.hid hT4
                    have HA4 := Lib.hid hA4
                    clear hl3 hf3 hy hyk hn0 hT4 hA4
                    by_cases hc1 : c3 = 1
                    · have HT5 : Hid (IsT.Lie w8 B ⟨some ⟨b2, off2, none⟩, n3 - 1, 0, E3.drop 1⟩) := Lib.hid (by
                        have h := HT4.out
                        rw [HA4.out, if_pos hc1, show c3 - 1 = 0 by omega] at h
                        exact h)
                      go_wp2
                      go_meet
                      case rel => exact ⟨_, n3 - 1, 0, E3.drop 1, by first | rfl | (simp; done), HT5, HE4, HLE.out, rfl⟩
                    · have HT5 : Hid (IsT.Lie w8 B ⟨some ⟨b2, off2 + 4, none⟩, n3 - 1, c3 - 1, E3.drop 1⟩) := Lib.hid (by
                        have h := HT4.out
                        rw [HA4.out, if_neg hc1] at h
                        exact h)
                      go_wp2
                      go_meet
                      case rel => exact ⟨_, n3 - 1, c3 - 1, E3.drop 1, by first | rfl | (simp; done), HT5, HE4, HLE.out, rfl⟩
                case rest =>
                  obtain ⟨A4, n4, c4, E4, rfl, HT9, HE4, hn4, hw9⟩ := hcut
                  subst hw9
                  subst hw8
                  have HEQ9 : Hid (IsT.s ⟨A7, n6, c7, E6⟩ ++ (putI x.s ++ doneP (E4.map ItT.s) ((YE.drop (i + 1)).map EdT.s)) = TG) := Lib.hid (by rw [HE4.out]; exact HEQ7.out)
                  have HZR9 : Hid (n6 + n4 ≤ X.n + i) := Lib.hid (Nat.le_trans (Nat.add_le_add_left hn4 _) HZR7.out)
                  obtain ⟨⟨z0, z1, z2, z3, z4⟩, -⟩ := five_blk HX8.out
                  have w3 : wrap64 ((i : Int) + 1) = ((i + 1 : Nat) : Int) := by unfold wrap64; omega
                  clear hn4 HEQ7 HZR7 HT8 HE4 HST
                  obtain ⟨pt, hpt⟩ : ∃ pt, x.put = pt := ⟨_, rfl⟩
                  rw [hpt] at z1
                  have HPT := Lib.hid hpt
                  clear hpt
                  cases pt
                  · have HEQ10 : Hid (IsT.s ⟨A7, n6, c7, E6⟩ ++ doneP (E4.map ItT.s) ((YE.drop (i + 1)).map EdT.s) = TG) := Lib.hid (by
                      have h := HEQ9.out
                      unfold putI at h
                      rw [if_neg (by rw [show x.s.put = x.put from rfl, HPT.out]; exact Bool.noConfusion)] at h
                      exact h)
                    go_wp2_with fail
                    go_roundw
                    case rel => exact ⟨i + 1, ⟨A4, n4, c4, E4⟩, ⟨A7, n6, c7, E6⟩, rfl, rfl, by first | rfl | go_num, him, Nat.le_trans HZR9.out (by omega), HT9, HOZ8, HEQ10, HB8'⟩
                    case measure => simp [intOf]; omega
                  · obtain ⟨i0, hi0, hz0, hz1, hz2⟩ := item_info
                    have hbC := bel_alloc (Below.refl w8.heap.size w8) (.cells #[.slice x.k.A x.k.n x.k.c, .slice x.v.A x.v.n x.v.c, .bool x.b, .int .i64 x.n] 54)
                    have hsC : Shows (w8.alloc (.cells #[.slice x.k.A x.k.n x.k.c, .slice x.v.A x.v.n x.v.c, .bool x.b, .int .i64 x.n] 54)) (w8.heap.size + 1) 4 (some ⟨w8.heap.size, 0, none⟩) 1 ((⟨x.k, x.v, x.b, x.n⟩ : ItT).cells) :=
                      ⟨rfl, fun _ => ⟨w8.heap.size, 0, rfl, by omega, fun j u hu => by rw [Nat.zero_add, cell_of_row _ _ j _ _ _ (heap_alloc_new w8 _)]; simpa [ItT.cells] using hu⟩⟩
                    have hown := own_later HOZ8.out.row hbC
                    simp only at hown
                    have g1 : n6 + 1 ≤ maxLen := by have := HZR9.out; unfold maxLen; omega
                    have g2 : (n6 + 1) * 64 ≤ 140737488355328 := by have := HZR9.out; omega
                    have g3 : w2.heap.size ≤ (w8.alloc (.cells #[.slice x.k.A x.k.n x.k.c, .slice x.v.A x.v.n x.v.c, .bool x.b, .int .i64 x.n] 54)).heap.size := Nat.le_trans HB8'.out.size hbC.size
                    have h1c := cells_it [(⟨x.k, x.v, x.b, x.n⟩ : ItT)]
                    rw [List.flatMap_singleton] at h1c
                    have HBC := Lib.hid hbC
                    clear hbC
                    go_wp2_with (at_builtin; refine wpList_append_shows _ rfl _ _ 39 rfl w2.heap.size 54 i0 (.agg #[.slice none 0 0, .slice none 0 0, .bool false, .int .i64 0]) 4 64 Try.underlying39 hi0 hz0 hz1 hz2 rfl (by decide) _ _ _ rfl hown (w8.heap.size + 1) _ 1 _ _ rfl hsC h1c g1 g2 g3 ?_; intro A9 c9 w9 hown9 hgrow9 hb9; have HO9 := Lib.hid hown9; have HB9 := Lib.hid hb9; clear hown9 hgrow9 hb9 hown hsC g1 g2 g3 h1c z0 z1 z2 z3 z4)
                    have HBB9 : Hid (Below B w8 w9) := Lib.hid ((HBC.out.mono HBw8.out).trans (HB9.out.mono (Nat.le_trans HB.out HB2.out.size)))
                    have HOZ9 : Hid (OwnI w9 w2.heap.size B ⟨A9, n6 + 1, c9, E6 ++ [⟨x.k, x.v, x.b, x.n⟩]⟩) := Lib.hid (by
                      refine ⟨?_, fun y hy => ?_⟩
                      · show w9.ownsRow _ _ 4 _ (n6 + 1) ((E6 ++ [(⟨x.k, x.v, x.b, x.n⟩ : ItT)]).flatMap ItT.cells)
                        rw [List.flatMap_append, List.flatMap_singleton]
                        exact HO9.out
                      · rcases List.mem_append.1 hy with hy | hy
                        · exact (HOZ8.out.all y hy).later HBB9.out
                        · rw [List.mem_singleton.1 hy]
                          have h := HXO8.out.later HBB9.out
                          exact ⟨h.key, h.val, h.num.1, Int.lt_of_le_of_lt h.num.2 (by decide)⟩)
                    have HEQ10 : Hid (IsT.s ⟨A9, n6 + 1, c9, E6 ++ [⟨x.k, x.v, x.b, x.n⟩]⟩ ++ doneP (E4.map ItT.s) ((YE.drop (i + 1)).map EdT.s) = TG) := Lib.hid (by
                      have h := HEQ9.out
                      unfold putI at h
                      rw [if_pos (show x.s.put = true from HPT.out)] at h
                      unfold IsT.s at h ⊢
                      simp only at h ⊢
                      rw [List.map_append, List.append_assoc]
                      exact h)
                    have HB10 : Hid (Below w2.heap.size w2 w9) := Lib.hid ((HB8'.out.trans (HBC.out.mono HB8'.out.size)).trans HB9.out)
                    have HT10 := Lib.hid (HT9.out.later HBB9.out)
                    go_roundw
                    case rel => exact ⟨i + 1, ⟨A4, n4, c4, E4⟩, ⟨A9, n6 + 1, c9, E6 ++ [⟨x.k, x.v, x.b, x.n⟩]⟩, rfl, rfl, by first | rfl | go_num, him, by have := HZR9.out; show n6 + 1 + n4 ≤ X.n + (i + 1); omega, HT10, HOZ9, HEQ10, HB10⟩
                    case measure => simp [intOf]; omega
        · have e : i = m := by omega
          subst e
          have him' : ¬ (i : Int) < (i : Int) := by omega
          have HEQ2 : Hid (Z.s ++ R.s = TG) := Lib.hid (by
            have h := HEQ.out
            rw [List.drop_eq_nil_of_le (Nat.le_of_eq HYL.out), List.map_nil, doneP_nil] at h
            exact h)
          obtain ⟨i0, hi0, hz0, hz1, hz2⟩ := item_info
          have hs1 : Shows wr B 4 R.A R.n (R.E.flatMap ItT.cells) := HLR.out.row
          have h1c := cells_it R.E
          have hown := HOZ.out.row
          have g1 : Z.n + R.n ≤ maxLen := by unfold maxLen; omega
          have g2 : (Z.n + R.n) * 64 ≤ 140737488355328 := by omega
          have g3 := HBd.out
          clear him hi HEQ
          go_wp2_with (at_builtin; refine wpList_append_shows _ rfl _ _ 39 rfl w2.heap.size 54 i0 (.agg #[.slice none 0 0, .slice none 0 0, .bool false, .int .i64 0]) 4 64 Try.underlying39 hi0 hz0 hz1 hz2 rfl (by decide) _ _ _ rfl hown B _ R.n _ _ rfl hs1 h1c g1 g2 g3 ?_; intro A9 c9 w9 hown9 hgrow9 hb9; have HO9 := Lib.hid hown9; have HB9 := Lib.hid hb9; clear hown9 hgrow9 hb9 hown hs1 g1 g2 g3 h1c)
          have HBB9 : Hid (Below B wr w9) := Lib.hid (HB9.out.mono (Nat.le_trans HB.out HB2.out.size))
          have HOZ9 : Hid (OwnI w9 w2.heap.size B ⟨A9, Z.n + R.n, c9, Z.E ++ R.E⟩) := Lib.hid (by
            refine ⟨?_, fun y hy => ?_⟩
            · show w9.ownsRow _ _ 4 _ (Z.n + R.n) ((Z.E ++ R.E).flatMap ItT.cells)
              rw [List.flatMap_append]
              exact HO9.out
            · rcases List.mem_append.1 hy with hy | hy
              · exact (HOZ.out.all y hy).later HBB9.out
              · exact (HLR.out.all y hy).later HBB9.out)
          have HP : Hid (DonP X.s (EsT.s ⟨YA, i, Yc, YE⟩) w (.returned (.tuple #[.slice A9 (Z.n + R.n) c9, .int .i64 0])) w9) := Lib.hid (by
            refine ⟨HBt.out.trans (HB9.out.mono HB2.out.size), .inr ⟨⟨HR.out, HINC.out⟩, ⟨A9, Z.n + R.n, c9, Z.E ++ R.E⟩, rfl, ?_, HOZ9.out.lie (Nat.le_trans HBw.out HB9.out.size)⟩⟩
            rw [HTG.out, ← HEQ2.out]
            unfold IsT.s
            rw [List.map_append])
          refine bodyPost_ret (v := .tuple #[.slice A9 (Z.n + R.n) c9, .int .i64 0]) ?_ rfl HP.out
          simp [results, Try.results23, go_sem, *]
  · have HP : Hid (DonP X.s Y.s w (.returned (.tuple #[.slice none 0 0, .int .i64 250])) w1) := Lib.hid ⟨hb1, .inl ⟨fun h => hr h.1, rfl⟩⟩
    clear hh hr hb1 HI
    go_wp2
    refine bodyPost_ret (v := .tuple #[.slice none 0 0, .int .i64 250]) ?_ rfl HP.out
    simp [results, Try.results23, go_sem, *]
end Go.Proofs.Ytkbcgcokokddlaa
/-
  Steps of a region that draws, more of them: a row made of values, an append onto a row of one's own beside another such row of the same type. No program in sight.
-/
namespace Go.Proofs.Ytkbcgcokokddlaa
open Go.RowKit
set_option linter.unusedVariables false

/-- Two rows of one's own are apart. -/
def ApartV (v u : Value) : Prop := u.ownBlock = none ∨ u.ownBlock ≠ v.ownBlock
theorem shows_made (W : World) (cs : Array Value) (t : TypeId) (g n size : Nat) (hg : W.heap.size = g) (hl : cs.toList.length = n * size) : Shows (W.alloc (.cells cs t)) (g + 1) size (some ⟨g, 0, none⟩) n cs.toList := by
  subst hg
  refine ⟨hl, fun _ => ⟨W.heap.size, 0, rfl, by omega, fun j u hu => ?_⟩⟩
  rw [Nat.zero_add]
  refine (World.cell?_alloc_new W _ t j).trans ?_
  simpa using hu
section
variable {P : Program} {w w' : World} {o : Oper} {a : Act} {K : Act → World → Prop} {Q : Exit → Act → World → Prop}
/-- '[]T{..}'. -/
theorem step_rows (t e : TypeId) (k : Nat) (xs : Array (Nat × Operand)) (ho : o.op = .buildSlice t k xs) (size : Nat) (i : TypeInfo) (z : Value) (ht : P.underlying t = some (.slice e)) (hi : P.info? e = some i) (hz : i.zero = some z) (hsize : i.size = size)
    (cells : Array Value) (hf : Instr.fill (fun q => some (q * size, size)) ((Array.range (k * size)).map (z.cells[· % z.cells.size]!)) (xs.toList.map fun p => (p.1, a.eval p.2)) = some cells) (hcs : cells.toList.length = k * size) (h0 : ¬ k * size = 0) (h24 : ¬ k * size > 2 ^ 24)
    (h : ∀ g w', w.heap.size ≤ g → Shows w' (g + 1) size (some ⟨g, 0, none⟩) k cells.toList → g + 1 ≤ w'.heap.size → Below w.heap.size w w' → K (a.put o.dst (.slice (some ⟨g, 0, none⟩) k k)) w') : o.wp P a w K Q := by
  refine wp_buildSlice t e k xs ho cells i z ht hi hz (by rw [hsize]; exact h24) (by rw [hsize]; exact h0) (by rw [hsize]; simpa using hf) ?_
  exact h w.heap.size (w.alloc (.cells cells e)) (Nat.le_refl _) (shows_made w cells e w.heap.size k size rfl hcs) (by rw [World.size_alloc]; exact Nat.le_refl _) ((Below.refl _ _).alloc (Nat.le_refl _) _)
/-- append onto a row of one's own, beside another one. -/
theorem step_appO (s x : Operand) (t : TypeId) (ho : o.op = .call { callee := .builtin .append, args := #[s, x], argTypes := #[t, t] })
    (base : Nat) (e : TypeId) (i : TypeInfo) (z : Value) (size bytes : Nat) (ht : P.underlying t = some (.slice e)) (hi : P.info? e = some i) (hz : i.zero = some z)
    (hsize : i.size = size) (hby : i.bytes = bytes) (hzs : z.cells.size = size) (hsz : 0 < size)
    (v : Value) (n : Nat) (xs : List Value) (hs : a.eval s = v) (hown : w.ownsRow base e size v n xs)
    (B : Nat) (b : Nat) (m c : Nat) (news : List Value) (hx : a.eval x = .slice (some ⟨b, 0, none⟩) m c) (hr : Shows w B size (some ⟨b, 0, none⟩) m news) (h1 : ∀ u ∈ news, u.oneCell' = true)
    (h63 : n + m ≤ maxLen) (hbytes : (n + m) * bytes ≤ 140737488355328) (hbase : base ≤ w.heap.size)
    (h : ∀ A' c' w', w'.ownsRow base e size (.slice A' (n + m) c') (n + m) (xs ++ news) → w.grownBy w' v.ownBlock → Below base w w' → ((Value.slice A' (n + m) c').ownBlock = v.ownBlock ∨ (Value.slice A' (n + m) c').ownBlock = some w.heap.size) → K (a.put o.dst (.slice A' (n + m) c')) w') :
    o.wp P a w K Q := by
  have hcells : ∀ j u, news[j]? = some u → w.cell? ((⟨b, 0, none⟩ : Addr).add j) = some u := by
    intro j u hu
    rcases Nat.eq_zero_or_pos m with h0 | h0
    · subst h0
      have hn : news = [] := List.eq_nil_of_length_eq_zero (by simpa using hr.1)
      subst hn
      simp at hu
    · obtain ⟨b', off, he, _, hc⟩ := hr.2 h0
      injection he with he
      injection he with e1 e2
      subst e1; subst e2
      rw [addr_add]
      exact hc j u hu
  obtain ⟨v', w', hrun, h2, h3, _, h4⟩ := run_append_own_at (P := P) w base t o.type e i z size bytes ht hi hz hsize hby hzs hsz v n xs hown ⟨b, 0, none⟩ m c news hr.1 hcells h1 h63 hbytes hbase
  obtain ⟨A', c', rfl, _, _⟩ := own_form h2
  unfold Oper.wp execOp
  simp only [ho, resolve, invoke, builtin, Sem.run_bind, Sem.run_pure, Result.andThen_ok, List.map_toArray, List.map_cons, List.map_nil, hs, hx, hrun]
  exact h A' c' w' h2 h3 ((Below.refl base w).grown h3 hbase fun k hk => (hown.lt k hk).1) h4
theorem wpList_appO {ops : Array Oper} {rest : List Oper} (hgd : o.guard = none) (s x : Operand) (t : TypeId) (ho : o.op = .call { callee := .builtin .append, args := #[s, x], argTypes := #[t, t] })
    (base : Nat) (e : TypeId) (i : TypeInfo) (z : Value) (size bytes : Nat) (ht : P.underlying t = some (.slice e)) (hi : P.info? e = some i) (hz : i.zero = some z)
    (hsize : i.size = size) (hby : i.bytes = bytes) (hzs : z.cells.size = size) (hsz : 0 < size)
    (v : Value) (n : Nat) (xs : List Value) (hs : a.eval s = v) (hown : w.ownsRow base e size v n xs)
    (B : Nat) (b : Nat) (m c : Nat) (news : List Value) (hx : a.eval x = .slice (some ⟨b, 0, none⟩) m c) (hr : Shows w B size (some ⟨b, 0, none⟩) m news) (h1 : ∀ u ∈ news, u.oneCell' = true)
    (h63 : n + m ≤ maxLen) (hbytes : (n + m) * bytes ≤ 140737488355328) (hbase : base ≤ w.heap.size)
    (h : ∀ A' c' w', w'.ownsRow base e size (.slice A' (n + m) c') (n + m) (xs ++ news) → w.grownBy w' v.ownBlock → Below base w w' → ((Value.slice A' (n + m) c').ownBlock = v.ownBlock ∨ (Value.slice A' (n + m) c').ownBlock = some w.heap.size) → wpList P ops Q rest (a.put o.dst (.slice A' (n + m) c')) w') :
    wpList P ops Q (o :: rest) a w :=
  wpList_plain hgd fun _ hK => step_appO s x t ho base e i z size bytes ht hi hz hsize hby hzs hsz v n xs hs hown B b m c news hx hr h1 h63 hbytes hbase fun A' c' w' h2 h3 h4 h5 => hK _ _ (h A' c' w' h2 h3 h4 h5)
theorem apart_app {base size n : Nat} {e : TypeId} {v v' u : Value} {xs : List Value} (ha : ApartV v u) (hu : w.ownsRow base e size u n xs) (hor : v'.ownBlock = v.ownBlock ∨ v'.ownBlock = some w.heap.size) : ApartV v' u := by
  rcases ha with h | h
  · exact .inl h
  · rcases hor with h2 | h2
    · exact .inr (by rw [h2]; exact h)
    · refine .inr fun e => ?_
      rw [h2] at e
      have := (hu.lt _ e).2
      omega
theorem apart_turn {v u : Value} (h : ApartV v u) : ApartV u v := by
  rcases h with h | h
  · cases hv : v.ownBlock with
    | none => exact .inl hv
    | some k => exact .inr (by rw [hv, h]; simp)
  · exact .inr fun e => h e.symm
end
end Go.Proofs.Ytkbcgcokokddlaa
