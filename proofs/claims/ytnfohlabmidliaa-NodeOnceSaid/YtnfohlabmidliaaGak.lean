import Derived.Test.YtnfohlabmidliaaGaj
/-
  Layer 14: wakes.
-/
namespace Go.Proofs.Ytnfohlabmidliaa
open Go.RowKit
set_option linter.unusedVariables false
set_option linter.unusedSimpArgs false

set_option maxRecDepth 20000 in
set_option maxHeartbeats 4000000 in
theorem nwakes_any (w : World) :
    Calls Try.prog 11 #[] w fun e w' => e = .returned (.bool true) ∧ Below w.heap.size w w' := by
  have kc := fun (w : World) (C : Array Value) (n c : Nat) => Lib.run_convert_bytes_const (P := Try.prog) w 32 5 C n c Try.underlying32 Try.underlying5
  have kc2 := fun (o : Obj) (C : Array Value) (n c : Nat) => Joins.run_convert_bytes_const_at (P := Try.prog) (w.alloc o) 32 5 C n c (w.heap.size + 1) (by rw [World.size_alloc]) Try.underlying32 Try.underlying5
  have hb1 := bel_alloc (wk1_below w) (.cells #[.bool true, .slice (some ⟨w.heap.size + 3, 0, none⟩) 2 2, .slice none 0 0] 25)
  have hL := (wk1_lie w).later ((bel_alloc (Below.refl _ _) (.cells #[.bool true, .slice (some ⟨w.heap.size + 3, 0, none⟩) 2 2, .slice none 0 0] 25)).mono (Nat.le_of_eq (wk1_size w).symm))
  have hn := NBox.new (WK1 w) (.bool true) (.slice (some ⟨w.heap.size + 3, 0, none⟩) 2 2) (.slice none 0 0) 25
  have hs1 : ((WK1 w).alloc (.cells #[.bool true, .slice (some ⟨w.heap.size + 3, 0, none⟩) 2 2, .slice none 0 0] 25)).heap.size = w.heap.size + 5 := by rw [World.size_alloc, wk1_size]
  rw [wk1_size] at hn
  unfold WK1 at hb1 hL hn hs1
  have HN := Lib.hid hn
  have HL := Lib.hid hL
  clear hn hL
  go_enter Try.func11, Try.ntmps11
  go_upto_region 2 with fail
  rw [show w.heap.size + 1 + 1 + 1 + 1 = w.heap.size + 4 from rfl, show w.heap.size + 1 + 1 + 1 = w.heap.size + 3 from rfl, show w.heap.size + 1 + 1 = w.heap.size + 2 from rfl]
  obtain ⟨W1, hW1⟩ : ∃ W1, ((((w.alloc (.cells #[.int .u8 97] 5 (1, 2))).alloc (.cells #[.int .u8 98] 5 (1, 2))).alloc (.cells #[.int .u8 7] 5)).alloc (.cells #[.slice (some ⟨w.heap.size, 0, none⟩) 1 1, .slice none 0 0, .bool false, .int .i64 0, .slice (some ⟨w.heap.size + 1, 0, none⟩) 1 1, .slice (some ⟨w.heap.size + 2, 0, none⟩) 1 1, .bool true, .int .i64 (-1)] 58)).alloc (.cells #[.bool true, .slice (some ⟨w.heap.size + 3, 0, none⟩) 2 2, .slice none 0 0] 25) = W1 := ⟨_, rfl⟩
  rw [hW1] at hb1 HL HN hs1 ⊢
  clear hW1 kc2
  obtain ⟨s, hs⟩ : ∃ s, w.heap.size = s := ⟨_, rfl⟩
  rw [hs] at hb1 HL HN hs1 ⊢
  have HSZ := Lib.hid hs
  have hsW : s + 4 ≤ W1.heap.size := by omega
  have hB1 := Lib.hid hb1
  clear hs hb1
  have hce : Calls Try.prog 22 #[.agg #[.bool true, .slice (some ⟨s + 3, 0, none⟩) 2 2, .slice none 0 0]] W1 (EncP (wkN s) W1) := encode_any (wkN s) (s + 4) W1 HL.out hsW
  obtain ⟨⟨m0, m1, m2⟩, -⟩ := HN.out
  go_wp2_with fail
  refine hce.mono ?_
  rintro e W2 ⟨hb2, ⟨hok, _⟩ | ⟨hok, A, n, c, rfl, hO⟩⟩
  · exact absurd hok (by rw [wk_ok]; exact Bool.noConfusion)
  rw [wk_enc] at hO
  have HO2 := Lib.hid hO
  have HN2 := Lib.hid (HN.out.later hb2)
  have HL2 := Lib.hid (HL.out.later (hb2.mono hsW))
  have hB2 := Lib.hid (hB1.out.trans (hb2.mono (by rw [← HSZ.out]; exact hB1.out.size)))
  have hs2 := hb2.size
  clear hce hok m0 m1 m2 hO hb2
  have hcr : Calls Try.prog 18 #[.agg #[.bool true, .slice (some ⟨s + 3, 0, none⟩) 2 2, .slice none 0 0]] W2 (RedP (wkN s) W2) := red14_any (wkN s) (s + 4) W2 HL2.out (by omega)
  obtain ⟨⟨m0, m1, m2⟩, -⟩ := HN2.out
  go_wp2_with fail
  refine hcr.mono ?_
  rintro e W3 ⟨hb3, ⟨hok, _⟩ | ⟨hok, rfl⟩⟩
  · exact absurd hok (by rw [wk_ok]; exact Bool.noConfusion)
  rw [wk_all]
  simp only
  have hb3a := bel_alloc hb3 (.cells #[.int .i64 2, .int .i64 1, .int .i64 (hiI (-1)), .int .u64 (loI (-1)), .int .i64 (-1), .int .i64 (-1)] 37)
  have hsix := Six.new W3 (.int .i64 2) (.int .i64 1) (.int .i64 (hiI (-1))) (.int .u64 (loI (-1))) (.int .i64 (-1)) (.int .i64 (-1)) 37
  have HN3 := Lib.hid (HN2.out.later hb3a)
  have HO3 := Lib.hid (own_later HO2.out hb3a)
  have HL3 := Lib.hid (HL2.out.later (hb3a.mono (by omega)))
  have hB3 := Lib.hid (hB2.out.trans (hb3a.mono (by rw [← HSZ.out]; exact hB2.out.size)))
  have hs3 := hb3a.size
  have HX3 := Lib.hid hsix
  clear hcr hok m0 m1 m2 hb3 hb3a hsix
  go_upto_region 4 with fail
  obtain ⟨g4, hg4⟩ : ∃ g4, W3.heap.size = g4 := ⟨_, rfl⟩
  generalize W3.alloc (.cells #[.int .i64 2, .int .i64 1, .int .i64 (hiI (-1)), .int .u64 (loI (-1)), .int .i64 (-1), .int .i64 (-1)] 37) = W4 at *
  rw [hg4] at HX3 ⊢
  clear hg4
  have hbq := bel_alloc (Below.refl W4.heap.size W4) (.cells #[.int .u8 97, .int .u8 98] 5 (2, 3))
  have hq : PcT.Ok (W4.alloc (.cells #[.int .u8 97, .int .u8 98] 5 (2, 3))) (W4.heap.size + 1) ⟨some ⟨W4.heap.size, 0, none⟩, 2, 2, [97, 98]⟩ := ⟨bytes_new W4 [97, 98] _ _ _ rfl, nofun, Nat.le_refl _, by simp only; unfold maxLen; omega⟩
  have hcp : Calls Try.prog 28 #[.agg #[.bool true, .slice (some ⟨s + 3, 0, none⟩) 2 2, .slice none 0 0], .slice (some ⟨W4.heap.size, 0, none⟩) 2 2] _ (PlaP (wkN s) [97, 98] _) := place14_any (wkN s) ⟨some ⟨W4.heap.size, 0, none⟩, 2, 2, [97, 98]⟩ (W4.heap.size + 1) _ ((HL3.out.later (hbq.mono (by omega))).more (by omega)) hq (by rw [World.size_alloc]; exact Nat.le_refl _)
  have kc4 := kc W4 #[.int .u8 97, .int .u8 98] 2 2
  obtain ⟨⟨m0, m1, m2⟩, -⟩ := HN3.out
  go_wp2_with fail
  refine hcp.mono ?_
  rintro e W5 ⟨hb5, ⟨hok, _⟩ | ⟨hok, rfl⟩⟩
  · exact absurd hok (by rw [wk_ok]; exact Bool.noConfusion)
  rw [wk_at, wk_is]
  have hb45 := bel_next hbq hb5
  have HN5 := Lib.hid (HN3.out.later hb45)
  have HX5 := Lib.hid (HX3.out.below hb45 rfl)
  have hO5 := own_later HO3.out hb45
  have HL5 := Lib.hid (HL3.out.later (hb45.mono (by omega)))
  have hB5 := Lib.hid (hB3.out.trans (hb45.mono (by rw [← HSZ.out]; exact hB3.out.size)))
  have hs5 := hb45.size
  have HO5 := Lib.hid hO5
  have hbok : PcT.Ok W5 W5.heap.size ⟨A, n, c, wkE⟩ := by
    obtain ⟨f1, f2, f3⟩ := nown_facts hO5
    exact ⟨Bytes.own hO5, f1, f2, f3⟩
  have hcd := decode14_any ⟨A, n, c, wkE⟩ W5.heap.size W5 hbok (Nat.le_refl _)
  simp only at hcd
  clear hcp hok m0 m1 m2 hb5 hb45 hq hbq kc4 hO5 hbok
  go_wp2_with fail
  refine hcd.mono ?_
  rintro e W6 ⟨hb6, ⟨_, hno⟩ | ⟨X, rfl, hr, hokX, hG⟩⟩
  · exact absurd (hno (wkN s) (wk_lens s) (wk_read s)) (by rw [wk_ok]; exact Bool.noConfusion)
  have hXs : X.s = (wkN s).s := by
    rw [show (⟨A, n, c, wkE⟩ : PcT).l = wkE from rfl, wk_read s] at hr
    exact (Option.some.inj hr).symm
  have hXk : X.kN = 0 := by
    have h1 := hG.lens.2
    have h2 := congrArg (fun N : NoS => N.K.length) hXs
    simp only [NoT.s, List.length_map] at h2
    have h3 : (wkN s).K.length = 0 := rfl
    omega
  have hlie := hG.lie hb6 hb6.size
  have hb6a := bel_alloc hb6 (.cells #[.bool X.leaf, .slice X.iA X.iN X.iC, .slice X.kA X.kN X.kC] 25)
  have hnb := NBox.new W6 (.bool X.leaf) (.slice X.iA X.iN X.iC) (.slice X.kA X.kN X.kC) 25
  have hb66 := bel_alloc (Below.refl W6.heap.size W6) (.cells #[.bool X.leaf, .slice X.iA X.iN X.iC, .slice X.kA X.kN X.kC] 25)
  have HN6 := Lib.hid (HN5.out.later hb6a)
  have HX6 := Lib.hid (HX5.out.below hb6a rfl)
  have HO6 := Lib.hid (own_later HO5.out hb6a)
  have HL6 := Lib.hid (HL5.out.later (hb6a.mono (by omega)))
  have hB6 := Lib.hid (hB5.out.trans (hb6a.mono (by rw [← HSZ.out]; exact hB5.out.size)))
  have HLX := Lib.hid (hlie.later hb66)
  have hs6 := hb6a.size
  have hs66 := hb66.size
  have HNB := Lib.hid hnb
  have HXS := Lib.hid hXs
  have HXK := Lib.hid hXk
  have hagX : X.agg = .agg #[.bool X.leaf, .slice X.iA X.iN X.iC, .slice X.kA X.kN X.kC] := rfl
  rw [hagX]
  clear hcd hr hokX hG hlie hb6 hb6a hnb hb66 hXs hXk
  go_upto_region 6 with fail
  obtain ⟨g8, hg8⟩ : ∃ g8, W6.heap.size = g8 := ⟨_, rfl⟩
  generalize W6.alloc (.cells #[.bool X.leaf, .slice X.iA X.iN X.iC, .slice X.kA X.kN X.kC] 25) = W7 at *
  rw [hg8] at HNB HLX hs66 ⊢
  clear hg8
  have hb2q : PcT.Ok (W7.alloc (.cells #[.int .u8 1, .int .u8 0] 5)) (W7.heap.size + 1) ⟨some ⟨W7.heap.size, 0, none⟩, 2, 2, [1, 0]⟩ := ⟨bytes_new W7 [1, 0] _ _ _ rfl, nofun, Nat.le_refl _, by simp only; unfold maxLen; omega⟩
  have hcd2 := decode14_any _ _ _ hb2q (by rw [World.size_alloc]; exact Nat.le_refl _)
  simp only at hcd2
  have hb77 := bel_alloc (Below.refl W7.heap.size W7) (.cells #[.int .u8 1, .int .u8 0] 5)
  clear hb2q
  go_wp2_with fail
  refine hcd2.mono ?_
  rintro e W8 ⟨hb8, ⟨rfl, _⟩ | ⟨Z, rfl, hr, hokZ, hG⟩⟩
  rotate_left
  · exact absurd hokZ (by rw [wk_none hG.lens (by rw [wk_no] at hr; exact (Option.some.inj hr).symm)]; exact Bool.noConfusion)
  have hb8a := bel_alloc (bel_next hb77 hb8) (.cells #[.bool false, .slice none 0 0, .slice none 0 0] 25)
  have hb8b := bel_alloc hb8a (.cells #[.int .u8 1, .int .u8 2, .int .u8 1, .int .u8 97, .int .u8 0, .int .u8 0, .int .u8 0, .int .u8 0, .int .u8 0, .int .u8 0, .int .u8 0, .int .u8 0, .int .u8 0, .int .u8 0, .int .u8 1, .int .u8 98, .int .u8 1, .int .u8 7, .int .u8 1, .int .u8 255, .int .u8 255, .int .u8 255, .int .u8 255, .int .u8 255, .int .u8 255, .int .u8 255, .int .u8 255] 5)
  have hB8 := Lib.hid (hB6.out.trans (hb8b.mono (by rw [← HSZ.out]; exact hB6.out.size)))
  have HN8 := Lib.hid (HN6.out.later hb8b)
  have HX8 := Lib.hid (HX6.out.below hb8b rfl)
  have hO8 := own_later HO6.out hb8b
  have HL8 := Lib.hid (HL6.out.later (hb8b.mono (by omega)))
  have HLX8 := Lib.hid (HLX.out.later (hb8b.mono (by omega)))
  have HNB8 := Lib.hid (HNB.out.later hb8b)
  have hs8 := hb8b.size
  have hcst := bytes_new (W8.alloc (.cells #[.bool false, .slice none 0 0, .slice none 0 0] 25)) wkE #[.int .u8 1, .int .u8 2, .int .u8 1, .int .u8 97, .int .u8 0, .int .u8 0, .int .u8 0, .int .u8 0, .int .u8 0, .int .u8 0, .int .u8 0, .int .u8 0, .int .u8 0, .int .u8 0, .int .u8 1, .int .u8 98, .int .u8 1, .int .u8 7, .int .u8 1, .int .u8 255, .int .u8 255, .int .u8 255, .int .u8 255, .int .u8 255, .int .u8 255, .int .u8 255, .int .u8 255] 5 (0, 0) rfl
  have hqb : sameB wkE wkE = true := by unfold sameB; exact decide_eq_true rfl
  rw [show wkE.length = 27 from rfl] at hcst
  have hceq := bequal_any A _ n c 27 27 wkE wkE _ _ _ (Bytes.own hO8) hcst true hqb
  rw [World.size_alloc] at hceq
  clear hcd2 hb77 hb8 hb8a hb8b hO8 hcst hqb
  obtain ⟨⟨m0, m1, m2⟩, -⟩ := HN8.out
  obtain ⟨⟨q0, q1, q2⟩, -⟩ := HNB8.out
  obtain ⟨⟨r0, r1, r2, r3, r4, r5⟩, -⟩ := HX8.out
  go_wp2_with fail
  generalize (W8.alloc (.cells #[.bool false, .slice none 0 0, .slice none 0 0] 25)).alloc (.cells #[.int .u8 1, .int .u8 2, .int .u8 1, .int .u8 97, .int .u8 0, .int .u8 0, .int .u8 0, .int .u8 0, .int .u8 0, .int .u8 0, .int .u8 0, .int .u8 0, .int .u8 0, .int .u8 0, .int .u8 1, .int .u8 98, .int .u8 1, .int .u8 7, .int .u8 1, .int .u8 255, .int .u8 255, .int .u8 255, .int .u8 255, .int .u8 255, .int .u8 255, .int .u8 255, .int .u8 255] 5) = Wz at *
  refine hceq.mono ?_
  rintro e W9 ⟨rfl, rfl⟩
  have hsm : Calls Try.prog 15 #[.agg #[.bool X.leaf, .slice X.iA X.iN X.iC, .slice X.kA X.kN X.kC], .agg #[.bool true, .slice (some ⟨s + 3, 0, none⟩) 2 2, .slice none 0 0]] Wz _ := refSame_leaf X (wkN s) Wz.heap.size Wz (HLX8.out.more (by omega)) (HL8.out.more (by omega)) (Nat.le_refl _) HXS.out HXK.out
  clear hceq
  go_wp2_with fail
  refine hsm.mono ?_
  rintro e W10 ⟨rfl, hb10⟩
  have hbz := hB8.out.trans (hb10.mono (by rw [← HSZ.out]; exact hB8.out.size))
  clear hsm hb10
  go_wp2
  go_ret
  exact ⟨rfl, by rw [HSZ.out]; exact hbz⟩
end Go.Proofs.Ytnfohlabmidliaa
/-
  bytes.Clone; what is read is laid so again.
-/
namespace Go.Proofs.Ytnfohlabmidliaa
open Go.RowKit
set_option linter.unusedVariables false

set_option maxRecDepth 20000 in
set_option maxHeartbeats 2000000 in
theorem nbclone_any (A : Option Addr) (n c : Nat) (l : List UInt8) (B : Nat) (w : World) (h : Bytes w B A n l) (hA : A = none → c = 0) (hB : B ≤ w.heap.size) (hn : n ≤ 1000000) :
    Calls Try.prog 30 #[.slice A n c] w (GivesBytes 5 l w) := by
  have hnil := fun (W : World) (a : Option Addr) (n c : Nat) => Lib.run_eql_slice_nil (P := Try.prog) W 32 5 a n c 0 0 Try.underlying32
  rcases A with _ | a
  · obtain rfl := hA rfl
    obtain ⟨rfl, rfl⟩ := bytes_nil h
    go_enter Try.func30, Try.ntmps30
    go_wp2
    go_ret
    exact ⟨none, 0, 0, rfl, World.ownsRow_nil _ _ _ _, Below.refl _ _⟩
  obtain ⟨i0, hi, hz0, hz1, hz2⟩ := u8_info
  have own0 := World.ownsRow_lit (base := w.heap.size) (e := 5) (size := 1) w #[] 0 (Nat.le_refl _) (Nat.zero_le _) (by simp)
  have hb := bel_alloc (Below.refl w.heap.size w) (.cells #[] 5)
  have hs := (h.more hB).alloc (Nat.le_refl _) (.cells #[] 5)
  have hz : w.heap.size ≤ (w.alloc (.cells #[] 5)).heap.size := hb.size
  have g1 : 0 + n ≤ maxLen := by unfold maxLen; omega
  have g2 : (0 + n) * 1 ≤ 140737488355328 := by omega
  clear h
  go_enter Try.func30, Try.ntmps30
  go_wp2_with (at_builtin; refine wpList_append_shows _ rfl _ _ 32 rfl w.heap.size 5 i0 (.int .u8 0) 1 1 Try.underlying32 hi hz0 hz1 hz2 rfl (by decide) _ _ _ rfl own0 w.heap.size _ n _ (l.map bv) rfl hs (bv_one l) g1 g2 hz ?_; intro A7 c7 w7 hown7 hgrow7 hb7; have HO7 := Lib.hid hown7; have hb8 := hb.trans hb7; clear hown7 hgrow7 own0 hs hz hb7)
  go_ret
  have ho := HO7.out
  rw [Nat.zero_add, List.nil_append] at ho
  exact ⟨A7, n, c7, by first | rfl | simp, ho, hb8⟩
theorem put_it (x : ItT) : (EnT.it x).put = x.s.put := rfl
theorem items_some : ∀ (n : Nat) (b : List UInt8) (l : List ItS) (r : List UInt8), Nod.itemsO n b = some (l, r) → b = l.flatMap ItS.put ++ r ∧ l.length = n
  | 0, b, l, r, h => by
    unfold Nod.itemsO at h
    injection h with h
    injection h with h1 h2
    subst h1 h2
    exact ⟨rfl, rfl⟩
  | n + 1, b, l, r, h => by
    unfold Nod.itemsO at h
    cases hi : Nod.itemO b with
    | none => rw [hi] at h; cases h
    | some x =>
      rw [hi] at h
      have h' : ((Nod.itemsO n x.2).bind fun l => some (x.1 :: l.1, l.2)) = some (l, r) := h
      cases hl : Nod.itemsO n x.2 with
      | none => rw [hl] at h'; cases h'
      | some q =>
        rw [hl] at h'
        injection h' with h'
        injection h' with h1 h2
        subst h1 h2
        obtain ⟨e1, -⟩ := Nod.item_some (x := x.1) (r := x.2) hi
        obtain ⟨e2, hn⟩ := items_some n x.2 q.1 q.2 hl
        exact ⟨by rw [e1, List.flatMap_cons, List.append_assoc, ← e2], by rw [List.length_cons, hn]⟩
theorem kids_some : ∀ (n : Nat) (b : List UInt8) (l : List KiS) (r : List UInt8), Nod.kidsO n b = some (l, r) → b = l.flatMap KiS.put ++ r ∧ l.length = n
  | 0, b, l, r, h => by
    unfold Nod.kidsO at h
    injection h with h
    injection h with h1 h2
    subst h1 h2
    exact ⟨rfl, rfl⟩
  | n + 1, b, l, r, h => by
    unfold Nod.kidsO at h
    cases hi : Nod.kidO b with
    | none => rw [hi] at h; cases h
    | some x =>
      rw [hi] at h
      have h' : ((Nod.kidsO n x.2).bind fun l => some (x.1 :: l.1, l.2)) = some (l, r) := h
      cases hl : Nod.kidsO n x.2 with
      | none => rw [hl] at h'; cases h'
      | some q =>
        rw [hl] at h'
        injection h' with h'
        injection h' with h1 h2
        subst h1 h2
        obtain ⟨e1, -⟩ := Nod.kid_some (x := x.1) (r := x.2) hi
        obtain ⟨e2, hn⟩ := kids_some n x.2 q.1 q.2 hl
        exact ⟨by rw [e1, List.flatMap_cons, List.append_assoc, ← e2], by rw [List.length_cons, hn]⟩
theorem flat_it (L : List ItT) : (L.map EnT.it).flatMap EnT.put = (L.map ItT.s).flatMap ItS.put := by
  induction L with
  | nil => rfl
  | cons x L ih => rw [List.map_cons, List.flatMap_cons, ih, List.map_cons, List.flatMap_cons]; rfl
theorem flat_ki (L : List KiT) : (L.map EnT.ki).flatMap EnT.put = (L.map KiT.s).flatMap KiS.put := by
  induction L with
  | nil => rfl
  | cons x L ih => rw [List.map_cons, List.flatMap_cons, ih, List.map_cons, List.flatMap_cons]; rfl
/-- Bytes that are read are the node's. -/
theorem read_enc {b : List UInt8} {X : NoT} (h : readO b = some X.s) : X.enc = b := by
  cases h1 : Nod.numO 1 b with
  | none => rw [read_no1 h1] at h; cases h
  | some m =>
    obtain ⟨m, r1⟩ := m
    cases h2 : Nod.numO 1 r1 with
    | none => rw [read_no3 h1 h2] at h; cases h
    | some c =>
      obtain ⟨c, r2⟩ := c
      obtain ⟨e1, _⟩ := Nod.num_some h1
      obtain ⟨e2, hc⟩ := Nod.num_some h2
      by_cases hm1 : m = 1
      · subst hm1
        rw [read_leaf h1 h2] at h
        cases hi : Nod.itemsO c r2 with
        | none => rw [hi] at h; cases h
        | some p =>
          rw [hi] at h
          have h' : (if p.2 = [] then some (⟨true, p.1, []⟩ : NoS) else none) = some X.s := h
          by_cases hp : p.2 = []
          · rw [if_pos hp] at h'
            have hs := Option.some.inj h'
            obtain ⟨e3, hl⟩ := items_some c r2 p.1 p.2 hi
            have hlf : X.leaf = true := (congrArg NoS.leaf hs).symm
            have hI : X.I.map ItT.s = p.1 := (congrArg NoS.I hs).symm
            unfold NoT.enc NoT.ents
            rw [hlf, if_pos rfl, flat_it, List.length_map, hI, show X.I.length = c by rw [← hl, ← hI, List.length_map], e1, e2, e3, hp, List.append_nil, Nod.hi_one, Nod.hi_one]
            rfl
          · rw [if_neg hp] at h'; cases h'
      · by_cases hm2 : m = 2
        · subst hm2
          rw [read_inner h1 h2] at h
          cases hi : Nod.kidsO c r2 with
          | none => rw [hi] at h; cases h
          | some p =>
            rw [hi] at h
            have h' : (if p.2 = [] then some (⟨false, [], p.1⟩ : NoS) else none) = some X.s := h
            by_cases hp : p.2 = []
            · rw [if_pos hp] at h'
              have hs := Option.some.inj h'
              obtain ⟨e3, hl⟩ := kids_some c r2 p.1 p.2 hi
              have hlf : X.leaf = false := (congrArg NoS.leaf hs).symm
              have hK : X.K.map KiT.s = p.1 := (congrArg NoS.K hs).symm
              unfold NoT.enc NoT.ents
              rw [hlf, if_neg Bool.false_ne_true, flat_ki, List.length_map, hK, show X.K.length = c by rw [← hl, ← hK, List.length_map], e1, e2, e3, hp, List.append_nil, Nod.hi_one, Nod.hi_one]
              rfl
            · rw [if_neg hp] at h'; cases h'
        · rw [read_no2 h1 hm1 hm2] at h; cases h
end Go.Proofs.Ytnfohlabmidliaa
/-
  The law NodeOnce: what is decoded is the node whose encoding the bytes are.
-/
namespace Go.Proofs.Ytnfohlabmidliaa
open Go.RowKit
set_option linter.unusedVariables false
set_option linter.unusedSimpArgs false

set_option maxRecDepth 20000 in
set_option maxHeartbeats 4000000 in
theorem nodeOnce_walk (w : World) (A0 : Option Addr) (n0 c0 : Nat) (l0 : List UInt8) (h0 : Bytes w w.heap.size A0 n0 l0) (hA0 : A0 = none → c0 = 0) (hn0 : n0 ≤ c0) (hc0 : c0 ≤ maxLen) :
    Calls Try.prog 8 #[.slice A0 n0 c0] w fun e w' => e = .returned (.bool true) ∧ Below w.heap.size w w' := by
  obtain ⟨m, hm⟩ : ∃ m : Nat, m = min n0 3000 := ⟨_, rfl⟩
  have hmn : m ≤ n0 := by omega
  have hm3 : m ≤ 3000 := by omega
  have e1 : min (n0 : Int) 3000 = (m : Int) := by omega
  have e2 : (if (3000 : Int) < (n0 : Int) then (3000 : Int) else (n0 : Int)) = (m : Int) := by split <;> omega
  have i1 : (m : Int) ≤ (n0 : Int) := by omega
  have i2 : (n0 : Int) ≤ (c0 : Int) := by omega
  have i3 : (m : Int) ≤ (c0 : Int) := by omega
  have hcm : c0 ≤ 9223372036854775807 := by unfold maxLen at hc0; exact hc0
  have HF := Lib.hid (h0.first hmn)
  clear h0 hc0 hm
  go_enter Try.func8, Try.ntmps8
  go_wp2_with fail
  refine (nwakes_any _).mono ?_
  rintro e W1 ⟨rfl, hb1⟩
  have hcl := nbclone_any A0 m c0 (l0.take m) w.heap.size W1 (HF.out.below hb1) hA0 hb1.size (by omega)
  go_wp2_with fail
  refine hcl.mono ?_
  rintro e W2 ⟨A, n, c, rfl, hO, hb2⟩
  obtain ⟨b, hb⟩ : ∃ b, l0.take m = b := ⟨_, rfl⟩
  rw [hb] at hO
  have hb3 := bel_next hb1 hb2
  have HO := Lib.hid hO
  have hbok : PcT.Ok W2 W2.heap.size ⟨A, n, c, b⟩ := by
    obtain ⟨f1, f2, f3⟩ := nown_facts hO
    exact ⟨Bytes.own hO, f1, f2, f3⟩
  have hcd := decode14_any ⟨A, n, c, b⟩ W2.heap.size W2 hbok (Nat.le_refl _)
  simp only at hcd
  clear hcl hb1 hb2 hO hbok hb e1 e2 i1 i2 i3 hcm hA0 hn0 hmn hm3
  go_wp2_with fail
  refine hcd.mono ?_
  rintro e W3 ⟨hb4, ⟨rfl, _⟩ | ⟨X, rfl, hr, hok, hG⟩⟩
  · have hb5 := bel_alloc (bel_next hb3 hb4) (.cells #[.bool false, .slice none 0 0, .slice none 0 0] 25)
    clear hcd hb3 hb4
    go_wp2
    go_ret
    exact ⟨rfl, hb5⟩
  · have hlie := hG.lie hb4 hb4.size
    have hb66 := bel_alloc (Below.refl W3.heap.size W3) (.cells #[.bool X.leaf, .slice X.iA X.iN X.iC, .slice X.kA X.kN X.kC] 25)
    have hce := encode_any X W3.heap.size _ (hlie.later hb66) hb66.size
    have hb5 := bel_next (bel_next hb3 hb4) hb66
    have HO4 := Lib.hid (own_later HO.out (bel_alloc hb4 (.cells #[.bool X.leaf, .slice X.iA X.iN X.iC, .slice X.kA X.kN X.kC] 25)))
    have hnb := NBox.new W3 (.bool X.leaf) (.slice X.iA X.iN X.iC) (.slice X.kA X.kN X.kC) 25
    have hagX : X.agg = .agg #[.bool X.leaf, .slice X.iA X.iN X.iC, .slice X.kA X.kN X.kC] := rfl
    have HE := Lib.hid (show X.enc = b from read_enc hr)
    have HK := Lib.hid hok
    rw [hagX] at hce ⊢
    obtain ⟨⟨q0, q1, q2⟩, -⟩ := hnb
    clear hcd hr hok hG hlie hb66 hb3 hb4 HO hagX
    go_wp2_with fail
    generalize W3.alloc (.cells #[.bool X.leaf, .slice X.iA X.iN X.iC, .slice X.kA X.kN X.kC] 25) = W4 at *
    refine hce.mono ?_
    rintro e W5 ⟨hb6, ⟨hno, _⟩ | ⟨_, A2, n2, c2, rfl, hO2⟩⟩
    · exact absurd hno (by rw [HK.out]; exact Bool.noConfusion)
    rw [HE.out] at hO2
    have hbz := bel_next hb5 hb6
    have hO5 := own_later HO4.out hb6
    have hceq := bequal_any A2 A n2 c2 n c b b _ _ W5 (Bytes.own hO2) (Bytes.own hO5) true (by unfold sameB; exact decide_eq_true rfl)
    clear hce hb5 hb6 hO2 hO5 q0 q1 q2
    go_wp2_with fail
    refine hceq.mono ?_
    rintro e W6 ⟨rfl, rfl⟩
    clear hceq
    go_wp2
    go_ret
    exact ⟨rfl, hbz⟩
end Go.Proofs.Ytnfohlabmidliaa
