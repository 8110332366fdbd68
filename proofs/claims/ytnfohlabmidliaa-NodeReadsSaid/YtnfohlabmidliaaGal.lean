import Derived.Test.YtnfohlabmidliaaGak
import Derived.Test.YtnfohlabmidliaaGae
import Derived.Test.YtnfohlabmidliaaGai
/-
  Layer 14: wakes.
-/
namespace Go.Proofs.Ytnfohlabmidliaa
open Go.RowKit
set_option linter.unusedVariables false
set_option linter.unusedSimpArgs false

set_option maxRecDepth 20000 in
set_option maxHeartbeats 4000000 in
theorem nwakes_any (w : World) :
    Calls Try.prog 11 #[] w fun e w' => e = .returned (.bool true) ∧ Below w.heap.size w w' := by
  have kc := fun (w : World) (C : Array Value) (n c : Nat) => Lib.run_convert_bytes_const (P := Try.prog) w 32 5 C n c Try.underlying32 Try.underlying5
  have kc2 := fun (o : Obj) (C : Array Value) (n c : Nat) => Joins.run_convert_bytes_const_at (P := Try.prog) (w.alloc o) 32 5 C n c (w.heap.size + 1) (by rw [World.size_alloc]) Try.underlying32 Try.underlying5
  have hb1 := bel_alloc (wk1_below w) (.cells #[.bool true, .slice (some ⟨w.heap.size + 3, 0, none⟩) 2 2, .slice none 0 0] 25)
  have hL := (wk1_lie w).later ((bel_alloc (Below.refl _ _) (.cells #[.bool true, .slice (some ⟨w.heap.size + 3, 0, none⟩) 2 2, .slice none 0 0] 25)).mono (Nat.le_of_eq (wk1_size w).symm))
  have hn := NBox.new (WK1 w) (.bool true) (.slice (some ⟨w.heap.size + 3, 0, none⟩) 2 2) (.slice none 0 0) 25
  have hs1 : ((WK1 w).alloc (.cells #[.bool true, .slice (some ⟨w.heap.size + 3, 0, none⟩) 2 2, .slice none 0 0] 25)).heap.size = w.heap.size + 5 := by rw [World.size_alloc, wk1_size]
  rw [wk1_size] at hn
  unfold WK1 at hb1 hL hn hs1
  have HN := Lib.hid hn
  have HL := Lib.hid hL
  clear hn hL
  go_enter Try.func11, Try.ntmps11
  go_upto_region 2 with fail
  rw [show w.heap.size + 1 + 1 + 1 + 1 = w.heap.size + 4 from rfl, show w.heap.size + 1 + 1 + 1 = w.heap.size + 3 from rfl, show w.heap.size + 1 + 1 = w.heap.size + 2 from rfl]
  obtain ⟨W1, hW1⟩ : ∃ W1, ((((w.alloc (.cells #[.int .u8 97] 5 (1, 2))).alloc (.cells #[.int .u8 98] 5 (1, 2))).alloc (.cells #[.int .u8 7] 5)).alloc (.cells #[.slice (some ⟨w.heap.size, 0, none⟩) 1 1, .slice none 0 0, .bool false, .int .i64 0, .slice (some ⟨w.heap.size + 1, 0, none⟩) 1 1, .slice (some ⟨w.heap.size + 2, 0, none⟩) 1 1, .bool true, .int .i64 (-1)] 58)).alloc (.cells #[.bool true, .slice (some ⟨w.heap.size + 3, 0, none⟩) 2 2, .slice none 0 0] 25) = W1 := ⟨_, rfl⟩
  rw [hW1] at hb1 HL HN hs1 ⊢
  clear hW1 kc2
  obtain ⟨s, hs⟩ : ∃ s, w.heap.size = s := ⟨_, rfl⟩
  rw [hs] at hb1 HL HN hs1 ⊢
  have HSZ := Lib.hid hs
  have hsW : s + 4 ≤ W1.heap.size := by omega
  have hB1 := Lib.hid hb1
  clear hs hb1
  have hce : Calls Try.prog 22 #[.agg #[.bool true, .slice (some ⟨s + 3, 0, none⟩) 2 2, .slice none 0 0]] W1 (EncP (wkN s) W1) := encode_any (wkN s) (s + 4) W1 HL.out hsW
  obtain ⟨⟨m0, m1, m2⟩, -⟩ := HN.out
  go_wp2_with fail
  refine hce.mono ?_
  rintro e W2 ⟨hb2, ⟨hok, _⟩ | ⟨hok, A, n, c, rfl, hO⟩⟩
  · exact absurd hok (by rw [wk_ok]; exact Bool.noConfusion)
  rw [wk_enc] at hO
  have HO2 := Lib.hid hO
  have HN2 := Lib.hid (HN.out.later hb2)
  have HL2 := Lib.hid (HL.out.later (hb2.mono hsW))
  have hB2 := Lib.hid (hB1.out.trans (hb2.mono (by rw [← HSZ.out]; exact hB1.out.size)))
  have hs2 := hb2.size
  clear hce hok m0 m1 m2 hO hb2
  have hcr : Calls Try.prog 18 #[.agg #[.bool true, .slice (some ⟨s + 3, 0, none⟩) 2 2, .slice none 0 0]] W2 (RedP (wkN s) W2) := red14_any (wkN s) (s + 4) W2 HL2.out (by omega)
  obtain ⟨⟨m0, m1, m2⟩, -⟩ := HN2.out
  go_wp2_with fail
  refine hcr.mono ?_
  rintro e W3 ⟨hb3, ⟨hok, _⟩ | ⟨hok, rfl⟩⟩
  · exact absurd hok (by rw [wk_ok]; exact Bool.noConfusion)
  rw [wk_all]
  simp only
  have hb3a := bel_alloc hb3 (.cells #[.int .i64 2, .int .i64 1, .int .i64 (hiI (-1)), .int .u64 (loI (-1)), .int .i64 (-1), .int .i64 (-1)] 37)
  have hsix := Six.new W3 (.int .i64 2) (.int .i64 1) (.int .i64 (hiI (-1))) (.int .u64 (loI (-1))) (.int .i64 (-1)) (.int .i64 (-1)) 37
  have HN3 := Lib.hid (HN2.out.later hb3a)
  have HO3 := Lib.hid (own_later HO2.out hb3a)
  have HL3 := Lib.hid (HL2.out.later (hb3a.mono (by omega)))
  have hB3 := Lib.hid (hB2.out.trans (hb3a.mono (by rw [← HSZ.out]; exact hB2.out.size)))
  have hs3 := hb3a.size
  have HX3 := Lib.hid hsix
  clear hcr hok m0 m1 m2 hb3 hb3a hsix
  go_upto_region 4 with fail
  obtain ⟨g4, hg4⟩ : ∃ g4, W3.heap.size = g4 := ⟨_, rfl⟩
  generalize W3.alloc (.cells #[.int .i64 2, .int .i64 1, .int .i64 (hiI (-1)), .int .u64 (loI (-1)), .int .i64 (-1), .int .i64 (-1)] 37) = W4 at *
  rw [hg4] at HX3 ⊢
  clear hg4
  have hbq := bel_alloc (Below.refl W4.heap.size W4) (.cells #[.int .u8 97, .int .u8 98] 5 (2, 3))
  have hq : PcT.Ok (W4.alloc (.cells #[.int .u8 97, .int .u8 98] 5 (2, 3))) (W4.heap.size + 1) ⟨some ⟨W4.heap.size, 0, none⟩, 2, 2, [97, 98]⟩ := ⟨bytes_new W4 [97, 98] _ _ _ rfl, nofun, Nat.le_refl _, by simp only; unfold maxLen; omega⟩
  have hcp : Calls Try.prog 28 #[.agg #[.bool true, .slice (some ⟨s + 3, 0, none⟩) 2 2, .slice none 0 0], .slice (some ⟨W4.heap.size, 0, none⟩) 2 2] _ (PlaP (wkN s) [97, 98] _) := place14_any (wkN s) ⟨some ⟨W4.heap.size, 0, none⟩, 2, 2, [97, 98]⟩ (W4.heap.size + 1) _ ((HL3.out.later (hbq.mono (by omega))).more (by omega)) hq (by rw [World.size_alloc]; exact Nat.le_refl _)
  have kc4 := kc W4 #[.int .u8 97, .int .u8 98] 2 2
  obtain ⟨⟨m0, m1, m2⟩, -⟩ := HN3.out
  go_wp2_with fail
  refine hcp.mono ?_
  rintro e W5 ⟨hb5, ⟨hok, _⟩ | ⟨hok, rfl⟩⟩
  · exact absurd hok (by rw [wk_ok]; exact Bool.noConfusion)
  rw [wk_at, wk_is]
  have hb45 := bel_next hbq hb5
  have HN5 := Lib.hid (HN3.out.later hb45)
  have HX5 := Lib.hid (HX3.out.below hb45 rfl)
  have hO5 := own_later HO3.out hb45
  have HL5 := Lib.hid (HL3.out.later (hb45.mono (by omega)))
  have hB5 := Lib.hid (hB3.out.trans (hb45.mono (by rw [← HSZ.out]; exact hB3.out.size)))
  have hs5 := hb45.size
  have HO5 := Lib.hid hO5
  have hbok : PcT.Ok W5 W5.heap.size ⟨A, n, c, wkE⟩ := by
    obtain ⟨f1, f2, f3⟩ := nown_facts hO5
    exact ⟨Bytes.own hO5, f1, f2, f3⟩
  have hcd := decode14_any ⟨A, n, c, wkE⟩ W5.heap.size W5 hbok (Nat.le_refl _)
  simp only at hcd
  clear hcp hok m0 m1 m2 hb5 hb45 hq hbq kc4 hO5 hbok
  go_wp2_with fail
  refine hcd.mono ?_
  rintro e W6 ⟨hb6, ⟨_, hno⟩ | ⟨X, rfl, hr, hokX, hG⟩⟩
  · exact absurd (hno (wkN s) (wk_lens s) (wk_read s)) (by rw [wk_ok]; exact Bool.noConfusion)
  have hXs : X.s = (wkN s).s := by
    rw [show (⟨A, n, c, wkE⟩ : PcT).l = wkE from rfl, wk_read s] at hr
    exact (Option.some.inj hr).symm
  have hXk : X.kN = 0 := by
    have h1 := hG.lens.2
    have h2 := congrArg (fun N : NoS => N.K.length) hXs
    simp only [NoT.s, List.length_map] at h2
    have h3 : (wkN s).K.length = 0 := rfl
    omega
  have hlie := hG.lie hb6 hb6.size
  have hb6a := bel_alloc hb6 (.cells #[.bool X.leaf, .slice X.iA X.iN X.iC, .slice X.kA X.kN X.kC] 25)
  have hnb := NBox.new W6 (.bool X.leaf) (.slice X.iA X.iN X.iC) (.slice X.kA X.kN X.kC) 25
  have hb66 := bel_alloc (Below.refl W6.heap.size W6) (.cells #[.bool X.leaf, .slice X.iA X.iN X.iC, .slice X.kA X.kN X.kC] 25)
  have HN6 := Lib.hid (HN5.out.later hb6a)
  have HX6 := Lib.hid (HX5.out.below hb6a rfl)
  have HO6 := Lib.hid (own_later HO5.out hb6a)
  have HL6 := Lib.hid (HL5.out.later (hb6a.mono (by omega)))
  have hB6 := Lib.hid (hB5.out.trans (hb6a.mono (by rw [← HSZ.out]; exact hB5.out.size)))
  have HLX := Lib.hid (hlie.later hb66)
  have hs6 := hb6a.size
  have hs66 := hb66.size
  have HNB := Lib.hid hnb
  have HXS := Lib.hid hXs
  have HXK := Lib.hid hXk
  have hagX : X.agg = .agg #[.bool X.leaf, .slice X.iA X.iN X.iC, .slice X.kA X.kN X.kC] := rfl
  rw [hagX]
  clear hcd hr hokX hG hlie hb6 hb6a hnb hb66 hXs hXk
  go_upto_region 6 with fail
  obtain ⟨g8, hg8⟩ : ∃ g8, W6.heap.size = g8 := ⟨_, rfl⟩
  generalize W6.alloc (.cells #[.bool X.leaf, .slice X.iA X.iN X.iC, .slice X.kA X.kN X.kC] 25) = W7 at *
  rw [hg8] at HNB HLX hs66 ⊢
  clear hg8
  have hb2q : PcT.Ok (W7.alloc (.cells #[.int .u8 1, .int .u8 0] 5)) (W7.heap.size + 1) ⟨some ⟨W7.heap.size, 0, none⟩, 2, 2, [1, 0]⟩ := ⟨bytes_new W7 [1, 0] _ _ _ rfl, nofun, Nat.le_refl _, by simp only; unfold maxLen; omega⟩
  have hcd2 := decode14_any _ _ _ hb2q (by rw [World.size_alloc]; exact Nat.le_refl _)
  simp only at hcd2
  have hb77 := bel_alloc (Below.refl W7.heap.size W7) (.cells #[.int .u8 1, .int .u8 0] 5)
  clear hb2q
  go_wp2_with fail
  refine hcd2.mono ?_
  rintro e W8 ⟨hb8, ⟨rfl, _⟩ | ⟨Z, rfl, hr, hokZ, hG⟩⟩
  rotate_left
  · exact absurd hokZ (by rw [wk_none hG.lens (by rw [wk_no] at hr; exact (Option.some.inj hr).symm)]; exact Bool.noConfusion)
  have hb8a := bel_alloc (bel_next hb77 hb8) (.cells #[.bool false, .slice none 0 0, .slice none 0 0] 25)
  have hb8b := bel_alloc hb8a (.cells #[.int .u8 1, .int .u8 2, .int .u8 1, .int .u8 97, .int .u8 0, .int .u8 0, .int .u8 0, .int .u8 0, .int .u8 0, .int .u8 0, .int .u8 0, .int .u8 0, .int .u8 0, .int .u8 0, .int .u8 1, .int .u8 98, .int .u8 1, .int .u8 7, .int .u8 1, .int .u8 255, .int .u8 255, .int .u8 255, .int .u8 255, .int .u8 255, .int .u8 255, .int .u8 255, .int .u8 255] 5)
  have hB8 := Lib.hid (hB6.out.trans (hb8b.mono (by rw [← HSZ.out]; exact hB6.out.size)))
  have HN8 := Lib.hid (HN6.out.later hb8b)
  have HX8 := Lib.hid (HX6.out.below hb8b rfl)
  have hO8 := own_later HO6.out hb8b
  have HL8 := Lib.hid (HL6.out.later (hb8b.mono (by omega)))
  have HLX8 := Lib.hid (HLX.out.later (hb8b.mono (by omega)))
  have HNB8 := Lib.hid (HNB.out.later hb8b)
  have hs8 := hb8b.size
  have hcst := bytes_new (W8.alloc (.cells #[.bool false, .slice none 0 0, .slice none 0 0] 25)) wkE #[.int .u8 1, .int .u8 2, .int .u8 1, .int .u8 97, .int .u8 0, .int .u8 0, .int .u8 0, .int .u8 0, .int .u8 0, .int .u8 0, .int .u8 0, .int .u8 0, .int .u8 0, .int .u8 0, .int .u8 1, .int .u8 98, .int .u8 1, .int .u8 7, .int .u8 1, .int .u8 255, .int .u8 255, .int .u8 255, .int .u8 255, .int .u8 255, .int .u8 255, .int .u8 255, .int .u8 255] 5 (0, 0) rfl
  have hqb : sameB wkE wkE = true := by unfold sameB; exact decide_eq_true rfl
  rw [show wkE.length = 27 from rfl] at hcst
  have hceq := bequal_any A _ n c 27 27 wkE wkE _ _ _ (Bytes.own hO8) hcst true hqb
  rw [World.size_alloc] at hceq
  clear hcd2 hb77 hb8 hb8a hb8b hO8 hcst hqb
  obtain ⟨⟨m0, m1, m2⟩, -⟩ := HN8.out
  obtain ⟨⟨q0, q1, q2⟩, -⟩ := HNB8.out
  obtain ⟨⟨r0, r1, r2, r3, r4, r5⟩, -⟩ := HX8.out
  go_wp2_with fail
  generalize (W8.alloc (.cells #[.bool false, .slice none 0 0, .slice none 0 0] 25)).alloc (.cells #[.int .u8 1, .int .u8 2, .int .u8 1, .int .u8 97, .int .u8 0, .int .u8 0, .int .u8 0, .int .u8 0, .int .u8 0, .int .u8 0, .int .u8 0, .int .u8 0, .int .u8 0, .int .u8 0, .int .u8 1, .int .u8 98, .int .u8 1, .int .u8 7, .int .u8 1, .int .u8 255, .int .u8 255, .int .u8 255, .int .u8 255, .int .u8 255, .int .u8 255, .int .u8 255, .int .u8 255] 5) = Wz at *
  refine hceq.mono ?_
  rintro e W9 ⟨rfl, rfl⟩
  have hsm : Calls Try.prog 15 #[.agg #[.bool X.leaf, .slice X.iA X.iN X.iC, .slice X.kA X.kN X.kC], .agg #[.bool true, .slice (some ⟨s + 3, 0, none⟩) 2 2, .slice none 0 0]] Wz _ := refSame_leaf X (wkN s) Wz.heap.size Wz (HLX8.out.more (by omega)) (HL8.out.more (by omega)) (Nat.le_refl _) HXS.out HXK.out
  clear hceq
  go_wp2_with fail
  refine hsm.mono ?_
  rintro e W10 ⟨rfl, hb10⟩
  have hbz := hB8.out.trans (hb10.mono (by rw [← HSZ.out]; exact hB8.out.size))
  clear hsm hb10
  go_wp2
  go_ret
  exact ⟨rfl, by rw [HSZ.out]; exact hbz⟩
end Go.Proofs.Ytnfohlabmidliaa
/-
  Layer 14: own: a few bytes of one's own; rows of one's own.
-/
namespace Go.Proofs.Ytnfohlabmidliaa
open Go.RowKit
set_option linter.unusedVariables false

set_option maxRecDepth 20000 in
set_option maxHeartbeats 1000000 in
theorem nfew_any (p : PcT) (B : Nat) (w : World) (hp : p.Ok w B) (hB : B ≤ w.heap.size) :
    Calls Try.prog 33 #[.slice p.A p.n p.c] w (GivesBytes 5 (p.l.take 121) w) := by
  obtain ⟨m, hm⟩ : ∃ m : Nat, m = min p.n 121 := ⟨_, rfl⟩
  have hmn : m ≤ p.n := by omega
  have hlm : p.l.take m = p.l.take 121 := by
    have := hp.len
    rcases Nat.le_total p.n 121 with h | h
    · rw [show m = p.n by omega, List.take_of_length_le (by omega), List.take_of_length_le (by omega)]
    · rw [show m = 121 by omega]
  have hcl := clone_any p.A m p.c (p.l.take m) B w (hp.here.first hmn) hp.nil hB (by omega)
  rw [hlm] at hcl
  have e1 : min (p.n : Int) 121 = (m : Int) := by omega
  have e2 : (if (121 : Int) < (p.n : Int) then (121 : Int) else (p.n : Int)) = (m : Int) := by split <;> omega
  have i1 : (m : Int) ≤ (p.n : Int) := by omega
  have i2 : (p.n : Int) ≤ (p.c : Int) := by have := hp.fits; omega
  have i3 : (m : Int) ≤ (p.c : Int) := by omega
  have hcm : p.c ≤ 9223372036854775807 := by have h := hp.most; unfold maxLen at h; exact h
  clear hm hlm hp
  go_enter Try.func33, Try.ntmps33
  go_wp2_with fail
  refine hcl.mono ?_
  rintro e w1 ⟨A, n, c, rfl, hO, hb⟩
  clear hcl
  go_wp2
  go_ret
  exact ⟨A, n, c, rfl, hO, hb⟩
theorem cells_it1 (L : List ItT) : ∀ u ∈ L.flatMap ItT.cells, u.oneCell' = true := by
  intro u hu
  obtain ⟨x, _, hx⟩ := List.mem_flatMap.1 hu
  simp only [ItT.cells, List.mem_cons, List.not_mem_nil, or_false] at hx
  rcases hx with rfl | rfl | rfl | rfl <;> rfl
theorem cells_ki1 (L : List KiT) : ∀ u ∈ L.flatMap KiT.cells, u.oneCell' = true := by
  intro u hu
  obtain ⟨x, _, hx⟩ := List.mem_flatMap.1 hu
  simp only [KiT.cells, List.mem_cons, List.not_mem_nil, or_false] at hx
  rcases hx with rfl | rfl | rfl | rfl | rfl | rfl | rfl | rfl <;> rfl
set_option maxRecDepth 20000 in
theorem nitem_info : ∃ i, Try.prog.info? 58 = some i ∧ i.zero = some (.agg #[.slice none 0 0, .slice none 0 0, .bool false, .int .i64 0]) ∧ i.size = 4 ∧ i.bytes = 64 := ⟨Try.t58, by kernel_rfl, by kernel_rfl, by kernel_rfl, by kernel_rfl⟩
set_option maxRecDepth 20000 in
theorem nkid_info : ∃ i, Try.prog.info? 60 = some i ∧ i.zero = some (.agg #[.slice none 0 0, .int .i64 0, .int .i64 0, .int .i64 0, .int .i64 0, .int .u64 0, .int .i64 0, .int .i64 0]) ∧ i.size = 8 ∧ i.bytes = 80 := ⟨Try.t60, by kernel_rfl, by kernel_rfl, by kernel_rfl, by kernel_rfl⟩
/-- What a call that clones a row hands back. -/
def GivesRowN (t : TypeId) (size n : Nat) (xs : List Value) (W : World) (e : Ending) (w' : World) : Prop :=
  ∃ A c, e = .returned (.slice A n c) ∧ w'.ownsRow W.heap.size t size (.slice A n c) n xs ∧ Below W.heap.size W w'
theorem shows_none {w : World} {B size n : Nat} {xs : List Value} (hs : 0 < size) (h : Shows w B size none n xs) : n = 0 ∧ xs = [] := by
  have hn0 : n = 0 := by
    rcases Nat.eq_zero_or_pos n with h0 | h0
    · exact h0
    · obtain ⟨_, _, h, _⟩ := h.2 h0
      cases h
  exact ⟨hn0, List.eq_nil_of_length_eq_zero (by rw [h.1, hn0, Nat.zero_mul])⟩
set_option maxRecDepth 20000 in
set_option maxHeartbeats 1000000 in
theorem cloneI_any (A : Option Addr) (n c B : Nat) (L : List ItT) (w : World) (h : Shows w B 4 A n (L.flatMap ItT.cells)) (hA : A = none → c = 0) (hB : B ≤ w.heap.size) (hn : n ≤ 1000) :
    Calls Try.prog 34 #[.slice A n c] w (GivesRowN 58 4 n (L.flatMap ItT.cells) w) := by
  have hnil := fun (W : World) (a : Option Addr) (n c : Nat) => Lib.run_eql_slice_nil (P := Try.prog) W 22 58 a n c 0 0 Try.underlying22
  rcases A with _ | a
  · obtain rfl := hA rfl
    obtain ⟨rfl, hx⟩ := shows_none (by decide) h
    rw [hx]
    go_enter Try.func34, Try.ntmps34
    go_wp2
    go_ret
    exact ⟨none, 0, rfl, World.ownsRow_nil _ _ _ _, Below.refl _ _⟩
  · obtain ⟨i0, hi, hz0, hz1, hz2⟩ := nitem_info
    have hown := World.ownsRow_made (base := w.heap.size) (e := 58) (size := 4) w #[] 0 (Nat.le_refl _) (Nat.zero_le _) rfl
    have hs := (h.more hB).alloc (Nat.le_refl _) (.cells #[] 58)
    have hx := cells_it1 L
    clear h
    go_enter Try.func34, Try.ntmps34
    go_wp2_with (at_builtin; refine wpList_append_shows _ rfl _ _ 22 rfl w.heap.size 58 i0 (.agg #[.slice none 0 0, .slice none 0 0, .bool false, .int .i64 0]) 4 64 Try.underlying22 hi hz0 hz1 hz2 rfl (by decide) _ _ _ rfl hown w.heap.size _ _ _ (L.flatMap ItT.cells) rfl hs hx ?c3 ?c4 ?c5 ?_)
    case c3 => unfold maxLen; omega
    case c4 => omega
    case c5 => simp
    · intro A' c' w1 hown' _ hbel
      go_wp2
      go_ret
      exact ⟨A', c', by simp, by simpa using hown', ((Below.refl _ _).alloc (Nat.le_refl _) _).trans hbel⟩
set_option maxRecDepth 20000 in
set_option maxHeartbeats 1000000 in
theorem cloneK_any (A : Option Addr) (n c B : Nat) (L : List KiT) (w : World) (h : Shows w B 8 A n (L.flatMap KiT.cells)) (hA : A = none → c = 0) (hB : B ≤ w.heap.size) (hn : n ≤ 1000) :
    Calls Try.prog 35 #[.slice A n c] w (GivesRowN 60 8 n (L.flatMap KiT.cells) w) := by
  have hnil := fun (W : World) (a : Option Addr) (n c : Nat) => Lib.run_eql_slice_nil (P := Try.prog) W 23 60 a n c 0 0 Try.underlying23
  rcases A with _ | a
  · obtain rfl := hA rfl
    obtain ⟨rfl, hx⟩ := shows_none (by decide) h
    rw [hx]
    go_enter Try.func35, Try.ntmps35
    go_wp2
    go_ret
    exact ⟨none, 0, rfl, World.ownsRow_nil _ _ _ _, Below.refl _ _⟩
  · obtain ⟨i0, hi, hz0, hz1, hz2⟩ := nkid_info
    have hown := World.ownsRow_made (base := w.heap.size) (e := 60) (size := 8) w #[] 0 (Nat.le_refl _) (Nat.zero_le _) rfl
    have hs := (h.more hB).alloc (Nat.le_refl _) (.cells #[] 60)
    have hx := cells_ki1 L
    clear h
    go_enter Try.func35, Try.ntmps35
    go_wp2_with (at_builtin; refine wpList_append_shows _ rfl _ _ 23 rfl w.heap.size 60 i0 (.agg #[.slice none 0 0, .int .i64 0, .int .i64 0, .int .i64 0, .int .i64 0, .int .u64 0, .int .i64 0, .int .i64 0]) 8 80 Try.underlying23 hi hz0 hz1 hz2 rfl (by decide) _ _ _ rfl hown w.heap.size _ _ _ (L.flatMap KiT.cells) rfl hs hx ?c3 ?c4 ?c5 ?_)
    case c3 => unfold maxLen; omega
    case c4 => omega
    case c5 => simp
    · intro A' c' w1 hown' _ hbel
      go_wp2
      go_ret
      exact ⟨A', c', by simp, by simpa using hown', ((Below.refl _ _).alloc (Nat.le_refl _) _).trans hbel⟩
end Go.Proofs.Ytnfohlabmidliaa
/-
  own: the loop over the items.
-/
namespace Go.Proofs.Ytnfohlabmidliaa
open Go.RowKit
set_option linter.unusedVariables false

/-- What own makes of an item. -/
def cutI (x : ItS) : ItS := ⟨x.k.take 121, x.v.take 121, x.b, x.n⟩
def cutK (x : KiS) : KiS := ⟨x.k.take 121, x.a, x.r⟩
/-- Items whose bytes are one's own. -/
def OwnI (W : World) (D : Nat) (L : List ItT) : Prop := ∀ x ∈ L, W.ownsRow D 5 1 (.slice x.k.A x.k.n x.k.c) x.k.n (x.k.l.map bv) ∧ W.ownsRow D 5 1 (.slice x.v.A x.v.n x.v.c) x.v.n (x.v.l.map bv) ∧ R64 x.n
def OwnK (W : World) (D : Nat) (L : List KiT) : Prop := ∀ x ∈ L, W.ownsRow D 5 1 (.slice x.k.A x.k.n x.k.c) x.k.n (x.k.l.map bv) ∧ R64 x.a ∧ x.r.ok
theorem OwnI.later {W W' : World} {D : Nat} {L : List ItT} (h : OwnI W D L) (hb : Below W.heap.size W W') : OwnI W' D L := fun x hx => ⟨own_later (h x hx).1 hb, own_later (h x hx).2.1 hb, (h x hx).2.2⟩
theorem OwnK.later {W W' : World} {D : Nat} {L : List KiT} (h : OwnK W D L) (hb : Below W.heap.size W W') : OwnK W' D L := fun x hx => ⟨own_later (h x hx).1 hb, (h x hx).2⟩
theorem set_flat {α : Type} (f : α → List Value) (d j : Nat) (hf : ∀ x, (f x).length = d) (hj : j < d) (P R : List α) (x y : α) (v : Value) (hy : f y = (f x).set j v) : ((P ++ x :: R).flatMap f).set (P.length * d + j) v = (P ++ y :: R).flatMap f := by
  rw [List.flatMap_append, List.flatMap_cons, List.flatMap_append, List.flatMap_cons, hy]
  have hP : (P.flatMap f).length = P.length * d := flatN_len f d hf P
  rw [List.set_append_right _ _ (by rw [hP]; omega), hP, Nat.add_sub_cancel_left, List.set_append_left _ _ (by rw [hf]; exact hj)]
theorem OwnI.store {W : World} {D D' n c g j s : Nat} {t : TypeId} {xs : List Value} {L : List ItT} {u : Value} (h : OwnI W D L) (ho : W.ownsRow D' t s (.slice (some ⟨g, 0, none⟩) n c) n xs) (ht : t ≠ 5) : OwnI (W.setCell ⟨g, j, none⟩ u) D L := by
  have hg := (World.ownsRow.stored ho j u).2
  have key : ∀ (p : PcT), W.ownsRow D 5 1 (.slice p.A p.n p.c) p.n (p.l.map bv) → (W.setCell ⟨g, j, none⟩ u).ownsRow D 5 1 (.slice p.A p.n p.c) p.n (p.l.map bv) := fun p hp => hp.kept hg (by
    rcases hp.2 with ⟨e, _⟩ | ⟨b, cap, cur, e, _, hh, _⟩
    · rw [e]; exact .inl rfl
    · rw [e]
      exact .inr (own_blk_ne ho hh (Ne.symm ht)))
  exact fun x hx => ⟨key x.k (h x hx).1, key x.v (h x hx).2.1, (h x hx).2.2⟩
theorem OwnK.store {W : World} {D D' n c g j s : Nat} {t : TypeId} {xs : List Value} {L : List KiT} {u : Value} (h : OwnK W D L) (ho : W.ownsRow D' t s (.slice (some ⟨g, 0, none⟩) n c) n xs) (ht : t ≠ 5) : OwnK (W.setCell ⟨g, j, none⟩ u) D L := by
  have hg := (World.ownsRow.stored ho j u).2
  exact fun x hx => ⟨(h x hx).1.kept hg (by
    rcases (h x hx).1.2 with ⟨e, _⟩ | ⟨b, cap, cur, e, _, hh, _⟩
    · rw [e]; exact .inl rfl
    · rw [e]
      exact .inr (own_blk_ne ho hh (Ne.symm ht))), (h x hx).2⟩
theorem OwnI.below {W : World} {D : Nat} {L : List ItT} (h : OwnI W D L) {a : Addr} (ha : a.block < D) (u : Value) : OwnI (W.setCell a u) D L := fun x hx => ⟨ownsRow_setCell_below (h x hx).1 ha u, ownsRow_setCell_below (h x hx).2.1 ha u, (h x hx).2.2⟩
theorem OwnK.below {W : World} {D : Nat} {L : List KiT} (h : OwnK W D L) {a : Addr} (ha : a.block < D) (u : Value) : OwnK (W.setCell a u) D L := fun x hx => ⟨ownsRow_setCell_below (h x hx).1 ha u, (h x hx).2⟩
/-- What is left of a node by own. -/
def NoT.cut (X : NoT) : NoS := ⟨X.leaf, (X.I.take 7).map (fun x => cutI x.s), (X.K.take 7).map (fun x => cutK x.s)⟩
/-- A node of one's own. -/
structure OwnN (s : NoS) (Y : NoT) (D : Nat) (W : World) : Prop where
  irow : W.ownsRow D 58 4 (.slice Y.iA Y.iN Y.iC) Y.iN (Y.I.flatMap ItT.cells)
  krow : W.ownsRow D 60 8 (.slice Y.kA Y.kN Y.kC) Y.kN (Y.K.flatMap KiT.cells)
  items : OwnI W D Y.I
  kids : OwnK W D Y.K
  said : Y.s = s
theorem OwnN.later {s : NoS} {Y : NoT} {D : Nat} {W W' : World} (h : OwnN s Y D W) (hb : Below W.heap.size W W') : OwnN s Y D W' := ⟨own_later h.irow hb, own_later h.krow hb, h.items.later hb, h.kids.later hb, h.said⟩
theorem own_ok {W : World} {D : Nat} {p : PcT} (h : W.ownsRow D 5 1 (.slice p.A p.n p.c) p.n (p.l.map bv)) : p.Ok W W.heap.size := by
  obtain ⟨f1, f2, f3⟩ := nown_facts h
  exact ⟨Bytes.own h, f1, f2, f3⟩
theorem OwnN.lie {s : NoS} {Y : NoT} {D : Nat} {W : World} (h : OwnN s Y D W) : LieN W W.heap.size Y := by
  obtain ⟨f1, f2, f3⟩ := nown_facts h.irow
  obtain ⟨k1, k2, k3⟩ := nown_facts h.krow
  exact ⟨Shows.own h.irow, fun x hx => ⟨own_ok (h.items x hx).1, own_ok (h.items x hx).2.1, (h.items x hx).2.2⟩, f1, f2, f3, Shows.own h.krow, fun x hx => ⟨own_ok (h.kids x hx).1, (h.kids x hx).2.1, (h.kids x hx).2.2⟩, k1, k2, k3⟩
def OwnP (X : NoT) (w : World) (e : Ending) (w' : World) : Prop := Below w.heap.size w w' ∧ ∃ Y : NoT, e = .returned Y.agg ∧ OwnN X.cut Y w.heap.size w'
end Go.Proofs.Ytnfohlabmidliaa
