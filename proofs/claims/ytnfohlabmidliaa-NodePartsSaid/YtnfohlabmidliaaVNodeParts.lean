import Derived.Test.YtnfohlabmidliaaGal
import Derived.Test.YtnfohlabmidliaaGam
import Derived.Test.YtnfohlabmidliaaVNodAa
/-
  The law NodeParts: the reduction of a leaf is that of its parts, joined.
-/
namespace Go.Proofs.Ytnfohlabmidliaa
open Go.RowKit
set_option linter.unusedVariables false
set_option linter.unusedSimpArgs false

theorem flat_rest {α : Type} (f : α → List Value) (d : Nat) (hf : ∀ x, (f x).length = d) (L : List α) (m : Nat) : (L.flatMap f).drop (m * d) = (L.drop m).flatMap f := by
  have h1 : (L.flatMap f).take (m * d) ++ (L.flatMap f).drop (m * d) = (L.take m).flatMap f ++ (L.drop m).flatMap f := by
    rw [List.take_append_drop, ← List.flatMap_append, List.take_append_drop]
  rw [flat_first f d hf] at h1
  exact List.append_cancel_left h1
set_option maxRecDepth 20000 in
set_option maxHeartbeats 4000000 in
theorem nodeParts_walk (w : World) (X : NoT) (hX : LieN w w.heap.size X) (a2 : Int) (wa2 : (Lit.int .i64 a2).wf = true) :
    Calls Try.prog 9 #[X.agg, .int .i64 a2] w fun e w' => e = .returned (.bool true) ∧ Below w.heap.size w w' := by
  have hb0 := bel_alloc (Below.refl w.heap.size w) (.cells #[.bool X.leaf, .slice X.iA X.iN X.iC, .slice X.kA X.kN X.kC] 25)
  have hL := hX.later hb0
  have hn := NBox.new w (.bool X.leaf) (.slice X.iA X.iN X.iC) (.slice X.kA X.kN X.kC) 25
  have hagX : X.agg = .agg #[.bool X.leaf, .slice X.iA X.iN X.iC, .slice X.kA X.kN X.kC] := rfl
  have HL := Lib.hid hL
  have HN := Lib.hid hn
  have HA := Lib.hid hagX
  have hra := wf_i64 wa2
  rw [hagX]
  clear hX hL hn hagX wa2
  go_enter Try.func9, Try.ntmps9
  go_wp2_with fail
  generalize w.alloc (.cells #[.bool X.leaf, .slice X.iA X.iN X.iC, .slice X.kA X.kN X.kC] 25) = W1 at *
  refine (nwakes_any _).mono ?_
  rintro e W2 ⟨rfl, hb1⟩
  have hb2 := bel_next hb0 hb1
  have hown := nown_any X w.heap.size W2 (HL.out.later (hb1.mono hb0.size)) hb2.size
  obtain ⟨⟨m0, m1, m2⟩, -⟩ := HN.out.later hb1
  rw [HA.out] at hown
  clear hb0 hb1
  go_wp2_with fail
  refine hown.mono ?_
  rintro e W3 ⟨hb3, Y, rfl, hO⟩
  have hb4 := bel_next hb2 hb3
  have hlie := hO.lie
  have hb34 := bel_alloc (Below.refl W3.heap.size W3) (.cells #[.bool Y.leaf, .slice Y.iA Y.iN Y.iC, .slice Y.kA Y.kN Y.kC] 25)
  have hnb := NBox.new W3 (.bool Y.leaf) (.slice Y.iA Y.iN Y.iC) (.slice Y.kA Y.kN Y.kC) 25
  have hb5 := bel_next hb4 hb34
  have hagY : Y.agg = .agg #[.bool Y.leaf, .slice Y.iA Y.iN Y.iC, .slice Y.kA Y.kN Y.kC] := rfl
  have hcr := red14_any Y W3.heap.size _ (hlie.later hb34) hb34.size
  rw [hagY] at hcr ⊢
  have HLY := Lib.hid (hlie.later hb34)
  have HNY := Lib.hid hnb
  have hsz := hb34.size
  obtain ⟨⟨q0, q1, q2⟩, -⟩ := hnb
  clear hown m0 m1 m2 hb2 hb3 hO hb4 hlie hb34 hagY HL HN HA
  go_wp2_with fail
  generalize W3.alloc (.cells #[.bool Y.leaf, .slice Y.iA Y.iN Y.iC, .slice Y.kA Y.kN Y.kC] 25) = W4 at *
  refine hcr.mono ?_
  rintro e W5 ⟨hb6, ⟨hok, rfl⟩ | ⟨hok, rfl⟩⟩
  · have hb7 := bel_alloc (bel_next hb5 hb6) (.cells #[.int .i64 0, .int .i64 0, .int .i64 0, .int .u64 0, .int .i64 0, .int .i64 0] 37)
    clear hcr hok hb5 hb6 q0 q1 q2
    go_wp2
    go_ret
    exact ⟨rfl, hb7⟩
  obtain ⟨R, hR⟩ : ∃ R, Y.all.1 = R := ⟨_, rfl⟩
  rw [hR]
  have HR := Lib.hid hR
  have hb7 := bel_alloc hb6 (.cells #[.int .i64 R.c, .int .i64 R.i, .int .i64 (hiI R.v), .int .u64 (loI R.v), .int .i64 R.l, .int .i64 R.m] 37)
  have hbz := bel_next hb5 hb7
  have hLY := HLY.out.later (hb7.mono hsz)
  have hN7 := HNY.out.later hb7
  have hsix := Six.new W5 (.int .i64 R.c) (.int .i64 R.i) (.int .i64 (hiI R.v)) (.int .u64 (loI R.v)) (.int .i64 R.l) (.int .i64 R.m) 37
  have hs7 := hb7.size
  clear hR
  go_upto_region 5 with fail
  generalize W5.alloc (.cells #[.int .i64 R.c, .int .i64 R.i, .int .i64 (hiI R.v), .int .u64 (loI R.v), .int .i64 R.l, .int .i64 R.m] 37) = W6 at *
  have hN7c := hN7
  obtain ⟨⟨r0, r1, r2⟩, -⟩ := hN7
  have HOK := Lib.hid hok
  clear hcr hok hb5 hb6 q0 q1 q2 hb7
  obtain ⟨lf, hlf⟩ : ∃ lf, Y.leaf = lf := ⟨_, rfl⟩
  have HLF := Lib.hid hlf
  rw [hlf] at r0
  have hHN : NBox W6 W3.heap.size (.bool lf) (.slice Y.iA Y.iN Y.iC) (.slice Y.kA Y.kN Y.kC) := by rw [← hlf]; exact hN7c
  rw [hlf]
  clear hlf HNY hN7c
  cases lf
  · clear hLY hsix hHN
    go_wp2
    go_ret
    exact ⟨rfl, hbz⟩
  by_cases h2 : 2 ≤ Y.iN
  · obtain ⟨p1, p2, p3, p4⟩ := leaf_parts HOK.out HLF.out hLY.ilen (fun x hx => (hLY.items x hx).num)
    have HP3 := Lib.hid p3
    have HP4 := Lib.hid p4
    clear p3 p4
    obtain ⟨y, hy⟩ : ∃ y : Nat, IntKind.u64.wrap a2 = (y : Int) := ⟨(IntKind.u64.wrap a2).toNat, by have := IntKind.wrap_u64 a2; omega⟩
    obtain ⟨m, hm⟩ : ∃ m : Nat, m + 1 = Y.iN := ⟨Y.iN - 1, by omega⟩
    have hm1 : (Y.iN : Int) - 1 = (m : Int) := by omega
    have hm2 : IntKind.u64.wrap (m : Int) = (m : Int) := by rw [IntKind.wrap_u64]; omega
    obtain ⟨r, hr, hrm⟩ : ∃ r : Nat, (y : Int).tmod (m : Int) = (r : Int) ∧ r < m := by
      refine ⟨y % m, ?_, Nat.mod_lt _ (by omega)⟩
      rw [Int.tmod_eq_emod_of_nonneg (by omega)]; omega
    have hr2 : (y : Int) % (m : Int) = (r : Int) := by rw [← hr, Int.tmod_eq_emod_of_nonneg (by omega)]
    have hm0 : (0 : Int) < (m : Int) := by omega
    have i2 : ¬ (Y.iN : Int) < 2 := by omega
    clear hm h2
    go_upto_region 8 with fail
    obtain ⟨k, hk⟩ : ∃ k : Nat, (1 : Int) + (r : Int) = (k : Int) := ⟨1 + r, by omega⟩
    rw [hk]
    have hk1 : 1 ≤ k := by omega
    have hkn : k < Y.iN := by omega
    have hfi := hLY.ifit
    have hmo := hLY.imost
    obtain ⟨b, off, hAe, hbB, _⟩ := hLY.irow.2 (by omega)
    have hl1 : LieN W6 W3.heap.size (leafT (some ⟨b, off, none⟩) k k (Y.I.take k)) := by
      have h1 := Shows.first hLY.irow (k := k) (by omega)
      rw [flat_first ItT.cells 4 (fun _ => rfl), hAe] at h1
      exact ⟨h1, fun x hx => hLY.items x (List.mem_of_mem_take hx), nofun, Nat.le_refl _, by show k ≤ maxLen; omega, Shows.zero _, fun x hx => (by cases hx), fun _ => rfl, Nat.le_refl _, by show 0 ≤ maxLen; omega⟩
    have hl2 : LieN W6 W3.heap.size (leafT (some ⟨b, off + k * 4, none⟩) (Y.iN - k) (Y.iC - k) (Y.I.drop k)) := by
      have h1 := Shows.cut hLY.irow (k := k) (cap := Y.iC) (by omega) hfi
      rw [if_neg (by omega), hAe, Option.map_some, addr_add, flat_rest ItT.cells 4 (fun _ => rfl)] at h1
      exact ⟨h1, fun x hx => hLY.items x (List.mem_of_mem_drop hx), nofun, by show Y.iN - k ≤ Y.iC - k; omega, by show Y.iC - k ≤ maxLen; omega, Shows.zero _, fun x hx => (by cases hx), fun _ => rfl, Nat.le_refl _, by show 0 ≤ maxLen; omega⟩
    rw [hAe] at r1 hHN
    have hlen := hLY.ilen
    have ok1 := leaf_ok (A := some ⟨b, off, none⟩) (n := k) (c := k) (L := Y.I.take k) hk1 (by omega) (by rw [List.length_take]; omega) (by rw [List.map_take]; exact runOk_front _ (Y.I.map EnT.it |>.drop k) none (by rw [List.take_append_drop]; exact HP4.out))
    have ok2 := leaf_ok (A := some ⟨b, off + k * 4, none⟩) (n := Y.iN - k) (c := Y.iC - k) (L := Y.I.drop k) (by omega) (by omega) (by rw [List.length_drop]; omega) (by rw [List.map_drop]; exact runOk_back (Y.I.map EnT.it |>.take k) _ none (by rw [List.take_append_drop]; exact HP4.out))
    have hv1 := itR_ok (L := Y.I.take k) (fun x hx => (hLY.items x (List.mem_of_mem_take hx)).num) (by rw [List.length_take]; omega)
    have hv2 := itR_ok (L := Y.I.drop k) (fun x hx => (hLY.items x (List.mem_of_mem_drop hx)).num) (by rw [List.length_drop]; omega)
    have hjn : (itR (Y.I.take k)).join (itR (Y.I.drop k)) = R := by
      rw [← itR_append, List.take_append_drop, ← HR.out, HP3.out]
    have hRc : R.c = (Y.iN : Nat) := by rw [← HR.out, HP3.out, ← hlen]; exact itR_c Y.I
    have hc1 : (itR (Y.I.take k)).c = (k : Nat) := by rw [itR_c, List.length_take]; omega
    have hc2 : (itR (Y.I.drop k)).c = ((Y.iN - k : Nat) : Int) := by rw [itR_c, List.length_drop]; omega
    have hsz6 : W3.heap.size ≤ W6.heap.size := Nat.le_trans hsz hs7
    have hcr1 : Calls Try.prog 18 #[.agg #[.bool true, .slice (some ⟨b, off, none⟩) k k, .slice none 0 0]] W6 (RedP (leafT (some ⟨b, off, none⟩) k k (Y.I.take k)) W6) := red14_any _ W3.heap.size W6 hl1 hsz6
    have hcr2 : ∀ W, Below W6.heap.size W6 W → Calls Try.prog 18 #[.agg #[.bool true, .slice (some ⟨b, off + k * 4, none⟩) (Y.iN - k) (Y.iC - k), .slice none 0 0]] W (RedP (leafT (some ⟨b, off + k * 4, none⟩) (Y.iN - k) (Y.iC - k) (Y.I.drop k)) W) := fun W h => red14_any _ W3.heap.size W (hl2.later (h.mono hsz6)) (Nat.le_trans hsz6 h.size)
    have HCR2 := Lib.hid hcr2
    obtain ⟨R1, hR1⟩ : ∃ R1, itR (Y.I.take k) = R1 := ⟨_, rfl⟩
    obtain ⟨R2, hR2⟩ : ∃ R2, itR (Y.I.drop k) = R2 := ⟨_, rfl⟩
    rw [hR1] at ok1 hv1 hjn hc1
    rw [hR2] at ok2 hv2 hjn hc2
    have OK1 := Lib.hid ok1
    have OK2 := Lib.hid ok2
    have HN6 := Lib.hid hHN
    have HJ : ∀ (g : Nat) (W : World), Reds W W.heap.size (some ⟨g, 0, none⟩) 2 [R1, R2] → Calls Try.prog 31 #[.slice (some ⟨g, 0, none⟩) 2 2] W fun e w' => e = .returned (.tuple #[.agg #[.int .i64 R.c, .int .i64 R.i, .int .i64 (hiI R.v), .int .u64 (loI R.v), .int .i64 R.l, .int .i64 R.m], .int .i64 0]) ∧ Below W.heap.size W w' := fun g W h => by
      have h1 := join_two R1 R2 g W hv1.1 hv2.1 hv1.2 hv2.2 (by rw [hc1, hc2]; omega) h
      rw [hjn] at h1
      exact h1
    have HJ := Lib.hid HJ
    have HRC := Lib.hid hRc
    have hi1 : (k : Int) ≤ (Y.iN : Int) := by omega
    have hi2 : (Y.iN : Int) ≤ (Y.iC : Int) := by omega
    have hi3 : (k : Int) ≤ (Y.iC : Int) := by omega
    have hi4 : ¬ Y.iC = k := by omega
    have hi0 : (0 : Int) ≤ (k : Int) := by omega
    have HR7 := Lib.hid (hcr2)
    clear hl1 hl2 hcr2 ok1 ok2 hv1 hv2 hjn hRc hc1 hc2 hR1 hR2 hLY hlen hk hk1 hkn hm1 hm2 hm0 hr hr2 hrm hy hAe hbB hfi hmo HP3 HP4 HR p1 p2 i2 hra
    go_wp2_with fail
    refine hcr1.mono ?_
    rintro e W7 ⟨hb8, ⟨hno, _⟩ | ⟨_, rfl⟩⟩
    · exact absurd hno (by rw [OK1.out.1]; exact Bool.noConfusion)
    rw [OK1.out.2]
    dsimp only
    have hb9 := bel_alloc hb8 (.cells #[.int .i64 R1.c, .int .i64 R1.i, .int .i64 (hiI R1.v), .int .u64 (loI R1.v), .int .i64 R1.l, .int .i64 R1.m] 37)
    have hx1 := Six.new W7 (.int .i64 R1.c) (.int .i64 R1.i) (.int .i64 (hiI R1.v)) (.int .u64 (loI R1.v)) (.int .i64 R1.l) (.int .i64 R1.m) 37
    have hN8 := hHN.later hb9
    have hsx8 := hsix.below hb9 rfl
    have hbz8 := bel_next hbz hb9
    have hs8 := hb9.size
    clear hcr1 hb8 hHN hsix hbz r0 r1 r2
    go_upto_region 9 with fail
    generalize W7.alloc (.cells #[.int .i64 R1.c, .int .i64 R1.i, .int .i64 (hiI R1.v), .int .u64 (loI R1.v), .int .i64 R1.l, .int .i64 R1.m] 37) = W8 at *
    have hcr2 := HCR2.out W8 hb9
    have hN8c := hN8
    obtain ⟨⟨r0, r1, r2⟩, -⟩ := hN8
    go_wp2_with fail
    refine hcr2.mono ?_
    rintro e W9 ⟨hb10, ⟨hno, _⟩ | ⟨_, rfl⟩⟩
    · exact absurd hno (by rw [OK2.out.1]; exact Bool.noConfusion)
    rw [OK2.out.2]
    dsimp only
    have hb11 := bel_alloc hb10 (.cells #[.int .i64 R2.c, .int .i64 R2.i, .int .i64 (hiI R2.v), .int .u64 (loI R2.v), .int .i64 R2.l, .int .i64 R2.m] 37)
    have hx2 := Six.new W9 (.int .i64 R2.c) (.int .i64 R2.i) (.int .i64 (hiI R2.v)) (.int .u64 (loI R2.v)) (.int .i64 R2.l) (.int .i64 R2.m) 37
    have hN10 := hN8c.later hb11
    have hsx10 := hsx8.below hb11 rfl
    have hx110 := hx1.below hb11 rfl
    have hbz10 := bel_next hbz8 hb11
    clear hcr2 hb10 hb9 hsx8 hx1 hbz8 r0 r1 r2 HCR2
    go_upto_region 10 with fail
    generalize W9.alloc (.cells #[.int .i64 R2.c, .int .i64 R2.i, .int .i64 (hiI R2.v), .int .u64 (loI R2.v), .int .i64 R2.l, .int .i64 R2.m] 37) = W10 at *
    obtain ⟨⟨c0, c1, c2, c3, c4, c5⟩, -⟩ := hx110
    obtain ⟨⟨d0, d1, d2, d3, d4, d5⟩, -⟩ := hx2
    have hrd := reds_at W10 W10.heap.size R1 R2 37 rfl
    have hj := HJ.out _ _ hrd
    have hb12 := bel_alloc (Below.refl W10.heap.size W10) (.cells #[.int .i64 R1.c, .int .i64 R1.i, .int .i64 (hiI R1.v), .int .u64 (loI R1.v), .int .i64 R1.l, .int .i64 R1.m, .int .i64 R2.c, .int .i64 R2.i, .int .i64 (hiI R2.v), .int .u64 (loI R2.v), .int .i64 R2.l, .int .i64 R2.m] 37)
    clear hrd
    go_wp2_with fail
    refine hj.mono ?_
    rintro e W11 ⟨rfl, hb13⟩
    have hb14 := bel_alloc (bel_next hb12 hb13) (.cells #[.int .i64 R.c, .int .i64 R.i, .int .i64 (hiI R.v), .int .u64 (loI R.v), .int .i64 R.l, .int .i64 R.m] 37)
    have hx3 := Six.new W11 (.int .i64 R.c) (.int .i64 R.i) (.int .i64 (hiI R.v)) (.int .u64 (loI R.v)) (.int .i64 R.l) (.int .i64 R.m) 37
    obtain ⟨⟨r0, r1, r2⟩, -⟩ := hN10.later hb14
    obtain ⟨⟨s0, s1, s2, s3, s4, s5⟩, -⟩ := hsx10.below hb14 rfl
    obtain ⟨⟨e0, e1, e2, e3, e4, e5⟩, -⟩ := hx3
    have hbz14 := bel_next hbz10 hb14
    clear hj hb12 hb13 hb14 c0 c1 c2 c3 c4 c5 d0 d1 d2 d3 d4 d5 hN10 hsx10 hbz10
    go_upto_region 11 with fail
    generalize W11.alloc (.cells #[.int .i64 R.c, .int .i64 R.i, .int .i64 (hiI R.v), .int .u64 (loI R.v), .int .i64 R.l, .int .i64 R.m] 37) = W12 at *
    have hRe : (R.c == (Y.iN : Int)) = true := by rw [HRC.out]; simp
    go_wp2
    go_ret
    exact ⟨rfl, hbz14⟩
  · have h3 : (Y.iN : Int) < 2 := by omega
    clear hLY hsix hHN h2
    go_wp2
    go_ret
    exact ⟨rfl, hbz⟩
end Go.Proofs.Ytnfohlabmidliaa
