import Derived.Test.YtnfohlabmidliaaGal
import Derived.Test.YtnfohlabmidliaaGam
import Derived.Test.YtnfohlabmidliaaVNodAc
/-
  The law NodeFinds: each key of a node is found at its index; every other key belongs between its neighbours.
-/
namespace Go.Proofs.Ytnfohlabmidliaa
open Go.RowKit
set_option linter.unusedVariables false
set_option linter.unusedSimpArgs false

set_option maxRecDepth 20000 in
theorem nslice_info : ∃ i, Try.prog.info? 32 = some i ∧ i.zero = some (.slice none 0 0) ∧ i.size = 1 ∧ i.bytes = 24 := ⟨Try.t32, by kernel_rfl, by kernel_rfl, by kernel_rfl, by kernel_rfl⟩
theorem keys_all {X : NoT} {w : World} {B : Nat} (hX : LieN w B X) (h : X.okB = true) : (X.I.map fun x => x.k.val) ++ (X.K.map fun x => x.k.val) = X.ents.map fun e => e.key.val := by
  have hs := (okB_parts h).1
  unfold NoT.shape at hs
  unfold NoT.ents
  cases hl : X.leaf
  · rw [hl, if_neg Bool.false_ne_true] at hs
    have h0 := (of_decide_eq_true hs).1
    have hI : X.I = [] := List.eq_nil_of_length_eq_zero (by rw [hX.ilen]; exact h0)
    rw [if_neg Bool.false_ne_true, hI, List.map_map]
    rfl
  · rw [hl, if_pos rfl] at hs
    have h0 := (of_decide_eq_true hs).1
    have hK : X.K = [] := List.eq_nil_of_length_eq_zero (by rw [hX.klen]; exact h0)
    rw [if_pos rfl, hK, List.map_map, List.map_nil, List.append_nil]
    rfl
theorem keys_len {X : NoT} {w : World} {B : Nat} (hX : LieN w B X) (h : X.okB = true) : X.iN + X.kN = X.ents.length := by
  have h1 := congrArg List.length (keys_all hX h)
  rw [List.length_append, List.length_map, List.length_map, List.length_map, hX.ilen, hX.klen] at h1
  exact h1
theorem fd_below {X : NoT} (hr : runOk none X.ents = true) {j : Nat} {x : EnT} (hx : X.ents[j]? = some x) {q : List UInt8} (hj : j < lessN X.ents q) : (0 < cmpL x.key.l q) = False := by
  have h1 := (less_iff _ _ q hr j x hx).1 hj
  rw [cmpL_turn q x.key.l]
  exact eq_false (by omega)
theorem fd_above {X : NoT} (hr : runOk none X.ents = true) {j : Nat} {x : EnT} (hx : X.ents[j]? = some x) {q : List UInt8} (hj : lessN X.ents q ≤ j) (hne : X.isAt q = false) : 0 < cmpL x.key.l q := by
  rw [cmpL_turn q x.key.l]
  rcases Nat.lt_or_eq_of_le hj with h | h
  · have := less_above hr hx h
    omega
  · have h1 : ¬ 0 < cmpL q x.key.l := fun h0 => by
      have := (less_iff _ _ q hr j x hx).2 h0
      omega
    rcases cmpL_ends q x.key.l with h2 | h2 | h2
    · omega
    · have h3 := ((hit_iff hr hx).1 (cmpL_zero _ _ h2).symm).2
      rw [hne] at h3
      cases h3
    · omega
set_option maxRecDepth 20000 in
set_option maxHeartbeats 4000000 in
theorem nodeFinds_walk (w : World) (X : NoT) (hX : LieN w w.heap.size X) (A1 : Option Addr) (len1 cap1 : Nat) (l1 : List UInt8) (h1 : Bytes w w.heap.size A1 len1 l1) (hA1 : A1 = none → cap1 = 0) (hn1 : len1 ≤ cap1) (hc1 : cap1 ≤ maxLen) :
    Calls Try.prog 10 #[X.agg, .slice A1 len1 cap1] w fun e w' => e = .returned (.bool true) ∧ Below w.heap.size w w' := by
  have hq : PcT.Ok w w.heap.size ⟨A1, len1, cap1, l1⟩ := ⟨h1, hA1, hn1, hc1⟩
  have hb0 := bel_alloc (Below.refl w.heap.size w) (.cells #[.bool X.leaf, .slice X.iA X.iN X.iC, .slice X.kA X.kN X.kC] 25)
  have hL := hX.later hb0
  have hn := NBox.new w (.bool X.leaf) (.slice X.iA X.iN X.iC) (.slice X.kA X.kN X.kC) 25
  have hagX : X.agg = .agg #[.bool X.leaf, .slice X.iA X.iN X.iC, .slice X.kA X.kN X.kC] := rfl
  have HQ := Lib.hid hq
  have HL := Lib.hid hL
  have HN := Lib.hid hn
  have HA := Lib.hid hagX
  rw [hagX]
  clear hX hL hn hagX h1 hA1 hn1 hc1 hq
  go_enter Try.func10, Try.ntmps10
  go_wp2_with fail
  generalize w.alloc (.cells #[.bool X.leaf, .slice X.iA X.iN X.iC, .slice X.kA X.kN X.kC] 25) = W1 at *
  refine (nwakes_any _).mono ?_
  rintro e W2 ⟨rfl, hb1⟩
  have hb2 := bel_next hb0 hb1
  have hown := nown_any X w.heap.size W2 (HL.out.later (hb1.mono hb0.size)) hb2.size
  obtain ⟨⟨m0, m1, m2⟩, -⟩ := HN.out.later hb1
  rw [HA.out] at hown
  clear hb0 hb1
  go_wp2_with fail
  refine hown.mono ?_
  rintro e W3 ⟨hb3, Y, rfl, hO⟩
  have hb4 := bel_next hb2 hb3
  have hlie := hO.lie
  have hb34 := bel_alloc (Below.refl W3.heap.size W3) (.cells #[.bool Y.leaf, .slice Y.iA Y.iN Y.iC, .slice Y.kA Y.kN Y.kC] 25)
  have hnb := NBox.new W3 (.bool Y.leaf) (.slice Y.iA Y.iN Y.iC) (.slice Y.kA Y.kN Y.kC) 25
  have hb5 := bel_next hb4 hb34
  have hagY : Y.agg = .agg #[.bool Y.leaf, .slice Y.iA Y.iN Y.iC, .slice Y.kA Y.kN Y.kC] := rfl
  have HLY := Lib.hid ((hlie.later hb34).more hb34.size)
  have HQ4 := Lib.hid ((HQ.out.later hb5).more hb5.size)
  have hgN : W3.heap.size < (W3.alloc (.cells #[.bool Y.leaf, .slice Y.iA Y.iN Y.iC, .slice Y.kA Y.kN Y.kC] 25)).heap.size := by rw [World.size_alloc]; omega
  have HNY := Lib.hid hnb
  have HAY := Lib.hid hagY
  obtain ⟨⟨q0, q1, q2⟩, -⟩ := hnb
  rw [hagY]
  clear hown m0 m1 m2 hb2 hb3 hO hb4 hlie hb34 hagY HL HN HA HQ
  go_upto_region 4 with fail
  generalize W3.alloc (.cells #[.bool Y.leaf, .slice Y.iA Y.iN Y.iC, .slice Y.kA Y.kN Y.kC] 25) = W4 at *
  have hcp := place14_any Y ⟨A1, len1, cap1, l1⟩ W4.heap.size W4 HLY.out HQ4.out (Nat.le_refl _)
  simp only at hcp
  rw [HAY.out] at hcp
  go_wp2_with fail
  refine hcp.mono ?_
  rintro e W5 ⟨hb6, hh⟩
  have hck := check14_any Y W4.heap.size W5 (HLY.out.later hb6) hb6.size
  rw [HAY.out] at hck
  obtain ⟨⟨q0, q1, q2⟩, -⟩ := HNY.out.later hb6
  clear hcp
  rcases hh with ⟨hok, rfl⟩ | ⟨hok, rfl⟩
  · rw [chk_no hok] at hck
    go_wp2_with fail
    refine hck.mono ?_
    rintro e W6 ⟨rfl, hb7⟩
    have hbz := bel_next hb5 (bel_next hb6 hb7)
    clear hck hb5 hb6 hb7 q0 q1 q2 hok
    go_wp2
    go_ret
    exact ⟨rfl, hbz⟩
  rw [chk_yes hok] at hck
  obtain ⟨a, ha⟩ : ∃ a, Y.plAt l1 = a := ⟨_, rfl⟩
  obtain ⟨is, his⟩ : ∃ is, Y.isAt l1 = is := ⟨_, rfl⟩
  obtain ⟨lf, hlf⟩ : ∃ lf, Y.leaf = lf := ⟨_, rfl⟩
  rw [ha, his]
  have HAT := Lib.hid ha
  have HIS := Lib.hid his
  have HLF := Lib.hid hlf
  have HOK := Lib.hid hok
  clear ha his hok hlf
  go_wp2_with fail
  refine hck.mono ?_
  rintro e W6 ⟨rfl, hb7⟩
  have hb46 := bel_next hb6 hb7
  have hbz6 := bel_next hb5 hb46
  have hs46 := hb46.size
  have HL6 := Lib.hid (HLY.out.later hb46)
  have HQ6 := Lib.hid (HQ4.out.later hb46)
  have hNB := HNY.out.later hb46
  rw [HLF.out] at hNB
  have HNB := Lib.hid hNB
  obtain ⟨i0, hi, hz0, hz1, hz2⟩ := nslice_info
  have hT := keys_len HL6.out HOK.out
  have hT6 := shape_len HL6.out (okB_parts HOK.out).1
  obtain ⟨N1, hN1⟩ : ∃ N, Y.iN = N := ⟨_, rfl⟩
  obtain ⟨N2, hN2⟩ : ∃ N, Y.kN = N := ⟨_, rfl⟩
  obtain ⟨T, hTT⟩ : ∃ T, Y.ents.length = T := ⟨_, rfl⟩
  have HN1 := Lib.hid hN1
  have HN2 := Lib.hid hN2
  have HTT := Lib.hid hTT
  rw [hN1, hN2, hTT] at hT
  rw [hTT] at hT6
  obtain ⟨hT6, hT1⟩ := hT6
  have HT := Lib.hid hT
  have hN16 : N1 ≤ 6 := by omega
  have hN26 : N2 ≤ 6 := by omega
  obtain ⟨⟨q0, q1, q2⟩, -⟩ := hNB
  rw [hN1] at q1
  rw [hN2] at q2
  rw [HLF.out, hN1, hN2]
  clear hck hb5 hb6 hb7 hb46 HQ4 HLY HNY hN1 hN2 hTT hT HAY
  go_wp2_with fail
  go_loopw [8, 41] (fun v y wr => ∃ (k : Nat) (A : Option Addr) (c : Nat), k ≤ N1 ∧ y = .int .i64 k ∧ v = .slice A k c ∧ Hid (wr.ownsRow W6.heap.size 32 1 (.slice A k c) k ((Y.I.take k).map fun x => x.k.val)) ∧ Below W6.heap.size W6 wr) (fun _ y _ => N1 - (intOf y).toNat)
  case atStart => exact ⟨0, none, 0, Nat.zero_le _, rfl, rfl, Lib.hid (World.ownsRow_nil _ _ _ _), Below.refl _ _⟩
  case round =>
    clear q0 q1 q2
    obtain ⟨k, A, c, hk, rfl, rfl, HO, hbr⟩ := hrel
    rename World => wr
    by_cases hlt : k < N1
    · skip
      obtain ⟨b, off, x, hxA, hbB, hx, x0, x1, x2, x3⟩ := it_at (HL6.out.later (hbr.mono hs46)).irow (show k < Y.iN by rw [HN1.out]; exact hlt)
      have HX := Lib.hid (takeN hx)
      have hlt' : (k : Int) < (N1 : Int) := by omega
      have hxo := ((HL6.out.later (hbr.mono hs46)).items x (List.mem_of_getElem? hx)).key
      obtain ⟨⟨m0, m1, m2⟩, -⟩ := HNB.out.later hbr
      rw [HN1.out] at m1
      rw [HN2.out] at m2
      have hfr := m1
      rw [hxA] at hfr
      clear hx
      go_upto_region 11 with fail
      have hba := bel_alloc hbr (.cells #[.slice x.k.A x.k.n x.k.c, .slice x.v.A x.v.n x.v.c, .bool x.b, .int .i64 x.n] 58)
      have HOa := Lib.hid (HO.out.alloc (.cells #[.slice x.k.A x.k.n x.k.c, .slice x.v.A x.v.n x.v.c, .bool x.b, .int .i64 x.n] 58))
      have xk0 : (wr.alloc (.cells #[.slice x.k.A x.k.n x.k.c, .slice x.v.A x.v.n x.v.c, .bool x.b, .int .i64 x.n] 58)).cell? ⟨wr.heap.size, 0, none⟩ = some (.slice x.k.A x.k.n x.k.c) := World.cell?_alloc_new _ _ _ 0
      clear x0 x1 x2 x3 hbr HO m0 m1 m2 hfr hxA
      obtain ⟨gx, hgx⟩ : ∃ gx, wr.heap.size = gx := ⟨_, rfl⟩
      have hgx' := hgx
      rw [hgx] at xk0 ⊢
      clear hgx
      generalize wr.alloc (.cells #[.slice x.k.A x.k.n x.k.c, .slice x.v.A x.v.n x.v.c, .bool x.b, .int .i64 x.n] 58) = wa at *
      have hs2 := hba.size
      have hn6 := own_later HOa.out (bel_alloc (Below.refl _ _) (.cells #[.slice x.k.A x.k.n x.k.c] 32))
      have hb3 := bel_alloc hba (.cells #[.slice x.k.A x.k.n x.k.c] 32)
      have hs6 := ents_new wa (.slice x.k.A x.k.n x.k.c) 32
      have hz6 : W6.heap.size ≤ (wa.alloc (.cells #[.slice x.k.A x.k.n x.k.c] 32)).heap.size := hb3.size
      have h63 : k + 1 ≤ maxLen := by unfold maxLen; omega
      have hbt : (k + 1) * 24 ≤ 140737488355328 := by omega
      clear hba HOa hs2 hxo
      go_wp2_with (at_builtin; refine wpList_append_shows _ rfl _ _ 56 rfl W6.heap.size 32 i0 (.slice none 0 0) 1 24 Try.underlying56 hi hz0 hz1 hz2 rfl (by decide) _ _ _ rfl hn6 _ _ 1 _ _ rfl hs6 (by intro x hx; rw [List.mem_singleton.1 hx]; rfl) h63 hbt hz6 ?_; intro A7 c7 w7 hown7 hgrow7 hb7; have HO7 := Lib.hid hown7; have HB7 := Lib.hid (hb3.trans hb7); clear hown7 hgrow7 hb7 hn6 hs6 h63 hbt hz6 hb3)
      go_roundw
      case rel => exact ⟨k + 1, A7, c7, by omega, by go_num, rfl, Lib.hid (by rw [HX.out, List.map_append, List.map_singleton]; exact HO7.out), HB7.out⟩
      case measure => simp [intOf]; omega
    · obtain rfl : N1 = k := by omega
      have htk : Y.I.take N1 = Y.I := List.take_of_length_le (by rw [HL6.out.ilen, HN1.out]; exact Nat.le_refl _)
      have HO2 := Lib.hid (by have h := HO.out; rw [htk] at h; exact h)
      obtain ⟨⟨q0, q1, q2⟩, -⟩ := HNB.out.later hbr
      rw [HN2.out] at q2
      clear htk HO hlt hk
      go_wp2_with fail
      go_loopw [8, 54] (fun v y wr => ∃ (k q : Nat) (A : Option Addr) (c : Nat), k ≤ N2 ∧ y = .int .i64 k ∧ v = .slice A q c ∧ Hid (q = N1 + k) ∧ Hid (wr.ownsRow W6.heap.size 32 1 (.slice A q c) q ((Y.I.map fun x => x.k.val) ++ ((Y.K.take k).map fun x => x.k.val))) ∧ Below W6.heap.size W6 wr) (fun _ y _ => N2 - (intOf y).toNat)
      case atStart => exact ⟨0, N1, A, c, Nat.zero_le _, rfl, rfl, Lib.hid rfl, Lib.hid (by rw [List.take_zero, List.map_nil, List.append_nil]; exact HO2.out), hbr⟩
      case round =>
        clear q0 q1 q2 HO2 hbr
        obtain ⟨k, q, A, c, hk, rfl, rfl, HQK, HO, hbr⟩ := hrel
        rename World => wr
        have hq12 : q ≤ 12 := by have := HQK.out; omega
        by_cases hlt : k < N2
        · skip
          obtain ⟨b, off, x, hxA, hbB, hx, x0, x1, x2, x3, x4, x5, x6, x7⟩ := ki_at (HL6.out.later (hbr.mono hs46)).krow (show k < Y.kN by rw [HN2.out]; exact hlt)
          have HX := Lib.hid (takeN hx)
          have hlt' : (k : Int) < (N2 : Int) := by omega
          have hxo := ((HL6.out.later (hbr.mono hs46)).kids x (List.mem_of_getElem? hx)).key
          obtain ⟨⟨m0, m1, m2⟩, -⟩ := HNB.out.later hbr
          rw [HN1.out] at m1
          rw [HN2.out] at m2
          have hfr := m2
          rw [hxA] at hfr
          clear hx
          go_upto_region 16 with fail
          have hba := bel_alloc hbr (.cells #[.slice x.k.A x.k.n x.k.c, .int .i64 x.a, .int .i64 x.r.c, .int .i64 x.r.i, .int .i64 (hiI x.r.v), .int .u64 (loI x.r.v), .int .i64 x.r.l, .int .i64 x.r.m] 60)
          have HOa := Lib.hid (HO.out.alloc (.cells #[.slice x.k.A x.k.n x.k.c, .int .i64 x.a, .int .i64 x.r.c, .int .i64 x.r.i, .int .i64 (hiI x.r.v), .int .u64 (loI x.r.v), .int .i64 x.r.l, .int .i64 x.r.m] 60))
          have xk0 : (wr.alloc (.cells #[.slice x.k.A x.k.n x.k.c, .int .i64 x.a, .int .i64 x.r.c, .int .i64 x.r.i, .int .i64 (hiI x.r.v), .int .u64 (loI x.r.v), .int .i64 x.r.l, .int .i64 x.r.m] 60)).cell? ⟨wr.heap.size, 0, none⟩ = some (.slice x.k.A x.k.n x.k.c) := World.cell?_alloc_new _ _ _ 0
          clear x0 x1 x2 x3 x4 x5 x6 x7 hbr HO m0 m1 m2 hfr hxA
          obtain ⟨gx, hgx⟩ : ∃ gx, wr.heap.size = gx := ⟨_, rfl⟩
          have hgx' := hgx
          rw [hgx] at xk0 ⊢
          clear hgx
          generalize wr.alloc (.cells #[.slice x.k.A x.k.n x.k.c, .int .i64 x.a, .int .i64 x.r.c, .int .i64 x.r.i, .int .i64 (hiI x.r.v), .int .u64 (loI x.r.v), .int .i64 x.r.l, .int .i64 x.r.m] 60) = wa at *
          have hs2 := hba.size
          have hn6 := own_later HOa.out (bel_alloc (Below.refl _ _) (.cells #[.slice x.k.A x.k.n x.k.c] 32))
          have hb3 := bel_alloc hba (.cells #[.slice x.k.A x.k.n x.k.c] 32)
          have hs6 := ents_new wa (.slice x.k.A x.k.n x.k.c) 32
          have hz6 : W6.heap.size ≤ (wa.alloc (.cells #[.slice x.k.A x.k.n x.k.c] 32)).heap.size := hb3.size
          have h63 : q + 1 ≤ maxLen := by unfold maxLen; omega
          have hbt : (q + 1) * 24 ≤ 140737488355328 := by omega
          clear hba HOa hs2 hxo
          go_wp2_with (at_builtin; refine wpList_append_shows _ rfl _ _ 56 rfl W6.heap.size 32 i0 (.slice none 0 0) 1 24 Try.underlying56 hi hz0 hz1 hz2 rfl (by decide) _ _ _ rfl hn6 _ _ 1 _ _ rfl hs6 (by intro x hx; rw [List.mem_singleton.1 hx]; rfl) h63 hbt hz6 ?_; intro A7 c7 w7 hown7 hgrow7 hb7; have HO7 := Lib.hid hown7; have HB7 := Lib.hid (hb3.trans hb7); clear hown7 hgrow7 hb7 hn6 hs6 h63 hbt hz6 hb3)
          go_roundw
          case rel => exact ⟨k + 1, q + 1, A7, c7, by omega, by go_num, rfl, Lib.hid (by have := HQK.out; omega), Lib.hid (by rw [HX.out, List.map_append, List.map_singleton, ← List.append_assoc]; exact HO7.out), HB7.out⟩
          case measure => simp [intOf]; omega
        · obtain rfl : N2 = k := by omega
          have hqT : q = T := by have := HQK.out; have := HT.out; omega
          have hrow : Shows wr wr.heap.size 1 A T (Y.ents.map fun e => e.key.val) := by
            have h := Shows.own HO.out
            rw [List.take_of_length_le (by rw [HL6.out.klen, HN2.out]; exact Nat.le_refl _), keys_all HL6.out HOK.out, hqT] at h
            exact h
          have hfc : T ≤ c := by have h := (nown_facts HO.out).2.1; omega
          obtain ⟨b, off, rfl, hbB, hcl⟩ := hrow.2 (by omega)
          have hbz7 := bel_next hbz6 hbr
          have HL7 := Lib.hid ((HL6.out.later (hbr.mono hs46)).more (Nat.le_trans hs46 hbr.size))
          have HQ7 := Lib.hid ((HQ6.out.later (hbr.mono hs46)).more (Nat.le_trans hs46 hbr.size))
          have HB7 := Lib.hid (HNB.out.later hbr)
          have HCL := Lib.hid hcl
          have HRU := Lib.hid (okB_parts HOK.out).2.1
          rw [hqT]
          clear hqT HQK HO hlt hk hq12 hrow hfc hcl hbr HL6 HQ6 HNB hbz6 i0 hi hz0 hz1 hz2
          go_wp2_with fail
          have hag : Y.agg = .agg #[.bool lf, .slice Y.iA N1 Y.iC, .slice Y.kA N2 Y.kC] := by rw [← HLF.out, ← HN1.out, ← HN2.out]; rfl
          have HAG := Lib.hid hag
          clear hag
          go_loopw [66] (fun y wx => ∃ i : Nat, i ≤ T ∧ y = .int .i64 i ∧ Below wr.heap.size wr wx) (fun y _ => T - (intOf y).toNat)
          case atStart => exact ⟨0, Nat.zero_le _, rfl, Below.refl _ _⟩
          case round =>
            obtain ⟨i, hi, rfl, hbx⟩ := hrel
            rename World => wx
            by_cases hlt : i < T
            · obtain ⟨x, hx⟩ : ∃ x, Y.ents[i]? = some x := ⟨_, List.getElem?_eq_getElem (by rw [HTT.out]; exact hlt)⟩
              have xk := mkept_later hbx (HCL.out i x.key.val (by rw [List.getElem?_map, hx]; rfl))
              have hxo := ((ents_ok HL7.out x (List.mem_of_getElem? hx)).later hbx).key
              obtain ⟨f1, f2⟩ := key_found HRU.out hx
              have hcp := place14_any Y x.key wr.heap.size wx (HL7.out.later hbx) hxo hbx.size
              unfold PlaP at hcp
              rw [f1, f2, HAG.out] at hcp
              obtain ⟨⟨q0, q1, q2⟩, -⟩ := HB7.out.later hbx
              rw [HN1.out] at q1
              rw [HN2.out] at q2
              have hlt' : (i : Int) < (T : Int) := by omega
              unfold PcT.val at xk
              clear hx hxo f1 f2
              go_wp2_with fail
              refine hcp.mono ?_
              rintro e w9 ⟨hb9, ⟨hno, _⟩ | ⟨_, rfl⟩⟩
              · exact absurd hno (by rw [HOK.out]; exact Bool.noConfusion)
              have hb10 := bel_next hbx hb9
              clear hcp hb9 xk q0 q1 q2 hbx
              go_wp2_with fail
              go_roundw
              case rel => exact ⟨i + 1, by omega, by go_num, hb10⟩
              case measure => simp [intOf]; omega
            · obtain rfl : T = i := by omega
              have hbz8 := bel_next hbz7 hbx
              obtain ⟨⟨q0, q1, q2⟩, -⟩ := HB7.out.later hbx
              rw [HN1.out] at q1
              rw [HN2.out] at q2
              have hLx := HL7.out.later hbx
              have hqx := HQ7.out.later hbx
              have HCX := Lib.hid (fun (j : Nat) (x : EnT) (hx : Y.ents[j]? = some x) => And.intro (mkept_later hbx (HCL.out j x.key.val (by rw [List.getElem?_map, hx]; rfl))) ((ents_ok hLx x (List.mem_of_getElem? hx)).key))
              have HQX := Lib.hid hqx
              have hle := less_le Y.ents l1
              rw [HTT.out] at hle
              clear hlt hi hbx hLx hqx HL7 HQ7 HB7 HCL HAG hN16 hN26 hgN hs46
              cases his : is
              · skip
                cases lf
                · have haL : a = lessN Y.ents l1 - 1 := by
                    rw [← HAT.out, plAt_inner HLF.out]
                    unfold NoT.upTo
                    rw [HIS.out, his, if_neg Bool.false_ne_true]
                  have hTa : ¬ T < a := by omega
                  have hne : ((a : Int) == (T : Int)) = false := by simp; omega
                  have hne2 : (a == T) = false := by simp; omega
                  have haT' : (a : Int) < (T : Int) := by omega
                  have ha0 : (0 : Int) ≤ (a : Int) := by omega
                  rcases Nat.eq_zero_or_pos (lessN Y.ents l1) with h0 | h0
                  · obtain rfl : a = 0 := by omega
                    obtain ⟨y0, hy0⟩ : ∃ y, Y.ents[0]? = some y := ⟨_, List.getElem?_eq_getElem (by rw [HTT.out]; omega)⟩
                    obtain ⟨cy0, ky0⟩ := HCX.out 0 y0 hy0
                    unfold PcT.val at cy0
                    have hcm0 := bcompare_any y0.key.A A1 y0.key.n y0.key.c len1 cap1 y0.key.l l1 _ _ wx ky0.here HQX.out.here
                    have sg0 : 0 < cmpL y0.key.l l1 := fd_above HRU.out hy0 (by omega) (HIS.out.trans his)
                    generalize cmpL y0.key.l l1 = z0 at *
                    rw [Nat.add_zero] at cy0
                    subst his
                    clear haL h0 hle hTa hne hne2 haT' ha0
                    have hT0 : (0 : Int) < (T : Int) := by omega
                    have hT1' : ¬ T = 0 := by omega
                    have hT2 : ((0 : Int) == (T : Int)) = false := by simp; omega
                    have hT3 : ((T : Int) == 0) = false := by simp; omega
                    go_wp2_with fail
                    refine hcm0.mono ?_
                    rintro e w10 ⟨rfl, rfl⟩
                    clear hcm0
                    go_wp2
                    go_ret
                    exact ⟨rfl, hbz8⟩
                  · obtain ⟨p, hp⟩ : ∃ p, p = a + 1 := ⟨_, rfl⟩
                    have hp1 : (a : Int) + 1 = (p : Int) := by omega
                    obtain ⟨y0, hy0⟩ : ∃ y, Y.ents[a]? = some y := ⟨_, List.getElem?_eq_getElem (by rw [HTT.out]; omega)⟩
                    obtain ⟨cy0, ky0⟩ := HCX.out a y0 hy0
                    unfold PcT.val at cy0
                    have hcm0 := bcompare_any y0.key.A A1 y0.key.n y0.key.c len1 cap1 y0.key.l l1 _ _ wx ky0.here HQX.out.here
                    have sg0 : (0 < cmpL y0.key.l l1) = False := fd_below HRU.out hy0 (by omega)
                    generalize cmpL y0.key.l l1 = z0 at *
                    by_cases hTp : T ≤ p
                    · have hTp' : (T : Int) ≤ (p : Int) := by omega
                      subst his
                      clear haL h0 hle hp
                      go_wp2_with fail
                      refine hcm0.mono ?_
                      rintro e w10 ⟨rfl, rfl⟩
                      clear hcm0
                      go_wp2
                      go_ret
                      exact ⟨rfl, hbz8⟩
                    · have hpT : (p : Int) < (T : Int) := by omega
                      have hp0 : (0 : Int) ≤ (p : Int) := by omega
                      obtain ⟨y1, hy1⟩ : ∃ y, Y.ents[p]? = some y := ⟨_, List.getElem?_eq_getElem (by rw [HTT.out]; omega)⟩
                      obtain ⟨cy1, ky1⟩ := HCX.out p y1 hy1
                      unfold PcT.val at cy1
                      have hcm1 := bcompare_any y1.key.A A1 y1.key.n y1.key.c len1 cap1 y1.key.l l1 _ _ wx ky1.here HQX.out.here
                      have sg1 : 0 < cmpL y1.key.l l1 := fd_above HRU.out hy1 (by omega) (HIS.out.trans his)
                      generalize cmpL y1.key.l l1 = z1 at *
                      subst his
                      clear haL h0 hle hp
                      go_wp2_with fail
                      refine hcm0.mono ?_
                      rintro e w10 ⟨rfl, rfl⟩
                      clear hcm0
                      go_wp2_with fail
                      refine hcm1.mono ?_
                      rintro e w11 ⟨rfl, rfl⟩
                      clear hcm1
                      go_wp2
                      go_ret
                      exact ⟨rfl, hbz8⟩
                · have haL : a = lessN Y.ents l1 := by rw [← HAT.out, plAt_leaf HLF.out]
                  have hTa : ¬ T < a := by omega
                  have ha0 : (0 : Int) ≤ (a : Int) := by omega
                  by_cases hTp : T ≤ a
                  · subst his
                    rcases Nat.eq_zero_or_pos a with h0 | h0
                    · omega
                    · obtain ⟨j, hj⟩ : ∃ j, a = j + 1 := ⟨a - 1, by omega⟩
                      have hm1 : (a : Int) - 1 = (j : Int) := by omega
                      have hjT : (j : Int) < (T : Int) := by omega
                      obtain ⟨y0, hy0⟩ : ∃ y, Y.ents[j]? = some y := ⟨_, List.getElem?_eq_getElem (by rw [HTT.out]; omega)⟩
                      obtain ⟨cy0, ky0⟩ := HCX.out j y0 hy0
                      unfold PcT.val at cy0
                      have hcm0 := bcompare_any y0.key.A A1 y0.key.n y0.key.c len1 cap1 y0.key.l l1 _ _ wx ky0.here HQX.out.here
                      have sg0 : (0 < cmpL y0.key.l l1) = False := fd_below HRU.out hy0 (by omega)
                      generalize cmpL y0.key.l l1 = z0 at *
                      clear haL hle hj h0
                      go_wp2_with fail
                      refine hcm0.mono ?_
                      rintro e w10 ⟨rfl, rfl⟩
                      clear hcm0
                      go_wp2
                      go_ret
                      exact ⟨rfl, hbz8⟩
                  · have haT' : (a : Int) < (T : Int) := by omega
                    obtain ⟨y1, hy1⟩ : ∃ y, Y.ents[a]? = some y := ⟨_, List.getElem?_eq_getElem (by rw [HTT.out]; omega)⟩
                    obtain ⟨cy1, ky1⟩ := HCX.out a y1 hy1
                    unfold PcT.val at cy1
                    have hcm1 := bcompare_any y1.key.A A1 y1.key.n y1.key.c len1 cap1 y1.key.l l1 _ _ wx ky1.here HQX.out.here
                    have sg1 : 0 < cmpL y1.key.l l1 := fd_above HRU.out hy1 (by omega) (HIS.out.trans his)
                    generalize cmpL y1.key.l l1 = z1 at *
                    subst his
                    rcases Nat.eq_zero_or_pos a with h0 | h0
                    · have hm1 : (a : Int) - 1 = -1 := by omega
                      clear haL hle h0
                      go_wp2_with fail
                      refine hcm1.mono ?_
                      rintro e w11 ⟨rfl, rfl⟩
                      clear hcm1
                      go_wp2
                      go_ret
                      exact ⟨rfl, hbz8⟩
                    · obtain ⟨j, hj⟩ : ∃ j, a = j + 1 := ⟨a - 1, by omega⟩
                      have hm1 : (a : Int) - 1 = (j : Int) := by omega
                      have hjT : (j : Int) < (T : Int) := by omega
                      obtain ⟨y0, hy0⟩ : ∃ y, Y.ents[j]? = some y := ⟨_, List.getElem?_eq_getElem (by rw [HTT.out]; omega)⟩
                      obtain ⟨cy0, ky0⟩ := HCX.out j y0 hy0
                      unfold PcT.val at cy0
                      have hcm0 := bcompare_any y0.key.A A1 y0.key.n y0.key.c len1 cap1 y0.key.l l1 _ _ wx ky0.here HQX.out.here
                      have sg0 : (0 < cmpL y0.key.l l1) = False := fd_below HRU.out hy0 (by omega)
                      generalize cmpL y0.key.l l1 = z0 at *
                      clear haL hle hj h0
                      go_wp2_with fail
                      refine hcm0.mono ?_
                      rintro e w10 ⟨rfl, rfl⟩
                      clear hcm0
                      go_wp2_with fail
                      refine hcm1.mono ?_
                      rintro e w11 ⟨rfl, rfl⟩
                      clear hcm1
                      go_wp2
                      go_ret
                      exact ⟨rfl, hbz8⟩
              · skip
                obtain ⟨x, hx, hxk⟩ := is_lt (HIS.out.trans his)
                have haT : lessN Y.ents l1 < T := by rw [← HTT.out]; exact (List.getElem?_eq_some_iff.1 hx).1
                have haL : a = lessN Y.ents l1 := by
                  rw [← HAT.out]
                  unfold NoT.plAt
                  rw [HIS.out, his, if_pos rfl]
                  split <;> rfl
                obtain ⟨cx, kx⟩ := HCX.out _ x hx
                unfold PcT.val at cx
                rw [← haL] at cx
                have hce := bequal_any x.key.A A1 x.key.n x.key.c len1 cap1 x.key.l l1 _ _ wx kx.here HQX.out.here true (sameB_iff.2 hxk)
                have hTa : ¬ T < a := by omega
                have haT' : (a : Int) < (T : Int) := by omega
                have ha0 : (0 : Int) ≤ (a : Int) := by omega
                have hne : ((a : Int) == (T : Int)) = false := by simp; omega
                have hne2 : (a == T) = false := by simp; omega
                subst his
                cases lf
                · have hcm0 := bcompare_any x.key.A A1 x.key.n x.key.c len1 cap1 x.key.l l1 _ _ wx kx.here HQX.out.here
                  rw [hxk, cmpL_self] at hcm0
                  have hp1 : (a : Int) + 1 = ((a + 1 : Nat) : Int) := by omega
                  clear hp1
                  clear haL haT hx hxk kx hle
                  go_wp2_with fail
                  refine hce.mono ?_
                  rintro e w11 ⟨rfl, rfl⟩
                  clear hce
                  go_wp2_with fail
                  refine hcm0.mono ?_
                  rintro e w10 ⟨rfl, rfl⟩
                  clear hcm0
                  go_wp2
                  go_ret
                  exact ⟨rfl, hbz8⟩
                · skip
                  rcases Nat.eq_zero_or_pos a with h0 | h0
                  · have hm1 : (a : Int) - 1 = -1 := by omega
                    clear haL haT hx hxk kx hle h0
                    go_wp2_with fail
                    refine hce.mono ?_
                    rintro e w11 ⟨rfl, rfl⟩
                    clear hce
                    go_wp2
                    go_ret
                    exact ⟨rfl, hbz8⟩
                  · obtain ⟨j, hj⟩ : ∃ j, a = j + 1 := ⟨a - 1, by omega⟩
                    have hm1 : (a : Int) - 1 = (j : Int) := by omega
                    have hjT : (j : Int) < (T : Int) := by omega
                    obtain ⟨y0, hy0⟩ : ∃ y, Y.ents[j]? = some y := ⟨_, List.getElem?_eq_getElem (by rw [HTT.out]; omega)⟩
                    obtain ⟨cy0, ky0⟩ := HCX.out j y0 hy0
                    unfold PcT.val at cy0
                    have hcm0 := bcompare_any y0.key.A A1 y0.key.n y0.key.c len1 cap1 y0.key.l l1 _ _ wx ky0.here HQX.out.here
                    have sg0 : (0 < cmpL y0.key.l l1) = False := fd_below HRU.out hy0 (by omega)
                    generalize cmpL y0.key.l l1 = z0 at *
                    clear haL haT hx hxk kx hle hj h0
                    go_wp2_with fail
                    refine hce.mono ?_
                    rintro e w11 ⟨rfl, rfl⟩
                    clear hce
                    go_wp2_with fail
                    refine hcm0.mono ?_
                    rintro e w10 ⟨rfl, rfl⟩
                    clear hcm0
                    go_wp2
                    go_ret
                    exact ⟨rfl, hbz8⟩
end Go.Proofs.Ytnfohlabmidliaa
