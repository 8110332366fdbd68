import Derived.Test.YtkbcgcokokddlaaGaj
import Derived.Lib.SlBytesConst
import Derived.Lib.SmallJoins
/-
  Layer 15: the law's wakes.
-/
namespace Go.Proofs.Ytkbcgcokokddlaa
open Go.RowKit
set_option linter.unusedVariables false
set_option linter.unusedSimpArgs false

def wA : List EdS := [⟨[97], true, [1], false, 0⟩, ⟨[99], true, [1], false, 0⟩]
def wB : List EdS := [⟨[98], true, [2], false, 0⟩, ⟨[99], false, [], false, 0⟩]
def wC : List EdS := [⟨[97], true, [3], false, 0⟩]
def wD : List EdS := [⟨[98], true, [1], false, 0⟩, ⟨[97], true, [2], false, 0⟩, ⟨[98], false, [], false, 0⟩]
def wE : List EdS := [⟨[97], true, [1], false, 0⟩, ⟨[97], true, [1], false, 0⟩]
def wF : List EdS := [⟨[97], true, [3], false, 0⟩, ⟨[98], true, [2], false, 0⟩, ⟨[99], false, [], false, 0⟩]
def wG : List EdS := [⟨[97], true, [2], false, 0⟩, ⟨[98], false, [], false, 0⟩]
def wI : List ItS := [⟨[97], [1], false, 0⟩, ⟨[99], [], false, 0⟩]
def wJ : List ItS := [⟨[97], [1], false, 0⟩, ⟨[98], [2], false, 0⟩]
theorem wk_right : ∀ s ∈ [wA, wB, wC], RightS s := by
  intro s hs
  simp only [List.mem_cons, List.not_mem_nil, or_false] at hs
  rcases hs with rfl | rfl | rfl <;> simp [RightS, wA, wB, wC, mayS, Inc, LtE, cmpL]
theorem wk_merge : sortE [wA, wB, wC].flatten = wF := by simp [sortE, wA, wB, wC, wF, withE, cmpL]
theorem wk_sort : sortE wD = wG := by simp [sortE, wD, wG, withE, cmpL]
theorem wk_may : ∀ x ∈ wD, mayS x = true := by simp [wD, mayS]
theorem wk_wrong : ¬ RightS wE := by simp [RightS, wE, mayS, Inc, LtE, cmpL]
theorem wk_inc : IncI wI := by simp [IncI, wI, LtI, cmpL]
theorem wk_done : doneR wI wB = wJ := by simp [doneR, wI, wB, wJ, stepI, restI, goI, filtI, itemE, cmpL]
theorem wk_rightB : RightS wB := wk_right wB (by simp)

/-- A new row of edits. -/
theorem eds_new {w : World} {E : List EdT} {C : Array Value} {n : Nat} (hn : E.length = n) (hm : n ≤ 100) (hC : C.toList = E.flatMap EdT.cells) (h : ∀ x ∈ E, x.Ok w w.heap.size) : (⟨some ⟨w.heap.size, 0, none⟩, n, n, E⟩ : EsT).Lie (w.alloc (.cells C 49)) (w.alloc (.cells C 49)).heap.size := by
  have hb := bel_alloc (Below.refl w.heap.size w) (.cells C 49)
  refine ⟨⟨?_, fun _ => ⟨w.heap.size, 0, rfl, by rw [World.size_alloc]; omega, fun j u hu => ?_⟩⟩, fun x hx => ((h x hx).later hb).more hb.size, nofun, Nat.le_refl _, ?_⟩
  · rw [flatN_len EdT.cells 5 (fun _ => rfl), hn]
  · rw [Nat.zero_add, cell_of_row _ _ j _ _ _ (heap_alloc_new w _), ← Array.getElem?_toList, hC]
    exact hu
  · show n ≤ maxLen
    unfold maxLen
    omega
theorem its_new {w : World} {E : List ItT} {C : Array Value} {n : Nat} (hn : E.length = n) (hm : n ≤ 100) (hC : C.toList = E.flatMap ItT.cells) (h : ∀ x ∈ E, x.Ok w w.heap.size) : (⟨some ⟨w.heap.size, 0, none⟩, n, n, E⟩ : IsT).Lie (w.alloc (.cells C 54)) (w.alloc (.cells C 54)).heap.size := by
  have hb := bel_alloc (Below.refl w.heap.size w) (.cells C 54)
  refine ⟨⟨?_, fun _ => ⟨w.heap.size, 0, rfl, by rw [World.size_alloc]; omega, fun j u hu => ?_⟩⟩, fun x hx => ((h x hx).later hb).more hb.size, nofun, Nat.le_refl _, ?_⟩
  · rw [flatN_len ItT.cells 4 (fun _ => rfl), hn]
  · rw [Nat.zero_add, cell_of_row _ _ j _ _ _ (heap_alloc_new w _), ← Array.getElem?_toList, hC]
    exact hu
  · show n ≤ maxLen
    unfold maxLen
    omega
theorem EsT.Lie.next {w w' : World} {X : EsT} (h : X.Lie w w.heap.size) (hb : Below w.heap.size w w') : X.Lie w' w'.heap.size := (h.later hb).more hb.size
theorem IsT.Lie.next {w w' : World} {X : IsT} (h : X.Lie w w.heap.size) (hb : Below w.heap.size w w') : X.Lie w' w'.heap.size := (h.later hb).more hb.size
theorem EdT.Ok.next {w w' : World} {x : EdT} (h : x.Ok w w.heap.size) (hb : Below w.heap.size w w') : x.Ok w' w'.heap.size := (h.later hb).more hb.size
theorem ItT.Ok.next {w w' : World} {x : ItT} (h : x.Ok w w.heap.size) (hb : Below w.heap.size w w') : x.Ok w' w'.heap.size := (h.later hb).more hb.size
/-- A new row of one byte. -/
theorem pc_new (w : World) (a : UInt8) (fr : Nat × Nat) : (⟨some ⟨w.heap.size, 0, none⟩, 1, 1, [a]⟩ : PcT).Ok (w.alloc (.cells #[.int .u8 a.toNat] 5 fr)) (w.alloc (.cells #[.int .u8 a.toNat] 5 fr)).heap.size := by
  have h := bytes_new w [a] #[.int .u8 a.toNat] 5 fr rfl
  exact ⟨h.more (by rw [World.size_alloc]; omega), nofun, Nat.le_refl _, by show 1 ≤ maxLen; unfold maxLen; omega⟩
theorem PcT.Ok.next {w w' : World} {x : PcT} (h : x.Ok w w.heap.size) (hb : Below w.heap.size w w') : x.Ok w' w'.heap.size := (h.later hb).more hb.size
theorem pc_none (w : World) (B : Nat) : (⟨none, 0, 0, []⟩ : PcT).Ok w B := ⟨Bytes.zero _, fun _ => rfl, Nat.le_refl _, by show 0 ≤ maxLen; unfold maxLen; omega⟩
set_option maxRecDepth 20000 in
set_option maxHeartbeats 4000000 in
theorem mwakes_any (w : World) : Calls Try.prog 10 #[] w fun e w' => e = .returned (.bool true) ∧ Below w.heap.size w w' := by
  have kc := fun (w : World) (C : Array Value) (n c : Nat) => Lib.run_convert_bytes_const (P := Try.prog) w 23 5 C n c Try.underlying23 Try.underlying5
  go_enter Try.func10, Try.ntmps10
  go_upto_region 1 with fail
  go_cut [1, 2, 3] (fun a b c wx => ∃ (A1 : Option Addr) (n1 c1 : Nat) (E1 : List EdT) (A2 : Option Addr) (n2 c2 : Nat) (E2 : List EdT) (A3 : Option Addr) (n3 c3 : Nat) (E3 : List EdT), a = .slice A1 n1 c1 ∧ b = .slice A2 n2 c2 ∧ c = .slice A3 n3 c3 ∧ Hid (EsT.s ⟨A1, n1, c1, E1⟩ = wA) ∧ Hid (EsT.s ⟨A2, n2, c2, E2⟩ = wB) ∧ Hid (EsT.s ⟨A3, n3, c3, E3⟩ = wC) ∧ Hid (EsT.Lie wx wx.heap.size ⟨A1, n1, c1, E1⟩) ∧ Hid (EsT.Lie wx wx.heap.size ⟨A2, n2, c2, E2⟩) ∧ Hid (EsT.Lie wx wx.heap.size ⟨A3, n3, c3, E3⟩) ∧ Below w.heap.size w wx)
  case first =>
    go_wp2_with fail
    refine (mput_any 97 1 97 1 rfl rfl _).mono ?_
    rintro e w1 ⟨hb1, x1, rfl, hs1, ho1⟩
    unfold EdT.agg
    go_wp2_with fail
    refine (mput_any 99 1 99 1 rfl rfl _).mono ?_
    rintro e w2 ⟨hb2, x2, rfl, hs2, ho2⟩
    unfold EdT.agg
    have hbA := bel_alloc (Below.refl w2.heap.size w2) (.cells #[.slice x1.k.A x1.k.n x1.k.c, .bool x1.put, .slice x1.v.A x1.v.n x1.v.c, .bool x1.b, .int .i64 x1.n, .slice x2.k.A x2.k.n x2.k.c, .bool x2.put, .slice x2.v.A x2.v.n x2.v.c, .bool x2.b, .int .i64 x2.n] 49)
    have hLA := eds_new (n := 2) (w := w2) (E := [x1, x2]) (C := #[.slice x1.k.A x1.k.n x1.k.c, .bool x1.put, .slice x1.v.A x1.v.n x1.v.c, .bool x1.b, .int .i64 x1.n, .slice x2.k.A x2.k.n x2.k.c, .bool x2.put, .slice x2.v.A x2.v.n x2.v.c, .bool x2.b, .int .i64 x2.n]) rfl (show _ ≤ 100 from Nat.le_of_ble_eq_true rfl) rfl (by
      intro x hx
      simp only [List.mem_cons, List.not_mem_nil, or_false] at hx
      rcases hx with rfl | rfl
      · exact ho1.next hb2
      · exact ho2)
    have hsA : EsT.s ⟨some ⟨w2.heap.size, 0, none⟩, 2, 2, [x1, x2]⟩ = wA := by show [x1.s, x2.s] = _; rw [hs1, hs2]; rfl
    have HsA := Lib.hid hsA
    have HLA := Lib.hid hLA
    clear hs1 hs2 ho1 ho2 hsA hLA
    go_wp2_with fail
    generalize w2.alloc (.cells #[.slice x1.k.A x1.k.n x1.k.c, .bool x1.put, .slice x1.v.A x1.v.n x1.v.c, .bool x1.b, .int .i64 x1.n, .slice x2.k.A x2.k.n x2.k.c, .bool x2.put, .slice x2.v.A x2.v.n x2.v.c, .bool x2.b, .int .i64 x2.n] 49) = w3 at *
    have hb03 := bel_next hb1 (bel_next hb2 hbA)
    refine (mput_any 98 2 98 2 rfl rfl _).mono ?_
    rintro e w4 ⟨hb4, x3, rfl, hs3, ho3⟩
    unfold EdT.agg
    have hbc := bel_alloc (Below.refl w4.heap.size w4) (.cells #[.int .u8 99] 5 (1, 2))
    have hpc := pc_new w4 99 (1, 2)
    rw [show ((99 : UInt8).toNat : Int) = 99 from rfl] at hpc
    have hbB := bel_alloc (Below.refl (w4.alloc (.cells #[.int .u8 99] 5 (1, 2))).heap.size (w4.alloc (.cells #[.int .u8 99] 5 (1, 2)))) (.cells #[.slice x3.k.A x3.k.n x3.k.c, .bool x3.put, .slice x3.v.A x3.v.n x3.v.c, .bool x3.b, .int .i64 x3.n, .slice (some ⟨w4.heap.size, 0, none⟩) 1 1, .bool false, .slice none 0 0, .bool false, .int .i64 0] 49)
    have hLB := eds_new (n := 2) (w := w4.alloc (.cells #[.int .u8 99] 5 (1, 2))) (E := [x3, ⟨⟨some ⟨w4.heap.size, 0, none⟩, 1, 1, [99]⟩, false, ⟨none, 0, 0, []⟩, false, 0⟩]) (C := #[.slice x3.k.A x3.k.n x3.k.c, .bool x3.put, .slice x3.v.A x3.v.n x3.v.c, .bool x3.b, .int .i64 x3.n, .slice (some ⟨w4.heap.size, 0, none⟩) 1 1, .bool false, .slice none 0 0, .bool false, .int .i64 0]) rfl (show _ ≤ 100 from Nat.le_of_ble_eq_true rfl) rfl (by
      intro x hx
      simp only [List.mem_cons, List.not_mem_nil, or_false] at hx
      rcases hx with rfl | rfl
      · exact ho3.next hbc
      · exact ⟨hpc, pc_none _ _, by show (-9223372036854775808 : Int) ≤ 0 ∧ (0 : Int) ≤ 9223372036854775807; decide⟩)
    have hsB : EsT.s ⟨some ⟨(w4.alloc (.cells #[.int .u8 99] 5 (1, 2))).heap.size, 0, none⟩, 2, 2, [x3, ⟨⟨some ⟨w4.heap.size, 0, none⟩, 1, 1, [99]⟩, false, ⟨none, 0, 0, []⟩, false, 0⟩]⟩ = wB := by show [x3.s, _] = _; rw [hs3]; rfl
    rw [show (w4.alloc (.cells #[.int .u8 99] 5 (1, 2))).heap.size = w4.heap.size + 1 from World.size_alloc _ _] at hLB hsB
    have HsB := Lib.hid hsB
    have HLB := Lib.hid hLB
    clear hs3 ho3 hsB hLB hpc
    go_wp2_with fail
    generalize (w4.alloc (.cells #[.int .u8 99] 5 (1, 2))).alloc (.cells #[.slice x3.k.A x3.k.n x3.k.c, .bool x3.put, .slice x3.v.A x3.v.n x3.v.c, .bool x3.b, .int .i64 x3.n, .slice (some ⟨w4.heap.size, 0, none⟩) 1 1, .bool false, .slice none 0 0, .bool false, .int .i64 0] 49) = w5 at *
    have hb35 := bel_next hb4 (bel_next hbc hbB)
    refine (mput_any 97 3 97 3 rfl rfl _).mono ?_
    rintro e w6 ⟨hb6, x4, rfl, hs4, ho4⟩
    unfold EdT.agg
    have hbC := bel_alloc (Below.refl w6.heap.size w6) (.cells #[.slice x4.k.A x4.k.n x4.k.c, .bool x4.put, .slice x4.v.A x4.v.n x4.v.c, .bool x4.b, .int .i64 x4.n] 49)
    have hLC := eds_new (n := 1) (w := w6) (E := [x4]) (C := #[.slice x4.k.A x4.k.n x4.k.c, .bool x4.put, .slice x4.v.A x4.v.n x4.v.c, .bool x4.b, .int .i64 x4.n]) rfl (show _ ≤ 100 from Nat.le_of_ble_eq_true rfl) rfl (by
      intro x hx
      rw [List.mem_singleton.1 hx]
      exact ho4)
    have hsC : EsT.s ⟨some ⟨w6.heap.size, 0, none⟩, 1, 1, [x4]⟩ = wC := by show [x4.s] = _; rw [hs4]; rfl
    have HsC := Lib.hid hsC
    have HLC := Lib.hid hLC
    clear hs4 ho4 hsC hLC
    go_wp2_with fail
    generalize w6.alloc (.cells #[.slice x4.k.A x4.k.n x4.k.c, .bool x4.put, .slice x4.v.A x4.v.n x4.v.c, .bool x4.b, .int .i64 x4.n] 49) = w7 at *
    go_meet
    case rel => exact ⟨_, _, _, _, _, _, _, _, _, _, _, _, rfl, rfl, rfl, HsA, HsB, HsC, Lib.hid (HLA.out.next (bel_next hb35 (bel_next hb6 hbC))), Lib.hid (HLB.out.next (bel_next hb6 hbC)), HLC, bel_next hb03 (bel_next hb35 (bel_next hb6 hbC))⟩
  case rest =>
    obtain ⟨A1, n1, c1, E1, A2, n2, c2, E2, A3, n3, c3, E3, rfl, rfl, rfl, HsA, HsB, HsC, HLA, HLB, HLC, hb0⟩ := hcut
    have hbR := bel_alloc (Below.refl wc.heap.size wc) (.cells #[.slice A1 n1 c1, .slice A2 n2 c2, .slice A3 n3 c3] 22)
    have hsh : Shows (wc.alloc (.cells #[.slice A1 n1 c1, .slice A2 n2 c2, .slice A3 n3 c3] 22)) (wc.alloc (.cells #[.slice A1 n1 c1, .slice A2 n2 c2, .slice A3 n3 c3] 22)).heap.size 1 (some ⟨wc.heap.size, 0, none⟩) 3 ([(⟨A1, n1, c1, E1⟩ : EsT), ⟨A2, n2, c2, E2⟩, ⟨A3, n3, c3, E3⟩].map EsT.val) :=
      ⟨rfl, fun _ => ⟨wc.heap.size, 0, rfl, by rw [World.size_alloc]; omega, fun j u hu => by rw [Nat.zero_add, cell_of_row _ _ j _ _ _ (heap_alloc_new wc _), ← Array.getElem?_toList]; exact hu⟩⟩
    have hmg := mmerge_any (some ⟨wc.heap.size, 0, none⟩) 3 3 _ [⟨A1, n1, c1, E1⟩, ⟨A2, n2, c2, E2⟩, ⟨A3, n3, c3, E3⟩] _ hsh (by
      intro X hX
      simp only [List.mem_cons, List.not_mem_nil, or_false] at hX
      rcases hX with rfl | rfl | rfl
      · exact HLA.out.next hbR
      · exact HLB.out.next hbR
      · exact HLC.out.next hbR) (Nat.le_refl _) (by decide)
    have hls : [(⟨A1, n1, c1, E1⟩ : EsT), ⟨A2, n2, c2, E2⟩, ⟨A3, n3, c3, E3⟩].map EsT.s = [wA, wB, wC] := by
      show [_, _, _] = _
      rw [HsA.out, HsB.out, HsC.out]
    rw [hls] at hmg
    have HLB1 := Lib.hid (HLB.out.next hbR)
    have hb1 := bel_next hb0 hbR
    clear hsh hls HLA HLC HsA HsC hb0 hbR
    go_upto_region 2 with fail
    go_cut [4, 5] (fun p q wx => ∃ (A4 : Option Addr) (n4 c4 : Nat) (E4 : List EdT), p = .slice A4 n4 c4 ∧ q = .int .i64 0 ∧ Hid (EsT.s ⟨A4, n4, c4, E4⟩ = wF) ∧ Hid (EsT.Lie wx wx.heap.size ⟨A4, n4, c4, E4⟩) ∧ Hid (EsT.Lie wx wx.heap.size ⟨A2, n2, c2, E2⟩) ∧ Below w.heap.size w wx)
    case first =>
      go_wp2_with fail
      generalize wc.alloc (.cells #[.slice A1 n1 c1, .slice A2 n2 c2, .slice A3 n3 c3] 22) = w1 at *
      refine hmg.mono ?_
      rintro e w2 ⟨hb2, ⟨hno, -⟩ | ⟨-, hno, -⟩ | ⟨-, -, ⟨A4, n4, c4, E4⟩, rfl, hs4, hl4⟩⟩
      · exact absurd wk_right hno
      · rw [wk_merge] at hno
        exact absurd hno (by decide)
      · have HS4 := Lib.hid (hs4.trans wk_merge)
        have HL4 := Lib.hid hl4
        have HLB2 := Lib.hid (HLB1.out.next hb2)
        have hb3 := bel_next hb1 hb2
        clear hmg hs4 hl4 hb1 hb2
        go_wp2_with fail
        go_meet
        case rel => exact ⟨_, _, _, _, rfl, rfl, HS4, HL4, HLB2, hb3⟩
    case rest =>
      obtain ⟨A4, n4, c4, E4, rfl, rfl, HS4, HL4, HLB2, hb0⟩ := hcut
      clear hmg HLB1 HLB hb1
      go_upto_region 3 with fail
      go_cut [6, 7] (fun p q wx => ∃ (A6 : Option Addr) (n6 c6 : Nat) (E6 : List EdT), p = .slice A6 n6 c6 ∧ q = .int .i64 0 ∧ Hid (EsT.s ⟨A6, n6, c6, E6⟩ = wG) ∧ Hid (EsT.Lie wx wx.heap.size ⟨A6, n6, c6, E6⟩) ∧ Hid (EsT.Lie wx wx.heap.size ⟨A4, n4, c4, E4⟩) ∧ Hid (EsT.Lie wx wx.heap.size ⟨A2, n2, c2, E2⟩) ∧ Below w.heap.size w wx)
      case first =>
        obtain ⟨w0, hw0⟩ : ∃ w0, w0 = wc := ⟨_, rfl⟩
        rw [← hw0] at hb0 HL4 HLB2 ⊢
        clear hw0
        go_wp2_with fail
        refine (mput_any 98 1 98 1 rfl rfl _).mono ?_
        rintro e w1 ⟨hb1, x1, rfl, hs1, ho1⟩
        unfold EdT.agg
        go_wp2_with fail
        refine (mput_any 97 2 97 2 rfl rfl _).mono ?_
        rintro e w2 ⟨hb2, x2, rfl, hs2, ho2⟩
        unfold EdT.agg
        have hbc := bel_alloc (Below.refl w2.heap.size w2) (.cells #[.int .u8 98] 5 (1, 2))
        have hpc := pc_new w2 98 (1, 2)
        rw [show ((98 : UInt8).toNat : Int) = 98 from rfl] at hpc
        have hbB := bel_alloc (Below.refl (w2.alloc (.cells #[.int .u8 98] 5 (1, 2))).heap.size (w2.alloc (.cells #[.int .u8 98] 5 (1, 2)))) (.cells #[.slice x1.k.A x1.k.n x1.k.c, .bool x1.put, .slice x1.v.A x1.v.n x1.v.c, .bool x1.b, .int .i64 x1.n, .slice x2.k.A x2.k.n x2.k.c, .bool x2.put, .slice x2.v.A x2.v.n x2.v.c, .bool x2.b, .int .i64 x2.n, .slice (some ⟨w2.heap.size, 0, none⟩) 1 1, .bool false, .slice none 0 0, .bool false, .int .i64 0] 49)
        have hLD := eds_new (n := 3) (w := w2.alloc (.cells #[.int .u8 98] 5 (1, 2))) (E := [x1, x2, ⟨⟨some ⟨w2.heap.size, 0, none⟩, 1, 1, [98]⟩, false, ⟨none, 0, 0, []⟩, false, 0⟩]) (C := #[.slice x1.k.A x1.k.n x1.k.c, .bool x1.put, .slice x1.v.A x1.v.n x1.v.c, .bool x1.b, .int .i64 x1.n, .slice x2.k.A x2.k.n x2.k.c, .bool x2.put, .slice x2.v.A x2.v.n x2.v.c, .bool x2.b, .int .i64 x2.n, .slice (some ⟨w2.heap.size, 0, none⟩) 1 1, .bool false, .slice none 0 0, .bool false, .int .i64 0]) rfl (show _ ≤ 100 from Nat.le_of_ble_eq_true rfl) rfl (by
          intro x hx
          simp only [List.mem_cons, List.not_mem_nil, or_false] at hx
          rcases hx with rfl | rfl | rfl
          · exact (ho1.next hb2).next hbc
          · exact ho2.next hbc
          · exact ⟨hpc, pc_none _ _, by show (-9223372036854775808 : Int) ≤ 0 ∧ (0 : Int) ≤ 9223372036854775807; decide⟩)
        have hsD : EsT.s ⟨some ⟨(w2.alloc (.cells #[.int .u8 98] 5 (1, 2))).heap.size, 0, none⟩, 3, 3, [x1, x2, ⟨⟨some ⟨w2.heap.size, 0, none⟩, 1, 1, [98]⟩, false, ⟨none, 0, 0, []⟩, false, 0⟩]⟩ = wD := by show [x1.s, x2.s, _] = _; rw [hs1, hs2]; rfl
        rw [show (w2.alloc (.cells #[.int .u8 98] 5 (1, 2))).heap.size = w2.heap.size + 1 from World.size_alloc _ _] at hLD hsD
        have hb5 := bel_next hb1 (bel_next hb2 (bel_next hbc hbB))
        clear hs1 hs2 ho1 ho2 hpc hb1 hb2 hbc hbB
        have hst := msort_any _ _ _ hLD (Nat.le_refl _) (by show 3 ≤ 1048576; decide)
        rw [hsD] at hst
        simp only at hst
        clear hLD hsD
        go_wp2_with fail
        generalize (w2.alloc (.cells #[.int .u8 98] 5 (1, 2))).alloc (.cells #[.slice x1.k.A x1.k.n x1.k.c, .bool x1.put, .slice x1.v.A x1.v.n x1.v.c, .bool x1.b, .int .i64 x1.n, .slice x2.k.A x2.k.n x2.k.c, .bool x2.put, .slice x2.v.A x2.v.n x2.v.c, .bool x2.b, .int .i64 x2.n, .slice (some ⟨w2.heap.size, 0, none⟩) 1 1, .bool false, .slice none 0 0, .bool false, .int .i64 0] 49) = w3 at *
        refine hst.mono ?_
        rintro e w4 ⟨hb4, ⟨hno, -⟩ | ⟨-, hno, -⟩ | ⟨-, -, ⟨A6, n6, c6, E6⟩, rfl, hs6, hl6⟩⟩
        · exact absurd wk_may hno
        · rw [wk_sort] at hno
          exact absurd hno (by decide)
        · have HS6 := Lib.hid (hs6.trans wk_sort)
          have HL6 := Lib.hid hl6
          have hb6 := bel_next hb5 hb4
          have HL4b := Lib.hid (HL4.out.next hb6)
          have HLB3 := Lib.hid (HLB2.out.next hb6)
          have hb7 := bel_next hb0 hb6
          clear hst hs6 hl6 hb4 hb5 hb6 hb0
          go_wp2_with fail
          go_meet
          case rel => exact ⟨_, _, _, _, rfl, rfl, HS6, HL6, HL4b, HLB3, hb7⟩
      case rest =>
        obtain ⟨A6, n6, c6, E6, rfl, rfl, HS6, HL6, HL4b, HLB3, hb1⟩ := hcut
        clear HL4 HLB2 hb0
        go_upto_region 4 with fail
        go_cut [8, 9] (fun p q wx => ∃ (A8 : Option Addr) (n8 c8 : Nat) (E8 : List ItT), p = .slice A8 n8 c8 ∧ q = .int .i64 0 ∧ Hid (IsT.s ⟨A8, n8, c8, E8⟩ = wJ) ∧ Hid (IsT.Lie wx wx.heap.size ⟨A8, n8, c8, E8⟩) ∧ Hid (EsT.Lie wx wx.heap.size ⟨A6, n6, c6, E6⟩) ∧ Hid (EsT.Lie wx wx.heap.size ⟨A4, n4, c4, E4⟩) ∧ Below w.heap.size w wx)
        case first =>
          obtain ⟨w0, hw0⟩ : ∃ w0, w0 = wc := ⟨_, rfl⟩
          rw [← hw0] at hb1 HL4b HL6 HLB3 ⊢
          clear hw0
          have kd := Joins.run_convert_bytes_const_at (P := Try.prog) ((w0.alloc (.cells #[.int .u8 97] 5 (1, 2))).alloc (.cells #[.int .u8 1] 5)) 23 5 #[.int .u8 99] 1 1 (w0.heap.size + 1 + 1) (by rw [World.size_alloc, World.size_alloc]) Try.underlying23 Try.underlying5
          have ha1 := pc_new w0 97 (1, 2)
          have hb2 := bel_alloc (Below.refl w0.heap.size w0) (.cells #[.int .u8 97] 5 (1, 2))
          rw [show ((97 : UInt8).toNat : Int) = 97 from rfl] at ha1
          obtain ⟨v1, hv1⟩ : ∃ v1, w0.alloc (.cells #[.int .u8 97] 5 (1, 2)) = v1 := ⟨_, rfl⟩
          have hz1 : v1.heap.size = w0.heap.size + 1 := by rw [← hv1]; exact World.size_alloc _ _
          rw [hv1] at ha1 hb2 kd
          have ha2 := pc_new v1 1 (0, 0)
          have hb3 := bel_alloc (Below.refl v1.heap.size v1) (.cells #[.int .u8 1] 5)
          rw [show ((1 : UInt8).toNat : Int) = 1 from rfl] at ha2
          obtain ⟨v2, hv2⟩ : ∃ v2, v1.alloc (.cells #[.int .u8 1] 5) = v2 := ⟨_, rfl⟩
          have hz2 : v2.heap.size = w0.heap.size + 1 + 1 := by rw [← hv2, ← hz1]; exact World.size_alloc _ _
          rw [hv2] at ha2 hb3 kd
          have ha3 := pc_new v2 99 (1, 2)
          have hb4 := bel_alloc (Below.refl v2.heap.size v2) (.cells #[.int .u8 99] 5 (1, 2))
          rw [show ((99 : UInt8).toNat : Int) = 99 from rfl] at ha3
          obtain ⟨v3, hv3⟩ : ∃ v3, v2.alloc (.cells #[.int .u8 99] 5 (1, 2)) = v3 := ⟨_, rfl⟩
          have hz3 : v3.heap.size = w0.heap.size + 1 + 1 + 1 := by rw [← hv3, ← hz2]; exact World.size_alloc _ _
          rw [hv3] at ha3 hb4
          have hb5 := bel_alloc (Below.refl v3.heap.size v3) (.cells #[.slice (some ⟨w0.heap.size, 0, none⟩) 1 1, .slice (some ⟨w0.heap.size + 1, 0, none⟩) 1 1, .bool false, .int .i64 0, .slice (some ⟨w0.heap.size + 1 + 1, 0, none⟩) 1 1, .slice none 0 0, .bool false, .int .i64 0] 54)
          have hLI := its_new (n := 2) (w := v3) (E := [⟨⟨some ⟨w0.heap.size, 0, none⟩, 1, 1, [97]⟩, ⟨some ⟨v1.heap.size, 0, none⟩, 1, 1, [1]⟩, false, 0⟩, ⟨⟨some ⟨v2.heap.size, 0, none⟩, 1, 1, [99]⟩, ⟨none, 0, 0, []⟩, false, 0⟩]) (C := #[.slice (some ⟨w0.heap.size, 0, none⟩) 1 1, .slice (some ⟨v1.heap.size, 0, none⟩) 1 1, .bool false, .int .i64 0, .slice (some ⟨v2.heap.size, 0, none⟩) 1 1, .slice none 0 0, .bool false, .int .i64 0]) rfl (show _ ≤ 100 from Nat.le_of_ble_eq_true rfl) rfl (by
            intro x hx
            simp only [List.mem_cons, List.not_mem_nil, or_false] at hx
            rcases hx with rfl | rfl
            · exact ⟨ha1.next (bel_next hb3 hb4), ha2.next hb4, by show (-9223372036854775808 : Int) ≤ 0 ∧ (0 : Int) < 9223372036854775808; decide⟩
            · exact ⟨ha3, pc_none _ _, by show (-9223372036854775808 : Int) ≤ 0 ∧ (0 : Int) < 9223372036854775808; decide⟩)
          have hsI : IsT.s ⟨some ⟨v3.heap.size, 0, none⟩, 2, 2, [⟨⟨some ⟨w0.heap.size, 0, none⟩, 1, 1, [97]⟩, ⟨some ⟨v1.heap.size, 0, none⟩, 1, 1, [1]⟩, false, 0⟩, ⟨⟨some ⟨v2.heap.size, 0, none⟩, 1, 1, [99]⟩, ⟨none, 0, 0, []⟩, false, 0⟩]⟩ = wI := rfl
          rw [hz1, hz2, hz3] at hLI hsI
          have hb6 := bel_next hb2 (bel_next hb3 (bel_next hb4 hb5))
          have hdn := mdone_any _ ⟨A2, n2, c2, E2⟩ _ _ hLI (HLB3.out.next hb6) (Nat.le_refl _) (by show 2 ≤ 1048576; decide) (by
            have h1 := HLB3.out.len
            have h2 := congrArg List.length HsB.out
            unfold EsT.s at h2
            rw [List.length_map] at h2
            simp only at h1 h2
            show n2 ≤ 1048576
            rw [← h1, h2]
            decide)
          rw [hsI, HsB.out] at hdn
          simp only at hdn
          clear hLI hsI ha1 ha2 ha3 hb2 hb3 hb4 hb5 hz1 hz2 hz3
          subst hv3 hv2 hv1
          go_wp2_with fail
          generalize (((w0.alloc (.cells #[.int .u8 97] 5 (1, 2))).alloc (.cells #[.int .u8 1] 5)).alloc (.cells #[.int .u8 99] 5 (1, 2))).alloc (.cells #[.slice (some ⟨w0.heap.size, 0, none⟩) 1 1, .slice (some ⟨w0.heap.size + 1, 0, none⟩) 1 1, .bool false, .int .i64 0, .slice (some ⟨w0.heap.size + 1 + 1, 0, none⟩) 1 1, .slice none 0 0, .bool false, .int .i64 0] 54) = w3 at *
          clear kd
          refine hdn.mono ?_
          rintro e w4 ⟨hb4, ⟨hno, -⟩ | ⟨-, ⟨A8, n8, c8, E8⟩, rfl, hs8, hl8⟩⟩
          · exact absurd ⟨wk_rightB, wk_inc⟩ hno
          · have HS8 := Lib.hid (hs8.trans wk_done)
            have HL8 := Lib.hid hl8
            have hb7 := bel_next hb6 hb4
            have HL4c := Lib.hid (HL4b.out.next hb7)
            have HL6c := Lib.hid (HL6.out.next hb7)
            have hb8 := bel_next hb1 hb7
            clear hdn hs8 hl8 hb4 hb6 hb7 hb1
            go_wp2_with fail
            go_meet
            case rel => exact ⟨_, _, _, _, rfl, rfl, HS8, HL8, HL6c, HL4c, hb8⟩
        case rest =>
          obtain ⟨A8, n8, c8, E8, rfl, rfl, HS8, HL8, HL6c, HL4c, hb2⟩ := hcut
          clear HL4b HLB3 HL6 hb1 HsB
          go_upto_region 5 with fail
          go_cut [10] (fun p wx => p = .int .i64 250 ∧ Below wc.heap.size wc wx)
          case first =>
            go_wp2_with fail
            refine (mput_any 97 1 97 1 rfl rfl _).mono ?_
            rintro e w1 ⟨hb1, x1, rfl, hs1, ho1⟩
            unfold EdT.agg
            go_wp2_with fail
            refine (mput_any 97 1 97 1 rfl rfl _).mono ?_
            rintro e w3 ⟨hb3, x2, rfl, hs2, ho2⟩
            unfold EdT.agg
            have hbA := bel_alloc (Below.refl w3.heap.size w3) (.cells #[.slice x1.k.A x1.k.n x1.k.c, .bool x1.put, .slice x1.v.A x1.v.n x1.v.c, .bool x1.b, .int .i64 x1.n, .slice x2.k.A x2.k.n x2.k.c, .bool x2.put, .slice x2.v.A x2.v.n x2.v.c, .bool x2.b, .int .i64 x2.n] 49)
            have hLA := eds_new (n := 2) (w := w3) (E := [x1, x2]) (C := #[.slice x1.k.A x1.k.n x1.k.c, .bool x1.put, .slice x1.v.A x1.v.n x1.v.c, .bool x1.b, .int .i64 x1.n, .slice x2.k.A x2.k.n x2.k.c, .bool x2.put, .slice x2.v.A x2.v.n x2.v.c, .bool x2.b, .int .i64 x2.n]) rfl (show _ ≤ 100 from Nat.le_of_ble_eq_true rfl) rfl (by
              intro x hx
              simp only [List.mem_cons, List.not_mem_nil, or_false] at hx
              rcases hx with rfl | rfl
              · exact ho1.next hb3
              · exact ho2)
            have hsA : EsT.s ⟨some ⟨w3.heap.size, 0, none⟩, 2, 2, [x1, x2]⟩ = wE := by show [x1.s, x2.s] = _; rw [hs1, hs2]; rfl
            have hck := mcheck_any _ _ _ hLA (Nat.le_refl _)
            rw [hsA] at hck
            simp only at hck
            have hb4 := bel_next hb1 (bel_next hb3 hbA)
            clear hs1 hs2 ho1 ho2 hsA hLA hb1 hb3 hbA
            go_wp2_with fail
            generalize w3.alloc (.cells #[.slice x1.k.A x1.k.n x1.k.c, .bool x1.put, .slice x1.v.A x1.v.n x1.v.c, .bool x1.b, .int .i64 x1.n, .slice x2.k.A x2.k.n x2.k.c, .bool x2.put, .slice x2.v.A x2.v.n x2.v.c, .bool x2.b, .int .i64 x2.n] 49) = w5 at *
            refine hck.mono ?_
            rintro e w6 ⟨hb6, ⟨-, hno⟩ | ⟨rfl, -⟩⟩
            · exact absurd hno wk_wrong
            · have hb7 := bel_next hb4 hb6
              clear hck hb4 hb6
              go_wp2_with fail
              go_meet
              case rel => exact ⟨rfl, hb7⟩
          case rest =>
            obtain ⟨rfl, hb3⟩ := hcut
            obtain ⟨w0, hw0⟩ : ∃ w0, w0 = wc := ⟨_, rfl⟩
            rw [← hw0] at hb3 ⊢
            clear hw0
            have hb4 := bel_next hb2 hb3
            have HL8a := Lib.hid (HL8.out.next hb3)
            have HL6a := Lib.hid (HL6c.out.next hb3)
            have HL4a := Lib.hid (HL4c.out.next hb3)
            have hn8 : n8 = 2 := by
              have h1 := HL8.out.len
              have h2 := congrArg List.length HS8.out
              unfold IsT.s at h2
              rw [List.length_map] at h2
              simp only at h1 h2
              rw [← h1, h2]
              rfl
            subst hn8
            clear hb3 hb2 HL8 HL6c HL4c
            go_wp2_with fail
            refine (mput_any 97 3 97 3 rfl rfl _).mono ?_
            rintro e w1 ⟨hb1, x1, rfl, hs1, ho1⟩
            unfold EdT.agg
            go_wp2_with fail
            refine (mput_any 98 2 98 2 rfl rfl _).mono ?_
            rintro e w2 ⟨hb2, x2, rfl, hs2, ho2⟩
            unfold EdT.agg
            have hbc := bel_alloc (Below.refl w2.heap.size w2) (.cells #[.int .u8 99] 5 (1, 2))
            have hpc := pc_new w2 99 (1, 2)
            rw [show ((99 : UInt8).toNat : Int) = 99 from rfl] at hpc
            have hbB := bel_alloc (Below.refl (w2.alloc (.cells #[.int .u8 99] 5 (1, 2))).heap.size (w2.alloc (.cells #[.int .u8 99] 5 (1, 2)))) (.cells #[.slice x1.k.A x1.k.n x1.k.c, .bool x1.put, .slice x1.v.A x1.v.n x1.v.c, .bool x1.b, .int .i64 x1.n, .slice x2.k.A x2.k.n x2.k.c, .bool x2.put, .slice x2.v.A x2.v.n x2.v.c, .bool x2.b, .int .i64 x2.n, .slice (some ⟨w2.heap.size, 0, none⟩) 1 1, .bool false, .slice none 0 0, .bool false, .int .i64 0] 49)
            have hLD := eds_new (n := 3) (w := w2.alloc (.cells #[.int .u8 99] 5 (1, 2))) (E := [x1, x2, ⟨⟨some ⟨w2.heap.size, 0, none⟩, 1, 1, [99]⟩, false, ⟨none, 0, 0, []⟩, false, 0⟩]) (C := #[.slice x1.k.A x1.k.n x1.k.c, .bool x1.put, .slice x1.v.A x1.v.n x1.v.c, .bool x1.b, .int .i64 x1.n, .slice x2.k.A x2.k.n x2.k.c, .bool x2.put, .slice x2.v.A x2.v.n x2.v.c, .bool x2.b, .int .i64 x2.n, .slice (some ⟨w2.heap.size, 0, none⟩) 1 1, .bool false, .slice none 0 0, .bool false, .int .i64 0]) rfl (show _ ≤ 100 from Nat.le_of_ble_eq_true rfl) rfl (by
              intro x hx
              simp only [List.mem_cons, List.not_mem_nil, or_false] at hx
              rcases hx with rfl | rfl | rfl
              · exact (ho1.next hb2).next hbc
              · exact ho2.next hbc
              · exact ⟨hpc, pc_none _ _, by show (-9223372036854775808 : Int) ≤ 0 ∧ (0 : Int) ≤ 9223372036854775807; decide⟩)
            have hsD : EsT.s ⟨some ⟨(w2.alloc (.cells #[.int .u8 99] 5 (1, 2))).heap.size, 0, none⟩, 3, 3, [x1, x2, ⟨⟨some ⟨w2.heap.size, 0, none⟩, 1, 1, [99]⟩, false, ⟨none, 0, 0, []⟩, false, 0⟩]⟩ = wF := by show [x1.s, x2.s, _] = _; rw [hs1, hs2]; rfl
            rw [show (w2.alloc (.cells #[.int .u8 99] 5 (1, 2))).heap.size = w2.heap.size + 1 from World.size_alloc _ _] at hLD hsD
            have hb5 := bel_next hb1 (bel_next hb2 (bel_next hbc hbB))
            have hse := sameE_any ⟨A4, n4, c4, E4⟩ _ _ _ (HL4a.out.next hb5) hLD (Nat.le_refl _)
            have hb6 := bel_next hb4 hb5
            have HL8b := Lib.hid (HL8a.out.next hb5)
            have HL6b := Lib.hid (HL6a.out.next hb5)
            rw [hsD, HS4.out] at hse
            simp only at hse
            clear hs1 hs2 ho1 ho2 hpc hb1 hb2 hbc hbB hLD hsD hb4 hb5 HL8a HL6a HL4a HS4
            go_wp2_with fail
            generalize (w2.alloc (.cells #[.int .u8 99] 5 (1, 2))).alloc (.cells #[.slice x1.k.A x1.k.n x1.k.c, .bool x1.put, .slice x1.v.A x1.v.n x1.v.c, .bool x1.b, .int .i64 x1.n, .slice x2.k.A x2.k.n x2.k.c, .bool x2.put, .slice x2.v.A x2.v.n x2.v.c, .bool x2.b, .int .i64 x2.n, .slice (some ⟨w2.heap.size, 0, none⟩) 1 1, .bool false, .slice none 0 0, .bool false, .int .i64 0] 49) = w3 at *
            refine hse.mono ?_
            rintro e w4 ⟨z1, rfl, hz1, hb7⟩
            obtain rfl : z1 = true := hz1.2 (by first | trivial | rfl)
            have hb8 := bel_next hb6 hb7
            have HL8d := Lib.hid (HL8b.out.next hb7)
            have HL6d := Lib.hid (HL6b.out.next hb7)
            clear hse hz1 hb6 hb7 HL8b HL6b
            go_wp2_with fail
            refine (mput_any 97 2 97 2 rfl rfl _).mono ?_
            rintro e w5 ⟨hb1, x3, rfl, hs1, ho1⟩
            unfold EdT.agg
            have hbc := bel_alloc (Below.refl w5.heap.size w5) (.cells #[.int .u8 98] 5 (1, 2))
            have hpc := pc_new w5 98 (1, 2)
            rw [show ((98 : UInt8).toNat : Int) = 98 from rfl] at hpc
            have hbB := bel_alloc (Below.refl (w5.alloc (.cells #[.int .u8 98] 5 (1, 2))).heap.size (w5.alloc (.cells #[.int .u8 98] 5 (1, 2)))) (.cells #[.slice x3.k.A x3.k.n x3.k.c, .bool x3.put, .slice x3.v.A x3.v.n x3.v.c, .bool x3.b, .int .i64 x3.n, .slice (some ⟨w5.heap.size, 0, none⟩) 1 1, .bool false, .slice none 0 0, .bool false, .int .i64 0] 49)
            have hLD := eds_new (n := 2) (w := w5.alloc (.cells #[.int .u8 98] 5 (1, 2))) (E := [x3, ⟨⟨some ⟨w5.heap.size, 0, none⟩, 1, 1, [98]⟩, false, ⟨none, 0, 0, []⟩, false, 0⟩]) (C := #[.slice x3.k.A x3.k.n x3.k.c, .bool x3.put, .slice x3.v.A x3.v.n x3.v.c, .bool x3.b, .int .i64 x3.n, .slice (some ⟨w5.heap.size, 0, none⟩) 1 1, .bool false, .slice none 0 0, .bool false, .int .i64 0]) rfl (show _ ≤ 100 from Nat.le_of_ble_eq_true rfl) rfl (by
              intro x hx
              simp only [List.mem_cons, List.not_mem_nil, or_false] at hx
              rcases hx with rfl | rfl
              · exact ho1.next hbc
              · exact ⟨hpc, pc_none _ _, by show (-9223372036854775808 : Int) ≤ 0 ∧ (0 : Int) ≤ 9223372036854775807; decide⟩)
            have hsD : EsT.s ⟨some ⟨(w5.alloc (.cells #[.int .u8 98] 5 (1, 2))).heap.size, 0, none⟩, 2, 2, [x3, ⟨⟨some ⟨w5.heap.size, 0, none⟩, 1, 1, [98]⟩, false, ⟨none, 0, 0, []⟩, false, 0⟩]⟩ = wG := by show [x3.s, _] = _; rw [hs1]; rfl
            rw [show (w5.alloc (.cells #[.int .u8 98] 5 (1, 2))).heap.size = w5.heap.size + 1 from World.size_alloc _ _] at hLD hsD
            have hb5 := bel_next hb1 (bel_next hbc hbB)
            have hse := sameE_any ⟨A6, n6, c6, E6⟩ _ _ _ (HL6d.out.next hb5) hLD (Nat.le_refl _)
            have hb6 := bel_next hb8 hb5
            have HL8e := Lib.hid (HL8d.out.next hb5)
            rw [hsD, HS6.out] at hse
            simp only at hse
            clear hs1 ho1 hpc hb1 hbc hbB hLD hsD hb8 hb5 HL8d HL6d HS6
            go_wp2_with fail
            generalize (w5.alloc (.cells #[.int .u8 98] 5 (1, 2))).alloc (.cells #[.slice x3.k.A x3.k.n x3.k.c, .bool x3.put, .slice x3.v.A x3.v.n x3.v.c, .bool x3.b, .int .i64 x3.n, .slice (some ⟨w5.heap.size, 0, none⟩) 1 1, .bool false, .slice none 0 0, .bool false, .int .i64 0] 49) = w6 at *
            refine hse.mono ?_
            rintro e w7 ⟨z2, rfl, hz2, hb7⟩
            obtain rfl : z2 = true := hz2.2 (by first | trivial | rfl)
            have hb8 := bel_next hb6 hb7
            obtain ⟨b, off, y, hA, hbb, hy, y0, y1, y2, y3⟩ := it_at (HL8e.out.next hb7).row (i := 1) (show 1 < 2 by decide)
            have hyo := (HL8e.out.next hb7).all y (List.mem_of_getElem? hy)
            have hyv : y.v.l = [2] := by
              have h := HS8.out
              have h1 : (IsT.s ⟨A8, 2, c8, E8⟩)[1]? = some y.s := by unfold IsT.s; rw [List.getElem?_map, hy]; rfl
              rw [h] at h1
              have h2 := Option.some.inj h1
              exact (congrArg ItS.v h2).symm
            have hvn : y.v.n = 1 := by rw [← hyo.val.len, hyv]; rfl
            obtain ⟨b2, off2, hA2, hbb2, hv0⟩ := hyo.val.here.cell (k := 0) (by omega)
            rw [hyv] at hv0
            rw [Nat.add_zero, show at8 [2] 0 = 2 from rfl] at hv0
            simp only at hA
            subst hA
            rw [hA2, hvn] at y1
            rw [Nat.one_mul] at y0 y1 y2 y3
            have hl1 := bel_alloc (Below.refl w7.heap.size w7) (.cells #[.int .u8 97] 5 (1, 2))
            have hl2 := bel_alloc (Below.refl (w7.alloc (.cells #[.int .u8 97] 5 (1, 2))).heap.size (w7.alloc (.cells #[.int .u8 97] 5 (1, 2)))) (.cells #[.int .u8 97, .int .u8 98] 5 (2, 3))
            have kd := Joins.run_convert_bytes_const_at (P := Try.prog) (w7.alloc (.cells #[.int .u8 97] 5 (1, 2))) 23 5 #[.int .u8 97, .int .u8 98] 2 2 (w7.heap.size + 1) (by rw [World.size_alloc]) Try.underlying23 Try.underlying5
            have hp1 := (pc_new w7 97 (1, 2)).next hl2
            have hp2 := bytes_new (w7.alloc (.cells #[.int .u8 97] 5 (1, 2))) [97, 98] #[.int .u8 97, .int .u8 98] 5 (2, 3) rfl
            rw [World.size_alloc] at hp2
            have hle := mless_any ⟨some ⟨w7.heap.size, 0, none⟩, 1, 1, [97]⟩ ⟨some ⟨w7.heap.size + 1, 0, none⟩, 2, 2, [97, 98]⟩ _ _ _ hp1 ⟨hp2, nofun, Nat.le_refl _, by show 2 ≤ maxLen; unfold maxLen; omega⟩
            simp only at hle
            rw [show decide (cmpL ([97] : List UInt8) [97, 98] < 0) = true by decide] at hle
            have hbz := bel_next hb8 (bel_next hl1 hl2)
            clear hse hz2 hb6 hb7 hb8 HL8e hl1 hl2 hp1 hp2 hyo hyv hvn hA2 hbb hbb2 hy HS8
            go_wp2_with fail
            refine hle.mono ?_
            rintro e w8 ⟨rfl, rfl⟩
            go_wp2
            go_ret
            exact ⟨rfl, hbz⟩
end Go.Proofs.Ytkbcgcokokddlaa
