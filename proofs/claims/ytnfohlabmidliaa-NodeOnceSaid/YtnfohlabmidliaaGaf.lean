import Derived.Test.YtnfohlabmidliaaGae
import Derived.Maps.Range
import Derived.Test.YtnfohlabmidliaaRows
import Derived.Test.YtnfohlabmidliaaGad
import Derived.Great.BuildSlice
/-
  checked.
-/
namespace Go.Proofs.Ytnfohlabmidliaa
open Go.RowKit
set_option linter.unusedVariables false

/-- What checked hands back. -/
def ChkP (X : NoT) (W : World) (e : Ending) (w' : World) : Prop :=
  Below W.heap.size W w' ∧ ((X.okB = false ∧ e = .returned (.tuple #[.slice none 0 0, .agg #[.int .i64 0, .int .i64 0, .int .i64 0, .int .u64 0, .int .i64 0, .int .i64 0], .bool false])) ∨
    (X.okB = true ∧ ∃ A n c, e = .returned (.tuple #[.slice A n c, .agg #[.int .i64 X.all.1.c, .int .i64 X.all.1.i, .int .i64 (hiI X.all.1.v), .int .u64 (loI X.all.1.v), .int .i64 X.all.1.l, .int .i64 X.all.1.m], .bool true]) ∧ n = X.ents.length ∧ w'.ownsRow W.heap.size 71 1 (.slice A n c) n (X.ents.map EnT.val)))
def prevK (L : List EnT) (k : Nat) : Option (List UInt8) := if k = 0 then none else (L[k - 1]?).map (·.key.l)
theorem prev_zero (L : List EnT) : prevK L 0 = none := rfl
theorem prev_succ {L : List EnT} {k : Nat} {y : EnT} (h : L[k]? = some y) : prevK L (k + 1) = some y.key.l := by
  unfold prevK
  rw [if_neg (by omega), Nat.add_sub_cancel, h]
  rfl
theorem run_first {L : List EnT} {x : EnT} (h : L[0]? = some x) : runOk (prevK L 0) (L.drop 0) = (x.okB && runOk (prevK L 1) (L.drop 1)) := by
  rw [dropN h, prev_zero, prev_succ h]
  rfl
theorem run_next {L : List EnT} {k : Nat} {x y : EnT} (h : L[k + 1]? = some x) (hy : L[k]? = some y) : runOk (prevK L (k + 1)) (L.drop (k + 1)) = (x.okB && (ltB y.key.l x.key.l && runOk (prevK L (k + 1 + 1)) (L.drop (k + 1 + 1)))) := by
  rw [dropN h, prev_succ hy, prev_succ h]
  rfl
theorem run_any {L : List EnT} {k : Nat} {x : EnT} (h : L[k]? = some x) (hx : x.okB = false) : runOk (prevK L k) (L.drop k) = false := by
  rw [dropN h]
  cases prevK L k <;> simp [runOk, hx]
theorem entOk_it (x : ItT) (B : Nat) (w : World) (hx : x.Ok w B) : Calls Try.prog 98 #[x.agg] w fun e w' => e = .returned (.bool x.okB) ∧ Below w.heap.size w w' := itValid_any x B w hx
theorem shape_len {X : NoT} {w : World} {B : Nat} (hX : LieN w B X) (h : X.shape = true) : X.ents.length ≤ 6 ∧ 1 ≤ X.ents.length := by
  unfold NoT.shape at h
  unfold NoT.ents
  have h1 := hX.ilen
  have h2 := hX.klen
  cases hl : X.leaf
  · rw [hl, if_neg Bool.false_ne_true] at h
    rw [if_neg Bool.false_ne_true]
    have := of_decide_eq_true h
    rw [List.length_map]
    omega
  · rw [hl, if_pos rfl] at h
    rw [if_pos rfl]
    have := of_decide_eq_true h
    rw [List.length_map]
    omega
theorem ents_ok {X : NoT} {w : World} {B : Nat} (hX : LieN w B X) : ∀ x ∈ X.ents, x.Ok w B := by
  intro x hx
  unfold NoT.ents at hx
  cases hl : X.leaf
  · rw [hl, if_neg Bool.false_ne_true] at hx
    obtain ⟨y, hy, rfl⟩ := List.mem_map.1 hx
    exact hX.kids y hy
  · rw [hl, if_pos rfl] at hx
    obtain ⟨y, hy, rfl⟩ := List.mem_map.1 hx
    exact hX.items y hy

set_option maxRecDepth 20000 in
set_option maxHeartbeats 4000000 in
theorem checked_any (X : NoT) (B : Nat) (w : World) (hX : LieN w B X) (hB : B ≤ w.heap.size) :
    Calls Try.prog 39 #[X.agg] w (ChkP X w) := by
  have hb := bel_alloc (bel_alloc (Below.refl w.heap.size w) (.cells #[.bool X.leaf, .slice X.iA X.iN X.iC, .slice X.kA X.kN X.kC] 25)) (.cells #[.int .i64 0, .int .i64 0, .int .i64 0, .int .u64 0, .int .i64 0, .int .i64 0] 37)
  have hs := Six.new (w.alloc (.cells #[.bool X.leaf, .slice X.iA X.iN X.iC, .slice X.kA X.kN X.kC] 25)) (.int .i64 0) (.int .i64 0) (.int .i64 0) (.int .u64 0) (.int .i64 0) (.int .i64 0) 37
  rw [World.size_alloc] at hs
  have hs1 : w.heap.size + 1 < ((w.alloc (.cells #[.bool X.leaf, .slice X.iA X.iN X.iC, .slice X.kA X.kN X.kC] 25)).alloc (.cells #[.int .i64 0, .int .i64 0, .int .i64 0, .int .u64 0, .int .i64 0, .int .i64 0] 37)).heap.size := by rw [World.size_alloc, World.size_alloc]; omega
  have HS := Lib.hid hs
  have HX := Lib.hid hX
  have hagg : X.agg = .agg #[.bool X.leaf, .slice X.iA X.iN X.iC, .slice X.kA X.kN X.kC] := rfl
  obtain ⟨leaf, hleaf⟩ : ∃ z, X.leaf = z := ⟨_, rfl⟩
  rw [hleaf] at hb hs hs1 HS hagg
  have HG := Lib.hid hagg
  rw [hagg]
  clear hs hX hagg hleaf
  go_enter Try.func39, Try.ntmps39
  go_wp2_with fail
  generalize (w.alloc (.cells #[.bool leaf, .slice X.iA X.iN X.iC, .slice X.kA X.kN X.kC] 25)).alloc (.cells #[.int .i64 0, .int .i64 0, .int .i64 0, .int .u64 0, .int .i64 0, .int .i64 0] 37) = W1 at *
  have hsz := hb.size
  rw [← HG.out]
  cases hsh : X.shape
  · have HK := Lib.hid (show X.okB = false by unfold NoT.okB; rw [hsh]; rfl)
    refine (entriesOf_no X W1 hsh).mono ?_
    rintro e w2 ⟨rfl, hb2⟩
    clear hsh
    have hb3 := bel_next hb hb2
    obtain ⟨⟨r0, r1, r2, r3, r4, r5⟩, f0, f1, f2, f3, f4, f5⟩ := HS.out.below hb2 rfl
    have hbz := below_set6 hb3 (show w.heap.size ≤ w.heap.size + 1 by omega) (a := .int .i64 0) (b := .int .i64 0) (c := .int .i64 0) (d := .int .u64 0) (e := .int .i64 0) (f := .int .i64 0)
    clear hb2 hb3 hb
    go_wp2
    refine bodyPost_ret (v := .tuple #[.slice none 0 0, .agg #[.int .i64 0, .int .i64 0, .int .i64 0, .int .u64 0, .int .i64 0, .int .i64 0], .bool false]) ?_ rfl ⟨hbz, .inl ⟨HK.out, rfl⟩⟩
    simp [results, Try.results39, go_sem, *]
  · obtain ⟨hl6, hl1⟩ := shape_len HX.out hsh
    have HK := Lib.hid (show X.okB = (runOk none X.ents && isZ (jall (X.ents.map EnT.red)).2) by unfold NoT.okB; rw [hsh]; rfl)
    have hX1 := HX.out.later (hb.mono hB)
    have hcall := entriesOf_yes X B W1 hX1 (Nat.le_trans hB hsz) hsh
    have hEok := ents_ok hX1
    have HA := Lib.hid (show X.all = jall (X.ents.map EnT.red) from rfl)
    obtain ⟨L, hL⟩ : ∃ L, X.ents = L := ⟨_, rfl⟩
    rw [hL] at HK hcall hEok hl6 hl1 HA
    have HL := Lib.hid hL
    clear hsh hX1 hL
    refine hcall.mono ?_
    rintro e w2 ⟨A, n, c, rfl, hO, hb2⟩
    have hnl : L.length = n := by have := hO.1; simpa using this
    have HE := Lib.hid (show EntsL w2 w2.heap.size A n L from ⟨Shows.own hO, fun x hx => by
      have h := (hEok x hx).later (hb2.mono (Nat.le_trans hB hsz))
      have hsz2 := hb2.size
      cases x
      · exact ItT.Ok.more h (by omega)
      · exact KiT.Ok.more h (by omega)⟩)
    have hn6 : n ≤ 6 := by omega
    have HN := Lib.hid hnl
    have HO := Lib.hid hO
    have hs12 : w.heap.size + 1 < w2.heap.size := Nat.lt_of_lt_of_le hs1 hb2.size
    have HS2 := Lib.hid (HS.out.below hb2 rfl)
    have hb3 := bel_next hb hb2
    clear hb hb2 hO hEok hcall HS hl6 hl1 hnl
    go_wp2_with fail
    go_loopw [20] (fun y wr => ∃ k : Nat, k ≤ n ∧ y = .int .i64 k ∧ Below w2.heap.size w2 wr ∧ Hid (runOk none L = runOk (prevK L k) (L.drop k))) (fun y _ => n - (intOf y).toNat)
    case atStart => exact ⟨0, Nat.zero_le _, rfl, Below.refl _ _, Lib.hid rfl⟩
    case round =>
      obtain ⟨k, hk, rfl, hbr, HR⟩ := hrel
      have hbw := bel_next hb3 hbr
      have hsr := hbr.size
      by_cases hlt : k < n
      · have HEr := Lib.hid (HE.out.later hbr)
        obtain ⟨b, off, x, rfl, hbB, hx, x0⟩ := HEr.out.cell hlt
        have hxo := HEr.out.ok x (List.mem_of_getElem? hx)
        have hlt' : (k : Int) < (n : Int) := by omega
        have HF := Lib.hid (fun h : x.okB = false => (show X.okB = false by rw [HK.out, HR.out, run_any hx h]; rfl))
        rcases Nat.eq_zero_or_pos k with hk0 | hk0
        · subst hk0
          have HG := Lib.hid (run_first hx)
          rw [Nat.add_zero] at x0
          rcases x with x | x <;> simp only [EnT.val, EnT.okB] at x0 HF HG <;>
          · clear hx
            go_wp2_with fail
            first | refine (itValid_any x _ wr hxo).mono ?_ | refine (kiValid_any x _ wr hxo).mono ?_
            rintro e w3 ⟨rfl, hbz3⟩
            have hb4 := bel_next hbr hbz3
            have hb5 := bel_next hbw hbz3
            generalize x.okB = q at *
            cases q
            · have HK0 := Lib.hid (HF.out rfl)
              obtain ⟨⟨r0, r1, r2, r3, r4, r5⟩, f0, f1, f2, f3, f4, f5⟩ := HS2.out.below hb4 rfl
              have hbz := below_set6 hb5 (show w.heap.size ≤ w.heap.size + 1 by omega) (a := .int .i64 0) (b := .int .i64 0) (c := .int .i64 0) (d := .int .u64 0) (e := .int .i64 0) (f := .int .i64 0)
              clear hbz3 hb4 hb5 hbr hbw hxo HG HF x0
              go_wp2
              refine bodyPost_ret (v := .tuple #[.slice none 0 0, .agg #[.int .i64 0, .int .i64 0, .int .i64 0, .int .u64 0, .int .i64 0, .int .i64 0], .bool false]) ?_ rfl ⟨hbz, .inl ⟨HK0.out, rfl⟩⟩
              simp [results, Try.results39, go_sem, *]
            · have HR2 := Lib.hid (HR.out.trans (HG.out.trans (Bool.true_and _)))
              clear hbz3 hb5 hbr hbw hxo HG HF x0
              go_wp2
              go_roundw
              case rel => exact ⟨1, by omega, by go_num, hb4, HR2⟩
              case measure => simp [intOf]; omega
        · obtain ⟨j, rfl⟩ : ∃ j, k = j + 1 := ⟨k - 1, by omega⟩
          obtain ⟨b', off', y, hAe, _, hy, y0⟩ := HEr.out.cell (show j < n by omega)
          injection hAe with hAe
          obtain ⟨rfl, rfl⟩ : b = b' ∧ off = off' := by injection hAe with h1 h2; exact ⟨h1, h2⟩
          have hyo := HEr.out.ok y (List.mem_of_getElem? hy)
          have HG := Lib.hid (run_next hx hy)
          have hxk := Lib.hid hxo.key
          have hyk := Lib.hid hyo.key
          clear hAe
          rcases x with x | x <;> simp only [EnT.val, EnT.okB, EnT.key] at x0 HF HG hxk <;> rcases y with y | y <;> simp only [EnT.val, EnT.key] at y0 HG hyk <;>
          · clear hx hy
            go_wp2_with fail
            first | refine (itValid_any x _ wr hxo).mono ?_ | refine (kiValid_any x _ wr hxo).mono ?_
            rintro e w3 ⟨rfl, hbz3⟩
            have hb4 := bel_next hbr hbz3
            have hb5 := bel_next hbw hbz3
            generalize x.okB = q at *
            cases q
            · have HK0 := Lib.hid (HF.out rfl)
              obtain ⟨⟨r0, r1, r2, r3, r4, r5⟩, f0, f1, f2, f3, f4, f5⟩ := HS2.out.below hb4 rfl
              have hbz := below_set6 hb5 (show w.heap.size ≤ w.heap.size + 1 by omega) (a := .int .i64 0) (b := .int .i64 0) (c := .int .i64 0) (d := .int .u64 0) (e := .int .i64 0) (f := .int .i64 0)
              clear hbz3 hb4 hb5 hbr hbw hxo hyo HG HF x0 y0 hyk hxk
              go_wp2
              refine bodyPost_ret (v := .tuple #[.slice none 0 0, .agg #[.int .i64 0, .int .i64 0, .int .i64 0, .int .u64 0, .int .i64 0, .int .i64 0], .bool false]) ?_ rfl ⟨hbz, .inl ⟨HK0.out, rfl⟩⟩
              simp [results, Try.results39, go_sem, *]
            · have y1 := mkept_later hbz3 y0
              have x1 := mkept_later hbz3 x0
              have hxK := hxk.out.later (hbz3.mono hsr)
              have hyK := hyk.out.later (hbz3.mono hsr)
              clear hbz3 x0 y0 hxo hyo hbr hbw HF
              go_wp2_with fail
              first | refine (itName_any y w3).mono ?_ | refine (kiName_any y w3).mono ?_
              rintro e w4 ⟨rfl, hbz4⟩
              have hs3 := hb4.size
              have x2 := mkept_later hbz4 x1
              have hb6 := bel_next hb4 hbz4
              have hb7 := bel_next hb5 hbz4
              have hxK := hxK.later (hbz4.mono hs3)
              have hyK := hyK.later (hbz4.mono hs3)
              clear hbz4 x1 y1 hb4 hb5
              go_wp2_with fail
              first | refine (itName_any x w4).mono ?_ | refine (kiName_any x w4).mono ?_
              rintro e w5 ⟨rfl, hbz5⟩
              have hs4 := hb6.size
              have hb8 := bel_next hb6 hbz5
              have hb9 := bel_next hb7 hbz5
              have hxK := hxK.later (hbz5.mono hs4)
              have hyK := hyK.later (hbz5.mono hs4)
              have hcm := bcompare_any y.k.A x.k.A y.k.n y.k.c x.k.n x.k.c y.k.l x.k.l _ _ w5 hyK.here hxK.here
              clear hbz5 x2 hb6 hb7
              obtain ⟨z, hz0⟩ : ∃ z, cmpL y.k.l x.k.l = z := ⟨_, rfl⟩
              rw [hz0] at hcm
              have HZ0 := Lib.hid hz0
              clear hz0
              go_wp2_with fail
              refine hcm.mono ?_
              rintro e w6 ⟨rfl, rfl⟩
              clear hcm hxK hyK hxk hyk
              by_cases hz : z < 0
              · have hz' : ((0 : Int) ≤ z) = False := by simp; omega
                have HR2 := Lib.hid (HR.out.trans (HG.out.trans (by show (true && (ltB y.k.l x.k.l && _)) = _; rw [ltB_yes (by rw [HZ0.out]; exact hz)])))
                clear hz HG hb9
                go_wp2
                go_roundw
                case rel => exact ⟨j + 1 + 1, by omega, by go_num, hb8, HR2⟩
                case measure => simp [intOf]; omega
              · have hz' : (0 : Int) ≤ z := by omega
                have HK0 := Lib.hid (show X.okB = false by rw [HK.out, HR.out, HG.out]; show ((true && (ltB y.k.l x.k.l && _)) && _) = _; rw [ltB_no (by rw [HZ0.out]; exact hz)]; rfl)
                obtain ⟨⟨r0, r1, r2, r3, r4, r5⟩, f0, f1, f2, f3, f4, f5⟩ := HS2.out.below hb8 rfl
                have hbz := below_set6 hb9 (show w.heap.size ≤ w.heap.size + 1 by omega) (a := .int .i64 0) (b := .int .i64 0) (c := .int .i64 0) (d := .int .u64 0) (e := .int .i64 0) (f := .int .i64 0)
                clear hz HG hb8 hb9
                go_wp2
                refine bodyPost_ret (v := .tuple #[.slice none 0 0, .agg #[.int .i64 0, .int .i64 0, .int .i64 0, .int .u64 0, .int .i64 0, .int .i64 0], .bool false]) ?_ rfl ⟨hbz, .inl ⟨HK0.out, rfl⟩⟩
                simp [results, Try.results39, go_sem, *]
      · obtain rfl : n = k := by omega
        have HQ := Lib.hid (show runOk none L = true by rw [HR.out, List.drop_of_length_le (by rw [HN.out]; exact Nat.le_refl _)]; cases prevK L n <;> rfl)
        have hj := joined_any A n c _ L wr (HE.out.later hbr) hsr hn6
        obtain ⟨R, hR⟩ : ∃ R, jall (L.map EnT.red) = R := ⟨_, rfl⟩
        rw [hR] at hj HK HA
        clear hR hlt HR
        obtain ⟨r, z⟩ := R
        simp only at hj HK
        obtain ⟨bz, hz⟩ : ∃ b, isZ z = b := ⟨_, rfl⟩
        rw [hz] at HK hj
        go_wp2_with fail
        refine hj.mono ?_
        rintro e w4 ⟨rfl, hb4⟩
        have hb5 := bel_next hbr hb4
        have hb6 := bel_next hbw hb4
        have HO4 := Lib.hid (own_later HO.out hb5)
        clear hj hb4 hbr hbw hz
        have HSa := HS2.out.below (bel_alloc hb5 (.cells #[.int .i64 r.c, .int .i64 r.i, .int .i64 (hiI r.v), .int .u64 (loI r.v), .int .i64 r.l, .int .i64 r.m] 37)) rfl
        have hba := bel_alloc hb6 (.cells #[.int .i64 r.c, .int .i64 r.i, .int .i64 (hiI r.v), .int .u64 (loI r.v), .int .i64 r.l, .int .i64 r.m] 37)
        have hsn := Six.new w4 (.int .i64 r.c) (.int .i64 r.i) (.int .i64 (hiI r.v)) (.int .u64 (loI r.v)) (.int .i64 r.l) (.int .i64 r.m) 37
        have HOa := Lib.hid (HO4.out.alloc (.cells #[.int .i64 r.c, .int .i64 r.i, .int .i64 (hiI r.v), .int .u64 (loI r.v), .int .i64 r.l, .int .i64 r.m] 37))
        have hgw : w.heap.size + 1 < w4.heap.size := Nat.lt_of_lt_of_le hs12 hb5.size
        have HS1 := Lib.hid hs1
        clear hs1 hs12
        cases bz
        · have HK0 := Lib.hid (show X.okB = false by rw [HK.out, Bool.and_false])
          obtain ⟨⟨r0, r1, r2, r3, r4, r5⟩, f0, f1, f2, f3, f4, f5⟩ := HSa
          have hbz := below_set6 hba (show w.heap.size ≤ w.heap.size + 1 by omega) (a := .int .i64 0) (b := .int .i64 0) (c := .int .i64 0) (d := .int .u64 0) (e := .int .i64 0) (f := .int .i64 0)
          clear hsn hba hb5 hb6 hgw
          go_wp2
          refine bodyPost_ret (v := .tuple #[.slice none 0 0, .agg #[.int .i64 0, .int .i64 0, .int .i64 0, .int .u64 0, .int .i64 0, .int .i64 0], .bool false]) ?_ rfl ⟨hbz, .inl ⟨HK0.out, rfl⟩⟩
          simp [results, Try.results39, go_sem, *]
        · have HK0 := Lib.hid (show X.okB = true by rw [HK.out, HQ.out, Bool.and_true])
          obtain ⟨⟨r0, r1, r2, r3, r4, r5⟩, f0, f1, f2, f3, f4, f5⟩ := HSa
          obtain ⟨⟨q0, q1, q2, q3, q4, q5⟩, -⟩ := hsn
          have hbz := below_set6 hba (show w.heap.size ≤ w.heap.size + 1 by omega) (a := .int .i64 r.c) (b := .int .i64 r.i) (c := .int .i64 (hiI r.v)) (d := .int .u64 (loI r.v)) (e := .int .i64 r.l) (f := .int .i64 r.m)
          have hgw5 : w.heap.size + 1 < (w4.alloc (.cells #[.int .i64 r.c, .int .i64 r.i, .int .i64 (hiI r.v), .int .u64 (loI r.v), .int .i64 r.l, .int .i64 r.m] 37)).heap.size := by rw [World.size_alloc]; omega
          clear hba hb5 hb6
          go_upto_region 13 with fail
          generalize w4.alloc (.cells #[.int .i64 r.c, .int .i64 r.i, .int .i64 (hiI r.v), .int .u64 (loI r.v), .int .i64 r.l, .int .i64 r.m] 37) = W5 at *
          go_region
          have hO6 := own_base (ownsRow_setCell_below (ownsRow_setCell_below (ownsRow_setCell_below (ownsRow_setCell_below (ownsRow_setCell_below (ownsRow_setCell_below HOa.out (a := ⟨w.heap.size + 1, 0, none⟩) HS1.out (.int .i64 r.c)) (a := ⟨w.heap.size + 1, 1, none⟩) HS1.out (.int .i64 r.i)) (a := ⟨w.heap.size + 1, 2, none⟩) HS1.out (.int .i64 (hiI r.v))) (a := ⟨w.heap.size + 1, 3, none⟩) HS1.out (.int .u64 (loI r.v))) (a := ⟨w.heap.size + 1, 4, none⟩) HS1.out (.int .i64 r.l)) (a := ⟨w.heap.size + 1, 5, none⟩) HS1.out (.int .i64 r.m)) hsz
          go_wp2
          refine bodyPost_ret (v := .tuple #[.slice A n c, .agg #[.int .i64 r.c, .int .i64 r.i, .int .i64 (hiI r.v), .int .u64 (loI r.v), .int .i64 r.l, .int .i64 r.m], .bool true]) ?_ rfl ⟨below_drewN hbz 1, .inr ⟨HK0.out, A, n, c, ?_, ?_, ?_⟩⟩
          · simp [results, Try.results39, go_sem, *]
          · rw [HA.out]
          · rw [HL.out, HN.out]
          · rw [HL.out]; exact hO6.drew
end Go.Proofs.Ytnfohlabmidliaa
/-
  Check, First, Red.
-/
namespace Go.Proofs.Ytnfohlabmidliaa
open Go.RowKit
set_option linter.unusedVariables false

def chkN (X : NoT) : Int := if X.okB then 0 else 240
theorem chk_yes {X : NoT} (h : X.okB = true) : chkN X = 0 := by unfold chkN; rw [if_pos h]
theorem chk_no {X : NoT} (h : X.okB = false) : chkN X = 240 := by unfold chkN; rw [if_neg (by rw [h]; exact Bool.false_ne_true)]
theorem runOk_all : ∀ (L : List EnT) (p : Option (List UInt8)), runOk p L = true → ∀ x ∈ L, x.okB = true
  | [], p, _, x, hx => by cases hx
  | y :: L, p, h, x, hx => by
    have h2 : y.okB = true ∧ runOk (some y.key.l) L = true := by
      cases p with
      | none =>
        unfold runOk at h
        simpa using h
      | some q =>
        unfold runOk at h
        simp only [Bool.and_eq_true] at h
        exact ⟨h.1, h.2.2⟩
    rcases List.mem_cons.1 hx with rfl | hx
    · exact h2.1
    · exact runOk_all L _ h2.2 x hx
theorem okB_parts {X : NoT} (h : X.okB = true) : X.shape = true ∧ runOk none X.ents = true ∧ X.all.2 = 0 := by
  unfold NoT.okB at h
  simp only [Bool.and_eq_true, decide_eq_true_eq] at h
  exact h
/-- The first key of a node. -/
def NoT.fst (X : NoT) : PcT := match X.ents with | [] => ⟨none, 0, 0, []⟩ | x :: _ => x.key
def FirP (X : NoT) (W : World) (e : Ending) (w' : World) : Prop :=
  Below W.heap.size W w' ∧ ((X.okB = false ∧ e = .returned (.tuple #[.slice none 0 0, .int .i64 240])) ∨ (X.okB = true ∧ e = .returned (.tuple #[.slice X.fst.A X.fst.n X.fst.c, .int .i64 0])))
def RedP (X : NoT) (W : World) (e : Ending) (w' : World) : Prop :=
  Below W.heap.size W w' ∧ ((X.okB = false ∧ e = .returned (.tuple #[.agg #[.int .i64 0, .int .i64 0, .int .i64 0, .int .u64 0, .int .i64 0, .int .i64 0], .int .i64 240])) ∨ (X.okB = true ∧ e = .returned (.tuple #[.agg #[.int .i64 X.all.1.c, .int .i64 X.all.1.i, .int .i64 (hiI X.all.1.v), .int .u64 (loI X.all.1.v), .int .i64 X.all.1.l, .int .i64 X.all.1.m], .int .i64 0])))
set_option maxRecDepth 20000 in
set_option maxHeartbeats 2000000 in
theorem check14_any (X : NoT) (B : Nat) (w : World) (hX : LieN w B X) (hB : B ≤ w.heap.size) :
    Calls Try.prog 14 #[X.agg] w fun e w' => e = .returned (.int .i64 (chkN X)) ∧ Below w.heap.size w w' := by
  have hb := bel_alloc (Below.refl w.heap.size w) (.cells #[.bool X.leaf, .slice X.iA X.iN X.iC, .slice X.kA X.kN X.kC] 25)
  have hcall := checked_any X B _ (hX.later (hb.mono hB)) (Nat.le_trans hB hb.size)
  have hagg : X.agg = .agg #[.bool X.leaf, .slice X.iA X.iN X.iC, .slice X.kA X.kN X.kC] := rfl
  obtain ⟨z, hz⟩ : ∃ z, chkN X = z := ⟨_, rfl⟩
  have HZ := Lib.hid hz
  rw [hz]
  rw [hagg] at hcall ⊢
  clear hX hagg hz
  go_enter Try.func14, Try.ntmps14
  go_wp2_with fail
  refine hcall.mono ?_
  rintro e w2 ⟨hb2, ⟨hok, rfl⟩ | ⟨hok, A, n, c, rfl, hn, hO⟩⟩
  · have hb3 := bel_alloc (bel_next hb hb2) (.cells #[.int .i64 0, .int .i64 0, .int .i64 0, .int .u64 0, .int .i64 0, .int .i64 0] 37)
    obtain rfl : z = 240 := HZ.out.symm.trans (chk_no hok)
    clear hb2 hok hcall
    go_wp2
    go_ret
    exact ⟨rfl, hb3⟩
  · have hb3 := fun o => bel_alloc (bel_next hb hb2) o
    obtain rfl : z = 0 := HZ.out.symm.trans (chk_yes hok)
    clear hb2 hok hcall hn hO
    go_wp2
    go_ret
    exact ⟨rfl, hb3 _⟩
set_option maxRecDepth 20000 in
set_option maxHeartbeats 2000000 in
theorem first_any (X : NoT) (B : Nat) (w : World) (hX : LieN w B X) (hB : B ≤ w.heap.size) :
    Calls Try.prog 17 #[X.agg] w (FirP X w) := by
  have hb := bel_alloc (Below.refl w.heap.size w) (.cells #[.bool X.leaf, .slice X.iA X.iN X.iC, .slice X.kA X.kN X.kC] 25)
  have hcall := checked_any X B _ (hX.later (hb.mono hB)) (Nat.le_trans hB hb.size)
  have hagg : X.agg = .agg #[.bool X.leaf, .slice X.iA X.iN X.iC, .slice X.kA X.kN X.kC] := rfl
  rw [hagg] at hcall ⊢
  have HX := Lib.hid hX
  clear hX hagg
  go_enter Try.func17, Try.ntmps17
  go_wp2_with fail
  refine hcall.mono ?_
  rintro e w2 ⟨hb2, ⟨hok, rfl⟩ | ⟨hok, A, n, c, rfl, hn, hO⟩⟩
  · have hb3 := bel_alloc (bel_next hb hb2) (.cells #[.int .i64 0, .int .i64 0, .int .i64 0, .int .u64 0, .int .i64 0, .int .i64 0] 37)
    have HK := Lib.hid hok
    clear hb2 hok hcall
    go_wp2
    go_ret2
    exact ⟨hb3, .inl ⟨HK.out, rfl⟩⟩
  · have hl := shape_len HX.out (okB_parts hok).1
    obtain ⟨x, L, hL⟩ : ∃ x L, X.ents = x :: L := by
      cases he : X.ents with
      | nil => rw [he] at hl; simp at hl
      | cons x L => exact ⟨x, L, rfl⟩
    have hf : X.fst = x.key := by unfold NoT.fst; rw [hL]
    have hE : EntsL w2 w2.heap.size A n X.ents := ⟨Shows.own hO, fun x hx => by
      have h := (ents_ok HX.out x hx).later ((bel_next hb hb2).mono hB)
      have hsz2 := (bel_next hb hb2).size
      cases x
      · exact ItT.Ok.more h (by omega)
      · exact KiT.Ok.more h (by omega)⟩
    obtain ⟨b, off, x', rfl, hbB, hx', x0⟩ := hE.cell (show 0 < n by omega)
    obtain rfl : x = x' := by rw [hL] at hx'; simpa using hx'
    have hn1 : (1 : Int) ≤ (n : Int) := by omega
    have hn0 : (0 : Int) < (n : Int) := by omega
    rw [Nat.add_zero] at x0
    have HK := Lib.hid hok
    have HF := Lib.hid hf
    have hb3 := bel_next hb hb2
    clear hb2 hok hcall hn hO hL hf hE hl hx' hb
    obtain ⟨W3, hW3⟩ : ∃ W3, w2.alloc (.cells #[.int .i64 X.all.1.c, .int .i64 X.all.1.i, .int .i64 (hiI X.all.1.v), .int .u64 (loI X.all.1.v), .int .i64 X.all.1.l, .int .i64 X.all.1.m] 37) = W3 := ⟨_, rfl⟩
    have hb4 : Below w.heap.size w W3 := by rw [← hW3]; exact bel_alloc hb3 _
    have y0 : W3.cell? ⟨b, off, none⟩ = some x.val := by rw [← hW3]; exact cell_keep x0 _
    have HW3 := Lib.hid hW3
    clear x0 hW3 hb3
    rcases x with x | x <;> simp only [EnT.val, EnT.key] at y0 HF <;>
    · go_upto_region 4 with fail
      rw [HW3.out]
      clear HW3
      go_wp2_with fail
      first | refine (itName_any x W3).mono ?_ | refine (kiName_any x W3).mono ?_
      rintro e w4 ⟨rfl, hb5⟩
      have hb6 := bel_next hb4 hb5
      clear hb5 hb4 y0
      go_wp2
      go_ret2
      exact ⟨hb6, .inr ⟨HK.out, by rw [HF.out]; rfl⟩⟩
set_option maxRecDepth 20000 in
set_option maxHeartbeats 2000000 in
theorem red14_any (X : NoT) (B : Nat) (w : World) (hX : LieN w B X) (hB : B ≤ w.heap.size) :
    Calls Try.prog 18 #[X.agg] w (RedP X w) := by
  have hb0 := bel_alloc (Below.refl w.heap.size w) (.cells #[.bool X.leaf, .slice X.iA X.iN X.iC, .slice X.kA X.kN X.kC] 25)
  have hb := bel_alloc hb0 (.cells #[.int .i64 0, .int .i64 0, .int .i64 0, .int .u64 0, .int .i64 0, .int .i64 0] 37)
  have hcall := checked_any X B _ (hX.later (hb.mono hB)) (Nat.le_trans hB hb.size)
  have hs := Six.new (w.alloc (.cells #[.bool X.leaf, .slice X.iA X.iN X.iC, .slice X.kA X.kN X.kC] 25)) (.int .i64 0) (.int .i64 0) (.int .i64 0) (.int .u64 0) (.int .i64 0) (.int .i64 0) 37
  rw [World.size_alloc] at hs
  have hagg : X.agg = .agg #[.bool X.leaf, .slice X.iA X.iN X.iC, .slice X.kA X.kN X.kC] := rfl
  rw [hagg] at hcall ⊢
  have HS := Lib.hid hs
  clear hX hagg hb0 hs
  go_enter Try.func18, Try.ntmps18
  go_wp2_with fail
  generalize (w.alloc (.cells #[.bool X.leaf, .slice X.iA X.iN X.iC, .slice X.kA X.kN X.kC] 25)).alloc (.cells #[.int .i64 0, .int .i64 0, .int .i64 0, .int .u64 0, .int .i64 0, .int .i64 0] 37) = W1 at *
  refine hcall.mono ?_
  rintro e w2 ⟨hb2, ⟨hok, rfl⟩ | ⟨hok, A, n, c, rfl, hn, hO⟩⟩
  · have hb3 := bel_alloc (bel_next hb hb2) (.cells #[.int .i64 0, .int .i64 0, .int .i64 0, .int .u64 0, .int .i64 0, .int .i64 0] 37)
    have hba := bel_alloc hb2 (.cells #[.int .i64 0, .int .i64 0, .int .i64 0, .int .u64 0, .int .i64 0, .int .i64 0] 37)
    obtain ⟨⟨r0, r1, r2, r3, r4, r5⟩, f0, f1, f2, f3, f4, f5⟩ := HS.out.below hba rfl
    have hbz := below_set6 hb3 (show w.heap.size ≤ w.heap.size + 1 by omega) (a := .int .i64 0) (b := .int .i64 0) (c := .int .i64 0) (d := .int .u64 0) (e := .int .i64 0) (f := .int .i64 0)
    have HK := Lib.hid hok
    clear hb2 hok hcall hb3 hba hb
    go_wp2
    refine bodyPost_ret (v := .tuple #[.agg #[.int .i64 0, .int .i64 0, .int .i64 0, .int .u64 0, .int .i64 0, .int .i64 0], .int .i64 240]) ?_ rfl ⟨hbz, .inl ⟨HK.out, rfl⟩⟩
    simp [results, Try.results18, go_sem, *]
  · have HK := Lib.hid hok
    obtain ⟨r, hr⟩ : ∃ r, X.all.1 = r := ⟨_, rfl⟩
    rw [hr]
    have HR := Lib.hid hr
    have hb3 := bel_alloc (bel_next hb hb2) (.cells #[.int .i64 r.c, .int .i64 r.i, .int .i64 (hiI r.v), .int .u64 (loI r.v), .int .i64 r.l, .int .i64 r.m] 37)
    have hba := bel_alloc hb2 (.cells #[.int .i64 r.c, .int .i64 r.i, .int .i64 (hiI r.v), .int .u64 (loI r.v), .int .i64 r.l, .int .i64 r.m] 37)
    obtain ⟨⟨r0, r1, r2, r3, r4, r5⟩, f0, f1, f2, f3, f4, f5⟩ := HS.out.below hba rfl
    have hbz := below_set6 hb3 (show w.heap.size ≤ w.heap.size + 1 by omega) (a := .int .i64 r.c) (b := .int .i64 r.i) (c := .int .i64 (hiI r.v)) (d := .int .u64 (loI r.v)) (e := .int .i64 r.l) (f := .int .i64 r.m)
    clear hb2 hok hcall hb3 hba hb hn hO hr
    go_wp2
    refine bodyPost_ret (v := .tuple #[.agg #[.int .i64 r.c, .int .i64 r.i, .int .i64 (hiI r.v), .int .u64 (loI r.v), .int .i64 r.l, .int .i64 r.m], .int .i64 0]) ?_ rfl ⟨hbz, .inr ⟨HK.out, by rw [HR.out]⟩⟩
    simp [results, Try.results18, go_sem, *]
end Go.Proofs.Ytnfohlabmidliaa
/-
  append onto a row of the call's own that a caller goes on with: which block it lies in then. No program in sight.
-/
namespace Go.Proofs.Ytnfohlabmidliaa
open Go.RowKit
set_option linter.unusedVariables false

section
variable {P : Program} (w : World)
theorem run_append_own_shows (base : Nat) (t ty e : TypeId) (i : TypeInfo) (z : Value) (size bytes : Nat) (ht : P.underlying t = some (.slice e)) (hi : P.info? e = some i) (hz : i.zero = some z)
    (hsize : i.size = size) (hby : i.bytes = bytes) (hzs : z.cells.size = size) (hsz : 0 < size)
    (v : Value) (n : Nat) (xs : List Value) (hown : w.ownsRow base e size v n xs)
    (B : Nat) (A : Option Addr) (m c : Nat) (news : List Value) (hr : Shows w B size A m news) (h1 : ∀ u ∈ news, u.oneCell' = true)
    (h63 : n + m ≤ maxLen) (hbytes : (n + m) * bytes ≤ 140737488355328) (hbase : base ≤ w.heap.size) :
    ∃ A' c' w', (Builtin.append_ #[t, t] ty #[v, .slice A m c]).run P w = .ok (.slice A' (n + m) c') w' ∧ w'.ownsRow base e size (.slice A' (n + m) c') (n + m) (xs ++ news) ∧ w.grownBy w' v.ownBlock ∧ Below base w w' ∧ ((Value.slice A' (n + m) c').ownBlock = v.ownBlock ∨ (Value.slice A' (n + m) c').ownBlock = some w.heap.size) := by
  have key : ∃ v' w', (Builtin.append_ #[t, t] ty #[v, .slice A m c]).run P w = .ok v' w' ∧ w'.ownsRow base e size v' (n + m) (xs ++ news) ∧ w.grownBy w' v.ownBlock ∧ (v'.ownBlock = v.ownBlock ∨ v'.ownBlock = some w.heap.size) := by
    rcases A with _ | ad
    · have hm : m = 0 := by
        rcases Nat.eq_zero_or_pos m with h0 | h0
        · exact h0
        · obtain ⟨_, _, h, _⟩ := hr.2 h0
          cases h
      subst hm
      have hn : news = [] := List.eq_nil_of_length_eq_zero (by simpa using hr.1)
      subst hn
      refine ⟨v, w, ?_, by simpa using hown, World.grownBy.refl w _, .inl rfl⟩
      rcases hown.2 with ⟨rfl, rfl⟩ | ⟨g, cap, cur, rfl, _, _, hnc, _⟩
      · simp [Builtin.append_, run_underlying ht, sizeOf, typeInfo, hi, Builtin.lenOf, Builtin.firstCells]
      · simp [Builtin.append_, run_underlying ht, sizeOf, typeInfo, hi, Builtin.lenOf, Builtin.firstCells, hnc, storeCells]
    · have hcells : ∀ j u, news[j]? = some u → w.cell? (ad.add j) = some u := by
        intro j u hu
        rcases Nat.eq_zero_or_pos m with h0 | h0
        · subst h0
          have hn : news = [] := List.eq_nil_of_length_eq_zero (by simpa using hr.1)
          subst hn
          simp at hu
        · obtain ⟨b, off, h, _, hc⟩ := hr.2 h0
          injection h with h
          subst h
          rw [addr_add]
          exact hc j u hu
      obtain ⟨v', w', hrun, h2, h3, _, h4⟩ := run_append_own_at (P := P) w base t ty e i z size bytes ht hi hz hsize hby hzs hsz v n xs hown ad m c news hr.1 hcells h1 h63 hbytes hbase
      exact ⟨v', w', hrun, h2, h3, h4⟩
  obtain ⟨v', w', hrun, h2, h3, h4⟩ := key
  obtain ⟨A', c', rfl, _, _⟩ := own_form h2
  exact ⟨A', c', w', hrun, h2, h3, (Below.refl base w).grown h3 hbase fun k hk => (hown.lt k hk).1, h4⟩

theorem wp_appG {o : Oper} {a : Act} {K : Act → World → Prop} {Q : Exit → Act → World → Prop} (s x : Operand) (t : TypeId)
    (ho : o.op = .call { callee := .builtin .append, args := #[s, x], argTypes := #[t, t] })
    (base : Nat) (e : TypeId) (i : TypeInfo) (z : Value) (size bytes : Nat) (ht : P.underlying t = some (.slice e)) (hi : P.info? e = some i) (hz : i.zero = some z)
    (hsize : i.size = size) (hby : i.bytes = bytes) (hzs : z.cells.size = size) (hsz : 0 < size)
    (v : Value) (n : Nat) (xs : List Value) (hs : a.eval s = v) (hown : w.ownsRow base e size v n xs)
    (B : Nat) (A : Option Addr) (m c : Nat) (news : List Value) (hx : a.eval x = .slice A m c) (hr : Shows w B size A m news) (h1 : ∀ u ∈ news, u.oneCell' = true)
    (h63 : n + m ≤ maxLen) (hbytes : (n + m) * bytes ≤ 140737488355328) (hbase : base ≤ w.heap.size)
    (h : ∀ A' c' w', w'.ownsRow base e size (.slice A' (n + m) c') (n + m) (xs ++ news) → w.grownBy w' v.ownBlock → Below base w w' → ((Value.slice A' (n + m) c').ownBlock = v.ownBlock ∨ (Value.slice A' (n + m) c').ownBlock = some w.heap.size) → K (a.put o.dst (.slice A' (n + m) c')) w') :
    o.wp P a w K Q := by
  obtain ⟨A', c', w', hrun, h2, h3, h4, h5⟩ := run_append_own_shows (P := P) w base t o.type e i z size bytes ht hi hz hsize hby hzs hsz v n xs hown B A m c news hr h1 h63 hbytes hbase
  unfold Oper.wp execOp
  simp only [ho, resolve, invoke, builtin, Sem.run_bind, Sem.run_pure, Result.andThen_ok, List.map_toArray, List.map_cons, List.map_nil, hs, hx, hrun]
  exact h A' c' w' h2 h3 h4 h5

theorem wpList_appG {ops : Array Oper} {rest : List Oper} {o : Oper} {a : Act} {Q : Exit → Act → World → Prop} (hgd : o.guard = none) (s x : Operand) (t : TypeId)
    (ho : o.op = .call { callee := .builtin .append, args := #[s, x], argTypes := #[t, t] })
    (base : Nat) (e : TypeId) (i : TypeInfo) (z : Value) (size bytes : Nat) (ht : P.underlying t = some (.slice e)) (hi : P.info? e = some i) (hz : i.zero = some z)
    (hsize : i.size = size) (hby : i.bytes = bytes) (hzs : z.cells.size = size) (hsz : 0 < size)
    (v : Value) (n : Nat) (xs : List Value) (hs : a.eval s = v) (hown : w.ownsRow base e size v n xs)
    (B : Nat) (A : Option Addr) (m c : Nat) (news : List Value) (hx : a.eval x = .slice A m c) (hr : Shows w B size A m news) (h1 : ∀ u ∈ news, u.oneCell' = true)
    (h63 : n + m ≤ maxLen) (hbytes : (n + m) * bytes ≤ 140737488355328) (hbase : base ≤ w.heap.size)
    (h : ∀ A' c' w', w'.ownsRow base e size (.slice A' (n + m) c') (n + m) (xs ++ news) → w.grownBy w' v.ownBlock → Below base w w' → ((Value.slice A' (n + m) c').ownBlock = v.ownBlock ∨ (Value.slice A' (n + m) c').ownBlock = some w.heap.size) → wpList P ops Q rest (a.put o.dst (.slice A' (n + m) c')) w') :
    wpList P ops Q (o :: rest) a w :=
  wpList_plain hgd fun _ hK => wp_appG w s x t ho base e i z size bytes ht hi hz hsize hby hzs hsz v n xs hs hown B A m c news hx hr h1 h63 hbytes hbase fun A' c' w' h2 h3 h4 h5 => hK _ _ (h A' c' w' h2 h3 h4 h5)

end
/-- From w to w' nothing turned but the row v0, which is now v (or has moved to a new block). -/
structure Gr (v0 : Value) (w : World) (v : Value) (w' : World) : Prop where
  grown : w.grownBy w' v0.ownBlock
  own : ∀ j, v.ownBlock = some j → w.heap.size ≤ j ∨ v0.ownBlock = some j
theorem Gr.refl (v : Value) (w : World) : Gr v w v w := ⟨World.grownBy.refl w _, fun j h => .inr h⟩
theorem Gr.alloc {v0 v : Value} {w w' : World} (h : Gr v0 w v w') (o : Obj) : Gr v0 w v (w'.alloc o) := ⟨h.grown.trans (World.grownBy_alloc w' o _), h.own⟩
theorem Gr.drew {v0 v : Value} {w w' : World} (h : Gr v0 w v w') : Gr v0 w v w'.drew := ⟨⟨h.grown.os, h.grown.tape, h.grown.output, h.grown.size, h.grown.block⟩, h.own⟩
theorem Gr.undrew {v0 v : Value} {w w' : World} (h : Gr v0 w.drew v w') : Gr v0 w v w' := ⟨⟨h.grown.os, h.grown.tape, h.grown.output, h.grown.size, h.grown.block⟩, h.own⟩
theorem Gr.app {v0 v v' : Value} {w w1 w2 : World} (h : Gr v0 w v w1) (hg : w1.grownBy w2 v.ownBlock) (ho : v'.ownBlock = v.ownBlock ∨ v'.ownBlock = some w1.heap.size) : Gr v0 w v' w2 :=
  ⟨h.grown.andThen hg h.own, fun j hj => by
    rcases ho with e | e
    · exact h.own j (e ▸ hj)
    · rw [e] at hj
      injection hj with hj
      have := h.grown.size
      exact .inl (by omega)⟩
theorem Gr.call {v0 v v' : Value} {w w1 w2 : World} (h : Gr v0 w v w1) (k : Gr v w1 v' w2) : Gr v0 w v' w2 :=
  ⟨h.grown.andThen k.grown h.own, fun j hj => by
    rcases k.own j hj with e | e
    · have := h.grown.size
      exact .inl (by omega)
    · exact h.own j e⟩
theorem Gr.later {v0 v : Value} {w w1 w2 : World} (h : Gr v0 w v w1) (k : Below w1.heap.size w1 w2) : Gr v0 w v w2 :=
  ⟨h.grown.trans ⟨k.os, k.tape, k.output, k.size, fun i hi _ => k.block i hi⟩, h.own⟩
theorem Gr.below {base n : Nat} {e : TypeId} {size : Nat} {v0 v : Value} {xs : List Value} {w w' : World} (h : Gr v0 w v w') (ho : w.ownsRow base e size v0 n xs) (hb : base ≤ w.heap.size) : Below base w w' :=
  (Below.refl base w).grown h.grown hb fun k hk => (ho.lt k hk).1
theorem Gr.size {v0 v : Value} {w w' : World} (h : Gr v0 w v w') : w.heap.size ≤ w'.heap.size := h.grown.size
theorem Gr.blk {v0 v : Value} {w w' : World} {base n size g : Nat} {e t : TypeId} {xs : List Value} {C : Array Value} {fr : Nat × Nat} (h : Gr v0 w v w') (ho : w.ownsRow base e size v0 n xs) (hb : w.heap[g]? = some (.cells C t fr)) (hne : t ≠ e) : w'.heap[g]? = some (.cells C t fr) :=
  blk_other hb h.grown (own_blk_ne ho hb hne)
theorem Gr.row {v0 v u : Value} {w w' : World} {base base' n n' size size' : Nat} {e t : TypeId} {xs ys : List Value} (h : Gr v0 w v w') (ho : w.ownsRow base e size v0 n xs) (hu : w.ownsRow base' t size' u n' ys) (hne : t ≠ e) : w'.ownsRow base' t size' u n' ys :=
  hu.kept h.grown (by
    rcases hu.2 with ⟨e1, _⟩ | ⟨g, cap, cur, e1, _, hh, _⟩
    · rw [e1]; exact .inl rfl
    · rw [e1]
      exact .inr (own_blk_ne ho hh hne))
end Go.Proofs.Ytnfohlabmidliaa
namespace Go.Proofs.Ytnfohlabmidliaa
open Go.RowKit

theorem bytes_nil {w : World} {B n : Nat} {l : List UInt8} (h : Bytes w B none n l) : n = 0 ∧ l = [] := by
  have hn0 : n = 0 := by
    rcases Nat.eq_zero_or_pos n with h0 | h0
    · exact h0
    · obtain ⟨_, _, h, _⟩ := h.2 h0
      cases h
  exact ⟨hn0, List.eq_nil_of_length_eq_zero (by rw [h.len, hn0])⟩

set_option maxRecDepth 20000 in
theorem u8_info : ∃ i, Try.prog.info? 5 = some i ∧ i.zero = some (.int .u8 0) ∧ i.size = 1 ∧ i.bytes = 1 := ⟨Try.t5, by kernel_rfl, by kernel_rfl, by kernel_rfl, by kernel_rfl⟩

set_option maxRecDepth 20000 in
set_option maxHeartbeats 1000000 in
theorem clone_any (A : Option Addr) (n c : Nat) (l : List UInt8) (B : Nat) (w : World) (h : Bytes w B A n l) (hA : A = none → c = 0) (hB : B ≤ w.heap.size) (hn : n ≤ 140737488355328) :
    Calls Try.prog 24 #[.slice A n c] w (GivesBytes 5 l w) := by
  have hnil := fun (W : World) (a : Option Addr) (n c : Nat) => Lib.run_eql_slice_nil (P := Try.prog) W 32 5 a n c 0 0 Try.underlying32
  rcases A with _ | a
  · obtain rfl := hA rfl
    obtain ⟨rfl, rfl⟩ := bytes_nil h
    go_enter Try.func24, Try.ntmps24
    go_wp2
    go_ret
    exact ⟨none, 0, 0, rfl, World.ownsRow_nil _ _ _ _, Below.refl _ _⟩
  · obtain ⟨i0, hi, hz0, hz1, hz2⟩ := u8_info
    have hown := World.ownsRow_made (base := w.heap.size) (e := 5) (size := 1) w #[] 0 (Nat.le_refl _) (Nat.zero_le _) rfl
    have hs := (h.more hB).alloc (Nat.le_refl _) (.cells #[] 5)
    go_enter Try.func24, Try.ntmps24
    go_wp2_with (at_builtin; refine wpList_append_shows _ rfl _ _ _ rfl w.heap.size 5 i0 (.int .u8 0) 1 1 Try.underlying32 hi hz0 hz1 hz2 rfl (by decide) _ _ _ rfl hown w.heap.size _ _ _ (l.map bv) rfl hs (bv_one l) ?c3 ?c4 ?c5 ?_)
    case c3 => unfold maxLen; omega
    case c4 => omega
    case c5 => simp
    · intro A' c' w1 hown' _ hbel
      go_wp2
      go_ret
      exact ⟨A', n, c', by simp, hown', ((Below.refl _ _).alloc (Nat.le_refl _) _).trans hbel⟩
end Go.Proofs.Ytnfohlabmidliaa
/-
  laid, short.
-/
namespace Go.Proofs.Ytnfohlabmidliaa
open Go.RowKit
set_option linter.unusedVariables false

namespace Nod
/-- A number in so many bytes, the highest first. -/
def hiL : Nat → Nat → List UInt8
  | _, 0 => []
  | x, n + 1 => hiL (x / 256) n ++ [UInt8.ofNat x]
theorem hi_len : ∀ (n x : Nat), (hiL x n).length = n
  | 0, x => rfl
  | n + 1, x => by rw [hiL, List.length_append, hi_len n]; rfl
/-- The number that bytes encode. -/
def rdN (l : List UInt8) : Nat := l.foldl (fun n b => n * 256 + b.toNat) 0
theorem rd_nil : rdN [] = 0 := rfl
theorem rd_snoc (l : List UInt8) (b : UInt8) : rdN (l ++ [b]) = rdN l * 256 + b.toNat := by
  unfold rdN
  rw [List.foldl_append]
  rfl
theorem rd_hi : ∀ (n x : Nat), rdN (hiL x n) = x % 256 ^ n
  | 0, x => by rw [hiL, rd_nil, Nat.pow_zero, Nat.mod_one]
  | n + 1, x => by
    rw [hiL, rd_snoc, rd_hi n, UInt8.toNat_ofNat']
    have h := Nat.mod_mul_right_div_self x 256 (256 ^ n)
    have h2 := Nat.div_add_mod (x % (256 * 256 ^ n)) 256
    have h3 : x % (256 * 256 ^ n) % 256 = x % 256 := Nat.mod_mul_right_mod x 256 (256 ^ n)
    rw [h, h3] at h2
    rw [show 256 ^ (n + 1) = 256 * 256 ^ n by rw [Nat.pow_succ, Nat.mul_comm], ← h2]
    omega
theorem hi_back : ∀ (n : Nat) (l : List UInt8), l.length = n → hiL (rdN l) n = l
  | 0, l, h => by rw [List.eq_nil_of_length_eq_zero h]; rfl
  | n + 1, l, h => by
    obtain ⟨m, b, rfl⟩ : ∃ m b, l = m ++ [b] := by
      rcases List.eq_nil_or_concat l with h' | ⟨m, b, h'⟩
      · rw [h'] at h; simp at h
      · exact ⟨m, b, by rw [h', List.concat_eq_append]⟩
    have hm : m.length = n := by simpa using h
    have hb := b.toNat_lt
    rw [rd_snoc, hiL, show (rdN m * 256 + b.toNat) / 256 = rdN m by omega, hi_back n m hm]
    congr 2
    apply UInt8.toNat_inj.1
    rw [UInt8.toNat_ofNat']
    omega
theorem rd_lt : ∀ (n : Nat) (l : List UInt8), l.length = n → rdN l < 256 ^ n
  | 0, l, h => by rw [List.eq_nil_of_length_eq_zero h]; decide
  | n + 1, l, h => by
    obtain ⟨m, b, rfl⟩ : ∃ m b, l = m ++ [b] := by
      rcases List.eq_nil_or_concat l with h' | ⟨m, b, h'⟩
      · rw [h'] at h; simp at h
      · exact ⟨m, b, by rw [h', List.concat_eq_append]⟩
    have hm : m.length = n := by simpa using h
    have hb := b.toNat_lt
    have ih := rd_lt n m hm
    rw [rd_snoc, Nat.pow_succ]
    omega
end Nod
/-- A number, and in how many bytes. -/
def nnC (p : Nat × Nat) : List Value := [.int .u64 (p.1 : Int), .int .i64 (p.2 : Nat)]
def nnL (p : Nat × Nat) : List UInt8 := Nod.hiL p.1 p.2
theorem nu8_nat (x : Nat) : bv (UInt8.ofNat x) = .int .u8 ((x : Int) % 256) := by
  unfold bv
  rw [UInt8.toNat_ofNat']
  simp
/-- What a call hands back that lays bytes behind a row of one's own. -/
def LaysB (base : Nat) (v0 : Value) (l : List UInt8) (W : World) (e : Ending) (w' : World) : Prop :=
  ∃ A n c, e = .returned (.slice A n c) ∧ w'.ownsRow base 5 1 (.slice A n c) n (l.map bv) ∧ Gr v0 W (.slice A n c) w'
set_option maxRecDepth 20000 in
set_option maxHeartbeats 2000000 in
theorem nlaid_any (base : Nat) (A0 : Option Addr) (n0 c0 : Nat) (l0 : List UInt8) (A : Option Addr) (n c : Nat) (ns : List (Nat × Nat)) (w : World) (h0 : w.ownsRow base 5 1 (.slice A0 n0 c0) n0 (l0.map bv)) (hbase : base ≤ w.heap.size) (hg : ∃ g, A = some ⟨g, 0, none⟩ ∧ w.heap[g]? = some (.cells (ns.flatMap nnC).toArray 96 (0, 0))) (hns : ns.length = n) (hs : ∀ p ∈ ns, p.1 < 18446744073709551616 ∧ 1 ≤ p.2 ∧ p.2 ≤ 8) (hn : n ≤ 8) (hn0 : n0 ≤ 100000) :
    Calls Try.prog 59 #[.slice A0 n0 c0, .slice A n c] w (LaysB base (.slice A0 n0 c0) (l0 ++ ns.flatMap nnL) w) := by
  obtain ⟨i0, hi, hz0, hz1, hz2⟩ := u8_info
  obtain ⟨gn, rfl, hgn⟩ := hg
  have HS := Lib.hid hs
  have HNL := Lib.hid hns
  have HO0 := Lib.hid h0
  have HGN := Lib.hid hgn
  clear hs hns h0 hgn
  go_enter Try.func59, Try.ntmps59
  go_wp2
  go_loopw [0, 10] (fun v x wr => ∃ (k : Nat) (A1 : Option Addr) (n1 c1 : Nat), k ≤ n ∧ x = .int .i64 k ∧ v = .slice A1 n1 c1 ∧ n1 ≤ n0 + 8 * k ∧ Hid (wr.ownsRow base 5 1 (.slice A1 n1 c1) n1 ((l0 ++ (ns.take k).flatMap nnL).map bv)) ∧ Hid (Gr (.slice A0 n0 c0) w (.slice A1 n1 c1) wr)) (fun _ x _ => n - (intOf x).toNat)
  case atStart => exact ⟨0, A0, n0, c0, Nat.zero_le _, rfl, rfl, by omega, Lib.hid (by rw [List.take_zero, List.flatMap_nil, List.append_nil]; exact HO0.out), Lib.hid (Gr.refl _ _)⟩
  case round =>
    obtain ⟨k, A1, n1, c1, hk, rfl, rfl, hn1, HO, HG⟩ := hrel
    by_cases hlt : k < n
    · obtain ⟨p, hp⟩ : ∃ p, ns[k]? = some p := ⟨_, List.getElem?_eq_getElem (by rw [HNL.out]; exact hlt)⟩
      obtain ⟨x, s⟩ := p
      have hps := HS.out _ (List.mem_of_getElem? hp)
      have hblk := HG.out.blk HO0.out HGN.out (by decide)
      have d0 : wr.cell? ⟨gn, k * 2, none⟩ = some (.int .u64 (x : Int)) := by
        rw [cell_of_row _ _ _ _ _ _ hblk, List.getElem?_toArray, ← Nat.add_zero (k * 2), flatN_at nnC 2 (fun _ => rfl) ns k _ hp 0 (by omega)]
        rfl
      have d1 : wr.cell? ⟨gn, k * 2 + 1, none⟩ = some (.int .i64 (s : Nat)) := by
        rw [cell_of_row _ _ _ _ _ _ hblk, List.getElem?_toArray, flatN_at nnC 2 (fun _ => rfl) ns k _ hp 1 (by omega)]
        rfl
      have HP := Lib.hid hp
      clear hp hblk
      obtain ⟨hx, hs1, hs8⟩ := hps
      simp only at hx hs1 hs8
      go_wp2
      obtain ⟨g, hg⟩ : ∃ g, wr.heap.size = g := ⟨_, rfl⟩
      have hgw : base ≤ g := by rw [← hg]; exact Nat.le_trans hbase HG.out.size
      have hbk : (wr.alloc (.cells #[.int .u64 (x : Int), .int .i64 (s : Nat)] 96)).heap[g]? = some (.cells #[.int .u64 (x : Int), .int .i64 (s : Nat)] 96 (0, 0)) := by rw [← hg]; exact heap_alloc_new _ _
      have HGa := Lib.hid (HG.out.alloc (.cells #[.int .u64 (x : Int), .int .i64 (s : Nat)] 96))
      have HOa := Lib.hid (HO.out.alloc (.cells #[.int .u64 (x : Int), .int .i64 (s : Nat)] 96))
      rw [hg]
      generalize wr.alloc (.cells #[.int .u64 (x : Int), .int .i64 (s : Nat)] 96) = wa at *
      clear hg d0 d1 HO HG
      go_loopw [0, 7] (fun v y wi => ∃ (j : Nat) (A2 : Option Addr) (n2 c2 : Nat) (z : Int), j ≤ s ∧ y = .int .i64 z ∧ Hid (z = 8 * ((s : Int) - 1 - (j : Int))) ∧ v = .slice A2 n2 c2 ∧ n2 ≤ n0 + 8 * k + j ∧ Hid (wi.ownsRow base 5 1 (.slice A2 n2 c2) n2 ((l0 ++ (ns.take k).flatMap nnL ++ Nod.hiL (x / 256 ^ (s - j)) j).map bv)) ∧ wi.heap[g]? = some (.cells #[.int .u64 (x : Int), .int .i64 (s : Nat)] 96 (0, 0)) ∧ Hid (Gr (.slice A0 n0 c0) w (.slice A2 n2 c2) wi)) (fun _ y _ => (intOf y + 8).toNat)
      case atStart => exact ⟨0, A1, n1, c1, 8 * ((s : Int) - 1), by omega, rfl, Lib.hid (by omega), rfl, by omega, Lib.hid (by rw [Nod.hiL, List.append_nil]; exact HOa.out), hbk, HGa⟩
      case round =>
        clear hbk HGa HOa
        obtain ⟨j, A2, n2, c2, z, hj, rfl, HZ, rfl, hn2, HO2, hbk2, HG2⟩ := hrel
        by_cases hjs : j < s
        · obtain ⟨sh, rfl, hshl⟩ : ∃ sh : Nat, z = (sh : Int) ∧ sh ≤ 56 := ⟨z.toNat, by have := HZ.out; omega, by have := HZ.out; omega⟩
          have hpw : 2 ^ sh = 256 ^ (s - (j + 1)) := by
            rw [show sh = 8 * (s - (j + 1)) by have := HZ.out; omega, Nat.pow_mul]
          have e1 : wr.cell? ⟨g, 0, none⟩ = some (.int .u64 (x : Int)) := by rw [cell_of_row _ _ _ _ _ _ hbk2]; rfl
          obtain ⟨q, hq⟩ : ∃ q, x / 2 ^ sh = q := ⟨_, rfl⟩
          have hqi : (x : Int) / 2 ^ sh = (q : Int) := by rw [← hq, Int.natCast_ediv]; simp
          have HQ := Lib.hid (show q = x / 256 ^ (s - (j + 1)) by rw [← hq, hpw])
          clear hq hpw
          have hz2' : base ≤ wr.heap.size := Nat.le_trans hbase HG2.out.size
          have hbk2a : (wr.alloc (.cells #[.int .u8 ((q : Int) % 256)] 5)).heap[g]? = some (.cells #[.int .u64 (x : Int), .int .i64 (s : Nat)] 96 (0, 0)) := blk_later hbk2 ((Below.refl _ _).alloc (Nat.le_refl _) _)
          have HO2a := Lib.hid (HO2.out.alloc (.cells #[.int .u8 ((q : Int) % 256)] 5))
          have HG2a := Lib.hid (HG2.out.alloc (.cells #[.int .u8 ((q : Int) % 256)] 5))
          go_wp2_with (at_builtin; refine wpList_appG _ rfl _ _ _ rfl base 5 i0 (.int .u8 0) 1 1 Try.underlying32 hi hz0 hz1 hz2 rfl (by decide) _ _ _ rfl HO2a.out (wr.heap.size + 1) _ 1 1 ([UInt8.ofNat q].map bv) rfl ?c1 (bv_one _) ?c2 ?c3 ?c4 ?_)
          case c1 => exact bytes_new wr [UInt8.ofNat q] _ _ _ (by simp [nu8_nat])
          case c2 => unfold maxLen; omega
          case c3 => omega
          case c4 => simp; omega
          · intro A3 c3 w3 hown3 hgr hb3 hor
            have hbk3 : w3.heap[g]? = some (.cells #[.int .u64 (x : Int), .int .i64 (s : Nat)] 96 (0, 0)) := blk_other hbk2a hgr (own_blk_ne HO2a.out hbk2a (by decide))
            have HG3 := Lib.hid (HG2a.out.app (v' := .slice A3 (n2 + 1) c3) hgr (by rw [World.size_alloc]; exact hor))
            have HO3 := Lib.hid hown3
            clear hown3 hgr hb3 hor hbk2 HG2 HG2a HO2 HO2a hbk2a e1 hqi
            go_wp2
            go_roundw
            case rel =>
              refine ⟨j + 1, A3, n2 + 1, c3, _, by omega, rfl, Lib.hid (by have := HZ.out; omega), rfl, by omega, Lib.hid ?_, hbk3, HG3⟩
              have h3 := HO3.out
              have hq1 : x / 256 ^ (s - j) = q / 256 := by
                rw [HQ.out, Nat.div_div_eq_div_mul, show s - j = (s - (j + 1)) + 1 by omega, Nat.pow_succ]
              rw [Nod.hiL, ← HQ.out, ← hq1]
              simp only [List.map_append, List.append_assoc, List.map_cons, List.map_nil] at h3 ⊢
              exact h3
            case measure => simp [intOf]; have := HZ.out; omega
        · have hjs' : j = s := by omega
          have HF := Lib.hid (show l0 ++ (ns.take k).flatMap nnL ++ Nod.hiL (x / 256 ^ (s - j)) j = l0 ++ (ns.take (k + 1)).flatMap nnL by
            rw [flatN_take nnL HP.out, hjs', Nat.sub_self, Nat.pow_zero, Nat.div_one, List.append_assoc]; rfl)
          have hz : ¬ (0 ≤ z) := by have := HZ.out; omega
          have hn3 : n2 ≤ n0 + 8 * (k + 1) := by omega
          clear hjs' hjs hbk2
          go_wp2
          go_roundw
          case rel => exact ⟨k + 1, A2, n2, c2, by omega, by go_num, rfl, hn3, Lib.hid (by rw [← HF.out]; exact HO2.out), HG2⟩
          case measure => simp [intOf]; omega
    · have hk' : k = n := by omega
      have HF := Lib.hid (show l0 ++ (ns.take k).flatMap nnL = l0 ++ ns.flatMap nnL by rw [List.take_of_length_le (by rw [HNL.out]; omega)])
      clear hk'
      go_wp2
      go_ret
      refine ⟨A1, n1, c1, rfl, ?_, HG.out⟩
      rw [← HF.out]
      exact HO.out
end Go.Proofs.Ytnfohlabmidliaa
/-
  short.
-/
namespace Go.Proofs.Ytnfohlabmidliaa
open Go.RowKit
set_option linter.unusedVariables false

set_option maxRecDepth 20000 in
set_option maxHeartbeats 2000000 in
theorem short_any (base : Nat) (A0 : Option Addr) (n0 c0 : Nat) (l0 : List UInt8) (p : PcT) (B : Nat) (w : World) (h0 : w.ownsRow base 5 1 (.slice A0 n0 c0) n0 (l0.map bv)) (hbase : base ≤ w.heap.size) (hp : p.Ok w B) (hB : B ≤ base) (hpn : p.n ≤ 255) (hn0 : n0 ≤ 100000) :
    Calls Try.prog 58 #[.slice A0 n0 c0, .slice p.A p.n p.c] w (LaysB base (.slice A0 n0 c0) (l0 ++ (UInt8.ofNat p.n :: p.l)) w) := by
  obtain ⟨i0, hi, hz0, hz1, hz2⟩ := u8_info
  have hw8 : IntKind.u8.wrap (p.n : Int) = (p.n : Int) := by rw [IntKind.wrap_u8]; omega
  have hm8 : (p.n : Int) % 256 = (p.n : Int) := by omega
  have hOa := h0.alloc (.cells #[.int .u8 (p.n : Int)] 5)
  have HG := Lib.hid ((Gr.refl (.slice A0 n0 c0) w).alloc (.cells #[.int .u8 (p.n : Int)] 5))
  have hs6 := bytes_new w [UInt8.ofNat p.n] #[.int .u8 (p.n : Int)] 5 (0, 0) (by simp [nu8_nat, hm8])
  have hb6 := bel_alloc (Below.refl w.heap.size w) (.cells #[.int .u8 (p.n : Int)] 5)
  have hz6 := Nat.le_trans hbase hb6.size
  have HP := Lib.hid (hp.later (hb6.mono (Nat.le_trans hB hbase)))
  have hsz : (w.alloc (.cells #[.int .u8 (p.n : Int)] 5)).heap.size = w.heap.size + 1 := World.size_alloc _ _
  have h1 : n0 + 1 ≤ maxLen := by unfold maxLen; omega
  have h2 : (n0 + 1) * 1 ≤ 140737488355328 := by omega
  have h3 : n0 + 1 + p.n ≤ maxLen := by unfold maxLen; omega
  have h4 : (n0 + 1 + p.n) * 1 ≤ 140737488355328 := by omega
  obtain ⟨pA, pn, pc, pl⟩ := p
  simp only at *
  clear h0 hb6 hp hm8
  go_enter Try.func58, Try.ntmps58
  go_wp2_with (first
    | (at_builtin; (refine wpList_appG _ rfl _ _ _ rfl base 5 i0 (.int .u8 0) 1 1 Try.underlying32 hi hz0 hz1 hz2 rfl (by decide) _ _ _ rfl hOa (w.heap.size + 1) _ 1 1 ([UInt8.ofNat pn].map bv) rfl hs6 (bv_one _) h1 h2 hz6 ?_); intro A3 c3 w3 hown3 hgr3 hb3 hor3; have hp3 := HP.out.here.below (hb3.mono hB); have hz3 := Nat.le_trans hz6 hb3.size; have HG3 := Lib.hid (HG.out.app (v' := .slice A3 (n0 + 1) c3) hgr3 hor3))
    | (at_builtin; (refine wpList_appG _ rfl _ _ _ rfl base 5 i0 (.int .u8 0) 1 1 Try.underlying32 hi hz0 hz1 hz2 rfl (by decide) _ _ _ rfl hown3 B _ pn pc (pl.map bv) rfl hp3 (bv_one _) h3 h4 hz3 ?_); intro A4 c4 w4 hown4 hgr4 hb4 hor4))
  go_ret
  refine ⟨A4, n0 + 1 + pn, c4, rfl, ?_, HG3.out.app (v' := .slice A4 (n0 + 1 + pn) c4) hgr4 hor4⟩
  rw [List.append_cons, List.map_append, List.map_append]
  exact hown4
end Go.Proofs.Ytnfohlabmidliaa
/-
  Steps of a region that draws, more of them: a row made of values, an append onto a row of one's own beside another such row of the same type. No program in sight.
-/
namespace Go.Proofs.Ytnfohlabmidliaa
open Go.RowKit
set_option linter.unusedVariables false

/-- Two rows of one's own are apart. -/
def ApartV (v u : Value) : Prop := u.ownBlock = none ∨ u.ownBlock ≠ v.ownBlock
theorem shows_made (W : World) (cs : Array Value) (t : TypeId) (g n size : Nat) (hg : W.heap.size = g) (hl : cs.toList.length = n * size) : Shows (W.alloc (.cells cs t)) (g + 1) size (some ⟨g, 0, none⟩) n cs.toList := by
  subst hg
  refine ⟨hl, fun _ => ⟨W.heap.size, 0, rfl, by omega, fun j u hu => ?_⟩⟩
  rw [Nat.zero_add]
  refine (World.cell?_alloc_new W _ t j).trans ?_
  simpa using hu
section
variable {P : Program} {w w' : World} {o : Oper} {a : Act} {K : Act → World → Prop} {Q : Exit → Act → World → Prop}
/-- '[]T{..}'. -/
theorem step_rows (t e : TypeId) (k : Nat) (xs : Array (Nat × Operand)) (ho : o.op = .buildSlice t k xs) (size : Nat) (i : TypeInfo) (z : Value) (ht : P.underlying t = some (.slice e)) (hi : P.info? e = some i) (hz : i.zero = some z) (hsize : i.size = size)
    (cells : Array Value) (hf : Instr.fill (fun q => some (q * size, size)) ((Array.range (k * size)).map (z.cells[· % z.cells.size]!)) (xs.toList.map fun p => (p.1, a.eval p.2)) = some cells) (hcs : cells.toList.length = k * size) (h0 : ¬ k * size = 0) (h24 : ¬ k * size > 2 ^ 24)
    (h : ∀ g w', w.heap.size ≤ g → Shows w' (g + 1) size (some ⟨g, 0, none⟩) k cells.toList → g + 1 ≤ w'.heap.size → Below w.heap.size w w' → K (a.put o.dst (.slice (some ⟨g, 0, none⟩) k k)) w') : o.wp P a w K Q := by
  refine wp_buildSlice t e k xs ho cells i z ht hi hz (by rw [hsize]; exact h24) (by rw [hsize]; exact h0) (by rw [hsize]; simpa using hf) ?_
  exact h w.heap.size (w.alloc (.cells cells e)) (Nat.le_refl _) (shows_made w cells e w.heap.size k size rfl hcs) (by rw [World.size_alloc]; exact Nat.le_refl _) ((Below.refl _ _).alloc (Nat.le_refl _) _)
/-- append onto a row of one's own, beside another one. -/
theorem step_appO (s x : Operand) (t : TypeId) (ho : o.op = .call { callee := .builtin .append, args := #[s, x], argTypes := #[t, t] })
    (base : Nat) (e : TypeId) (i : TypeInfo) (z : Value) (size bytes : Nat) (ht : P.underlying t = some (.slice e)) (hi : P.info? e = some i) (hz : i.zero = some z)
    (hsize : i.size = size) (hby : i.bytes = bytes) (hzs : z.cells.size = size) (hsz : 0 < size)
    (v : Value) (n : Nat) (xs : List Value) (hs : a.eval s = v) (hown : w.ownsRow base e size v n xs)
    (B : Nat) (b : Nat) (m c : Nat) (news : List Value) (hx : a.eval x = .slice (some ⟨b, 0, none⟩) m c) (hr : Shows w B size (some ⟨b, 0, none⟩) m news) (h1 : ∀ u ∈ news, u.oneCell' = true)
    (h63 : n + m ≤ maxLen) (hbytes : (n + m) * bytes ≤ 140737488355328) (hbase : base ≤ w.heap.size)
    (h : ∀ A' c' w', w'.ownsRow base e size (.slice A' (n + m) c') (n + m) (xs ++ news) → w.grownBy w' v.ownBlock → Below base w w' → ((Value.slice A' (n + m) c').ownBlock = v.ownBlock ∨ (Value.slice A' (n + m) c').ownBlock = some w.heap.size) → K (a.put o.dst (.slice A' (n + m) c')) w') :
    o.wp P a w K Q := by
  have hcells : ∀ j u, news[j]? = some u → w.cell? ((⟨b, 0, none⟩ : Addr).add j) = some u := by
    intro j u hu
    rcases Nat.eq_zero_or_pos m with h0 | h0
    · subst h0
      have hn : news = [] := List.eq_nil_of_length_eq_zero (by simpa using hr.1)
      subst hn
      simp at hu
    · obtain ⟨b', off, he, _, hc⟩ := hr.2 h0
      injection he with he
      injection he with e1 e2
      subst e1; subst e2
      rw [addr_add]
      exact hc j u hu
  obtain ⟨v', w', hrun, h2, h3, _, h4⟩ := run_append_own_at (P := P) w base t o.type e i z size bytes ht hi hz hsize hby hzs hsz v n xs hown ⟨b, 0, none⟩ m c news hr.1 hcells h1 h63 hbytes hbase
  obtain ⟨A', c', rfl, _, _⟩ := own_form h2
  unfold Oper.wp execOp
  simp only [ho, resolve, invoke, builtin, Sem.run_bind, Sem.run_pure, Result.andThen_ok, List.map_toArray, List.map_cons, List.map_nil, hs, hx, hrun]
  exact h A' c' w' h2 h3 ((Below.refl base w).grown h3 hbase fun k hk => (hown.lt k hk).1) h4
theorem wpList_appO {ops : Array Oper} {rest : List Oper} (hgd : o.guard = none) (s x : Operand) (t : TypeId) (ho : o.op = .call { callee := .builtin .append, args := #[s, x], argTypes := #[t, t] })
    (base : Nat) (e : TypeId) (i : TypeInfo) (z : Value) (size bytes : Nat) (ht : P.underlying t = some (.slice e)) (hi : P.info? e = some i) (hz : i.zero = some z)
    (hsize : i.size = size) (hby : i.bytes = bytes) (hzs : z.cells.size = size) (hsz : 0 < size)
    (v : Value) (n : Nat) (xs : List Value) (hs : a.eval s = v) (hown : w.ownsRow base e size v n xs)
    (B : Nat) (b : Nat) (m c : Nat) (news : List Value) (hx : a.eval x = .slice (some ⟨b, 0, none⟩) m c) (hr : Shows w B size (some ⟨b, 0, none⟩) m news) (h1 : ∀ u ∈ news, u.oneCell' = true)
    (h63 : n + m ≤ maxLen) (hbytes : (n + m) * bytes ≤ 140737488355328) (hbase : base ≤ w.heap.size)
    (h : ∀ A' c' w', w'.ownsRow base e size (.slice A' (n + m) c') (n + m) (xs ++ news) → w.grownBy w' v.ownBlock → Below base w w' → ((Value.slice A' (n + m) c').ownBlock = v.ownBlock ∨ (Value.slice A' (n + m) c').ownBlock = some w.heap.size) → wpList P ops Q rest (a.put o.dst (.slice A' (n + m) c')) w') :
    wpList P ops Q (o :: rest) a w :=
  wpList_plain hgd fun _ hK => step_appO s x t ho base e i z size bytes ht hi hz hsize hby hzs hsz v n xs hs hown B b m c news hx hr h1 h63 hbytes hbase fun A' c' w' h2 h3 h4 h5 => hK _ _ (h A' c' w' h2 h3 h4 h5)
theorem apart_app {base size n : Nat} {e : TypeId} {v v' u : Value} {xs : List Value} (ha : ApartV v u) (hu : w.ownsRow base e size u n xs) (hor : v'.ownBlock = v.ownBlock ∨ v'.ownBlock = some w.heap.size) : ApartV v' u := by
  rcases ha with h | h
  · exact .inl h
  · rcases hor with h2 | h2
    · exact .inr (by rw [h2]; exact h)
    · refine .inr fun e => ?_
      rw [h2] at e
      have := (hu.lt _ e).2
      omega
theorem apart_turn {v u : Value} (h : ApartV v u) : ApartV u v := by
  rcases h with h | h
  · cases hv : v.ownBlock with
    | none => exact .inl hv
    | some k => exact .inr (by rw [hv, h]; simp)
  · exact .inr fun e => h e.symm
end
end Go.Proofs.Ytnfohlabmidliaa
