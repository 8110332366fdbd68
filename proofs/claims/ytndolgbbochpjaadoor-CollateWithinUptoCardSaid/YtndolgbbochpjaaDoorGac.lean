import Derived.Test.YtndolgbbochpjaaDoorGab
import Derived.WalkLawsBesides
import Derived.Laws.EntriesVeiled
import Derived.Deep.WholeRow
import Derived.Deep.RegionHeld3
import Derived.Deep.CutBlock
import Derived.Deep.DeepCutAuto
import Derived.Test.YtndolgbbochpjaaDoorGaa
import Derived.RangeFuncBox
import Derived.Shelf.Abstract
import Derived.RangeFuncNested
import Derived.RangeFuncBound
import Derived.RangeFuncCalls
import Derived.RangeFuncLeaves
import Derived.Shelf.RegionOpen
import Derived.OwnWalkIn
import Derived.TacticsInMore
import Derived.LoopNIn
import Derived.LoopIn
import Derived.Stop.RegionWithIn
/-
  Layer 4: the methods of a shape; holder; right.
-/
namespace Go.Proofs.YtndolgbbochpjaaDoor
open Go.RowKit
set_option linter.unusedVariables false

theorem vret_b {a b : Bool} (h : a = b) : Ending.returned (.bool a) = .returned (.bool b) := by rw [h]
set_option maxRecDepth 20000 in
theorem vright_any (s : ByteArray) (w : World) (hm : s.size ≤ maxLen) (htab : UTab w) :
    Calls Tryd.prog 80 #[.string s] w fun e w' => e = .returned (.bool (validS s)) ∧ Below w.heap.size w w' := by
  have hc := check_any s _ rfl w hm htab
  unfold walkR at hc
  by_cases h : (ptsL s.data.toList).2 = s.data.toList.length
  · have HR := Lib.hid (show validS s = true from decide_eq_true h)
    rw [if_pos h] at hc
    clear h
    go_enter Tryd.func80, Tryd.ntmps80
    go_wp2_with fail
    refine hc.mono ?_
    rintro e w1 ⟨rfl, hb⟩
    go_wp2
    go_ret
    exact ⟨vret_b HR.out.symm, hb⟩
  · have HR := Lib.hid (show validS s = false from decide_eq_false h)
    rw [if_neg h] at hc
    clear h
    generalize (ptsL s.data.toList).2 = x at *
    go_enter Tryd.func80, Tryd.ntmps80
    go_wp2_with fail
    refine hc.mono ?_
    rintro e w1 ⟨rfl, hb⟩
    go_wp2
    go_ret
    exact ⟨vret_b HR.out.symm, hb⟩

set_option maxRecDepth 20000 in
theorem vholder_any (k : Int) (n s c y : Value) (w : World) :
    Calls Tryd.prog 73 #[.agg #[.int .i64 k, n, s, c, y]] w fun e w' => e = .returned (.bool (k == 5 || k == 6)) ∧ Below w.heap.size w w' := by
  by_cases h5 : k = 5
  · subst h5
    go_enter Tryd.func73, Tryd.ntmps73
    go_wp2
    go_ret
    exact ⟨rfl, (Below.refl _ _).alloc (Nat.le_refl _) _⟩
  · have e5 : (k == 5) = false := by rw [beq_eq_false_iff_ne]; exact h5
    go_enter Tryd.func73, Tryd.ntmps73
    go_wp2
    go_ret
    exact ⟨vret_b (by rw [e5]; rfl), (Below.refl _ _).alloc (Nat.le_refl _) _⟩

set_option maxRecDepth 20000 in
theorem vnumber_any (kn wi : Bool) (top : Int) (te ke ki : Bool) (k n : Int) (s c y : Value) (w : World) :
    Calls Tryd.prog 74 #[.agg #[.bool kn, .bool wi, .int .i64 top, .bool te, .bool ke, .bool ki], .agg #[.int .i64 k, .int .i64 n, s, c, y]] w fun e w' => e = .returned (.bool (numQ wi top n)) ∧ Below w.heap.size w w' := by
  have hb := bel_alloc (bel_alloc (Below.refl w.heap.size w) (.cells #[.bool kn, .bool wi, .int .i64 top, .bool te, .bool ke, .bool ki] 100)) (.cells #[.int .i64 k, .int .i64 n, s, c, y] 25)
  cases wi
  · by_cases h0 : 0 ≤ n
    · by_cases h1 : n ≤ top
      · have e0 := Lib.hid (show numQ false top n = true by simp [numQ, h0, h1])
        go_enter Tryd.func74, Tryd.ntmps74
        go_wp2
        go_ret
        exact ⟨vret_b e0.out.symm, hb⟩
      · have e0 := Lib.hid (show numQ false top n = false by simp [numQ, h1])
        have h1' : (n ≤ top) = False := by simp; omega
        go_enter Tryd.func74, Tryd.ntmps74
        go_wp2
        go_ret
        exact ⟨vret_b e0.out.symm, hb⟩
    · have e0 := Lib.hid (show numQ false top n = false by simp [numQ, h0])
      have h1' : (0 ≤ n) = False := by simp; omega
      go_enter Tryd.func74, Tryd.ntmps74
      go_wp2
      go_ret
      exact ⟨vret_b e0.out.symm, hb⟩
  · go_enter Tryd.func74, Tryd.ntmps74
    go_wp2
    go_ret
    exact ⟨rfl, hb⟩

set_option maxRecDepth 20000 in
theorem velements_any (kn wi : Bool) (top : Int) (te ke ki : Bool) (k n s : Value) (A : Option Addr) (m c : Nat) (y : Value) (w : World) :
    Calls Tryd.prog 76 #[.agg #[.bool kn, .bool wi, .int .i64 top, .bool te, .bool ke, .bool ki], .agg #[k, n, s, .slice A m c, y]] w fun e w' => e = .returned (.bool (eleQ ki m)) ∧ Below w.heap.size w w' := by
  have hb := bel_alloc (bel_alloc (Below.refl w.heap.size w) (.cells #[.bool kn, .bool wi, .int .i64 top, .bool te, .bool ke, .bool ki] 100)) (.cells #[k, n, s, .slice A m c, y] 25)
  by_cases h0 : m = 0
  · subst h0
    go_enter Tryd.func76, Tryd.ntmps76
    go_wp2
    go_ret
    exact ⟨rfl, hb⟩
  · have e0 : ((m : Int) == 0) = false := by rw [beq_eq_false_iff_ne]; omega
    have E1 := Lib.hid (show (m == 0) = false by rw [beq_eq_false_iff_ne]; exact h0)
    go_enter Tryd.func76, Tryd.ntmps76
    go_wp2
    go_ret
    exact ⟨vret_b (by unfold eleQ; rw [E1.out]; rfl), hb⟩

set_option maxRecDepth 20000 in
theorem vstring_any (kn wi : Bool) (top : Int) (te ke ki : Bool) (k n : Value) (s : ByteArray) (c y : Value) (w : World) (hm : s.size ≤ maxLen) (htab : UTab w) :
    Calls Tryd.prog 75 #[.agg #[.bool kn, .bool wi, .int .i64 top, .bool te, .bool ke, .bool ki], .agg #[k, n, .string s, c, y]] w fun e w' => e = .returned (.bool (strQ te s)) ∧ Below w.heap.size w w' := by
  have hb := bel_alloc (bel_alloc (Below.refl w.heap.size w) (.cells #[.bool kn, .bool wi, .int .i64 top, .bool te, .bool ke, .bool ki] 100)) (.cells #[k, n, .string s, c, y] 25)
  cases hs : s.toList.isEmpty
  · have HR := Lib.hid (show strQ te s = (te && validS s) by unfold strQ; rw [hs]; rfl)
    have hs2 : s.toList ≠ [] := by intro h; rw [h] at hs; cases hs
    have hs3 : (s.toList == []) = false := by rw [beq_eq_false_iff_ne]; exact hs2
    cases te
    · go_enter Tryd.func75, Tryd.ntmps75
      go_wp2
      go_ret
      exact ⟨vret_b HR.out.symm, hb⟩
    · have hr := vright_any s _ hm (htab.below hb htab.lt)
      go_enter Tryd.func75, Tryd.ntmps75
      go_wp2_with fail
      refine hr.mono ?_
      rintro e w1 ⟨rfl, hb1⟩
      go_wp2
      go_ret
      exact ⟨vret_b HR.out.symm, bel_next hb hb1⟩
  · have HR := Lib.hid (show strQ te s = true by unfold strQ; rw [hs]; rfl)
    have hs2 : s.toList = [] := List.isEmpty_iff.1 hs
    go_enter Tryd.func75, Tryd.ntmps75
    go_wp2
    go_ret
    exact ⟨vret_b HR.out.symm, hb⟩

set_option maxRecDepth 20000 in
set_option maxHeartbeats 1000000 in
theorem vmembers_any (kn wi : Bool) (top : Int) (te ke ki : Bool) (k n s : Value) (A : Option Addr) (m c : Nat) (A' : Option Addr) (m' c' : Nat) (keys : List ByteArray) (B : Nat) (w : World) (hm' : m' ≤ maxLen)
    (hk : Shows w B 1 A' m' (keys.map Value.string)) (hB : B ≤ w.heap.size) (hsz : ∀ x ∈ keys, x.size ≤ maxLen) (htab : UTab w) :
    Calls Tryd.prog 77 #[.agg #[.bool kn, .bool wi, .int .i64 top, .bool te, .bool ke, .bool ki], .agg #[k, n, s, .slice A m c, .slice A' m' c']] w fun e w' => e = .returned (.bool (memQ ke m m' keys)) ∧ Below w.heap.size w w' := by
  have hb := bel_alloc (bel_alloc (Below.refl w.heap.size w) (.cells #[.bool kn, .bool wi, .int .i64 top, .bool te, .bool ke, .bool ki] 100)) (.cells #[k, n, s, .slice A m c, .slice A' m' c'] 25)
  unfold maxLen at hm'
  cases ke
  · by_cases h0 : m' = 0
    · subst h0
      go_enter Tryd.func77, Tryd.ntmps77
      go_wp2
      go_ret
      exact ⟨rfl, hb⟩
    · have e0 : ((m' : Int) == 0) = false := by rw [beq_eq_false_iff_ne]; omega
      have e1 := Lib.hid (show (m' == 0) = false by rw [beq_eq_false_iff_ne]; exact h0)
      go_enter Tryd.func77, Tryd.ntmps77
      go_wp2
      go_ret
      exact ⟨vret_b (by unfold memQ; rw [if_neg (by decide), e1.out]), hb⟩
  · by_cases hmm : m' = m
    · have Hl := Lib.hid (keys_len hk)
      have HR := Lib.hid (show memQ true m m' keys = keysB keys by unfold memQ; rw [if_pos rfl, hmm]; simp)
      subst hmm
      have HK := Lib.hid hk
      have Hsz := Lib.hid hsz
      clear hk hsz
      go_enter Tryd.func77, Tryd.ntmps77
      go_wp2
      go_loopw [24] (fun i wr => ∃ j : Nat, j ≤ m' ∧ i = .int .i64 j ∧ (∀ q, q < j → keyOK keys q = true) ∧ Below ((w.alloc (.cells #[.bool kn, .bool wi, .int .i64 top, .bool te, .bool true, .bool ki] 100)).alloc (.cells #[k, n, s, .slice A m' c, .slice A' m' c'] 25)).heap.size ((w.alloc (.cells #[.bool kn, .bool wi, .int .i64 top, .bool te, .bool true, .bool ki] 100)).alloc (.cells #[k, n, s, .slice A m' c, .slice A' m' c'] 25)) wr) (fun i _ => m' - (intOf i).toNat)
      case atStart => exact ⟨0, by omega, rfl, fun q h => by omega, Below.refl _ _⟩
      case round =>
        obtain ⟨j, hj, rfl, hq, hbr⟩ := hrel
        have d4 : wr.cell? ⟨w.heap.size + 1, 4, none⟩ = some (.slice A' m' c') := by
          have := new_later hbr 4 rfl
          simpa using this
        have hb0 := bel_next hb hbr
        have sr := hbr.size
        by_cases hlt : j < m'
        · have hlt' : (j : Int) < m' := by omega
          have hj0 : (0 : Int) ≤ j := by omega
          have htr := htab.below hb0 htab.lt
          obtain ⟨b, off, rfl, hbk, hcj⟩ := key_at (HK.out.below (hb0.mono hB)) hlt
          have hzj : (keys.getD j ⟨#[]⟩).size ≤ maxLen := by
            rw [List.getD_eq_getElem?_getD, List.getElem?_eq_getElem (by rw [Hl.out]; exact hlt)]
            exact Hsz.out _ (List.getElem_mem _)
          have hr := vright_any (keys.getD j ⟨#[]⟩) wr hzj htr
          have Hin := Lib.hid (fun h : keyOK keys j = true => show ∀ q, q < j + 1 → keyOK keys q = true from fun q h2 => if e : q = j then e ▸ h else hq q (by omega))
          have Hno := Lib.hid (fun h : keyOK keys j = false => show keysB keys = false by
            cases hk : keysB keys with
            | false => rfl
            | true => have := (keysB_iff keys).1 hk j (by rw [Hl.out]; exact hlt); rw [h] at this; cases this)
          have Hok := Lib.hid (show keyOK keys j = (validS (keys.getD j ⟨#[]⟩) && (j == 0 || Op.bytesLess (keys.getD (j - 1) ⟨#[]⟩).toList (keys.getD j ⟨#[]⟩).toList)) from rfl)
          cases hv : validS (keys.getD j ⟨#[]⟩)
          · have HF := Lib.hid (Hno.out (by rw [Hok.out, hv]; rfl))
            rw [hv] at hr
            clear hq hv
            generalize keys.getD j ⟨#[]⟩ = x at *
            go_wp2_with fail
            refine hr.mono ?_
            rintro e w1 ⟨rfl, hb1⟩
            go_wp2
            go_ret
            exact ⟨vret_b (by rw [HR.out, HF.out]), bel_next hb0 hb1⟩
          · rw [hv] at hr
            have Hv := Lib.hid hv
            clear hv hq
            by_cases hj1 : j = 0
            · subst hj1
              rw [Nat.add_zero] at hcj
              have HQ := Lib.hid (Hin.out (by rw [Hok.out, Hv.out]; rfl))
              generalize keys.getD 0 ⟨#[]⟩ = x at *
              go_wp2_with fail
              refine hr.mono ?_
              rintro e w1 ⟨rfl, hb1⟩
              go_wp2
              go_roundw
              case rel => exact ⟨1, by omega, by go_num, HQ.out, bel_next hbr hb1⟩
              case measure => simp [intOf]; omega
            · have hjp : (0 : Int) < j := by omega
              obtain ⟨b', off', e, _, hcp⟩ := key_at (HK.out.below (hb0.mono hB)) (i := j - 1) (by omega)
              injection e with e
              injection e with e1 e2
              subst e1; subst e2
              have hjb := Lib.hid (show (j == 0) = false by rw [beq_eq_false_iff_ne]; exact hj1)
              have hcp' : ∀ W, Below wr.heap.size wr W → W.cell? ⟨b, off + (j - 1), none⟩ = some (.string (keys.getD (j - 1) ⟨#[]⟩)) := fun W h => kept_later h hcp
              have d4' : ∀ W, Below wr.heap.size wr W → W.cell? ⟨w.heap.size + 1, 4, none⟩ = some (.slice (some ⟨b, off, none⟩) m' c') := fun W h => kept_later h d4
              have hjm : ((j : Int) - 1).toNat = j - 1 := by omega
              cases hless : Op.bytesLess (keys.getD (j - 1) ⟨#[]⟩).toList (keys.getD j ⟨#[]⟩).toList
              · have HF := Lib.hid (Hno.out (by rw [Hok.out, Hv.out, hjb.out, hless]; rfl))
                generalize keys.getD j ⟨#[]⟩ = x at *
                generalize keys.getD (j - 1) ⟨#[]⟩ = y at *
                clear Hok Hin Hno Hv
                go_wp2_with fail
                refine hr.mono ?_
                rintro e w1 ⟨rfl, hb1⟩
                have c1 := hcp' w1 hb1
                have c2 := d4' w1 hb1
                go_wp2
                go_ret
                exact ⟨vret_b (by rw [HR.out, HF.out]), bel_next hb0 hb1⟩
              · have HQ := Lib.hid (Hin.out (by rw [Hok.out, Hv.out, hjb.out, hless]; rfl))
                generalize keys.getD j ⟨#[]⟩ = x at *
                generalize keys.getD (j - 1) ⟨#[]⟩ = y at *
                clear Hok Hin Hno Hv
                go_wp2_with fail
                refine hr.mono ?_
                rintro e w1 ⟨rfl, hb1⟩
                have c1 := hcp' w1 hb1
                have c2 := d4' w1 hb1
                go_wp2
                go_roundw
                case rel => exact ⟨j + 1, by omega, by go_num, HQ.out, bel_next hbr hb1⟩
                case measure => simp [intOf]; omega
        · have hjm : j = m' := by omega
          have HT := Lib.hid (show keysB keys = true from (keysB_iff keys).2 fun i hi => hq i (by rw [Hl.out] at hi; omega))
          subst hjm
          clear hq
          go_wp2
          go_ret
          exact ⟨vret_b (by rw [HR.out, HT.out]), hb0⟩
    · have e0 : ((m' : Int) != (m : Int)) = true := by rw [bne_iff_ne]; omega
      have e1 := Lib.hid (show (m' == m) = false by rw [beq_eq_false_iff_ne]; exact hmm)
      go_enter Tryd.func77, Tryd.ntmps77
      go_wp2
      go_ret
      exact ⟨vret_b (by unfold memQ; rw [if_pos rfl, e1.out]; rfl), hb⟩
end Go.Proofs.YtndolgbbochpjaaDoor
/-
  Layer 4: fits.
-/
namespace Go.Proofs.YtndolgbbochpjaaDoor
open Go.RowKit
set_option linter.unusedVariables false

theorem fit_mk (k n : Int) (s : ByteArray) (cA : Option Addr) (cn cc : Nat) (kA : Option Addr) (kn kc : Nat) (keys : List ByteArray) (kids : List VT) : (VT.mk k n s cA cn cc kA kn kc keys kids).fit = (shKnown k && (numB k n && (strB k s && (eleB k cn && memB k cn kn keys)))) := rfl
/-- The four checks, as they lie in their array. -/
def chk : Array Value := #[.func (.func 74) #[] #[], .func (.func 75) #[] #[], .func (.func 76) #[] #[], .func (.func 77) #[] #[]]
set_option maxRecDepth 20000 in
theorem chk_at : (∀ w, (Instr.index 103 (.agg chk) (.int .i64 0)).run Tryd.prog w = .ok (.func (.func 74) #[] #[]) w) ∧ (∀ w, (Instr.index 103 (.agg chk) (.int .i64 1)).run Tryd.prog w = .ok (.func (.func 75) #[] #[]) w) ∧
    (∀ w, (Instr.index 103 (.agg chk) (.int .i64 2)).run Tryd.prog w = .ok (.func (.func 76) #[] #[]) w) ∧ (∀ w, (Instr.index 103 (.agg chk) (.int .i64 3)).run Tryd.prog w = .ok (.func (.func 77) #[] #[]) w) :=
  ⟨fun _ => by kernel_rfl, fun _ => by kernel_rfl, fun _ => by kernel_rfl, fun _ => by kernel_rfl⟩
set_option maxRecDepth 20000 in
set_option maxHeartbeats 2000000 in
theorem fits_any (k n : Int) (s : ByteArray) (cA : Option Addr) (cn cc : Nat) (kA : Option Addr) (kn kc : Nat) (keys : List ByteArray) (kids : List VT) (B : Nat) (w : World) (hL : Lie w B (.mk k n s cA cn cc kA kn kc keys kids)) (hB : B ≤ w.heap.size) (htab : UTab w) (hst : STab w) :
    Calls Tryd.prog 65 #[.agg #[.int .i64 k, .int .i64 n, .string s, .slice cA cn cc, .slice kA kn kc]] w fun e w' => e = .returned (.bool (VT.fit (.mk k n s cA cn cc kA kn kc keys kids))) ∧ Below w.heap.size w w' := by
  obtain ⟨hc, hk, hz, -⟩ := hL
  have hb := bel_alloc (Below.refl w.heap.size w) (.cells #[.int .i64 k, .int .i64 n, .string s, .slice cA cn cc, .slice kA kn kc] 25)
  by_cases hk0 : k < 0
  · have HR := Lib.hid (show VT.fit (.mk k n s cA cn cc kA kn kc keys kids) = false by
      have : shKnown k = false := by unfold shKnown; simp; omega
      rw [fit_mk, this]; rfl)
    have k0 : (k < 0) = True := by simp; omega
    clear hk0
    go_enter Tryd.func65, Tryd.ntmps65
    go_wp2
    go_ret
    exact ⟨vret_b HR.out.symm, hb⟩
  · have k0 : (k < 0) = False := by simp; omega
    by_cases hk7 : 7 ≤ k
    · have HR := Lib.hid (show VT.fit (.mk k n s cA cn cc kA kn kc keys kids) = false by
        have : shKnown k = false := by unfold shKnown; simp; omega
        rw [fit_mk, this]; rfl)
      have k7 : ((7 : Int) ≤ k) = True := by simp; omega
      clear hk0 hk7
      go_enter Tryd.func65, Tryd.ntmps65
      go_wp2
      go_ret
      exact ⟨vret_b HR.out.symm, hb⟩
    · obtain ⟨q, rfl⟩ : ∃ q : Nat, k = (q : Int) := ⟨k.toNat, by omega⟩
      have hq7 : q < 7 := by omega
      have k7 : ((7 : Int) ≤ (q : Int)) = False := by simp; omega
      have k8 : (q : Int) < 7 := by omega
      have k9 : (0 : Int) ≤ q := by omega
      obtain ⟨r0, r1, r2, r3, r4, r5⟩ := (hst.below hb hst.lt).row q hq7
      by_cases hkn : shKnown (q : Int) = true
      · have hkn' := hkn
        rw [hkn] at r0
        have HF := Lib.hid (show VT.fit (.mk (q : Int) n s cA cn cc kA kn kc keys kids) = (numQ (shWide (q : Int)) (shTop (q : Int)) n && (strQ (shText (q : Int)) s && (eleQ (shKids (q : Int)) cn && memQ (shKeys (q : Int)) cn kn keys))) by
          rw [fit_mk, hkn]; rfl)
        have hi : (Tryd.prog.info? 103).map (·.size) = some 4 := by kernel_rfl
        obtain ⟨x0, x1, x2, x3⟩ := chk_at
        unfold chk at x0 x1 x2 x3
        have hu : Tryd.prog.underlying 103 = some (.array 4 102) := by kernel_rfl
        have hsc := run_storeCells_new (P := Tryd.prog) (w.alloc (.cells #[.int .i64 (q : Int), .int .i64 n, .string s, .slice cA cn cc, .slice kA kn kc] 25)) 103 #[.nilFunc, .nilFunc, .nilFunc, .nilFunc] #[.func (.func 74) #[] #[], .func (.func 75) #[] #[], .func (.func 76) #[] #[], .func (.func 77) #[] #[]] hi rfl (by simp [Value.oneCell'])
        clear hk0 hk7 hkn hq7
        go_enter Tryd.func65, Tryd.ntmps65
        go_wp2
        have hb' : Below w.heap.size w ((w.alloc (.cells #[.int .i64 (q : Int), .int .i64 n, .string s, .slice cA cn cc, .slice kA kn kc] 25)).alloc (.cells #[.func (.func 74) #[] #[], .func (.func 75) #[] #[], .func (.func 76) #[] #[], .func (.func 77) #[] #[]] 103)) := bel_alloc hb _
        have hvv : ∀ j u, (#[Value.int .i64 (q : Int), .int .i64 n, .string s, .slice cA cn cc, .slice kA kn kc] : Array Value)[j]? = some u → ((w.alloc (.cells #[.int .i64 (q : Int), .int .i64 n, .string s, .slice cA cn cc, .slice kA kn kc] 25)).alloc (.cells #[.func (.func 74) #[] #[], .func (.func 75) #[] #[], .func (.func 76) #[] #[], .func (.func 77) #[] #[]] 103)).cell? ⟨w.heap.size, j, none⟩ = some u := fun j u hu => by
          have := new_later (w := w) (C := #[Value.int .i64 (q : Int), .int .i64 n, .string s, .slice cA cn cc, .slice kA kn kc]) (t := 25) (bel_alloc (Below.refl _ _) (.cells #[.func (.func 74) #[] #[], .func (.func 75) #[] #[], .func (.func 76) #[] #[], .func (.func 77) #[] #[]] 103)) j hu
          exact this
        have hrr : ∀ j u, (sRow (q : Int))[j]? = some u → ((w.alloc (.cells #[.int .i64 (q : Int), .int .i64 n, .string s, .slice cA cn cc, .slice kA kn kc] 25)).alloc (.cells #[.func (.func 74) #[] #[], .func (.func 75) #[] #[], .func (.func 76) #[] #[], .func (.func 77) #[] #[]] 103)).cell? ⟨1, q * 6 + j, none⟩ = some u := fun j u hu => by
          have hj : j < 6 := (List.getElem?_eq_some_iff.1 hu).1
          have := (hst.below hb' hst.lt) (q * 6 + j) u ((stab_at q j (by omega) hj).trans hu)
          rwa [Nat.zero_add] at this
        rw [sRow, hkn'] at hrr
        generalize (w.alloc (.cells #[.int .i64 (q : Int), .int .i64 n, .string s, .slice cA cn cc, .slice kA kn kc] 25)).alloc (.cells #[.func (.func 74) #[] #[], .func (.func 75) #[] #[], .func (.func 76) #[] #[], .func (.func 77) #[] #[]] 103) = W1 at *
        have v0 : ∀ W, Below W1.heap.size W1 W → W.cell? ⟨w.heap.size, 0, none⟩ = some (.int .i64 (q : Int)) := fun W h => kept_later h (hvv 0 _ rfl)
        have v1 : ∀ W, Below W1.heap.size W1 W → W.cell? ⟨w.heap.size, 1, none⟩ = some (.int .i64 n) := fun W h => kept_later h (hvv 1 _ rfl)
        have v2 : ∀ W, Below W1.heap.size W1 W → W.cell? ⟨w.heap.size, 2, none⟩ = some (.string s) := fun W h => kept_later h (hvv 2 _ rfl)
        have v3 : ∀ W, Below W1.heap.size W1 W → W.cell? ⟨w.heap.size, 3, none⟩ = some (.slice cA cn cc) := fun W h => kept_later h (hvv 3 _ rfl)
        have v4 : ∀ W, Below W1.heap.size W1 W → W.cell? ⟨w.heap.size, 4, none⟩ = some (.slice kA kn kc) := fun W h => kept_later h (hvv 4 _ rfl)
        have s0 : ∀ W, Below W1.heap.size W1 W → W.cell? ⟨1, q * 6, none⟩ = some (.bool true) := fun W h => kept_later h (hrr 0 _ rfl)
        have s1 : ∀ W, Below W1.heap.size W1 W → W.cell? ⟨1, q * 6 + 1, none⟩ = some (.bool (shWide (q : Int))) := fun W h => kept_later h (hrr 1 _ rfl)
        have s2 : ∀ W, Below W1.heap.size W1 W → W.cell? ⟨1, q * 6 + 2, none⟩ = some (.int .i64 (shTop (q : Int))) := fun W h => kept_later h (hrr 2 _ rfl)
        have s3 : ∀ W, Below W1.heap.size W1 W → W.cell? ⟨1, q * 6 + 3, none⟩ = some (.bool (shText (q : Int))) := fun W h => kept_later h (hrr 3 _ rfl)
        have s4 : ∀ W, Below W1.heap.size W1 W → W.cell? ⟨1, q * 6 + 4, none⟩ = some (.bool (shKeys (q : Int))) := fun W h => kept_later h (hrr 4 _ rfl)
        have s5 : ∀ W, Below W1.heap.size W1 W → W.cell? ⟨1, q * 6 + 5, none⟩ = some (.bool (shKids (q : Int))) := fun W h => kept_later h (hrr 5 _ rfl)
        have Hstr := Lib.hid (fun (W : World) (h : Below W1.heap.size W1 W) => vstring_any true (shWide (q : Int)) (shTop (q : Int)) (shText (q : Int)) (shKeys (q : Int)) (shKids (q : Int)) (.int .i64 (q : Int)) (.int .i64 n) s (.slice cA cn cc) (.slice kA kn kc) W hz.s (htab.below (bel_next hb' h) htab.lt))
        have Hmem := Lib.hid (fun (W : World) (h : Below W1.heap.size W1 W) => vmembers_any true (shWide (q : Int)) (shTop (q : Int)) (shText (q : Int)) (shKeys (q : Int)) (shKids (q : Int)) (.int .i64 (q : Int)) (.int .i64 n) (.string s) cA cn cc kA kn kc keys B W (Nat.le_trans hz.k1 hz.k2) (hk.below ((bel_next hb' h).mono hB)) (Nat.le_trans hB (bel_next hb' h).size) hz.keys (htab.below (bel_next hb' h) htab.lt))
        clear hvv hrr hc hk hz hsc hu hi r0 r1 r2 r3 r4 r5
        have hr1 : Below W1.heap.size W1 W1 := Below.refl _ _
        generalize shWide (q : Int) = wi at *
        generalize shTop (q : Int) = top at *
        generalize shText (q : Int) = te at *
        generalize shKeys (q : Int) = ke at *
        generalize shKids (q : Int) = ki at *
        obtain ⟨b0, hb0⟩ : ∃ b0, numQ wi top n = b0 := ⟨_, rfl⟩
        obtain ⟨b1, hb1⟩ : ∃ b1, strQ te s = b1 := ⟨_, rfl⟩
        obtain ⟨b2, hb2⟩ : ∃ b2, eleQ ki cn = b2 := ⟨_, rfl⟩
        obtain ⟨b3, hb3⟩ : ∃ b3, memQ ke cn kn keys = b3 := ⟨_, rfl⟩
        rw [hb1] at Hstr
        rw [hb3] at Hmem
        rw [hb0, hb1, hb2, hb3] at HF
        have Hnum := Lib.hid (fun (W : World) => vnumber_any true wi top te ke ki (q : Int) n (.string s) (.slice cA cn cc) (.slice kA kn kc) W)
        rw [hb0] at Hnum
        have Hele := Lib.hid (fun (W : World) => velements_any true wi top te ke ki (.int .i64 (q : Int)) (.int .i64 n) (.string s) cA cn cc (.slice kA kn kc) W)
        rw [hb2] at Hele
        clear hb0 hb1 hb2 hb3
        go_loopw [24] (fun i wr => ∃ j : Nat, j ≤ 4 ∧ i = .int .i64 j ∧ (1 ≤ j → b0 = true) ∧ (2 ≤ j → b1 = true) ∧ (3 ≤ j → b2 = true) ∧ (4 ≤ j → b3 = true) ∧ Below W1.heap.size W1 wr) (fun i _ => 8 - (intOf i).toNat)
        case atStart => exact ⟨0, by omega, rfl, fun h => by omega, fun h => by omega, fun h => by omega, fun h => by omega, hr1⟩
        case round =>
          obtain ⟨j, hj, rfl, g0, g1, g2, g3, hbr⟩ := hrel
          rcases (show j = 0 ∨ j = 1 ∨ j = 2 ∨ j = 3 ∨ j = 4 by omega) with rfl | rfl | rfl | rfl | rfl
          · have hr2 : Below W1.heap.size W1 wr.drew := below_drewN hbr 1
            go_upto_region 7 with fail
            cases b0
            · go_region_held3 (fun W => Below W1.heap.size W1 W) (first | (with_reducible assumption) | exact Below.drew (by with_reducible assumption))
                ((go_at_call 74; (with_reducible refine (Hnum.out _).mono ?_); (rintro e wA ⟨rfl, hbA⟩); (have hSA := S_call hbA (by first | (with_reducible assumption) | exact Below.drew (by with_reducible assumption)) rfl)))
              all_goals
                go_wp2
                go_ret
                exact ⟨vret_b (by rw [HF.out]; simp), bel_next hb' (by first | with_reducible assumption | exact Below.drew (by with_reducible assumption))⟩
            · go_region_held3 (fun W => Below W1.heap.size W1 W) (first | (with_reducible assumption) | exact Below.drew (by with_reducible assumption))
                ((go_at_call 74; (with_reducible refine (Hnum.out _).mono ?_); (rintro e wA ⟨rfl, hbA⟩); (have hSA := S_call hbA (by first | (with_reducible assumption) | exact Below.drew (by with_reducible assumption)) rfl)))
              all_goals
                go_wp2
                go_roundw
                case rel => exact ⟨1, by omega, by go_num, fun _ => by first | rfl | trivial, fun h => by omega, fun h => by omega, fun h => by omega, by first | with_reducible assumption | exact Below.drew (by with_reducible assumption)⟩
                case measure => simp [intOf]
          · have hr2 : Below W1.heap.size W1 wr.drew := below_drewN hbr 1
            go_upto_region 7 with fail
            cases b1
            · go_region_held3 (fun W => Below W1.heap.size W1 W) (first | (with_reducible assumption) | exact Below.drew (by with_reducible assumption))
                ((go_at_call 75; (with_reducible refine (Hstr.out _ (by with_reducible assumption)).mono ?_); (rintro e wA ⟨rfl, hbA⟩); (have hSA := S_call hbA (by first | (with_reducible assumption) | exact Below.drew (by with_reducible assumption)) rfl)))
              all_goals
                go_wp2
                go_ret
                exact ⟨vret_b (by rw [HF.out]; simp), bel_next hb' (by first | with_reducible assumption | exact Below.drew (by with_reducible assumption))⟩
            · go_region_held3 (fun W => Below W1.heap.size W1 W) (first | (with_reducible assumption) | exact Below.drew (by with_reducible assumption))
                ((go_at_call 75; (with_reducible refine (Hstr.out _ (by with_reducible assumption)).mono ?_); (rintro e wA ⟨rfl, hbA⟩); (have hSA := S_call hbA (by first | (with_reducible assumption) | exact Below.drew (by with_reducible assumption)) rfl)))
              all_goals
                go_wp2
                go_roundw
                case rel => exact ⟨2, by omega, by go_num, fun _ => g0 (by omega), fun _ => by first | rfl | trivial, fun h => by omega, fun h => by omega, by first | with_reducible assumption | exact Below.drew (by with_reducible assumption)⟩
                case measure => simp [intOf]
          · have hr2 : Below W1.heap.size W1 wr.drew := below_drewN hbr 1
            go_upto_region 7 with fail
            cases b2
            · go_region_held3 (fun W => Below W1.heap.size W1 W) (first | (with_reducible assumption) | exact Below.drew (by with_reducible assumption))
                ((go_at_call 76; (with_reducible refine (Hele.out _).mono ?_); (rintro e wA ⟨rfl, hbA⟩); (have hSA := S_call hbA (by first | (with_reducible assumption) | exact Below.drew (by with_reducible assumption)) rfl)))
              all_goals
                go_wp2
                go_ret
                exact ⟨vret_b (by rw [HF.out]; simp), bel_next hb' (by first | with_reducible assumption | exact Below.drew (by with_reducible assumption))⟩
            · go_region_held3 (fun W => Below W1.heap.size W1 W) (first | (with_reducible assumption) | exact Below.drew (by with_reducible assumption))
                ((go_at_call 76; (with_reducible refine (Hele.out _).mono ?_); (rintro e wA ⟨rfl, hbA⟩); (have hSA := S_call hbA (by first | (with_reducible assumption) | exact Below.drew (by with_reducible assumption)) rfl)))
              all_goals
                go_wp2
                go_roundw
                case rel => exact ⟨3, by omega, by go_num, fun _ => g0 (by omega), fun _ => g1 (by omega), fun _ => by first | rfl | trivial, fun h => by omega, by first | with_reducible assumption | exact Below.drew (by with_reducible assumption)⟩
                case measure => simp [intOf]
          · have hr2 : Below W1.heap.size W1 wr.drew := below_drewN hbr 1
            go_upto_region 7 with fail
            cases b3
            · go_region_held3 (fun W => Below W1.heap.size W1 W) (first | (with_reducible assumption) | exact Below.drew (by with_reducible assumption))
                ((go_at_call 77; (with_reducible refine (Hmem.out _ (by with_reducible assumption)).mono ?_); (rintro e wA ⟨rfl, hbA⟩); (have hSA := S_call hbA (by first | (with_reducible assumption) | exact Below.drew (by with_reducible assumption)) rfl)))
              all_goals
                go_wp2
                go_ret
                exact ⟨vret_b (by rw [HF.out]; simp), bel_next hb' (by first | with_reducible assumption | exact Below.drew (by with_reducible assumption))⟩
            · go_region_held3 (fun W => Below W1.heap.size W1 W) (first | (with_reducible assumption) | exact Below.drew (by with_reducible assumption))
                ((go_at_call 77; (with_reducible refine (Hmem.out _ (by with_reducible assumption)).mono ?_); (rintro e wA ⟨rfl, hbA⟩); (have hSA := S_call hbA (by first | (with_reducible assumption) | exact Below.drew (by with_reducible assumption)) rfl)))
              all_goals
                go_wp2
                go_roundw
                case rel => exact ⟨4, by omega, by go_num, fun _ => g0 (by omega), fun _ => g1 (by omega), fun _ => g2 (by omega), fun _ => by first | rfl | trivial, by first | with_reducible assumption | exact Below.drew (by with_reducible assumption)⟩
                case measure => simp [intOf]
          · have e0 := g0 (by omega)
            have e1 := g1 (by omega)
            have e2 := g2 (by omega)
            have e3 := g3 (by omega)
            subst e0 e1 e2 e3
            clear g0 g1 g2 g3
            go_wp2
            go_ret
            exact ⟨vret_b (by rw [HF.out]; rfl), bel_next hb' hbr⟩
      · have hkn' : shKnown (q : Int) = false := by simpa using hkn
        rw [hkn'] at r0
        have HR := Lib.hid (show VT.fit (.mk (q : Int) n s cA cn cc kA kn kc keys kids) = false by rw [fit_mk, hkn']; rfl)
        clear hk0 hk7 hkn hkn' hq7
        go_enter Tryd.func65, Tryd.ntmps65
        go_wp2
        go_ret
        exact ⟨vret_b HR.out.symm, hb⟩
end Go.Proofs.YtndolgbbochpjaaDoor
/-
  Slices of whole numbers. No program in sight.
-/
namespace Go.Proofs.YtndolgbbochpjaaDoor
open Go.RowKit

/-- A whole number as a cell holds it. -/
def iv (x : Int) : Value := .int .i64 x
def nats (l : List Nat) : List Int := l.map fun (c : Nat) => (c : Int)
theorem nats_len (l : List Nat) : (nats l).length = l.length := by simp [nats]
theorem nats_snoc (l : List Nat) (c : Nat) : nats (l ++ [c]) = nats l ++ [(c : Int)] := by simp [nats]
theorem nats_inj : ∀ {l m : List Nat}, nats l = nats m → l = m
  | [], [], _ => rfl
  | [], _ :: _, h => by simp [nats] at h
  | _ :: _, [], h => by simp [nats] at h
  | a :: l, b :: m, h => by
    simp only [nats, List.map_cons, List.cons.injEq] at h
    obtain ⟨h1, h2⟩ := h
    rw [show a = b by omega, nats_inj (l := l) (m := m) h2]
theorem iv_one (l : List Int) : ∀ u ∈ l.map iv, u.oneCell' = true := by
  intro u hu
  obtain ⟨x, _, rfl⟩ := List.mem_map.1 hu
  rfl
def Ints (w : World) (B : Nat) (A : Option Addr) (n : Nat) (l : List Int) : Prop := Shows w B 1 A n (l.map iv)
section
variable {w w' : World} {B B' n : Nat} {A : Option Addr} {l : List Int}
theorem Ints.len (h : Ints w B A n l) : l.length = n := by have := h.1; simpa using this
theorem Ints.more (h : Ints w B A n l) (hB : B ≤ B') : Ints w B' A n l := Shows.more h hB
theorem Ints.below (h : Ints w B A n l) (hb : Below B w w') : Ints w' B A n l := Shows.below h hb
theorem Ints.drewN (h : Ints w B A n l) (k : Nat) : Ints (w.drewN k) B A n l := h
theorem Ints.drew (h : Ints w B A n l) : Ints w.drew B A n l := h
theorem Ints.alloc (h : Ints w B A n l) (hB : B ≤ w.heap.size) (o : Obj) : Ints (w.alloc o) B A n l := Shows.alloc h hB o
theorem Ints.first (h : Ints w B A n l) {k : Nat} (hk : k ≤ n) : Ints w B A k (l.take k) := by
  have := Shows.first h hk
  unfold Ints
  simpa [List.map_take] using this
theorem Ints.cell (h : Ints w B A n l) {k : Nat} (hk : k < n) : ∃ b off, A = some ⟨b, off, none⟩ ∧ b < B ∧ w.cell? ⟨b, off + k, none⟩ = some (.int .i64 (l.getD k 0)) := by
  obtain ⟨b, off, e, hb, hc⟩ := h.2 (by omega)
  refine ⟨b, off, e, hb, hc k _ ?_⟩
  have hl := h.len
  rw [List.getElem?_map, List.getElem?_eq_getElem (by omega), List.getD_eq_getElem?_getD, List.getElem?_eq_getElem (by omega)]
  rfl
theorem Ints.own {base : Nat} {e : TypeId} {c : Nat} (h : w.ownsRow base e 1 (.slice A n c) n (l.map iv)) : Ints w w.heap.size A n l := Shows.own h
theorem Ints.zero (A : Option Addr) : Ints w B A 0 [] := Shows.zero A
end
theorem ints_new (w : World) (l : List Int) (C : Array Value) (t : TypeId) (fr : Nat × Nat) (hC : C.toList = l.map iv) : Ints (w.alloc (.cells C t fr)) (w.heap.size + 1) (some ⟨w.heap.size, 0, none⟩) l.length l :=
  ⟨by simp, fun _ => ⟨w.heap.size, 0, rfl, by omega, fun j u hu => by
    rw [cell_of_row _ _ _ _ _ _ (heap_alloc_new w _), Nat.zero_add]
    rw [← hC] at hu
    simpa using hu⟩⟩
theorem takeI_snoc (l : List Int) (k : Nat) (h : k < l.length) : l.take (k + 1) = l.take k ++ [l.getD k 0] := by
  rw [List.take_succ_eq_append_getElem h, List.getD_eq_getElem?_getD, List.getElem?_eq_getElem h]
  rfl
theorem boxed_below {W W' : World} {B : Nat} {t : TypeId} {v : Value} (h : Boxed W B t v) (hb : Below W.heap.size W W') : Boxed W' B t v := (hb.block B h.lt).trans h
end Go.Proofs.YtndolgbbochpjaaDoor
/-
  A range over a function whose iterator writes a variable of its own: the statement opened into the iterator's one call, and a round into the body's walk; what the iterator may touch is the caller's to say. No program in sight.
-/
namespace Go.Proofs.YtndolgbbochpjaaDoor
open Go.RowKit Go.Shelf

variable {F : Fence} {n : Nat} {P : Program}

/-- The record that the statement lays. -/
def recOf (fn : FuncId) (tmps : Array Value) (ps : Array Tmp) (assign body : Code) (D : Nat) (st : LoopState) (pe : Option Code) : Loop :=
  { state := st, pending := pe, fn := fn, tmps := tmps, params := ps, assign := assign, body := body, defers := D }
/-- What follows the iterator's return, by the jump that waits. -/
def goesOn (F : Fence) (n : Nat) (P : Program) (Q : Exit → Act → World → Prop) (a : Act) (W : World) : Option Code → Prop
  | none => Q .normal a W
  | some c => c.wpIn F n P Q a W

theorem range_open {g : Operand} {ps : Array Tmp} {assign body : Code} {Q : Exit → Act → World → Prop} {a : Act} {w : World} {gf : Nat} {lb : Array Value}
    (hro : F.round = none) (h1 : 1 ≤ n) (hg : a.eval g = .func (.func gf) #[] lb) (hFg : F.fn gf) (eg : ∀ args w, (callFunc gf args).run P w = .ok (.enter gf args) w)
    (hcall : ∀ fn, F.fn fn → CallsIn F (n - 1) P gf (#[.func (.yield (w.heap.size + 1)) #[] #[]] ++ lb) ((w.alloc (.deferred (some []))).alloc (.loop (recOf fn a.tmps ps assign body w.heap.size .ready none)))
      fun e B => (∃ v, e = .returned v) ∧ ∃ st pe, B.heap[w.heap.size + 1]? = some (.loop (recOf fn a.tmps ps assign body w.heap.size st pe)) ∧ st ≠ .busy ∧
        goesOn F n P Q { a with defers := { target := .collected w.heap.size, args := #[] } :: a.defers } (B.putObj (w.heap.size + 1) (.loop (recOf fn a.tmps ps assign body w.heap.size .exhausted pe))) pe) :
    (Code.rangeFunc g ps assign body).wpIn F n P Q a w := by
  refine wpIn_rangeFunc fun fn hfn => ?_
  rw [hro]
  refine ⟨_, _, _, { target := .fn (.func gf) lb, args := #[.func (.yield (w.heap.size + 1)) #[] #[]] }, (w.alloc (.deferred (some []))).alloc (.loop (recOf fn a.tmps ps assign body w.heap.size .ready none)), gf, _, _, run_enterLoop_outer fn a.tmps ps assign body, ?_, ?_, ?_, fun _ => h1, (hcall fn hfn).mono ?_⟩
  · simp only [resolve, hg]
    simp [go_sem, recOf]
  · intro f' hf'
    simp [Target.leads] at hf'
    subst hf'
    exact hFg
  · simp [invoke, go_sem, eg]
  · rintro e B ⟨⟨v, rfl⟩, st, pe, hl, hb, hgo⟩
    refine ⟨pe, _, run_endLoop hl hb, ?_⟩
    cases pe <;> exact hgo

/-- How a round may be left, and what then holds. -/
def roundEnd (l : Nat) (r : Option Code → LoopState → Loop) (R : Ending → World → Prop) : Exit → Act → World → Prop
  | .normal, _, W => W.heap[l]? = some (.loop (r none .busy)) ∧ R (.returned (.bool true)) (W.putObj l (.loop (r none .ready)))
  | .exit id, _, W => W.heap[l]? = some (.loop (r none .busy)) ∧ R (.returned (.bool false)) (W.putObj l (.loop (r (some (.exit id)) .done)))
  | _, _, _ => False
theorem round_open {m l : Nat} {fn : FuncId} {tmps : Array Value} {ps : Array Tmp} {assign body : Code} {D : Nat} {args : Array Value} {W : World} {R : Ending → World → Prop} (hF : F.fn fn)
    (hl : W.heap[l]? = some (.loop (recOf fn tmps ps assign body D .ready none))) (hs : args.size = ps.size)
    (h : assign.wpIn (F.inRound l) m P (Exit.then (fun a' W2 => W2.heap[l]? = some (.loop (recOf fn tmps ps assign body D .ready none)) ∧
        body.wpIn (F.inRound l) m P (roundEnd l (fun pe st => recOf fn tmps ps assign body D st pe) R) a' (W2.putObj l (.loop (recOf fn tmps ps assign body D .busy none)))) (fun _ _ _ => False))
      { tmps := (ps.zip args).foldl (fun t (p, v) => t.setIfInBounds p v) tmps, defers := [] } W) :
    YieldAt F m P l args W R := by
  refine ⟨fn, _, assign, body, run_yield hl hs, roundIn_of_wpIn hF (wpIn_mono h ?_)⟩
  intro e a' W2 he
  cases e with
  | normal =>
    obtain ⟨h2, hb⟩ := he
    refine ⟨_, run_beginRound h2 rfl, wpIn_mono hb ?_⟩
    intro e3 a3 W3 h3
    cases e3 with
    | normal => exact ⟨_, _, run_endRound none h3.1, h3.2⟩
    | exit id => exact ⟨_, _, run_endRound (some (.exit id)) h3.1, h3.2⟩
    | ret => exact h3.elim
    | goto t => exact h3.elim
    | panic ch => exact h3.elim
    | outgrown => exact h3.elim
  | ret => exact he.elim
  | exit id => exact he.elim
  | goto t => exact he.elim
  | panic ch => exact he.elim
  | outgrown => exact he.elim
end Go.Proofs.YtndolgbbochpjaaDoor
/-
  Layer 4: the nodes of a value, from the outside in: an iterator that calls itself.
-/
namespace Go.Proofs.YtndolgbbochpjaaDoor
open Go.RowKit Go.Shelf
attribute [local go_sem] Oper.semAt_some
set_option linter.unusedVariables false

/-- Whatever lies from a block on stays as it is; there may be more. -/
def Keep (n : Nat) (W W' : World) : Prop := W.heap.size ≤ W'.heap.size ∧ ∀ b, n ≤ b → b < W.heap.size → W'.heap[b]? = W.heap[b]?
theorem Keep.refl (n : Nat) (W : World) : Keep n W W := ⟨Nat.le_refl _, fun _ _ _ => rfl⟩
theorem Keep.trans {n : Nat} {A B C : World} (h : Keep n A B) (k : Keep n B C) : Keep n A C := ⟨Nat.le_trans h.1 k.1, fun b hb hl => (k.2 b hb (Nat.lt_of_lt_of_le hl h.1)).trans (h.2 b hb hl)⟩
theorem Keep.of_below {n : Nat} {W W' : World} (h : Below W.heap.size W W') : Keep n W W' := ⟨h.size, fun b _ hl => h.block b hl⟩
theorem Keep.cell {n : Nat} {W W' : World} (h : Keep n W W') {b o : Nat} {v : Value} (hb : n ≤ b) (hc : W.cell? ⟨b, o, none⟩ = some v) : W'.cell? ⟨b, o, none⟩ = some v := by
  have hl := World.block_lt_of_cell? W _ hc
  have := h.2 b hb hl
  simp only [World.cell?] at hc ⊢
  rw [this]; exact hc
theorem nodes_split {k n : Int} {s : ByteArray} {cA : Option Addr} {cn cc : Nat} {kA : Option Addr} {kn kc : Nat} {keys : List ByteArray} {kids : List VT} (o j : Nat) {x : VT} (hx : kids[j]? = some x) :
    (VT.mk k n s cA cn cc kA kn kc keys kids).nodesL o = ((o + hN (k == 5 || k == 6), VT.mk k n s cA cn cc kA kn kc keys kids) :: (kids.take j).flatMap fun x => x.nodesL (o + hN (k == 5 || k == 6))) ++ (x.nodesL (o + hN (k == 5 || k == 6)) ++ (kids.drop (j + 1)).flatMap fun x => x.nodesL (o + hN (k == 5 || k == 6))) := by
  have hj := (List.getElem?_eq_some_iff.1 hx).1
  have hx' := (List.getElem?_eq_some_iff.1 hx).2
  have e : kids = kids.take j ++ (x :: kids.drop (j + 1)) := by
    have := List.take_append_drop j kids
    rw [List.drop_eq_getElem_cons hj, hx'] at this
    exact this.symm
  rw [nodes_mk, List.cons_append]
  congr 1
  have := congrArg (fun l => l.flatMap fun x : VT => x.nodesL (o + hN (k == 5 || k == 6))) e
  simp only [List.flatMap_append, List.flatMap_cons] at this
  exact this
theorem take_flat {α β : Type} (f : α → List β) (l : List α) (j : Nat) {x : α} (hx : l[j]? = some x) : (l.take (j + 1)).flatMap f = (l.take j).flatMap f ++ f x := by
  have hj := (List.getElem?_eq_some_iff.1 hx).1
  have hx' := (List.getElem?_eq_some_iff.1 hx).2
  rw [List.take_succ_eq_append_getElem hj, List.flatMap_append, hx']
  simp

/-- What the walk over a tree tells and leaves. -/
def WPost (J : List (Nat × VT) → World → Prop) (Jx : World → Prop) (n₁ : Nat) (pre L : List (Nat × VT)) (W : World) (e : Ending) (W' : World) : Prop :=
  e = .returned (.bool (passes pre L)) ∧ (passes pre L = true → J (pre ++ L) W') ∧ (passes pre L = false → Jx W') ∧ Keep n₁ W W'
def YPost (J : List (Nat × VT) → World → Prop) (Jx : World → Prop) (n₁ : Nat) (pre : List (Nat × VT)) (x : Nat × VT) (W : World) (e : Ending) (W' : World) : Prop :=
  e = .returned (.bool (stepOK pre x)) ∧ (stepOK pre x = true → J (pre ++ [x]) W') ∧ (stepOK pre x = false → Jx W') ∧ Keep n₁ W W'
theorem WPost.yes {J : List (Nat × VT) → World → Prop} {Jx : World → Prop} {n₁ : Nat} {pre L : List (Nat × VT)} {W W' : World} (h : passes pre L = true) (hj : J (pre ++ L) W') (hk : Keep n₁ W W') : WPost J Jx n₁ pre L W (.returned (.bool true)) W' :=
  ⟨by rw [h], fun _ => hj, fun e => (by rw [h] at e; cases e), hk⟩
theorem WPost.no {J : List (Nat × VT) → World → Prop} {Jx : World → Prop} {n₁ : Nat} {pre L : List (Nat × VT)} {W W' : World} (h : passes pre L = false) (hj : Jx W') (hk : Keep n₁ W W') : WPost J Jx n₁ pre L W (.returned (.bool false)) W' :=
  ⟨by rw [h], fun e => (by rw [h] at e; cases e), fun _ => hj, hk⟩
theorem step_le {L : List (Nat × VT)} {d : Nat} {T : VT} (h : stepOK L (d, T) = true) : d ≤ 8 := by
  unfold stepOK at h
  rw [Bool.and_eq_true, decide_eq_true_eq, mdL_snoc] at h
  have := h.1
  simp only at this
  omega
set_option maxRecDepth 100000 in
set_option maxHeartbeats 4000000 in
theorem vwalk_any (ln By Bw n₁ n₀ : Nat) (w0 : World) (J : List (Nat × VT) → World → Prop) (Jx : World → Prop)
    (hJ1 : ∀ pre W W', J pre W → Below W.heap.size W W' → J pre W')
    (hJ2 : ∀ pre W, J pre W → Below n₀ w0 W ∧ n₀ ≤ W.heap.size ∧ n₁ ≤ W.heap.size ∧ W.cell? ⟨By, 0, none⟩ = some (.func (.yield ln) #[] #[]) ∧ W.cell? ⟨Bw, 0, none⟩ = some (.func (.func 72) #[] #[.pointer (some ⟨By, 0, none⟩), .pointer (some ⟨Bw, 0, none⟩)]))
    (hY : ∀ m pre (d : Nat) (T : VT) W, J pre W → Lie w0 n₀ T → d ≤ 9 → YieldAt Fence.wide m Tryd.prog ln #[.int .i64 (d : Int), T.agg] W (YPost J Jx n₁ pre (d, T) W)) :
    ∀ T, Lie w0 n₀ T → ∀ outer, outer ≤ 8 → ∀ pre W, J pre W →
      Calls Tryd.prog 72 #[T.agg, .int .i64 (outer : Nat), .pointer (some ⟨By, 0, none⟩), .pointer (some ⟨Bw, 0, none⟩)] W (WPost J Jx n₁ pre (T.nodesL outer) W) := by
  intro T
  induction T using VT.ind with
  | h k n s cA cn cc kA kn kc keys kids ih =>
    intro hL outer ho pre W hJ
    have hL' := hL
    obtain ⟨hc, hk, hz, hkid⟩ := hL'
    have hcl := kids_len hc
    obtain ⟨d, hd⟩ : ∃ d, d = outer + hN (k == 5 || k == 6) := ⟨_, rfl⟩
    have hd9 : d ≤ 9 := by rw [hd]; unfold hN; split <;> omega
    have Hd := Lib.hid hd
    refine (callsIn_wide (n := 6)).1 ?_
    refine callsIn_of_wp Tryd.func72 rfl trivial ?_ rfl
    simp only [VT.agg, Tryd.ntmps72, List.size_toArray, List.length_cons, List.length_nil, Nat.reduceAdd, Nat.reduceSub, Array.replicate_succ, Array.replicate_zero, List.push_toArray, List.append_toArray, List.nil_append, List.cons_append]
    have hJ0 := hJ1 _ _ _ hJ (bel_alloc (Below.refl W.heap.size W) (.cells #[.int .i64 k, .int .i64 n, .string s, .slice cA cn cc, .slice kA kn kc] 25))
    gi_wp2_with fail
    refine ⟨trivial, (callsIn_wide.2 (vholder_any k (.int .i64 n) (.string s) (.slice cA cn cc) (.slice kA kn kc) _)).mono ?_⟩
    rintro e W1 ⟨rfl, hb1⟩
    have hJ3 := hJ1 _ _ _ hJ0 hb1
    have hK1 : Keep n₁ W W1 := (Keep.of_below (bel_alloc (Below.refl _ _) _)).trans (Keep.of_below hb1)
    obtain ⟨j1, j2, j3, j4, j5⟩ := hJ2 _ _ hJ3
    have bx : ∀ j u, (#[Value.int .i64 k, .int .i64 n, .string s, .slice cA cn cc, .slice kA kn kc] : Array Value)[j]? = some u → W1.cell? ⟨W.heap.size, j, none⟩ = some u := fun j u hu => new_later hb1 j hu
    have b0 : W1.cell? ⟨W.heap.size, 0, none⟩ = some (.int .i64 k) := bx 0 _ rfl
    have b1 : W1.cell? ⟨W.heap.size, 1, none⟩ = some (.int .i64 n) := bx 1 _ rfl
    have b2 : W1.cell? ⟨W.heap.size, 2, none⟩ = some (.string s) := bx 2 _ rfl
    have b3 : W1.cell? ⟨W.heap.size, 3, none⟩ = some (.slice cA cn cc) := bx 3 _ rfl
    have b4 : W1.cell? ⟨W.heap.size, 4, none⟩ = some (.slice kA kn kc) := bx 4 _ rfl
    have hn1W : n₁ ≤ W.heap.size := (hJ2 _ _ hJ).2.2.1
    have HK1 := Lib.hid hK1
    clear bx hK1 hJ hJ0
    have Hsplit := Lib.hid (fun (j : Nat) (x : VT) (hx : kids[j]? = some x) => nodes_split (k := k) (n := n) (s := s) (cA := cA) (cn := cn) (cc := cc) (kA := kA) (kn := kn) (kc := kc) (keys := keys) (kids := kids) outer j hx)
    have Hnodes := Lib.hid (nodes_mk k n s cA cn cc kA kn kc keys kids outer)
    rw [← hd] at Hsplit Hnodes
    have Hpre := Lib.hid (show stepOK pre (d, (.mk k n s cA cn cc kA kn kc keys kids)) = false → passes pre ((VT.mk k n s cA cn cc kA kn kc keys kids).nodesL outer) = false from fun h => by rw [Hnodes.out, passes, h]; rfl)
    generalize hNL : (VT.mk k n s cA cn cc kA kn kc keys kids).nodesL outer = NL at *
    clear hNL
    cases hh : (k == 5 || k == 6)
    · rw [hh, show hN false = 0 from rfl, Nat.add_zero] at hd
      subst hd
      clear Hd hh
      obtain ⟨fn, tmps, assign, body, hy, hR0⟩ := hY 5 pre d (.mk k n s cA cn cc kA kn kc keys kids) W1 hJ3 hL hd9
      simp only [VT.agg] at hy
      cases hs : stepOK pre (d, (VT.mk k n s cA cn cc kA kn kc keys kids))
      · have HP := Lib.hid (Hpre.out hs)
        have hR := hR0.mono (R' := fun e W' => e = .returned (.bool false) ∧ Jx W' ∧ Keep n₁ W1 W') (fun e W' h => ⟨by rw [h.1, hs], h.2.2.1 hs, h.2.2.2⟩)
        clear hJ1 hJ2 hY ih hJ3 hL hc hk hz hkid hb1 hs hn1W hR0 Hpre
        gi_wp2
        refine hR.mono ?_
        rintro e W3 ⟨rfl, hx, hK⟩
        gi_wp2
        go_ret
        exact WPost.no HP.out hx (HK1.out.trans hK)
      · have hR := hR0.mono (R' := fun e W' => e = .returned (.bool true) ∧ J (pre ++ [(d, (VT.mk k n s cA cn cc kA kn kc keys kids))]) W' ∧ Keep n₁ W1 W') (fun e W' h => ⟨by rw [h.1, hs], h.2.1 hs, h.2.2.2⟩)
        have hd8 := step_le hs
        have Hs := Lib.hid (show passes pre ((d, VT.mk k n s cA cn cc kA kn kc keys kids) :: (kids.take 0).flatMap fun x => x.nodesL d) = true by rw [passes, hs]; simp [passes])
        clear hs hR0 Hpre hJ3 hY hk hb1
        gi_wp2
        refine hR.mono ?_
        rintro e W3 ⟨rfl, hj3, hK⟩
        have c3 := hK.cell hn1W b3
        have HK3 := HK1.out.trans hK
        have hcn := Nat.le_trans hz.c1 hz.c2
        unfold maxLen at hcn
        clear hz b0 b1 b2 b3 b4 j1 j2 j3 j4 j5 hK hR hy
        gi_wp2
        gi_loopw [23] (fun i wr => ∃ j : Nat, j ≤ cn ∧ i = .int .i64 j ∧ Hid (passes pre ((d, VT.mk k n s cA cn cc kA kn kc keys kids) :: (kids.take j).flatMap fun x => x.nodesL d) = true) ∧ J (pre ++ ((d, VT.mk k n s cA cn cc kA kn kc keys kids) :: (kids.take j).flatMap fun x => x.nodesL d)) wr ∧ Keep n₁ W wr) (fun i _ => cn - (intOf i).toNat)
        case atStart => exact ⟨0, by omega, rfl, Hs, by simpa using hj3, HK3⟩
        case round =>
          obtain ⟨j, hj, rfl, Hp, hjr, hkr⟩ := hrel
          by_cases hlt : j < cn
          · have hlt' : (j : Int) < cn := by omega
            have hj0 : (0 : Int) ≤ j := by omega
            obtain ⟨i1, i2, i3, i4, i5⟩ := hJ2 _ _ hjr
            obtain ⟨b, off, x, hcA, hbB, hx, hfive⟩ := kids_at (hc.below i1) hlt
            have hxm := List.mem_of_getElem? hx
            have Hsp := Hsplit.out j x hx
            have Htk := take_flat (fun x : VT => x.nodesL d) kids j hx
            have hJn := fun o => hJ1 _ _ _ hjr (bel_alloc (Below.refl wr.heap.size wr) o)
            have Hno := Lib.hid (fun h : passes (pre ++ ((d, VT.mk k n s cA cn cc kA kn kc keys kids) :: (kids.take j).flatMap fun x => x.nodesL d)) (x.nodesL d) = false => show passes pre NL = false by rw [Hsp, passes_append, Hp.out, passes_append, h]; rfl)
            have e1 : ((d, VT.mk k n s cA cn cc kA kn kc keys kids) :: (kids.take (j + 1)).flatMap fun x => x.nodesL d) = ((d, VT.mk k n s cA cn cc kA kn kc keys kids) :: (kids.take j).flatMap fun x => x.nodesL d) ++ x.nodesL d := by rw [Htk]; rfl
            have Hyes := Lib.hid (fun h : passes (pre ++ ((d, VT.mk k n s cA cn cc kA kn kc keys kids) :: (kids.take j).flatMap fun x => x.nodesL d)) (x.nodesL d) = true => show passes pre ((d, VT.mk k n s cA cn cc kA kn kc keys kids) :: (kids.take (j + 1)).flatMap fun x => x.nodesL d) = true by rw [e1, passes_append, Hp.out, h]; rfl)
            have HJs := Lib.hid (fun (W : World) (h : J ((pre ++ ((d, VT.mk k n s cA cn cc kA kn kc keys kids) :: (kids.take j).flatMap fun x => x.nodesL d)) ++ x.nodesL d) W) => show J (pre ++ ((d, VT.mk k n s cA cn cc kA kn kc keys kids) :: (kids.take (j + 1)).flatMap fun x => x.nodesL d)) W by rw [e1, ← List.append_assoc]; exact h)
            have hcall := fun W' hJ' => ih x hxm (hkid x hxm) d hd8 (pre ++ ((d, VT.mk k n s cA cn cc kA kn kc keys kids) :: (kids.take j).flatMap fun x => x.nodesL d)) W' hJ'
            have HN := Lib.hid (show True from trivial)
            subst hcA
            clear Hsp Htk e1 hjr HN hJ1 hJ2 ih hc hkid Hsplit Hnodes Hp
            generalize hXL : x.nodesL d = XL at *
            clear hXL
            generalize pre ++ ((d, VT.mk k n s (some ⟨b, off, none⟩) cn cc kA kn kc keys kids) :: (kids.take j).flatMap fun x => x.nodesL d) = PA at *
            obtain ⟨xk, xn, xs, xcA, xcn, xcc, xkA, xkn, xkc, xkeys, xkids⟩ := x
            obtain ⟨f0, f1, f2, f3, f4⟩ := hfive
            simp only [VT.agg] at hcall
            have i5' := cell_keep i5 (.cells #[.int .i64 xk, .int .i64 xn, .string xs, .slice xcA xcn xcc, .slice xkA xkn xkc] 25)
            cases hp : passes PA XL
            · have HF := Lib.hid (Hno.out hp)
              have hcall2 := fun W' hJ' => (hcall W' hJ').mono (R' := fun e W2 => e = .returned (.bool false) ∧ Jx W2 ∧ Keep n₁ W' W2) (fun e W2 h => ⟨by rw [h.1, hp], h.2.2.1 hp, h.2.2.2⟩)
              clear hcall Hno Hyes HJs hp
              gi_wp2_with fail
              refine ⟨trivial, (callsIn_wide.2 (hcall2 _ (hJn _))).mono ?_⟩
              rintro e W5 ⟨rfl, hx5, hk5⟩
              gi_wp2
              go_ret
              exact WPost.no HF.out hx5 (hkr.trans ((Keep.of_below (bel_alloc (Below.refl _ _) _)).trans hk5))
            · have HT := Lib.hid (Hyes.out hp)
              have hcall2 := fun W' hJ' => (hcall W' hJ').mono (R' := fun e W2 => e = .returned (.bool true) ∧ J (PA ++ XL) W2 ∧ Keep n₁ W' W2) (fun e W2 h => ⟨by rw [h.1, hp], h.2.1 hp, h.2.2.2⟩)
              clear hcall Hno Hyes hp
              gi_wp2_with fail
              refine ⟨trivial, (callsIn_wide.2 (hcall2 _ (hJn _))).mono ?_⟩
              rintro e W5 ⟨rfl, hx5, hk5⟩
              have Hj5 := Lib.hid (HJs.out W5 hx5)
              clear hx5 hcall2 hJn
              gi_wp2
              go_roundw
              case rel => exact ⟨j + 1, by omega, by go_num, HT, Hj5.out, hkr.trans ((Keep.of_below (bel_alloc (Below.refl _ _) _)).trans hk5)⟩
              case measure => simp [intOf]; omega
          · have hjn : j = cn := by omega
            have HF : Hid (passes pre NL = true) := Lib.hid (by have h0 := Hp.out; rw [List.take_of_length_le (l := kids) (i := j) (by omega)] at h0; rw [Hnodes.out]; exact h0)
            have HJ : Hid (J (pre ++ NL) wr) := Lib.hid (by have h0 := hjr; rw [List.take_of_length_le (l := kids) (i := j) (by omega)] at h0; rw [Hnodes.out]; exact h0)
            subst hjn
            clear hJ1 hJ2 ih hc hkid hjr Hsplit Hnodes
            gi_wp2
            go_ret
            exact WPost.yes HF.out HJ.out hkr
    · rw [hh, show hN true = 1 from rfl] at hd
      have hdi : (outer : Int) + 1 = (d : Int) := by omega
      clear hd
      clear Hd hh
      obtain ⟨fn, tmps, assign, body, hy, hR0⟩ := hY 5 pre d (.mk k n s cA cn cc kA kn kc keys kids) W1 hJ3 hL hd9
      simp only [VT.agg] at hy
      cases hs : stepOK pre (d, (VT.mk k n s cA cn cc kA kn kc keys kids))
      · have HP := Lib.hid (Hpre.out hs)
        have hR := hR0.mono (R' := fun e W' => e = .returned (.bool false) ∧ Jx W' ∧ Keep n₁ W1 W') (fun e W' h => ⟨by rw [h.1, hs], h.2.2.1 hs, h.2.2.2⟩)
        clear hJ1 hJ2 hY ih hJ3 hL hc hk hz hkid hb1 hs hn1W hR0 Hpre
        gi_wp2
        refine hR.mono ?_
        rintro e W3 ⟨rfl, hx, hK⟩
        gi_wp2
        go_ret
        exact WPost.no HP.out hx (HK1.out.trans hK)
      · have hR := hR0.mono (R' := fun e W' => e = .returned (.bool true) ∧ J (pre ++ [(d, (VT.mk k n s cA cn cc kA kn kc keys kids))]) W' ∧ Keep n₁ W1 W') (fun e W' h => ⟨by rw [h.1, hs], h.2.1 hs, h.2.2.2⟩)
        have hd8 := step_le hs
        have Hs := Lib.hid (show passes pre ((d, VT.mk k n s cA cn cc kA kn kc keys kids) :: (kids.take 0).flatMap fun x => x.nodesL d) = true by rw [passes, hs]; simp [passes])
        clear hs hR0 Hpre hJ3 hY hk hb1
        gi_wp2
        refine hR.mono ?_
        rintro e W3 ⟨rfl, hj3, hK⟩
        have c3 := hK.cell hn1W b3
        have HK3 := HK1.out.trans hK
        have hcn := Nat.le_trans hz.c1 hz.c2
        unfold maxLen at hcn
        clear hz b0 b1 b2 b3 b4 j1 j2 j3 j4 j5 hK hR hy
        gi_wp2
        gi_loopw [23] (fun i wr => ∃ j : Nat, j ≤ cn ∧ i = .int .i64 j ∧ Hid (passes pre ((d, VT.mk k n s cA cn cc kA kn kc keys kids) :: (kids.take j).flatMap fun x => x.nodesL d) = true) ∧ J (pre ++ ((d, VT.mk k n s cA cn cc kA kn kc keys kids) :: (kids.take j).flatMap fun x => x.nodesL d)) wr ∧ Keep n₁ W wr) (fun i _ => cn - (intOf i).toNat)
        case atStart => exact ⟨0, by omega, rfl, Hs, by simpa using hj3, HK3⟩
        case round =>
          obtain ⟨j, hj, rfl, Hp, hjr, hkr⟩ := hrel
          by_cases hlt : j < cn
          · have hlt' : (j : Int) < cn := by omega
            have hj0 : (0 : Int) ≤ j := by omega
            obtain ⟨i1, i2, i3, i4, i5⟩ := hJ2 _ _ hjr
            obtain ⟨b, off, x, hcA, hbB, hx, hfive⟩ := kids_at (hc.below i1) hlt
            have hxm := List.mem_of_getElem? hx
            have Hsp := Hsplit.out j x hx
            have Htk := take_flat (fun x : VT => x.nodesL d) kids j hx
            have hJn := fun o => hJ1 _ _ _ hjr (bel_alloc (Below.refl wr.heap.size wr) o)
            have Hno := Lib.hid (fun h : passes (pre ++ ((d, VT.mk k n s cA cn cc kA kn kc keys kids) :: (kids.take j).flatMap fun x => x.nodesL d)) (x.nodesL d) = false => show passes pre NL = false by rw [Hsp, passes_append, Hp.out, passes_append, h]; rfl)
            have e1 : ((d, VT.mk k n s cA cn cc kA kn kc keys kids) :: (kids.take (j + 1)).flatMap fun x => x.nodesL d) = ((d, VT.mk k n s cA cn cc kA kn kc keys kids) :: (kids.take j).flatMap fun x => x.nodesL d) ++ x.nodesL d := by rw [Htk]; rfl
            have Hyes := Lib.hid (fun h : passes (pre ++ ((d, VT.mk k n s cA cn cc kA kn kc keys kids) :: (kids.take j).flatMap fun x => x.nodesL d)) (x.nodesL d) = true => show passes pre ((d, VT.mk k n s cA cn cc kA kn kc keys kids) :: (kids.take (j + 1)).flatMap fun x => x.nodesL d) = true by rw [e1, passes_append, Hp.out, h]; rfl)
            have HJs := Lib.hid (fun (W : World) (h : J ((pre ++ ((d, VT.mk k n s cA cn cc kA kn kc keys kids) :: (kids.take j).flatMap fun x => x.nodesL d)) ++ x.nodesL d) W) => show J (pre ++ ((d, VT.mk k n s cA cn cc kA kn kc keys kids) :: (kids.take (j + 1)).flatMap fun x => x.nodesL d)) W by rw [e1, ← List.append_assoc]; exact h)
            have hcall := fun W' hJ' => ih x hxm (hkid x hxm) d hd8 (pre ++ ((d, VT.mk k n s cA cn cc kA kn kc keys kids) :: (kids.take j).flatMap fun x => x.nodesL d)) W' hJ'
            have HN := Lib.hid (show True from trivial)
            subst hcA
            clear Hsp Htk e1 hjr HN hJ1 hJ2 ih hc hkid Hsplit Hnodes Hp
            generalize hXL : x.nodesL d = XL at *
            clear hXL
            generalize pre ++ ((d, VT.mk k n s (some ⟨b, off, none⟩) cn cc kA kn kc keys kids) :: (kids.take j).flatMap fun x => x.nodesL d) = PA at *
            obtain ⟨xk, xn, xs, xcA, xcn, xcc, xkA, xkn, xkc, xkeys, xkids⟩ := x
            obtain ⟨f0, f1, f2, f3, f4⟩ := hfive
            simp only [VT.agg] at hcall
            have i5' := cell_keep i5 (.cells #[.int .i64 xk, .int .i64 xn, .string xs, .slice xcA xcn xcc, .slice xkA xkn xkc] 25)
            cases hp : passes PA XL
            · have HF := Lib.hid (Hno.out hp)
              have hcall2 := fun W' hJ' => (hcall W' hJ').mono (R' := fun e W2 => e = .returned (.bool false) ∧ Jx W2 ∧ Keep n₁ W' W2) (fun e W2 h => ⟨by rw [h.1, hp], h.2.2.1 hp, h.2.2.2⟩)
              clear hcall Hno Hyes HJs hp
              gi_wp2_with fail
              refine ⟨trivial, (callsIn_wide.2 (hcall2 _ (hJn _))).mono ?_⟩
              rintro e W5 ⟨rfl, hx5, hk5⟩
              gi_wp2
              go_ret
              exact WPost.no HF.out hx5 (hkr.trans ((Keep.of_below (bel_alloc (Below.refl _ _) _)).trans hk5))
            · have HT := Lib.hid (Hyes.out hp)
              have hcall2 := fun W' hJ' => (hcall W' hJ').mono (R' := fun e W2 => e = .returned (.bool true) ∧ J (PA ++ XL) W2 ∧ Keep n₁ W' W2) (fun e W2 h => ⟨by rw [h.1, hp], h.2.1 hp, h.2.2.2⟩)
              clear hcall Hno Hyes hp
              gi_wp2_with fail
              refine ⟨trivial, (callsIn_wide.2 (hcall2 _ (hJn _))).mono ?_⟩
              rintro e W5 ⟨rfl, hx5, hk5⟩
              have Hj5 := Lib.hid (HJs.out W5 hx5)
              clear hx5 hcall2 hJn
              gi_wp2
              go_roundw
              case rel => exact ⟨j + 1, by omega, by go_num, HT, Hj5.out, hkr.trans ((Keep.of_below (bel_alloc (Below.refl _ _) _)).trans hk5)⟩
              case measure => simp [intOf]; omega
          · have hjn : j = cn := by omega
            have HF : Hid (passes pre NL = true) := Lib.hid (by have h0 := Hp.out; rw [List.take_of_length_le (l := kids) (i := j) (by omega)] at h0; rw [Hnodes.out]; exact h0)
            have HJ : Hid (J (pre ++ NL) wr) := Lib.hid (by have h0 := hjr; rw [List.take_of_length_le (l := kids) (i := j) (by omega)] at h0; rw [Hnodes.out]; exact h0)
            subst hjn
            clear hJ1 hJ2 ih hc hkid hjr Hsplit Hnodes
            gi_wp2
            go_ret
            exact WPost.yes HF.out HJ.out hkr
end Go.Proofs.YtndolgbbochpjaaDoor
