/-
  Layer 4: the methods of a shape; holder; right.
-/
import Derived.Test.YtnldiemggabdkaaDoorValL
import Derived.Test.YtnldiemggabdkaaDoorUtfLs
import Derived.WalkLawsBesides
namespace Go.Proofs.YtnldiemggabdkaaDoor
open Go.RowKit
set_option linter.unusedVariables false

theorem vret_b {a b : Bool} (h : a = b) : Ending.returned (.bool a) = .returned (.bool b) := by rw [h]
set_option maxRecDepth 20000 in
theorem vright_any (s : ByteArray) (w : World) (hm : s.size ≤ maxLen) (htab : UTab w) :
    Calls Tryd.prog 84 #[.string s] w fun e w' => e = .returned (.bool (validS s)) ∧ Below w.heap.size w w' := by
  have hc := check_any s _ rfl w hm htab
  unfold walkR at hc
  by_cases h : (ptsL s.data.toList).2 = s.data.toList.length
  · have HR := Lib.hid (show validS s = true from decide_eq_true h)
    rw [if_pos h] at hc
    clear h
    go_enter Tryd.func84, Tryd.ntmps84
    go_wp2_with fail
    refine hc.mono ?_
    rintro e w1 ⟨rfl, hb⟩
    go_wp2
    go_ret
    exact ⟨vret_b HR.out.symm, hb⟩
  · have HR := Lib.hid (show validS s = false from decide_eq_false h)
    rw [if_neg h] at hc
    clear h
    generalize (ptsL s.data.toList).2 = x at *
    go_enter Tryd.func84, Tryd.ntmps84
    go_wp2_with fail
    refine hc.mono ?_
    rintro e w1 ⟨rfl, hb⟩
    go_wp2
    go_ret
    exact ⟨vret_b HR.out.symm, hb⟩

set_option maxRecDepth 20000 in
theorem vholder_any (k : Int) (n s c y : Value) (w : World) :
    Calls Tryd.prog 44 #[.agg #[.int .i64 k, n, s, c, y]] w fun e w' => e = .returned (.bool (k == 5 || k == 6)) ∧ Below w.heap.size w w' := by
  by_cases h5 : k = 5
  · subst h5
    go_enter Tryd.func44, Tryd.ntmps44
    go_wp2
    go_ret
    exact ⟨rfl, (Below.refl _ _).alloc (Nat.le_refl _) _⟩
  · have e5 : (k == 5) = false := by rw [beq_eq_false_iff_ne]; exact h5
    go_enter Tryd.func44, Tryd.ntmps44
    go_wp2
    go_ret
    exact ⟨vret_b (by rw [e5]; rfl), (Below.refl _ _).alloc (Nat.le_refl _) _⟩

set_option maxRecDepth 20000 in
theorem vnumber_any (kn wi : Bool) (top : Int) (te ke ki : Bool) (k n : Int) (s c y : Value) (w : World) :
    Calls Tryd.prog 66 #[.agg #[.bool kn, .bool wi, .int .i64 top, .bool te, .bool ke, .bool ki], .agg #[.int .i64 k, .int .i64 n, s, c, y]] w fun e w' => e = .returned (.bool (numQ wi top n)) ∧ Below w.heap.size w w' := by
  have hb := bel_alloc (bel_alloc (Below.refl w.heap.size w) (.cells #[.bool kn, .bool wi, .int .i64 top, .bool te, .bool ke, .bool ki] 90)) (.cells #[.int .i64 k, .int .i64 n, s, c, y] 25)
  cases wi
  · by_cases h0 : 0 ≤ n
    · by_cases h1 : n ≤ top
      · have e0 := Lib.hid (show numQ false top n = true by simp [numQ, h0, h1])
        go_enter Tryd.func66, Tryd.ntmps66
        go_wp2
        go_ret
        exact ⟨vret_b e0.out.symm, hb⟩
      · have e0 := Lib.hid (show numQ false top n = false by simp [numQ, h1])
        have h1' : (n ≤ top) = False := by simp; omega
        go_enter Tryd.func66, Tryd.ntmps66
        go_wp2
        go_ret
        exact ⟨vret_b e0.out.symm, hb⟩
    · have e0 := Lib.hid (show numQ false top n = false by simp [numQ, h0])
      have h1' : (0 ≤ n) = False := by simp; omega
      go_enter Tryd.func66, Tryd.ntmps66
      go_wp2
      go_ret
      exact ⟨vret_b e0.out.symm, hb⟩
  · go_enter Tryd.func66, Tryd.ntmps66
    go_wp2
    go_ret
    exact ⟨rfl, hb⟩

set_option maxRecDepth 20000 in
theorem velements_any (kn wi : Bool) (top : Int) (te ke ki : Bool) (k n s : Value) (A : Option Addr) (m c : Nat) (y : Value) (w : World) :
    Calls Tryd.prog 68 #[.agg #[.bool kn, .bool wi, .int .i64 top, .bool te, .bool ke, .bool ki], .agg #[k, n, s, .slice A m c, y]] w fun e w' => e = .returned (.bool (eleQ ki m)) ∧ Below w.heap.size w w' := by
  have hb := bel_alloc (bel_alloc (Below.refl w.heap.size w) (.cells #[.bool kn, .bool wi, .int .i64 top, .bool te, .bool ke, .bool ki] 90)) (.cells #[k, n, s, .slice A m c, y] 25)
  by_cases h0 : m = 0
  · subst h0
    go_enter Tryd.func68, Tryd.ntmps68
    go_wp2
    go_ret
    exact ⟨rfl, hb⟩
  · have e0 : ((m : Int) == 0) = false := by rw [beq_eq_false_iff_ne]; omega
    have E1 := Lib.hid (show (m == 0) = false by rw [beq_eq_false_iff_ne]; exact h0)
    go_enter Tryd.func68, Tryd.ntmps68
    go_wp2
    go_ret
    exact ⟨vret_b (by unfold eleQ; rw [E1.out]; rfl), hb⟩

set_option maxRecDepth 20000 in
theorem vstring_any (kn wi : Bool) (top : Int) (te ke ki : Bool) (k n : Value) (s : ByteArray) (c y : Value) (w : World) (hm : s.size ≤ maxLen) (htab : UTab w) :
    Calls Tryd.prog 67 #[.agg #[.bool kn, .bool wi, .int .i64 top, .bool te, .bool ke, .bool ki], .agg #[k, n, .string s, c, y]] w fun e w' => e = .returned (.bool (strQ te s)) ∧ Below w.heap.size w w' := by
  have hb := bel_alloc (bel_alloc (Below.refl w.heap.size w) (.cells #[.bool kn, .bool wi, .int .i64 top, .bool te, .bool ke, .bool ki] 90)) (.cells #[k, n, .string s, c, y] 25)
  cases hs : s.toList.isEmpty
  · have HR := Lib.hid (show strQ te s = (te && validS s) by unfold strQ; rw [hs]; rfl)
    have hs2 : s.toList ≠ [] := by intro h; rw [h] at hs; cases hs
    have hs3 : (s.toList == []) = false := by rw [beq_eq_false_iff_ne]; exact hs2
    cases te
    · go_enter Tryd.func67, Tryd.ntmps67
      go_wp2
      go_ret
      exact ⟨vret_b HR.out.symm, hb⟩
    · have hr := vright_any s _ hm (htab.below hb htab.lt)
      go_enter Tryd.func67, Tryd.ntmps67
      go_wp2_with fail
      refine hr.mono ?_
      rintro e w1 ⟨rfl, hb1⟩
      go_wp2
      go_ret
      exact ⟨vret_b HR.out.symm, bel_next hb hb1⟩
  · have HR := Lib.hid (show strQ te s = true by unfold strQ; rw [hs]; rfl)
    have hs2 : s.toList = [] := List.isEmpty_iff.1 hs
    go_enter Tryd.func67, Tryd.ntmps67
    go_wp2
    go_ret
    exact ⟨vret_b HR.out.symm, hb⟩

set_option maxRecDepth 20000 in
set_option maxHeartbeats 1000000 in
theorem vmembers_any (kn wi : Bool) (top : Int) (te ke ki : Bool) (k n s : Value) (A : Option Addr) (m c : Nat) (A' : Option Addr) (m' c' : Nat) (keys : List ByteArray) (B : Nat) (w : World) (hm' : m' ≤ maxLen)
    (hk : Shows w B 1 A' m' (keys.map Value.string)) (hB : B ≤ w.heap.size) (hsz : ∀ x ∈ keys, x.size ≤ maxLen) (htab : UTab w) :
    Calls Tryd.prog 69 #[.agg #[.bool kn, .bool wi, .int .i64 top, .bool te, .bool ke, .bool ki], .agg #[k, n, s, .slice A m c, .slice A' m' c']] w fun e w' => e = .returned (.bool (memQ ke m m' keys)) ∧ Below w.heap.size w w' := by
  have hb := bel_alloc (bel_alloc (Below.refl w.heap.size w) (.cells #[.bool kn, .bool wi, .int .i64 top, .bool te, .bool ke, .bool ki] 90)) (.cells #[k, n, s, .slice A m c, .slice A' m' c'] 25)
  unfold maxLen at hm'
  cases ke
  · by_cases h0 : m' = 0
    · subst h0
      go_enter Tryd.func69, Tryd.ntmps69
      go_wp2
      go_ret
      exact ⟨rfl, hb⟩
    · have e0 : ((m' : Int) == 0) = false := by rw [beq_eq_false_iff_ne]; omega
      have e1 := Lib.hid (show (m' == 0) = false by rw [beq_eq_false_iff_ne]; exact h0)
      go_enter Tryd.func69, Tryd.ntmps69
      go_wp2
      go_ret
      exact ⟨vret_b (by unfold memQ; rw [if_neg (by decide), e1.out]), hb⟩
  · by_cases hmm : m' = m
    · have Hl := Lib.hid (keys_len hk)
      have HR := Lib.hid (show memQ true m m' keys = keysB keys by unfold memQ; rw [if_pos rfl, hmm]; simp)
      subst hmm
      have HK := Lib.hid hk
      have Hsz := Lib.hid hsz
      clear hk hsz
      go_enter Tryd.func69, Tryd.ntmps69
      go_wp2
      go_loopw [24] (fun i wr => ∃ j : Nat, j ≤ m' ∧ i = .int .i64 j ∧ (∀ q, q < j → keyOK keys q = true) ∧ Below ((w.alloc (.cells #[.bool kn, .bool wi, .int .i64 top, .bool te, .bool true, .bool ki] 90)).alloc (.cells #[k, n, s, .slice A m' c, .slice A' m' c'] 25)).heap.size ((w.alloc (.cells #[.bool kn, .bool wi, .int .i64 top, .bool te, .bool true, .bool ki] 90)).alloc (.cells #[k, n, s, .slice A m' c, .slice A' m' c'] 25)) wr) (fun i _ => m' - (intOf i).toNat)
      case atStart => exact ⟨0, by omega, rfl, fun q h => by omega, Below.refl _ _⟩
      case round =>
        obtain ⟨j, hj, rfl, hq, hbr⟩ := hrel
        have d4 : wr.cell? ⟨w.heap.size + 1, 4, none⟩ = some (.slice A' m' c') := by
          have := new_later hbr 4 rfl
          simpa using this
        have hb0 := bel_next hb hbr
        have sr := hbr.size
        by_cases hlt : j < m'
        · have hlt' : (j : Int) < m' := by omega
          have hj0 : (0 : Int) ≤ j := by omega
          have htr := htab.below hb0 htab.lt
          obtain ⟨b, off, rfl, hbk, hcj⟩ := key_at (HK.out.below (hb0.mono hB)) hlt
          have hzj : (keys.getD j ⟨#[]⟩).size ≤ maxLen := by
            rw [List.getD_eq_getElem?_getD, List.getElem?_eq_getElem (by rw [Hl.out]; exact hlt)]
            exact Hsz.out _ (List.getElem_mem _)
          have hr := vright_any (keys.getD j ⟨#[]⟩) wr hzj htr
          have Hin := Lib.hid (fun h : keyOK keys j = true => show ∀ q, q < j + 1 → keyOK keys q = true from fun q h2 => if e : q = j then e ▸ h else hq q (by omega))
          have Hno := Lib.hid (fun h : keyOK keys j = false => show keysB keys = false by
            cases hk : keysB keys with
            | false => rfl
            | true => have := (keysB_iff keys).1 hk j (by rw [Hl.out]; exact hlt); rw [h] at this; cases this)
          have Hok := Lib.hid (show keyOK keys j = (validS (keys.getD j ⟨#[]⟩) && (j == 0 || Op.bytesLess (keys.getD (j - 1) ⟨#[]⟩).toList (keys.getD j ⟨#[]⟩).toList)) from rfl)
          cases hv : validS (keys.getD j ⟨#[]⟩)
          · have HF := Lib.hid (Hno.out (by rw [Hok.out, hv]; rfl))
            rw [hv] at hr
            clear hq hv
            generalize keys.getD j ⟨#[]⟩ = x at *
            go_wp2_with fail
            refine hr.mono ?_
            rintro e w1 ⟨rfl, hb1⟩
            go_wp2
            go_ret
            exact ⟨vret_b (by rw [HR.out, HF.out]), bel_next hb0 hb1⟩
          · rw [hv] at hr
            have Hv := Lib.hid hv
            clear hv hq
            by_cases hj1 : j = 0
            · subst hj1
              rw [Nat.add_zero] at hcj
              have HQ := Lib.hid (Hin.out (by rw [Hok.out, Hv.out]; rfl))
              generalize keys.getD 0 ⟨#[]⟩ = x at *
              go_wp2_with fail
              refine hr.mono ?_
              rintro e w1 ⟨rfl, hb1⟩
              go_wp2
              go_roundw
              case rel => exact ⟨1, by omega, by go_num, HQ.out, bel_next hbr hb1⟩
              case measure => simp [intOf]; omega
            · have hjp : (0 : Int) < j := by omega
              obtain ⟨b', off', e, _, hcp⟩ := key_at (HK.out.below (hb0.mono hB)) (i := j - 1) (by omega)
              injection e with e
              injection e with e1 e2
              subst e1; subst e2
              have hjb := Lib.hid (show (j == 0) = false by rw [beq_eq_false_iff_ne]; exact hj1)
              have hcp' : ∀ W, Below wr.heap.size wr W → W.cell? ⟨b, off + (j - 1), none⟩ = some (.string (keys.getD (j - 1) ⟨#[]⟩)) := fun W h => kept_later h hcp
              have d4' : ∀ W, Below wr.heap.size wr W → W.cell? ⟨w.heap.size + 1, 4, none⟩ = some (.slice (some ⟨b, off, none⟩) m' c') := fun W h => kept_later h d4
              have hjm : ((j : Int) - 1).toNat = j - 1 := by omega
              cases hless : Op.bytesLess (keys.getD (j - 1) ⟨#[]⟩).toList (keys.getD j ⟨#[]⟩).toList
              · have HF := Lib.hid (Hno.out (by rw [Hok.out, Hv.out, hjb.out, hless]; rfl))
                generalize keys.getD j ⟨#[]⟩ = x at *
                generalize keys.getD (j - 1) ⟨#[]⟩ = y at *
                clear Hok Hin Hno Hv
                go_wp2_with fail
                refine hr.mono ?_
                rintro e w1 ⟨rfl, hb1⟩
                have c1 := hcp' w1 hb1
                have c2 := d4' w1 hb1
                go_wp2
                go_ret
                exact ⟨vret_b (by rw [HR.out, HF.out]), bel_next hb0 hb1⟩
              · have HQ := Lib.hid (Hin.out (by rw [Hok.out, Hv.out, hjb.out, hless]; rfl))
                generalize keys.getD j ⟨#[]⟩ = x at *
                generalize keys.getD (j - 1) ⟨#[]⟩ = y at *
                clear Hok Hin Hno Hv
                go_wp2_with fail
                refine hr.mono ?_
                rintro e w1 ⟨rfl, hb1⟩
                have c1 := hcp' w1 hb1
                have c2 := d4' w1 hb1
                go_wp2
                go_roundw
                case rel => exact ⟨j + 1, by omega, by go_num, HQ.out, bel_next hbr hb1⟩
                case measure => simp [intOf]; omega
        · have hjm : j = m' := by omega
          have HT := Lib.hid (show keysB keys = true from (keysB_iff keys).2 fun i hi => hq i (by rw [Hl.out] at hi; omega))
          subst hjm
          clear hq
          go_wp2
          go_ret
          exact ⟨vret_b (by rw [HR.out, HT.out]), hb0⟩
    · have e0 : ((m' : Int) != (m : Int)) = true := by rw [bne_iff_ne]; omega
      have e1 := Lib.hid (show (m' == m) = false by rw [beq_eq_false_iff_ne]; exact hmm)
      go_enter Tryd.func69, Tryd.ntmps69
      go_wp2
      go_ret
      exact ⟨vret_b (by unfold memQ; rw [if_pos rfl, e1.out]; rfl), hb⟩
end Go.Proofs.YtnldiemggabdkaaDoor
