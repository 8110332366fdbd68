/-
  Layer 4: Null, Int, Bool, Text, Get, At, Len, List.
-/
import Derived.Test.YtnldiemggabdkaaDoorValV
import Derived.Test.YtnldiemggabdkaaDoorUtfM
namespace Go.Proofs.YtnldiemggabdkaaDoor
open Go.RowKit
set_option linter.unusedVariables false

def scV (k n : Int) (s : ByteArray) : VT := .mk k n s none 0 0 none 0 0 [] []
theorem lie_sc (k n : Int) (s : ByteArray) (w : World) (B : Nat) (hk : (Lit.int .i64 k).wf = true) (hn : (Lit.int .i64 n).wf = true) (hs : s.size ≤ maxLen) : Lie w B (scV k n s) :=
  .mk ⟨rfl, fun h => absurd h (by decide)⟩ ⟨rfl, fun h => absurd h (by decide)⟩ ⟨hk, hn, hs, Nat.le_refl _, Nat.zero_le _, fun _ => rfl, Nat.le_refl _, Nat.zero_le _, fun _ => rfl, fun x h => by cases h⟩ (fun x h => by cases h)
set_option maxRecDepth 20000 in
theorem null_any (w : World) : Calls Tryd.prog 34 #[] w fun e w' => e = .returned (scV 1 0 ⟨#[]⟩).agg ∧ Below w.heap.size w w' := by
  go_enter Tryd.func34, Tryd.ntmps34
  go_wp2
  refine bodyPost_ret (v := .agg #[.int .i64 1, .int .i64 0, .string ⟨#[]⟩, .slice none 0 0, .slice none 0 0]) ?_ rfl ⟨rfl, bel_alloc (Below.refl _ _) _⟩
  simp [results, Tryd.results34, go_sem, *]
set_option maxRecDepth 20000 in
theorem vint_any (n : Int) (w : World) : Calls Tryd.prog 35 #[.int .i64 n] w fun e w' => e = .returned (scV 3 n ⟨#[]⟩).agg ∧ Below w.heap.size w w' := by
  go_enter Tryd.func35, Tryd.ntmps35
  go_wp2
  refine bodyPost_ret (v := .agg #[.int .i64 3, .int .i64 n, .string ⟨#[]⟩, .slice none 0 0, .slice none 0 0]) ?_ rfl ⟨rfl, bel_alloc (Below.refl _ _) _⟩
  simp [results, Tryd.results35, go_sem, *]

/-- What checked tells. -/
def chkR (T : VT) : Value := if T.ok = true then .tuple #[T.agg, .int .i64 0] else .tuple #[zV, .int .i64 140]
theorem checked_R (B : Nat) (w : World) (T : VT) (hL : Lie w B T) (hB : B ≤ w.heap.size) (htab : UTab w) (hst : STab w) :
    Calls Tryd.prog 46 #[T.agg] w fun e w' => e = .returned (chkR T) ∧ Below w.heap.size w w' := by
  refine (checked_any B w T hL hB htab hst).mono ?_
  rintro e w' ⟨rfl, h⟩
  refine ⟨?_, h⟩
  unfold chkR
  cases T.ok <;> rfl
set_option maxRecDepth 20000 in
theorem text_any (s : ByteArray) (w : World) (hs : s.size ≤ maxLen) (htab : UTab w) (hst : STab w) :
    Calls Tryd.prog 27 #[.string s] w fun e w' => e = .returned (chkR (scV 4 0 s)) ∧ Below w.heap.size w w' := by
  have hb := bel_alloc (Below.refl w.heap.size w) (.cells #[.int .i64 0, .int .i64 0, .string ⟨#[]⟩, .slice none 0 0, .slice none 0 0] 25)
  have Hz := Lib.hid (show VFive (w.alloc (.cells #[.int .i64 0, .int .i64 0, .string ⟨#[]⟩, .slice none 0 0, .slice none 0 0] 25)) w.heap.size (.int .i64 0) (.int .i64 0) (.string ⟨#[]⟩) (.slice none 0 0) (.slice none 0 0) from VFive.new _ _ _ _ _ _ _ _ rfl)
  have hc := checked_R w.heap.size _ (scV 4 0 s) (lie_sc 4 0 s _ _ (by decide) (by decide) hs) hb.size (htab.below hb htab.lt) (hst.below hb hst.lt)
  have hle0 : w.heap.size ≤ w.heap.size := Nat.le_refl _
  by_cases hok : (scV 4 0 s).ok = true
  case neg =>
    have hR : chkR (scV 4 0 s) = .tuple #[zV, .int .i64 140] := by unfold chkR; rw [if_neg hok]
    rw [hR] at hc ⊢
    simp only [zV, scV, VT.agg] at hc ⊢
    clear hok hR
    go_enter Tryd.func27, Tryd.ntmps27
    go_wp2_with fail
    refine hc.mono ?_
    rintro e w1 ⟨rfl, hb1⟩
    obtain ⟨⟨e0, e1, e2, e3, e4⟩, f0, f1, f2, f3, f4⟩ := Hz.out.later hb1
    have hb2 := bel_next hb hb1
    go_wp2
    refine bodyPost_ret (v := .tuple #[.agg #[.int .i64 0, .int .i64 0, .string ⟨#[]⟩, .slice none 0 0, .slice none 0 0], .int .i64 140]) ?_ rfl ⟨rfl, vbelow_set5 hb2 hle0⟩
    simp [results, Tryd.results27, go_sem, *]
  case pos =>
    have hR : chkR (scV 4 0 s) = .tuple #[(scV 4 0 s).agg, .int .i64 0] := by unfold chkR; rw [if_pos hok]
    rw [hR] at hc ⊢
    simp only [scV, VT.agg] at hc ⊢
    clear hok hR
    go_enter Tryd.func27, Tryd.ntmps27
    go_wp2_with fail
    refine hc.mono ?_
    rintro e w1 ⟨rfl, hb1⟩
    obtain ⟨⟨e0, e1, e2, e3, e4⟩, f0, f1, f2, f3, f4⟩ := Hz.out.later hb1
    have hb2 := bel_next hb hb1
    go_wp2
    refine bodyPost_ret (v := .tuple #[.agg #[.int .i64 4, .int .i64 0, .string s, .slice none 0 0, .slice none 0 0], .int .i64 0]) ?_ rfl ⟨rfl, vbelow_set5 hb2 hle0⟩
    simp [results, Tryd.results27, go_sem, *]

theorem path_one (T : VT) (x : ByteArray) : pathR T [x] = T.get x := by
  rw [pathR]
  cases T.get x with
  | none => rfl
  | some T' => rfl
set_option maxRecDepth 20000 in
set_option maxHeartbeats 1000000 in
theorem get_any (B : Nat) (w : World) (T : VT) (x : ByteArray) (hL : Lie w B T) (hB : B ≤ w.heap.size) (htab : UTab w) (hst : STab w) :
    Calls Tryd.prog 20 #[T.agg, .string x] w fun e w' => e = .returned (memR (if T.ok = true then T.get x else none)) ∧ Below w.heap.size w w' := by
  obtain ⟨k, n, s, cA, cn, cc, kA, kn, kc, keys, kids⟩ := T
  obtain ⟨hb, hsz, hv, hz⟩ := vbox2 w k n s cA cn cc kA kn kc _ rfl
  have hb2 := bel_alloc hb (.cells #[.string x] 9)
  have hnew : Shows (((w.alloc (.cells #[.int .i64 k, .int .i64 n, .string s, .slice cA cn cc, .slice kA kn kc] 25)).alloc (.cells #[.int .i64 0, .int .i64 0, .string ⟨#[]⟩, .slice none 0 0, .slice none 0 0] 25)).alloc (.cells #[.string x] 9)) (w.heap.size + 3) 1 (some ⟨w.heap.size + 2, 0, none⟩) 1 ([x].map Value.string) := ⟨rfl, fun _ => ⟨w.heap.size + 2, 0, rfl, Nat.lt_succ_self _, fun i v hv => by
    have hi : i < 1 := (List.getElem?_eq_some_iff.1 hv).1
    obtain rfl : i = 0 := by omega
    simp at hv; subst hv
    have := (Box.new ((w.alloc (.cells #[.int .i64 k, .int .i64 n, .string s, .slice cA cn cc, .slice kA kn kc] 25)).alloc (.cells #[.int .i64 0, .int .i64 0, .string ⟨#[]⟩, .slice none 0 0, .slice none 0 0] 25)) #[.string x] 9 0 (.string x) (by simp)).1
    rw [hsz] at this
    exact this⟩⟩
  have hp := path_any B _ (.mk k n s cA cn cc kA kn kc keys kids) (some ⟨w.heap.size + 2, 0, none⟩) 1 1 [x] (w.heap.size + 3) (hL.later (hb2.mono hB)) (Nat.le_trans hB hb2.size) hnew (by simp) (by decide) (htab.below hb2 htab.lt) (hst.below hb2 hst.lt)
  rw [path_one] at hp
  simp only [VT.agg] at hp ⊢
  have hle1 : w.heap.size ≤ w.heap.size + 1 := Nat.le_succ _
  have Hz := Lib.hid (hz.alloc (.cells #[.string x] 9))
  clear hL hv hz hnew hsz
  generalize (if VT.ok (.mk k n s cA cn cc kA kn kc keys kids) = true then VT.get (.mk k n s cA cn cc kA kn kc keys kids) x else none) = R at *
  cases R with
  | none =>
    simp only [memR, zV] at hp
    go_enter Tryd.func20, Tryd.ntmps20
    go_wp2_with fail
    refine hp.mono ?_
    rintro e w1 ⟨rfl, hb3⟩
    obtain ⟨⟨e0, e1, e2, e3, e4⟩, f0, f1, f2, f3, f4⟩ := Hz.out.later hb3
    have hb4 := bel_next hb2 hb3
    go_wp2
    refine bodyPost_ret (v := .tuple #[.agg #[.int .i64 0, .int .i64 0, .string ⟨#[]⟩, .slice none 0 0, .slice none 0 0], .bool false]) ?_ rfl ⟨rfl, vbelow_set5 hb4 hle1⟩
    simp [results, Tryd.results20, go_sem, *]
  | some T' =>
    obtain ⟨k', n', s', cA', cn', cc', kA', kn', kc', keys', kids'⟩ := T'
    simp only [memR, VT.agg] at hp
    go_enter Tryd.func20, Tryd.ntmps20
    go_wp2_with fail
    refine hp.mono ?_
    rintro e w1 ⟨rfl, hb3⟩
    obtain ⟨⟨e0, e1, e2, e3, e4⟩, f0, f1, f2, f3, f4⟩ := Hz.out.later hb3
    have hb4 := bel_next hb2 hb3
    go_wp2
    refine bodyPost_ret (v := .tuple #[.agg #[.int .i64 k', .int .i64 n', .string s', .slice cA' cn' cc', .slice kA' kn' kc'], .bool true]) ?_ rfl ⟨rfl, vbelow_set5 hb4 hle1⟩
    simp [results, Tryd.results20, go_sem, *]

/-- What Len tells. -/
def lenR (T : VT) : Value := if T.ok = true then (if T.k = 4 then .tuple #[.int .i64 ((nats (ptsL T.s.data.toList).1).length : Nat), .bool true] else if (T.k == 5 || T.k == 6) = true then .tuple #[.int .i64 (T.kids.length : Nat), .bool true] else .tuple #[.int .i64 0, .bool false]) else .tuple #[.int .i64 0, .bool false]
end Go.Proofs.YtnldiemggabdkaaDoor
