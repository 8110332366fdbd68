/-
  Layer 4: Path, Get, At.
-/
import Derived.Test.YtnldiemggabdkaaDoorValI
namespace Go.Proofs.YtnldiemggabdkaaDoor
open Go.RowKit
set_option linter.unusedVariables false

theorem VFive.set5 {w : World} {g : Nat} {a b c d e a' b' c' d' e' : Value} (h : VFive w g a b c d e) : VFive (((((w.setCell ⟨g, 0, none⟩ a').setCell ⟨g, 1, none⟩ b').setCell ⟨g, 2, none⟩ c').setCell ⟨g, 3, none⟩ d').setCell ⟨g, 4, none⟩ e') g a' b' c' d' e' := by
  obtain ⟨⟨r0, r1, r2, r3, r4⟩, f0, f1, f2, f3, f4⟩ := h
  exact ⟨⟨by simp [go_sem, *], by simp [go_sem, *], by simp [go_sem, *], by simp [go_sem, *], by simp [go_sem, *]⟩, by simp [go_sem, *], by simp [go_sem, *], by simp [go_sem, *], by simp [go_sem, *], by simp [go_sem, *]⟩
theorem VFive.keep {w w1 : World} {g : Nat} {a b c d e : Value} (h : VFive w g a b c d e) (hb : w1.heap[g]? = w.heap[g]?) : VFive w1 g a b c d e := by
  obtain ⟨⟨r0, r1, r2, r3, r4⟩, f0, f1, f2, f3, f4⟩ := h
  have hc : ∀ o, w1.cell? ⟨g, o, none⟩ = w.cell? ⟨g, o, none⟩ := fun o => by simp only [World.cell?, hb]
  have hf : ∀ o, w1.frozen? ⟨g, o, none⟩ = w.frozen? ⟨g, o, none⟩ := fun o => by simp only [World.frozen?, hb]
  exact ⟨⟨(hc _).trans r0, (hc _).trans r1, (hc _).trans r2, (hc _).trans r3, (hc _).trans r4⟩, (hf _).trans f0, (hf _).trans f1, (hf _).trans f2, (hf _).trans f3, (hf _).trans f4⟩
theorem set5_other (w : World) (g k : Nat) (a b c d e : Value) (h : k ≠ g) : (((((w.setCell ⟨g, 0, none⟩ a).setCell ⟨g, 1, none⟩ b).setCell ⟨g, 2, none⟩ c).setCell ⟨g, 3, none⟩ d).setCell ⟨g, 4, none⟩ e).heap[k]? = w.heap[k]? := by
  rw [Below.heap_setCell _ _ _ _ h, Below.heap_setCell _ _ _ _ h, Below.heap_setCell _ _ _ _ h, Below.heap_setCell _ _ _ _ h, Below.heap_setCell _ _ _ _ h]

theorem getK_mem : ∀ (ks : List ByteArray) (ts : List VT) (x : ByteArray) (T : VT), getK ks ts x = some T → T ∈ ts
  | k :: ks, t :: ts, x, T, h => by
    rw [getK] at h
    split at h
    · injection h with h; simp [h]
    · exact List.mem_cons_of_mem _ (getK_mem ks ts x T h)
  | [], _, _, _, h => by simp [getK] at h
  | _ :: _, [], _, _, h => by simp [getK] at h
theorem get_mem {T T' : VT} {x : ByteArray} (h : T.get x = some T') : T' ∈ T.kids := by
  unfold VT.get at h
  split at h
  · exact getK_mem _ _ _ _ h
  · cases h
theorem maxL_le {l : List Nat} {x : Nat} (h : x ∈ l) : x ≤ maxL l := by
  induction l with
  | nil => cases h
  | cons y l ih =>
    rw [maxL_cons]
    rcases List.mem_cons.1 h with rfl | h
    · omega
    · have := ih h; omega
theorem sum_le {l : List Nat} {x : Nat} (h : x ∈ l) : x ≤ l.sum := by
  induction l with
  | nil => cases h
  | cons y l ih =>
    rw [List.sum_cons]
    rcases List.mem_cons.1 h with rfl | h
    · omega
    · have := ih h; omega
/-- The kids of a right value are right. -/
theorem ok_kid {T T' : VT} (h : T.ok = true) (hm : T' ∈ T.kids) : T'.ok = true := by
  obtain ⟨k, n, s, cA, cn, cc, kA, kn, kc, keys, kids⟩ := T
  unfold VT.ok at h ⊢
  rw [all_mk, dep_mk, cnt_mk] at h
  simp only [Bool.and_eq_true, decide_eq_true_eq, List.all_eq_true] at h ⊢
  have h1 := maxL_le (List.mem_map_of_mem (f := VT.dep) (show T' ∈ kids from hm))
  have h2 := sum_le (List.mem_map_of_mem (f := VT.cnt) (show T' ∈ kids from hm))
  exact ⟨by omega, by omega, h.2.2.2 T' hm⟩
theorem lie_kid {w : World} {B : Nat} {T T' : VT} (h : Lie w B T) (hm : T' ∈ T.kids) : Lie w B T' := by
  cases h with
  | mk _ _ _ hk => exact hk T' hm

/-- Where a path leads. -/
def pathR : VT → List ByteArray → Option VT
  | T, [] => some T
  | T, x :: r => match T.get x with
    | some T' => pathR T' r
    | none => none

set_option maxRecDepth 20000 in
set_option maxHeartbeats 2000000 in
theorem path_any (B : Nat) (w : World) (T : VT) (A : Option Addr) (m c : Nat) (path : List ByteArray) (B2 : Nat) (hL : Lie w B T) (hB : B ≤ w.heap.size) (hS : Shows w B2 1 A m (path.map Value.string)) (hB2 : B2 ≤ w.heap.size) (hm : m ≤ maxLen) (htab : UTab w) (hst : STab w) :
    Calls Tryd.prog 24 #[T.agg, .slice A m c] w fun e w' => e = .returned (memR (if T.ok = true then pathR T path else none)) ∧ Below w.heap.size w w' := by
  unfold maxLen at hm
  cases hok : T.ok
  · obtain ⟨k, n, s, cA, cn, cc, kA, kn, kc, keys, kids⟩ := T
    obtain ⟨hb, hsz, hv, hz⟩ := vbox2 w k n s cA cn cc kA kn kc _ rfl
    have hvd := valid_any B _ (.mk k n s cA cn cc kA kn kc keys kids) (hL.later (hb.mono hB)) (Nat.le_trans hB hb.size) (htab.below hb htab.lt) (hst.below hb hst.lt)
    rw [hok] at hvd
    simp only [VT.agg] at hvd ⊢
    have hle1 : w.heap.size ≤ w.heap.size + 1 := Nat.le_succ _
    have Hz := Lib.hid hz
    clear hL hS hsz hv hz hok
    go_enter Tryd.func24, Tryd.ntmps24
    go_wp2_with fail
    refine hvd.mono ?_
    rintro e w1 ⟨rfl, hb1⟩
    obtain ⟨⟨e0, e1, e2, e3, e4⟩, f0, f1, f2, f3, f4⟩ := Hz.out.later hb1
    have hb2 := bel_next hb hb1
    clear hb hb1
    go_wp2
    refine bodyPost_ret (v := .tuple #[.agg #[.int .i64 0, .int .i64 0, .string ⟨#[]⟩, .slice none 0 0, .slice none 0 0], .bool false]) ?_ rfl ⟨rfl, vbelow_set5 hb2 hle1⟩
    simp [results, Tryd.results24, go_sem, *]
  · obtain ⟨P, hP⟩ : ∃ P, P = pathR T path := ⟨_, rfl⟩
    rw [if_pos rfl, ← hP]
    obtain ⟨k, n, s, cA, cn, cc, kA, kn, kc, keys, kids⟩ := T
    obtain ⟨hb, hsz, hv, hz⟩ := vbox2 w k n s cA cn cc kA kn kc _ rfl
    have hvd := valid_any B _ (.mk k n s cA cn cc kA kn kc keys kids) (hL.later (hb.mono hB)) (Nat.le_trans hB hb.size) (htab.below hb htab.lt) (hst.below hb hst.lt)
    rw [hok] at hvd
    simp only [VT.agg] at hvd ⊢
    have hle0 : w.heap.size ≤ w.heap.size := Nat.le_refl _
    have hle1 : w.heap.size ≤ w.heap.size + 1 := Nat.le_succ _
    have Hz := Lib.hid hz
    have Hv := Lib.hid hv
    have HL := Lib.hid hL
    have HS := Lib.hid hS
    have Hok := Lib.hid hok
    have HP := Lib.hid hP
    have Hlen := Lib.hid (keys_len hS)
    clear hL hS hv hz hok hP
    go_enter Tryd.func24, Tryd.ntmps24
    go_wp2_with fail
    refine hvd.mono ?_
    rintro e w1 ⟨rfl, hb1⟩
    have hz1 := Hz.out.later hb1
    have hv1 := Hv.out.later hb1
    have hb2 := bel_next hb hb1
    have hsz1 := hb1.size
    rw [hsz] at hsz1
    clear hb hb1 hvd Hz Hv hsz
    go_wp2
    go_loopw [16] (fun i wr => ∃ (j : Nat) (T' : VT), j ≤ m ∧ i = .int .i64 j ∧ Hid (Lie w B T' ∧ T'.ok = true ∧ P = pathR T' (path.drop j)) ∧ Hid (VFive wr w.heap.size (.int .i64 T'.k) (.int .i64 T'.n) (.string T'.s) (T'.cells.getD 3 undef) (T'.cells.getD 4 undef)) ∧ Hid (VFive wr (w.heap.size + 1) (.int .i64 0) (.int .i64 0) (.string ⟨#[]⟩) (.slice none 0 0) (.slice none 0 0)) ∧ Below w.heap.size w wr ∧ w.heap.size + 2 ≤ wr.heap.size) (fun i _ => m - (intOf i).toNat)
    case atStart => exact ⟨0, .mk k n s cA cn cc kA kn kc keys kids, Nat.zero_le _, rfl, Lib.hid ⟨HL.out, Hok.out, by rw [List.drop_zero]; exact HP.out⟩, Lib.hid hv1, Lib.hid hz1, hb2, hsz1⟩
    case round =>
      obtain ⟨j, T', hj, rfl, HI, Hv, Hz, hbr, hsr⟩ := hrel
      obtain ⟨k', n', s', cA', cn', cc', kA', kn', kc', keys', kids'⟩ := T'
      have Hv' := Lib.hid (show VFive wr w.heap.size (.int .i64 k') (.int .i64 n') (.string s') (.slice cA' cn' cc') (.slice kA' kn' kc') from Hv.out)
      obtain ⟨⟨d0, d1, d2, d3, d4⟩, q0, q1, q2, q3, q4⟩ := Hv'.out
      by_cases hlt : j < m
      · obtain ⟨b, off, rfl, _, hc⟩ := key_at (HS.out.below (hbr.mono hB2)) hlt
        have hlt' : (j : Int) < m := by omega
        have hj0 : (0 : Int) ≤ j := by omega
        have hjl : j < path.length := by rw [Hlen.out]; exact hlt
        have hd : path.drop j = path.getD j ⟨#[]⟩ :: path.drop (j + 1) := by
          rw [List.drop_eq_getElem_cons hjl, List.getD_eq_getElem?_getD, List.getElem?_eq_getElem hjl]; rfl
        have hmem := member_any B wr (.mk k' n' s' cA' cn' cc' kA' kn' kc' keys' kids') (path.getD j ⟨#[]⟩) (HI.out.1.later (hbr.mono hB)) (Nat.le_trans hB hbr.size) HI.out.2.1
        have HPj := Lib.hid (HI.out.2.2.trans (by rw [hd]))
        generalize path.getD j ⟨#[]⟩ = x at *
        simp only [VT.agg] at hmem
        cases hg : VT.get (.mk k' n' s' cA' cn' cc' kA' kn' kc' keys' kids') x with
        | none =>
          rw [hg] at hmem
          have HN := Lib.hid (show P = none by rw [HPj.out, pathR, hg])
          clear hd hg HI HPj
          simp only [memR, zV] at hmem
          go_wp2_with fail
          refine hmem.mono ?_
          rintro e w2 ⟨rfl, hb3⟩
          obtain ⟨⟨e0, e1, e2, e3, e4⟩, f0, f1, f2, f3, f4⟩ := ((Hz.out.later hb3).alloc (.cells #[.int .i64 0, .int .i64 0, .string ⟨#[]⟩, .slice none 0 0, .slice none 0 0] 25))
          have hb4 := bel_alloc (bel_next hbr hb3) (.cells #[.int .i64 0, .int .i64 0, .string ⟨#[]⟩, .slice none 0 0, .slice none 0 0] 25)
          clear d0 d1 d2 d3 d4 q0 q1 q2 q3 q4 hc hb3
          go_wp2
          rw [HN.out]
          refine bodyPost_ret (v := .tuple #[.agg #[.int .i64 0, .int .i64 0, .string ⟨#[]⟩, .slice none 0 0, .slice none 0 0], .bool false]) ?_ rfl ⟨rfl, vbelow_set5 hb4 hle1⟩
          simp [results, Tryd.results24, go_sem, *]
        | some T2 =>
          rw [hg] at hmem
          have HI2 := Lib.hid (show Lie w B T2 ∧ T2.ok = true ∧ P = pathR T2 (path.drop (j + 1)) from ⟨lie_kid HI.out.1 (get_mem hg), ok_kid HI.out.2.1 (get_mem hg), by rw [HPj.out, pathR, hg]⟩)
          clear hd hg HI HPj
          obtain ⟨k2, n2, s2, cA2, cn2, cc2, kA2, kn2, kc2, keys2, kids2⟩ := T2
          simp only [memR, VT.agg] at hmem
          go_wp2_with fail
          refine hmem.mono ?_
          rintro e w2 ⟨rfl, hb3⟩
          have HZ2 := Lib.hid (((Hz.out.later hb3).alloc (.cells #[.int .i64 k2, .int .i64 n2, .string s2, .slice cA2 cn2 cc2, .slice kA2 kn2 kc2] 25)))
          have HV2 := Lib.hid (((Hv'.out.later hb3).alloc (.cells #[.int .i64 k2, .int .i64 n2, .string s2, .slice cA2 cn2 cc2, .slice kA2 kn2 kc2] 25)))
          obtain ⟨⟨e0, e1, e2, e3, e4⟩, f0, f1, f2, f3, f4⟩ := HV2.out
          have hb4 := bel_alloc (bel_next hbr hb3) (.cells #[.int .i64 k2, .int .i64 n2, .string s2, .slice cA2 cn2 cc2, .slice kA2 kn2 kc2] 25)
          have hs4 : w.heap.size + 2 ≤ (w2.alloc (.cells #[.int .i64 k2, .int .i64 n2, .string s2, .slice cA2 cn2 cc2, .slice kA2 kn2 kc2] 25)).heap.size := by have := hb3.size; simp; omega
          clear d0 d1 d2 d3 d4 q0 q1 q2 q3 q4 hc hb3 hbr
          go_wp2
          go_roundw
          case rel => exact ⟨j + 1, .mk k2 n2 s2 cA2 cn2 cc2 kA2 kn2 kc2 keys2 kids2, by omega, by go_num, HI2, Lib.hid HV2.out.set5, Lib.hid (HZ2.out.keep (set5_other _ _ _ _ _ _ _ _ (by omega))), vbelow_set5 hb4 hle0, by simpa [World.setCell] using hs4⟩
          case measure => simp [intOf]; omega
      · have e : j = m := by omega
        subst e
        have HN := Lib.hid (show P = some (.mk k' n' s' cA' cn' cc' kA' kn' kc' keys' kids') by rw [HI.out.2.2, ← Hlen.out, List.drop_length]; rfl)
        obtain ⟨⟨e0, e1, e2, e3, e4⟩, f0, f1, f2, f3, f4⟩ := Hz.out
        clear HI
        go_wp2
        rw [HN.out]
        refine bodyPost_ret (v := .tuple #[.agg #[.int .i64 k', .int .i64 n', .string s', .slice cA' cn' cc', .slice kA' kn' kc'], .bool true]) ?_ rfl ⟨rfl, vbelow_set5 hbr hle1⟩
        simp [results, Tryd.results24, go_sem, *]
end Go.Proofs.YtnldiemggabdkaaDoor
