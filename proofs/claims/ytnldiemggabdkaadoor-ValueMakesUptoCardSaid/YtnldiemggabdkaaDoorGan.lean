import Derived.Test.YtnldiemggabdkaaDoorGam
import Derived.Test.YtnldiemggabdkaaDoorGah
import Derived.Test.YtnldiemggabdkaaDoorRows
import Derived.Test.YtnldiemggabdkaaDoorGag
import Derived.Deep.Modes
/-
  Layer 4, the reference: Zero, Get, Len; law 4's told.
-/
namespace Go.Proofs.YtnldiemggabdkaaDoor
open Go.RowKit
set_option linter.unusedVariables false

/-- What a call tells, or nothing. -/
def orV (r : Option VT) : VT := r.getD (scV 0 0 ⟨#[]⟩)
theorem memR_orV (r : Option VT) : memR r = .tuple #[(orV r).agg, .bool r.isSome] := by cases r <;> rfl
theorem five_blk {W : World} {g : Nat} {a b c d e : Value} {t : TypeId} (h : W.heap[g]? = some (.cells #[a, b, c, d, e] t)) : VFive W g a b c d e :=
  ⟨⟨(cell_of_row W g 0 _ t (0, 0) h).trans rfl, (cell_of_row W g 1 _ t (0, 0) h).trans rfl, (cell_of_row W g 2 _ t (0, 0) h).trans rfl, (cell_of_row W g 3 _ t (0, 0) h).trans rfl, (cell_of_row W g 4 _ t (0, 0) h).trans rfl⟩,
    ⟨frozen_of_row W g 0 _ t h, frozen_of_row W g 1 _ t h, frozen_of_row W g 2 _ t h, frozen_of_row W g 3 _ t h, frozen_of_row W g 4 _ t h⟩⟩
set_option maxRecDepth 20000 in
theorem rzero_z (w : World) : Calls Tryd.prog 29 #[.agg #[.int .i64 0, .int .i64 0, .string ⟨#[]⟩, .slice none 0 0, .slice none 0 0]] w fun e w' => e = .returned (.bool true) ∧ Below w.heap.size w w' := by
  have hb1 := bel_alloc (Below.refl w.heap.size w) (.cells #[.int .i64 0, .int .i64 0, .string ⟨#[]⟩, .slice none 0 0, .slice none 0 0] 25)
  go_enter Tryd.func29, Tryd.ntmps29
  go_wp2
  go_ret
  exact ⟨by rfl, hb1⟩
set_option maxRecDepth 20000 in
set_option maxHeartbeats 2000000 in
/-- told, of what is one and the same, or nothing. -/
theorem told_any (r : Option VT) (Y : VT) (B : Nat) (w : World) (hY : ∀ X, r = some X → Y = X) (hL : Lie w B Y) (hS : Sml 1048576 Y) (hok : r.isSome = true → Y.ok = true) (hB : B ≤ w.heap.size) :
    Calls Tryd.prog 21 #[(orV r).agg, .bool r.isSome, Y.agg, .bool r.isSome] w fun e w' => e = .returned (.bool true) ∧ Below w.heap.size w w' := by
  cases r with
  | none =>
    show Calls _ _ #[.agg #[.int .i64 0, .int .i64 0, .string ⟨#[]⟩, .slice none 0 0, .slice none 0 0], .bool false, Y.agg, .bool false] w _
    have hz := fun W => rzero_z W
    clear hY hL hS hok
    obtain ⟨k, n, s, cA, cn, cc, kA, kn, kc, keys, kids⟩ := Y
    simp only [VT.agg]
    have hb1 := bel_alloc (bel_alloc (Below.refl w.heap.size w) (.cells #[.int .i64 0, .int .i64 0, .string ⟨#[]⟩, .slice none 0 0, .slice none 0 0] 25)) (.cells #[.int .i64 k, .int .i64 n, .string s, .slice cA cn cc, .slice kA kn kc] 25)
    go_enter Tryd.func21, Tryd.ntmps21
    go_wp2_with fail
    refine (hz _).mono ?_
    rintro e w1 ⟨rfl, hb2⟩
    go_wp2
    go_ret
    exact ⟨rfl, bel_next hb1 hb2⟩
  | some X =>
    obtain rfl := hY X rfl
    show Calls _ _ #[Y.agg, .bool true, Y.agg, .bool true] w _
    have hs := fun o o' => rsame_any Y Y B ((w.alloc o).alloc o') (hL.later ((bel_alloc (bel_alloc (Below.refl w.heap.size w) o) o').mono hB)) (hL.later ((bel_alloc (bel_alloc (Below.refl w.heap.size w) o) o').mono hB)) hS hS (Nat.le_trans hB (bel_alloc (bel_alloc (Below.refl w.heap.size w) o) o').size)
    rw [sameR_refl, hok rfl] at hs
    clear hY hL hS hok
    obtain ⟨k, n, s, cA, cn, cc, kA, kn, kc, keys, kids⟩ := Y
    simp only [VT.agg] at hs ⊢
    have hs := hs (.cells #[.int .i64 k, .int .i64 n, .string s, .slice cA cn cc, .slice kA kn kc] 25) (.cells #[.int .i64 k, .int .i64 n, .string s, .slice cA cn cc, .slice kA kn kc] 25)
    have hb1 := bel_alloc (bel_alloc (Below.refl w.heap.size w) (.cells #[.int .i64 k, .int .i64 n, .string s, .slice cA cn cc, .slice kA kn kc] 25)) (.cells #[.int .i64 k, .int .i64 n, .string s, .slice cA cn cc, .slice kA kn kc] 25)
    go_enter Tryd.func21, Tryd.ntmps21
    go_wp2_with fail
    refine hs.mono ?_
    rintro e w1 ⟨rfl, hb2⟩
    go_wp2
    go_ret
    exact ⟨rfl, bel_next hb1 hb2⟩
theorem getK_pre : ∀ (ks : List ByteArray) (ts : List VT) (x : ByteArray) (j : Nat), j < ks.length → j < ts.length → (∀ q, q < j → ks.getD q ⟨#[]⟩ ≠ x) → ks.getD j ⟨#[]⟩ = x → getK ks ts x = ts[j]? :=
  fun ks ts x j h1 h2 h3 h4 => getK_some ks ts x j h1 h2 h4 h3
set_option maxRecDepth 20000 in
set_option maxHeartbeats 4000000 in
theorem rget_any (T : VT) (x : ByteArray) (B : Nat) (w : World) (hL : Lie w B T) (hB : B ≤ w.heap.size) (hall : T.all = true) :
    Calls Tryd.prog 19 #[T.agg, .string x] w fun e w' => e = .returned (memR (T.get x)) ∧ Below w.heap.size w w' := by
  obtain ⟨k, n, s, cA, cn, cc, kA, kn, kc, keys, kids⟩ := T
  cases hL with | mk hkc hkk hkz hkid =>
  have hlc := kids_len hkc
  have hlk := keys_len hkk
  rw [all_mk, Bool.and_eq_true] at hall
  have hkn := fit_keysn hall.1
  have HC := Lib.hid hkc
  have HK := Lib.hid hkk
  have Hlc := Lib.hid hlc
  have Hlk := Lib.hid hlk
  have hkm := Nat.le_trans hkz.k1 hkz.k2
  unfold maxLen at hkm
  have hb1 := bel_alloc (bel_alloc (Below.refl w.heap.size w) (.cells #[.int .i64 k, .int .i64 n, .string s, .slice cA cn cc, .slice kA kn kc] 25)) (.cells #[.int .i64 0, .int .i64 0, .string ⟨#[]⟩, .slice none 0 0, .slice none 0 0] 25)
  have Hv := Lib.hid ((VFive.new w (.int .i64 k) (.int .i64 n) (.string s) (.slice cA cn cc) (.slice kA kn kc) 25 w.heap.size rfl).alloc (.cells #[.int .i64 0, .int .i64 0, .string ⟨#[]⟩, .slice none 0 0, .slice none 0 0] 25))
  have Hr := Lib.hid (show VFive ((w.alloc (.cells #[.int .i64 k, .int .i64 n, .string s, .slice cA cn cc, .slice kA kn kc] 25)).alloc (.cells #[.int .i64 0, .int .i64 0, .string ⟨#[]⟩, .slice none 0 0, .slice none 0 0] 25)) (w.heap.size + 1) (.int .i64 0) (.int .i64 0) (.string ⟨#[]⟩) (.slice none 0 0) (.slice none 0 0) from VFive.new _ _ _ _ _ _ _ _ (World.size_alloc _ _))
  have hle1 : w.heap.size ≤ w.heap.size + 1 := Nat.le_succ _
  simp only [VT.agg]
  clear hkc hkk hkz hkid hall hlc hlk
  go_enter Tryd.func19, Tryd.ntmps19
  go_upto_region 1 with fail
  generalize ((w.alloc (.cells #[.int .i64 k, .int .i64 n, .string s, .slice cA cn cc, .slice kA kn kc] 25)).alloc (.cells #[.int .i64 0, .int .i64 0, .string ⟨#[]⟩, .slice none 0 0, .slice none 0 0] 25)) = W1 at *
  by_cases h6 : k = 6
  · subst h6
    rw [if_pos rfl] at hkn
    subst hkn
    go_wp2
    go_loopw [6] (fun i wr => ∃ j : Nat, j ≤ kn ∧ i = .int .i64 j ∧ Hid (∀ q, q < j → keys.getD q ⟨#[]⟩ ≠ x) ∧ W1 = wr) (fun i _ => kn - (intOf i).toNat)
    case atStart => exact ⟨0, Nat.zero_le _, rfl, Lib.hid (fun q h => absurd h (Nat.not_lt_zero q)), rfl⟩
    case round =>
      obtain ⟨j, hj, rfl, Hq, rfl⟩ := hrel
      obtain ⟨⟨v0, v1, v2, v3, v4⟩, -⟩ := Hv.out
      obtain ⟨⟨z0, z1, z2, z3, z4⟩, f0, f1, f2, f3, f4⟩ := Hr.out
      by_cases hlt : j < kn
      · have hjc : (j : Int) < kn := by omega
        have hj0 : (0 : Int) ≤ j := by omega
        obtain ⟨b, off, rfl, _, hcj⟩ := key_at (HK.out.below (hb1.mono hB)) hlt
        obtain ⟨b2, off2, y, rfl, _, hy, h5⟩ := kids_at (HC.out.below (hb1.mono hB)) hlt
        by_cases hke : keys.getD j ⟨#[]⟩ = x
        · have HF := Lib.hid (show VT.get (.mk 6 n s (some ⟨b2, off2, none⟩) kn cc (some ⟨b, off, none⟩) kn kc keys kids) x = some y by
            show (if (6 : Int) = 6 then getK keys kids x else none) = _
            rw [if_pos rfl, getK_pre keys kids x j (by rw [Hlk.out]; exact hlt) (by rw [Hlc.out]; exact hlt) Hq.out hke]
            exact hy)
          rw [hke] at hcj
          have hxx := str_eq x
          clear hke hy
          obtain ⟨k', n', s', cA', cn', cc', kA', kn', kc', keys', kids'⟩ := y
          obtain ⟨g0, g1, g2, g3, g4⟩ := h5
          go_wp2
          refine bodyPost_ret (v := .tuple #[.agg #[.int .i64 k', .int .i64 n', .string s', .slice cA' cn' cc', .slice kA' kn' kc'], .bool true]) ?_ rfl ⟨by rw [HF.out]; rfl, vbelow_set5 hb1 hle1⟩
          simp [results, Tryd.results19, go_sem, *]
        · have hxx := str_ne hke
          have HQ := Lib.hid (show ∀ q, q < j + 1 → keys.getD q ⟨#[]⟩ ≠ x from fun q hq => if e : q = j then e ▸ hke else Hq.out q (by omega))
          clear hke hy h5
          generalize keys.getD j ⟨#[]⟩ = key at *
          go_wp2
          go_roundw
          case rel => exact ⟨j + 1, by omega, by go_num, HQ, by first | rfl | trivial⟩
          case measure => simp [intOf]; omega
      · obtain rfl : j = kn := by omega
        have HF := Lib.hid (show VT.get (.mk 6 n s cA j cc kA j kc keys kids) x = none by
          show (if (6 : Int) = 6 then getK keys kids x else none) = _
          rw [if_pos rfl]
          exact getK_none keys kids x fun q hq => Hq.out q (by rw [← Hlk.out]; exact hq))
        go_wp2
        refine bodyPost_ret (v := .tuple #[.agg #[.int .i64 0, .int .i64 0, .string ⟨#[]⟩, .slice none 0 0, .slice none 0 0], .bool false]) ?_ rfl ⟨by rw [HF.out]; rfl, vbelow_set5 hb1 hle1⟩
        simp [results, Tryd.results19, go_sem, *]
  · have HF := Lib.hid (show VT.get (.mk k n s cA cn cc kA kn kc keys kids) x = none by
      show (if k = 6 then getK keys kids x else none) = _
      rw [if_neg h6])
    have e6 : (k == 6) = false := by rw [beq_eq_false_iff_ne]; exact h6
    obtain ⟨⟨v0, v1, v2, v3, v4⟩, -⟩ := Hv.out
    obtain ⟨⟨z0, z1, z2, z3, z4⟩, f0, f1, f2, f3, f4⟩ := Hr.out
    clear h6 hkn
    go_wp2
    go_loopw [6] (fun i wr => i = .int .i64 0 ∧ W1 = wr) (fun i _ => 0)
    case atStart => exact ⟨rfl, rfl⟩
    case round =>
      obtain ⟨rfl, rfl⟩ := hrel
      go_wp2
      refine bodyPost_ret (v := .tuple #[.agg #[.int .i64 0, .int .i64 0, .string ⟨#[]⟩, .slice none 0 0, .slice none 0 0], .bool false]) ?_ rfl ⟨by rw [HF.out]; rfl, vbelow_set5 hb1 hle1⟩
      simp [results, Tryd.results19, go_sem, *]
end Go.Proofs.YtnldiemggabdkaaDoor
/-
  Layer 4: Bool; the bare values against the reference's Same.
-/
namespace Go.Proofs.YtnldiemggabdkaaDoor
open Go.RowKit
set_option linter.unusedVariables false

set_option maxRecDepth 20000 in
theorem bool_any (b : Bool) (w : World) : Calls Tryd.prog 33 #[.bool b] w fun e w' => e = .returned (scV 2 (if b = true then 1 else 0) ⟨#[]⟩).agg ∧ Below w.heap.size w w' := by
  cases b
  · go_enter Tryd.func33, Tryd.ntmps33
    go_wp2
    refine bodyPost_ret (v := .agg #[.int .i64 2, .int .i64 0, .string ⟨#[]⟩, .slice none 0 0, .slice none 0 0]) ?_ rfl ⟨rfl, bel_alloc (bel_alloc (Below.refl _ _) _) _⟩
    simp [results, Tryd.results33, go_sem, *]
  · go_enter Tryd.func33, Tryd.ntmps33
    go_wp2
    refine bodyPost_ret (v := .agg #[.int .i64 2, .int .i64 1, .string ⟨#[]⟩, .slice none 0 0, .slice none 0 0]) ?_ rfl ⟨rfl, bel_alloc (bel_alloc (Below.refl _ _) _) _⟩
    simp [results, Tryd.results33, go_sem, *]
set_option maxRecDepth 20000 in
/-- Two trees that are the same up to the heads of their slices. -/
theorem told_two (T T' : VT) (B : Nat) (w : World) (h : sameR T T' = true) (hL : Lie w B T) (hL' : Lie w B T') (hS : Sml 1048576 T) (hS' : Sml 1048576 T') (hB : B ≤ w.heap.size) :
    Calls Tryd.prog 21 #[T.agg, .bool true, T'.agg, .bool true] w fun e w' => e = .returned (.bool true) ∧ Below w.heap.size w w' := by
  have hs := fun o o' => rsame_any T T' B ((w.alloc o).alloc o') (hL.later ((bel_alloc (bel_alloc (Below.refl w.heap.size w) o) o').mono hB)) (hL'.later ((bel_alloc (bel_alloc (Below.refl w.heap.size w) o) o').mono hB)) hS hS' (Nat.le_trans hB (bel_alloc (bel_alloc (Below.refl w.heap.size w) o) o').size)
  rw [h] at hs
  clear h hL hL' hS hS'
  obtain ⟨k, n, s, cA, cn, cc, kA, kn, kc, keys, kids⟩ := T
  obtain ⟨k', n', s', cA', cn', cc', kA', kn', kc', keys', kids'⟩ := T'
  simp only [VT.agg] at hs ⊢
  have hs := hs (.cells #[.int .i64 k, .int .i64 n, .string s, .slice cA cn cc, .slice kA kn kc] 25) (.cells #[.int .i64 k', .int .i64 n', .string s', .slice cA' cn' cc', .slice kA' kn' kc'] 25)
  have hb1 := bel_alloc (bel_alloc (Below.refl w.heap.size w) (.cells #[.int .i64 k, .int .i64 n, .string s, .slice cA cn cc, .slice kA kn kc] 25)) (.cells #[.int .i64 k', .int .i64 n', .string s', .slice cA' cn' cc', .slice kA' kn' kc'] 25)
  go_enter Tryd.func21, Tryd.ntmps21
  go_wp2_with fail
  refine hs.mono ?_
  rintro e w1 ⟨rfl, hb2⟩
  go_wp2
  go_ret
  exact ⟨rfl, bel_next hb1 hb2⟩
theorem resp_two {L : List PT} {n : Nat} {X X' : VT} {E E' : Int} (h : ResP L n X E) (h' : ResP L n X' E') : E = E' ∧ ((E = 0 ∧ sameR X X' = true) ∨ (¬ E = 0 ∧ X = scV 0 0 ⟨#[]⟩ ∧ X' = scV 0 0 ⟨#[]⟩)) := by
  rcases h with ⟨a, rfl, rfl⟩ | ⟨a, ⟨b, ⟨kA, kc, cA, cc, rfl⟩, rfl⟩ | ⟨b, rfl, rfl⟩⟩ <;> rcases h' with ⟨a', rfl, rfl⟩ | ⟨a', ⟨b', ⟨kA', kc', cA', cc', rfl⟩, rfl⟩ | ⟨b', rfl, rfl⟩⟩
  · exact ⟨rfl, .inr ⟨by decide, rfl, rfl⟩⟩
  · exact absurd a' a
  · exact absurd a' a
  · exact absurd a a'
  · exact ⟨rfl, .inl ⟨rfl, ob_same b⟩⟩
  · rw [b] at b'; cases b'
  · exact absurd a a'
  · rw [b] at b'; cases b'
  · exact ⟨rfl, .inr ⟨by decide, rfl, rfl⟩⟩
end Go.Proofs.YtnldiemggabdkaaDoor
/-
  Layer 4: Text and List with their results at large, as ValueMakes wants them; which bare values may be.
-/
namespace Go.Proofs.YtnldiemggabdkaaDoor
open Go.RowKit
set_option linter.unusedVariables false

theorem strB_four (s : ByteArray) : strB 4 s = validS s := by
  unfold strB strQ
  rw [ByteArray.toList_eq]
  cases h : s.data.toList with
  | nil => unfold validS; rw [h, ptsL]; rfl
  | cons a l => simp [shText]
theorem tx_fit (s : ByteArray) : (scV 4 0 s).fit = validS s := by
  unfold scV
  rw [fit_mk, strB_four]
  have h1 : shKnown 4 = true := by decide
  have h2 : numB 4 0 = true := by decide
  have h3 : eleB 4 0 = true := by decide
  have h4 : memB 4 0 0 [] = true := by decide
  rw [h1, h2, h3, h4]
  simp
theorem tx_ok (s : ByteArray) : (scV 4 0 s).ok = validS s := by
  unfold VT.ok
  rw [sc_dep, sc_cnt, sc_all, tx_fit]
  rfl
theorem bare_ok (k n : Int) (hk : k = 1 ∨ k = 2 ∨ k = 3) (hn : numB k n = true) : (scV k n ⟨#[]⟩).ok = true := by
  have hf : (scV k n ⟨#[]⟩).fit = true := by
    unfold scV
    rw [fit_mk, hn, strB_nil]
    rcases hk with rfl | rfl | rfl <;> decide
  refine sc_ok _ _ _ ?_ hf
  rcases hk with rfl | rfl | rfl <;> decide
theorem bare_same (k n : Int) (hk : k = 1 ∨ k = 2 ∨ k = 3) (hn : numB k n = true) : sameR (scV k n ⟨#[]⟩) (scV k n ⟨#[]⟩) = true := by
  rw [sameR_refl, bare_ok k n hk hn]
theorem ls_head (A A' : Option Addr) (n c c' : Nat) (l : List VT) : (lsV A n c l).ok = (lsV A' n c' l).ok := by
  unfold VT.ok
  rw [dep_mk, dep_mk, cnt_mk, cnt_mk, all_mk, all_mk, fit_mk, fit_mk]
theorem ls_same (A A' : Option Addr) (n c c' : Nat) (l : List VT) (h : (lsV A n c l).ok = true) : sameR (lsV A n c l) (lsV A' n c' l) = true := by
  unfold sameR
  rw [ls_head A' A n c' c l, h, (sameV_iff _ _).2 (by rw [e_mk, e_mk])]
  rfl
theorem resp_sml {L : List PT} {n : Nat} {X : VT} {E : Int} (h : ResP L n X E) (hL : ∀ p ∈ L, Sml 1048576 p.2 ∧ p.1.size ≤ 1048576) : Sml 1048576 X := by
  have hz : Sml 1048576 (scV 0 0 ⟨#[]⟩) := sml_sc _ _ _ (by decide)
  rcases h with ⟨_, rfl, _⟩ | ⟨_, ⟨_, ⟨kA, kc, cA, cc, rfl⟩, _⟩ | ⟨_, rfl, _⟩⟩
  · exact hz
  · refine .mk (Nat.zero_le _) (fun x hx => ?_) (fun x hx => ?_)
    · obtain ⟨p, hp, rfl⟩ := List.mem_map.1 hx
      exact (hL p ((srtP_perm L).mem_iff.1 hp)).2
    · obtain ⟨p, hp, rfl⟩ := List.mem_map.1 hx
      exact (hL p ((srtP_perm L).mem_iff.1 hp)).1
  · exact hz
theorem told_zero (w : World) : Calls Tryd.prog 21 #[(scV 0 0 ⟨#[]⟩).agg, .bool false, (scV 0 0 ⟨#[]⟩).agg, .bool false] w fun e w' => e = .returned (.bool true) ∧ Below w.heap.size w w' :=
  told_any none (scV 0 0 ⟨#[]⟩) w.heap.size w (fun _ h => by cases h) (lie_sc _ _ _ _ _ (by decide) (by decide) (by decide)) (sml_sc _ _ _ (by decide)) (fun h => by cases h) (Nat.le_refl _)
theorem told_none (Y : VT) (w : World) (hL : Lie w w.heap.size Y) (hS : Sml 1048576 Y) : Calls Tryd.prog 21 #[(scV 0 0 ⟨#[]⟩).agg, .bool false, Y.agg, .bool false] w fun e w' => e = .returned (.bool true) ∧ Below w.heap.size w w' :=
  told_any none Y w.heap.size w (fun _ h => by cases h) hL hS (fun h => by cases h) (Nat.le_refl _)
def TexP (s : ByteArray) (X : VT) (E : Int) : Prop := (validS s = true ∧ X = scV 4 0 s ∧ E = 0) ∨ (validS s = false ∧ X = scV 0 0 ⟨#[]⟩ ∧ E = 140)
theorem text_res (s : ByteArray) (w : World) (hs : s.size ≤ maxLen) (htab : UTab w) (hst : STab w) :
    Calls Tryd.prog 27 #[.string s] w fun e w' => ∃ X E, e = .returned (.tuple #[X.agg, .int .i64 E]) ∧ Hid (TexP s X E) ∧ Below w.heap.size w w' := by
  refine (text_any s w hs htab hst).mono ?_
  rintro e w' ⟨rfl, hb⟩
  unfold chkR
  rw [tx_ok]
  cases h : validS s with
  | true => exact ⟨scV 4 0 s, 0, rfl, Lib.hid (.inl ⟨h, rfl, rfl⟩), hb⟩
  | false => exact ⟨scV 0 0 ⟨#[]⟩, 140, rfl, Lib.hid (.inr ⟨h, rfl, rfl⟩), hb⟩
def LisP (n : Nat) (l : List VT) (X : VT) (E : Int) : Prop := ((lsV none n 0 l).ok = true ∧ (∃ A c, X = lsV A n c l) ∧ E = 0) ∨ ((lsV none n 0 l).ok = false ∧ X = scV 0 0 ⟨#[]⟩ ∧ E = 140)
theorem list_res (B : Nat) (w : World) (A : Option Addr) (n c : Nat) (l : List VT) (h : Shows w B 5 A n (l.flatMap VT.cells)) (hl : ∀ x ∈ l, Lie w B x) (hA : A = none → c = 0) (hB : B ≤ w.heap.size) (hn : n ≤ 1000) (htab : UTab w) (hst : STab w) :
    Calls Tryd.prog 32 #[.slice A n c] w fun e w' => ∃ X E, e = .returned (.tuple #[X.agg, .int .i64 E]) ∧ Hid (LisP n l X E) ∧ Lie w' w'.heap.size X ∧ Below w.heap.size w w' := by
  refine (list_any B w A n c l h hl hA hB hn htab hst).mono ?_
  rintro e w' ⟨A', c', rfl, hLie, hb⟩
  have he := ls_head none A' n 0 c' l
  cases hok : (lsV A' n c' l).ok with
  | true => rw [hok] at he; rw [chkT_ok hok, chkE_ok hok]; exact ⟨_, _, rfl, Lib.hid (.inl ⟨he, ⟨A', c', rfl⟩, rfl⟩), hLie, hb⟩
  | false => rw [hok] at he; rw [chkT_no hok, chkE_no hok]; exact ⟨_, _, rfl, Lib.hid (.inr ⟨he, rfl, rfl⟩), lie_sc _ _ _ _ _ (by decide) (by decide) (by decide), hb⟩
end Go.Proofs.YtnldiemggabdkaaDoor
/-
  ValueMakes: the constructors return the defined values and errors: the walk.
-/
namespace Go.Proofs.YtnldiemggabdkaaDoor
open Go.RowKit
set_option linter.unusedVariables false

set_option maxRecDepth 20000 in
set_option maxHeartbeats 4000000 in
theorem vmakes_any (w : World) (N : Int) (hN : (Lit.int .i64 N).wf = true) (s : ByteArray) (hsz : s.size ≤ 1048576) (A0 : Option Addr) (n0 c0 : Nat) (l0 : List PT) (B : Nat) (hB : B ≤ w.heap.size)
    (h0 : Shows w B 6 A0 n0 (l0.flatMap pCells)) (hl0 : ∀ p ∈ l0, (Lie w B p.2 ∧ p.1.size ≤ maxLen) ∧ Sml 1048576 p.2 ∧ p.1.size ≤ 1048576) (hc0 : n0 ≤ c0) (hM0 : c0 ≤ maxLen) (htab : UTab w) (hst : STab w) :
    Calls Tryd.prog 5 #[.int .i64 N, .string s, .slice A0 n0 c0] w fun e w' => e = .returned (.bool true) ∧ Below w.heap.size w w' := by
  obtain ⟨iP, hiP, hzP, hsP, hbP⟩ := pair_info
  obtain ⟨iV, hiV, hzV, hsV, hbV⟩ := val_info
  have HW := vwakes_any w htab hst
  have HTx := Lib.hid (fun W (h : Below w.heap.size w W) => (⟨htab.below h htab.lt, hst.below h hst.lt⟩ : UTab W ∧ STab W))
  obtain ⟨m, hm⟩ : ∃ m, m = min n0 300 := ⟨_, rfl⟩
  have hmi : min (n0 : Int) 300 = (m : Int) := by omega
  have hmj : (if (300 : Int) < (n0 : Int) then (300 : Int) else (n0 : Int)) = (m : Int) := by split <;> omega
  have hmle : m ≤ 300 := by omega
  have hmn : m ≤ n0 := by omega
  have hz1 : (0 : Int) ≤ m := by omega
  have hi1 : (m : Int) ≤ n0 := by omega
  have hj1 : (m : Int) ≤ c0 := by omega
  have hsh : Shows w B 6 A0 m ((l0.take m).flatMap pCells) := by have := h0.first hmn; rwa [flat_firstP pCells 6 pCells_len] at this
  have hlen : (l0.take m).length = m := pairs_len hsh
  have hlie : ∀ p ∈ l0.take m, (Lie w B p.2 ∧ p.1.size ≤ maxLen) ∧ Sml 1048576 p.2 ∧ p.1.size ≤ 1048576 := fun x hx => hl0 x (List.mem_of_mem_take hx)
  generalize l0.take m = L at *
  have hone := pcells_one L
  have HLie := Lib.hid (fun W (h : Below w.heap.size w W) => (fun p hp => ⟨⟨((hlie p hp).1.1.later (h.mono hB)).more (Nat.le_trans hB h.size), (hlie p hp).1.2⟩, (hlie p hp).2⟩ : ∀ p ∈ L, (Lie W W.heap.size p.2 ∧ p.1.size ≤ maxLen) ∧ Sml 1048576 p.2 ∧ p.1.size ≤ 1048576))
  have Hsh := Lib.hid hsh
  have hMx : 300 ≤ maxLen := by decide
  have hsM : s.size ≤ maxLen := Nat.le_trans hsz (by decide)
  obtain ⟨q, hq⟩ : ∃ q, q = validS s := ⟨_, rfl⟩
  have HQ := Lib.hid hq
  have HVd := Lib.hid (fun W => rvalid_any s W hsz)
  rw [← hq] at HVd
  clear hm h0 hl0 hsh hlie hM0 htab hst hq
  go_enter Tryd.func5, Tryd.ntmps5
  go_wp2_with fail
  refine HW.mono ?_
  rintro e W1 ⟨rfl, hb1⟩
  clear HW
  go_upto_region 3 with fail
  have hown := World.ownsRow_lit (base := W1.heap.size) (e := 48) (size := 6) W1 #[] 0 (Nat.le_refl _) (Nat.zero_le _) rfl
  have hs := (Hsh.out.below (hb1.mono hB)).alloc (Nat.le_trans hB hb1.size) (.cells #[] 48)
  go_cut [2] (fun s2 wx => ∃ A c, s2 = .slice A m c ∧ Hid (Shows wx wx.heap.size 6 A m (L.flatMap pCells)) ∧ Hid (A = none → c = 0) ∧ m ≤ c ∧ Below W1.heap.size W1 wx)
  case first =>
    go_wp2_with (at_builtin; refine wpList_append_shows _ rfl _ _ 41 rfl W1.heap.size 48 iP _ 6 96 Tryd.underlying41 hiP hzP hsP hbP rfl (by decide) _ _ _ rfl hown B _ m _ (L.flatMap pCells) rfl hs hone (by omega) (by omega) (by simp) ?_; intro A7 c7 w7 hown7 hgrow7 hb7)
    have ho : w7.ownsRow W1.heap.size 48 6 (.slice A7 m c7) m (L.flatMap pCells) := by simpa using hown7
    have hbx : Below W1.heap.size W1 w7 := ((Below.refl _ _).alloc (Nat.le_refl _) _).trans hb7
    clear hown7
    go_wp2
    go_meet
    case rel => exact ⟨A7, c7, by simp, Lib.hid (Shows.own ho), Lib.hid (own_noneP ho), own_cap ho, hbx⟩
  case rest =>
    obtain ⟨A1, c1, rfl, H1, HA, hmc, hbc⟩ := hcut
    rename World => W2
    have hb2 := bel_next hb1 hbc
    have htx := text_res s W2 hsM (HTx.out W2 hb2).1 (HTx.out W2 hb2).2
    clear hs hown hb1 hbc hmi hmj hi1 hj1 hmn hc0 Hsh
    go_wp2_with fail
    refine htx.mono ?_
    rintro e W3 ⟨X, E, rfl, HX, hb3⟩
    clear htx
    obtain ⟨k, n, t, cA, cn, cc, kA, kn, kc, keys, kids⟩ := X
    simp only [VT.agg]
    have hb4 := bel_alloc (bel_next hb2 hb3) (.cells #[.int .i64 k, .int .i64 n, .string t, .slice cA cn cc, .slice kA kn kc] 25)
    have HV := Lib.hid (VFive.new W3 (.int .i64 k) (.int .i64 n) (.string t) (.slice cA cn cc) (.slice kA kn kc) 25 W3.heap.size rfl)
    have hk4 := bel_alloc hb3 (.cells #[.int .i64 k, .int .i64 n, .string t, .slice cA cn cc, .slice kA kn kc] 25)
    go_wp2_with fail
    refine (HVd.out _).mono ?_
    rintro e W5 ⟨rfl, hb5⟩
    have hb6 := bel_next hb4 hb5
    have hk6 := bel_next hk4 hb5
    have HV5 := Lib.hid (HV.out.later hb5)
    clear HV hb3 hb4 hb5 hk4 HVd
    go_upto_region 6 with fail
    go_cut [62] (fun s62 wx => s62 = .bool false ∧ Below W5.heap.size W5 wx)
    case first =>
      obtain ⟨⟨v0, v1, v2, v3, v4⟩, -⟩ := HV5.out
      rcases HX.out with ⟨hv, hX, rfl⟩ | ⟨hv, hX, rfl⟩
      · rw [← HQ.out] at hv
        subst hv
        unfold scV at hX
        injection hX with e1 e2 e3 e4 e5 e6 e7 e8 e9 e10 e11
        subst e1 e2 e3 e4 e5 e6 e7 e8 e9 e10 e11
        have hsm := rsame_any (scV 4 0 t) (scV 4 0 t) W5.heap.size W5 (lie_sc _ _ _ _ _ (by decide) (by decide) hsM) (lie_sc _ _ _ _ _ (by decide) (by decide) hsM) (sml_sc _ _ _ hsz) (sml_sc _ _ _ hsz) (Nat.le_refl _)
        rw [sameR_refl, tx_ok, ← HQ.out] at hsm
        simp only [scV, VT.agg] at hsm
        go_wp2_with fail
        refine hsm.mono ?_
        rintro e W6 ⟨rfl, hb7⟩
        go_wp2
        go_meet
        case rel => exact ⟨by first | rfl | simp, hb7⟩
      · rw [← HQ.out] at hv
        subst hv
        unfold scV at hX
        injection hX with e1 e2 e3 e4 e5 e6 e7 e8 e9 e10 e11
        subst e1 e2 e3 e4 e5 e6 e7 e8 e9 e10 e11
        have hz := rzero_z W5
        go_wp2_with fail
        refine hz.mono ?_
        rintro e W6 ⟨rfl, hb7⟩
        go_wp2
        go_meet
        case rel => exact ⟨by first | rfl | simp, hb7⟩
    case rest =>
      obtain ⟨rfl, hbc⟩ := hcut
      rename World => W6
      have hb7 := bel_next hb6 hbc
      have hk7 := bel_next hk6 hbc
      have HL2 := Lib.hid (fun W (h : Below w.heap.size w W) => (fun p hp => ((HLie.out W h p hp).1) : ∀ p ∈ L, Lie W W.heap.size p.2 ∧ p.1.size ≤ maxLen))
      have HSm := Lib.hid (fun p hp => (HLie.out w (Below.refl _ _) p hp).2 : ∀ p ∈ L, Sml 1048576 p.2 ∧ p.1.size ≤ 1048576)
      have hown := World.ownsRow_lit (base := W6.heap.size) (e := 48) (size := 6) W6 #[] 0 (Nat.le_refl _) (Nat.zero_le _) rfl
      have hs := (H1.out.below hk7).alloc hk7.size (.cells #[] 48)
      clear HX HV5 hb6 hk6 hbc HQ
      go_wp2_with (at_builtin; refine wpList_append_shows _ rfl _ _ 41 rfl W6.heap.size 48 iP _ 6 96 Tryd.underlying41 hiP hzP hsP hbP rfl (by decide) _ _ _ rfl hown W2.heap.size _ m _ (L.flatMap pCells) rfl hs hone (by omega) (by omega) (by simp) ?_; intro A7 c7 w7 hown7 hgrow7 hb7')
      have ho : w7.ownsRow W6.heap.size 48 6 (.slice A7 m c7) m (L.flatMap pCells) := by simpa using hown7
      have hbx : Below W6.heap.size W6 w7 := ((Below.refl _ _).alloc (Nat.le_refl _) _).trans hb7'
      have hb8 := bel_next hb7 hbx
      have hk8 := bel_next hk7 hbx
      have hob := object_res A7 m c7 L w7.heap.size w7 (Shows.own ho) (own_noneP ho) (Nat.le_refl _) (by omega) (HL2.out w7 hb8) (HTx.out w7 hb8).1 (HTx.out w7 hb8).2
      clear hown7 hown hs hgrow7 hb7' hbx ho hb7 hk7
      go_wp2_with fail
      refine hob.mono ?_
      rintro e W8 ⟨X, E1, rfl, HX1, hLX, hb9⟩
      clear hob
      have HSX := Lib.hid (resp_sml HX1.out HSm.out)
      have HLX := Lib.hid hLX
      clear hLX
      obtain ⟨k1, n1, s1, cA1, cn1, cc1, kA1, kn1, kc1, keys1, kids1⟩ := X
      simp only [VT.agg]
      have hb10 := bel_alloc (bel_next hb8 hb9) (.cells #[.int .i64 k1, .int .i64 n1, .string s1, .slice cA1 cn1 cc1, .slice kA1 kn1 kc1] 25)
      have hk10 := bel_alloc (bel_next hk8 hb9) (.cells #[.int .i64 k1, .int .i64 n1, .string s1, .slice cA1 cn1 cc1, .slice kA1 kn1 kc1] 25)
      have HV := Lib.hid (VFive.new W8 (.int .i64 k1) (.int .i64 n1) (.string s1) (.slice cA1 cn1 cc1) (.slice kA1 kn1 kc1) 25 W8.heap.size rfl)
      have HLX2 := Lib.hid (HLX.out.later (bel_alloc (Below.refl W8.heap.size W8) (.cells #[.int .i64 k1, .int .i64 n1, .string s1, .slice cA1 cn1 cc1, .slice kA1 kn1 kc1] 25)))
      have hW8 : W8.heap.size ≤ (W8.alloc (.cells #[.int .i64 k1, .int .i64 n1, .string s1, .slice cA1 cn1 cc1, .slice kA1 kn1 kc1] 25)).heap.size := by simp
      have hob := robj_any A1 m c1 L _ (W8.alloc (.cells #[.int .i64 k1, .int .i64 n1, .string s1, .slice cA1 cn1 cc1, .slice kA1 kn1 kc1] 25)) ((H1.out.below hk10).more hk10.size) (Nat.le_refl _) (by omega) (HLie.out _ hb10)
      clear HLX hb8 hk8 hb9
      go_wp2_with fail
      refine hob.mono ?_
      rintro e W10 ⟨X', E2, rfl, HX2, hLY, hSY, hb11⟩
      clear hob
      have HSY := Lib.hid hSY
      have HLY := Lib.hid hLY
      clear hLY hSY
      obtain ⟨k2, n2, s2, cA2, cn2, cc2, kA2, kn2, kc2, keys2, kids2⟩ := X'
      simp only [VT.agg]
      have hb12 := bel_alloc (bel_next hb10 hb11) (.cells #[.int .i64 k2, .int .i64 n2, .string s2, .slice cA2 cn2 cc2, .slice kA2 kn2 kc2] 25)
      have hk12 := bel_alloc (bel_next hk10 hb11) (.cells #[.int .i64 k2, .int .i64 n2, .string s2, .slice cA2 cn2 cc2, .slice kA2 kn2 kc2] 25)
      have HU := Lib.hid (VFive.new W10 (.int .i64 k2) (.int .i64 n2) (.string s2) (.slice cA2 cn2 cc2) (.slice kA2 kn2 kc2) 25 W10.heap.size rfl)
      have HV2 := Lib.hid ((HV.out.later hb11).alloc (.cells #[.int .i64 k2, .int .i64 n2, .string s2, .slice cA2 cn2 cc2, .slice kA2 kn2 kc2] 25))
      have hb13 := bel_alloc hb11 (.cells #[.int .i64 k2, .int .i64 n2, .string s2, .slice cA2 cn2 cc2, .slice kA2 kn2 kc2] 25)
      have HLX3 := Lib.hid ((HLX2.out.later (hb13.mono hW8)).more (Nat.le_trans hW8 hb13.size))
      have HLY2 := Lib.hid ((HLY.out.later (bel_alloc (Below.refl W10.heap.size W10) (.cells #[.int .i64 k2, .int .i64 n2, .string s2, .slice cA2 cn2 cc2, .slice kA2 kn2 kc2] 25))).more (bel_alloc (Below.refl W10.heap.size W10) (.cells #[.int .i64 k2, .int .i64 n2, .string s2, .slice cA2 cn2 cc2, .slice kA2 kn2 kc2] 25)).size)
      clear HV HLX2 HLY hb10 hk10 hb11 hb13 hW8
      go_upto_region 10 with fail
      generalize (W10.alloc (.cells #[.int .i64 k2, .int .i64 n2, .string s2, .slice cA2 cn2 cc2, .slice kA2 kn2 kc2] 25)) = W11 at *
      go_cut [87] (fun s87 wx => s87 = .bool false ∧ Below W11.heap.size W11 wx)
      case first =>
        obtain ⟨⟨v0, v1, v2, v3, v4⟩, -⟩ := HV2.out
        obtain ⟨⟨u0, u1, u2, u3, u4⟩, -⟩ := HU.out
        rcases resp_two HX1.out HX2.out with ⟨rfl, ⟨rfl, hsame⟩ | ⟨hne, hX, hX'⟩⟩
        · have ht := told_two _ _ W11.heap.size W11 hsame HLX3.out HLY2.out HSX.out HSY.out (Nat.le_refl _)
          simp only [VT.agg] at ht
          clear hsame
          go_wp2_with fail
          refine ht.mono ?_
          rintro e W12 ⟨rfl, hb14⟩
          go_wp2
          go_meet
          case rel => exact ⟨by first | rfl | simp, hb14⟩
        · unfold scV at hX hX'
          injection hX with e1 e2 e3 e4 e5 e6 e7 e8 e9 e10 e11
          injection hX' with f1 f2 f3 f4 f5 f6 f7 f8 f9 f10 f11
          subst e1 e2 e3 e4 e5 e6 e7 e8 e9 e10 e11 f1 f2 f3 f4 f5 f6 f7 f8 f9 f10 f11
          have ht := told_zero W11
          simp only [scV, VT.agg] at ht
          have hf : (E1 == (0 : Int)) = false := by simpa using hne
          have hf' : decide (E1 = (0 : Int)) = false := by simpa using hne
          go_wp2_with fail
          refine ht.mono ?_
          rintro e W12 ⟨rfl, hb14⟩
          go_wp2
          go_meet
          case rel => exact ⟨by first | rfl | simp, hb14⟩
      case rest =>
        obtain ⟨rfl, hbc⟩ := hcut
        rename World => W12
        have hb14 := bel_next hb12 hbc
        have hk14 := bel_next hk12 hbc
        clear HX1 HX2 HSX HSY HV2 HU HLX3 HLY2 hb12 hk12 hbc
        obtain ⟨Lk, hLk⟩ : ∃ Lk, Lk = L.map Prod.snd := ⟨_, rfl⟩
        have hlk : Lk.length = m := by rw [hLk, List.length_map, hlen]
        have HAt := Lib.hid (fun (j : Nat) (x : ByteArray) (T : VT) (h : L[j]? = some (x, T)) => (by rw [hLk, List.getElem?_map, h]; rfl : Lk[j]? = some T))
        have HLk := Lib.hid (fun W (h : Below w.heap.size w W) => (by
          intro x hx
          rw [hLk] at hx
          obtain ⟨p, hp, rfl⟩ := List.mem_map.1 hx
          exact ⟨(HLie.out W h p hp).1.1, (HLie.out W h p hp).2.1⟩ : ∀ x ∈ Lk, Lie W W.heap.size x ∧ Sml 1048576 x))
        clear hLk HL2 HSm
        have HK := Lib.hid (VFive.new W12 (.int .i64 5) (.int .i64 0) (.string ⟨#[]⟩) (.slice none 0 0) (.slice none 0 0) 25 W12.heap.size rfl)
        go_wp2
        go_loopw [91] (fun i wr => ∃ (j : Nat) (A' : Option Addr) (c' : Nat), j ≤ m ∧ i = .int .i64 j ∧ Hid (VFive wr W12.heap.size (.int .i64 5) (.int .i64 0) (.string ⟨#[]⟩) (.slice A' j c') (.slice none 0 0)) ∧ Hid (wr.ownsRow (W12.heap.size + 1) 25 5 (.slice A' j c') j ((Lk.take j).flatMap VT.cells)) ∧ Below W12.heap.size W12 wr) (fun i _ => m - (intOf i).toNat)
        case atStart => exact ⟨0, none, 0, Nat.zero_le _, rfl, HK, Lib.hid (by simpa using World.ownsRow_nil _ _ _ _), (Below.refl _ _).alloc (Nat.le_refl _) _⟩
        case round =>
          obtain ⟨j, A', c', hj, rfl, HKr, Hown, hbr⟩ := hrel
          clear HK
          have hkr := bel_next hk14 hbr
          have hbw := bel_next hb14 hbr
          by_cases hlt : j < m
          · obtain ⟨b, off, x, T, rfl, _, hx, h6⟩ := pair_at (H1.out.below hkr) hlt
            have hat := HAt.out j x T hx
            have Hat := Lib.hid hat
            clear hx hat
            obtain ⟨tk, tn, ts, tcA, tcn, tcc, tkA, tkn, tkc, tkeys, tkids⟩ := T
            obtain ⟨g0, g1, g2, g3, g4, g5⟩ := h6
            have hjm : (j : Int) < (m : Int) := by omega
            have hj0 : (0 : Int) ≤ (j : Int) := by omega
            have hm300 : (m : Int) ≤ 300 := by omega
            have p1 : (wr.alloc (.cells #[.string x, .int .i64 tk, .int .i64 tn, .string ts, .slice tcA tcn tcc, .slice tkA tkn tkc] 48)).cell? ⟨wr.heap.size, 1, none⟩ = some (.int .i64 tk) := by simp [go_sem]
            have p2 : (wr.alloc (.cells #[.string x, .int .i64 tk, .int .i64 tn, .string ts, .slice tcA tcn tcc, .slice tkA tkn tkc] 48)).cell? ⟨wr.heap.size, 2, none⟩ = some (.int .i64 tn) := by simp [go_sem]
            have p3 : (wr.alloc (.cells #[.string x, .int .i64 tk, .int .i64 tn, .string ts, .slice tcA tcn tcc, .slice tkA tkn tkc] 48)).cell? ⟨wr.heap.size, 3, none⟩ = some (.string ts) := by simp [go_sem]
            have p4 : (wr.alloc (.cells #[.string x, .int .i64 tk, .int .i64 tn, .string ts, .slice tcA tcn tcc, .slice tkA tkn tkc] 48)).cell? ⟨wr.heap.size, 4, none⟩ = some (.slice tcA tcn tcc) := by simp [go_sem]
            have p5 : (wr.alloc (.cells #[.string x, .int .i64 tk, .int .i64 tn, .string ts, .slice tcA tcn tcc, .slice tkA tkn tkc] 48)).cell? ⟨wr.heap.size, 5, none⟩ = some (.slice tkA tkn tkc) := by simp [go_sem]
            have HK1 := Lib.hid (HKr.out.alloc (.cells #[.string x, .int .i64 tk, .int .i64 tn, .string ts, .slice tcA tcn tcc, .slice tkA tkn tkc] 48))
            have hown1 := Hown.out.alloc (.cells #[.string x, .int .i64 tk, .int .i64 tn, .string ts, .slice tcA tcn tcc, .slice tkA tkn tkc] 48)
            have hbr1 := hbr.alloc hbr.size (.cells #[.string x, .int .i64 tk, .int .i64 tn, .string ts, .slice tcA tcn tcc, .slice tkA tkn tkc] 48)
            go_upto_region 16 with fail
            generalize (wr.alloc (.cells #[.string x, .int .i64 tk, .int .i64 tn, .string ts, .slice tcA tcn tcc, .slice tkA tkn tkc] 48)) = ws at *
            obtain ⟨⟨y0, y1, y2, y3, y4⟩, -⟩ := HK1.out
            have hnew := shows5_new ws (.int .i64 tk) (.int .i64 tn) (.string ts) (.slice tcA tcn tcc) (.slice tkA tkn tkc) 25 ws.heap.size rfl
            have hbs := hbr1.size
            go_wp2_with (at_builtin; refine wpList_append_shows _ rfl _ _ 22 rfl (W12.heap.size + 1) 25 iV _ 5 80 Tryd.underlying22 hiV hzV hsV hbV rfl (by decide) _ _ _ rfl (hown1.alloc _) (ws.heap.size + 1) _ 1 1 [.int .i64 tk, .int .i64 tn, .string ts, .slice tcA tcn tcc, .slice tkA tkn tkc] rfl hnew (by simp [Value.oneCell']) (by omega) (by omega) (by simp; omega) ?_; intro A7 c7 w7 hown7 hgrow7 hb7; clear y0 y1 y2 y3 y4; have hz7 := Lib.hid ((HK1.out.alloc (.cells #[.int .i64 tk, .int .i64 tn, .string ts, .slice tcA tcn tcc, .slice tkA tkn tkc] 25)).upto hb7 (Nat.lt_succ_self _) (by have := HK1.out.lt; simp; omega)); obtain ⟨⟨y0, y1, y2, y3, y4⟩, f0, f1, f2, f3, f4⟩ := hz7.out)
            have hown8 : w7.ownsRow (W12.heap.size + 1) 25 5 (.slice A7 (j + 1) c7) (j + 1) ((Lk.take (j + 1)).flatMap VT.cells) := by
              rw [List.take_add_one, Hat.out]
              simpa [VT.cells] using hown7
            have hb8 : Below W12.heap.size W12 w7 := (hbr1.alloc hbs _).trans (hb7.mono (Nat.le_succ _))
            clear hown7 hgrow7 hb7 hown1 y0 y1 y2 y3 y4 f0 f1 f2 f3 f4 p1 p2 p3 p4 p5 g0 g1 g2 g3 g4 g5
            go_wp2
            go_roundw
            case rel => exact ⟨j + 1, A7, c7, by omega, by go_num, Lib.hid (by first | exact VFive.set3 hz7.out | (simpa using VFive.set3 hz7.out)), Lib.hid (own_set (by simpa using hown8) (Nat.lt_succ_self _)), hb8.setCell (Nat.le_refl _) _⟩
            case measure => simp [intOf]; omega
          · obtain rfl : j = m := by omega
            have htk : Lk.take j = Lk := List.take_of_length_le (by omega)
            rw [htk] at Hown
            have hrw := bel_next hb14 hbr
            have hLK := HLk.out wr hrw
            have hlie := lie_ls Hown.out (fun x hx => (hLK x hx).1)
            have hsml : Sml 1048576 (lsV A' j c' Lk) := .mk (Nat.zero_le _) (fun x hx => by cases hx) (fun x hx => (hLK x hx).2)
            have HLie1 := Lib.hid hlie
            have HSml1 := Lib.hid hsml
            have hA' := own_noneP Hown.out
            have hcap := own_cap Hown.out
            have hcells := vcells_one Lk
            have hown := World.ownsRow_lit (base := wr.heap.size) (e := 25) (size := 5) wr #[] 0 (Nat.le_refl _) (Nat.zero_le _) rfl
            have hs := (Shows.own Hown.out).alloc (Nat.le_refl _) (.cells #[] 25)
            have HK1 := Lib.hid (HKr.out.alloc (.cells #[] 25))
            have hz1 : (0 : Int) ≤ (j : Int) := by omega
            clear hLK hlie hsml htk hlt hj HAt H1 HA
            obtain ⟨⟨y0, y1, y2, y3, y4⟩, -⟩ := HK1.out
            go_wp2_with (at_builtin; refine wpList_append_shows _ rfl _ _ 22 rfl wr.heap.size 25 iV _ 5 80 Tryd.underlying22 hiV hzV hsV hbV rfl (by decide) _ _ _ rfl hown wr.heap.size _ j _ (Lk.flatMap VT.cells) rfl hs hcells (by omega) (by omega) (by simp) ?_; intro A7 c7 w7 hown7 hgrow7 hb7)
            have ho : w7.ownsRow wr.heap.size 25 5 (.slice A7 j c7) j (Lk.flatMap VT.cells) := by simpa using hown7
            have hbx : Below wr.heap.size wr w7 := ((Below.refl _ _).alloc (Nat.le_refl _) _).trans hb7
            have hb15 := bel_next hrw hbx
            have hls := list_res w7.heap.size w7 A7 j c7 Lk (Shows.own ho) (fun x hx => (HLk.out w7 hb15 x hx).1) (own_noneP ho) (Nat.le_refl _) (by omega) (HTx.out w7 hb15).1 (HTx.out w7 hb15).2
            have HK7 := Lib.hid (HKr.out.later hbx)
            have HLie7 := Lib.hid ((HLie1.out.later hbx).more hbx.size)
            clear y0 y1 y2 y3 y4 hown7 hgrow7 hb7 ho hown hs HK1 Hown HLie1 hbx HKr hrw
            go_wp2_with fail
            refine hls.mono ?_
            rintro e W16 ⟨X, E3, rfl, HX3, hLX, hb16⟩
            clear hls
            have HLX := Lib.hid hLX
            clear hLX
            obtain ⟨k3, n3, s3, cA3, cn3, cc3, kA3, kn3, kc3, keys3, kids3⟩ := X
            simp only [VT.agg]
            have hb17 := bel_alloc hb16 (.cells #[.int .i64 k3, .int .i64 n3, .string s3, .slice cA3 cn3 cc3, .slice kA3 kn3 kc3] 25)
            have hb18 := bel_next hb15 hb17
            have HV := Lib.hid (VFive.new W16 (.int .i64 k3) (.int .i64 n3) (.string s3) (.slice cA3 cn3 cc3) (.slice kA3 kn3 kc3) 25 W16.heap.size rfl)
            have HK17 := Lib.hid (HK7.out.later hb17)
            have HLie17 := Lib.hid ((HLie7.out.later hb17).more hb17.size)
            have hbs := bel_alloc (Below.refl W16.heap.size W16) (.cells #[.int .i64 k3, .int .i64 n3, .string s3, .slice cA3 cn3 cc3, .slice kA3 kn3 kc3] 25)
            have HLX17 := Lib.hid ((HLX.out.later hbs).more hbs.size)
            clear HK7 HLie7 hb15 hb16 hb17 hbs HLX
            go_upto_region 19 with fail
            generalize (W16.alloc (.cells #[.int .i64 k3, .int .i64 n3, .string s3, .slice cA3 cn3 cc3, .slice kA3 kn3 kc3] 25)) = W17 at *
            have hrt := right_any (lsV A' j c' Lk) W17.heap.size W17 HLie17.out HSml1.out (Nat.le_refl _)
            obtain ⟨okk, hokk⟩ : ∃ o, o = (lsV A' j c' Lk).ok := ⟨_, rfl⟩
            rw [← hokk] at hrt
            have HOK := Lib.hid hokk
            simp only [VT.agg] at hrt
            clear hokk
            obtain ⟨⟨y0, y1, y2, y3, y4⟩, -⟩ := HK17.out
            go_wp2_with fail
            refine hrt.mono ?_
            rintro e W19 ⟨rfl, hb19⟩
            have hb20 := bel_next hb18 hb19
            have HV19 := Lib.hid (HV.out.later hb19)
            have HK19 := Lib.hid (HK17.out.later hb19)
            have HLie19 := Lib.hid ((HLie17.out.later hb19).more hb19.size)
            have HLX19 := Lib.hid ((HLX17.out.later hb19).more hb19.size)
            clear y0 y1 y2 y3 y4 hrt HV HK17 HLie17 HLX17 hb18 hb19
            go_upto_region 20 with fail
            go_cut [133] (fun s133 wx => s133 = .bool false ∧ Below W19.heap.size W19 wx)
            case first =>
              obtain ⟨⟨v0, v1, v2, v3, v4⟩, -⟩ := HV19.out
              obtain ⟨⟨y0, y1, y2, y3, y4⟩, -⟩ := HK19.out
              have he := ls_head none A' j 0 c' Lk
              rw [← HOK.out] at he
              rcases HX3.out with ⟨hk, ⟨A9, c9, hX⟩, rfl⟩ | ⟨hk, hX, rfl⟩
              · rw [hk] at he
                subst he
                have hsame := ls_same A9 A' j c9 c' Lk (by rw [ls_head A9 A' j c9 c' Lk]; exact HOK.out.symm)
                have hSX : Sml 1048576 (lsV A9 j c9 Lk) := .mk (Nat.zero_le _) (fun x hx => by cases hx) (fun x hx => (HLk.out _ hb20 x hx).2)
                have hLX := HLX19.out
                rw [hX] at hLX
                injection hX with e1 e2 e3 e4 e5 e6 e7 e8 e9 e10 e11
                subst e1 e2 e3 e4 e5 e6 e7 e8 e9
                have ht := told_two _ _ W19.heap.size W19 hsame hLX HLie19.out hSX HSml1.out (Nat.le_refl _)
                simp only [VT.agg] at ht
                clear hsame hSX hLX e10 e11
                go_wp2_with fail
                refine ht.mono ?_
                rintro e W20 ⟨rfl, hb21⟩
                go_wp2
                go_meet
                case rel => exact ⟨by first | rfl | simp, hb21⟩
              · rw [hk] at he
                subst he
                unfold scV at hX
                injection hX with e1 e2 e3 e4 e5 e6 e7 e8 e9 e10 e11
                subst e1 e2 e3 e4 e5 e6 e7 e8 e9 e10 e11
                have ht := told_none (lsV A' j c' Lk) W19 HLie19.out HSml1.out
                simp only [scV, VT.agg] at ht
                go_wp2_with fail
                refine ht.mono ?_
                rintro e W20 ⟨rfl, hb21⟩
                go_wp2
                go_meet
                case rel => exact ⟨by first | rfl | simp, hb21⟩
            case rest =>
              obtain ⟨rfl, hbc⟩ := hcut
              rename World => W20
              have hb21 := bel_next hb20 hbc
              clear HX3 HV19 HK19 HLie19 HLX19 HSml1 HOK HLk HLie hb20 hbc
              have hy := bool_any true W20
              simp only [scV, VT.agg, if_true] at hy
              go_wp2_with fail
              refine hy.mono ?_
              rintro e W21 ⟨rfl, hb22⟩
              have hn := bool_any false W21
              simp only [scV, VT.agg] at hn
              go_wp2_with fail
              refine hn.mono ?_
              rintro e W22 ⟨rfl, hb23⟩
              have hb24 := bel_alloc (bel_alloc (bel_next (bel_next hb21 hb22) hb23) (.cells #[.int .i64 2, .int .i64 1, .string ⟨#[]⟩, .slice none 0 0, .slice none 0 0] 25)) (.cells #[.int .i64 2, .int .i64 0, .string ⟨#[]⟩, .slice none 0 0, .slice none 0 0] 25)
              have HV1 := Lib.hid ((VFive.new W22 (.int .i64 2) (.int .i64 1) (.string ⟨#[]⟩) (.slice none 0 0) (.slice none 0 0) 25 W22.heap.size rfl).alloc (.cells #[.int .i64 2, .int .i64 0, .string ⟨#[]⟩, .slice none 0 0, .slice none 0 0] 25))
              have HV2 := Lib.hid (VFive.new (W22.alloc (.cells #[.int .i64 2, .int .i64 1, .string ⟨#[]⟩, .slice none 0 0, .slice none 0 0] 25)) (.int .i64 2) (.int .i64 0) (.string ⟨#[]⟩) (.slice none 0 0) (.slice none 0 0) 25 (W22.heap.size + 1) (World.size_alloc _ _))
              clear hb21 hb22 hb23 hy hn
              go_upto_region 23 with fail
              generalize ((W22.alloc (.cells #[.int .i64 2, .int .i64 1, .string ⟨#[]⟩, .slice none 0 0, .slice none 0 0] 25)).alloc (.cells #[.int .i64 2, .int .i64 0, .string ⟨#[]⟩, .slice none 0 0, .slice none 0 0] 25)) = W23 at *
              have hsame : ∀ (k n : Int) (W : World), (k = 1 ∨ k = 2 ∨ k = 3) → numB k n = true → (Lit.int .i64 k).wf = true → (Lit.int .i64 n).wf = true → Calls Tryd.prog 14 #[(scV k n ⟨#[]⟩).agg, (scV k n ⟨#[]⟩).agg] W fun e w' => e = .returned (.bool true) ∧ Below W.heap.size W w' := by
                intro k n W hk hnm hkw hnw
                have := rsame_any (scV k n ⟨#[]⟩) (scV k n ⟨#[]⟩) W.heap.size W (lie_sc _ _ _ _ _ hkw hnw (by decide)) (lie_sc _ _ _ _ _ hkw hnw (by decide)) (sml_sc _ _ _ (by decide)) (sml_sc _ _ _ (by decide)) (Nat.le_refl _)
                rwa [bare_same k n hk hnm] at this
              have hu := null_any W23
              simp only [scV, VT.agg] at hu hsame
              have HS1 := Lib.hid (fun W => hsame 1 0 W (by decide) (by decide) (by decide) (by decide))
              have HS2 := Lib.hid (fun W => hsame 3 N W (by decide) rfl (by decide) hN)
              have HS3 := Lib.hid (fun W => hsame 2 1 W (by decide) (by decide) (by decide) (by decide))
              have HS4 := Lib.hid (fun W => hsame 2 0 W (by decide) (by decide) (by decide) (by decide))
              clear hsame
              go_wp2_with fail
              refine hu.mono ?_
              rintro e W24 ⟨rfl, hb25⟩
              clear hu
              go_wp2_with fail
              refine (HS1.out _).mono ?_
              rintro e W25 ⟨rfl, hb26⟩
              have hi := vint_any N W25
              simp only [scV, VT.agg] at hi
              go_wp2_with fail
              refine hi.mono ?_
              rintro e W26 ⟨rfl, hb27⟩
              clear hi
              have hk27 := bel_next (bel_next hb25 hb26) hb27
              go_wp2_with fail
              refine (HS2.out _).mono ?_
              rintro e W27 ⟨rfl, hb28⟩
              have hk28 := bel_next hk27 hb28
              have hv := HV1.out.later hk28
              obtain ⟨⟨v0, v1, v2, v3, v4⟩, -⟩ := hv
              go_wp2_with fail
              refine (HS3.out _).mono ?_
              rintro e W28 ⟨rfl, hb29⟩
              have hk29 := bel_next hk28 hb29
              clear v0 v1 v2 v3 v4
              have hv := HV2.out.later hk29
              obtain ⟨⟨v0, v1, v2, v3, v4⟩, -⟩ := hv
              go_wp2_with fail
              refine (HS4.out _).mono ?_
              rintro e W29 ⟨rfl, hb30⟩
              go_wp2
              go_ret
              exact ⟨rfl, bel_next hb24 (bel_next hk29 hb30)⟩
theorem valueMakes_walk (W : World) (a0 : Int) (w0 : (Lit.int .i64 a0).wf = true) (a1 : ByteArray) (w1 : a1.size ≤ maxLen) (s1 : a1.size ≤ 1048576) (a2 : Option Addr) (len2 cap2 : Nat) (l2 : List PT) (b2 : Shows W W.heap.size 6 a2 len2 (l2.flatMap pCells))
    (ok2 : ∀ p ∈ l2, (Lie W W.heap.size p.2 ∧ p.1.size ≤ maxLen) ∧ Sml 1048576 p.2 ∧ p.1.size ≤ 1048576) (z2 : a2 = none → cap2 = 0) (y2 : len2 ≤ cap2) (x2 : cap2 ≤ maxLen) (htab : UTab W) (hst : STab W) :
    Calls Tryd.prog 5 #[.int .i64 a0, .string a1, .slice a2 len2 cap2] W fun e w' => e = .returned (.bool true) ∧ Below W.heap.size W w' :=
  vmakes_any W a0 w0 a1 s1 a2 len2 cap2 l2 W.heap.size (Nat.le_refl _) b2 ok2 y2 x2 htab hst
end Go.Proofs.YtnldiemggabdkaaDoor
/-
  What the second form's bound gives: no part of a reading is greater than the whole. Rows of things that came in, each within the bound.
-/
namespace Go.Proofs.YtnldiemggabdkaaDoor
open Go.ChangeShapes Go.WideShapes Go.ChangeAt Go.RowKit Go.Deep
set_option linter.unusedVariables false

theorem blk_part {H : Type} {d : DataW H} : ∀ {l : List (DataW H)}, d ∈ l → Rows.uptoBulk d ≤ Rows.uptoBulkAll l
  | x :: r, h => by
    rw [Rows.uptoBulkAll]
    rcases List.mem_cons.1 h with rfl | h
    · omega
    · have := blk_part h; omega
theorem blk_agg {H : Type} {d : DataW H} {l : List (DataW H)} (h : d ∈ l) : Rows.uptoBulk d ≤ Rows.uptoBulk (.agg l) := by
  have := blk_part h
  rw [Rows.uptoBulk]
  omega
theorem blk_slice {H : Type} {d : DataW H} {l r : List (DataW H)} (h : d ∈ l) : Rows.uptoBulk d ≤ Rows.uptoBulk (.slice l r) := by
  have := blk_part h
  rw [Rows.uptoBulk]
  omega
theorem blk_str {H : Type} {s : ByteArray} {N : Nat} (h : Rows.uptoBulk (DataW.lit (H := H) (.string s.data.toList)) ≤ N) : s.size ≤ N := by
  rw [Rows.uptoBulk] at h
  have : s.data.toList.length = s.size := by rw [Array.length_toList]; rfl
  omega
theorem blk_all {H : Type} {l : List (DataW H)} (h : Rows.uptoSmall H l = true) {d : DataW H} (hd : d ∈ l) : Rows.uptoBulk d ≤ 1048576 := by
  have h1 := of_decide_eq_true h
  exact Nat.le_trans (blk_part hd) h1
section
variable {H : Type} {enc : TypeId × Value → H} {P : Program} {w W : World} {base : Nat} {spare : Nat → Bool} {held : Bool} {t e : TypeId} {N : Nat}
/-- A row of things that came in, one by one, each within the bound. -/
theorem open_rowsN {α : Type} (f : α → List Value) (z : α) (k : Nat) (hk : 0 < k) (hf : ∀ x, (f x).length = k) (Q : α → Prop) {fuel : Nat} {cs : List Value} {x : DataW H × List MemPlace} (ht : P.underlying t = some (.slice e)) (hC : P.cellsOf e = k)
    (hQ : ∀ n cs y, n < fuel → cs.length = k → DataW.trod enc P w base spare held n e cs = some y → Rows.uptoBulk y.1 ≤ N → ∃ x : α, cs = f x ∧ Q x)
    (h : DataW.trod enc P w base spare held fuel t cs = some x) (hN : Rows.uptoBulk x.1 ≤ N) : ∃ (A : Option Addr) (n c : Nat) (l : List α), cs = [.slice A n c] ∧ Shows w w.heap.size k A n (l.flatMap f) ∧ (∀ x ∈ l, Q x) ∧ (A = none → c = 0) ∧ n ≤ c ∧ c ≤ maxLen := by
  rcases DataW.trod_slice ht h with ⟨hcs, _⟩ | ⟨a, len, cap, elems, rest, n, hn, hcs, hx, _, hl, hm, hlen, hi, _, _⟩
  · exact ⟨none, 0, 0, [], hcs, ⟨by simp, fun h => absurd h (by decide)⟩, by simp, fun _ => rfl, Nat.le_refl _, Nat.zero_le _⟩
  · have hF : ∀ i, ∃ r : α, i < len → Q r ∧ ∀ j u, (f r)[j]? = some u → w.cell? (a.add (i * k + j)) = some u := by
      intro i
      by_cases hin : i < len
      · have h2 := hi i hin
        have hi' : i < elems.length := by rw [hlen]; exact hin
        rw [List.getElem?_eq_getElem hi'] at h2
        obtain ⟨cs', hc, htr⟩ := Option.bind_eq_some_iff.1 h2
        obtain ⟨_, hlen', hat⟩ := World.cells?_some hc
        rw [hC] at hlen' hat
        have hb : Rows.uptoBulk (elems[i]).1 ≤ N := by
          rw [hx] at hN
          exact Nat.le_trans (blk_slice (List.mem_map_of_mem (f := (·.1)) (List.getElem_mem hi'))) hN
        obtain ⟨r, rfl, hr⟩ := hQ n cs' _ (by omega) hlen' htr hb
        refine ⟨r, fun _ => ⟨hr, fun j u hu => ?_⟩⟩
        have hj : j < k := by have := (List.getElem?_eq_some_iff.1 hu).1; rw [hlen'] at this; exact this
        have := hat j hj
        rw [hu] at this
        rw [← this, ← Go.Deep.add_add]
      · exact ⟨z, fun h => absurd h hin⟩
    refine ⟨some a, len, cap, (List.range len).map fun i => Classical.choose (hF i), hcs, shows_rows f k hk hf _ fun i hi j u hu => (Classical.choose_spec (hF i) hi).2 j u hu, ?_, nofun, hl, hm⟩
    intro r hr
    obtain ⟨i, hi, rfl⟩ := List.mem_map.1 hr
    exact (Classical.choose_spec (hF i) (List.mem_range.1 hi)).1
theorem open_keysN {fuel : Nat} {cs : List Value} {x : DataW H × List MemPlace} (ht : P.underlying t = some (.slice e)) (hC : P.cellsOf e = 1) (he : P.underlying e = some .string) (h : DataW.trod enc P w base spare held fuel t cs = some x) (hN : Rows.uptoBulk x.1 ≤ N) :
    ∃ (A : Option Addr) (n c : Nat) (l : List ByteArray), cs = [.slice A n c] ∧ Shows w w.heap.size 1 A n (l.map Value.string) ∧ (∀ x ∈ l, x.size ≤ maxLen ∧ x.size ≤ N) ∧ (A = none → c = 0) ∧ n ≤ c ∧ c ≤ maxLen := by
  obtain ⟨A, n, c, l, h1, h2, h3⟩ := open_rowsN (fun s : ByteArray => [Value.string s]) ⟨#[]⟩ 1 (by decide) (fun _ => rfl) (fun s => s.size ≤ maxLen ∧ s.size ≤ N) ht hC (fun n cs y _ _ hy hb => by
    obtain ⟨s, e, hy1, hs⟩ := DataW.trod_string he hy
    rw [hy1] at hb
    exact ⟨s, e, hs, blk_str hb⟩) h hN
  have hfl : ∀ l : List ByteArray, l.flatMap (fun s => [Value.string s]) = l.map Value.string := by
    intro l
    induction l with
    | nil => rfl
    | cons x l ih => rw [List.flatMap_cons, ih]; rfl
  rw [hfl] at h2
  exact ⟨A, n, c, l, h1, h2, h3⟩
end
end Go.Proofs.YtnldiemggabdkaaDoor
