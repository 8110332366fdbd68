import Derived.Test.YtnldiemggabdkaaDoorGal
/-
  Layer 4, the reference: Same.
-/
namespace Go.Proofs.YtnldiemggabdkaaDoor
open Go.RowKit
set_option linter.unusedVariables false

theorem sameR_comm (T T' : VT) : sameR T' T = sameR T T' := by
  unfold sameR
  have : sameV T' T = sameV T T' := by
    rw [Bool.eq_iff_iff, sameV_iff, sameV_iff]
    exact ⟨fun h => h.symm, fun h => h.symm⟩
  rw [this]
  cases T.ok <;> cases T'.ok <;> rfl
theorem sameR_refl (T : VT) : sameR T T = T.ok := by
  cases h : T.ok with
  | true => exact sameR_self T h
  | false => unfold sameR; rw [h]; rfl
theorem ok_all {T : VT} (h : T.ok = true) : T.all = true := by unfold VT.ok at h; simp only [Bool.and_eq_true] at h; exact h.2.2
set_option maxRecDepth 20000 in
set_option maxHeartbeats 4000000 in
theorem rsame_any (T T' : VT) (B : Nat) (w : World) (hL : Lie w B T) (hL' : Lie w B T') (hS : Sml 1048576 T) (hS' : Sml 1048576 T') (hB : B ≤ w.heap.size) :
    Calls Tryd.prog 14 #[T.agg, T'.agg] w fun e w' => e = .returned (.bool (sameR T T')) ∧ Below w.heap.size w w' := by
  have HR := Lib.hid (fun W (h : Below w.heap.size w W) => right_any T B W (hL.later (h.mono hB)) hS (Nat.le_trans hB h.size))
  have HR' := Lib.hid (fun W (h : Below w.heap.size w W) => right_any T' B W (hL'.later (h.mono hB)) hS' (Nat.le_trans hB h.size))
  have HO := Lib.hid (fun (h1 : T.ok = true) (h2 : T'.ok = true) W (h : Below w.heap.size w W) => rone_any T T' B W (hL.later (h.mono hB)) (hL'.later (h.mono hB)) (Nat.le_trans hB h.size) (ok_all h1) (ok_all h2))
  have HF := Lib.hid (show sameR T T' = (T.ok && (T'.ok && sameV T T')) by unfold sameR; cases T.ok <;> cases T'.ok <;> rfl)
  generalize sameV T T' = sv at *
  generalize sameR T T' = sr at *
  cases ok1 : T.ok
  · rw [ok1] at HR
    have HG := Lib.hid (show sr = false by rw [HF.out, ok1]; rfl)
    clear HO HF HR' hL hL' hS hS' ok1
    obtain ⟨k, n, s, cA, cn, cc, kA, kn, kc, keys, kids⟩ := T
    obtain ⟨k', n', s', cA', cn', cc', kA', kn', kc', keys', kids'⟩ := T'
    simp only [VT.agg] at HR ⊢
    have hb1 := bel_alloc (bel_alloc (Below.refl w.heap.size w) (.cells #[.int .i64 k, .int .i64 n, .string s, .slice cA cn cc, .slice kA kn kc] 25)) (.cells #[.int .i64 k', .int .i64 n', .string s', .slice cA' cn' cc', .slice kA' kn' kc'] 25)
    go_enter Tryd.func14, Tryd.ntmps14
    go_wp2_with fail
    refine (HR.out _ hb1).mono ?_
    rintro e w1 ⟨rfl, hb2⟩
    go_wp2
    go_ret
    exact ⟨vret_b (by rw [HG.out]), bel_next hb1 hb2⟩
  · rw [ok1] at HR
    cases ok2 : T'.ok
    · rw [ok2] at HR'
      have HG := Lib.hid (show sr = false by rw [HF.out, ok1, ok2]; rfl)
      clear HO HF hL hL' hS hS' ok1 ok2
      obtain ⟨k, n, s, cA, cn, cc, kA, kn, kc, keys, kids⟩ := T
      obtain ⟨k', n', s', cA', cn', cc', kA', kn', kc', keys', kids'⟩ := T'
      simp only [VT.agg] at HR HR' ⊢
      have hb1 := bel_alloc (bel_alloc (Below.refl w.heap.size w) (.cells #[.int .i64 k, .int .i64 n, .string s, .slice cA cn cc, .slice kA kn kc] 25)) (.cells #[.int .i64 k', .int .i64 n', .string s', .slice cA' cn' cc', .slice kA' kn' kc'] 25)
      have Hu := Lib.hid (VFive.new (w.alloc (.cells #[.int .i64 k, .int .i64 n, .string s, .slice cA cn cc, .slice kA kn kc] 25)) (.int .i64 k') (.int .i64 n') (.string s') (.slice cA' cn' cc') (.slice kA' kn' kc') 25 (w.heap.size + 1) (World.size_alloc _ _))
      go_enter Tryd.func14, Tryd.ntmps14
      go_wp2_with fail
      refine (HR.out _ hb1).mono ?_
      rintro e w1 ⟨rfl, hb2⟩
      obtain ⟨⟨y0, y1, y2, y3, y4⟩, -⟩ := Hu.out.later hb2
      have hb3 := bel_next hb1 hb2
      go_wp2_with fail
      refine (HR'.out _ hb3).mono ?_
      rintro e w2 ⟨rfl, hb4⟩
      go_wp2
      go_ret
      exact ⟨vret_b (by rw [HG.out]), bel_next hb3 hb4⟩
    · rw [ok2] at HR'
      have HG := Lib.hid (show sr = sv by rw [HF.out, ok1, ok2]; rfl)
      have HO := Lib.hid (HO.out ok1 ok2)
      clear HF hL hL' hS hS' ok1 ok2
      obtain ⟨k, n, s, cA, cn, cc, kA, kn, kc, keys, kids⟩ := T
      obtain ⟨k', n', s', cA', cn', cc', kA', kn', kc', keys', kids'⟩ := T'
      simp only [VT.agg] at HR HR' HO ⊢
      have hb1 := bel_alloc (bel_alloc (Below.refl w.heap.size w) (.cells #[.int .i64 k, .int .i64 n, .string s, .slice cA cn cc, .slice kA kn kc] 25)) (.cells #[.int .i64 k', .int .i64 n', .string s', .slice cA' cn' cc', .slice kA' kn' kc'] 25)
      have Hv := Lib.hid ((VFive.new w (.int .i64 k) (.int .i64 n) (.string s) (.slice cA cn cc) (.slice kA kn kc) 25 w.heap.size rfl).alloc (.cells #[.int .i64 k', .int .i64 n', .string s', .slice cA' cn' cc', .slice kA' kn' kc'] 25))
      have Hu := Lib.hid (VFive.new (w.alloc (.cells #[.int .i64 k, .int .i64 n, .string s, .slice cA cn cc, .slice kA kn kc] 25)) (.int .i64 k') (.int .i64 n') (.string s') (.slice cA' cn' cc') (.slice kA' kn' kc') 25 (w.heap.size + 1) (World.size_alloc _ _))
      go_enter Tryd.func14, Tryd.ntmps14
      go_wp2_with fail
      refine (HR.out _ hb1).mono ?_
      rintro e w1 ⟨rfl, hb2⟩
      obtain ⟨⟨y0, y1, y2, y3, y4⟩, -⟩ := Hu.out.later hb2
      have hb3 := bel_next hb1 hb2
      go_wp2_with fail
      refine (HR'.out _ hb3).mono ?_
      rintro e w2 ⟨rfl, hb4⟩
      have hb5 := bel_next hb3 hb4
      clear y0 y1 y2 y3 y4
      obtain ⟨⟨y0, y1, y2, y3, y4⟩, -⟩ := (Hu.out.later hb2).later hb4
      obtain ⟨⟨z0, z1, z2, z3, z4⟩, -⟩ := (Hv.out.later hb2).later hb4
      go_wp2_with fail
      refine (HO.out _ hb5).mono ?_
      rintro e w3 ⟨rfl, hb6⟩
      go_wp2
      go_ret
      exact ⟨vret_b (by rw [HG.out]), bel_next hb5 hb6⟩
end Go.Proofs.YtnldiemggabdkaaDoor
/-
  Layer 4, the reference: Zero, Get, Len; law 4's told.
-/
namespace Go.Proofs.YtnldiemggabdkaaDoor
open Go.RowKit
set_option linter.unusedVariables false

/-- What a call tells, or nothing. -/
def orV (r : Option VT) : VT := r.getD (scV 0 0 ⟨#[]⟩)
theorem memR_orV (r : Option VT) : memR r = .tuple #[(orV r).agg, .bool r.isSome] := by cases r <;> rfl
theorem five_blk {W : World} {g : Nat} {a b c d e : Value} {t : TypeId} (h : W.heap[g]? = some (.cells #[a, b, c, d, e] t)) : VFive W g a b c d e :=
  ⟨⟨(cell_of_row W g 0 _ t (0, 0) h).trans rfl, (cell_of_row W g 1 _ t (0, 0) h).trans rfl, (cell_of_row W g 2 _ t (0, 0) h).trans rfl, (cell_of_row W g 3 _ t (0, 0) h).trans rfl, (cell_of_row W g 4 _ t (0, 0) h).trans rfl⟩,
    ⟨frozen_of_row W g 0 _ t h, frozen_of_row W g 1 _ t h, frozen_of_row W g 2 _ t h, frozen_of_row W g 3 _ t h, frozen_of_row W g 4 _ t h⟩⟩
set_option maxRecDepth 20000 in
theorem rzero_z (w : World) : Calls Tryd.prog 29 #[.agg #[.int .i64 0, .int .i64 0, .string ⟨#[]⟩, .slice none 0 0, .slice none 0 0]] w fun e w' => e = .returned (.bool true) ∧ Below w.heap.size w w' := by
  have hb1 := bel_alloc (Below.refl w.heap.size w) (.cells #[.int .i64 0, .int .i64 0, .string ⟨#[]⟩, .slice none 0 0, .slice none 0 0] 25)
  go_enter Tryd.func29, Tryd.ntmps29
  go_wp2
  go_ret
  exact ⟨by rfl, hb1⟩
set_option maxRecDepth 20000 in
set_option maxHeartbeats 2000000 in
/-- told, of what is one and the same, or nothing. -/
theorem told_any (r : Option VT) (Y : VT) (B : Nat) (w : World) (hY : ∀ X, r = some X → Y = X) (hL : Lie w B Y) (hS : Sml 1048576 Y) (hok : r.isSome = true → Y.ok = true) (hB : B ≤ w.heap.size) :
    Calls Tryd.prog 21 #[(orV r).agg, .bool r.isSome, Y.agg, .bool r.isSome] w fun e w' => e = .returned (.bool true) ∧ Below w.heap.size w w' := by
  cases r with
  | none =>
    show Calls _ _ #[.agg #[.int .i64 0, .int .i64 0, .string ⟨#[]⟩, .slice none 0 0, .slice none 0 0], .bool false, Y.agg, .bool false] w _
    have hz := fun W => rzero_z W
    clear hY hL hS hok
    obtain ⟨k, n, s, cA, cn, cc, kA, kn, kc, keys, kids⟩ := Y
    simp only [VT.agg]
    have hb1 := bel_alloc (bel_alloc (Below.refl w.heap.size w) (.cells #[.int .i64 0, .int .i64 0, .string ⟨#[]⟩, .slice none 0 0, .slice none 0 0] 25)) (.cells #[.int .i64 k, .int .i64 n, .string s, .slice cA cn cc, .slice kA kn kc] 25)
    go_enter Tryd.func21, Tryd.ntmps21
    go_wp2_with fail
    refine (hz _).mono ?_
    rintro e w1 ⟨rfl, hb2⟩
    go_wp2
    go_ret
    exact ⟨rfl, bel_next hb1 hb2⟩
  | some X =>
    obtain rfl := hY X rfl
    show Calls _ _ #[Y.agg, .bool true, Y.agg, .bool true] w _
    have hs := fun o o' => rsame_any Y Y B ((w.alloc o).alloc o') (hL.later ((bel_alloc (bel_alloc (Below.refl w.heap.size w) o) o').mono hB)) (hL.later ((bel_alloc (bel_alloc (Below.refl w.heap.size w) o) o').mono hB)) hS hS (Nat.le_trans hB (bel_alloc (bel_alloc (Below.refl w.heap.size w) o) o').size)
    rw [sameR_refl, hok rfl] at hs
    clear hY hL hS hok
    obtain ⟨k, n, s, cA, cn, cc, kA, kn, kc, keys, kids⟩ := Y
    simp only [VT.agg] at hs ⊢
    have hs := hs (.cells #[.int .i64 k, .int .i64 n, .string s, .slice cA cn cc, .slice kA kn kc] 25) (.cells #[.int .i64 k, .int .i64 n, .string s, .slice cA cn cc, .slice kA kn kc] 25)
    have hb1 := bel_alloc (bel_alloc (Below.refl w.heap.size w) (.cells #[.int .i64 k, .int .i64 n, .string s, .slice cA cn cc, .slice kA kn kc] 25)) (.cells #[.int .i64 k, .int .i64 n, .string s, .slice cA cn cc, .slice kA kn kc] 25)
    go_enter Tryd.func21, Tryd.ntmps21
    go_wp2_with fail
    refine hs.mono ?_
    rintro e w1 ⟨rfl, hb2⟩
    go_wp2
    go_ret
    exact ⟨rfl, bel_next hb1 hb2⟩
theorem getK_pre : ∀ (ks : List ByteArray) (ts : List VT) (x : ByteArray) (j : Nat), j < ks.length → j < ts.length → (∀ q, q < j → ks.getD q ⟨#[]⟩ ≠ x) → ks.getD j ⟨#[]⟩ = x → getK ks ts x = ts[j]? :=
  fun ks ts x j h1 h2 h3 h4 => getK_some ks ts x j h1 h2 h4 h3
set_option maxRecDepth 20000 in
set_option maxHeartbeats 4000000 in
theorem rget_any (T : VT) (x : ByteArray) (B : Nat) (w : World) (hL : Lie w B T) (hB : B ≤ w.heap.size) (hall : T.all = true) :
    Calls Tryd.prog 19 #[T.agg, .string x] w fun e w' => e = .returned (memR (T.get x)) ∧ Below w.heap.size w w' := by
  obtain ⟨k, n, s, cA, cn, cc, kA, kn, kc, keys, kids⟩ := T
  cases hL with | mk hkc hkk hkz hkid =>
  have hlc := kids_len hkc
  have hlk := keys_len hkk
  rw [all_mk, Bool.and_eq_true] at hall
  have hkn := fit_keysn hall.1
  have HC := Lib.hid hkc
  have HK := Lib.hid hkk
  have Hlc := Lib.hid hlc
  have Hlk := Lib.hid hlk
  have hkm := Nat.le_trans hkz.k1 hkz.k2
  unfold maxLen at hkm
  have hb1 := bel_alloc (bel_alloc (Below.refl w.heap.size w) (.cells #[.int .i64 k, .int .i64 n, .string s, .slice cA cn cc, .slice kA kn kc] 25)) (.cells #[.int .i64 0, .int .i64 0, .string ⟨#[]⟩, .slice none 0 0, .slice none 0 0] 25)
  have Hv := Lib.hid ((VFive.new w (.int .i64 k) (.int .i64 n) (.string s) (.slice cA cn cc) (.slice kA kn kc) 25 w.heap.size rfl).alloc (.cells #[.int .i64 0, .int .i64 0, .string ⟨#[]⟩, .slice none 0 0, .slice none 0 0] 25))
  have Hr := Lib.hid (show VFive ((w.alloc (.cells #[.int .i64 k, .int .i64 n, .string s, .slice cA cn cc, .slice kA kn kc] 25)).alloc (.cells #[.int .i64 0, .int .i64 0, .string ⟨#[]⟩, .slice none 0 0, .slice none 0 0] 25)) (w.heap.size + 1) (.int .i64 0) (.int .i64 0) (.string ⟨#[]⟩) (.slice none 0 0) (.slice none 0 0) from VFive.new _ _ _ _ _ _ _ _ (World.size_alloc _ _))
  have hle1 : w.heap.size ≤ w.heap.size + 1 := Nat.le_succ _
  simp only [VT.agg]
  clear hkc hkk hkz hkid hall hlc hlk
  go_enter Tryd.func19, Tryd.ntmps19
  go_upto_region 1 with fail
  generalize ((w.alloc (.cells #[.int .i64 k, .int .i64 n, .string s, .slice cA cn cc, .slice kA kn kc] 25)).alloc (.cells #[.int .i64 0, .int .i64 0, .string ⟨#[]⟩, .slice none 0 0, .slice none 0 0] 25)) = W1 at *
  by_cases h6 : k = 6
  · subst h6
    rw [if_pos rfl] at hkn
    subst hkn
    go_wp2
    go_loopw [6] (fun i wr => ∃ j : Nat, j ≤ kn ∧ i = .int .i64 j ∧ Hid (∀ q, q < j → keys.getD q ⟨#[]⟩ ≠ x) ∧ W1 = wr) (fun i _ => kn - (intOf i).toNat)
    case atStart => exact ⟨0, Nat.zero_le _, rfl, Lib.hid (fun q h => absurd h (Nat.not_lt_zero q)), rfl⟩
    case round =>
      obtain ⟨j, hj, rfl, Hq, rfl⟩ := hrel
      obtain ⟨⟨v0, v1, v2, v3, v4⟩, -⟩ := Hv.out
      obtain ⟨⟨z0, z1, z2, z3, z4⟩, f0, f1, f2, f3, f4⟩ := Hr.out
      by_cases hlt : j < kn
      · have hjc : (j : Int) < kn := by omega
        have hj0 : (0 : Int) ≤ j := by omega
        obtain ⟨b, off, rfl, _, hcj⟩ := key_at (HK.out.below (hb1.mono hB)) hlt
        obtain ⟨b2, off2, y, rfl, _, hy, h5⟩ := kids_at (HC.out.below (hb1.mono hB)) hlt
        by_cases hke : keys.getD j ⟨#[]⟩ = x
        · have HF := Lib.hid (show VT.get (.mk 6 n s (some ⟨b2, off2, none⟩) kn cc (some ⟨b, off, none⟩) kn kc keys kids) x = some y by
            show (if (6 : Int) = 6 then getK keys kids x else none) = _
            rw [if_pos rfl, getK_pre keys kids x j (by rw [Hlk.out]; exact hlt) (by rw [Hlc.out]; exact hlt) Hq.out hke]
            exact hy)
          rw [hke] at hcj
          have hxx := str_eq x
          clear hke hy
          obtain ⟨k', n', s', cA', cn', cc', kA', kn', kc', keys', kids'⟩ := y
          obtain ⟨g0, g1, g2, g3, g4⟩ := h5
          go_wp2
          refine bodyPost_ret (v := .tuple #[.agg #[.int .i64 k', .int .i64 n', .string s', .slice cA' cn' cc', .slice kA' kn' kc'], .bool true]) ?_ rfl ⟨by rw [HF.out]; rfl, vbelow_set5 hb1 hle1⟩
          simp [results, Tryd.results19, go_sem, *]
        · have hxx := str_ne hke
          have HQ := Lib.hid (show ∀ q, q < j + 1 → keys.getD q ⟨#[]⟩ ≠ x from fun q hq => if e : q = j then e ▸ hke else Hq.out q (by omega))
          clear hke hy h5
          generalize keys.getD j ⟨#[]⟩ = key at *
          go_wp2
          go_roundw
          case rel => exact ⟨j + 1, by omega, by go_num, HQ, by first | rfl | trivial⟩
          case measure => simp [intOf]; omega
      · obtain rfl : j = kn := by omega
        have HF := Lib.hid (show VT.get (.mk 6 n s cA j cc kA j kc keys kids) x = none by
          show (if (6 : Int) = 6 then getK keys kids x else none) = _
          rw [if_pos rfl]
          exact getK_none keys kids x fun q hq => Hq.out q (by rw [← Hlk.out]; exact hq))
        go_wp2
        refine bodyPost_ret (v := .tuple #[.agg #[.int .i64 0, .int .i64 0, .string ⟨#[]⟩, .slice none 0 0, .slice none 0 0], .bool false]) ?_ rfl ⟨by rw [HF.out]; rfl, vbelow_set5 hb1 hle1⟩
        simp [results, Tryd.results19, go_sem, *]
  · have HF := Lib.hid (show VT.get (.mk k n s cA cn cc kA kn kc keys kids) x = none by
      show (if k = 6 then getK keys kids x else none) = _
      rw [if_neg h6])
    have e6 : (k == 6) = false := by rw [beq_eq_false_iff_ne]; exact h6
    obtain ⟨⟨v0, v1, v2, v3, v4⟩, -⟩ := Hv.out
    obtain ⟨⟨z0, z1, z2, z3, z4⟩, f0, f1, f2, f3, f4⟩ := Hr.out
    clear h6 hkn
    go_wp2
    go_loopw [6] (fun i wr => i = .int .i64 0 ∧ W1 = wr) (fun i _ => 0)
    case atStart => exact ⟨rfl, rfl⟩
    case round =>
      obtain ⟨rfl, rfl⟩ := hrel
      go_wp2
      refine bodyPost_ret (v := .tuple #[.agg #[.int .i64 0, .int .i64 0, .string ⟨#[]⟩, .slice none 0 0, .slice none 0 0], .bool false]) ?_ rfl ⟨by rw [HF.out]; rfl, vbelow_set5 hb1 hle1⟩
      simp [results, Tryd.results19, go_sem, *]
end Go.Proofs.YtnldiemggabdkaaDoor
/-
  Layer 4, the reference: Path, Len.
-/
namespace Go.Proofs.YtnldiemggabdkaaDoor
open Go.RowKit
set_option linter.unusedVariables false

set_option maxRecDepth 20000 in
set_option maxHeartbeats 4000000 in
theorem rpath_any : ∀ (path : List ByteArray) (T : VT) (A : Option Addr) (m c : Nat) (B B2 : Nat) (w : World), Lie w B T → B ≤ w.heap.size → T.ok = true → Shows w B2 1 A m (path.map Value.string) → B2 ≤ w.heap.size → m ≤ c → c ≤ maxLen →
    Calls Tryd.prog 23 #[T.agg, .slice A m c] w fun e w' => e = .returned (memR (pathR T path)) ∧ Below w.heap.size w w' := by
  intro path
  induction path with
  | nil =>
    intro T A m c B B2 w hL hB hok hS hB2 hmc hc9
    obtain rfl : m = 0 := by have := keys_len hS; simpa using this.symm
    obtain ⟨k, n, s, cA, cn, cc, kA, kn, kc, keys, kids⟩ := T
    have hb1 := bel_alloc (bel_alloc (Below.refl w.heap.size w) (.cells #[.int .i64 k, .int .i64 n, .string s, .slice cA cn cc, .slice kA kn kc] 25)) (.cells #[.int .i64 0, .int .i64 0, .string ⟨#[]⟩, .slice none 0 0, .slice none 0 0] 25)
    have Hv := Lib.hid ((VFive.new w (.int .i64 k) (.int .i64 n) (.string s) (.slice cA cn cc) (.slice kA kn kc) 25 w.heap.size rfl).alloc (.cells #[.int .i64 0, .int .i64 0, .string ⟨#[]⟩, .slice none 0 0, .slice none 0 0] 25))
    have Hr := Lib.hid (show VFive ((w.alloc (.cells #[.int .i64 k, .int .i64 n, .string s, .slice cA cn cc, .slice kA kn kc] 25)).alloc (.cells #[.int .i64 0, .int .i64 0, .string ⟨#[]⟩, .slice none 0 0, .slice none 0 0] 25)) (w.heap.size + 1) (.int .i64 0) (.int .i64 0) (.string ⟨#[]⟩) (.slice none 0 0) (.slice none 0 0) from VFive.new _ _ _ _ _ _ _ _ (World.size_alloc _ _))
    have hle1 : w.heap.size ≤ w.heap.size + 1 := Nat.le_succ _
    simp only [VT.agg]
    clear hL hok hS
    go_enter Tryd.func23, Tryd.ntmps23
    go_upto_region 1 with fail
    generalize ((w.alloc (.cells #[.int .i64 k, .int .i64 n, .string s, .slice cA cn cc, .slice kA kn kc] 25)).alloc (.cells #[.int .i64 0, .int .i64 0, .string ⟨#[]⟩, .slice none 0 0, .slice none 0 0] 25)) = W1 at *
    obtain ⟨⟨v0, v1, v2, v3, v4⟩, -⟩ := Hv.out
    obtain ⟨⟨z0, z1, z2, z3, z4⟩, f0, f1, f2, f3, f4⟩ := Hr.out
    go_wp2
    refine bodyPost_ret (v := .tuple #[.agg #[.int .i64 k, .int .i64 n, .string s, .slice cA cn cc, .slice kA kn kc], .bool true]) ?_ rfl ⟨rfl, vbelow_set5 hb1 hle1⟩
    simp [results, Tryd.results23, go_sem, *]
  | cons x r ih =>
    intro T A m c B B2 w hL hB hok hS hB2 hmc hc9
    obtain ⟨iV, hiV, hzV, -, -⟩ := val_info
    have hlm := keys_len hS
    rw [List.length_cons] at hlm
    obtain ⟨b, off, rfl, _, hx0⟩ := key_at hS (i := 0) (by omega)
    have Hx := Lib.hid (fun W (h : Below w.heap.size w W) => show W.cell? ⟨b, off, none⟩ = some (.string x) from by
      obtain ⟨b4, o4, e, _, hc2⟩ := key_at (hS.below (h.mono hB2)) (i := 0) (by omega)
      injection e with e
      injection e with e1 e2
      subst e1; subst e2
      simpa using hc2)
    have HG0 := Lib.hid (fun W (h : Below w.heap.size w W) => rget_any T x B W (hL.later (h.mono hB)) (Nat.le_trans hB h.size) (ok_all hok))
    have HS := Lib.hid (fun W (h : Below w.heap.size w W) => show Shows W B2 1 (some ⟨b, off + 1, none⟩) (m - 1) (r.map Value.string) from by
      have := (hS.below (h.mono hB2)).cut (k := 1) (cap := m + 5) (by omega) (by omega)
      rw [if_neg (by omega)] at this
      simpa [addr_add] using this)
    have HK := Lib.hid (fun X (h : T.get x = some X) => (⟨ok_kid hok (get_mem h), lie_kid hL (get_mem h)⟩ : X.ok = true ∧ Lie w B X))
    have HP := Lib.hid (show pathR T (x :: r) = (match T.get x with | some T' => pathR T' r | none => none) from rfl)
    have Hih := Lib.hid ih
    simp only [memR_orV] at HG0
    generalize hg : T.get x = g at *
    generalize hXg : orV g = X at *
    have HX := Lib.hid hXg
    generalize pathR T (x :: r) = R at *
    clear hg hXg hS hx0 ih hL hok
    obtain ⟨k, n, s, cA, cn, cc, kA, kn, kc, keys, kids⟩ := T
    obtain ⟨kx, nx, sx, cAx, cnx, ccx, kAx, knx, kcx, keysx, kidsx⟩ := X
    simp only [VT.agg] at HG0 ⊢
    have hb1 := bel_alloc (bel_alloc (Below.refl w.heap.size w) (.cells #[.int .i64 k, .int .i64 n, .string s, .slice cA cn cc, .slice kA kn kc] 25)) (.cells #[.int .i64 0, .int .i64 0, .string ⟨#[]⟩, .slice none 0 0, .slice none 0 0] 25)
    have Hv := Lib.hid ((VFive.new w (.int .i64 k) (.int .i64 n) (.string s) (.slice cA cn cc) (.slice kA kn kc) 25 w.heap.size rfl).alloc (.cells #[.int .i64 0, .int .i64 0, .string ⟨#[]⟩, .slice none 0 0, .slice none 0 0] 25))
    have Hr := Lib.hid (show VFive ((w.alloc (.cells #[.int .i64 k, .int .i64 n, .string s, .slice cA cn cc, .slice kA kn kc] 25)).alloc (.cells #[.int .i64 0, .int .i64 0, .string ⟨#[]⟩, .slice none 0 0, .slice none 0 0] 25)) (w.heap.size + 1) (.int .i64 0) (.int .i64 0) (.string ⟨#[]⟩) (.slice none 0 0) (.slice none 0 0) from VFive.new _ _ _ _ _ _ _ _ (World.size_alloc _ _))
    have hle1 : w.heap.size ≤ w.heap.size + 1 := Nat.le_succ _
    have hm00 : 0 < m := by omega
    have hm1 : (1 : Int) ≤ (m : Int) := by omega
    have hm0 : (0 : Int) < (m : Int) := by omega
    have hmc' : (m : Int) ≤ (c : Int) := by omega
    have em : ((m : Int) == 0) = false := by rw [beq_eq_false_iff_ne]; omega
    go_enter Tryd.func23, Tryd.ntmps23
    go_upto_region 3 with fail
    generalize ((w.alloc (.cells #[.int .i64 k, .int .i64 n, .string s, .slice cA cn cc, .slice kA kn kc] 25)).alloc (.cells #[.int .i64 0, .int .i64 0, .string ⟨#[]⟩, .slice none 0 0, .slice none 0 0] 25)) = W1 at *
    have v0 : ∀ W, Below W1.heap.size W1 W → W.cell? ⟨w.heap.size, 0, none⟩ = some (.int .i64 k) := fun W h => (Hv.out.later h).1.1
    have v1 : ∀ W, Below W1.heap.size W1 W → W.cell? ⟨w.heap.size, 1, none⟩ = some (.int .i64 n) := fun W h => (Hv.out.later h).1.2.1
    have v2 : ∀ W, Below W1.heap.size W1 W → W.cell? ⟨w.heap.size, 2, none⟩ = some (.string s) := fun W h => (Hv.out.later h).1.2.2.1
    have v3 : ∀ W, Below W1.heap.size W1 W → W.cell? ⟨w.heap.size, 3, none⟩ = some (.slice cA cn cc) := fun W h => (Hv.out.later h).1.2.2.2.1
    have v4 : ∀ W, Below W1.heap.size W1 W → W.cell? ⟨w.heap.size, 4, none⟩ = some (.slice kA kn kc) := fun W h => (Hv.out.later h).1.2.2.2.2
    have x0 : ∀ W, Below W1.heap.size W1 W → W.cell? ⟨b, off, none⟩ = some (.string x) := fun W h => Hx.out W (bel_next hb1 h)
    have HG := Lib.hid (fun W (h : Below W1.heap.size W1 W) => HG0.out W (bel_next hb1 h))
    go_cut [6, 7] (fun s6 s7 wx => ∃ g6, s6 = .pointer (some ⟨g6, 0, none⟩) ∧ s7 = .bool g.isSome ∧ W1.heap.size ≤ g6 ∧ Hid (VFive wx g6 (.int .i64 kx) (.int .i64 nx) (.string sx) (.slice cAx cnx ccx) (.slice kAx knx kcx)) ∧ Below W1.heap.size W1 wx)
    case first =>
        refine wp_region_held_drew (S := fun W => Below W1.heap.size W1 W) (by kernel_rfl) (below_drewN (Below.refl _ _) 1) (fun hHeld => ?_)
        refine rg_in 0 rfl (by kernel_rfl) (by kernel_rfl) (by kernel_rfl) (by rfl) (v := ?_) (fun _ _ _ h => h) hHeld (fun w hSw => ?_) ?_
        rotate_left
        · (try dsimp only at hSw); go_simp <;> (with_reducible rfl)
        (try simp only [Act.put, List.setIfInBounds_toArray, List.set_cons_zero, List.set_cons_succ])
        refine rg_in 1 rfl (by kernel_rfl) (by kernel_rfl) (by kernel_rfl) (by rfl) (v := ?_) (fun _ _ _ h => h) hHeld (fun w hSw => ?_) ?_
        rotate_left
        · (try dsimp only at hSw); go_simp <;> (with_reducible rfl)
        (try simp only [Act.put, List.setIfInBounds_toArray, List.set_cons_zero, List.set_cons_succ])
        refine rg_in 2 rfl (by kernel_rfl) (by kernel_rfl) (by kernel_rfl) (by rfl) (v := ?_) (fun _ _ _ h => h) hHeld (fun w hSw => ?_) ?_
        rotate_left
        · (try dsimp only at hSw); go_simp <;> (with_reducible rfl)
        (try simp only [Act.put, List.setIfInBounds_toArray, List.set_cons_zero, List.set_cons_succ])
        refine rg_in 3 rfl (by kernel_rfl) (by kernel_rfl) (by kernel_rfl) (by rfl) (v := ?_) (fun _ _ _ h => h) hHeld (fun w hSw => ?_) ?_
        rotate_left
        · (try dsimp only at hSw); go_simp <;> (with_reducible rfl)
        (try simp only [Act.put, List.setIfInBounds_toArray, List.set_cons_zero, List.set_cons_succ])
        refine wpAnyH_ready (rs := [4, 8]) (by kernel_rfl) (by simp) ?_
        refine rg_cons rfl (by rfl) (fun K hK => ?_) ?_
        · go_simp
          (go_at_call 19; (with_reducible refine (HG.out _ hHeld).mono ?_); (rintro e w104 ⟨rfl, hb4⟩))
          refine hK.out _ _ (S_call hb4 hHeld rfl) (fun hHeld => ?_)
          clear hK K
          (try simp only [Act.put, List.setIfInBounds_toArray, List.set_cons_zero, List.set_cons_succ])
          refine rg_in 5 rfl (by kernel_rfl) (by kernel_rfl) (by kernel_rfl) (by rfl) (v := ?_) (fun _ _ _ h => h) hHeld (fun w hSw => ?_) ?_
          rotate_left
          · (try dsimp only at hSw); go_simp <;> (with_reducible rfl)
          (try simp only [Act.put, List.setIfInBounds_toArray, List.set_cons_zero, List.set_cons_succ])
          refine rg_in 6 rfl (by kernel_rfl) (by kernel_rfl) (by kernel_rfl) (by rfl) (v := ?_) (fun _ _ _ h => h) hHeld (fun w hSw => ?_) ?_
          rotate_left
          · (try dsimp only at hSw); go_simp <;> (with_reducible rfl)
          (try simp only [Act.put, List.setIfInBounds_toArray, List.set_cons_zero, List.set_cons_succ])
          refine rg_in 7 rfl (by kernel_rfl) (by kernel_rfl) (by kernel_rfl) (by rfl) (v := ?_) (fun _ _ _ h => h) hHeld (fun w hSw => ?_) ?_
          rotate_left
          · (try dsimp only at hSw); go_simp <;> (with_reducible rfl)
          (try simp only [Act.put, List.setIfInBounds_toArray, List.set_cons_zero, List.set_cons_succ])
          refine rg_do 8 rfl (by kernel_rfl) (by rfl) (fun K hK => ?_)
          have hHeld0_x := hHeld
          refine step_alloc 25 rfl iV _ hiV hzV ?_
          intro g108 w108 hge8 hbox8 hb8
          refine hK.out _ _ (S_call hb8 hHeld rfl) (fun hHeld => ?_)
          clear hK K
          (try simp only [Act.put, List.setIfInBounds_toArray, List.set_cons_zero, List.set_cons_succ])
          refine rg_do 9 rfl (by kernel_rfl) (by rfl) (fun K hK => ?_)
          have hV := Lib.hid (five_blk (blk_later hbox8 (Below.refl _ _)))
          have hge := Nat.le_trans hHeld0_x.size hge8
          obtain ⟨⟨q0, q1, q2, q3, q4⟩, ⟨f0, f1, f2, f3, f4⟩⟩ := hV.out
          go_simp
          have hV11 := VFive.set5 hV.out (a' := .int .i64 kx) (b' := .int .i64 nx) (c' := .string sx) (d' := .slice cAx cnx ccx) (e' := .slice kAx knx kcx)
          refine hK.out _ _ (hHeld.trans (vbelow_set5 (Below.refl _ _) hge)) (fun hHeld => ?_)
          clear hK K
          (try simp only [Act.put, List.setIfInBounds_toArray, List.set_cons_zero, List.set_cons_succ])
          refine rg_in 10 rfl (by kernel_rfl) (by kernel_rfl) (by kernel_rfl) (by rfl) (v := ?_) (fun _ _ _ h => h) hHeld (fun w hSw => ?_) ?_
          rotate_left
          · (try dsimp only at hSw); go_simp <;> (with_reducible rfl)
          (try simp only [Act.put, List.setIfInBounds_toArray, List.set_cons_zero, List.set_cons_succ])
          refine wpAnyH_done (by kernel_rfl) ?_ _
          go_wp2
          go_meet
          case rel => exact ⟨_, rfl, rfl, hge, Lib.hid hV11, hHeld⟩
        refine rg_cons rfl (by rfl) (fun K hK => ?_) ?_
        · have hHeld0_x := hHeld
          refine step_alloc 25 rfl iV _ hiV hzV ?_
          intro g108 w108 hge8 hbox8 hb8
          refine hK.out _ _ (S_call hb8 hHeld rfl) (fun hHeld => ?_)
          clear hK K
          (try simp only [Act.put, List.setIfInBounds_toArray, List.set_cons_zero, List.set_cons_succ])
          refine rg_do 4 rfl (by kernel_rfl) (by rfl) (fun K hK => ?_)
          go_simp
          (go_at_call 19; (with_reducible refine (HG.out _ hHeld).mono ?_); (rintro e w104 ⟨rfl, hb4⟩))
          refine hK.out _ _ (S_call hb4 hHeld rfl) (fun hHeld => ?_)
          clear hK K
          (try simp only [Act.put, List.setIfInBounds_toArray, List.set_cons_zero, List.set_cons_succ])
          refine rg_in 5 rfl (by kernel_rfl) (by kernel_rfl) (by kernel_rfl) (by rfl) (v := ?_) (fun _ _ _ h => h) hHeld (fun w hSw => ?_) ?_
          rotate_left
          · (try dsimp only at hSw); go_simp <;> (with_reducible rfl)
          (try simp only [Act.put, List.setIfInBounds_toArray, List.set_cons_zero, List.set_cons_succ])
          refine rg_in 6 rfl (by kernel_rfl) (by kernel_rfl) (by kernel_rfl) (by rfl) (v := ?_) (fun _ _ _ h => h) hHeld (fun w hSw => ?_) ?_
          rotate_left
          · (try dsimp only at hSw); go_simp <;> (with_reducible rfl)
          (try simp only [Act.put, List.setIfInBounds_toArray, List.set_cons_zero, List.set_cons_succ])
          refine rg_in 7 rfl (by kernel_rfl) (by kernel_rfl) (by kernel_rfl) (by rfl) (v := ?_) (fun _ _ _ h => h) hHeld (fun w hSw => ?_) ?_
          rotate_left
          · (try dsimp only at hSw); go_simp <;> (with_reducible rfl)
          (try simp only [Act.put, List.setIfInBounds_toArray, List.set_cons_zero, List.set_cons_succ])
          refine rg_do 9 rfl (by kernel_rfl) (by rfl) (fun K hK => ?_)
          have hV := Lib.hid (five_blk (blk_later hbox8 hb4))
          have hge := Nat.le_trans hHeld0_x.size hge8
          obtain ⟨⟨q0, q1, q2, q3, q4⟩, ⟨f0, f1, f2, f3, f4⟩⟩ := hV.out
          go_simp
          have hV11 := VFive.set5 hV.out (a' := .int .i64 kx) (b' := .int .i64 nx) (c' := .string sx) (d' := .slice cAx cnx ccx) (e' := .slice kAx knx kcx)
          refine hK.out _ _ (hHeld.trans (vbelow_set5 (Below.refl _ _) hge)) (fun hHeld => ?_)
          clear hK K
          (try simp only [Act.put, List.setIfInBounds_toArray, List.set_cons_zero, List.set_cons_succ])
          refine rg_in 10 rfl (by kernel_rfl) (by kernel_rfl) (by kernel_rfl) (by rfl) (v := ?_) (fun _ _ _ h => h) hHeld (fun w hSw => ?_) ?_
          rotate_left
          · (try dsimp only at hSw); go_simp <;> (with_reducible rfl)
          (try simp only [Act.put, List.setIfInBounds_toArray, List.set_cons_zero, List.set_cons_succ])
          refine wpAnyH_done (by kernel_rfl) ?_ _
          go_wp2
          go_meet
          case rel => exact ⟨_, rfl, rfl, hge, Lib.hid hV11, hHeld⟩
        exact AllReadyH.nil
    case rest =>
      obtain ⟨g6, rfl, rfl, hg6, HV6, hbc⟩ := hcut
      rename World => W2
      have hb2 := bel_next hb1 hbc
      have hre := Hr.out.later hbc
      clear v0 v1 v2 v3 v4 x0 HG HG0
      cases g with
      | none =>
        have HF := Lib.hid (show R = none from HP.out)
        obtain ⟨⟨z0, z1, z2, z3, z4⟩, f0, f1, f2, f3, f4⟩ := hre
        simp only [Option.isSome_none] at *
        go_wp2
        refine bodyPost_ret (v := .tuple #[.agg #[.int .i64 0, .int .i64 0, .string ⟨#[]⟩, .slice none 0 0, .slice none 0 0], .bool false]) ?_ rfl ⟨by rw [HF.out]; rfl, vbelow_set5 hb2 hle1⟩
        simp [results, Tryd.results23, go_sem, *]
      | some X =>
        obtain ⟨hXok, hXL⟩ := HK.out X rfl
        obtain rfl : X = .mk kx nx sx cAx cnx ccx kAx knx kcx keysx kidsx := HX.out
        have HF := Lib.hid (show R = pathR (.mk kx nx sx cAx cnx ccx kAx knx kcx keysx kidsx) r from HP.out)
        have HQ0 := Lib.hid (fun A (hA : ∀ W, Below w.heap.size w W → Shows W B2 1 A (m - 1) (r.map Value.string)) W (h : Below w.heap.size w W) => Hih.out (.mk kx nx sx cAx cnx ccx kAx knx kcx keysx kidsx) A (m - 1) (c - 1) B B2 W (hXL.later (h.mono hB)) (Nat.le_trans hB h.size) hXok (hA W h) (Nat.le_trans hB2 h.size) (by omega) (by omega))
        rw [← HF.out] at HQ0
        simp only [memR_orV] at HQ0 ⊢
        generalize hZ : orV R = Z at *
        have HZ := Lib.hid hZ
        clear hZ hXok hXL
        obtain ⟨kz, nz, sz, cAz, cnz, ccz, kAz, knz, kcz, keysz, kidsz⟩ := Z
        simp only [VT.agg] at HQ0 ⊢
        simp only [Option.isSome_some] at *
        go_upto_region 6 with fail
        have Hre := Lib.hid hre
        have hg6n : g6 ≠ w.heap.size + 1 := by have := VFive.lt Hr.out; omega
        clear hre
        have x0 : ∀ W, (Below w.heap.size w W ∧ VFive W g6 (.int .i64 kx) (.int .i64 nx) (.string sx) (.slice cAx cnx ccx) (.slice kAx knx kcx)) → W.cell? ⟨g6, 0, none⟩ = some (.int .i64 kx) := fun W h => h.2.1.1
        have x1 : ∀ W, (Below w.heap.size w W ∧ VFive W g6 (.int .i64 kx) (.int .i64 nx) (.string sx) (.slice cAx cnx ccx) (.slice kAx knx kcx)) → W.cell? ⟨g6, 1, none⟩ = some (.int .i64 nx) := fun W h => h.2.1.2.1
        have x2 : ∀ W, (Below w.heap.size w W ∧ VFive W g6 (.int .i64 kx) (.int .i64 nx) (.string sx) (.slice cAx cnx ccx) (.slice kAx knx kcx)) → W.cell? ⟨g6, 2, none⟩ = some (.string sx) := fun W h => h.2.1.2.2.1
        have x3 : ∀ W, (Below w.heap.size w W ∧ VFive W g6 (.int .i64 kx) (.int .i64 nx) (.string sx) (.slice cAx cnx ccx) (.slice kAx knx kcx)) → W.cell? ⟨g6, 3, none⟩ = some (.slice cAx cnx ccx) := fun W h => h.2.1.2.2.2.1
        have x4 : ∀ W, (Below w.heap.size w W ∧ VFive W g6 (.int .i64 kx) (.int .i64 nx) (.string sx) (.slice cAx cnx ccx) (.slice kAx knx kcx)) → W.cell? ⟨g6, 4, none⟩ = some (.slice kAx knx kcx) := fun W h => h.2.1.2.2.2.2
        by_cases hc1 : c = 1
        · subst hc1
          obtain rfl : m = 1 := by omega
          have hr0 : r = [] := List.eq_nil_of_length_eq_zero (by omega)
          have HQ := Lib.hid (fun W (h : Below w.heap.size w W) => HQ0.out (some ⟨b, off, none⟩) (fun W _ => by rw [hr0]; exact Shows.zero _) W h)
          clear hr0 hlm hm00 hm1 hm0 hmc' em hmc hc9 HQ0
          · skip
            refine wp_region_held_drew (S := fun W => Below w.heap.size w W ∧ VFive W g6 (.int .i64 kx) (.int .i64 nx) (.string sx) (.slice cAx cnx ccx) (.slice kAx knx kcx)) (by kernel_rfl) ⟨below_drewN hb2 1, HV6.out⟩ (fun hHeld => ?_)
            refine rg_in 0 rfl (by kernel_rfl) (by kernel_rfl) (by kernel_rfl) (by rfl) (v := ?_) (fun _ _ _ h => h) hHeld (fun w hSw => ?_) ?_
            rotate_left
            · (try dsimp only at hSw); go_simp <;> (with_reducible rfl)
            (try simp only [Act.put, List.setIfInBounds_toArray, List.set_cons_zero, List.set_cons_succ])
            refine rg_in 1 rfl (by kernel_rfl) (by kernel_rfl) (by kernel_rfl) (by rfl) (v := ?_) (fun _ _ _ h => h) hHeld (fun w hSw => ?_) ?_
            rotate_left
            · (try dsimp only at hSw); go_simp <;> (with_reducible rfl)
            (try simp only [Act.put, List.setIfInBounds_toArray, List.set_cons_zero, List.set_cons_succ])
            refine rg_in 2 rfl (by kernel_rfl) (by kernel_rfl) (by kernel_rfl) (by rfl) (v := ?_) (fun _ _ _ h => h) hHeld (fun w hSw => ?_) ?_
            rotate_left
            · (try dsimp only at hSw); go_simp <;> (with_reducible rfl)
            (try simp only [Act.put, List.setIfInBounds_toArray, List.set_cons_zero, List.set_cons_succ])
            refine rg_do 3 rfl (by kernel_rfl) (by rfl) (fun K hK => ?_)
            go_simp
            (go_at_call 23; (with_reducible refine (HQ.out _ hHeld.1).mono ?_); (rintro e w103 ⟨rfl, hb3⟩))
            refine hK.out _ _ ⟨S_call hb3 hHeld.1 rfl, hHeld.2.later hb3⟩ (fun hHeld => ?_)
            clear hK K
            (try simp only [Act.put, List.setIfInBounds_toArray, List.set_cons_zero, List.set_cons_succ])
            refine rg_in 4 rfl (by kernel_rfl) (by kernel_rfl) (by kernel_rfl) (by rfl) (v := ?_) (fun _ _ _ h => h) hHeld (fun w hSw => ?_) ?_
            rotate_left
            · (try dsimp only at hSw); go_simp <;> (with_reducible rfl)
            (try simp only [Act.put, List.setIfInBounds_toArray, List.set_cons_zero, List.set_cons_succ])
            refine rg_in 5 rfl (by kernel_rfl) (by kernel_rfl) (by kernel_rfl) (by rfl) (v := ?_) (fun _ _ _ h => h) hHeld (fun w hSw => ?_) ?_
            rotate_left
            · (try dsimp only at hSw); go_simp <;> (with_reducible rfl)
            (try simp only [Act.put, List.setIfInBounds_toArray, List.set_cons_zero, List.set_cons_succ])
            refine rg_do 6 rfl (by kernel_rfl) (by rfl) (fun K hK => ?_)
            have hb2c := S_call hb3 (below_drewN (Below.refl W2.heap.size W2) 1) rfl
            have hbz := bel_next hb2 hb2c
            obtain ⟨⟨q0, q1, q2, q3, q4⟩, ⟨f0, f1, f2, f3, f4⟩⟩ := Hre.out.later hb2c
            go_simp
            refine hK.out _ _ ⟨hHeld.1.trans (vbelow_set5 (Below.refl _ _) hle1), VFive.keep hHeld.2 (set5_other _ _ _ _ _ _ _ _ hg6n)⟩ (fun hHeld => ?_)
            clear hK K
            (try simp only [Act.put, List.setIfInBounds_toArray, List.set_cons_zero, List.set_cons_succ])
            refine rg_in 7 rfl (by kernel_rfl) (by kernel_rfl) (by kernel_rfl) (by rfl) (v := ?_) (fun _ _ _ h => h) hHeld (fun w hSw => ?_) ?_
            rotate_left
            · (try dsimp only at hSw); go_simp <;> (with_reducible rfl)
            (try simp only [Act.put, List.setIfInBounds_toArray, List.set_cons_zero, List.set_cons_succ])
            refine wpAnyH_done (by kernel_rfl) ?_ _
            go_wp2
            refine bodyPost_ret (v := .tuple #[.agg #[.int .i64 kz, .int .i64 nz, .string sz, .slice cAz cnz ccz, .slice kAz knz kcz], .bool R.isSome]) ?_ rfl ⟨by rw [memR_orV, HZ.out]; rfl, vbelow_set5 hbz hle1⟩
            simp [results, Tryd.results23, go_sem, *]
        · have HQ := Lib.hid (fun W (h : Below w.heap.size w W) => HQ0.out (some ⟨b, off + 1, none⟩) HS.out W h)
          have hc2 : (1 : Int) < (c : Int) := by omega
          clear hlm hmc HQ0
          · skip
            refine wp_region_held_drew (S := fun W => Below w.heap.size w W ∧ VFive W g6 (.int .i64 kx) (.int .i64 nx) (.string sx) (.slice cAx cnx ccx) (.slice kAx knx kcx)) (by kernel_rfl) ⟨below_drewN hb2 1, HV6.out⟩ (fun hHeld => ?_)
            refine rg_in 0 rfl (by kernel_rfl) (by kernel_rfl) (by kernel_rfl) (by rfl) (v := ?_) (fun _ _ _ h => h) hHeld (fun w hSw => ?_) ?_
            rotate_left
            · (try dsimp only at hSw); go_simp <;> (with_reducible rfl)
            (try simp only [Act.put, List.setIfInBounds_toArray, List.set_cons_zero, List.set_cons_succ])
            refine rg_in 1 rfl (by kernel_rfl) (by kernel_rfl) (by kernel_rfl) (by rfl) (v := ?_) (fun _ _ _ h => h) hHeld (fun w hSw => ?_) ?_
            rotate_left
            · (try dsimp only at hSw); go_simp <;> (with_reducible rfl)
            (try simp only [Act.put, List.setIfInBounds_toArray, List.set_cons_zero, List.set_cons_succ])
            refine rg_in 2 rfl (by kernel_rfl) (by kernel_rfl) (by kernel_rfl) (by rfl) (v := ?_) (fun _ _ _ h => h) hHeld (fun w hSw => ?_) ?_
            rotate_left
            · (try dsimp only at hSw); go_simp <;> (with_reducible rfl)
            (try simp only [Act.put, List.setIfInBounds_toArray, List.set_cons_zero, List.set_cons_succ])
            refine rg_do 3 rfl (by kernel_rfl) (by rfl) (fun K hK => ?_)
            go_simp
            (go_at_call 23; (with_reducible refine (HQ.out _ hHeld.1).mono ?_); (rintro e w103 ⟨rfl, hb3⟩))
            refine hK.out _ _ ⟨S_call hb3 hHeld.1 rfl, hHeld.2.later hb3⟩ (fun hHeld => ?_)
            clear hK K
            (try simp only [Act.put, List.setIfInBounds_toArray, List.set_cons_zero, List.set_cons_succ])
            refine rg_in 4 rfl (by kernel_rfl) (by kernel_rfl) (by kernel_rfl) (by rfl) (v := ?_) (fun _ _ _ h => h) hHeld (fun w hSw => ?_) ?_
            rotate_left
            · (try dsimp only at hSw); go_simp <;> (with_reducible rfl)
            (try simp only [Act.put, List.setIfInBounds_toArray, List.set_cons_zero, List.set_cons_succ])
            refine rg_in 5 rfl (by kernel_rfl) (by kernel_rfl) (by kernel_rfl) (by rfl) (v := ?_) (fun _ _ _ h => h) hHeld (fun w hSw => ?_) ?_
            rotate_left
            · (try dsimp only at hSw); go_simp <;> (with_reducible rfl)
            (try simp only [Act.put, List.setIfInBounds_toArray, List.set_cons_zero, List.set_cons_succ])
            refine rg_do 6 rfl (by kernel_rfl) (by rfl) (fun K hK => ?_)
            have hb2c := S_call hb3 (below_drewN (Below.refl W2.heap.size W2) 1) rfl
            have hbz := bel_next hb2 hb2c
            obtain ⟨⟨q0, q1, q2, q3, q4⟩, ⟨f0, f1, f2, f3, f4⟩⟩ := Hre.out.later hb2c
            go_simp
            refine hK.out _ _ ⟨hHeld.1.trans (vbelow_set5 (Below.refl _ _) hle1), VFive.keep hHeld.2 (set5_other _ _ _ _ _ _ _ _ hg6n)⟩ (fun hHeld => ?_)
            clear hK K
            (try simp only [Act.put, List.setIfInBounds_toArray, List.set_cons_zero, List.set_cons_succ])
            refine rg_in 7 rfl (by kernel_rfl) (by kernel_rfl) (by kernel_rfl) (by rfl) (v := ?_) (fun _ _ _ h => h) hHeld (fun w hSw => ?_) ?_
            rotate_left
            · (try dsimp only at hSw); go_simp <;> (with_reducible rfl)
            (try simp only [Act.put, List.setIfInBounds_toArray, List.set_cons_zero, List.set_cons_succ])
            refine wpAnyH_done (by kernel_rfl) ?_ _
            go_wp2
            refine bodyPost_ret (v := .tuple #[.agg #[.int .i64 kz, .int .i64 nz, .string sz, .slice cAz cnz ccz, .slice kAz knz kcz], .bool R.isSome]) ?_ rfl ⟨by rw [memR_orV, HZ.out]; rfl, vbelow_set5 hbz hle1⟩
            simp [results, Tryd.results23, go_sem, *]
end Go.Proofs.YtnldiemggabdkaaDoor
/-
  Layer 4, the reference: Len.
-/
namespace Go.Proofs.YtnldiemggabdkaaDoor
open Go.RowKit
set_option linter.unusedVariables false

theorem lenR_low {k n : Int} {s : ByteArray} {cA : Option Addr} {cn cc : Nat} {kA : Option Addr} {kn kc : Nat} {keys : List ByteArray} {kids : List VT} (hok : (VT.mk k n s cA cn cc kA kn kc keys kids).ok = true) (hl : kids.length = cn) (h4 : ¬ k = 4) :
    lenR (.mk k n s cA cn cc kA kn kc keys kids) = .tuple #[.int .i64 (cn : Nat), .bool (decide (5 ≤ k))] := by
  have hf := fit_kind (ok_fit hok)
  unfold lenR
  rw [if_pos hok, if_neg (by exact h4)]
  by_cases h5 : 5 ≤ k
  · have e : ((VT.mk k n s cA cn cc kA kn kc keys kids).k == 5 || (VT.mk k n s cA cn cc kA kn kc keys kids).k == 6) = true := by
      show (k == 5 || k == 6) = true
      rcases (show k = 5 ∨ k = 6 by omega) with rfl | rfl <;> rfl
    rw [if_pos e, decide_eq_true h5]
    show Value.tuple #[.int .i64 (kids.length : Nat), .bool true] = _
    rw [hl]
  · have e : ¬ ((VT.mk k n s cA cn cc kA kn kc keys kids).k == 5 || (VT.mk k n s cA cn cc kA kn kc keys kids).k == 6) = true := by
      show ¬ (k == 5 || k == 6) = true
      simp
      omega
    rw [if_neg e, decide_eq_false h5, hf.2 (by omega)]
    rfl
set_option maxRecDepth 20000 in
set_option maxHeartbeats 4000000 in
theorem rlen_any (T : VT) (B : Nat) (w : World) (hL : Lie w B T) (hB : B ≤ w.heap.size) (hok : T.ok = true) (hS : Sml 1048576 T) :
    Calls Tryd.prog 26 #[T.agg] w fun e w' => e = .returned (lenR T) ∧ Below w.heap.size w w' := by
  obtain ⟨k, n, s, cA, cn, cc, kA, kn, kc, keys, kids⟩ := T
  cases hL with | mk hkc hkk hkz hkid =>
  cases hS with | mk hs hks hsk =>
  have hlc := kids_len hkc
  have hb1 := bel_alloc (Below.refl w.heap.size w) (.cells #[.int .i64 k, .int .i64 n, .string s, .slice cA cn cc, .slice kA kn kc] 25)
  have Hv := Lib.hid (VFive.new w (.int .i64 k) (.int .i64 n) (.string s) (.slice cA cn cc) (.slice kA kn kc) 25 w.heap.size rfl)
  simp only [VT.agg]
  by_cases h4 : k = 4
  · subst h4
    have ht := ok_text hok
    have HF := Lib.hid (show lenR (.mk 4 n s cA cn cc kA kn kc keys kids) = .tuple #[.int .i64 ((nats (ptsL s.data.toList).1).length : Nat), .bool true] by unfold lenR; rw [if_pos hok]; rfl)
    have hsc := fun W => string_bytes (P := Tryd.prog) Tryd.underlying9 Tryd.underlying67 Tryd.underlying5 s s.data.toList rfl (by unfold maxLen; omega) W
    have hsz : s.data.toList.length = s.size := by rw [Array.length_toList]; rfl
    clear hkc hkk hkz hkid hks hsk hlc hok
    go_enter Tryd.func26, Tryd.ntmps26
    go_upto_region 2 with fail
    generalize (w.alloc (.cells #[.int .i64 4, .int .i64 n, .string s, .slice cA cn cc, .slice kA kn kc] 25)) = W1 at *
    obtain ⟨c, w1, hrun, hby, h1, h2, hb2⟩ := hsc W1
    have hp := refPoints_any _ _ c _ s.data.toList w1 hby (Nat.le_refl _) (by omega) h1 h2
    have hb3 := bel_next hb1 hb2
    obtain ⟨⟨v0, v1, v2, v3, v4⟩, -⟩ := Hv.out
    clear hby h1 h2 hsz hsc
    unfold GivesPts at hp
    rw [if_pos ht] at hp
    simp only [if_pos ht] at hp
    clear ht
    go_wp2_with fail
    refine hp.mono ?_
    rintro e w2 ⟨A, m, c2, hown, hb4, rfl⟩
    have hlen := hown.1
    simp only [List.length_map, Nat.mul_one] at hlen
    have HF2 := Lib.hid (show lenR (.mk 4 n s cA cn cc kA kn kc keys kids) = .tuple #[.int .i64 (m : Nat), .bool true] by rw [HF.out, hlen])
    clear hown hlen hp hrun HF
    go_wp2
    go_ret2
    exact ⟨by rw [HF2.out]; rfl, bel_next hb3 hb4⟩
  · have HF := Lib.hid (lenR_low hok hlc h4)
    have e4 : (k == 4) = false := by rw [beq_eq_false_iff_ne]; exact h4
    clear hkc hkk hkz hkid hks hsk hlc hok h4 hs
    go_enter Tryd.func26, Tryd.ntmps26
    go_upto_region 4 with fail
    generalize (w.alloc (.cells #[.int .i64 k, .int .i64 n, .string s, .slice cA cn cc, .slice kA kn kc] 25)) = W1 at *
    have v0 : ∀ W, Below W1.heap.size W1 W → W.cell? ⟨w.heap.size, 0, none⟩ = some (.int .i64 k) := fun W h => (Hv.out.later h).1.1
    have v3 : ∀ W, Below W1.heap.size W1 W → W.cell? ⟨w.heap.size, 3, none⟩ = some (.slice cA cn cc) := fun W h => (Hv.out.later h).1.2.2.2.1
    refine wp_region_held_drew (S := fun W => Below W1.heap.size W1 W) (by kernel_rfl) (below_drewN (Below.refl _ _) 1) (fun hHeld => ?_)
    refine rg_in 0 rfl (by kernel_rfl) (by kernel_rfl) (by kernel_rfl) (by rfl) (v := ?_) (fun _ _ _ h => h) hHeld (fun w hSw => ?_) ?_
    rotate_left
    · (try dsimp only at hSw); go_simp <;> (with_reducible rfl)
    (try simp only [Act.put, List.setIfInBounds_toArray, List.set_cons_zero, List.set_cons_succ])
    refine rg_in 1 rfl (by kernel_rfl) (by kernel_rfl) (by kernel_rfl) (by rfl) (v := ?_) (fun _ _ _ h => h) hHeld (fun w hSw => ?_) ?_
    rotate_left
    · (try dsimp only at hSw); go_simp <;> (with_reducible rfl)
    (try simp only [Act.put, List.setIfInBounds_toArray, List.set_cons_zero, List.set_cons_succ])
    refine rg_in 2 rfl (by kernel_rfl) (by kernel_rfl) (by kernel_rfl) (by rfl) (v := ?_) (fun _ _ _ h => h) hHeld (fun w hSw => ?_) ?_
    rotate_left
    · (try dsimp only at hSw); go_simp <;> (with_reducible rfl)
    (try simp only [Act.put, List.setIfInBounds_toArray, List.set_cons_zero, List.set_cons_succ])
    refine rg_in 3 rfl (by kernel_rfl) (by kernel_rfl) (by kernel_rfl) (by rfl) (v := ?_) (fun _ _ _ h => h) hHeld (fun w hSw => ?_) ?_
    rotate_left
    · (try dsimp only at hSw); go_simp <;> (with_reducible rfl)
    (try simp only [Act.put, List.setIfInBounds_toArray, List.set_cons_zero, List.set_cons_succ])
    refine rg_in 4 rfl (by kernel_rfl) (by kernel_rfl) (by kernel_rfl) (by rfl) (v := ?_) (fun _ _ _ h => h) hHeld (fun w hSw => ?_) ?_
    rotate_left
    · (try dsimp only at hSw); go_simp <;> (with_reducible rfl)
    (try simp only [Act.put, List.setIfInBounds_toArray, List.set_cons_zero, List.set_cons_succ])
    refine rg_in 5 rfl (by kernel_rfl) (by kernel_rfl) (by kernel_rfl) (by rfl) (v := ?_) (fun _ _ _ h => h) hHeld (fun w hSw => ?_) ?_
    rotate_left
    · (try dsimp only at hSw); go_simp <;> (with_reducible rfl)
    (try simp only [Act.put, List.setIfInBounds_toArray, List.set_cons_zero, List.set_cons_succ])
    refine rg_in 6 rfl (by kernel_rfl) (by kernel_rfl) (by kernel_rfl) (by rfl) (v := ?_) (fun _ _ _ h => h) hHeld (fun w hSw => ?_) ?_
    rotate_left
    · (try dsimp only at hSw); go_simp <;> (with_reducible rfl)
    (try simp only [Act.put, List.setIfInBounds_toArray, List.set_cons_zero, List.set_cons_succ])
    refine rg_in 7 rfl (by kernel_rfl) (by kernel_rfl) (by kernel_rfl) (by rfl) (v := ?_) (fun _ _ _ h => h) hHeld (fun w hSw => ?_) ?_
    rotate_left
    · (try dsimp only at hSw); go_simp <;> (with_reducible rfl)
    (try simp only [Act.put, List.setIfInBounds_toArray, List.set_cons_zero, List.set_cons_succ])
    refine wpAnyH_done (by kernel_rfl) ?_ _
    go_wp2
    go_ret2
    exact ⟨by rw [HF.out]; rfl, bel_next hb1 hHeld⟩
end Go.Proofs.YtnldiemggabdkaaDoor
