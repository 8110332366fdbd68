import Derived.Test.YtndolgbbochpjaaDoorGan
import Derived.Test.YtndolgbbochpjaaDoorGai
import Derived.Test.YtndolgbbochpjaaDoorGam
import Derived.Deep.CutBlock
import Derived.Deep.DeepMust
import Derived.Test.YtndolgbbochpjaaDoorGaf
/-
  Layer 4, the reference: Same.
-/
namespace Go.Proofs.YtndolgbbochpjaaDoor
open Go.RowKit
set_option linter.unusedVariables false

theorem sameR_comm (T T' : VT) : sameR T' T = sameR T T' := by
  unfold sameR
  have : sameV T' T = sameV T T' := by
    rw [Bool.eq_iff_iff, sameV_iff, sameV_iff]
    exact ⟨fun h => h.symm, fun h => h.symm⟩
  rw [this]
  cases T.ok <;> cases T'.ok <;> rfl
theorem sameR_refl (T : VT) : sameR T T = T.ok := by
  cases h : T.ok with
  | true => exact sameR_self T h
  | false => unfold sameR; rw [h]; rfl
theorem ok_all {T : VT} (h : T.ok = true) : T.all = true := by unfold VT.ok at h; simp only [Bool.and_eq_true] at h; exact h.2.2
set_option maxRecDepth 20000 in
set_option maxHeartbeats 4000000 in
theorem rsame_any (T T' : VT) (B : Nat) (w : World) (hL : Lie w B T) (hL' : Lie w B T') (hS : Sml 1048576 T) (hS' : Sml 1048576 T') (hB : B ≤ w.heap.size) :
    Calls Tryd.prog 23 #[T.agg, T'.agg] w fun e w' => e = .returned (.bool (sameR T T')) ∧ Below w.heap.size w w' := by
  have HR := Lib.hid (fun W (h : Below w.heap.size w W) => right_any T B W (hL.later (h.mono hB)) hS (Nat.le_trans hB h.size))
  have HR' := Lib.hid (fun W (h : Below w.heap.size w W) => right_any T' B W (hL'.later (h.mono hB)) hS' (Nat.le_trans hB h.size))
  have HO := Lib.hid (fun (h1 : T.ok = true) (h2 : T'.ok = true) W (h : Below w.heap.size w W) => rone_any T T' B W (hL.later (h.mono hB)) (hL'.later (h.mono hB)) (Nat.le_trans hB h.size) (ok_all h1) (ok_all h2))
  have HF := Lib.hid (show sameR T T' = (T.ok && (T'.ok && sameV T T')) by unfold sameR; cases T.ok <;> cases T'.ok <;> rfl)
  generalize sameV T T' = sv at *
  generalize sameR T T' = sr at *
  cases ok1 : T.ok
  · rw [ok1] at HR
    have HG := Lib.hid (show sr = false by rw [HF.out, ok1]; rfl)
    clear HO HF HR' hL hL' hS hS' ok1
    obtain ⟨k, n, s, cA, cn, cc, kA, kn, kc, keys, kids⟩ := T
    obtain ⟨k', n', s', cA', cn', cc', kA', kn', kc', keys', kids'⟩ := T'
    simp only [VT.agg] at HR ⊢
    have hb1 := bel_alloc (bel_alloc (Below.refl w.heap.size w) (.cells #[.int .i64 k, .int .i64 n, .string s, .slice cA cn cc, .slice kA kn kc] 25)) (.cells #[.int .i64 k', .int .i64 n', .string s', .slice cA' cn' cc', .slice kA' kn' kc'] 25)
    go_enter Tryd.func23, Tryd.ntmps23
    go_wp2_with fail
    refine (HR.out _ hb1).mono ?_
    rintro e w1 ⟨rfl, hb2⟩
    go_wp2
    go_ret
    exact ⟨vret_b (by rw [HG.out]), bel_next hb1 hb2⟩
  · rw [ok1] at HR
    cases ok2 : T'.ok
    · rw [ok2] at HR'
      have HG := Lib.hid (show sr = false by rw [HF.out, ok1, ok2]; rfl)
      clear HO HF hL hL' hS hS' ok1 ok2
      obtain ⟨k, n, s, cA, cn, cc, kA, kn, kc, keys, kids⟩ := T
      obtain ⟨k', n', s', cA', cn', cc', kA', kn', kc', keys', kids'⟩ := T'
      simp only [VT.agg] at HR HR' ⊢
      have hb1 := bel_alloc (bel_alloc (Below.refl w.heap.size w) (.cells #[.int .i64 k, .int .i64 n, .string s, .slice cA cn cc, .slice kA kn kc] 25)) (.cells #[.int .i64 k', .int .i64 n', .string s', .slice cA' cn' cc', .slice kA' kn' kc'] 25)
      have Hu := Lib.hid (VFive.new (w.alloc (.cells #[.int .i64 k, .int .i64 n, .string s, .slice cA cn cc, .slice kA kn kc] 25)) (.int .i64 k') (.int .i64 n') (.string s') (.slice cA' cn' cc') (.slice kA' kn' kc') 25 (w.heap.size + 1) (World.size_alloc _ _))
      go_enter Tryd.func23, Tryd.ntmps23
      go_wp2_with fail
      refine (HR.out _ hb1).mono ?_
      rintro e w1 ⟨rfl, hb2⟩
      obtain ⟨⟨y0, y1, y2, y3, y4⟩, -⟩ := Hu.out.later hb2
      have hb3 := bel_next hb1 hb2
      go_wp2_with fail
      refine (HR'.out _ hb3).mono ?_
      rintro e w2 ⟨rfl, hb4⟩
      go_wp2
      go_ret
      exact ⟨vret_b (by rw [HG.out]), bel_next hb3 hb4⟩
    · rw [ok2] at HR'
      have HG := Lib.hid (show sr = sv by rw [HF.out, ok1, ok2]; rfl)
      have HO := Lib.hid (HO.out ok1 ok2)
      clear HF hL hL' hS hS' ok1 ok2
      obtain ⟨k, n, s, cA, cn, cc, kA, kn, kc, keys, kids⟩ := T
      obtain ⟨k', n', s', cA', cn', cc', kA', kn', kc', keys', kids'⟩ := T'
      simp only [VT.agg] at HR HR' HO ⊢
      have hb1 := bel_alloc (bel_alloc (Below.refl w.heap.size w) (.cells #[.int .i64 k, .int .i64 n, .string s, .slice cA cn cc, .slice kA kn kc] 25)) (.cells #[.int .i64 k', .int .i64 n', .string s', .slice cA' cn' cc', .slice kA' kn' kc'] 25)
      have Hv := Lib.hid ((VFive.new w (.int .i64 k) (.int .i64 n) (.string s) (.slice cA cn cc) (.slice kA kn kc) 25 w.heap.size rfl).alloc (.cells #[.int .i64 k', .int .i64 n', .string s', .slice cA' cn' cc', .slice kA' kn' kc'] 25))
      have Hu := Lib.hid (VFive.new (w.alloc (.cells #[.int .i64 k, .int .i64 n, .string s, .slice cA cn cc, .slice kA kn kc] 25)) (.int .i64 k') (.int .i64 n') (.string s') (.slice cA' cn' cc') (.slice kA' kn' kc') 25 (w.heap.size + 1) (World.size_alloc _ _))
      go_enter Tryd.func23, Tryd.ntmps23
      go_wp2_with fail
      refine (HR.out _ hb1).mono ?_
      rintro e w1 ⟨rfl, hb2⟩
      obtain ⟨⟨y0, y1, y2, y3, y4⟩, -⟩ := Hu.out.later hb2
      have hb3 := bel_next hb1 hb2
      go_wp2_with fail
      refine (HR'.out _ hb3).mono ?_
      rintro e w2 ⟨rfl, hb4⟩
      have hb5 := bel_next hb3 hb4
      clear y0 y1 y2 y3 y4
      obtain ⟨⟨y0, y1, y2, y3, y4⟩, -⟩ := (Hu.out.later hb2).later hb4
      obtain ⟨⟨z0, z1, z2, z3, z4⟩, -⟩ := (Hv.out.later hb2).later hb4
      go_wp2_with fail
      refine (HO.out _ hb5).mono ?_
      rintro e w3 ⟨rfl, hb6⟩
      go_wp2
      go_ret
      exact ⟨vret_b (by rw [HG.out]), bel_next hb5 hb6⟩
end Go.Proofs.YtndolgbbochpjaaDoor
/-
  Layer 7: the reference's Sort; the law's own same.
-/
namespace Go.Proofs.YtndolgbbochpjaaDoor
open Go.RowKit
set_option linter.unusedVariables false

theorem rise_get {L : List VT} (h : Rise L) {i j : Nat} (hij : i ≤ j) (hj : j < L.length) : cmpV (L[i]'(by omega)) L[j] ≤ 0 := by
  by_cases he : i = j
  · subst he; rw [cmpV_is.self]; exact Int.le_refl _
  · exact (List.pairwise_iff_getElem.1 h) i j (by omega) hj (by omega)
/-- Two rows in order of the same values: place by place the same. -/
theorem rise_two {L M : List VT} (hL : Rise L) (hM : Rise M) (hp : L.Perm M) (i : Nat) (hi : i < L.length) (hi' : i < M.length) : cmpV M[i] L[i] = 0 := by
  obtain ⟨h1, h2, -⟩ := stand_pure hL (List.getElem?_eq_getElem hi)
  have e1 : befN L[i] L = befN L[i] M := hp.countP_eq _
  have e2 : uptN L[i] L = uptN L[i] M := hp.countP_eq _
  rw [e1] at h1
  rw [e2] at h2
  generalize L[i] = v at *
  rcases cmpV_is.ones M[i] v with h | h | h
  · exfalso
    have : i + 1 ≤ befN v M := by
      unfold befN
      have e : M.countP (fun x => decide (cmpV x v < 0)) = (M.take (i + 1)).countP (fun x => decide (cmpV x v < 0)) + (M.drop (i + 1)).countP (fun x => decide (cmpV x v < 0)) := by rw [← List.countP_append, List.take_append_drop]
      have e2 : (M.take (i + 1)).countP (fun x => decide (cmpV x v < 0)) = (M.take (i + 1)).length := by
        rw [List.countP_eq_length]
        intro x hx
        obtain ⟨j, hj, rfl⟩ := List.getElem_of_mem hx
        simp only [List.getElem_take, decide_eq_true_eq]
        have hji : j ≤ i := by simp at hj; omega
        have h3 := rise_get hM hji hi'
        have h4 := (cmpV_is.tr M[j] M[i] v h3 (by omega))
        rcases cmpV_is.ones M[j] v with h5 | h5 | h5
        · omega
        · have := (h4.2 h5).2; omega
        · omega
      have e3 : (M.take (i + 1)).length = i + 1 := by simp; omega
      omega
    omega
  · exact h
  · exfalso
    have : uptN v M ≤ i := by
      unfold uptN
      have e : M.countP (fun x => decide (cmpV x v ≤ 0)) = (M.take i).countP (fun x => decide (cmpV x v ≤ 0)) + (M.drop i).countP (fun x => decide (cmpV x v ≤ 0)) := by rw [← List.countP_append, List.take_append_drop]
      have e2 : (M.drop i).countP (fun x => decide (cmpV x v ≤ 0)) = 0 := by
        rw [List.countP_eq_zero]
        intro x hx
        obtain ⟨j, hj, rfl⟩ := List.getElem_of_mem hx
        simp only [List.getElem_drop, decide_eq_true_eq]
        have hjl : i + j < M.length := by simp at hj; omega
        have h3 := rise_get hM (Nat.le_add_right i j) hjl
        have ht := cmpV_is.turn M[i] v
        have ht2 := cmpV_is.turn M[i + j] v
        intro hle
        have h4 := (cmpV_is.tr M[i] M[i + j] v h3 hle).1
        omega
      have e3 : (M.take i).countP (fun x => decide (cmpV x v ≤ 0)) ≤ i := Nat.le_trans List.countP_le_length (by simp; omega)
      omega
    omega
/-- What is the same place by place as a row in order is in order. -/
theorem rise_like {L M : List VT} (hM : Rise M) (hl : L.length = M.length) (h : ∀ i (h1 : i < L.length) (h2 : i < M.length), cmpV L[i] M[i] = 0) : Rise L := by
  refine rise_adj L fun t ht => ?_
  have h1 := h t (by omega) (by omega)
  have h2 := h (t + 1) ht (by omega)
  have h3 := rise_get hM (Nat.le_succ t) (show t + 1 < M.length by omega)
  have h4 := (cmpV_is.tr _ _ _ (show cmpV L[t] M[t] ≤ 0 by omega) h3).1
  have h5 := cmpV_is.turn L[t + 1] M[t + 1]
  exact (cmpV_is.tr _ _ _ h4 (show cmpV M[t + 1] L[t + 1] ≤ 0 by omega)).1
/-- One more, put behind all that are not behind it. -/
theorem rise_put {S : List VT} {x : VT} {a : Nat} (h : Rise S) (ha : a ≤ S.length) (h1 : ∀ t (ht : t < S.length), a ≤ t → cmpV x S[t] < 0) (h2 : ∀ (h0 : 0 < a), ¬ cmpV x (S[a - 1]'(by omega)) < 0) : Rise (S.take a ++ x :: S.drop a) := by
  unfold Rise
  rw [List.pairwise_append, List.pairwise_cons]
  have hsub := h
  unfold Rise at hsub
  refine ⟨hsub.sublist (List.take_sublist _ _), ⟨fun y hy => ?_, hsub.sublist (List.drop_sublist _ _)⟩, fun y hy z hz => ?_⟩
  · obtain ⟨j, hj, rfl⟩ := List.getElem_of_mem hy
    simp only [List.getElem_drop]
    have := h1 (a + j) (by simp at hj; omega) (by omega)
    omega
  · obtain ⟨i, hi, rfl⟩ := List.getElem_of_mem hy
    simp only [List.getElem_take]
    have hia : i < a := by simp at hi; omega
    have h3 := rise_get h (show i ≤ a - 1 by omega) (show a - 1 < S.length by omega)
    have h4 := h2 (by omega)
    have ht := cmpV_is.turn x (S[a - 1]'(by omega))
    have hix := (cmpV_is.tr S[i] (S[a - 1]'(by omega)) x h3 (by omega)).1
    rcases List.mem_cons.1 hz with rfl | hz
    · exact hix
    · obtain ⟨j, hj, rfl⟩ := List.getElem_of_mem hz
      simp only [List.getElem_drop]
      have := h1 (a + j) (by simp at hj; omega) (by omega)
      exact (cmpV_is.tr S[i] x _ hix (by omega)).1
theorem perm_put {S : List VT} {x : VT} {a : Nat} : (S.take a ++ x :: S.drop a).Perm (x :: S) := by
  have h : (S.take a ++ x :: S.drop a).Perm (x :: (S.take a ++ S.drop a)) := List.perm_middle
  rwa [List.take_append_drop] at h
theorem kid_cellsB {w w1 : World} {B : Nat} {A : Option Addr} {n i : Nat} {l : List VT} {x : VT} (h : Shows w B 5 A n (l.flatMap VT.cells)) (hb : Below w.heap.size w w1) (hB : B ≤ w.heap.size) (hx : l[i]? = some x) :
    ∃ b off, A = some ⟨b, off, none⟩ ∧ ∀ W, Below w1.heap.size w1 W → Cell5 W b (off + i * 5) x := by
  have hi : i < n := by rw [← kids_len h]; exact (List.getElem?_eq_some_iff.1 hx).1
  obtain ⟨b, off, y, rfl, _, hy, _⟩ := kids_at h hi
  refine ⟨b, off, rfl, fun W hW => ?_⟩
  obtain ⟨b2, o2, x2, e, _, hx2, h5⟩ := kids_at (h.below ((bel_next hb hW).mono hB)) hi
  injection e with e
  injection e with e1 e2
  subst e1; subst e2
  rw [hx] at hx2
  injection hx2 with hx2
  subst hx2
  exact h5
/-- Says whether two rows are the same, place by place. -/
def SamB (L M : List VT) (w : World) (e : Ending) (w' : World) : Prop := ∃ b, e = .returned (.bool b) ∧ (b = true ↔ ∀ (i : Nat) x y, L[i]? = some x → M[i]? = some y → sameR x y = true) ∧ Below w.heap.size w w'
theorem samB_mk {L M : List VT} {w : World} {w' : World} (b : Bool) {v : Value} (hv : v = .bool b) (h : b = true ↔ ∀ (i : Nat) x y, L[i]? = some x → M[i]? = some y → sameR x y = true) (hf : Below w.heap.size w w') : SamB L M w (.returned v) w' := ⟨b, by rw [hv], h, hf⟩
set_option maxRecDepth 20000 in
set_option maxHeartbeats 2000000 in
theorem sameL_any (A A' : Option Addr) (n c c' B : Nat) (L M : List VT) (w : World) (h : Shows w B 5 A n (L.flatMap VT.cells)) (h' : Shows w B 5 A' n (M.flatMap VT.cells)) (hL : ∀ x ∈ L, Lie w B x ∧ Sml 1048576 x) (hM : ∀ x ∈ M, Lie w B x ∧ Sml 1048576 x) (hB : B ≤ w.heap.size) (hn : n ≤ 1000) :
    Calls Tryd.prog 18 #[.slice A n c, .slice A' n c'] w fun e w' => SamB L M w e w' := by
  have hl1 := kids_len h
  have hl2 := kids_len h'
  have HS := Lib.hid h
  have HS' := Lib.hid h'
  have Hsm := Lib.hid (fun x (hx : x ∈ L) y (hy : y ∈ M) W (hb : Below w.heap.size w W) => rsame_any x y B W ((hL x hx).1.later (hb.mono hB)) ((hM y hy).1.later (hb.mono hB)) (hL x hx).2 (hM y hy).2 (Nat.le_trans hB hb.size))
  have Hl1 := Lib.hid hl1
  have Hl2 := Lib.hid hl2
  clear h h' hL hM hl1 hl2
  go_enter Tryd.func18, Tryd.ntmps18
  go_wp2
  go_loopw [13] (fun i wr => ∃ j : Nat, j ≤ n ∧ i = .int .i64 j ∧ Hid (∀ (i : Nat) x y, i < j → L[i]? = some x → M[i]? = some y → sameR x y = true) ∧ Below w.heap.size w wr) (fun i _ => n - (intOf i).toNat)
  case atStart => exact ⟨0, Nat.zero_le _, rfl, Lib.hid (fun i x y hi => by omega), Below.refl _ _⟩
  case round =>
    obtain ⟨j, hj, rfl, HJ, hbr⟩ := hrel
    by_cases hlt : j < n
    · have hlt' : (j : Int) < (n : Int) := by omega
      have hj0 : (0 : Int) ≤ (j : Int) := by omega
      have hx := List.getElem?_eq_getElem (l := L) (i := j) (by have := Hl1.out; omega)
      have hy := List.getElem?_eq_getElem (l := M) (i := j) (by have := Hl2.out; omega)
      generalize L[j]'_ = x at hx
      generalize M[j]'_ = y at hy
      obtain ⟨b, off, hA1, hx5⟩ := kid_cellsB HS.out hbr hB hx
      obtain ⟨b', off', hA2, hy5⟩ := kid_cellsB HS'.out hbr hB hy
      subst hA1
      subst hA2
      have hs0 := Hsm.out x (List.mem_of_getElem? hx) y (List.mem_of_getElem? hy)
      have Hs1 := Lib.hid (fun W (h : Below wr.heap.size wr W) => hs0 W (bel_next hbr h))
      have Hyes := Lib.hid (fun hs : sameR x y = true => (show Hid (∀ (i : Nat) x y, i < j + 1 → L[i]? = some x → M[i]? = some y → sameR x y = true) from Lib.hid fun i x' y' hi h1 h2 => by
        by_cases hij : i = j
        · subst hij
          rw [hx] at h1; rw [hy] at h2
          injection h1 with h1; injection h2 with h2
          rw [← h1, ← h2]; exact hs
        · exact HJ.out i x' y' (by omega) h1 h2))
      have Hno := Lib.hid (fun hs : sameR x y = false => (show ¬ ∀ (i : Nat) x y, L[i]? = some x → M[i]? = some y → sameR x y = true from fun h => by
        have := h j x y hx hy
        rw [hs] at this; cases this))
      clear hx hy hs0 HJ
      generalize sameR x y = sb at *
      obtain ⟨kx, nx, sx, cAx, cnx, ccx, kAx, knx, kcx, keysx, kidsx⟩ := x
      obtain ⟨ky, ny, sy, cAy, cny, ccy, kAy, kny, kcy, keysy, kidsy⟩ := y
      have Hs2 := Hs1
      simp only [VT.agg] at Hs2
      clear Hs1
      have x0 : ∀ W, Below wr.heap.size wr W → W.cell? ⟨b, off + j * 5, none⟩ = some (.int .i64 kx) := fun W h => (hx5 W h).1
      have x1 : ∀ W, Below wr.heap.size wr W → W.cell? ⟨b, off + j * 5 + 1, none⟩ = some (.int .i64 nx) := fun W h => (hx5 W h).2.1
      have x2 : ∀ W, Below wr.heap.size wr W → W.cell? ⟨b, off + j * 5 + 2, none⟩ = some (.string sx) := fun W h => (hx5 W h).2.2.1
      have x3 : ∀ W, Below wr.heap.size wr W → W.cell? ⟨b, off + j * 5 + 3, none⟩ = some (.slice cAx cnx ccx) := fun W h => (hx5 W h).2.2.2.1
      have x4 : ∀ W, Below wr.heap.size wr W → W.cell? ⟨b, off + j * 5 + 4, none⟩ = some (.slice kAx knx kcx) := fun W h => (hx5 W h).2.2.2.2
      have y0 : ∀ W, Below wr.heap.size wr W → W.cell? ⟨b', off' + j * 5, none⟩ = some (.int .i64 ky) := fun W h => (hy5 W h).1
      have y1 : ∀ W, Below wr.heap.size wr W → W.cell? ⟨b', off' + j * 5 + 1, none⟩ = some (.int .i64 ny) := fun W h => (hy5 W h).2.1
      have y2 : ∀ W, Below wr.heap.size wr W → W.cell? ⟨b', off' + j * 5 + 2, none⟩ = some (.string sy) := fun W h => (hy5 W h).2.2.1
      have y3 : ∀ W, Below wr.heap.size wr W → W.cell? ⟨b', off' + j * 5 + 3, none⟩ = some (.slice cAy cny ccy) := fun W h => (hy5 W h).2.2.2.1
      have y4 : ∀ W, Below wr.heap.size wr W → W.cell? ⟨b', off' + j * 5 + 4, none⟩ = some (.slice kAy kny kcy) := fun W h => (hy5 W h).2.2.2.2
      clear hx5 hy5
      go_upto_region 6 with fail
      refine wp_region_held_drew (S := fun W => Below wr.heap.size wr W) (by kernel_rfl) (below_drewN (Below.refl _ _) 1) (fun hHeld => ?_)
      refine rg_in 0 rfl (by kernel_rfl) (by kernel_rfl) (by kernel_rfl) (by rfl) (v := ?_) (fun _ _ _ h => h) hHeld (fun w hSw => ?_) ?_
      rotate_left
      · (try dsimp only at hSw); go_simp <;> (with_reducible rfl)
      (try simp only [Act.put, List.setIfInBounds_toArray, List.set_cons_zero, List.set_cons_succ])
      refine rg_in 1 rfl (by kernel_rfl) (by kernel_rfl) (by kernel_rfl) (by rfl) (v := ?_) (fun _ _ _ h => h) hHeld (fun w hSw => ?_) ?_
      rotate_left
      · (try dsimp only at hSw); go_simp <;> (with_reducible rfl)
      (try simp only [Act.put, List.setIfInBounds_toArray, List.set_cons_zero, List.set_cons_succ])
      refine rg_in 2 rfl (by kernel_rfl) (by kernel_rfl) (by kernel_rfl) (by rfl) (v := ?_) (fun _ _ _ h => h) hHeld (fun w hSw => ?_) ?_
      rotate_left
      · (try dsimp only at hSw); go_simp <;> (with_reducible rfl)
      (try simp only [Act.put, List.setIfInBounds_toArray, List.set_cons_zero, List.set_cons_succ])
      refine rg_in 3 rfl (by kernel_rfl) (by kernel_rfl) (by kernel_rfl) (by rfl) (v := ?_) (fun _ _ _ h => h) hHeld (fun w hSw => ?_) ?_
      rotate_left
      · (try dsimp only at hSw); go_simp <;> (with_reducible rfl)
      (try simp only [Act.put, List.setIfInBounds_toArray, List.set_cons_zero, List.set_cons_succ])
      refine rg_in 4 rfl (by kernel_rfl) (by kernel_rfl) (by kernel_rfl) (by rfl) (v := ?_) (fun _ _ _ h => h) hHeld (fun w hSw => ?_) ?_
      rotate_left
      · (try dsimp only at hSw); go_simp <;> (with_reducible rfl)
      (try simp only [Act.put, List.setIfInBounds_toArray, List.set_cons_zero, List.set_cons_succ])
      refine rg_in 5 rfl (by kernel_rfl) (by kernel_rfl) (by kernel_rfl) (by rfl) (v := ?_) (fun _ _ _ h => h) hHeld (fun w hSw => ?_) ?_
      rotate_left
      · (try dsimp only at hSw); go_simp <;> (with_reducible rfl)
      (try simp only [Act.put, List.setIfInBounds_toArray, List.set_cons_zero, List.set_cons_succ])
      refine rg_in 6 rfl (by kernel_rfl) (by kernel_rfl) (by kernel_rfl) (by rfl) (v := ?_) (fun _ _ _ h => h) hHeld (fun w hSw => ?_) ?_
      rotate_left
      · (try dsimp only at hSw); go_simp <;> (with_reducible rfl)
      (try simp only [Act.put, List.setIfInBounds_toArray, List.set_cons_zero, List.set_cons_succ])
      refine rg_in 7 rfl (by kernel_rfl) (by kernel_rfl) (by kernel_rfl) (by rfl) (v := ?_) (fun _ _ _ h => h) hHeld (fun w hSw => ?_) ?_
      rotate_left
      · (try dsimp only at hSw); go_simp <;> (with_reducible rfl)
      (try simp only [Act.put, List.setIfInBounds_toArray, List.set_cons_zero, List.set_cons_succ])
      refine rg_do 8 rfl (by kernel_rfl) (by rfl) (fun K hK => ?_)
      go_simp
      (go_at_call 23; (with_reducible refine (Hs2.out _ hHeld).mono ?_); (rintro e w108 ⟨rfl, hb8⟩))
      refine hK.out _ _ (S_call hb8 hHeld rfl) (fun hHeld => ?_)
      clear hK K
      (try simp only [Act.put, List.setIfInBounds_toArray, List.set_cons_zero, List.set_cons_succ])
      refine rg_in 9 rfl (by kernel_rfl) (by kernel_rfl) (by kernel_rfl) (by rfl) (v := ?_) (fun _ _ _ h => h) hHeld (fun w hSw => ?_) ?_
      rotate_left
      · (try dsimp only at hSw); go_simp <;> (with_reducible rfl)
      (try simp only [Act.put, List.setIfInBounds_toArray, List.set_cons_zero, List.set_cons_succ])
      refine wpAnyH_done (by kernel_rfl) ?_ _
      cases sb
      · have Hn := Lib.hid (Hno.out rfl)
        clear Hyes Hno
        go_wp2
        go_ret
        exact samB_mk false rfl ⟨fun h => (by cases h), fun h => (Hn.out h).elim⟩ (bel_next hbr hHeld)
      · have Hy := Hyes.out rfl
        clear Hyes Hno
        go_wp2
        go_roundw
        case rel => exact ⟨j + 1, by omega, by go_num, Hy, bel_next hbr hHeld⟩
        case measure => simp [intOf]; omega
    · obtain rfl : j = n := by omega
      have Hy := Lib.hid (show ∀ (i : Nat) x y, L[i]? = some x → M[i]? = some y → sameR x y = true from fun i x y h1 h2 => HJ.out i x y (by have := (List.getElem?_eq_some_iff.1 h1).1; have := Hl1.out; omega) h1 h2)
      clear HJ
      go_wp2
      go_ret
      exact samB_mk true rfl ⟨fun _ => Hy.out, fun _ => rfl⟩ hbr
theorem flat_drop5 : ∀ (l : List VT) (m : Nat), (l.flatMap VT.cells).drop (m * 5) = (l.drop m).flatMap VT.cells
  | [], m => by simp
  | x :: l, 0 => by simp
  | x :: l, m + 1 => by
    have h := flat_drop5 l m
    have e : (m + 1) * 5 = m * 5 + 5 := by omega
    cases x
    simp only [List.flatMap_cons, VT.cells, List.drop_succ_cons, e, List.cons_append, List.nil_append]
    exact h
theorem put_fin {L S : List VT} {x : VT} {a j : Nat} (hx : L[j]? = some x) (hp : S.Perm (L.take j) ∧ Rise S) (ha : a ≤ S.length) (h1 : ∀ t y, a ≤ t → S[t]? = some y → cmpV x y < 0) (h2 : ∀ y, 0 < a → S[a - 1]? = some y → ¬ cmpV x y < 0) :
    (S.take a ++ x :: S.drop a).Perm (L.take (j + 1)) ∧ Rise (S.take a ++ x :: S.drop a) := by
  refine ⟨?_, rise_put hp.2 ha (fun t ht hat => h1 t _ hat (List.getElem?_eq_getElem ht)) (fun h0 => h2 _ h0 (List.getElem?_eq_getElem (by omega)))⟩
  have e : L.take (j + 1) = L.take j ++ [x] := by rw [List.take_add_one, hx]; rfl
  rw [e]
  exact perm_put.trans ((List.Perm.cons x hp.1).trans (List.perm_append_singleton x _).symm)
/-- The part of a row from a place on, as Go cuts it. -/
theorem cut5 {w : World} {B : Nat} {A : Option Addr} {n a c : Nat} {S : List VT} (h : Shows w B 5 A n (S.flatMap VT.cells)) (ha : a ≤ n) (hc : n ≤ c) : Shows w B 5 (if c = a then A else A.map (·.add (a * 5))) (n - a) ((S.drop a).flatMap VT.cells) := by
  have := h.cut (k := a) (cap := c) ha hc
  rwa [flat_drop5] at this
set_option maxRecDepth 20000 in
set_option maxHeartbeats 4000000 in
theorem rsort_any (A : Option Addr) (n c B : Nat) (L : List VT) (w : World) (h : Shows w B 5 A n (L.flatMap VT.cells)) (hL : ∀ x ∈ L, (Lie w B x ∧ x.ok = true) ∧ Sml 1048576 x) (hB : B ≤ w.heap.size) (hn : n ≤ 20) :
    Calls Tryd.prog 17 #[.slice A n c] w fun e w' => ∃ A' c' S, e = .returned (.slice A' n c') ∧ Hid (Shows w' w'.heap.size 5 A' n (S.flatMap VT.cells)) ∧ Hid (S.Perm L ∧ Rise S) ∧ Below w.heap.size w w' := by
  obtain ⟨iV, hiV, hzV, hsV, hbV⟩ := val_info
  have hlen := kids_len h
  have HS := Lib.hid h
  have Hlen := Lib.hid hlen
  have Hls := Lib.hid (fun x (hx : x ∈ L) y (hy : y ∈ L) W (hb : Below w.heap.size w W) => (by
    refine (rlessV_any x y B W ((hL x hx).1.1.later (hb.mono hB)) ((hL y hy).1.1.later (hb.mono hB)) (hL x hx).1.2 (hL y hy).1.2 (hL x hx).2 (hL y hy).2 (Nat.le_trans hB hb.size)).mono ?_
    rintro e w' ⟨rfl, hf⟩
    exact ⟨rfl, hf.1⟩ : Calls Tryd.prog 20 #[x.agg, y.agg] W fun e w' => e = .returned (.bool (decide (cmpV x y < 0))) ∧ Below W.heap.size W w'))
  have hMx : 100 ≤ maxLen := by decide
  clear h hL hlen
  go_enter Tryd.func17, Tryd.ntmps17
  go_wp2
  go_loopw [3, 4] (fun o i wr => ∃ (j : Nat) (Ao : Option Addr) (co : Nat) (S : List VT), j ≤ n ∧ i = .int .i64 j ∧ o = .slice Ao j co ∧ Hid (wr.ownsRow w.heap.size 25 5 (.slice Ao j co) j (S.flatMap VT.cells)) ∧ Hid (S.Perm (L.take j) ∧ Rise S) ∧ Below w.heap.size w wr) (fun _ i _ => n - (intOf i).toNat)
  case atStart => exact ⟨0, none, 0, [], Nat.zero_le _, rfl, rfl, Lib.hid (by simpa using World.ownsRow_nil _ _ _ _), Lib.hid ⟨.refl _, .nil⟩, Below.refl _ _⟩
  case round =>
    obtain ⟨j, Ao, co, S, hj, rfl, rfl, Hown, HP, hbr⟩ := hrel
    have hjn20 : (j : Int) ≤ 20 := by omega
    by_cases hlt : j < n
    · have hlt' : (j : Int) < (n : Int) := by omega
      have hj0 : (0 : Int) ≤ (j : Int) := by omega
      have hx := List.getElem?_eq_getElem (l := L) (i := j) (by have := Hlen.out; omega)
      generalize L[j]'_ = x at hx
      have Hx := Lib.hid hx
      have hSl : S.length = j := by rw [HP.out.1.length_eq, List.length_take]; have := Hlen.out; omega
      obtain ⟨b, off, hA1, hx5⟩ := kid_cellsB HS.out hbr hB hx
      subst hA1
      have hxm := List.mem_of_getElem? hx
      have HlS := Lib.hid (fun y (hy : y ∈ S) W (hb : Below w.heap.size w W) => Hls.out x hxm y (List.mem_of_mem_take (HP.out.1.mem_iff.1 hy)) W hb)
      have HSl := Lib.hid hSl
      have HSh := Lib.hid (Shows.own Hown.out)
      have Hput := Lib.hid (fun a => put_fin (a := a) hx HP.out)
      clear hx hxm hSl
      obtain ⟨kx, nx, sx, cAx, cnx, ccx, kAx, knx, kcx, keysx, kidsx⟩ := x
      go_wp2
      go_loopw [5] (fun i wr' => ∃ a : Nat, a ≤ j ∧ i = .int .i64 a ∧ Hid (∀ t y, a ≤ t → S[t]? = some y → cmpV (.mk kx nx sx cAx cnx ccx kAx knx kcx keysx kidsx) y < 0) ∧ Below wr.heap.size wr wr') (fun i _ => (intOf i).toNat)
      case atStart => exact ⟨j, Nat.le_refl _, rfl, Lib.hid (fun t y h hy => by have := (List.getElem?_eq_some_iff.1 hy).1; have := HSl.out; omega), Below.refl _ _⟩
      case round =>
        rename World => wI
        obtain ⟨a, haj, rfl, HAt, hbi⟩ := hrel
        have hbw := bel_next hbr hbi
        have x0 : ∀ W, Below wI.heap.size wI W → W.cell? ⟨b, off + j * 5, none⟩ = some (.int .i64 kx) := fun W h => (hx5 W (bel_next hbi h)).1
        have x1 : ∀ W, Below wI.heap.size wI W → W.cell? ⟨b, off + j * 5 + 1, none⟩ = some (.int .i64 nx) := fun W h => (hx5 W (bel_next hbi h)).2.1
        have x2 : ∀ W, Below wI.heap.size wI W → W.cell? ⟨b, off + j * 5 + 2, none⟩ = some (.string sx) := fun W h => (hx5 W (bel_next hbi h)).2.2.1
        have x3 : ∀ W, Below wI.heap.size wI W → W.cell? ⟨b, off + j * 5 + 3, none⟩ = some (.slice cAx cnx ccx) := fun W h => (hx5 W (bel_next hbi h)).2.2.2.1
        have x4 : ∀ W, Below wI.heap.size wI W → W.cell? ⟨b, off + j * 5 + 4, none⟩ = some (.slice kAx knx kcx) := fun W h => (hx5 W (bel_next hbi h)).2.2.2.2
        by_cases ha0 : a = 0
        · have HFin := Lib.hid (Hput.out a (by have := HSl.out; omega) HAt.out (fun y h => absurd h (by omega)))
          clear Hput HAt
          have hg0 : ¬ (0 : Int) < (a : Int) := by omega
          have hg1 : decide (0 < a) = false := decide_eq_false (by omega)
          clear ha0
          go_upto_region 6 with fail
          refine wp_region_held_drew (S := fun W => Below wI.heap.size wI W) (by kernel_rfl) (below_drewN (Below.refl _ _) 1) (fun hHeld => ?_)
          refine rg_in 0 rfl (by kernel_rfl) (by kernel_rfl) (by kernel_rfl) (by rfl) (v := ?_) (fun _ _ _ h => h) hHeld (fun w hSw => ?_) ?_
          rotate_left
          · (try dsimp only at hSw); go_simp <;> (with_reducible rfl)
          (try simp only [Act.put, List.setIfInBounds_toArray, List.set_cons_zero, List.set_cons_succ])
          refine rg_in 1 rfl (by kernel_rfl) (by kernel_rfl) (by kernel_rfl) (by rfl) (v := ?_) (fun _ _ _ h => h) hHeld (fun w hSw => ?_) ?_
          rotate_left
          · (try dsimp only at hSw); go_simp <;> (with_reducible rfl)
          (try simp only [Act.put, List.setIfInBounds_toArray, List.set_cons_zero, List.set_cons_succ])
          refine rg_in 2 rfl (by kernel_rfl) (by kernel_rfl) (by kernel_rfl) (by rfl) (v := ?_) (fun _ _ _ h => h) hHeld (fun w hSw => ?_) ?_
          rotate_left
          · (try dsimp only at hSw); go_simp <;> (with_reducible rfl)
          (try simp only [Act.put, List.setIfInBounds_toArray, List.set_cons_zero, List.set_cons_succ])
          refine rg_off 3 rfl (by kernel_rfl) (by kernel_rfl) (by kernel_rfl) (by rfl) (fun _ _ _ h => h) hHeld ?_
          (try simp only [Act.put, List.setIfInBounds_toArray, List.set_cons_zero, List.set_cons_succ])
          refine rg_off 4 rfl (by kernel_rfl) (by kernel_rfl) (by kernel_rfl) (by rfl) (fun _ _ _ h => h) hHeld ?_
          (try simp only [Act.put, List.setIfInBounds_toArray, List.set_cons_zero, List.set_cons_succ])
          refine rg_off 5 rfl (by kernel_rfl) (by kernel_rfl) (by kernel_rfl) (by rfl) (fun _ _ _ h => h) hHeld ?_
          (try simp only [Act.put, List.setIfInBounds_toArray, List.set_cons_zero, List.set_cons_succ])
          refine rg_off 6 rfl (by kernel_rfl) (by kernel_rfl) (by kernel_rfl) (by rfl) (fun _ _ _ h => h) hHeld ?_
          (try simp only [Act.put, List.setIfInBounds_toArray, List.set_cons_zero, List.set_cons_succ])
          refine rg_off 7 rfl (by kernel_rfl) (by kernel_rfl) (by kernel_rfl) (by rfl) (fun _ _ _ h => h) hHeld ?_
          (try simp only [Act.put, List.setIfInBounds_toArray, List.set_cons_zero, List.set_cons_succ])
          refine rg_off 8 rfl (by kernel_rfl) (by kernel_rfl) (by kernel_rfl) (by rfl) (fun _ _ _ h => h) hHeld ?_
          (try simp only [Act.put, List.setIfInBounds_toArray, List.set_cons_zero, List.set_cons_succ])
          refine rg_off 9 rfl (by kernel_rfl) (by kernel_rfl) (by kernel_rfl) (by rfl) (fun _ _ _ h => h) hHeld ?_
          (try simp only [Act.put, List.setIfInBounds_toArray, List.set_cons_zero, List.set_cons_succ])
          refine rg_off 10 rfl (by kernel_rfl) (by kernel_rfl) (by kernel_rfl) (by rfl) (fun _ _ _ h => h) hHeld ?_
          (try simp only [Act.put, List.setIfInBounds_toArray, List.set_cons_zero, List.set_cons_succ])
          refine rg_off 11 rfl (by kernel_rfl) (by kernel_rfl) (by kernel_rfl) (by rfl) (fun _ _ _ h => h) hHeld ?_
          (try simp only [Act.put, List.setIfInBounds_toArray, List.set_cons_zero, List.set_cons_succ])
          refine rg_off 12 rfl (by kernel_rfl) (by kernel_rfl) (by kernel_rfl) (by rfl) (fun _ _ _ h => h) hHeld ?_
          (try simp only [Act.put, List.setIfInBounds_toArray, List.set_cons_zero, List.set_cons_succ])
          refine rg_in 13 rfl (by kernel_rfl) (by kernel_rfl) (by kernel_rfl) (by rfl) (v := ?_) (fun _ _ _ h => h) hHeld (fun w hSw => ?_) ?_
          rotate_left
          · (try dsimp only at hSw); go_simp <;> (with_reducible rfl)
          (try simp only [Act.put, List.setIfInBounds_toArray, List.set_cons_zero, List.set_cons_succ])
          refine wpAnyH_done (by kernel_rfl) ?_ _
          have hbs := hHeld.size
          have hcap := own_capS Hown.out
          have hbE := bel_next hbi hHeld
          have hfirst := (HSh.out.below hbE).first (k := a) haj
          rw [flat_take5] at hfirst
          have hone1 := vcells_one (S.take a)
          have hone2 := vcells_one (S.drop a)
          have i1 : (0 : Int) ≤ (a : Int) := by omega
          have i2 : (a : Int) ≤ (j : Int) := by omega
          have i3 : (a : Int) ≤ (co : Int) := by omega
          have i4 : (j : Int) ≤ (co : Int) := by omega
          have Hcut := Lib.hid (fun W (h : Below wr.heap.size wr W) => cut5 (HSh.out.below h) haj hcap)
          by_cases hca : co = a
          · have hca' : (co : Int) = (a : Int) := by omega
            rw [if_pos hca] at Hcut
            clear hca
            go_wp2_with (first
              | (at_builtin; refine wpList_append_shows _ rfl _ _ 22 rfl wI.drew.heap.size 25 iV _ 5 80 Tryd.underlying22 hiV hzV hsV hbV rfl (by decide) _ _ _ rfl (World.ownsRow_nil _ _ _ _) wr.heap.size _ a _ _ rfl hfirst hone1 (by omega) (by omega) (Nat.le_refl _) ?_; intro A7 c7 w7 hown7 hgrow7 hb7; have z0 := x0 w7 (bel_next hHeld hb7); have z1 := x1 w7 (bel_next hHeld hb7); have z2 := x2 w7 (bel_next hHeld hb7); have z3 := x3 w7 (bel_next hHeld hb7); have z4 := x4 w7 (bel_next hHeld hb7); have hown8 : w7.ownsRow wI.drew.heap.size 25 5 (.slice A7 a c7) a ((S.take a).flatMap VT.cells) := (by simpa using hown7); have hs7 := hb7.size; have hnew := shows5_new w7 (.int .i64 kx) (.int .i64 nx) (.string sx) (.slice cAx cnx ccx) (.slice kAx knx kcx) 25 w7.heap.size rfl; clear hown7; (try simp only [Nat.zero_add]))
              | (at_builtin; refine wpList_append_shows _ rfl _ _ 22 rfl wI.drew.heap.size 25 iV _ 5 80 Tryd.underlying22 hiV hzV hsV hbV rfl (by decide) _ _ _ rfl (hown8.alloc _) (w7.heap.size + 1) _ 1 1 [.int .i64 kx, .int .i64 nx, .string sx, .slice cAx cnx ccx, .slice kAx knx kcx] rfl hnew (by simp [Value.oneCell']) (by omega) (by omega) (by simp; omega) ?_; intro A8 c8 w8 hown9 hgrow8 hb8; have hb9 : Below wI.drew.heap.size wI.drew w8 := hb7.trans (((Below.refl _ _).alloc hs7 _).trans hb8); have hs9 := hb9.size; have hown10 : w8.ownsRow wI.drew.heap.size 25 5 (.slice A8 (a + 1) c8) (a + 1) ((S.take a).flatMap VT.cells ++ VT.cells (.mk kx nx sx cAx cnx ccx kAx knx kcx keysx kidsx)) := (by simpa [VT.cells] using hown9); have hcut := Hcut.out w8 (bel_next hbE hb9); clear hown9 z0 z1 z2 z3 z4)
              | (at_builtin; go_must (refine wpList_append_shows _ rfl _ _ 22 rfl wI.drew.heap.size 25 iV _ 5 80 Tryd.underlying22 hiV hzV hsV hbV rfl (by decide) _ _ _ rfl hown10 wr.heap.size _ (j - a) _ ((S.drop a).flatMap VT.cells) rfl (by first | exact hcut | (rw [Option.map_some, addr_add] at hcut; exact hcut)) hone2 (by omega) (by omega) hs9 ?_); intro A9 c9 w9 hown11 hgrow9 hb10))
            rw [show a + 1 + (j - a) = j + 1 by omega] at hown11 ⊢
            have hown12 := own_base hown11 (Nat.le_trans hbr.size hbE.size)
            refine ⟨⟨j + 1, A9, c9, S.take a ++ .mk kx nx sx cAx cnx ccx kAx knx kcx keysx kidsx :: S.drop a, by omega, by go_num, rfl, Lib.hid (by simpa [List.flatMap_append] using hown12), HFin, bel_next hbr (bel_next hbE (hb9.trans hb10))⟩, by simp [intOf]; omega⟩
          · have hca' : ¬ (co : Int) = (a : Int) := by omega
            rw [if_neg hca] at Hcut
            clear hca
            go_wp2_with (first
              | (at_builtin; refine wpList_append_shows _ rfl _ _ 22 rfl wI.drew.heap.size 25 iV _ 5 80 Tryd.underlying22 hiV hzV hsV hbV rfl (by decide) _ _ _ rfl (World.ownsRow_nil _ _ _ _) wr.heap.size _ a _ _ rfl hfirst hone1 (by omega) (by omega) (Nat.le_refl _) ?_; intro A7 c7 w7 hown7 hgrow7 hb7; have z0 := x0 w7 (bel_next hHeld hb7); have z1 := x1 w7 (bel_next hHeld hb7); have z2 := x2 w7 (bel_next hHeld hb7); have z3 := x3 w7 (bel_next hHeld hb7); have z4 := x4 w7 (bel_next hHeld hb7); have hown8 : w7.ownsRow wI.drew.heap.size 25 5 (.slice A7 a c7) a ((S.take a).flatMap VT.cells) := (by simpa using hown7); have hs7 := hb7.size; have hnew := shows5_new w7 (.int .i64 kx) (.int .i64 nx) (.string sx) (.slice cAx cnx ccx) (.slice kAx knx kcx) 25 w7.heap.size rfl; clear hown7; (try simp only [Nat.zero_add]))
              | (at_builtin; refine wpList_append_shows _ rfl _ _ 22 rfl wI.drew.heap.size 25 iV _ 5 80 Tryd.underlying22 hiV hzV hsV hbV rfl (by decide) _ _ _ rfl (hown8.alloc _) (w7.heap.size + 1) _ 1 1 [.int .i64 kx, .int .i64 nx, .string sx, .slice cAx cnx ccx, .slice kAx knx kcx] rfl hnew (by simp [Value.oneCell']) (by omega) (by omega) (by simp; omega) ?_; intro A8 c8 w8 hown9 hgrow8 hb8; have hb9 : Below wI.drew.heap.size wI.drew w8 := hb7.trans (((Below.refl _ _).alloc hs7 _).trans hb8); have hs9 := hb9.size; have hown10 : w8.ownsRow wI.drew.heap.size 25 5 (.slice A8 (a + 1) c8) (a + 1) ((S.take a).flatMap VT.cells ++ VT.cells (.mk kx nx sx cAx cnx ccx kAx knx kcx keysx kidsx)) := (by simpa [VT.cells] using hown9); have hcut := Hcut.out w8 (bel_next hbE hb9); clear hown9 z0 z1 z2 z3 z4)
              | (at_builtin; go_must (refine wpList_append_shows _ rfl _ _ 22 rfl wI.drew.heap.size 25 iV _ 5 80 Tryd.underlying22 hiV hzV hsV hbV rfl (by decide) _ _ _ rfl hown10 wr.heap.size _ (j - a) _ ((S.drop a).flatMap VT.cells) rfl (by first | exact hcut | (rw [Option.map_some, addr_add] at hcut; exact hcut)) hone2 (by omega) (by omega) hs9 ?_); intro A9 c9 w9 hown11 hgrow9 hb10))
            rw [show a + 1 + (j - a) = j + 1 by omega] at hown11 ⊢
            have hown12 := own_base hown11 (Nat.le_trans hbr.size hbE.size)
            refine ⟨⟨j + 1, A9, c9, S.take a ++ .mk kx nx sx cAx cnx ccx kAx knx kcx keysx kidsx :: S.drop a, by omega, by go_num, rfl, Lib.hid (by simpa [List.flatMap_append] using hown12), HFin, bel_next hbr (bel_next hbE (hb9.trans hb10))⟩, by simp [intOf]; omega⟩
        · obtain ⟨v, hva⟩ : ∃ v, a = v + 1 := ⟨a - 1, by omega⟩
          have hvi : IntKind.i64.wrap ((a : Int) - 1) = (v : Int) := by rw [IntKind.wrap_i64]; omega
          have hvi2 : IntKind.i64.wrap (v : Int) = (v : Int) := by rw [IntKind.wrap_i64]; omega
          have ha0' : (0 : Int) < (a : Int) := by omega
          have hg1 : decide (0 < a) = true := decide_eq_true (by omega)
          have hvj : v < j := by omega
          have hvj' : (v : Int) < (j : Int) := by omega
          have hv0 : (0 : Int) ≤ (v : Int) := by omega
          have hy := List.getElem?_eq_getElem (l := S) (i := v) (by have := HSl.out; omega)
          generalize S[v]'_ = y at hy
          obtain ⟨b', off', hA2, hy5⟩ := kid_cellsB HSh.out hbi (Nat.le_refl _) hy
          subst hA2
          have hs0 := HlS.out y (List.mem_of_getElem? hy)
          have Hs1 := Lib.hid (fun W (h : Below wI.heap.size wI W) => hs0 W (bel_next hbw h))
          have Hyes := Lib.hid (fun hs : decide (cmpV (.mk kx nx sx cAx cnx ccx kAx knx kcx keysx kidsx) y < 0) = true => (show ∀ t y, v ≤ t → S[t]? = some y → cmpV (.mk kx nx sx cAx cnx ccx kAx knx kcx keysx kidsx) y < 0 from fun t y' ht hy' => by
            by_cases htv : t = v
            · subst htv
              rw [hy] at hy'; injection hy' with hy'
              rw [← hy']; exact of_decide_eq_true hs
            · exact HAt.out t y' (by omega) hy'))
          have Hno := Lib.hid (fun hs : decide (cmpV (.mk kx nx sx cAx cnx ccx kAx knx kcx keysx kidsx) y < 0) = false => Hput.out a (by have := HSl.out; omega) HAt.out (fun y' _ hy' => by
            rw [show a - 1 = v by omega, hy] at hy'; injection hy' with hy'
            rw [← hy']; have := of_decide_eq_false hs; omega))
          clear hy hs0 HAt Hput
          have hav : v < a := by omega
          clear hva
          generalize decide (cmpV (.mk kx nx sx cAx cnx ccx kAx knx kcx keysx kidsx) y < 0) = sb at *
          obtain ⟨ky, ny, sy, cAy, cny, ccy, kAy, kny, kcy, keysy, kidsy⟩ := y
          have Hs2 := Hs1
          simp only [VT.agg] at Hs2
          clear Hs1
          have y0 : ∀ W, Below wI.heap.size wI W → W.cell? ⟨b', off' + v * 5, none⟩ = some (.int .i64 ky) := fun W h => (hy5 W h).1
          have y1 : ∀ W, Below wI.heap.size wI W → W.cell? ⟨b', off' + v * 5 + 1, none⟩ = some (.int .i64 ny) := fun W h => (hy5 W h).2.1
          have y2 : ∀ W, Below wI.heap.size wI W → W.cell? ⟨b', off' + v * 5 + 2, none⟩ = some (.string sy) := fun W h => (hy5 W h).2.2.1
          have y3 : ∀ W, Below wI.heap.size wI W → W.cell? ⟨b', off' + v * 5 + 3, none⟩ = some (.slice cAy cny ccy) := fun W h => (hy5 W h).2.2.2.1
          have y4 : ∀ W, Below wI.heap.size wI W → W.cell? ⟨b', off' + v * 5 + 4, none⟩ = some (.slice kAy kny kcy) := fun W h => (hy5 W h).2.2.2.2
          clear hy5
          go_upto_region 6 with fail
          refine wp_region_held_drew (S := fun W => Below wI.heap.size wI W) (by kernel_rfl) (below_drewN (Below.refl _ _) 1) (fun hHeld => ?_)
          refine rg_in 0 rfl (by kernel_rfl) (by kernel_rfl) (by kernel_rfl) (by rfl) (v := ?_) (fun _ _ _ h => h) hHeld (fun w hSw => ?_) ?_
          rotate_left
          · (try dsimp only at hSw); go_simp <;> (with_reducible rfl)
          (try simp only [Act.put, List.setIfInBounds_toArray, List.set_cons_zero, List.set_cons_succ])
          refine rg_in 1 rfl (by kernel_rfl) (by kernel_rfl) (by kernel_rfl) (by rfl) (v := ?_) (fun _ _ _ h => h) hHeld (fun w hSw => ?_) ?_
          rotate_left
          · (try dsimp only at hSw); go_simp <;> (with_reducible rfl)
          (try simp only [Act.put, List.setIfInBounds_toArray, List.set_cons_zero, List.set_cons_succ])
          refine rg_in 2 rfl (by kernel_rfl) (by kernel_rfl) (by kernel_rfl) (by rfl) (v := ?_) (fun _ _ _ h => h) hHeld (fun w hSw => ?_) ?_
          rotate_left
          · (try dsimp only at hSw); go_simp <;> (with_reducible rfl)
          (try simp only [Act.put, List.setIfInBounds_toArray, List.set_cons_zero, List.set_cons_succ])
          refine rg_in 3 rfl (by kernel_rfl) (by kernel_rfl) (by kernel_rfl) (by rfl) (v := ?_) (fun _ _ _ h => h) hHeld (fun w hSw => ?_) ?_
          rotate_left
          · (try dsimp only at hSw); go_simp <;> (with_reducible rfl)
          (try simp only [Act.put, List.setIfInBounds_toArray, List.set_cons_zero, List.set_cons_succ])
          refine rg_in 4 rfl (by kernel_rfl) (by kernel_rfl) (by kernel_rfl) (by rfl) (v := ?_) (fun _ _ _ h => h) hHeld (fun w hSw => ?_) ?_
          rotate_left
          · (try dsimp only at hSw); go_simp <;> (with_reducible rfl)
          (try simp only [Act.put, List.setIfInBounds_toArray, List.set_cons_zero, List.set_cons_succ])
          refine rg_in 5 rfl (by kernel_rfl) (by kernel_rfl) (by kernel_rfl) (by rfl) (v := ?_) (fun _ _ _ h => h) hHeld (fun w hSw => ?_) ?_
          rotate_left
          · (try dsimp only at hSw); go_simp <;> (with_reducible rfl)
          (try simp only [Act.put, List.setIfInBounds_toArray, List.set_cons_zero, List.set_cons_succ])
          refine rg_in 6 rfl (by kernel_rfl) (by kernel_rfl) (by kernel_rfl) (by rfl) (v := ?_) (fun _ _ _ h => h) hHeld (fun w hSw => ?_) ?_
          rotate_left
          · (try dsimp only at hSw); go_simp <;> (with_reducible rfl)
          (try simp only [Act.put, List.setIfInBounds_toArray, List.set_cons_zero, List.set_cons_succ])
          refine rg_in 7 rfl (by kernel_rfl) (by kernel_rfl) (by kernel_rfl) (by rfl) (v := ?_) (fun _ _ _ h => h) hHeld (fun w hSw => ?_) ?_
          rotate_left
          · (try dsimp only at hSw); go_simp <;> (with_reducible rfl)
          (try simp only [Act.put, List.setIfInBounds_toArray, List.set_cons_zero, List.set_cons_succ])
          refine rg_in 8 rfl (by kernel_rfl) (by kernel_rfl) (by kernel_rfl) (by rfl) (v := ?_) (fun _ _ _ h => h) hHeld (fun w hSw => ?_) ?_
          rotate_left
          · (try dsimp only at hSw); go_simp <;> (with_reducible rfl)
          (try simp only [Act.put, List.setIfInBounds_toArray, List.set_cons_zero, List.set_cons_succ])
          refine rg_in 9 rfl (by kernel_rfl) (by kernel_rfl) (by kernel_rfl) (by rfl) (v := ?_) (fun _ _ _ h => h) hHeld (fun w hSw => ?_) ?_
          rotate_left
          · (try dsimp only at hSw); go_simp <;> (with_reducible rfl)
          (try simp only [Act.put, List.setIfInBounds_toArray, List.set_cons_zero, List.set_cons_succ])
          refine rg_in 10 rfl (by kernel_rfl) (by kernel_rfl) (by kernel_rfl) (by rfl) (v := ?_) (fun _ _ _ h => h) hHeld (fun w hSw => ?_) ?_
          rotate_left
          · (try dsimp only at hSw); go_simp <;> (with_reducible rfl)
          (try simp only [Act.put, List.setIfInBounds_toArray, List.set_cons_zero, List.set_cons_succ])
          refine rg_in 11 rfl (by kernel_rfl) (by kernel_rfl) (by kernel_rfl) (by rfl) (v := ?_) (fun _ _ _ h => h) hHeld (fun w hSw => ?_) ?_
          rotate_left
          · (try dsimp only at hSw); go_simp <;> (with_reducible rfl)
          (try simp only [Act.put, List.setIfInBounds_toArray, List.set_cons_zero, List.set_cons_succ])
          refine rg_do 12 rfl (by kernel_rfl) (by rfl) (fun K hK => ?_)
          go_simp
          (go_at_call 20; (with_reducible refine (Hs2.out _ hHeld).mono ?_); (rintro e w112 ⟨rfl, hb12⟩))
          refine hK.out _ _ (S_call hb12 hHeld rfl) (fun hHeld => ?_)
          clear hK K
          (try simp only [Act.put, List.setIfInBounds_toArray, List.set_cons_zero, List.set_cons_succ])
          refine rg_in 13 rfl (by kernel_rfl) (by kernel_rfl) (by kernel_rfl) (by rfl) (v := ?_) (fun _ _ _ h => h) hHeld (fun w hSw => ?_) ?_
          rotate_left
          · (try dsimp only at hSw); go_simp <;> (with_reducible rfl)
          (try simp only [Act.put, List.setIfInBounds_toArray, List.set_cons_zero, List.set_cons_succ])
          refine wpAnyH_done (by kernel_rfl) ?_ _
          cases sb
          · have HFin := Lib.hid (Hno.out rfl)
            clear Hyes Hno
            have hbs := hHeld.size
            have hcap := own_capS Hown.out
            have hbE := bel_next hbi hHeld
            have hfirst := (HSh.out.below hbE).first (k := a) haj
            rw [flat_take5] at hfirst
            have hone1 := vcells_one (S.take a)
            have hone2 := vcells_one (S.drop a)
            have i1 : (0 : Int) ≤ (a : Int) := by omega
            have i2 : (a : Int) ≤ (j : Int) := by omega
            have i3 : (a : Int) ≤ (co : Int) := by omega
            have i4 : (j : Int) ≤ (co : Int) := by omega
            have Hcut := Lib.hid (fun W (h : Below wr.heap.size wr W) => cut5 (HSh.out.below h) haj hcap)
            by_cases hca : co = a
            · have hca' : (co : Int) = (a : Int) := by omega
              rw [if_pos hca] at Hcut
              clear hca
              go_wp2_with (first
                | (at_builtin; refine wpList_append_shows _ rfl _ _ 22 rfl w112.heap.size 25 iV _ 5 80 Tryd.underlying22 hiV hzV hsV hbV rfl (by decide) _ _ _ rfl (World.ownsRow_nil _ _ _ _) wr.heap.size _ a _ _ rfl hfirst hone1 (by omega) (by omega) (Nat.le_refl _) ?_; intro A7 c7 w7 hown7 hgrow7 hb7; have z0 := x0 w7 (bel_next hHeld hb7); have z1 := x1 w7 (bel_next hHeld hb7); have z2 := x2 w7 (bel_next hHeld hb7); have z3 := x3 w7 (bel_next hHeld hb7); have z4 := x4 w7 (bel_next hHeld hb7); have hown8 : w7.ownsRow w112.heap.size 25 5 (.slice A7 a c7) a ((S.take a).flatMap VT.cells) := (by simpa using hown7); have hs7 := hb7.size; have hnew := shows5_new w7 (.int .i64 kx) (.int .i64 nx) (.string sx) (.slice cAx cnx ccx) (.slice kAx knx kcx) 25 w7.heap.size rfl; clear hown7; (try simp only [Nat.zero_add]))
                | (at_builtin; refine wpList_append_shows _ rfl _ _ 22 rfl w112.heap.size 25 iV _ 5 80 Tryd.underlying22 hiV hzV hsV hbV rfl (by decide) _ _ _ rfl (hown8.alloc _) (w7.heap.size + 1) _ 1 1 [.int .i64 kx, .int .i64 nx, .string sx, .slice cAx cnx ccx, .slice kAx knx kcx] rfl hnew (by simp [Value.oneCell']) (by omega) (by omega) (by simp; omega) ?_; intro A8 c8 w8 hown9 hgrow8 hb8; have hb9 : Below w112.heap.size w112 w8 := hb7.trans (((Below.refl _ _).alloc hs7 _).trans hb8); have hs9 := hb9.size; have hown10 : w8.ownsRow w112.heap.size 25 5 (.slice A8 (a + 1) c8) (a + 1) ((S.take a).flatMap VT.cells ++ VT.cells (.mk kx nx sx cAx cnx ccx kAx knx kcx keysx kidsx)) := (by simpa [VT.cells] using hown9); have hcut := Hcut.out w8 (bel_next hbE hb9); clear hown9 z0 z1 z2 z3 z4)
                | (at_builtin; go_must (refine wpList_append_shows _ rfl _ _ 22 rfl w112.heap.size 25 iV _ 5 80 Tryd.underlying22 hiV hzV hsV hbV rfl (by decide) _ _ _ rfl hown10 wr.heap.size _ (j - a) _ ((S.drop a).flatMap VT.cells) rfl (by first | exact hcut | (rw [Option.map_some, addr_add] at hcut; exact hcut)) hone2 (by omega) (by omega) hs9 ?_); intro A9 c9 w9 hown11 hgrow9 hb10))
              rw [show a + 1 + (j - a) = j + 1 by omega] at hown11 ⊢
              have hown12 := own_base hown11 (Nat.le_trans hbr.size hbE.size)
              refine ⟨⟨j + 1, A9, c9, S.take a ++ .mk kx nx sx cAx cnx ccx kAx knx kcx keysx kidsx :: S.drop a, by omega, by go_num, rfl, Lib.hid (by simpa [List.flatMap_append] using hown12), HFin, bel_next hbr (bel_next hbE (hb9.trans hb10))⟩, by simp [intOf]; omega⟩
            · have hca' : ¬ (co : Int) = (a : Int) := by omega
              rw [if_neg hca] at Hcut
              clear hca
              go_wp2_with (first
                | (at_builtin; refine wpList_append_shows _ rfl _ _ 22 rfl w112.heap.size 25 iV _ 5 80 Tryd.underlying22 hiV hzV hsV hbV rfl (by decide) _ _ _ rfl (World.ownsRow_nil _ _ _ _) wr.heap.size _ a _ _ rfl hfirst hone1 (by omega) (by omega) (Nat.le_refl _) ?_; intro A7 c7 w7 hown7 hgrow7 hb7; have z0 := x0 w7 (bel_next hHeld hb7); have z1 := x1 w7 (bel_next hHeld hb7); have z2 := x2 w7 (bel_next hHeld hb7); have z3 := x3 w7 (bel_next hHeld hb7); have z4 := x4 w7 (bel_next hHeld hb7); have hown8 : w7.ownsRow w112.heap.size 25 5 (.slice A7 a c7) a ((S.take a).flatMap VT.cells) := (by simpa using hown7); have hs7 := hb7.size; have hnew := shows5_new w7 (.int .i64 kx) (.int .i64 nx) (.string sx) (.slice cAx cnx ccx) (.slice kAx knx kcx) 25 w7.heap.size rfl; clear hown7; (try simp only [Nat.zero_add]))
                | (at_builtin; refine wpList_append_shows _ rfl _ _ 22 rfl w112.heap.size 25 iV _ 5 80 Tryd.underlying22 hiV hzV hsV hbV rfl (by decide) _ _ _ rfl (hown8.alloc _) (w7.heap.size + 1) _ 1 1 [.int .i64 kx, .int .i64 nx, .string sx, .slice cAx cnx ccx, .slice kAx knx kcx] rfl hnew (by simp [Value.oneCell']) (by omega) (by omega) (by simp; omega) ?_; intro A8 c8 w8 hown9 hgrow8 hb8; have hb9 : Below w112.heap.size w112 w8 := hb7.trans (((Below.refl _ _).alloc hs7 _).trans hb8); have hs9 := hb9.size; have hown10 : w8.ownsRow w112.heap.size 25 5 (.slice A8 (a + 1) c8) (a + 1) ((S.take a).flatMap VT.cells ++ VT.cells (.mk kx nx sx cAx cnx ccx kAx knx kcx keysx kidsx)) := (by simpa [VT.cells] using hown9); have hcut := Hcut.out w8 (bel_next hbE hb9); clear hown9 z0 z1 z2 z3 z4)
                | (at_builtin; go_must (refine wpList_append_shows _ rfl _ _ 22 rfl w112.heap.size 25 iV _ 5 80 Tryd.underlying22 hiV hzV hsV hbV rfl (by decide) _ _ _ rfl hown10 wr.heap.size _ (j - a) _ ((S.drop a).flatMap VT.cells) rfl (by first | exact hcut | (rw [Option.map_some, addr_add] at hcut; exact hcut)) hone2 (by omega) (by omega) hs9 ?_); intro A9 c9 w9 hown11 hgrow9 hb10))
              rw [show a + 1 + (j - a) = j + 1 by omega] at hown11 ⊢
              have hown12 := own_base hown11 (Nat.le_trans hbr.size hbE.size)
              refine ⟨⟨j + 1, A9, c9, S.take a ++ .mk kx nx sx cAx cnx ccx kAx knx kcx keysx kidsx :: S.drop a, by omega, by go_num, rfl, Lib.hid (by simpa [List.flatMap_append] using hown12), HFin, bel_next hbr (bel_next hbE (hb9.trans hb10))⟩, by simp [intOf]; omega⟩
          · have HAt := Lib.hid (Hyes.out rfl)
            clear Hyes Hno
            go_wp2
            go_roundw
            case rel => exact ⟨v, by omega, by go_num, HAt, bel_next hbi hHeld⟩
            case measure => simp [intOf]; omega
    · obtain rfl : j = n := by omega
      have Hf := Lib.hid (show S.Perm L ∧ Rise S from ⟨by have := HP.out.1; rwa [List.take_of_length_le (by have := Hlen.out; omega)] at this, HP.out.2⟩)
      have Hsh := Lib.hid (Shows.own Hown.out)
      clear HP
      go_wp2
      go_ret
      exact ⟨Ao, co, S, rfl, Hsh, Hf, hbr⟩
end Go.Proofs.YtndolgbbochpjaaDoor
/-
  Layer 7: CollateWithin's two ways to put a value within a value.
-/
namespace Go.Proofs.YtndolgbbochpjaaDoor
open Go.RowKit
set_option linter.unusedVariables false

theorem Shows.setOff {w : World} {B size b off n : Nat} {xs : List Value} (h : Shows w B size (some ⟨b, off, none⟩) n xs) {vb i : Nat} {u : Value} (hv : vb ≠ b) : Shows (w.setCell ⟨vb, i, none⟩ u) B size (some ⟨b, off, none⟩) n xs := by
  refine ⟨h.1, fun hn => ?_⟩
  obtain ⟨b', off', e, hb, hcell⟩ := h.2 hn
  injection e with e
  injection e with e1 e2
  subst e1
  subst e2
  refine ⟨b, off, rfl, hb, fun j v hj => ?_⟩
  rw [World.cell?_setCell_other w _ _ u (fun e => by injection e with e1 e2; exact hv (by omega))]
  exact hcell j v hj
theorem Shows.setOff5 {w : World} {B size b off n : Nat} {xs : List Value} (h : Shows w B size (some ⟨b, off, none⟩) n xs) {vb : Nat} {u0 u1 u2 u3 u4 : Value} (hv : vb ≠ b) :
    Shows (((((w.setCell ⟨vb, 0, none⟩ u0).setCell ⟨vb, 1, none⟩ u1).setCell ⟨vb, 2, none⟩ u2).setCell ⟨vb, 3, none⟩ u3).setCell ⟨vb, 4, none⟩ u4) B size (some ⟨b, off, none⟩) n xs :=
  ((((h.setOff hv).setOff hv).setOff hv).setOff hv).setOff hv
set_option maxRecDepth 20000 in
set_option maxHeartbeats 2000000 in
theorem wobj_any (w : World) (key : ByteArray) (pk pb : Nat) (k n : Int) (s : ByteArray) (cA : Option Addr) (cn cc : Nat) (kA : Option Addr) (kn kc : Nat) (k' n' : Int) (s' : ByteArray) (cA' : Option Addr) (cn' cc' : Nat) (kA' : Option Addr) (kn' kc' : Nat)
    (hkey : w.cell? ⟨pk, 0, none⟩ = some (.string key)) (hks : key.size ≤ 1048576) (hB : VFive w pb (.int .i64 k') (.int .i64 n') (.string s') (.slice cA' cn' cc') (.slice kA' kn' kc')) :
    Calls Tryd.prog 28 #[.agg #[.int .i64 k, .int .i64 n, .string s, .slice cA cn cc, .slice kA kn kc], .pointer (some ⟨pk, 0, none⟩), .pointer (some ⟨pb, 0, none⟩)] w fun e w' => ∃ g,
      e = .returned (.agg #[.int .i64 6, .int .i64 0, .string ⟨#[]⟩, .slice (some ⟨g + 1, 0, none⟩) 2 2, .slice (some ⟨g, 0, none⟩) 2 2]) ∧
      Shows w' w'.heap.size 1 (some ⟨g, 0, none⟩) 2 [.string key, .string (key ++ ⟨#[122]⟩)] ∧
      Shows w' w'.heap.size 5 (some ⟨g + 1, 0, none⟩) 2 [.int .i64 k, .int .i64 n, .string s, .slice cA cn cc, .slice kA kn kc, .int .i64 k', .int .i64 n', .string s', .slice cA' cn' cc', .slice kA' kn' kc'] ∧ Below w.heap.size w w' := by
  have hsz : (key ++ (⟨#[122]⟩ : ByteArray)).size = key.size + 1 := by rw [ByteArray.size_append]; rfl
  have hkl := World.block_lt_of_cell? w _ hkey
  have hb2 := bel_alloc (bel_alloc (Below.refl w.heap.size w) (.cells #[.int .i64 k, .int .i64 n, .string s, .slice cA cn cc, .slice kA kn kc] 25)) (.cells #[.int .i64 0, .int .i64 0, .string ⟨#[]⟩, .slice none 0 0, .slice none 0 0] 25)
  have HVa := Lib.hid ((VFive.new w (.int .i64 k) (.int .i64 n) (.string s) (.slice cA cn cc) (.slice kA kn kc) 25 w.heap.size rfl).alloc (.cells #[.int .i64 0, .int .i64 0, .string ⟨#[]⟩, .slice none 0 0, .slice none 0 0] 25))
  have HVr := Lib.hid (VFive.new (w.alloc (.cells #[.int .i64 k, .int .i64 n, .string s, .slice cA cn cc, .slice kA kn kc] 25)) (.int .i64 0) (.int .i64 0) (.string ⟨#[]⟩) (.slice none 0 0) (.slice none 0 0) 25 (w.heap.size + 1) (World.size_alloc _ _))
  have HVb := Lib.hid (hB.later hb2)
  have hkey2 := (hb2.cell (p := ⟨pk, 0, none⟩) hkl).trans hkey
  clear hkey hB hkl
  go_enter Tryd.func28, Tryd.ntmps28
  go_upto_region 1 with fail
  generalize ((w.alloc (.cells #[.int .i64 k, .int .i64 n, .string s, .slice cA cn cc, .slice kA kn kc] 25)).alloc (.cells #[.int .i64 0, .int .i64 0, .string ⟨#[]⟩, .slice none 0 0, .slice none 0 0] 25)) = w2 at *
  generalize hg0 : w.heap.size = g0 at *
  have Hsz := Lib.hid hsz
  have HVr2 := Lib.hid ((HVr.out.alloc (.cells #[.string key, .string (key ++ ⟨#[122]⟩)] 9)).alloc (.cells #[.int .i64 k, .int .i64 n, .string s, .slice cA cn cc, .slice kA kn kc, .int .i64 k', .int .i64 n', .string s', .slice cA' cn' cc', .slice kA' kn' kc'] 25))
  obtain ⟨⟨a0, a1, a2, a3, a4⟩, -⟩ := HVa.out.alloc (.cells #[.string key, .string (key ++ ⟨#[122]⟩)] 9)
  obtain ⟨⟨b0, b1, b2, b3, b4⟩, -⟩ := HVb.out.alloc (.cells #[.string key, .string (key ++ ⟨#[122]⟩)] 9)
  obtain ⟨⟨r0, r1, r2, r3, r4⟩, f0, f1, f2, f3, f4⟩ := HVr2.out
  have hlr := HVr.out.lt
  clear hsz HVa HVb HVr
  go_wp2_with fail
  have S1 := ((shows_new w2 #[.string key, .string (key ++ ⟨#[122]⟩)] 9 w2.heap.size 2 1 rfl rfl).alloc (by simp) (.cells #[.int .i64 k, .int .i64 n, .string s, .slice cA cn cc, .slice kA kn kc, .int .i64 k', .int .i64 n', .string s', .slice cA' cn' cc', .slice kA' kn' kc'] 25)).setOff5 (vb := g0 + 1) (u0 := .int .i64 6) (u1 := .int .i64 0) (u2 := .string ⟨#[]⟩) (u3 := .slice (some ⟨w2.heap.size + 1, 0, none⟩) 2 2) (u4 := .slice (some ⟨w2.heap.size, 0, none⟩) 2 2) (by omega)
  have S2 := (shows_new (w2.alloc (.cells #[.string key, .string (key ++ ⟨#[122]⟩)] 9)) #[.int .i64 k, .int .i64 n, .string s, .slice cA cn cc, .slice kA kn kc, .int .i64 k', .int .i64 n', .string s', .slice cA' cn' cc', .slice kA' kn' kc'] 25 (w2.heap.size + 1) 2 5 (World.size_alloc _ _) rfl).setOff5 (vb := g0 + 1) (u0 := .int .i64 6) (u1 := .int .i64 0) (u2 := .string ⟨#[]⟩) (u3 := .slice (some ⟨w2.heap.size + 1, 0, none⟩) 2 2) (u4 := .slice (some ⟨w2.heap.size, 0, none⟩) 2 2) (by omega)
  have HR := VFive.set5 HVr2.out (a' := .int .i64 6) (b' := .int .i64 0) (c' := .string ⟨#[]⟩) (d' := .slice (some ⟨w2.heap.size + 1, 0, none⟩) 2 2) (e' := .slice (some ⟨w2.heap.size, 0, none⟩) 2 2)
  have hb9 : Below g0 w (((((((w2.alloc (.cells #[.string key, .string (key ++ ⟨#[122]⟩)] 9)).alloc (.cells #[.int .i64 k, .int .i64 n, .string s, .slice cA cn cc, .slice kA kn kc, .int .i64 k', .int .i64 n', .string s', .slice cA' cn' cc', .slice kA' kn' kc'] 25)).setCell ⟨g0 + 1, 0, none⟩ (.int .i64 6)).setCell ⟨g0 + 1, 1, none⟩ (.int .i64 0)).setCell ⟨g0 + 1, 2, none⟩ (.string ⟨#[]⟩)).setCell ⟨g0 + 1, 3, none⟩ (.slice (some ⟨w2.heap.size + 1, 0, none⟩) 2 2)).setCell ⟨g0 + 1, 4, none⟩ (.slice (some ⟨w2.heap.size, 0, none⟩) 2 2)) := vbelow_set5 ((hb2.alloc (by have := hb2.size; omega) _).alloc (by have := hb2.size; rw [World.size_alloc]; omega) _) (Nat.le_succ _)
  have hz9 : Array.size (World.heap (((((((w2.alloc (.cells #[.string key, .string (key ++ ⟨#[122]⟩)] 9)).alloc (.cells #[.int .i64 k, .int .i64 n, .string s, .slice cA cn cc, .slice kA kn kc, .int .i64 k', .int .i64 n', .string s', .slice cA' cn' cc', .slice kA' kn' kc'] 25)).setCell ⟨g0 + 1, 0, none⟩ (.int .i64 6)).setCell ⟨g0 + 1, 1, none⟩ (.int .i64 0)).setCell ⟨g0 + 1, 2, none⟩ (.string ⟨#[]⟩)).setCell ⟨g0 + 1, 3, none⟩ (.slice (some ⟨w2.heap.size + 1, 0, none⟩) 2 2)).setCell ⟨g0 + 1, 4, none⟩ (.slice (some ⟨w2.heap.size, 0, none⟩) 2 2))) = w2.heap.size + 2 := by simp
  generalize (((((((w2.alloc (.cells #[.string key, .string (key ++ ⟨#[122]⟩)] 9)).alloc (.cells #[.int .i64 k, .int .i64 n, .string s, .slice cA cn cc, .slice kA kn kc, .int .i64 k', .int .i64 n', .string s', .slice cA' cn' cc', .slice kA' kn' kc'] 25)).setCell ⟨g0 + 1, 0, none⟩ (.int .i64 6)).setCell ⟨g0 + 1, 1, none⟩ (.int .i64 0)).setCell ⟨g0 + 1, 2, none⟩ (.string ⟨#[]⟩)).setCell ⟨g0 + 1, 3, none⟩ (.slice (some ⟨w2.heap.size + 1, 0, none⟩) 2 2)).setCell ⟨g0 + 1, 4, none⟩ (.slice (some ⟨w2.heap.size, 0, none⟩) 2 2)) = w9 at *
  obtain ⟨⟨y0, y1, y2, y3, y4⟩, -⟩ := HR
  clear r0 r1 r2 r3 r4 f0 f1 f2 f3 f4 a0 a1 a2 a3 a4 b0 b1 b2 b3 b4 HVr2
  refine bodyPost_ret (v := .agg #[.int .i64 6, .int .i64 0, .string ⟨#[]⟩, .slice (some ⟨w2.heap.size + 1, 0, none⟩) 2 2, .slice (some ⟨w2.heap.size, 0, none⟩) 2 2]) ?_ rfl ⟨w2.heap.size, rfl, S1.more (by omega), S2.more (by omega), by rw [hg0]; exact hb9⟩
  simp [results, Tryd.results28, go_sem, *]
end Go.Proofs.YtndolgbbochpjaaDoor
