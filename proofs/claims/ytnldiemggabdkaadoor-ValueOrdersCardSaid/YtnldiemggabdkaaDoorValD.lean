/-
  Layer 4: reaches; sums over kids (for ValueHolds).
-/
import Derived.Test.YtnldiemggabdkaaDoorValC
namespace Go.Proofs.YtnldiemggabdkaaDoor
open Go.RowKit
set_option linter.unusedVariables false

theorem sameR_self (T : VT) (h : T.ok = true) : sameR T T = true := by
  unfold sameR
  rw [h, (sameV_iff T T).2 rfl]
  rfl
set_option maxRecDepth 20000 in
set_option maxHeartbeats 2000000 in
theorem reaches_yes (T K : VT) (x : ByteArray) (B : Nat) (w : World) (hL : Lie w B T) (hK : Lie w B K) (hB : B ≤ w.heap.size) (hok : T.ok = true) (hKok : K.ok = true) (hget : T.get x = some K) (htab : UTab w) (hst : STab w) :
    Calls Tryd.prog 36 #[T.agg, .string x, K.agg] w fun e w' => e = .returned (.bool true) ∧ Below w.heap.size w w' := by
  have HG := Lib.hid (fun W (h : Below w.heap.size w W) => get_any B W T x (hL.later (h.mono hB)) (Nat.le_trans hB h.size) (htab.below h htab.lt) (hst.below h hst.lt))
  have HP := Lib.hid (fun A c b2 W (h : Below w.heap.size w W) h1 h2 => path_any B W T A 1 c [x] b2 (hL.later (h.mono hB)) (Nat.le_trans hB h.size) h1 h2 (by decide) (htab.below h htab.lt) (hst.below h hst.lt))
  have HS := Lib.hid (fun W (h : Below w.heap.size w W) => same_any B W K K (hK.later (h.mono hB)) (hK.later (h.mono hB)) (Nat.le_trans hB h.size) (htab.below h htab.lt) (hst.below h hst.lt))
  simp only [path_one, if_pos hok, hget, sameR_self K hKok] at HG HP HS
  obtain ⟨k, n, s, cA, cn, cc, kA, kn, kc, keys, kids⟩ := T
  obtain ⟨k', n', s', cA', cn', cc', kA', kn', kc', keys', kids'⟩ := K
  simp only [memR, VT.agg] at HG HP HS ⊢
  have hb := bel_alloc (bel_alloc (Below.refl w.heap.size w) (.cells #[.int .i64 k, .int .i64 n, .string s, .slice cA cn cc, .slice kA kn kc] 25)) (.cells #[.int .i64 k', .int .i64 n', .string s', .slice cA' cn' cc', .slice kA' kn' kc'] 25)
  have Hv := Lib.hid ((VFive.new w (.int .i64 k) (.int .i64 n) (.string s) (.slice cA cn cc) (.slice kA kn kc) 25 w.heap.size rfl).alloc (.cells #[.int .i64 k', .int .i64 n', .string s', .slice cA' cn' cc', .slice kA' kn' kc'] 25))
  have Hk := Lib.hid (VFive.new (w.alloc (.cells #[.int .i64 k, .int .i64 n, .string s, .slice cA cn cc, .slice kA kn kc] 25)) (.int .i64 k') (.int .i64 n') (.string s') (.slice cA' cn' cc') (.slice kA' kn' kc') 25 (w.heap.size + 1) (World.size_alloc _ _))
  clear hL hK hget hok hKok htab hst
  go_enter Tryd.func36, Tryd.ntmps36
  go_wp2_with fail
  refine (HG.out _ hb).mono ?_
  rintro e w1 ⟨rfl, hb1⟩
  have hb2 := bel_alloc (bel_next hb hb1) (.cells #[.int .i64 k', .int .i64 n', .string s', .slice cA' cn' cc', .slice kA' kn' kc'] 25)
  have Hv2 := Lib.hid ((Hv.out.later hb1).alloc (.cells #[.int .i64 k', .int .i64 n', .string s', .slice cA' cn' cc', .slice kA' kn' kc'] 25))
  have Hk2 := Lib.hid ((Hk.out.later hb1).alloc (.cells #[.int .i64 k', .int .i64 n', .string s', .slice cA' cn' cc', .slice kA' kn' kc'] 25))
  have Hx2 := Lib.hid (VFive.new w1 (.int .i64 k') (.int .i64 n') (.string s') (.slice cA' cn' cc') (.slice kA' kn' kc') 25 w1.heap.size rfl)
  obtain ⟨⟨v0, v1, v2, v3, v4⟩, -⟩ := Hv2.out
  have hb3 := bel_alloc hb2 (.cells #[.string x] 9)
  have hnew := shows_new (w1.alloc (.cells #[.int .i64 k', .int .i64 n', .string s', .slice cA' cn' cc', .slice kA' kn' kc'] 25)) #[.string x] 9 (w1.heap.size + 1) 1 1 (World.size_alloc _ _) rfl
  go_wp2_with fail
  refine (HP.out (some ⟨w1.heap.size + 1, 0, none⟩) 1 (w1.heap.size + 1 + 1) _ hb3 hnew (by simp)).mono ?_
  rintro e w2 ⟨rfl, hb4⟩
  have hb5 := bel_alloc (bel_next hb3 hb4) (.cells #[.int .i64 k', .int .i64 n', .string s', .slice cA' cn' cc', .slice kA' kn' kc'] 25)
  have Hk5 := Lib.hid ((((Hk2.out.alloc (.cells #[.string x] 9)).later hb4).alloc (.cells #[.int .i64 k', .int .i64 n', .string s', .slice cA' cn' cc', .slice kA' kn' kc'] 25)))
  have Hx5 := Lib.hid ((((Hx2.out.alloc (.cells #[.string x] 9)).later hb4).alloc (.cells #[.int .i64 k', .int .i64 n', .string s', .slice cA' cn' cc', .slice kA' kn' kc'] 25)))
  have Hy5 := Lib.hid (VFive.new w2 (.int .i64 k') (.int .i64 n') (.string s') (.slice cA' cn' cc') (.slice kA' kn' kc') 25 w2.heap.size rfl)
  clear v0 v1 v2 v3 v4 hnew Hv2 Hk2 Hx2 hb1 hb2 hb3 hb4 Hv Hk HG HP hb
  obtain ⟨⟨k0, k1, k2, k3, k4⟩, -⟩ := Hk5.out
  obtain ⟨⟨x0, x1, x2, x3, x4⟩, -⟩ := Hx5.out
  go_wp2_with fail
  refine (HS.out _ hb5).mono ?_
  rintro e w3 ⟨rfl, hb6⟩
  have hb7 := bel_next hb5 hb6
  have Hk7 := Lib.hid (Hk5.out.later hb6)
  have Hy7 := Lib.hid (Hy5.out.later hb6)
  clear k0 k1 k2 k3 k4 x0 x1 x2 x3 x4 Hk5 Hx5 Hy5 hb5 hb6
  obtain ⟨⟨k0, k1, k2, k3, k4⟩, -⟩ := Hk7.out
  obtain ⟨⟨x0, x1, x2, x3, x4⟩, -⟩ := Hy7.out
  go_wp2_with fail
  refine (HS.out _ hb7).mono ?_
  rintro e w4 ⟨rfl, hb8⟩
  go_wp2
  go_ret
  exact ⟨rfl, bel_next hb7 hb8⟩

theorem dep_take {l : List VT} {j : Nat} {x : VT} (h : l[j]? = some x) : maxL ((l.take (j + 1)).map VT.dep) = max (maxL ((l.take j).map VT.dep)) x.dep := by
  rw [List.take_add_one, h, List.map_append, maxL_append]
  simp [maxL]
theorem cnt_take {l : List VT} {j : Nat} {x : VT} (h : l[j]? = some x) : 1 + ((l.take (j + 1)).map VT.cnt).sum = (1 + ((l.take j).map VT.cnt).sum) + x.cnt := by
  rw [List.take_add_one, h, List.map_append, List.sum_append]
  simp; omega
theorem ok_bounds {T : VT} (h : T.ok = true) : T.dep ≤ 8 ∧ T.cnt ≤ 256 := by
  unfold VT.ok at h
  simp only [Bool.and_eq_true, decide_eq_true_eq] at h
  exact ⟨h.1, h.2.1⟩
theorem dep_pre {l : List VT} (j : Nat) (h : ∀ x ∈ l, x.dep ≤ 8) : maxL ((l.take j).map VT.dep) ≤ 8 := by
  have : ∀ m : List VT, (∀ x ∈ m, x.dep ≤ 8) → maxL (m.map VT.dep) ≤ 8 := by
    intro m
    induction m with
    | nil => intro _; simp [maxL]
    | cons x m ih =>
      intro h
      rw [List.map_cons, maxL_cons]
      have := h x (by simp)
      have := ih fun y hy => h y (by simp [hy])
      omega
  exact this _ fun x hx => h x (List.mem_of_mem_take hx)
theorem cnt_pre (l : List VT) (j : Nat) : ((l.take j).map VT.cnt).sum ≤ (l.map VT.cnt).sum := by
  conv => rhs; rw [← List.take_append_drop j l, List.map_append, List.sum_append]
  omega
end Go.Proofs.YtnldiemggabdkaaDoor
