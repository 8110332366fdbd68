import Derived.Test.YtinaecmpigenoaaGal
/-
  Layer 4, the reference: alone.
-/
namespace Go.Proofs.Ytinaecmpigenoaa
open Go.RowKit
set_option linter.unusedVariables false

theorem isE (s : ByteArray) : s.toList.isEmpty = (s.toList == []) := by cases s.toList <;> rfl
theorem num0 (n : Int) : (false || (decide (0 ≤ n) && decide (n ≤ 0))) = (n == 0) := by rw [Bool.eq_iff_iff]; simp; omega
theorem num1 (n : Int) : (false || (decide (0 ≤ n) && decide (n ≤ 1))) = (n == 0 || n == 1) := by rw [Bool.eq_iff_iff]; simp; omega
theorem nat0 (n : Nat) : (n == 0) = ((n : Int) == 0) := by rw [Bool.eq_iff_iff]; simp
theorem valid_empty {s : ByteArray} (h : s.toList = []) : validS s = true := by
  rw [ByteArray.toList_eq] at h
  unfold validS
  rw [h, pts_zero rfl]
  rfl
section
variable (n : Int) (s : ByteArray) (cA : Option Addr) (cn cc : Nat) (kA : Option Addr) (kn kc : Nat) (keys : List ByteArray) (kids : List VT)
theorem fit_1 : (VT.mk 1 n s cA cn cc kA kn kc keys kids).fit = ((n == 0) && ((s.toList == []) && (((cn : Int) == 0) && ((kn : Int) == 0)))) := by
  show (true && (numQ false 0 n && ((s.toList.isEmpty || (false && validS s)) && ((cn == 0 || false) && (kn == 0))))) = _
  unfold numQ
  rw [num0, isE, nat0, nat0]
  simp
theorem fit_2 : (VT.mk 2 n s cA cn cc kA kn kc keys kids).fit = ((n == 0 || n == 1) && ((s.toList == []) && (((cn : Int) == 0) && ((kn : Int) == 0)))) := by
  show (true && (numQ false 1 n && ((s.toList.isEmpty || (false && validS s)) && ((cn == 0 || false) && (kn == 0))))) = _
  unfold numQ
  rw [num1, isE, nat0, nat0]
  simp
theorem fit_3 : (VT.mk 3 n s cA cn cc kA kn kc keys kids).fit = ((s.toList == []) && (((cn : Int) == 0) && ((kn : Int) == 0))) := by
  show (true && (numQ true 0 n && ((s.toList.isEmpty || (false && validS s)) && ((cn == 0 || false) && (kn == 0))))) = _
  unfold numQ
  rw [isE, nat0, nat0]
  simp
theorem fit_4 : (VT.mk 4 n s cA cn cc kA kn kc keys kids).fit = ((n == 0) && (validS s && (((cn : Int) == 0) && ((kn : Int) == 0)))) := by
  show (true && (numQ false 0 n && ((s.toList.isEmpty || (true && validS s)) && ((cn == 0 || false) && (kn == 0))))) = _
  unfold numQ
  rw [num0, isE, nat0, nat0]
  have : ((s.toList == []) || (true && validS s)) = validS s := by
    cases h : (s.toList == [])
    · simp
    · rw [valid_empty (by rw [← beq_iff_eq]; exact h)]; rfl
  rw [this]
  simp
theorem fit_5 : (VT.mk 5 n s cA cn cc kA kn kc keys kids).fit = ((n == 0) && ((s.toList == []) && ((kn : Int) == 0))) := by
  show (true && (numQ false 0 n && ((s.toList.isEmpty || (false && validS s)) && ((cn == 0 || true) && (kn == 0))))) = _
  unfold numQ
  rw [num0, isE, nat0 kn]
  simp
theorem fit_6 (hk : Hid (keysB keys = true)) : (VT.mk 6 n s cA cn cc kA kn kc keys kids).fit = ((n == 0) && ((s.toList == []) && ((cn : Int) == (kn : Int)))) := by
  show (true && (numQ false 0 n && ((s.toList.isEmpty || (false && validS s)) && ((cn == 0 || true) && (kn == cn && keysB keys))))) = _
  unfold numQ
  rw [num0, isE, hk.out]
  have : (kn == cn) = ((cn : Int) == (kn : Int)) := by rw [Bool.eq_iff_iff]; simp; omega
  rw [this]
  simp
theorem fit_no {k : Int} (h : ¬ (1 ≤ k ∧ k ≤ 6)) : (VT.mk k n s cA cn cc kA kn kc keys kids).fit = false := by
  show (shKnown k && _) = false
  have : shKnown k = false := by unfold shKnown; simp; omega
  rw [this]; rfl
theorem fit_keys {k : Int} (h : keysB keys = false) (hl : keys.length = kn) : (VT.mk k n s cA cn cc kA kn kc keys kids).fit = false := by
  have hm : memB k cn kn keys = false := by
    unfold memB memQ
    split
    · rw [h]; simp
    · have : keys ≠ [] := by intro e; rw [e] at h; cases h
      have h2 : 0 < keys.length := List.length_pos_iff.2 this
      rw [beq_eq_false_iff_ne]; omega
  show (shKnown k && (numB k n && (strB k s && (eleB k cn && memB k cn kn keys)))) = false
  rw [hm]
  simp
end
set_option maxRecDepth 20000 in
set_option maxHeartbeats 4000000 in
theorem alone_any (k n : Int) (s : ByteArray) (cA : Option Addr) (cn cc : Nat) (kA : Option Addr) (kn kc : Nat) (keys : List ByteArray) (kids : List VT) (B : Nat) (w : World) (hk : Shows w B 1 kA kn (keys.map Value.string)) (hkm : kn ≤ maxLen) (hB : B ≤ w.heap.size) (hs : s.size ≤ 1048576) (hks : ∀ x ∈ keys, x.size ≤ 1048576) :
    Calls Try.prog 54 #[.agg #[.int .i64 k, .int .i64 n, .string s, .slice cA cn cc, .slice kA kn kc]] w fun e w' => e = .returned (.bool (VT.fit (.mk k n s cA cn cc kA kn kc keys kids))) ∧ Below w.heap.size w w' := by
  have Hl := Lib.hid (keys_len hk)
  have HK := Lib.hid hk
  have Hks := Lib.hid hks
  have HVs := Lib.hid (fun (W : World) (h : Below (w.alloc (.cells #[.int .i64 k, .int .i64 n, .string s, .slice cA cn cc, .slice kA kn kc] 42)).heap.size (w.alloc (.cells #[.int .i64 k, .int .i64 n, .string s, .slice cA cn cc, .slice kA kn kc] 42)) W) => rvalid_any s W hs)
  have hb1 := bel_alloc (Below.refl w.heap.size w) (.cells #[.int .i64 k, .int .i64 n, .string s, .slice cA cn cc, .slice kA kn kc] 42)
  have Hv := Lib.hid (VFive.new w (.int .i64 k) (.int .i64 n) (.string s) (.slice cA cn cc) (.slice kA kn kc) 42 w.heap.size rfl)
  unfold maxLen at hkm
  clear hk hs hks
  go_enter Try.func54, Try.ntmps54
  go_upto_region 1 with fail
  generalize (w.alloc (.cells #[.int .i64 k, .int .i64 n, .string s, .slice cA cn cc, .slice kA kn kc] 42)) = W1 at *
  go_wp2
  go_loopw [3] (fun i wr => ∃ j : Nat, j ≤ kn ∧ i = .int .i64 j ∧ Hid (∀ q, q < j → keyOK keys q = true) ∧ Below W1.heap.size W1 wr) (fun i _ => kn - (intOf i).toNat)
  case atStart => exact ⟨0, Nat.zero_le _, rfl, Lib.hid (fun q h => absurd h (Nat.not_lt_zero q)), Below.refl _ _⟩
  case round =>
    obtain ⟨j, hj, rfl, Hq, hbr⟩ := hrel
    have v0 : ∀ W, Below W1.heap.size W1 W → W.cell? ⟨w.heap.size, 0, none⟩ = some (.int .i64 k) := fun W h => (Hv.out.later h).1.1
    have v1 : ∀ W, Below W1.heap.size W1 W → W.cell? ⟨w.heap.size, 1, none⟩ = some (.int .i64 n) := fun W h => (Hv.out.later h).1.2.1
    have v2 : ∀ W, Below W1.heap.size W1 W → W.cell? ⟨w.heap.size, 2, none⟩ = some (.string s) := fun W h => (Hv.out.later h).1.2.2.1
    have v3 : ∀ W, Below W1.heap.size W1 W → W.cell? ⟨w.heap.size, 3, none⟩ = some (.slice cA cn cc) := fun W h => (Hv.out.later h).1.2.2.2.1
    have v4 : ∀ W, Below W1.heap.size W1 W → W.cell? ⟨w.heap.size, 4, none⟩ = some (.slice kA kn kc) := fun W h => (Hv.out.later h).1.2.2.2.2
    have u4 := v4 wr hbr
    by_cases hlt : j < kn
    · have hlt' : (j : Int) < kn := by omega
      have hj0 : (0 : Int) ≤ j := by omega
      obtain ⟨b, off, rfl, hbk, _⟩ := key_at HK.out hlt
      have hcj : ∀ i, i < kn → ∀ W, Below W1.heap.size W1 W → W.cell? ⟨b, off + i, none⟩ = some (.string (keys.getD i ⟨#[]⟩)) := fun i hi W h => by
        obtain ⟨b2, o2, e, _, hc2⟩ := key_at (HK.out.below ((bel_next hb1 h).mono hB)) hi
        injection e with e
        injection e with e1 e2
        subst e1; subst e2
        exact hc2
      have hin : ∀ i, i < kn → (keys.getD i ⟨#[]⟩).size ≤ 1048576 := fun i hi => by
        rw [List.getD_eq_getElem?_getD, List.getElem?_eq_getElem (by rw [Hl.out]; exact hi)]
        exact Hks.out _ (List.getElem_mem _)
      have c1 := hcj j hlt
      have HVa := Lib.hid (fun (W : World) (h : Below W1.heap.size W1 W) => rvalid_any (keys.getD j ⟨#[]⟩) W (hin j hlt))
      have HIn0 := Lib.hid (fun h : keyOK keys j = true => show Hid (∀ q, q < j + 1 → keyOK keys q = true) from Lib.hid fun q h2 => if e : q = j then e ▸ h else Hq.out q (by omega))
      have HNo0 := Lib.hid (fun h : keyOK keys j = false => show VT.fit (.mk k n s cA cn cc (some ⟨b, off, none⟩) kn kc keys kids) = false from fit_keys _ _ _ _ _ _ _ _ _ _ (by
        cases hk : keysB keys with
        | false => rfl
        | true => have := (keysB_iff keys).1 hk j (by rw [Hl.out]; exact hlt); rw [h] at this; cases this) Hl.out)
      have Hok := Lib.hid (show keyOK keys j = (validS (keys.getD j ⟨#[]⟩) && (j == 0 || Op.bytesLess (keys.getD (j - 1) ⟨#[]⟩).toList (keys.getD j ⟨#[]⟩).toList)) from rfl)
      go_upto_region 4 with fail
      cases hv : validS (keys.getD j ⟨#[]⟩)
      · have HNo := Lib.hid (HNo0.out (by rw [Hok.out, hv]; rfl))
        rw [hv] at HVa
        clear hv hcj hin HIn0 HNo0 Hok u4
        · generalize keys.getD j ⟨#[]⟩ = x at *
          refine wp_region_held_drew (S := fun W => Below W1.heap.size W1 W) (by kernel_rfl) (below_drewN hbr 1) (fun hHeld => ?_)
          refine rg_in 0 rfl (by kernel_rfl) (by kernel_rfl) (by kernel_rfl) (by rfl) (v := ?_) (fun _ _ _ h => h) hHeld (fun w hSw => ?_) ?_
          rotate_left
          · (try dsimp only at hSw); go_simp <;> (with_reducible rfl)
          (try simp only [Act.put, List.setIfInBounds_toArray, List.set_cons_zero, List.set_cons_succ])
          refine rg_in 1 rfl (by kernel_rfl) (by kernel_rfl) (by kernel_rfl) (by rfl) (v := ?_) (fun _ _ _ h => h) hHeld (fun w hSw => ?_) ?_
          rotate_left
          · (try dsimp only at hSw); go_simp <;> (with_reducible rfl)
          (try simp only [Act.put, List.setIfInBounds_toArray, List.set_cons_zero, List.set_cons_succ])
          refine rg_in 2 rfl (by kernel_rfl) (by kernel_rfl) (by kernel_rfl) (by rfl) (v := ?_) (fun _ _ _ h => h) hHeld (fun w hSw => ?_) ?_
          rotate_left
          · (try dsimp only at hSw); go_simp <;> (with_reducible rfl)
          (try simp only [Act.put, List.setIfInBounds_toArray, List.set_cons_zero, List.set_cons_succ])
          refine rg_in 3 rfl (by kernel_rfl) (by kernel_rfl) (by kernel_rfl) (by rfl) (v := ?_) (fun _ _ _ h => h) hHeld (fun w hSw => ?_) ?_
          rotate_left
          · (try dsimp only at hSw); go_simp <;> (with_reducible rfl)
          (try simp only [Act.put, List.setIfInBounds_toArray, List.set_cons_zero, List.set_cons_succ])
          refine rg_in 4 rfl (by kernel_rfl) (by kernel_rfl) (by kernel_rfl) (by rfl) (v := ?_) (fun _ _ _ h => h) hHeld (fun w hSw => ?_) ?_
          rotate_left
          · (try dsimp only at hSw); go_simp <;> (with_reducible rfl)
          (try simp only [Act.put, List.setIfInBounds_toArray, List.set_cons_zero, List.set_cons_succ])
          refine rg_do 5 rfl (by kernel_rfl) (by rfl) (fun K hK => ?_)
          go_simp
          (go_at_call 56; (with_reducible refine (HVa.out _ hHeld).mono ?_); (rintro e w105 ⟨rfl, hb5⟩))
          refine hK.out _ _ (S_call hb5 hHeld rfl) (fun hHeld => ?_)
          clear hK K
          (try simp only [Act.put, List.setIfInBounds_toArray, List.set_cons_zero, List.set_cons_succ])
          refine rg_in 6 rfl (by kernel_rfl) (by kernel_rfl) (by kernel_rfl) (by rfl) (v := ?_) (fun _ _ _ h => h) hHeld (fun w hSw => ?_) ?_
          rotate_left
          · (try dsimp only at hSw); go_simp <;> (with_reducible rfl)
          (try simp only [Act.put, List.setIfInBounds_toArray, List.set_cons_zero, List.set_cons_succ])
          refine rg_in 7 rfl (by kernel_rfl) (by kernel_rfl) (by kernel_rfl) (by rfl) (v := ?_) (fun _ _ _ h => h) hHeld (fun w hSw => ?_) ?_
          rotate_left
          · (try dsimp only at hSw); go_simp <;> (with_reducible rfl)
          (try simp only [Act.put, List.setIfInBounds_toArray, List.set_cons_zero, List.set_cons_succ])
          refine rg_off 8 rfl (by kernel_rfl) (by kernel_rfl) (by kernel_rfl) (by rfl) (fun _ _ _ h => h) hHeld ?_
          (try simp only [Act.put, List.setIfInBounds_toArray, List.set_cons_zero, List.set_cons_succ])
          refine rg_off 9 rfl (by kernel_rfl) (by kernel_rfl) (by kernel_rfl) (by rfl) (fun _ _ _ h => h) hHeld ?_
          (try simp only [Act.put, List.setIfInBounds_toArray, List.set_cons_zero, List.set_cons_succ])
          refine rg_off 10 rfl (by kernel_rfl) (by kernel_rfl) (by kernel_rfl) (by rfl) (fun _ _ _ h => h) hHeld ?_
          (try simp only [Act.put, List.setIfInBounds_toArray, List.set_cons_zero, List.set_cons_succ])
          refine rg_off 11 rfl (by kernel_rfl) (by kernel_rfl) (by kernel_rfl) (by rfl) (fun _ _ _ h => h) hHeld ?_
          (try simp only [Act.put, List.setIfInBounds_toArray, List.set_cons_zero, List.set_cons_succ])
          refine rg_off 12 rfl (by kernel_rfl) (by kernel_rfl) (by kernel_rfl) (by rfl) (fun _ _ _ h => h) hHeld ?_
          (try simp only [Act.put, List.setIfInBounds_toArray, List.set_cons_zero, List.set_cons_succ])
          refine rg_off 13 rfl (by kernel_rfl) (by kernel_rfl) (by kernel_rfl) (by rfl) (fun _ _ _ h => h) hHeld ?_
          (try simp only [Act.put, List.setIfInBounds_toArray, List.set_cons_zero, List.set_cons_succ])
          refine rg_off 14 rfl (by kernel_rfl) (by kernel_rfl) (by kernel_rfl) (by rfl) (fun _ _ _ h => h) hHeld ?_
          (try simp only [Act.put, List.setIfInBounds_toArray, List.set_cons_zero, List.set_cons_succ])
          refine rg_off 15 rfl (by kernel_rfl) (by kernel_rfl) (by kernel_rfl) (by rfl) (fun _ _ _ h => h) hHeld ?_
          (try simp only [Act.put, List.setIfInBounds_toArray, List.set_cons_zero, List.set_cons_succ])
          refine rg_off 16 rfl (by kernel_rfl) (by kernel_rfl) (by kernel_rfl) (by rfl) (fun _ _ _ h => h) hHeld ?_
          (try simp only [Act.put, List.setIfInBounds_toArray, List.set_cons_zero, List.set_cons_succ])
          refine rg_off 17 rfl (by kernel_rfl) (by kernel_rfl) (by kernel_rfl) (by rfl) (fun _ _ _ h => h) hHeld ?_
          (try simp only [Act.put, List.setIfInBounds_toArray, List.set_cons_zero, List.set_cons_succ])
          refine rg_off 18 rfl (by kernel_rfl) (by kernel_rfl) (by kernel_rfl) (by rfl) (fun _ _ _ h => h) hHeld ?_
          (try simp only [Act.put, List.setIfInBounds_toArray, List.set_cons_zero, List.set_cons_succ])
          refine rg_off 19 rfl (by kernel_rfl) (by kernel_rfl) (by kernel_rfl) (by rfl) (fun _ _ _ h => h) hHeld ?_
          (try simp only [Act.put, List.setIfInBounds_toArray, List.set_cons_zero, List.set_cons_succ])
          refine rg_off 20 rfl (by kernel_rfl) (by kernel_rfl) (by kernel_rfl) (by rfl) (fun _ _ _ h => h) hHeld ?_
          (try simp only [Act.put, List.setIfInBounds_toArray, List.set_cons_zero, List.set_cons_succ])
          refine rg_off 21 rfl (by kernel_rfl) (by kernel_rfl) (by kernel_rfl) (by rfl) (fun _ _ _ h => h) hHeld ?_
          (try simp only [Act.put, List.setIfInBounds_toArray, List.set_cons_zero, List.set_cons_succ])
          refine rg_off 22 rfl (by kernel_rfl) (by kernel_rfl) (by kernel_rfl) (by rfl) (fun _ _ _ h => h) hHeld ?_
          (try simp only [Act.put, List.setIfInBounds_toArray, List.set_cons_zero, List.set_cons_succ])
          refine rg_off 23 rfl (by kernel_rfl) (by kernel_rfl) (by kernel_rfl) (by rfl) (fun _ _ _ h => h) hHeld ?_
          (try simp only [Act.put, List.setIfInBounds_toArray, List.set_cons_zero, List.set_cons_succ])
          refine rg_in 24 rfl (by kernel_rfl) (by kernel_rfl) (by kernel_rfl) (by rfl) (v := ?_) (fun _ _ _ h => h) hHeld (fun w hSw => ?_) ?_
          rotate_left
          · (try dsimp only at hSw); go_simp <;> (with_reducible rfl)
          (try simp only [Act.put, List.setIfInBounds_toArray, List.set_cons_zero, List.set_cons_succ])
          refine wpAnyH_done (by kernel_rfl) ?_ _
          go_wp2
          go_ret
          exact ⟨vret_b (by rw [HNo.out]), bel_next hb1 hHeld⟩
      · rw [hv] at HVa
        by_cases hj1 : j = 0
        · subst hj1
          have HIn := HIn0.out (by rw [Hok.out, hv]; rfl)
          have c1 : ∀ W, Below W1.heap.size W1 W → W.cell? ⟨b, off, none⟩ = some (.string (keys.getD 0 ⟨#[]⟩)) := c1
          clear hv hcj hin HIn0 HNo0 Hok u4
          · generalize keys.getD 0 ⟨#[]⟩ = x at *
            refine wp_region_held_drew (S := fun W => Below W1.heap.size W1 W) (by kernel_rfl) (below_drewN hbr 1) (fun hHeld => ?_)
            refine rg_in 0 rfl (by kernel_rfl) (by kernel_rfl) (by kernel_rfl) (by rfl) (v := ?_) (fun _ _ _ h => h) hHeld (fun w hSw => ?_) ?_
            rotate_left
            · (try dsimp only at hSw); go_simp <;> (with_reducible rfl)
            (try simp only [Act.put, List.setIfInBounds_toArray, List.set_cons_zero, List.set_cons_succ])
            refine rg_in 1 rfl (by kernel_rfl) (by kernel_rfl) (by kernel_rfl) (by rfl) (v := ?_) (fun _ _ _ h => h) hHeld (fun w hSw => ?_) ?_
            rotate_left
            · (try dsimp only at hSw); go_simp <;> (with_reducible rfl)
            (try simp only [Act.put, List.setIfInBounds_toArray, List.set_cons_zero, List.set_cons_succ])
            refine rg_in 2 rfl (by kernel_rfl) (by kernel_rfl) (by kernel_rfl) (by rfl) (v := ?_) (fun _ _ _ h => h) hHeld (fun w hSw => ?_) ?_
            rotate_left
            · (try dsimp only at hSw); go_simp <;> (with_reducible rfl)
            (try simp only [Act.put, List.setIfInBounds_toArray, List.set_cons_zero, List.set_cons_succ])
            refine rg_in 3 rfl (by kernel_rfl) (by kernel_rfl) (by kernel_rfl) (by rfl) (v := ?_) (fun _ _ _ h => h) hHeld (fun w hSw => ?_) ?_
            rotate_left
            · (try dsimp only at hSw); go_simp <;> (with_reducible rfl)
            (try simp only [Act.put, List.setIfInBounds_toArray, List.set_cons_zero, List.set_cons_succ])
            refine rg_in 4 rfl (by kernel_rfl) (by kernel_rfl) (by kernel_rfl) (by rfl) (v := ?_) (fun _ _ _ h => h) hHeld (fun w hSw => ?_) ?_
            rotate_left
            · (try dsimp only at hSw); go_simp <;> (with_reducible rfl)
            (try simp only [Act.put, List.setIfInBounds_toArray, List.set_cons_zero, List.set_cons_succ])
            refine rg_do 5 rfl (by kernel_rfl) (by rfl) (fun K hK => ?_)
            go_simp
            (go_at_call 56; (with_reducible refine (HVa.out _ hHeld).mono ?_); (rintro e w105 ⟨rfl, hb5⟩))
            refine hK.out _ _ (S_call hb5 hHeld rfl) (fun hHeld => ?_)
            clear hK K
            (try simp only [Act.put, List.setIfInBounds_toArray, List.set_cons_zero, List.set_cons_succ])
            refine rg_in 6 rfl (by kernel_rfl) (by kernel_rfl) (by kernel_rfl) (by rfl) (v := ?_) (fun _ _ _ h => h) hHeld (fun w hSw => ?_) ?_
            rotate_left
            · (try dsimp only at hSw); go_simp <;> (with_reducible rfl)
            (try simp only [Act.put, List.setIfInBounds_toArray, List.set_cons_zero, List.set_cons_succ])
            refine rg_in 7 rfl (by kernel_rfl) (by kernel_rfl) (by kernel_rfl) (by rfl) (v := ?_) (fun _ _ _ h => h) hHeld (fun w hSw => ?_) ?_
            rotate_left
            · (try dsimp only at hSw); go_simp <;> (with_reducible rfl)
            (try simp only [Act.put, List.setIfInBounds_toArray, List.set_cons_zero, List.set_cons_succ])
            refine rg_in 8 rfl (by kernel_rfl) (by kernel_rfl) (by kernel_rfl) (by rfl) (v := ?_) (fun _ _ _ h => h) hHeld (fun w hSw => ?_) ?_
            rotate_left
            · (try dsimp only at hSw); go_simp <;> (with_reducible rfl)
            (try simp only [Act.put, List.setIfInBounds_toArray, List.set_cons_zero, List.set_cons_succ])
            refine rg_in 9 rfl (by kernel_rfl) (by kernel_rfl) (by kernel_rfl) (by rfl) (v := ?_) (fun _ _ _ h => h) hHeld (fun w hSw => ?_) ?_
            rotate_left
            · (try dsimp only at hSw); go_simp <;> (with_reducible rfl)
            (try simp only [Act.put, List.setIfInBounds_toArray, List.set_cons_zero, List.set_cons_succ])
            refine rg_in 10 rfl (by kernel_rfl) (by kernel_rfl) (by kernel_rfl) (by rfl) (v := ?_) (fun _ _ _ h => h) hHeld (fun w hSw => ?_) ?_
            rotate_left
            · (try dsimp only at hSw); go_simp <;> (with_reducible rfl)
            (try simp only [Act.put, List.setIfInBounds_toArray, List.set_cons_zero, List.set_cons_succ])
            refine rg_off 11 rfl (by kernel_rfl) (by kernel_rfl) (by kernel_rfl) (by rfl) (fun _ _ _ h => h) hHeld ?_
            (try simp only [Act.put, List.setIfInBounds_toArray, List.set_cons_zero, List.set_cons_succ])
            refine rg_off 12 rfl (by kernel_rfl) (by kernel_rfl) (by kernel_rfl) (by rfl) (fun _ _ _ h => h) hHeld ?_
            (try simp only [Act.put, List.setIfInBounds_toArray, List.set_cons_zero, List.set_cons_succ])
            refine rg_off 13 rfl (by kernel_rfl) (by kernel_rfl) (by kernel_rfl) (by rfl) (fun _ _ _ h => h) hHeld ?_
            (try simp only [Act.put, List.setIfInBounds_toArray, List.set_cons_zero, List.set_cons_succ])
            refine rg_off 14 rfl (by kernel_rfl) (by kernel_rfl) (by kernel_rfl) (by rfl) (fun _ _ _ h => h) hHeld ?_
            (try simp only [Act.put, List.setIfInBounds_toArray, List.set_cons_zero, List.set_cons_succ])
            refine rg_off 15 rfl (by kernel_rfl) (by kernel_rfl) (by kernel_rfl) (by rfl) (fun _ _ _ h => h) hHeld ?_
            (try simp only [Act.put, List.setIfInBounds_toArray, List.set_cons_zero, List.set_cons_succ])
            refine rg_off 16 rfl (by kernel_rfl) (by kernel_rfl) (by kernel_rfl) (by rfl) (fun _ _ _ h => h) hHeld ?_
            (try simp only [Act.put, List.setIfInBounds_toArray, List.set_cons_zero, List.set_cons_succ])
            refine rg_off 17 rfl (by kernel_rfl) (by kernel_rfl) (by kernel_rfl) (by rfl) (fun _ _ _ h => h) hHeld ?_
            (try simp only [Act.put, List.setIfInBounds_toArray, List.set_cons_zero, List.set_cons_succ])
            refine rg_off 18 rfl (by kernel_rfl) (by kernel_rfl) (by kernel_rfl) (by rfl) (fun _ _ _ h => h) hHeld ?_
            (try simp only [Act.put, List.setIfInBounds_toArray, List.set_cons_zero, List.set_cons_succ])
            refine rg_off 19 rfl (by kernel_rfl) (by kernel_rfl) (by kernel_rfl) (by rfl) (fun _ _ _ h => h) hHeld ?_
            (try simp only [Act.put, List.setIfInBounds_toArray, List.set_cons_zero, List.set_cons_succ])
            refine rg_off 20 rfl (by kernel_rfl) (by kernel_rfl) (by kernel_rfl) (by rfl) (fun _ _ _ h => h) hHeld ?_
            (try simp only [Act.put, List.setIfInBounds_toArray, List.set_cons_zero, List.set_cons_succ])
            refine rg_off 21 rfl (by kernel_rfl) (by kernel_rfl) (by kernel_rfl) (by rfl) (fun _ _ _ h => h) hHeld ?_
            (try simp only [Act.put, List.setIfInBounds_toArray, List.set_cons_zero, List.set_cons_succ])
            refine rg_off 22 rfl (by kernel_rfl) (by kernel_rfl) (by kernel_rfl) (by rfl) (fun _ _ _ h => h) hHeld ?_
            (try simp only [Act.put, List.setIfInBounds_toArray, List.set_cons_zero, List.set_cons_succ])
            refine rg_in 23 rfl (by kernel_rfl) (by kernel_rfl) (by kernel_rfl) (by rfl) (v := ?_) (fun _ _ _ h => h) hHeld (fun w hSw => ?_) ?_
            rotate_left
            · (try dsimp only at hSw); go_simp <;> (with_reducible rfl)
            (try simp only [Act.put, List.setIfInBounds_toArray, List.set_cons_zero, List.set_cons_succ])
            refine rg_in 24 rfl (by kernel_rfl) (by kernel_rfl) (by kernel_rfl) (by rfl) (v := ?_) (fun _ _ _ h => h) hHeld (fun w hSw => ?_) ?_
            rotate_left
            · (try dsimp only at hSw); go_simp <;> (with_reducible rfl)
            (try simp only [Act.put, List.setIfInBounds_toArray, List.set_cons_zero, List.set_cons_succ])
            refine wpAnyH_done (by kernel_rfl) ?_ _
            go_wp2
            go_roundw
            case rel => exact ⟨_, by omega, by go_num, HIn, hHeld⟩
            case measure => simp [intOf]; omega
        · have hjp : (0 : Int) < (j : Int) := by omega
          have c0 := hcj (j - 1) (by omega)
          have hw : IntKind.i64.wrap ((j : Int) - 1) = ((j - 1 : Nat) : Int) := by rw [IntKind.wrap_i64]; omega
          have hw0 : (0 : Int) ≤ ((j - 1 : Nat) : Int) := by omega
          have hw1 : ((j - 1 : Nat) : Int) < (kn : Int) := by omega
          have hd1 : decide ((0 : Int) < (j : Int)) = true := decide_eq_true hjp
          have hd2 : decide (0 < j) = true := decide_eq_true (by omega)
          have hd3 : (0 < j) = True := eq_true (by omega)
          have ej : (j == 0) = false := by rw [beq_eq_false_iff_ne]; exact hj1
          cases hless : Op.bytesLess (keys.getD (j - 1) ⟨#[]⟩).toList (keys.getD j ⟨#[]⟩).toList
          · have HNo := Lib.hid (HNo0.out (by rw [Hok.out, hv, ej, hless]; rfl))
            clear hv hcj hin HIn0 HNo0 Hok u4 ej
            · generalize keys.getD (j - 1) ⟨#[]⟩ = y at *
              generalize keys.getD j ⟨#[]⟩ = x at *
              generalize hjm : j - 1 = jm at *
              clear hjm
              refine wp_region_held_drew (S := fun W => Below W1.heap.size W1 W) (by kernel_rfl) (below_drewN hbr 1) (fun hHeld => ?_)
              refine rg_in 0 rfl (by kernel_rfl) (by kernel_rfl) (by kernel_rfl) (by rfl) (v := ?_) (fun _ _ _ h => h) hHeld (fun w hSw => ?_) ?_
              rotate_left
              · (try dsimp only at hSw); go_simp <;> (with_reducible rfl)
              (try simp only [Act.put, List.setIfInBounds_toArray, List.set_cons_zero, List.set_cons_succ])
              refine rg_in 1 rfl (by kernel_rfl) (by kernel_rfl) (by kernel_rfl) (by rfl) (v := ?_) (fun _ _ _ h => h) hHeld (fun w hSw => ?_) ?_
              rotate_left
              · (try dsimp only at hSw); go_simp <;> (with_reducible rfl)
              (try simp only [Act.put, List.setIfInBounds_toArray, List.set_cons_zero, List.set_cons_succ])
              refine rg_in 2 rfl (by kernel_rfl) (by kernel_rfl) (by kernel_rfl) (by rfl) (v := ?_) (fun _ _ _ h => h) hHeld (fun w hSw => ?_) ?_
              rotate_left
              · (try dsimp only at hSw); go_simp <;> (with_reducible rfl)
              (try simp only [Act.put, List.setIfInBounds_toArray, List.set_cons_zero, List.set_cons_succ])
              refine rg_in 3 rfl (by kernel_rfl) (by kernel_rfl) (by kernel_rfl) (by rfl) (v := ?_) (fun _ _ _ h => h) hHeld (fun w hSw => ?_) ?_
              rotate_left
              · (try dsimp only at hSw); go_simp <;> (with_reducible rfl)
              (try simp only [Act.put, List.setIfInBounds_toArray, List.set_cons_zero, List.set_cons_succ])
              refine rg_in 4 rfl (by kernel_rfl) (by kernel_rfl) (by kernel_rfl) (by rfl) (v := ?_) (fun _ _ _ h => h) hHeld (fun w hSw => ?_) ?_
              rotate_left
              · (try dsimp only at hSw); go_simp <;> (with_reducible rfl)
              (try simp only [Act.put, List.setIfInBounds_toArray, List.set_cons_zero, List.set_cons_succ])
              refine rg_do 5 rfl (by kernel_rfl) (by rfl) (fun K hK => ?_)
              go_simp
              (go_at_call 56; (with_reducible refine (HVa.out _ hHeld).mono ?_); (rintro e w105 ⟨rfl, hb5⟩))
              refine hK.out _ _ (S_call hb5 hHeld rfl) (fun hHeld => ?_)
              clear hK K
              (try simp only [Act.put, List.setIfInBounds_toArray, List.set_cons_zero, List.set_cons_succ])
              refine rg_in 6 rfl (by kernel_rfl) (by kernel_rfl) (by kernel_rfl) (by rfl) (v := ?_) (fun _ _ _ h => h) hHeld (fun w hSw => ?_) ?_
              rotate_left
              · (try dsimp only at hSw); go_simp <;> (with_reducible rfl)
              (try simp only [Act.put, List.setIfInBounds_toArray, List.set_cons_zero, List.set_cons_succ])
              refine rg_in 7 rfl (by kernel_rfl) (by kernel_rfl) (by kernel_rfl) (by rfl) (v := ?_) (fun _ _ _ h => h) hHeld (fun w hSw => ?_) ?_
              rotate_left
              · (try dsimp only at hSw); go_simp <;> (with_reducible rfl)
              (try simp only [Act.put, List.setIfInBounds_toArray, List.set_cons_zero, List.set_cons_succ])
              refine rg_in 8 rfl (by kernel_rfl) (by kernel_rfl) (by kernel_rfl) (by rfl) (v := ?_) (fun _ _ _ h => h) hHeld (fun w hSw => ?_) ?_
              rotate_left
              · (try dsimp only at hSw); go_simp <;> (with_reducible rfl)
              (try simp only [Act.put, List.setIfInBounds_toArray, List.set_cons_zero, List.set_cons_succ])
              refine rg_in 9 rfl (by kernel_rfl) (by kernel_rfl) (by kernel_rfl) (by rfl) (v := ?_) (fun _ _ _ h => h) hHeld (fun w hSw => ?_) ?_
              rotate_left
              · (try dsimp only at hSw); go_simp <;> (with_reducible rfl)
              (try simp only [Act.put, List.setIfInBounds_toArray, List.set_cons_zero, List.set_cons_succ])
              refine rg_in 10 rfl (by kernel_rfl) (by kernel_rfl) (by kernel_rfl) (by rfl) (v := ?_) (fun _ _ _ h => h) hHeld (fun w hSw => ?_) ?_
              rotate_left
              · (try dsimp only at hSw); go_simp <;> (with_reducible rfl)
              (try simp only [Act.put, List.setIfInBounds_toArray, List.set_cons_zero, List.set_cons_succ])
              refine rg_in 11 rfl (by kernel_rfl) (by kernel_rfl) (by kernel_rfl) (by rfl) (v := ?_) (fun _ _ _ h => h) hHeld (fun w hSw => ?_) ?_
              rotate_left
              · (try dsimp only at hSw); go_simp <;> (with_reducible rfl)
              (try simp only [Act.put, List.setIfInBounds_toArray, List.set_cons_zero, List.set_cons_succ])
              refine rg_in 12 rfl (by kernel_rfl) (by kernel_rfl) (by kernel_rfl) (by rfl) (v := ?_) (fun _ _ _ h => h) hHeld (fun w hSw => ?_) ?_
              rotate_left
              · (try dsimp only at hSw); go_simp <;> (with_reducible rfl)
              (try simp only [Act.put, List.setIfInBounds_toArray, List.set_cons_zero, List.set_cons_succ])
              refine rg_in 13 rfl (by kernel_rfl) (by kernel_rfl) (by kernel_rfl) (by rfl) (v := ?_) (fun _ _ _ h => h) hHeld (fun w hSw => ?_) ?_
              rotate_left
              · (try dsimp only at hSw); go_simp <;> (with_reducible rfl)
              (try simp only [Act.put, List.setIfInBounds_toArray, List.set_cons_zero, List.set_cons_succ])
              refine rg_in 14 rfl (by kernel_rfl) (by kernel_rfl) (by kernel_rfl) (by rfl) (v := ?_) (fun _ _ _ h => h) hHeld (fun w hSw => ?_) ?_
              rotate_left
              · (try dsimp only at hSw); go_simp <;> (with_reducible rfl)
              (try simp only [Act.put, List.setIfInBounds_toArray, List.set_cons_zero, List.set_cons_succ])
              refine rg_in 15 rfl (by kernel_rfl) (by kernel_rfl) (by kernel_rfl) (by rfl) (v := ?_) (fun _ _ _ h => h) hHeld (fun w hSw => ?_) ?_
              rotate_left
              · (try dsimp only at hSw); go_simp <;> (with_reducible rfl)
              (try simp only [Act.put, List.setIfInBounds_toArray, List.set_cons_zero, List.set_cons_succ])
              refine rg_in 16 rfl (by kernel_rfl) (by kernel_rfl) (by kernel_rfl) (by rfl) (v := ?_) (fun _ _ _ h => h) hHeld (fun w hSw => ?_) ?_
              rotate_left
              · (try dsimp only at hSw); go_simp <;> (with_reducible rfl)
              (try simp only [Act.put, List.setIfInBounds_toArray, List.set_cons_zero, List.set_cons_succ])
              refine rg_in 17 rfl (by kernel_rfl) (by kernel_rfl) (by kernel_rfl) (by rfl) (v := ?_) (fun _ _ _ h => h) hHeld (fun w hSw => ?_) ?_
              rotate_left
              · (try dsimp only at hSw); go_simp <;> (with_reducible rfl)
              (try simp only [Act.put, List.setIfInBounds_toArray, List.set_cons_zero, List.set_cons_succ])
              refine rg_in 18 rfl (by kernel_rfl) (by kernel_rfl) (by kernel_rfl) (by rfl) (v := ?_) (fun _ _ _ h => h) hHeld (fun w hSw => ?_) ?_
              rotate_left
              · (try dsimp only at hSw); go_simp <;> (with_reducible rfl)
              (try simp only [Act.put, List.setIfInBounds_toArray, List.set_cons_zero, List.set_cons_succ])
              refine rg_in 19 rfl (by kernel_rfl) (by kernel_rfl) (by kernel_rfl) (by rfl) (v := ?_) (fun _ _ _ h => h) hHeld (fun w hSw => ?_) ?_
              rotate_left
              · (try dsimp only at hSw); go_simp <;> (with_reducible rfl)
              (try simp only [Act.put, List.setIfInBounds_toArray, List.set_cons_zero, List.set_cons_succ])
              refine rg_in 20 rfl (by kernel_rfl) (by kernel_rfl) (by kernel_rfl) (by rfl) (v := ?_) (fun _ _ _ h => h) hHeld (fun w hSw => ?_) ?_
              rotate_left
              · (try dsimp only at hSw); go_simp <;> (with_reducible rfl)
              (try simp only [Act.put, List.setIfInBounds_toArray, List.set_cons_zero, List.set_cons_succ])
              refine rg_in 21 rfl (by kernel_rfl) (by kernel_rfl) (by kernel_rfl) (by rfl) (v := ?_) (fun _ _ _ h => h) hHeld (fun w hSw => ?_) ?_
              rotate_left
              · (try dsimp only at hSw); go_simp <;> (with_reducible rfl)
              (try simp only [Act.put, List.setIfInBounds_toArray, List.set_cons_zero, List.set_cons_succ])
              refine rg_in 22 rfl (by kernel_rfl) (by kernel_rfl) (by kernel_rfl) (by rfl) (v := ?_) (fun _ _ _ h => h) hHeld (fun w hSw => ?_) ?_
              rotate_left
              · (try dsimp only at hSw); go_simp <;> (with_reducible rfl)
              (try simp only [Act.put, List.setIfInBounds_toArray, List.set_cons_zero, List.set_cons_succ])
              refine rg_in 23 rfl (by kernel_rfl) (by kernel_rfl) (by kernel_rfl) (by rfl) (v := ?_) (fun _ _ _ h => h) hHeld (fun w hSw => ?_) ?_
              rotate_left
              · (try dsimp only at hSw); go_simp <;> (with_reducible rfl)
              (try simp only [Act.put, List.setIfInBounds_toArray, List.set_cons_zero, List.set_cons_succ])
              refine rg_in 24 rfl (by kernel_rfl) (by kernel_rfl) (by kernel_rfl) (by rfl) (v := ?_) (fun _ _ _ h => h) hHeld (fun w hSw => ?_) ?_
              rotate_left
              · (try dsimp only at hSw); go_simp <;> (with_reducible rfl)
              (try simp only [Act.put, List.setIfInBounds_toArray, List.set_cons_zero, List.set_cons_succ])
              refine wpAnyH_done (by kernel_rfl) ?_ _
              go_wp2
              go_ret
              exact ⟨vret_b (by rw [HNo.out]), bel_next hb1 hHeld⟩
          · have HIn := HIn0.out (by rw [Hok.out, hv, ej, hless]; rfl)
            clear hv hcj hin HIn0 HNo0 Hok u4 ej
            · generalize keys.getD (j - 1) ⟨#[]⟩ = y at *
              generalize keys.getD j ⟨#[]⟩ = x at *
              generalize hjm : j - 1 = jm at *
              clear hjm
              refine wp_region_held_drew (S := fun W => Below W1.heap.size W1 W) (by kernel_rfl) (below_drewN hbr 1) (fun hHeld => ?_)
              refine rg_in 0 rfl (by kernel_rfl) (by kernel_rfl) (by kernel_rfl) (by rfl) (v := ?_) (fun _ _ _ h => h) hHeld (fun w hSw => ?_) ?_
              rotate_left
              · (try dsimp only at hSw); go_simp <;> (with_reducible rfl)
              (try simp only [Act.put, List.setIfInBounds_toArray, List.set_cons_zero, List.set_cons_succ])
              refine rg_in 1 rfl (by kernel_rfl) (by kernel_rfl) (by kernel_rfl) (by rfl) (v := ?_) (fun _ _ _ h => h) hHeld (fun w hSw => ?_) ?_
              rotate_left
              · (try dsimp only at hSw); go_simp <;> (with_reducible rfl)
              (try simp only [Act.put, List.setIfInBounds_toArray, List.set_cons_zero, List.set_cons_succ])
              refine rg_in 2 rfl (by kernel_rfl) (by kernel_rfl) (by kernel_rfl) (by rfl) (v := ?_) (fun _ _ _ h => h) hHeld (fun w hSw => ?_) ?_
              rotate_left
              · (try dsimp only at hSw); go_simp <;> (with_reducible rfl)
              (try simp only [Act.put, List.setIfInBounds_toArray, List.set_cons_zero, List.set_cons_succ])
              refine rg_in 3 rfl (by kernel_rfl) (by kernel_rfl) (by kernel_rfl) (by rfl) (v := ?_) (fun _ _ _ h => h) hHeld (fun w hSw => ?_) ?_
              rotate_left
              · (try dsimp only at hSw); go_simp <;> (with_reducible rfl)
              (try simp only [Act.put, List.setIfInBounds_toArray, List.set_cons_zero, List.set_cons_succ])
              refine rg_in 4 rfl (by kernel_rfl) (by kernel_rfl) (by kernel_rfl) (by rfl) (v := ?_) (fun _ _ _ h => h) hHeld (fun w hSw => ?_) ?_
              rotate_left
              · (try dsimp only at hSw); go_simp <;> (with_reducible rfl)
              (try simp only [Act.put, List.setIfInBounds_toArray, List.set_cons_zero, List.set_cons_succ])
              refine rg_do 5 rfl (by kernel_rfl) (by rfl) (fun K hK => ?_)
              go_simp
              (go_at_call 56; (with_reducible refine (HVa.out _ hHeld).mono ?_); (rintro e w105 ⟨rfl, hb5⟩))
              refine hK.out _ _ (S_call hb5 hHeld rfl) (fun hHeld => ?_)
              clear hK K
              (try simp only [Act.put, List.setIfInBounds_toArray, List.set_cons_zero, List.set_cons_succ])
              refine rg_in 6 rfl (by kernel_rfl) (by kernel_rfl) (by kernel_rfl) (by rfl) (v := ?_) (fun _ _ _ h => h) hHeld (fun w hSw => ?_) ?_
              rotate_left
              · (try dsimp only at hSw); go_simp <;> (with_reducible rfl)
              (try simp only [Act.put, List.setIfInBounds_toArray, List.set_cons_zero, List.set_cons_succ])
              refine rg_in 7 rfl (by kernel_rfl) (by kernel_rfl) (by kernel_rfl) (by rfl) (v := ?_) (fun _ _ _ h => h) hHeld (fun w hSw => ?_) ?_
              rotate_left
              · (try dsimp only at hSw); go_simp <;> (with_reducible rfl)
              (try simp only [Act.put, List.setIfInBounds_toArray, List.set_cons_zero, List.set_cons_succ])
              refine rg_in 8 rfl (by kernel_rfl) (by kernel_rfl) (by kernel_rfl) (by rfl) (v := ?_) (fun _ _ _ h => h) hHeld (fun w hSw => ?_) ?_
              rotate_left
              · (try dsimp only at hSw); go_simp <;> (with_reducible rfl)
              (try simp only [Act.put, List.setIfInBounds_toArray, List.set_cons_zero, List.set_cons_succ])
              refine rg_in 9 rfl (by kernel_rfl) (by kernel_rfl) (by kernel_rfl) (by rfl) (v := ?_) (fun _ _ _ h => h) hHeld (fun w hSw => ?_) ?_
              rotate_left
              · (try dsimp only at hSw); go_simp <;> (with_reducible rfl)
              (try simp only [Act.put, List.setIfInBounds_toArray, List.set_cons_zero, List.set_cons_succ])
              refine rg_in 10 rfl (by kernel_rfl) (by kernel_rfl) (by kernel_rfl) (by rfl) (v := ?_) (fun _ _ _ h => h) hHeld (fun w hSw => ?_) ?_
              rotate_left
              · (try dsimp only at hSw); go_simp <;> (with_reducible rfl)
              (try simp only [Act.put, List.setIfInBounds_toArray, List.set_cons_zero, List.set_cons_succ])
              refine rg_in 11 rfl (by kernel_rfl) (by kernel_rfl) (by kernel_rfl) (by rfl) (v := ?_) (fun _ _ _ h => h) hHeld (fun w hSw => ?_) ?_
              rotate_left
              · (try dsimp only at hSw); go_simp <;> (with_reducible rfl)
              (try simp only [Act.put, List.setIfInBounds_toArray, List.set_cons_zero, List.set_cons_succ])
              refine rg_in 12 rfl (by kernel_rfl) (by kernel_rfl) (by kernel_rfl) (by rfl) (v := ?_) (fun _ _ _ h => h) hHeld (fun w hSw => ?_) ?_
              rotate_left
              · (try dsimp only at hSw); go_simp <;> (with_reducible rfl)
              (try simp only [Act.put, List.setIfInBounds_toArray, List.set_cons_zero, List.set_cons_succ])
              refine rg_in 13 rfl (by kernel_rfl) (by kernel_rfl) (by kernel_rfl) (by rfl) (v := ?_) (fun _ _ _ h => h) hHeld (fun w hSw => ?_) ?_
              rotate_left
              · (try dsimp only at hSw); go_simp <;> (with_reducible rfl)
              (try simp only [Act.put, List.setIfInBounds_toArray, List.set_cons_zero, List.set_cons_succ])
              refine rg_in 14 rfl (by kernel_rfl) (by kernel_rfl) (by kernel_rfl) (by rfl) (v := ?_) (fun _ _ _ h => h) hHeld (fun w hSw => ?_) ?_
              rotate_left
              · (try dsimp only at hSw); go_simp <;> (with_reducible rfl)
              (try simp only [Act.put, List.setIfInBounds_toArray, List.set_cons_zero, List.set_cons_succ])
              refine rg_in 15 rfl (by kernel_rfl) (by kernel_rfl) (by kernel_rfl) (by rfl) (v := ?_) (fun _ _ _ h => h) hHeld (fun w hSw => ?_) ?_
              rotate_left
              · (try dsimp only at hSw); go_simp <;> (with_reducible rfl)
              (try simp only [Act.put, List.setIfInBounds_toArray, List.set_cons_zero, List.set_cons_succ])
              refine rg_in 16 rfl (by kernel_rfl) (by kernel_rfl) (by kernel_rfl) (by rfl) (v := ?_) (fun _ _ _ h => h) hHeld (fun w hSw => ?_) ?_
              rotate_left
              · (try dsimp only at hSw); go_simp <;> (with_reducible rfl)
              (try simp only [Act.put, List.setIfInBounds_toArray, List.set_cons_zero, List.set_cons_succ])
              refine rg_in 17 rfl (by kernel_rfl) (by kernel_rfl) (by kernel_rfl) (by rfl) (v := ?_) (fun _ _ _ h => h) hHeld (fun w hSw => ?_) ?_
              rotate_left
              · (try dsimp only at hSw); go_simp <;> (with_reducible rfl)
              (try simp only [Act.put, List.setIfInBounds_toArray, List.set_cons_zero, List.set_cons_succ])
              refine rg_in 18 rfl (by kernel_rfl) (by kernel_rfl) (by kernel_rfl) (by rfl) (v := ?_) (fun _ _ _ h => h) hHeld (fun w hSw => ?_) ?_
              rotate_left
              · (try dsimp only at hSw); go_simp <;> (with_reducible rfl)
              (try simp only [Act.put, List.setIfInBounds_toArray, List.set_cons_zero, List.set_cons_succ])
              refine rg_in 19 rfl (by kernel_rfl) (by kernel_rfl) (by kernel_rfl) (by rfl) (v := ?_) (fun _ _ _ h => h) hHeld (fun w hSw => ?_) ?_
              rotate_left
              · (try dsimp only at hSw); go_simp <;> (with_reducible rfl)
              (try simp only [Act.put, List.setIfInBounds_toArray, List.set_cons_zero, List.set_cons_succ])
              refine rg_in 20 rfl (by kernel_rfl) (by kernel_rfl) (by kernel_rfl) (by rfl) (v := ?_) (fun _ _ _ h => h) hHeld (fun w hSw => ?_) ?_
              rotate_left
              · (try dsimp only at hSw); go_simp <;> (with_reducible rfl)
              (try simp only [Act.put, List.setIfInBounds_toArray, List.set_cons_zero, List.set_cons_succ])
              refine rg_in 21 rfl (by kernel_rfl) (by kernel_rfl) (by kernel_rfl) (by rfl) (v := ?_) (fun _ _ _ h => h) hHeld (fun w hSw => ?_) ?_
              rotate_left
              · (try dsimp only at hSw); go_simp <;> (with_reducible rfl)
              (try simp only [Act.put, List.setIfInBounds_toArray, List.set_cons_zero, List.set_cons_succ])
              refine rg_in 22 rfl (by kernel_rfl) (by kernel_rfl) (by kernel_rfl) (by rfl) (v := ?_) (fun _ _ _ h => h) hHeld (fun w hSw => ?_) ?_
              rotate_left
              · (try dsimp only at hSw); go_simp <;> (with_reducible rfl)
              (try simp only [Act.put, List.setIfInBounds_toArray, List.set_cons_zero, List.set_cons_succ])
              refine rg_in 23 rfl (by kernel_rfl) (by kernel_rfl) (by kernel_rfl) (by rfl) (v := ?_) (fun _ _ _ h => h) hHeld (fun w hSw => ?_) ?_
              rotate_left
              · (try dsimp only at hSw); go_simp <;> (with_reducible rfl)
              (try simp only [Act.put, List.setIfInBounds_toArray, List.set_cons_zero, List.set_cons_succ])
              refine rg_in 24 rfl (by kernel_rfl) (by kernel_rfl) (by kernel_rfl) (by rfl) (v := ?_) (fun _ _ _ h => h) hHeld (fun w hSw => ?_) ?_
              rotate_left
              · (try dsimp only at hSw); go_simp <;> (with_reducible rfl)
              (try simp only [Act.put, List.setIfInBounds_toArray, List.set_cons_zero, List.set_cons_succ])
              refine wpAnyH_done (by kernel_rfl) ?_ _
              go_wp2
              go_roundw
              case rel => exact ⟨_, by omega, by go_num, HIn, hHeld⟩
              case measure => simp [intOf]; omega
    · obtain rfl : j = kn := by omega
      have Hkb := Lib.hid (show keysB keys = true from (keysB_iff keys).2 fun i hi => Hq.out i (by rw [← Hl.out]; exact hi))
      go_upto_region 6 with fail
      go_cut [4, 5] (fun s4 s5 wx => s4 = .int .i64 cn ∧ s5 = .int .i64 j ∧ Below W1.heap.size W1 wx)
      case first =>
        refine wp_region_held_drew (S := fun W => Below W1.heap.size W1 W) (by kernel_rfl) (below_drewN hbr 1) (fun hHeld => ?_)
        refine rg_in 0 rfl (by kernel_rfl) (by kernel_rfl) (by kernel_rfl) (by rfl) (v := ?_) (fun _ _ _ h => h) hHeld (fun w hSw => ?_) ?_
        rotate_left
        · (try dsimp only at hSw); go_simp <;> (with_reducible rfl)
        (try simp only [Act.put, List.setIfInBounds_toArray, List.set_cons_zero, List.set_cons_succ])
        refine rg_in 1 rfl (by kernel_rfl) (by kernel_rfl) (by kernel_rfl) (by rfl) (v := ?_) (fun _ _ _ h => h) hHeld (fun w hSw => ?_) ?_
        rotate_left
        · (try dsimp only at hSw); go_simp <;> (with_reducible rfl)
        (try simp only [Act.put, List.setIfInBounds_toArray, List.set_cons_zero, List.set_cons_succ])
        refine rg_in 2 rfl (by kernel_rfl) (by kernel_rfl) (by kernel_rfl) (by rfl) (v := ?_) (fun _ _ _ h => h) hHeld (fun w hSw => ?_) ?_
        rotate_left
        · (try dsimp only at hSw); go_simp <;> (with_reducible rfl)
        (try simp only [Act.put, List.setIfInBounds_toArray, List.set_cons_zero, List.set_cons_succ])
        refine rg_in 3 rfl (by kernel_rfl) (by kernel_rfl) (by kernel_rfl) (by rfl) (v := ?_) (fun _ _ _ h => h) hHeld (fun w hSw => ?_) ?_
        rotate_left
        · (try dsimp only at hSw); go_simp <;> (with_reducible rfl)
        (try simp only [Act.put, List.setIfInBounds_toArray, List.set_cons_zero, List.set_cons_succ])
        refine rg_in 4 rfl (by kernel_rfl) (by kernel_rfl) (by kernel_rfl) (by rfl) (v := ?_) (fun _ _ _ h => h) hHeld (fun w hSw => ?_) ?_
        rotate_left
        · (try dsimp only at hSw); go_simp <;> (with_reducible rfl)
        (try simp only [Act.put, List.setIfInBounds_toArray, List.set_cons_zero, List.set_cons_succ])
        refine rg_in 5 rfl (by kernel_rfl) (by kernel_rfl) (by kernel_rfl) (by rfl) (v := ?_) (fun _ _ _ h => h) hHeld (fun w hSw => ?_) ?_
        rotate_left
        · (try dsimp only at hSw); go_simp <;> (with_reducible rfl)
        (try simp only [Act.put, List.setIfInBounds_toArray, List.set_cons_zero, List.set_cons_succ])
        refine rg_in 6 rfl (by kernel_rfl) (by kernel_rfl) (by kernel_rfl) (by rfl) (v := ?_) (fun _ _ _ h => h) hHeld (fun w hSw => ?_) ?_
        rotate_left
        · (try dsimp only at hSw); go_simp <;> (with_reducible rfl)
        (try simp only [Act.put, List.setIfInBounds_toArray, List.set_cons_zero, List.set_cons_succ])
        refine rg_in 7 rfl (by kernel_rfl) (by kernel_rfl) (by kernel_rfl) (by rfl) (v := ?_) (fun _ _ _ h => h) hHeld (fun w hSw => ?_) ?_
        rotate_left
        · (try dsimp only at hSw); go_simp <;> (with_reducible rfl)
        (try simp only [Act.put, List.setIfInBounds_toArray, List.set_cons_zero, List.set_cons_succ])
        refine wpAnyH_done (by kernel_rfl) ?_ _
        go_wp2
        go_meet
        case rel => exact ⟨rfl, rfl, hHeld⟩
      case rest =>
        obtain ⟨rfl, rfl, hbc⟩ := hcut
        have q0 := v0 wc hbc
        have q1 := v1 wc hbc
        have q2 := v2 wc hbc
        clear v0 v1 v2 v3 v4 u4 HK Hks Hl Hq hbr hlt Hv
        by_cases hk16 : 1 ≤ k ∧ k ≤ 6
        · rcases (show k = 1 ∨ k = 2 ∨ k = 3 ∨ k = 4 ∨ k = 5 ∨ k = 6 by omega) with rfl | rfl | rfl | rfl | rfl | rfl
          · clear hk16
            have HF := Lib.hid (fit_1 n s cA cn cc kA j kc keys kids)
            cases eN0 : (n == 0)
            · have hN0 := Lib.hid eN0
              go_wp2
              go_ret
              exact ⟨vret_b (by rw [HF.out, hN0.out]; rfl), bel_next hb1 hbc⟩
            · have hN0 := Lib.hid eN0
              cases eS : (s.toList == [])
              · have hs2 : ¬ s.toList = [] := by intro h; rw [h] at eS; cases eS
                have hS0 := Lib.hid eS
                go_wp2
                go_ret
                exact ⟨vret_b (by rw [HF.out, hN0.out, hS0.out]; rfl), bel_next hb1 hbc⟩
              · have hs2 : s.toList = [] := by rw [← beq_iff_eq]; exact eS
                have hS0 := Lib.hid eS
                cases eC0 : ((cn : Int) == 0)
                · have hC0 := Lib.hid eC0
                  go_wp2
                  go_ret
                  exact ⟨vret_b (by rw [HF.out, hN0.out, hS0.out, hC0.out]; rfl), bel_next hb1 hbc⟩
                · have hC0 := Lib.hid eC0
                  cases eK0 : ((j : Int) == 0)
                  · have hK0 := Lib.hid eK0
                    go_wp2
                    go_ret
                    exact ⟨vret_b (by rw [HF.out, hN0.out, hS0.out, hC0.out, hK0.out]; rfl), bel_next hb1 hbc⟩
                  · have hK0 := Lib.hid eK0
                    go_wp2
                    go_ret
                    exact ⟨vret_b (by rw [HF.out, hN0.out, hS0.out, hC0.out, hK0.out]; rfl), bel_next hb1 hbc⟩
          · clear hk16
            have HF := Lib.hid (fit_2 n s cA cn cc kA j kc keys kids)
            cases eN : (n == 0)
            · cases eM : (n == 1)
              · have hN01 := Lib.hid (show (n == 0 || n == 1) = false by rw [eN, eM]; rfl)
                go_wp2
                go_ret
                exact ⟨vret_b (by rw [HF.out, hN01.out]; rfl), bel_next hb1 hbc⟩
              · have hN01 := Lib.hid (show (n == 0 || n == 1) = true by rw [eN, eM]; rfl)
                cases eS : (s.toList == [])
                · have hs2 : ¬ s.toList = [] := by intro h; rw [h] at eS; cases eS
                  have hS0 := Lib.hid eS
                  go_wp2
                  go_ret
                  exact ⟨vret_b (by rw [HF.out, hN01.out, hS0.out]; rfl), bel_next hb1 hbc⟩
                · have hs2 : s.toList = [] := by rw [← beq_iff_eq]; exact eS
                  have hS0 := Lib.hid eS
                  cases eC0 : ((cn : Int) == 0)
                  · have hC0 := Lib.hid eC0
                    go_wp2
                    go_ret
                    exact ⟨vret_b (by rw [HF.out, hN01.out, hS0.out, hC0.out]; rfl), bel_next hb1 hbc⟩
                  · have hC0 := Lib.hid eC0
                    cases eK0 : ((j : Int) == 0)
                    · have hK0 := Lib.hid eK0
                      go_wp2
                      go_ret
                      exact ⟨vret_b (by rw [HF.out, hN01.out, hS0.out, hC0.out, hK0.out]; rfl), bel_next hb1 hbc⟩
                    · have hK0 := Lib.hid eK0
                      go_wp2
                      go_ret
                      exact ⟨vret_b (by rw [HF.out, hN01.out, hS0.out, hC0.out, hK0.out]; rfl), bel_next hb1 hbc⟩
            · have hN01 := Lib.hid (show (n == 0 || n == 1) = true by rw [eN]; rfl)
              cases eS : (s.toList == [])
              · have hs2 : ¬ s.toList = [] := by intro h; rw [h] at eS; cases eS
                have hS0 := Lib.hid eS
                go_wp2
                go_ret
                exact ⟨vret_b (by rw [HF.out, hN01.out, hS0.out]; rfl), bel_next hb1 hbc⟩
              · have hs2 : s.toList = [] := by rw [← beq_iff_eq]; exact eS
                have hS0 := Lib.hid eS
                cases eC0 : ((cn : Int) == 0)
                · have hC0 := Lib.hid eC0
                  go_wp2
                  go_ret
                  exact ⟨vret_b (by rw [HF.out, hN01.out, hS0.out, hC0.out]; rfl), bel_next hb1 hbc⟩
                · have hC0 := Lib.hid eC0
                  cases eK0 : ((j : Int) == 0)
                  · have hK0 := Lib.hid eK0
                    go_wp2
                    go_ret
                    exact ⟨vret_b (by rw [HF.out, hN01.out, hS0.out, hC0.out, hK0.out]; rfl), bel_next hb1 hbc⟩
                  · have hK0 := Lib.hid eK0
                    go_wp2
                    go_ret
                    exact ⟨vret_b (by rw [HF.out, hN01.out, hS0.out, hC0.out, hK0.out]; rfl), bel_next hb1 hbc⟩
          · clear hk16
            have HF := Lib.hid (fit_3 n s cA cn cc kA j kc keys kids)
            cases eS : (s.toList == [])
            · have hs2 : ¬ s.toList = [] := by intro h; rw [h] at eS; cases eS
              have hS0 := Lib.hid eS
              go_wp2
              go_ret
              exact ⟨vret_b (by rw [HF.out, hS0.out]; rfl), bel_next hb1 hbc⟩
            · have hs2 : s.toList = [] := by rw [← beq_iff_eq]; exact eS
              have hS0 := Lib.hid eS
              cases eC0 : ((cn : Int) == 0)
              · have hC0 := Lib.hid eC0
                go_wp2
                go_ret
                exact ⟨vret_b (by rw [HF.out, hS0.out, hC0.out]; rfl), bel_next hb1 hbc⟩
              · have hC0 := Lib.hid eC0
                cases eK0 : ((j : Int) == 0)
                · have hK0 := Lib.hid eK0
                  go_wp2
                  go_ret
                  exact ⟨vret_b (by rw [HF.out, hS0.out, hC0.out, hK0.out]; rfl), bel_next hb1 hbc⟩
                · have hK0 := Lib.hid eK0
                  go_wp2
                  go_ret
                  exact ⟨vret_b (by rw [HF.out, hS0.out, hC0.out, hK0.out]; rfl), bel_next hb1 hbc⟩
          · clear hk16
            have HF := Lib.hid (fit_4 n s cA cn cc kA j kc keys kids)
            cases eN0 : (n == 0)
            · have hN0 := Lib.hid eN0
              go_wp2
              go_ret
              exact ⟨vret_b (by rw [HF.out, hN0.out]; rfl), bel_next hb1 hbc⟩
            · have hN0 := Lib.hid eN0
              cases eV : validS s
              · have hV := Lib.hid eV
                rw [eV] at HVs
                clear eV
                go_wp2_with fail
                refine (HVs.out _ hbc).mono ?_
                rintro e w9 ⟨rfl, hb9⟩
                go_wp2
                go_ret
                exact ⟨vret_b (by rw [HF.out, hN0.out, hV.out]; rfl), bel_next hb1 (bel_next hbc hb9)⟩
              · have hV := Lib.hid eV
                rw [eV] at HVs
                clear eV
                cases eC0 : ((cn : Int) == 0)
                · have hC0 := Lib.hid eC0
                  go_wp2_with fail
                  refine (HVs.out _ hbc).mono ?_
                  rintro e w9 ⟨rfl, hb9⟩
                  go_wp2
                  go_ret
                  exact ⟨vret_b (by rw [HF.out, hN0.out, hV.out, hC0.out]; rfl), bel_next hb1 (bel_next hbc hb9)⟩
                · have hC0 := Lib.hid eC0
                  cases eK0 : ((j : Int) == 0)
                  · have hK0 := Lib.hid eK0
                    go_wp2_with fail
                    refine (HVs.out _ hbc).mono ?_
                    rintro e w9 ⟨rfl, hb9⟩
                    go_wp2
                    go_ret
                    exact ⟨vret_b (by rw [HF.out, hN0.out, hV.out, hC0.out, hK0.out]; rfl), bel_next hb1 (bel_next hbc hb9)⟩
                  · have hK0 := Lib.hid eK0
                    go_wp2_with fail
                    refine (HVs.out _ hbc).mono ?_
                    rintro e w9 ⟨rfl, hb9⟩
                    go_wp2
                    go_ret
                    exact ⟨vret_b (by rw [HF.out, hN0.out, hV.out, hC0.out, hK0.out]; rfl), bel_next hb1 (bel_next hbc hb9)⟩
          · clear hk16
            have HF := Lib.hid (fit_5 n s cA cn cc kA j kc keys kids)
            cases eN0 : (n == 0)
            · have hN0 := Lib.hid eN0
              go_wp2
              go_ret
              exact ⟨vret_b (by rw [HF.out, hN0.out]; rfl), bel_next hb1 hbc⟩
            · have hN0 := Lib.hid eN0
              cases eS : (s.toList == [])
              · have hs2 : ¬ s.toList = [] := by intro h; rw [h] at eS; cases eS
                have hS0 := Lib.hid eS
                go_wp2
                go_ret
                exact ⟨vret_b (by rw [HF.out, hN0.out, hS0.out]; rfl), bel_next hb1 hbc⟩
              · have hs2 : s.toList = [] := by rw [← beq_iff_eq]; exact eS
                have hS0 := Lib.hid eS
                cases eK0 : ((j : Int) == 0)
                · have hK0 := Lib.hid eK0
                  go_wp2
                  go_ret
                  exact ⟨vret_b (by rw [HF.out, hN0.out, hS0.out, hK0.out]; rfl), bel_next hb1 hbc⟩
                · have hK0 := Lib.hid eK0
                  go_wp2
                  go_ret
                  exact ⟨vret_b (by rw [HF.out, hN0.out, hS0.out, hK0.out]; rfl), bel_next hb1 hbc⟩
          · clear hk16
            have HF := Lib.hid (fit_6 n s cA cn cc kA j kc keys kids Hkb)
            cases eN0 : (n == 0)
            · have hN0 := Lib.hid eN0
              go_wp2
              go_ret
              exact ⟨vret_b (by rw [HF.out, hN0.out]; rfl), bel_next hb1 hbc⟩
            · have hN0 := Lib.hid eN0
              cases eS : (s.toList == [])
              · have hs2 : ¬ s.toList = [] := by intro h; rw [h] at eS; cases eS
                have hS0 := Lib.hid eS
                go_wp2
                go_ret
                exact ⟨vret_b (by rw [HF.out, hN0.out, hS0.out]; rfl), bel_next hb1 hbc⟩
              · have hs2 : s.toList = [] := by rw [← beq_iff_eq]; exact eS
                have hS0 := Lib.hid eS
                cases eCK : ((cn : Int) == (j : Int))
                · have hCK := Lib.hid eCK
                  go_wp2
                  go_ret
                  exact ⟨vret_b (by rw [HF.out, hN0.out, hS0.out, hCK.out]; rfl), bel_next hb1 hbc⟩
                · have hCK := Lib.hid eCK
                  go_wp2
                  go_ret
                  exact ⟨vret_b (by rw [HF.out, hN0.out, hS0.out, hCK.out]; rfl), bel_next hb1 hbc⟩
        · have HF := Lib.hid (fit_no n s cA cn cc kA j kc keys kids hk16)
          have e1 : (k == 1) = false := by rw [beq_eq_false_iff_ne]; omega
          have e2 : (k == 2) = false := by rw [beq_eq_false_iff_ne]; omega
          have e3 : (k == 3) = false := by rw [beq_eq_false_iff_ne]; omega
          have e4 : (k == 4) = false := by rw [beq_eq_false_iff_ne]; omega
          have e5 : (k == 5) = false := by rw [beq_eq_false_iff_ne]; omega
          have e6 : (k == 6) = false := by rw [beq_eq_false_iff_ne]; omega
          clear hk16
          go_wp2
          go_ret
          exact ⟨vret_b (by rw [HF.out]), bel_next hb1 hbc⟩
end Go.Proofs.Ytinaecmpigenoaa
