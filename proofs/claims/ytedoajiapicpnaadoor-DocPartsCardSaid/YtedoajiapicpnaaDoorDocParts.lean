/-
  Layer 19: the walk of DocParts.
-/
import Derived.Test.YtedoajiapicpnaaDoorDocIds
import Derived.Test.YtedoajiapicpnaaDoorFr
import Derived.Deep.QuietTactic
import Derived.BigQuiet
import Derived.Deep.CutRange
import Derived.Lib.IndexBytes
import Derived.Lib.PathFns
namespace Go.Proofs.YtedoajiapicpnaaDoor
open Go.RowKit
attribute [local go_sem ↓] Go.wp_at_zero Go.wp_at_succ

theorem cut60 (s : ByteArray) : (s.extract 0 (if (60 : Int) < (s.size : Int) then 60 else (s.size : Int)).toNat).size ≤ 60 := by
  rw [ByteArray.size_extract]
  split <;> omega

/-- Ids joined by a hyphen. -/
theorem okAll_append (l m : List UInt8) : okAll (l ++ m) = (okAll l && okAll m) := by unfold okAll; exact List.all_append
theorem idL_join (l m : List UInt8) (hl : idL l = true) (hm : idL m = true) : idL (l ++ [45] ++ m) = decide (l.length + m.length < 24) := by
  unfold idL at *
  simp only [Bool.and_eq_true, decide_eq_true_eq] at hl hm
  have h45 : okAll [45] = true := by decide
  rw [okAll_append, okAll_append, hl.2, hm.2, h45]
  simp only [List.length_append, List.length_singleton, Bool.and_true]
  rw [Bool.eq_iff_iff, decide_eq_true_iff, decide_eq_true_iff]
  omega
theorem idL_take (l : List UInt8) (hl : idL l = true) (n : Nat) (h0 : 0 < n) : idL (l.take n) = true := by
  unfold idL at *
  simp only [Bool.and_eq_true, decide_eq_true_eq, List.length_take] at *
  refine ⟨by omega, ?_⟩
  have := hl.2
  unfold okAll at *
  rw [List.all_eq_true] at *
  exact fun x hx => this x (List.mem_of_mem_take hx)
theorem idL_drop (l : List UInt8) (hl : idL l = true) (n : Nat) (h0 : n < l.length) : idL (l.drop n) = true := by
  unfold idL at *
  simp only [Bool.and_eq_true, decide_eq_true_eq, List.length_drop] at *
  refine ⟨by omega, ?_⟩
  have := hl.2
  unfold okAll at *
  rw [List.all_eq_true] at *
  exact fun x hx => this x (List.mem_of_mem_drop hx)
theorem idL_len (l : List UInt8) (h : idL l = true) : 1 ≤ l.length ∧ l.length ≤ 24 := by
  unfold idL at h
  simp only [Bool.and_eq_true, decide_eq_true_eq] at h
  exact h.1
theorem idErr_cases (l : List UInt8) : (idL l = true ∧ idErr l = 0) ∨ (idL l = false ∧ idErr l = 290) := by
  unfold idErr
  cases idL l
  · exact .inr ⟨rfl, rfl⟩
  · exact .inl ⟨rfl, rfl⟩

theorem umod_nat (a : Int) (n : Nat) (h : 0 < n) (hn : n ≤ 1000000) : ∃ k : Nat, k < n ∧ wrap64 ((IntKind.u64.wrap a).tmod (n : Int)) = (k : Int) := by
  have h1 : 0 ≤ IntKind.u64.wrap a := by rw [IntKind.wrap_u64]; omega
  have h2 : 0 ≤ (IntKind.u64.wrap a).tmod (n : Int) := Int.tmod_nonneg _ h1
  have h3 : (IntKind.u64.wrap a).tmod (n : Int) < n := Int.tmod_lt_of_pos _ (by omega)
  obtain ⟨k, hk⟩ := Int.eq_ofNat_of_zero_le h2
  rw [hk] at h3 ⊢
  exact ⟨k, by omega, IntWalk.wrap64_in _ ⟨by omega, by omega⟩⟩
theorem ex_drop (s : ByteArray) (k : Nat) : (s.extract k s.size).data.toList = s.data.toList.drop k := Lib.extract_to_end s k
theorem ex_take (s : ByteArray) (k : Nat) : (s.extract 0 k).data.toList = s.data.toList.take k := by
  simp

set_option maxHeartbeats 1000000 in
theorem docParts_walk (w : World) (s : ByteArray) (hs : s.size ≤ maxLen) (t : ByteArray) (ht : t.size ≤ maxLen) (a : Int) (ha : (Lit.int .i64 a).wf = true) (htab : Tab w) :
    Calls Tryd.prog 10 #[.string s, .string t, .int .i64 a] w fun e w' => e = .returned (.bool true) ∧ Below w.heap.size w w' := by
  unfold maxLen at hs ht
  obtain ⟨a0, a1⟩ := wf_i64 ha
  clear ha
  go_enter Tryd.func10, Tryd.ntmps10
  go_wp2_with fail
  refine (wakes_any w htab).mono ?_
  rintro e w1 ⟨rfl, hb1⟩
  go_wp2_with fail
  go_quiet (fail)
  have hS := cut60 s
  have hT := cut60 t
  generalize (if (60 : Int) < (s.size : Int) then 60 else (s.size : Int)) = q1 at *
  generalize (if (60 : Int) < (t.size : Int) then 60 else (t.size : Int)) = q2 at *
  generalize s.extract 0 q1.toNat = S at *
  generalize t.extract 0 q2.toNat = T at *
  have hb2 := below_drewN hb1 nq
  generalize w1.drewN nq = w2 at *
  clear hb1 hs ht
  have hj : (S ++ ⟨#[45]⟩ ++ T).data.toList = S.data.toList ++ [45] ++ T.data.toList := by simp
  have hjoin := idL_join S.data.toList T.data.toList
  rw [← hj, str_len, str_len] at hjoin
  obtain ⟨E, hE⟩ : ∃ E, idErr (S ++ ⟨#[45]⟩ ++ T).data.toList = E := ⟨_, rfl⟩
  have HE := Lib.hid hE
  rcases idErr_cases S.data.toList with ⟨hi, he⟩ | ⟨hi, he⟩
  · have hz := idL_len _ hi
    rw [str_len] at hz
    have Hi := Lib.hid hi
    have He := Lib.hid he
    obtain ⟨hz1, hz2⟩ := hz
    rcases idErr_cases T.data.toList with ⟨hti, hte⟩ | ⟨hti, hte⟩
    · have Hte := Lib.hid hte
      have hjj := hjoin hi hti
      have hEE : (decide (S.size + T.size < 24) = true ∧ E = 0) ∨ (decide (S.size + T.size < 24) = false ∧ E = 290) := by
        rw [← hE, ← hjj]
        rcases idErr_cases (S ++ ⟨#[45]⟩ ++ T).data.toList with h | h
        · exact .inl h
        · exact .inr h
      clear hj hjoin hE hi he hti hte hjj
      have hne : ((S.size : Int) == 0) = false := beq_eq_false_iff_ne.2 (by omega)
      rcases hEE with ⟨hd, rfl⟩ | ⟨hd, rfl⟩
      all_goals
        have hd3 : decide ((S.size : Int) + (T.size : Int) < 24) = decide (S.size + T.size < 24) := by
          rw [Bool.eq_iff_iff, decide_eq_true_iff, decide_eq_true_iff]
          omega
        rw [hd] at hd3
        clear hd
        go_wp2_with fail
        refine (check_any _ _).mono ?_
        rintro e w3 ⟨rfl, rfl⟩
        rw [He.out]
        go_wp2_with fail
        refine (check_any _ _).mono ?_
        rintro e w3 ⟨rfl, rfl⟩
        rw [Hte.out]
        go_wp2_with fail
        refine (check_any _ _).mono ?_
        rintro e w3 ⟨rfl, rfl⟩
        rw [HE.out]
        go_upto_region 11 with fail
        have hk := umod_nat a S.size (by omega) (by omega)
        obtain ⟨k, hk1, hk2⟩ := hk
        rw [hk2]
        have Hd := Lib.hid (show idErr (S.extract k S.size).data.toList = 0 by rw [ex_drop]; exact idErr_yes _ (idL_drop _ Hi.out k (by rw [str_len]; exact hk1)))
        have Hk := Lib.hid hk2
        clear hk2
        by_cases h0 : k = 0
        · subst h0
          rw [show ((0 : Nat) : Int) = 0 from rfl]
          go_wp2_with fail
          refine (check_any _ _).mono ?_
          rintro e w3 ⟨rfl, rfl⟩
          rw [He.out]
          go_wp2
          go_ret
          exact ⟨rfl, hb2⟩
        · have Ht := Lib.hid (show idErr (S.extract 0 k).data.toList = 0 by rw [ex_take]; exact idErr_yes _ (idL_take _ Hi.out k (by omega)))
          have hk0 : ((k : Int) == 0) = false := beq_eq_false_iff_ne.2 (by omega)
          clear h0
          go_wp2_with fail
          refine (check_any _ _).mono ?_
          rintro e w3 ⟨rfl, rfl⟩
          rw [Hd.out]
          go_wp2_with fail
          refine (check_any _ _).mono ?_
          rintro e w3 ⟨rfl, rfl⟩
          rw [Ht.out]
          go_wp2
          go_ret
          exact ⟨rfl, hb2⟩
    · have Hte := Lib.hid hte
      clear hj hjoin hE hi he hti hte
      have hne : ((S.size : Int) == 0) = false := beq_eq_false_iff_ne.2 (by omega)
      go_wp2_with fail
      refine (check_any _ _).mono ?_
      rintro e w3 ⟨rfl, rfl⟩
      rw [He.out]
      go_wp2_with fail
      refine (check_any _ _).mono ?_
      rintro e w3 ⟨rfl, rfl⟩
      rw [Hte.out]
      go_wp2_with fail
      refine (check_any _ _).mono ?_
      rintro e w3 ⟨rfl, rfl⟩
      rw [HE.out]
      go_upto_region 11 with fail
      have hk := umod_nat a S.size (by omega) (by omega)
      obtain ⟨k, hk1, hk2⟩ := hk
      rw [hk2]
      have Hd := Lib.hid (show idErr (S.extract k S.size).data.toList = 0 by rw [ex_drop]; exact idErr_yes _ (idL_drop _ Hi.out k (by rw [str_len]; exact hk1)))
      have Hk := Lib.hid hk2
      clear hk2
      by_cases h0 : k = 0
      · subst h0
        rw [show ((0 : Nat) : Int) = 0 from rfl]
        go_wp2_with fail
        refine (check_any _ _).mono ?_
        rintro e w3 ⟨rfl, rfl⟩
        rw [He.out]
        go_wp2
        go_ret
        exact ⟨rfl, hb2⟩
      · have Ht := Lib.hid (show idErr (S.extract 0 k).data.toList = 0 by rw [ex_take]; exact idErr_yes _ (idL_take _ Hi.out k (by omega)))
        have hk0 : ((k : Int) == 0) = false := beq_eq_false_iff_ne.2 (by omega)
        clear h0
        go_wp2_with fail
        refine (check_any _ _).mono ?_
        rintro e w3 ⟨rfl, rfl⟩
        rw [Hd.out]
        go_wp2_with fail
        refine (check_any _ _).mono ?_
        rintro e w3 ⟨rfl, rfl⟩
        rw [Ht.out]
        go_wp2
        go_ret
        exact ⟨rfl, hb2⟩
  · have He := Lib.hid he
    clear hj hjoin hE hi he
    go_wp2_with fail
    refine (check_any _ _).mono ?_
    rintro e w3 ⟨rfl, rfl⟩
    rw [He.out]
    go_wp2_with fail
    refine (check_any _ _).mono ?_
    rintro e w3 ⟨rfl, rfl⟩
    generalize idErr T.data.toList = F at *
    go_wp2_with fail
    refine (check_any _ _).mono ?_
    rintro e w3 ⟨rfl, rfl⟩
    rw [HE.out]
    go_wp2
    go_ret
    exact ⟨rfl, hb2⟩
end Go.Proofs.YtedoajiapicpnaaDoor
