/-
  Layer 2: few; the reference's Points and Text; slices.Equal at whole numbers (layer 1's text, at this layer's few).
-/
import Derived.Test.YtgnialemiefeeaaDoorUtfT
import Derived.Test.YtgnialemiefeeaaDoorUtfN
import Derived.Test.YtgnialemiefeeaaDoorStr
import Derived.Test.YtgnialemiefeeaaDoorClone
import Derived.Deep.RegionHeld3
import Derived.Deep.DrawnRows
namespace Go.Proofs.YtgnialemiefeeaaDoor
open Go.RowKit

set_option maxRecDepth 20000 in
set_option maxHeartbeats 1000000 in
theorem few_any (A : Option Addr) (n c B : Nat) (l : List UInt8) (w : World) (h : Bytes w B A n l) (hA : A = none → c = 0) (hB : B ≤ w.heap.size) (hn : n ≤ c) (hc : c ≤ maxLen) :
    Calls Tryd.prog 11 #[.slice A n c] w (GivesBytes 5 (l.take 400) w) := by
  unfold maxLen at hc
  by_cases h4 : n ≤ 400
  · have hl : l.take 400 = l := List.take_of_length_le (by rw [h.len]; exact h4)
    rw [hl]
    clear hl
    have hm : min (n : Int) 400 = (n : Int) := by omega
    go_enter Tryd.func11, Tryd.ntmps11
    go_wp2_with fail
    refine (clone_any A n c l B _ h hA hB (by omega)).mono ?_
    rintro e w1 ⟨A1, n1, c1, rfl, hown, hb⟩
    go_wp2
    go_ret
    exact ⟨A1, n1, c1, rfl, hown, hb⟩
  · have hm : min (n : Int) 400 = 400 := by omega
    have h5 := h.first (k := 400) (by omega)
    go_enter Tryd.func11, Tryd.ntmps11
    go_wp2_with fail
    refine (clone_any A 400 c (l.take 400) B _ h5 hA hB (by omega)).mono ?_
    rintro e w1 ⟨A1, n1, c1, rfl, hown, hb⟩
    go_wp2
    go_ret
    exact ⟨A1, n1, c1, rfl, hown, hb⟩

/-- What the reference's Points tells. -/
def GivesPts (l : List UInt8) (W : World) (e : Ending) (w' : World) : Prop :=
  ∃ A n c, w'.ownsRow W.heap.size 3 1 (.slice A n c) n ((if (ptsL l).2 = l.length then nats (ptsL l).1 else []).map iv) ∧ Below W.heap.size W w' ∧
    e = .returned (if (ptsL l).2 = l.length then .tuple #[.slice A n c, .int .i64 0, .bool true] else .tuple #[.slice A n c, .int .i64 ((ptsL l).2 : Int), .bool false])
set_option maxRecDepth 20000 in
set_option maxHeartbeats 2000000 in
theorem refPoints_any (A : Option Addr) (m c0 B : Nat) (l : List UInt8) (w : World) (hl : Bytes w B A m l) (hB : B ≤ w.heap.size) (hm : m ≤ 1000000) (hmc : m ≤ c0) (hc : c0 ≤ maxLen) :
    Calls Tryd.prog 20 #[.slice A m c0] w (GivesPts l w) := by
  obtain ⟨i0, hi, hz0, hz1, hz2⟩ := i64_info
  have Hlen := Lib.hid hl.len
  unfold maxLen at hc
  go_enter Tryd.func20, Tryd.ntmps20
  go_wp2
  go_loopw [5, 6] (fun o a wr => ∃ (p : Nat) (pre : List Nat) (A' : Option Addr) (n' c' : Nat), p ≤ m ∧ a = .int .i64 p ∧ o = .slice A' n' c' ∧ wr.ownsRow w.heap.size 3 1 (.slice A' n' c') n' ((nats pre).map iv) ∧ ptsL l = (pre ++ (ptsL (l.drop p)).1, p + (ptsL (l.drop p)).2) ∧ n' ≤ p ∧ Below w.heap.size w wr) (fun _ a _ => m - (intOf a).toNat)
  case atStart => exact ⟨0, [], none, 0, 0, by omega, rfl, rfl, World.ownsRow_nil _ _ _ _, by simp, by simp, Below.refl _ _⟩
  case round =>
    obtain ⟨p, pre, A', n', c', hp, rfl, rfl, hown, hP, hnp, hbr⟩ := hrel
    have HP := Lib.hid hP
    have hsw := hbr.size
    clear hP
    by_cases hlt : p < m
    · have hcut := (hl.below (hbr.mono hB)).cut (k := p) (cap := c0) (by omega) hmc
      have hne : ¬ c0 = p := by omega
      rw [if_neg hne] at hcut
      have i0' : (0 : Int) ≤ (p : Int) := by omega
      have i1 : (p : Int) ≤ (m : Int) := by omega
      have i2 : (m : Int) ≤ (c0 : Int) := by omega
      have i3 : (p : Int) < (m : Int) := by omega
      have hle := dec_le (l.drop p)
      rw [List.length_drop, Hlen.out] at hle
      have hbeg := begin_any (A.map (·.add p)) (m - p) (c0 - p) B (l.drop p) wr hcut (by omega) (by unfold maxLen; omega)
      rcases Nat.eq_zero_or_pos (decL (l.drop p)).2 with h | h
      · have HQ := Lib.hid (show ptsL l = (pre, p) by rw [HP.out, pts_zero h]; simp)
        rw [dec_zero h] at hbeg
        clear h
        go_wp2_with fail
        refine hbeg.mono ?_
        rintro e w1 ⟨rfl, hb1⟩
        go_wp2
        go_ret3
        have e1 := HQ.out
        have hne : (ptsL l).2 ≠ l.length := by rw [e1, Hlen.out]; simp only; omega
        refine ⟨none, 0, 0, ?_, bel_next hbr hb1, ?_⟩
        · rw [if_neg hne]; exact World.ownsRow_nil _ _ _ _
        · rw [if_neg hne, e1]; rfl
      · have HQ := Lib.hid (show ptsL l = ((pre ++ [(decL (l.drop p)).1]) ++ (ptsL (l.drop (p + (decL (l.drop p)).2))).1, (p + (decL (l.drop p)).2) + (ptsL (l.drop (p + (decL (l.drop p)).2))).2) by
          rw [HP.out, pts_step (l := l.drop p) (by omega), List.drop_drop]
          simp [Nat.add_assoc])
        generalize (decL (l.drop p)).1 = c at *
        generalize (decL (l.drop p)).2 = k at *
        have hk0 : ((k : Int) == 0) = false := by rw [beq_eq_false_iff_ne]; omega
        clear HP
        go_wp2_with fail
        refine hbeg.mono ?_
        rintro e w1 ⟨rfl, hb1⟩
        have hown1 := own_below hown hb1
        have hs1 := hb1.size
        have hnew : Shows (w1.alloc (.cells #[.int .i64 (c : Int)] 3)) (w1.heap.size + 1) 1 (some ⟨w1.heap.size, 0, none⟩) 1 [.int .i64 (c : Int)] := ints_new w1 [(c : Int)] _ _ _ rfl
        go_wp2_with (at_builtin; refine wpList_append_shows _ rfl _ _ 35 rfl w.heap.size 3 i0 (.int .i64 0) 1 8 Tryd.underlying35 hi hz0 hz1 hz2 rfl (by decide) _ _ _ rfl (hown1.alloc _) (w1.heap.size + 1) _ 1 1 [.int .i64 (c : Int)] rfl hnew (by simp [Value.oneCell']) (by unfold maxLen; omega) (by omega) (by simp; omega) ?_; intro A7 c7 w7 hown7 hgrow7 hb7)
        go_roundw
        case rel => exact ⟨p + k, pre ++ [c], A7, n' + 1, c7, by omega, by go_num, rfl, by rw [nats_snoc, List.map_append]; exact hown7, HQ.out, by omega, ((bel_next hbr hb1).alloc (by omega) _).trans hb7⟩
        case measure => simp [intOf]; omega
    · have hk : p = m := by omega
      have HQ := Lib.hid (show ptsL l = (pre, p) by rw [HP.out, List.drop_of_length_le (by rw [Hlen.out]; omega), pts_zero (l := []) rfl]; simp)
      have e2 := Lib.hid (show p = l.length by rw [Hlen.out]; exact hk)
      clear hk
      go_wp2
      go_ret3
      have e1 := HQ.out
      have he : (ptsL l).2 = l.length := by rw [e1]; exact e2.out
      refine ⟨A', n', c', ?_, hbr, ?_⟩
      · rw [if_pos he, e1]; exact hown
      · rw [if_pos he]; rfl

/-- What the reference's Text tells. -/
def refTextR (l : List Int) : Value := if l.all isCp = true then .tuple #[.string (ofL (textL (l.map Int.toNat))), .bool true] else .tuple #[.string ⟨#[]⟩, .bool false]
set_option maxRecDepth 20000 in
set_option maxHeartbeats 2000000 in
theorem refText_any (A : Option Addr) (m c0 B : Nat) (l : List Int) (w : World) (hl : Ints w B A m l) (hB : B ≤ w.heap.size) (hm : m ≤ 100000) :
    Calls Tryd.prog 18 #[.slice A m c0] w fun e w' => e = .returned (refTextR l) ∧ Below w.heap.size w w' := by
  obtain ⟨i0, hi, hz0, hz1, hz2⟩ := u8_info
  have Hl := Lib.hid hl.len
  go_enter Tryd.func18, Tryd.ntmps18
  go_wp2
  go_loopw [4, 5] (fun o a wr => ∃ (j : Nat) (A' : Option Addr) (n' c' : Nat), j ≤ m ∧ a = .int .i64 j ∧ o = .slice A' n' c' ∧ wr.ownsRow w.heap.size 5 1 (.slice A' n' c') n' ((sofar l j).map bv) ∧ n' ≤ 4 * j ∧ (∀ q, q < j → isCp (l.getD q 0) = true) ∧ Below w.heap.size w wr) (fun _ a _ => m - (intOf a).toNat)
  case atStart => exact ⟨0, none, 0, 0, by omega, rfl, rfl, World.ownsRow_nil _ _ _ _, by simp, fun q hq => by omega, Below.refl _ _⟩
  case round =>
    obtain ⟨j, A', n', c', hj, rfl, rfl, hown, hnj, hcp, hbr⟩ := hrel
    have Hcp := Lib.hid hcp
    have hsw := hbr.size
    clear hcp
    rcases (show j = m ∨ j < m by omega) with rfl | hjm
    · have hconv := run_bytes_string (P := Tryd.prog) Tryd.underlying22 Tryd.underlying5 Tryd.underlying9 wr A' _ c' _ _ (Bytes.own hown)
      have hall := Lib.hid (show l.all isCp = true by
        rw [List.all_eq_true]
        intro x hx
        obtain ⟨q, hq, rfl⟩ := List.mem_iff_getElem.1 hx
        have := Hcp.out q (by have := Hl.out; omega)
        rwa [List.getD_eq_getElem?_getD, List.getElem?_eq_getElem hq] at this)
      have HR := Lib.hid (show sofar l j = textL (l.map Int.toNat) by unfold sofar; rw [List.take_of_length_le (by rw [Hl.out]; omega)])
      generalize sofar l j = T at *
      go_wp2
      go_ret2
      exact ⟨by unfold refTextR; rw [if_pos hall.out, ← HR.out]; rfl, hbr⟩
    · have hlj : j < l.length := by have := Hl.out; omega
      obtain ⟨b0, off, rfl, hb0, hcx⟩ := (hl.below (hbr.mono hB)).cell hjm
      have hjm1 : (j : Int) < (m : Int) := by omega
      have hj0 : (0 : Int) ≤ (j : Int) := by omega
      have hcall := is_any (l.getD j 0) wr
      cases hx : isCp (l.getD j 0)
      · rw [hx] at hcall
        have hall := Lib.hid (show ¬ l.all isCp = true by
          intro h
          rw [List.all_eq_true] at h
          have := h l[j] (List.getElem_mem hlj)
          rw [List.getD_eq_getElem?_getD, List.getElem?_eq_getElem hlj] at hx
          simp only [Option.getD_some] at hx
          rw [hx] at this
          cases this)
        clear hx
        generalize l.getD j 0 = x at *
        go_wp2_with fail
        refine hcall.mono ?_
        rintro e w1 ⟨rfl, hw1⟩
        subst hw1
        go_wp2
        go_ret2
        exact ⟨by unfold refTextR; rw [if_neg hall.out]; rfl, hbr⟩
      · obtain ⟨c, Hc⟩ : ∃ c : Nat, Hid (l.getD j 0 = (c : Int)) := ⟨(l.getD j 0).toNat, Lib.hid (by have := (isCp_iff _).1 hx; omega)⟩
        have HS := Lib.hid (show sofar l (j + 1) = sofar l j ++ encL c by rw [sofar_succ l j hlj, Hc.out, Int.toNat_natCast])
        have HCP := Lib.hid (show ∀ q, q < j + 1 → isCp (l.getD q 0) = true from fun q hq => if e : q = j then e ▸ hx else Hcp.out q (by omega))
        rw [hx] at hcall
        rw [Hc.out] at hcx hx hcall
        have hc2 : c ≤ 1114111 := by have := (isCp_iff _).1 hx; omega
        clear Hc Hcp hx
        have Hel := Lib.hid (encL_len_pos c)
        generalize sofar l j = T at *
        go_wp2_with fail
        refine hcall.mono ?_
        rintro e w1 ⟨rfl, hw1⟩
        subst hw1
        go_wp2_with fail
        refine (bytes_any c hc2 _).mono ?_
        rintro e w2 ⟨A2, n2, c2, rfl, hown2, hb2⟩
        have hown1 := own_below hown hb2
        have hn2 : n2 ≤ 4 := by have := hown2.1; have := Hel.out; simp at *; omega
        have hs2 := hb2.size
        go_wp2_with (at_builtin; refine wpList_append_shows _ rfl _ _ 22 rfl w.heap.size 5 i0 (.int .u8 0) 1 1 Tryd.underlying22 hi hz0 hz1 hz2 rfl (by decide) _ _ _ rfl hown1 w2.heap.size _ n2 c2 ((encL c).map bv) rfl (Shows.own hown2) (bv_one _) (by unfold maxLen; omega) (by omega) (by omega) ?_; intro A7 c7 w7 hown7 hgrow7 hb7)
        go_roundw
        case rel => exact ⟨j + 1, A7, n' + n2, c7, by omega, by go_num, rfl, by rw [HS.out, List.map_append]; exact hown7, by omega, HCP.out, (bel_next hbr hb2).trans hb7⟩
        case measure => simp [intOf]; omega

def sameI (l1 l2 : List Int) : Bool := decide (l1 = l2)
set_option maxRecDepth 20000 in
set_option maxHeartbeats 1000000 in
theorem equalI_any (A1 A2 : Option Addr) (n1 c1 n2 c2 : Nat) (l1 l2 : List Int) (B1 B2 : Nat) (w : World) (h1 : Ints w B1 A1 n1 l1) (h2 : Ints w B2 A2 n2 l2) (hm1 : n1 ≤ maxLen) :
    Calls Tryd.prog 29 #[.slice A1 n1 c1, .slice A2 n2 c2] w fun e w' => e = .returned (.bool (sameI l1 l2)) ∧ ∃ k, w' = w.drewN k := by
  unfold maxLen at hm1
  by_cases hn : n1 = n2
  · subst hn
    go_enter Tryd.func29, Tryd.ntmps29
    go_wp2
    go_loopw [13] (fun i wr => ∃ k : Nat, k ≤ n1 ∧ i = .int .i64 k ∧ l1.take k = l2.take k ∧ ∃ m, wr = w.drewN m) (fun i _ => n1 - (intOf i).toNat)
    case atStart => exact ⟨0, Nat.zero_le _, rfl, rfl, 0, rfl⟩
    case round =>
      obtain ⟨k, hk, rfl, ht, m, rfl⟩ := hrel
      by_cases hlt : k < n1
      · obtain ⟨b1, o1, rfl, _, hc1⟩ := h1.cell hlt
        obtain ⟨b2, o2, rfl, _, hc2⟩ := h2.cell hlt
        have hl1 : k < l1.length := by have := h1.len; omega
        have hl2 : k < l2.length := by have := h2.len; omega
        have t1 : l1.take (k + 1) = l1.take k ++ [l1.getD k 0] := takeI_snoc l1 k hl1
        have t2 : l2.take (k + 1) = l2.take k ++ [l2.getD k 0] := takeI_snoc l2 k hl2
        by_cases hx : l1.getD k 0 = l2.getD k 0
        · have hb : (l1.getD k 0 != l2.getD k 0) = false := by rw [hx]; simp
          have ht' := Lib.hid (show l1.take (k + 1) = l2.take (k + 1) by rw [t1, t2, ht, hx])
          clear ht hx t1 t2
          generalize l1.getD k 0 = x1 at *
          generalize l2.getD k 0 = x2 at *
          go_wp2
          go_quiet (fail)
          go_wp2
          go_roundw
          case rel => exact ⟨k + 1, by omega, by go_num, ht'.out, _, rfl⟩
          case measure => simp [intOf]; omega
        · have hb : (l1.getD k 0 != l2.getD k 0) = true := bne_iff_ne.2 hx
          have hs := Lib.hid (show sameI l1 l2 = false by
            unfold sameI
            apply decide_eq_false
            intro h
            exact hx (by rw [h]))
          clear ht hx t1 t2
          generalize l1.getD k 0 = x1 at *
          generalize l2.getD k 0 = x2 at *
          go_wp2
          go_quiet (fail)
          go_wp2
          go_ret
          exact ⟨by rw [hs.out]; rfl, _, World.drewN_drewN _ _ _⟩
      · have hk' : k = n1 := by omega
        have hs := Lib.hid (show sameI l1 l2 = true by
          unfold sameI
          apply decide_eq_true
          have e1 := h1.len
          have e2 := h2.len
          rw [hk', List.take_of_length_le (by omega), List.take_of_length_le (by omega)] at ht
          exact ht)
        clear hk' ht
        go_wp2
        go_ret
        exact ⟨by rw [hs.out]; rfl, _, rfl⟩
  · have hne : ((n1 : Int) != (n2 : Int)) = true := by rw [bne_iff_ne]; omega
    have hl1 := h1.len
    have hl2 := h2.len
    have hs : sameI l1 l2 = false := by
      unfold sameI
      apply decide_eq_false
      intro h
      subst h
      omega
    rw [hs]
    clear hl1 hl2 hs
    go_enter Tryd.func29, Tryd.ntmps29
    go_wp2
    go_ret
    exact ⟨rfl, 0, rfl⟩

end Go.Proofs.YtgnialemiefeeaaDoor
