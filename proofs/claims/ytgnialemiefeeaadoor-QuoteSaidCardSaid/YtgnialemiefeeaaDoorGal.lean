import Derived.Test.YtgnialemiefeeaaDoorGaj
import Derived.Test.YtgnialemiefeeaaDoorGah
import Derived.Test.YtgnialemiefeeaaDoorGab
import Derived.Test.YtgnialemiefeeaaDoorGak
import Derived.Deep.RegionHeld3
import Derived.Deep.DrawnRows
import Derived.Test.YtgnialemiefeeaaDoorGai
import Derived.Laws.IdiomStrings
/-
  Layer 2: few; the reference's Points and Text; slices.Equal at whole numbers (layer 1's text, at this layer's few).
-/
namespace Go.Proofs.YtgnialemiefeeaaDoor
open Go.RowKit

set_option maxRecDepth 20000 in
set_option maxHeartbeats 1000000 in
theorem few_any (A : Option Addr) (n c B : Nat) (l : List UInt8) (w : World) (h : Bytes w B A n l) (hA : A = none → c = 0) (hB : B ≤ w.heap.size) (hn : n ≤ c) (hc : c ≤ maxLen) :
    Calls Tryd.prog 11 #[.slice A n c] w (GivesBytes 5 (l.take 400) w) := by
  unfold maxLen at hc
  by_cases h4 : n ≤ 400
  · have hl : l.take 400 = l := List.take_of_length_le (by rw [h.len]; exact h4)
    rw [hl]
    clear hl
    have hm : min (n : Int) 400 = (n : Int) := by omega
    go_enter Tryd.func11, Tryd.ntmps11
    go_wp2_with fail
    refine (clone_any A n c l B _ h hA hB (by omega)).mono ?_
    rintro e w1 ⟨A1, n1, c1, rfl, hown, hb⟩
    go_wp2
    go_ret
    exact ⟨A1, n1, c1, rfl, hown, hb⟩
  · have hm : min (n : Int) 400 = 400 := by omega
    have h5 := h.first (k := 400) (by omega)
    go_enter Tryd.func11, Tryd.ntmps11
    go_wp2_with fail
    refine (clone_any A 400 c (l.take 400) B _ h5 hA hB (by omega)).mono ?_
    rintro e w1 ⟨A1, n1, c1, rfl, hown, hb⟩
    go_wp2
    go_ret
    exact ⟨A1, n1, c1, rfl, hown, hb⟩

/-- What the reference's Points tells. -/
def GivesPts (l : List UInt8) (W : World) (e : Ending) (w' : World) : Prop :=
  ∃ A n c, w'.ownsRow W.heap.size 3 1 (.slice A n c) n ((if (ptsL l).2 = l.length then nats (ptsL l).1 else []).map iv) ∧ Below W.heap.size W w' ∧
    e = .returned (if (ptsL l).2 = l.length then .tuple #[.slice A n c, .int .i64 0, .bool true] else .tuple #[.slice A n c, .int .i64 ((ptsL l).2 : Int), .bool false])
set_option maxRecDepth 20000 in
set_option maxHeartbeats 2000000 in
theorem refPoints_any (A : Option Addr) (m c0 B : Nat) (l : List UInt8) (w : World) (hl : Bytes w B A m l) (hB : B ≤ w.heap.size) (hm : m ≤ 1000000) (hmc : m ≤ c0) (hc : c0 ≤ maxLen) :
    Calls Tryd.prog 20 #[.slice A m c0] w (GivesPts l w) := by
  obtain ⟨i0, hi, hz0, hz1, hz2⟩ := i64_info
  have Hlen := Lib.hid hl.len
  unfold maxLen at hc
  go_enter Tryd.func20, Tryd.ntmps20
  go_wp2
  go_loopw [5, 6] (fun o a wr => ∃ (p : Nat) (pre : List Nat) (A' : Option Addr) (n' c' : Nat), p ≤ m ∧ a = .int .i64 p ∧ o = .slice A' n' c' ∧ wr.ownsRow w.heap.size 3 1 (.slice A' n' c') n' ((nats pre).map iv) ∧ ptsL l = (pre ++ (ptsL (l.drop p)).1, p + (ptsL (l.drop p)).2) ∧ n' ≤ p ∧ Below w.heap.size w wr) (fun _ a _ => m - (intOf a).toNat)
  case atStart => exact ⟨0, [], none, 0, 0, by omega, rfl, rfl, World.ownsRow_nil _ _ _ _, by simp, by simp, Below.refl _ _⟩
  case round =>
    obtain ⟨p, pre, A', n', c', hp, rfl, rfl, hown, hP, hnp, hbr⟩ := hrel
    have HP := Lib.hid hP
    have hsw := hbr.size
    clear hP
    by_cases hlt : p < m
    · have hcut := (hl.below (hbr.mono hB)).cut (k := p) (cap := c0) (by omega) hmc
      have hne : ¬ c0 = p := by omega
      rw [if_neg hne] at hcut
      have i0' : (0 : Int) ≤ (p : Int) := by omega
      have i1 : (p : Int) ≤ (m : Int) := by omega
      have i2 : (m : Int) ≤ (c0 : Int) := by omega
      have i3 : (p : Int) < (m : Int) := by omega
      have hle := dec_le (l.drop p)
      rw [List.length_drop, Hlen.out] at hle
      have hbeg := begin_any (A.map (·.add p)) (m - p) (c0 - p) B (l.drop p) wr hcut (by omega) (by unfold maxLen; omega)
      rcases Nat.eq_zero_or_pos (decL (l.drop p)).2 with h | h
      · have HQ := Lib.hid (show ptsL l = (pre, p) by rw [HP.out, pts_zero h]; simp)
        rw [dec_zero h] at hbeg
        clear h
        go_wp2_with fail
        refine hbeg.mono ?_
        rintro e w1 ⟨rfl, hb1⟩
        go_wp2
        go_ret3
        have e1 := HQ.out
        have hne : (ptsL l).2 ≠ l.length := by rw [e1, Hlen.out]; simp only; omega
        refine ⟨none, 0, 0, ?_, bel_next hbr hb1, ?_⟩
        · rw [if_neg hne]; exact World.ownsRow_nil _ _ _ _
        · rw [if_neg hne, e1]; rfl
      · have HQ := Lib.hid (show ptsL l = ((pre ++ [(decL (l.drop p)).1]) ++ (ptsL (l.drop (p + (decL (l.drop p)).2))).1, (p + (decL (l.drop p)).2) + (ptsL (l.drop (p + (decL (l.drop p)).2))).2) by
          rw [HP.out, pts_step (l := l.drop p) (by omega), List.drop_drop]
          simp [Nat.add_assoc])
        generalize (decL (l.drop p)).1 = c at *
        generalize (decL (l.drop p)).2 = k at *
        have hk0 : ((k : Int) == 0) = false := by rw [beq_eq_false_iff_ne]; omega
        clear HP
        go_wp2_with fail
        refine hbeg.mono ?_
        rintro e w1 ⟨rfl, hb1⟩
        have hown1 := own_below hown hb1
        have hs1 := hb1.size
        have hnew : Shows (w1.alloc (.cells #[.int .i64 (c : Int)] 3)) (w1.heap.size + 1) 1 (some ⟨w1.heap.size, 0, none⟩) 1 [.int .i64 (c : Int)] := ints_new w1 [(c : Int)] _ _ _ rfl
        go_wp2_with (at_builtin; refine wpList_append_shows _ rfl _ _ 35 rfl w.heap.size 3 i0 (.int .i64 0) 1 8 Tryd.underlying35 hi hz0 hz1 hz2 rfl (by decide) _ _ _ rfl (hown1.alloc _) (w1.heap.size + 1) _ 1 1 [.int .i64 (c : Int)] rfl hnew (by simp [Value.oneCell']) (by unfold maxLen; omega) (by omega) (by simp; omega) ?_; intro A7 c7 w7 hown7 hgrow7 hb7)
        go_roundw
        case rel => exact ⟨p + k, pre ++ [c], A7, n' + 1, c7, by omega, by go_num, rfl, by rw [nats_snoc, List.map_append]; exact hown7, HQ.out, by omega, ((bel_next hbr hb1).alloc (by omega) _).trans hb7⟩
        case measure => simp [intOf]; omega
    · have hk : p = m := by omega
      have HQ := Lib.hid (show ptsL l = (pre, p) by rw [HP.out, List.drop_of_length_le (by rw [Hlen.out]; omega), pts_zero (l := []) rfl]; simp)
      have e2 := Lib.hid (show p = l.length by rw [Hlen.out]; exact hk)
      clear hk
      go_wp2
      go_ret3
      have e1 := HQ.out
      have he : (ptsL l).2 = l.length := by rw [e1]; exact e2.out
      refine ⟨A', n', c', ?_, hbr, ?_⟩
      · rw [if_pos he, e1]; exact hown
      · rw [if_pos he]; rfl

/-- What the reference's Text tells. -/
def refTextR (l : List Int) : Value := if l.all isCp = true then .tuple #[.string (ofL (textL (l.map Int.toNat))), .bool true] else .tuple #[.string ⟨#[]⟩, .bool false]
set_option maxRecDepth 20000 in
set_option maxHeartbeats 2000000 in
theorem refText_any (A : Option Addr) (m c0 B : Nat) (l : List Int) (w : World) (hl : Ints w B A m l) (hB : B ≤ w.heap.size) (hm : m ≤ 100000) :
    Calls Tryd.prog 18 #[.slice A m c0] w fun e w' => e = .returned (refTextR l) ∧ Below w.heap.size w w' := by
  obtain ⟨i0, hi, hz0, hz1, hz2⟩ := u8_info
  have Hl := Lib.hid hl.len
  go_enter Tryd.func18, Tryd.ntmps18
  go_wp2
  go_loopw [4, 5] (fun o a wr => ∃ (j : Nat) (A' : Option Addr) (n' c' : Nat), j ≤ m ∧ a = .int .i64 j ∧ o = .slice A' n' c' ∧ wr.ownsRow w.heap.size 5 1 (.slice A' n' c') n' ((sofar l j).map bv) ∧ n' ≤ 4 * j ∧ (∀ q, q < j → isCp (l.getD q 0) = true) ∧ Below w.heap.size w wr) (fun _ a _ => m - (intOf a).toNat)
  case atStart => exact ⟨0, none, 0, 0, by omega, rfl, rfl, World.ownsRow_nil _ _ _ _, by simp, fun q hq => by omega, Below.refl _ _⟩
  case round =>
    obtain ⟨j, A', n', c', hj, rfl, rfl, hown, hnj, hcp, hbr⟩ := hrel
    have Hcp := Lib.hid hcp
    have hsw := hbr.size
    clear hcp
    rcases (show j = m ∨ j < m by omega) with rfl | hjm
    · have hconv := run_bytes_string (P := Tryd.prog) Tryd.underlying22 Tryd.underlying5 Tryd.underlying9 wr A' _ c' _ _ (Bytes.own hown)
      have hall := Lib.hid (show l.all isCp = true by
        rw [List.all_eq_true]
        intro x hx
        obtain ⟨q, hq, rfl⟩ := List.mem_iff_getElem.1 hx
        have := Hcp.out q (by have := Hl.out; omega)
        rwa [List.getD_eq_getElem?_getD, List.getElem?_eq_getElem hq] at this)
      have HR := Lib.hid (show sofar l j = textL (l.map Int.toNat) by unfold sofar; rw [List.take_of_length_le (by rw [Hl.out]; omega)])
      generalize sofar l j = T at *
      go_wp2
      go_ret2
      exact ⟨by unfold refTextR; rw [if_pos hall.out, ← HR.out]; rfl, hbr⟩
    · have hlj : j < l.length := by have := Hl.out; omega
      obtain ⟨b0, off, rfl, hb0, hcx⟩ := (hl.below (hbr.mono hB)).cell hjm
      have hjm1 : (j : Int) < (m : Int) := by omega
      have hj0 : (0 : Int) ≤ (j : Int) := by omega
      have hcall := is_any (l.getD j 0) wr
      cases hx : isCp (l.getD j 0)
      · rw [hx] at hcall
        have hall := Lib.hid (show ¬ l.all isCp = true by
          intro h
          rw [List.all_eq_true] at h
          have := h l[j] (List.getElem_mem hlj)
          rw [List.getD_eq_getElem?_getD, List.getElem?_eq_getElem hlj] at hx
          simp only [Option.getD_some] at hx
          rw [hx] at this
          cases this)
        clear hx
        generalize l.getD j 0 = x at *
        go_wp2_with fail
        refine hcall.mono ?_
        rintro e w1 ⟨rfl, hw1⟩
        subst hw1
        go_wp2
        go_ret2
        exact ⟨by unfold refTextR; rw [if_neg hall.out]; rfl, hbr⟩
      · obtain ⟨c, Hc⟩ : ∃ c : Nat, Hid (l.getD j 0 = (c : Int)) := ⟨(l.getD j 0).toNat, Lib.hid (by have := (isCp_iff _).1 hx; omega)⟩
        have HS := Lib.hid (show sofar l (j + 1) = sofar l j ++ encL c by rw [sofar_succ l j hlj, Hc.out, Int.toNat_natCast])
        have HCP := Lib.hid (show ∀ q, q < j + 1 → isCp (l.getD q 0) = true from fun q hq => if e : q = j then e ▸ hx else Hcp.out q (by omega))
        rw [hx] at hcall
        rw [Hc.out] at hcx hx hcall
        have hc2 : c ≤ 1114111 := by have := (isCp_iff _).1 hx; omega
        clear Hc Hcp hx
        have Hel := Lib.hid (encL_len_pos c)
        generalize sofar l j = T at *
        go_wp2_with fail
        refine hcall.mono ?_
        rintro e w1 ⟨rfl, hw1⟩
        subst hw1
        go_wp2_with fail
        refine (bytes_any c hc2 _).mono ?_
        rintro e w2 ⟨A2, n2, c2, rfl, hown2, hb2⟩
        have hown1 := own_below hown hb2
        have hn2 : n2 ≤ 4 := by have := hown2.1; have := Hel.out; simp at *; omega
        have hs2 := hb2.size
        go_wp2_with (at_builtin; refine wpList_append_shows _ rfl _ _ 22 rfl w.heap.size 5 i0 (.int .u8 0) 1 1 Tryd.underlying22 hi hz0 hz1 hz2 rfl (by decide) _ _ _ rfl hown1 w2.heap.size _ n2 c2 ((encL c).map bv) rfl (Shows.own hown2) (bv_one _) (by unfold maxLen; omega) (by omega) (by omega) ?_; intro A7 c7 w7 hown7 hgrow7 hb7)
        go_roundw
        case rel => exact ⟨j + 1, A7, n' + n2, c7, by omega, by go_num, rfl, by rw [HS.out, List.map_append]; exact hown7, by omega, HCP.out, (bel_next hbr hb2).trans hb7⟩
        case measure => simp [intOf]; omega

def sameI (l1 l2 : List Int) : Bool := decide (l1 = l2)
set_option maxRecDepth 20000 in
set_option maxHeartbeats 1000000 in
theorem equalI_any (A1 A2 : Option Addr) (n1 c1 n2 c2 : Nat) (l1 l2 : List Int) (B1 B2 : Nat) (w : World) (h1 : Ints w B1 A1 n1 l1) (h2 : Ints w B2 A2 n2 l2) (hm1 : n1 ≤ maxLen) :
    Calls Tryd.prog 29 #[.slice A1 n1 c1, .slice A2 n2 c2] w fun e w' => e = .returned (.bool (sameI l1 l2)) ∧ ∃ k, w' = w.drewN k := by
  unfold maxLen at hm1
  by_cases hn : n1 = n2
  · subst hn
    go_enter Tryd.func29, Tryd.ntmps29
    go_wp2
    go_loopw [13] (fun i wr => ∃ k : Nat, k ≤ n1 ∧ i = .int .i64 k ∧ l1.take k = l2.take k ∧ ∃ m, wr = w.drewN m) (fun i _ => n1 - (intOf i).toNat)
    case atStart => exact ⟨0, Nat.zero_le _, rfl, rfl, 0, rfl⟩
    case round =>
      obtain ⟨k, hk, rfl, ht, m, rfl⟩ := hrel
      by_cases hlt : k < n1
      · obtain ⟨b1, o1, rfl, _, hc1⟩ := h1.cell hlt
        obtain ⟨b2, o2, rfl, _, hc2⟩ := h2.cell hlt
        have hl1 : k < l1.length := by have := h1.len; omega
        have hl2 : k < l2.length := by have := h2.len; omega
        have t1 : l1.take (k + 1) = l1.take k ++ [l1.getD k 0] := takeI_snoc l1 k hl1
        have t2 : l2.take (k + 1) = l2.take k ++ [l2.getD k 0] := takeI_snoc l2 k hl2
        by_cases hx : l1.getD k 0 = l2.getD k 0
        · have hb : (l1.getD k 0 != l2.getD k 0) = false := by rw [hx]; simp
          have ht' := Lib.hid (show l1.take (k + 1) = l2.take (k + 1) by rw [t1, t2, ht, hx])
          clear ht hx t1 t2
          generalize l1.getD k 0 = x1 at *
          generalize l2.getD k 0 = x2 at *
          go_wp2
          go_quiet (fail)
          go_wp2
          go_roundw
          case rel => exact ⟨k + 1, by omega, by go_num, ht'.out, _, rfl⟩
          case measure => simp [intOf]; omega
        · have hb : (l1.getD k 0 != l2.getD k 0) = true := bne_iff_ne.2 hx
          have hs := Lib.hid (show sameI l1 l2 = false by
            unfold sameI
            apply decide_eq_false
            intro h
            exact hx (by rw [h]))
          clear ht hx t1 t2
          generalize l1.getD k 0 = x1 at *
          generalize l2.getD k 0 = x2 at *
          go_wp2
          go_quiet (fail)
          go_wp2
          go_ret
          exact ⟨by rw [hs.out]; rfl, _, World.drewN_drewN _ _ _⟩
      · have hk' : k = n1 := by omega
        have hs := Lib.hid (show sameI l1 l2 = true by
          unfold sameI
          apply decide_eq_true
          have e1 := h1.len
          have e2 := h2.len
          rw [hk', List.take_of_length_le (by omega), List.take_of_length_le (by omega)] at ht
          exact ht)
        clear hk' ht
        go_wp2
        go_ret
        exact ⟨by rw [hs.out]; rfl, _, rfl⟩
  · have hne : ((n1 : Int) != (n2 : Int)) = true := by rw [bne_iff_ne]; omega
    have hl1 := h1.len
    have hl2 := h2.len
    have hs : sameI l1 l2 = false := by
      unfold sameI
      apply decide_eq_false
      intro h
      subst h
      omega
    rw [hs]
    clear hl1 hl2 hs
    go_enter Tryd.func29, Tryd.ntmps29
    go_wp2
    go_ret
    exact ⟨rfl, 0, rfl⟩

end Go.Proofs.YtgnialemiefeeaaDoor
/-
  The walk of QuoteSigns.
-/
namespace Go.Proofs.YtgnialemiefeeaaDoor
open Go.RowKit
set_option linter.unusedVariables false

/-- Behind a call: the same bytes in new memory are told equal. -/
theorem same_refl (l : List UInt8) : sameB l l = true := decide_eq_true rfl
set_option maxRecDepth 20000 in
set_option maxHeartbeats 2000000 in
theorem quoteSigns_walk (w : World) (A : Option Addr) (n c : Nat) (l : List UInt8) (h : Bytes w w.heap.size A n l) (hA : A = none → c = 0) (hn : n ≤ c) (hc : c ≤ maxLen) (x : Int) (hx : (Lit.int .i64 x).wf = true) (htab : UTab w) (hesc : ETab w) :
    Calls Tryd.prog 3 #[.slice A n c, .int .i64 x] w fun e w' => e = .returned (.bool true) ∧ Below w.heap.size w w' := by
  clear hx
  go_enter Tryd.func3, Tryd.ntmps3
  go_wp2_with fail
  refine (wakes_any w htab hesc).mono ?_
  rintro e w1 ⟨rfl, hb1⟩
  have t1 := htab.below hb1 htab.lt
  have e1 := hesc.below hb1 hesc.lt
  have h1 := h.below hb1
  have s1 := hb1.size
  go_wp2_with fail
  refine (few_any A n c w.heap.size l w1 h1 hA s1 hn hc).mono ?_
  rintro e w2 ⟨A2, n2, c2, rfl, hown2, hb2⟩
  have t2 := t1.below hb2 t1.lt
  have e2 := e1.below hb2 e1.lt
  have hl2 : Bytes w2 w2.heap.size A2 n2 (l.take 400) := Bytes.own hown2
  have Hl2 := Lib.hid hl2.len
  have hn2 : n2 ≤ 400 := by rw [← Hl2.out, List.length_take]; omega
  have hb02 := bel_next hb1 hb2
  obtain ⟨hnc, hcm⟩ : n2 ≤ c2 ∧ c2 ≤ maxLen := by obtain ⟨_, _, h1, h2, h3⟩ := own_form hown2; cases h1; exact ⟨h2, h3⟩
  unfold maxLen at hcm
  have hfew := fun (W : World) (hb : Below w2.heap.size w2 W) => few_any A n c w.heap.size l W (h.below (bel_next hb02 hb)) hA (bel_next hb02 hb).size hn hc
  have heq := fun (W W' : World) (hb : Below w2.heap.size w2 W') (A5 : Option Addr) (n5 c5 : Nat) (hown5 : W'.ownsRow W.heap.size 5 1 (.slice A5 n5 c5) n5 ((l.take 400).map bv)) =>
    equal_any A2 A5 n2 c2 n5 c5 _ _ w2.heap.size W'.heap.size W' (hl2.below hb) (Bytes.own hown5) (by unfold maxLen; omega) (by
      have := hown5.1; rw [List.length_map, List.length_take] at this; unfold maxLen; omega)
  have Hfew := Lib.hid hfew
  have Heq := Lib.hid heq
  clear hfew heq hown2 hb1 hb2 h1 t1 e1 hA hn hc
  by_cases hin : 0 ≤ x ∧ x ≤ (n2 : Int)
  · obtain ⟨p, rfl⟩ : ∃ p : Nat, x = (p : Int) := ⟨x.toNat, by omega⟩
    have hp : p ≤ n2 := by omega
    have i0 : (0 : Int) ≤ (p : Int) := by omega
    have i4 : ((p : Int) < 0) = False := by simp
    have i5 : ((n2 : Int) < (p : Int)) = False := by simp; omega
    have hsg := sign_in A2 n2 c2 w2.heap.size p (l.take 400) w2 t2 e2 hl2 (Nat.le_refl _) (by unfold maxLen; omega) hnc hp
    by_cases hpe : p = n2
    · subst hpe
      have hbz : (begL ((l.take 400).drop p)).2 = 0 := by rw [List.drop_of_length_le (by rw [Hl2.out]; exact Nat.le_refl _)]; rfl
      rw [sign_no hbz, show faultN (l.take 400) p = 6 from if_pos (by rw [Hl2.out]; exact Nat.le_refl _)] at hsg
      clear hbz hin
      go_wp2_with fail
      refine hsg.mono ?_
      rintro e w3 ⟨rfl, hb3⟩
      go_wp2_with fail
      refine (Hfew.out _ hb3).mono ?_
      rintro e w4 ⟨A4, n4, c4, rfl, hown4, hb4⟩
      have hb24 := bel_next hb3 hb4
      go_wp2_with fail
      refine (Heq.out _ _ hb24 _ _ _ hown4).mono ?_
      rintro e w5 ⟨rfl, k5, rfl⟩
      rw [same_refl]
      go_wp2
      go_ret
      exact ⟨rfl, below_drewN (bel_next hb02 hb24) _⟩
    · have i6 : ((p : Int) == (n2 : Int)) = false := by rw [beq_eq_false_iff_ne]; omega
      have i1 : (p : Int) ≤ (n2 : Int) := by omega
      have i2 : (n2 : Int) ≤ (c2 : Int) := by omega
      have i7 : (p : Int) < (n2 : Int) := by omega
      have hne : ¬ c2 = p := by omega
      have hne' : ¬ (c2 : Int) = p := by omega
      have hcut := fun (W : World) (hb : Below w2.heap.size w2 W) => by
        have hq := (hl2.below hb).cut (k := p) (cap := c2) (by omega) hnc
        rw [if_neg hne] at hq
        exact hq
      obtain ⟨b, off, rfl, -, -⟩ := hl2.cell (k := p) (by omega)
      rw [Option.map_some, addr_add] at hcut
      have hbeg := fun (W : World) (hb : Below w2.heap.size w2 W) => refBegin_any _ (n2 - p) (c2 - p) w2.heap.size ((l.take 400).drop p) W (hcut W hb) hb.size (by unfold maxLen; omega) (by omega)
      have hwr := fun (W : World) (hb : Below w2.heap.size w2 W) => wrong_any _ n2 c2 w2.heap.size p (l.take 400) W (hl2.below hb) (by unfold maxLen; omega) hp
      have hle := beg_le ((l.take 400).drop p)
      rw [List.length_drop, Hl2.out] at hle
      unfold pairV at hbeg
      clear hcut hin hpe
      by_cases h0 : (begL ((l.take 400).drop p)).2 = 0
      · rw [sign_no h0] at hsg
        rw [beg_zero h0] at hbeg
        have Hbeg := Lib.hid hbeg
        have Hwr := Lib.hid hwr
        clear hbeg h0 hwr hle
        generalize faultN (l.take 400) p = z at *
        go_wp2_with fail
        refine hsg.mono ?_
        rintro e w3 ⟨rfl, hb3⟩
        go_wp2_with fail
        refine (Hfew.out _ hb3).mono ?_
        rintro e w4 ⟨A4, n4, c4, rfl, hown4, hb4⟩
        have hb24 := bel_next hb3 hb4
        go_wp2_with fail
        refine (Heq.out _ _ hb24 _ _ _ hown4).mono ?_
        rintro e w5 ⟨rfl, k5, rfl⟩
        have hb25 := below_drewN hb24 k5
        rw [same_refl]
        go_wp2_with fail
        refine (Hbeg.out _ hb25).mono ?_
        rintro e w6 ⟨rfl, hb6⟩
        have hb26 := bel_next hb25 hb6
        go_wp2_with fail
        refine (Hwr.out _ hb26).mono ?_
        rintro e w7 ⟨rfl, rfl⟩
        go_wp2
        go_ret
        exact ⟨rfl, bel_next hb02 hb26⟩
      · rw [sign_yes (l := l.take 400) (p := p) (c := (begL ((l.take 400).drop p)).1) (n := (begL ((l.take 400).drop p)).2) rfl h0] at hsg
        have h5' : (((begL ((l.take 400).drop p)).2 : Int) == 0) = false := by rw [beq_eq_false_iff_ne]; omega
        have Hbeg := Lib.hid hbeg
        clear hbeg h0 hwr
        generalize (begL ((l.take 400).drop p)).1 = cp at *
        generalize (begL ((l.take 400).drop p)).2 = k at *
        rw [show ((p + k : Nat) : Int) = (p : Int) + (k : Int) by omega] at hsg
        go_wp2_with fail
        refine hsg.mono ?_
        rintro e w3 ⟨rfl, hb3⟩
        go_wp2_with fail
        refine (Hfew.out _ hb3).mono ?_
        rintro e w4 ⟨A4, n4, c4, rfl, hown4, hb4⟩
        have hb24 := bel_next hb3 hb4
        go_wp2_with fail
        refine (Heq.out _ _ hb24 _ _ _ hown4).mono ?_
        rintro e w5 ⟨rfl, k5, rfl⟩
        have hb25 := below_drewN hb24 k5
        rw [same_refl]
        go_wp2_with fail
        refine (Hbeg.out _ hb25).mono ?_
        rintro e w6 ⟨rfl, hb6⟩
        have hb26 := bel_next hb25 hb6
        go_wp2
        go_ret
        exact ⟨rfl, bel_next hb02 hb26⟩
  · have hbad := sign_bad A2 n2 c2 x w2 (by omega)
    rcases (show x < 0 ∨ (0 ≤ x ∧ (n2 : Int) < x) by omega) with h0 | ⟨h00, h0⟩
    · clear hin
      have i4 : (x < 0) = True := by simp; omega
      clear h0
      go_wp2_with fail
      refine hbad.mono ?_
      rintro e w3 ⟨rfl, rfl⟩
      go_wp2_with fail
      refine (Hfew.out _ (Below.refl _ _)).mono ?_
      rintro e w4 ⟨A4, n4, c4, rfl, hown4, hb4⟩
      go_wp2_with fail
      refine (Heq.out _ _ hb4 _ _ _ hown4).mono ?_
      rintro e w5 ⟨rfl, k5, rfl⟩
      rw [same_refl]
      go_wp2
      go_ret
      exact ⟨rfl, below_drewN (bel_next hb02 hb4) _⟩
    · clear hin
      have i4 : (x < 0) = False := by simp; omega
      clear h00
      go_wp2_with fail
      refine hbad.mono ?_
      rintro e w3 ⟨rfl, rfl⟩
      go_wp2_with fail
      refine (Hfew.out _ (Below.refl _ _)).mono ?_
      rintro e w4 ⟨A4, n4, c4, rfl, hown4, hb4⟩
      go_wp2_with fail
      refine (Heq.out _ _ hb4 _ _ _ hown4).mono ?_
      rintro e w5 ⟨rfl, k5, rfl⟩
      rw [same_refl]
      go_wp2
      go_ret
      exact ⟨rfl, below_drewN (bel_next hb02 hb4) _⟩
end Go.Proofs.YtgnialemiefeeaaDoor
/-
  The walk of QuoteReads.
-/
namespace Go.Proofs.YtgnialemiefeeaaDoor
open Go.RowKit
set_option linter.unusedVariables false

theorem readV_rd (l : List UInt8) (p : Nat) : readV l p = .tuple #[.string (ofL (textL (rdL l p).1)), .int .i64 ((rdL l p).2.1 : Int), .int .i64 (rdL l p).2.2] := by
  unfold readV rdL
  split
  · rfl
  · split
    · rfl
    · simp only
      split <;> rfl
theorem rd_cps (l : List UInt8) (p : Nat) : allCp (rdL l p).1 := by
  have hn : allCp [] := fun x hx => by cases hx
  unfold rdL
  split
  · exact hn
  · split
    · exact hn
    · simp only
      split
      · exact sgs_cps _
      · exact hn
theorem rd_few (l : List UInt8) (p : Nat) : (rdL l p).1.length ≤ l.length := by
  unfold rdL
  split
  · exact Nat.zero_le _
  · split
    · exact Nat.zero_le _
    · simp only
      split
      · have := (sgs_is (l.drop (p + 1)).length (l.drop (p + 1)) (Nat.le_refl _)).2
        rw [List.length_drop] at this
        show (sgsL (l.drop (p + 1))).1.length ≤ _
        omega
      · exact Nat.zero_le _
theorem refTextR_cps {cps : List Nat} (h : allCp cps) : refTextR (nats cps) = .tuple #[.string (ofL (textL cps)), .bool true] := by
  unfold refTextR
  rw [if_pos, nats_back]
  rw [List.all_eq_true]
  intro x hx
  obtain ⟨c, hc, rfl⟩ := List.mem_map.1 hx
  exact h c hc
set_option maxRecDepth 20000 in
set_option maxHeartbeats 2000000 in
theorem quoteReads_walk (w : World) (A : Option Addr) (n c : Nat) (l : List UInt8) (h : Bytes w w.heap.size A n l) (hA : A = none → c = 0) (hn : n ≤ c) (hc : c ≤ maxLen) (x : Int) (hx : (Lit.int .i64 x).wf = true) (htab : UTab w) (hesc : ETab w) :
    Calls Tryd.prog 4 #[.slice A n c, .int .i64 x] w fun e w' => e = .returned (.bool true) ∧ Below w.heap.size w w' := by
  clear hx
  go_enter Tryd.func4, Tryd.ntmps4
  go_wp2_with fail
  refine (wakes_any w htab hesc).mono ?_
  rintro e w1 ⟨rfl, hb1⟩
  have t1 := htab.below hb1 htab.lt
  have e1 := hesc.below hb1 hesc.lt
  have h1 := h.below hb1
  have s1 := hb1.size
  go_wp2_with fail
  refine (few_any A n c w.heap.size l w1 h1 hA s1 hn hc).mono ?_
  rintro e w2 ⟨A2, n2, c2, rfl, hown2, hb2⟩
  have t2 := t1.below hb2 t1.lt
  have e2 := e1.below hb2 e1.lt
  have hl2 : Bytes w2 w2.heap.size A2 n2 (l.take 400) := Bytes.own hown2
  have Hl2 := Lib.hid hl2.len
  have hn2 : n2 ≤ 400 := by rw [← Hl2.out, List.length_take]; omega
  have hb02 := bel_next hb1 hb2
  obtain ⟨hnc, hcm⟩ : n2 ≤ c2 ∧ c2 ≤ maxLen := by obtain ⟨_, _, h1, h2, h3⟩ := own_form hown2; cases h1; exact ⟨h2, h3⟩
  have Hcm := Lib.hid hcm
  unfold maxLen at hcm
  have hfew := fun (W : World) (hb : Below w2.heap.size w2 W) => few_any A n c w.heap.size l W (h.below (bel_next hb02 hb)) hA (bel_next hb02 hb).size hn hc
  have heq := fun (W W' : World) (hb : Below w2.heap.size w2 W') (A5 : Option Addr) (n5 c5 : Nat) (hown5 : W'.ownsRow W.heap.size 5 1 (.slice A5 n5 c5) n5 ((l.take 400).map bv)) =>
    equal_any A2 A5 n2 c2 n5 c5 _ _ w2.heap.size W'.heap.size W' (hl2.below hb) (Bytes.own hown5) (by unfold maxLen; omega) (by
      have := hown5.1; rw [List.length_map, List.length_take] at this; unfold maxLen; omega)
  have Hfew := Lib.hid hfew
  have Heq := Lib.hid heq
  clear hfew heq hown2 hb1 hb2 h1 t1 e1 hA hn hc
  by_cases hin : 0 ≤ x ∧ x ≤ (n2 : Int)
  · obtain ⟨p, rfl⟩ : ∃ p : Nat, x = (p : Int) := ⟨x.toNat, by omega⟩
    have hp : p ≤ n2 := by omega
    have i4 : ((p : Int) < 0) = False := by simp
    have i5 : ((n2 : Int) < (p : Int)) = False := by simp; omega
    have hrd := read_in A2 n2 c2 w2.heap.size p (l.take 400) w2 t2 e2 hl2 (Nat.le_refl _) (by omega) hnc hp
    rw [readV_rd] at hrd
    have hself : ((ofL (textL (rdL (l.take 400) p).1)).toList == (ofL (textL (rdL (l.take 400) p).1)).toList) = true := by simp
    have Href := Lib.hid (fun (W : World) (hb : Below w2.heap.size w2 W) => refRead_any A2 n2 c2 w2.heap.size p (l.take 400) W (hl2.below hb) hb.size (by omega) hnc Hcm.out hp)
    have Hcps := Lib.hid (rd_cps (l.take 400) p)
    have hfw := rd_few (l.take 400) p
    rw [Hl2.out] at hfw
    unfold GivesRd at Href
    have Hnl := Lib.hid (nats_len (rdL (l.take 400) p).1)
    have Hrt := Lib.hid (refTextR_cps Hcps.out)
    clear hin
    generalize (rdL (l.take 400) p).1 = cps at *
    generalize (rdL (l.take 400) p).2.1 = q at *
    generalize (rdL (l.take 400) p).2.2 = z at *
    generalize ofL (textL cps) = S at *
    go_wp2_with fail
    refine hrd.mono ?_
    rintro e w3 ⟨rfl, hb3⟩
    go_wp2_with fail
    refine (Href.out _ hb3).mono ?_
    rintro e w4 ⟨A4, n4, c4, hown4, hb4, rfl⟩
    have hb24 := bel_next hb3 hb4
    have hn4 : n4 ≤ 400 := by have := hown4.1; rw [List.length_map, Hnl.out] at this; omega
    have htx := refText_any A4 n4 c4 w4.heap.size (nats cps) w4 (Ints.own hown4) (Nat.le_refl _) (by omega)
    rw [Hrt.out] at htx
    clear hown4
    go_wp2_with fail
    refine htx.mono ?_
    rintro e w5 ⟨rfl, hb5⟩
    have hb25 := bel_next hb24 hb5
    go_wp2_with fail
    refine (Hfew.out _ hb25).mono ?_
    rintro e w6 ⟨A6, n6, c6, rfl, hown6, hb6⟩
    have hb26 := bel_next hb25 hb6
    go_wp2_with fail
    refine (Heq.out _ _ hb26 _ _ _ hown6).mono ?_
    rintro e w7 ⟨rfl, k7, rfl⟩
    rw [same_refl]
    go_wp2
    go_ret
    exact ⟨rfl, below_drewN (bel_next hb02 hb26) _⟩
  · have hbad := read_bad A2 n2 c2 x w2 (by omega)
    rcases (show x < 0 ∨ (0 ≤ x ∧ (n2 : Int) < x) by omega) with h0 | ⟨h00, h0⟩
    · clear hin
      have i4 : (x < 0) = True := by simp; omega
      clear h0
      go_wp2_with fail
      refine hbad.mono ?_
      rintro e w3 ⟨rfl, hb3⟩
      go_wp2
      go_ret
      exact ⟨rfl, bel_next hb02 hb3⟩
    · clear hin
      have i4 : (x < 0) = False := by simp; omega
      clear h00
      go_wp2_with fail
      refine hbad.mono ?_
      rintro e w3 ⟨rfl, hb3⟩
      go_wp2
      go_ret
      exact ⟨rfl, bel_next hb02 hb3⟩
end Go.Proofs.YtgnialemiefeeaaDoor
/-
  '[]byte(s)': a row of the call's own that shows the string's bytes; a string's front. No program in sight.
-/
namespace Go.Proofs.YtgnialemiefeeaaDoor
open Go.RowKit

theorem below_draw_alloc (w : World) (o : Obj) : Below w.heap.size w (w.drew.alloc o) := below_undrew ((Below.refl w.heap.size w.drew).alloc (Nat.le_refl _) o)
theorem string_bytes {P : Program} {src dst e : TypeId} (hs : P.underlying src = some .string) (hd : P.underlying dst = some (.slice e)) (he : P.underlying e = some (.int .u8)) (s : ByteArray) (l : List UInt8) (hl : s.data.toList = l) (hm : s.size ≤ maxLen) (w : World) :
    ∃ c w', (convert src dst (.string s)).run P w = .ok (.slice (some ⟨w.heap.size, 0, none⟩) l.length c) w' ∧ Bytes w' w'.heap.size (some ⟨w.heap.size, 0, none⟩) l.length l ∧ l.length ≤ c ∧ c ≤ maxLen ∧ Below w.heap.size w w' := by
  have hsz : s.size = l.length := by rw [← hl, Array.length_toList]; rfl
  rw [hsz] at hm
  have hrun := run_bytes_of_string (P := P) w src dst e s hs hd he
  rw [hsz] at hrun
  have hge := grownCap_ge w l.length 0 e
  refine ⟨_, _, hrun, ?_, hge, grownCap_le_maxLen w l.length 0 e hm, below_draw_alloc w _⟩
  refine ⟨by simp, fun hn => ⟨w.heap.size, 0, rfl, by simp [World.alloc, World.drew, -World.alloc_eq, -World.drew_eq], fun j u hu => ?_⟩⟩
  have h2 := World.cell?_alloc_mark w.drew (bytesRow s (grownCap w l.length 0 e)) e ((bytesRow s (grownCap w l.length 0 e)).size, (bytesRow s (grownCap w l.length 0 e)).size + 1) j
  rw [Nat.zero_add]
  refine h2.trans ?_
  have hj : j < l.length := by
    have := (List.getElem?_eq_some_iff.1 hu).1
    simpa using this
  unfold bytesRow
  rw [Array.getElem?_append_left (by simp; rw [← hl] at hj; simpa using hj)]
  rw [List.getElem?_map] at hu
  rw [Array.getElem?_map, ← Array.getElem?_toList, hl, ← hu]
  rfl
/-- A string's front. -/
theorem front_str (s : ByteArray) (l : List UInt8) (k : Nat) (hl : s.data.toList = l) : (s.extract 0 k).data.toList = l.take k := by
  rw [← hl]
  simp [ByteArray.data_extract, Array.toList_extract, List.extract]
theorem str_size (s : ByteArray) (l : List UInt8) (hl : s.data.toList = l) : s.size = l.length := by rw [← hl, Array.length_toList]; rfl
end Go.Proofs.YtgnialemiefeeaaDoor
/-
  The walks of QuoteCuts and QuoteLeast.
-/
namespace Go.Proofs.YtgnialemiefeeaaDoor
open Go.RowKit
set_option linter.unusedVariables false

/-- What a right literal is. -/
theorem rd_ok {l : List UInt8} {p : Nat} (h : (rdL l p).2.2 = 0) : p < l.length ∧ at0 l p = 34 ∧ ∃ q, sgsL (l.drop (p + 1)) = ((rdL l p).1, q - (p + 1)) ∧ p + 1 ≤ q ∧ q < l.length ∧ at0 l q = 34 ∧ rdL l p = ((rdL l p).1, q + 1, 0) := by
  unfold rdL at h ⊢
  split at h
  · cases h
  · rename_i h1
    split at h
    · cases h
    · rename_i h2
      simp only at h
      split at h
      · rename_i h3
        rw [if_neg h1, if_neg h2]
        simp only
        rw [if_pos h3]
        exact ⟨by omega, by omega, p + 1 + (sgsL (l.drop (p + 1))).2, by rw [show p + 1 + (sgsL (l.drop (p + 1))).2 - (p + 1) = (sgsL (l.drop (p + 1))).2 by omega], by omega, h3.1, h3.2, rfl⟩
      · exfalso
        rename_i h3
        simp only at h
        unfold faultN at h
        split at h
        · cases h
        · split at h <;> cases h
theorem rd_bad {l : List UInt8} {p : Nat} (h : (rdL l p).2.2 ≠ 0) (hp : p ≤ l.length) : (rdL l p).1 = [] ∧ (rdL l p).2.1 ≤ l.length := by
  have hs := (sgs_is (l.drop (p + 1)).length (l.drop (p + 1)) (Nat.le_refl _)).2.1
  rw [List.length_drop] at hs
  unfold rdL at h ⊢
  split at h
  · rename_i h1; rw [if_pos h1]; exact ⟨rfl, hp⟩
  · rename_i h1
    rw [if_neg h1]
    split at h
    · rename_i h2; rw [if_pos h2]; exact ⟨rfl, hp⟩
    · rename_i h2
      rw [if_neg h2]
      simp only at h ⊢
      split at h
      · exact absurd rfl h
      · rename_i h3; rw [if_neg h3]; exact ⟨rfl, by simp only; omega⟩
/-- A quoted text is read as what it says, whatever stands around it. -/
theorem rd_quote (pre post : List UInt8) (cps : List Nat) (h : allCp cps) : rdL (pre ++ (quoteL cps ++ post)) pre.length = (cps, pre.length + (quoteL cps).length, 0) := by
  have e : (pre ++ (quoteL cps ++ post)).drop (pre.length + 1) = spellsL cps ++ (b8 34 :: post) := by
    rw [← List.drop_drop, List.drop_left]; simp [quoteL]
  have hs := sgs_quote cps post h
  have hl := quote_len cps
  have a0 : at0 (pre ++ (quoteL cps ++ post)) pre.length = 34 := by
    have := at0_drop (pre ++ (quoteL cps ++ post)) pre.length 0
    rw [List.drop_left, Nat.add_zero] at this
    rw [← this]; rfl
  have a1 : at0 (pre ++ (quoteL cps ++ post)) (pre.length + 1 + (spellsL cps).length) = 34 := by
    have := at0_drop (pre ++ (quoteL cps ++ post)) (pre.length + 1) (spellsL cps).length
    rw [e] at this
    rw [← this, show (spellsL cps).length = (spellsL cps).length + 0 by omega, ← at0_drop, List.drop_left]; rfl
  have hlen : (pre ++ (quoteL cps ++ post)).length = pre.length + ((spellsL cps).length + 2) + post.length := by rw [List.length_append, List.length_append, hl]; omega
  rw [rd_is (q := pre.length + 1 + (spellsL cps).length) (cps := cps) (by rw [hlen]; omega) a0 (by omega) (by rw [e, hs]; congr 1; omega), if_pos ⟨by rw [hlen]; omega, a1⟩, hl]
  congr 2
  omega
theorem rd_quote0 (cps : List Nat) (h : allCp cps) : rdL (quoteL cps) 0 = (cps, (quoteL cps).length, 0) := by
  have := rd_quote [] [] cps h
  simpa using this
/-- No proper front of a right literal is one. -/
theorem rd_front {l : List UInt8} {n : Nat} (h : (rdL l 0).2.2 = 0) (hn : n < (rdL l 0).2.1) : (rdL (l.take n) 0).2.2 ≠ 0 := by
  intro h'
  obtain ⟨h1, h2, q, h3, h4, h5, h6, h7⟩ := rd_ok h
  obtain ⟨k1, k2, r, k3, k4, k5, k6, k7⟩ := rd_ok h'
  rw [h7] at hn
  simp only at hn
  rw [List.length_take] at k5
  have e : l.drop (0 + 1) = (l.take n).drop (0 + 1) ++ l.drop n := by
    have e0 := congrArg (List.drop (0 + 1)) (List.take_append_drop n l)
    rw [List.drop_append_of_le_length (by rw [List.length_take]; omega)] at e0
    exact e0.symm
  have hm := sgs_more ((l.take n).drop (0 + 1)).length ((l.take n).drop (0 + 1)) (l.drop n) (Nat.le_refl _) (by rw [k3, List.length_drop, List.length_take]; simp only; omega) (by rw [k3]; simp only; rw [at0_drop, show 0 + 1 + (r - (0 + 1)) = r by omega]; exact k6)
  rw [← e, h3, k3] at hm
  have := congrArg Prod.snd hm
  simp only at this
  omega
theorem pts_textL (cps : List Nat) (h : allCp cps) : ptsL (textL cps) = (cps, (textL cps).length) := pts_of cps [] _ h rfl (by simp)
theorem print_textL (cps : List Nat) (h : allCp cps) : printR (textL cps) = .tuple #[.string (ofL (quoteL cps)), .int .i64 0] := by
  unfold printR
  rw [pts_textL cps h, if_pos rfl]
theorem textL_le4 : ∀ m : List Nat, (textL m).length ≤ 4 * m.length
  | [] => Nat.zero_le _
  | c :: m => by
    have := textL_le4 m
    have := (encL_len_pos c).2
    rw [textL_cons, List.length_append, List.length_cons]
    omega
theorem quote_le {l : List UInt8} (h : (rdL l 0).2.2 = 0) : (quoteL (rdL l 0).1).length ≤ (rdL l 0).2.1 := by
  obtain ⟨h1, h2, q, h3, h4, h5, h6, h7⟩ := rd_ok h
  have := sgs_least (l.drop (0 + 1)).length (l.drop (0 + 1)) (Nat.le_refl _)
  rw [h3] at this
  simp only at this
  rw [h7, quote_len]
  simp only
  rw [h7] at this
  simp only at this
  omega

set_option maxRecDepth 20000 in
set_option maxHeartbeats 2000000 in
theorem quoteLeast_walk (w : World) (A : Option Addr) (n c : Nat) (l : List UInt8) (h : Bytes w w.heap.size A n l) (hA : A = none → c = 0) (hn : n ≤ c) (hc : c ≤ maxLen) (htab : UTab w) (hesc : ETab w) :
    Calls Tryd.prog 8 #[.slice A n c] w fun e w' => e = .returned (.bool true) ∧ Below w.heap.size w w' := by
  go_enter Tryd.func8, Tryd.ntmps8
  go_wp2_with fail
  refine (wakes_any w htab hesc).mono ?_
  rintro e w1 ⟨rfl, hb1⟩
  have t1 := htab.below hb1 htab.lt
  have e1 := hesc.below hb1 hesc.lt
  have h1 := h.below hb1
  have s1 := hb1.size
  go_wp2_with fail
  refine (few_any A n c w.heap.size l w1 h1 hA s1 hn hc).mono ?_
  rintro e w2 ⟨A2, n2, c2, rfl, hown2, hb2⟩
  have t2 := t1.below hb2 t1.lt
  have e2 := e1.below hb2 e1.lt
  have hl2 : Bytes w2 w2.heap.size A2 n2 (l.take 400) := Bytes.own hown2
  have Hl2 := Lib.hid hl2.len
  have hn2 : n2 ≤ 400 := by rw [← Hl2.out, List.length_take]; omega
  have hb02 := bel_next hb1 hb2
  obtain ⟨hnc, hcm⟩ : n2 ≤ c2 ∧ c2 ≤ maxLen := by obtain ⟨_, _, h1, h2, h3⟩ := own_form hown2; cases h1; exact ⟨h2, h3⟩
  have hrd := read_in A2 n2 c2 w2.heap.size 0 (l.take 400) w2 t2 e2 hl2 (Nat.le_refl _) (by omega) hnc (Nat.zero_le _)
  rw [readV_rd] at hrd
  clear hown2 hb1 hb2 h1 t1 e1 hA hn hc h hcm hl2
  generalize l.take 400 = l at *
  by_cases hok : (rdL l 0).2.2 = 0
  · have Hcps := Lib.hid (rd_cps l 0)
    have hle := quote_le hok
    have hfw := rd_few l 0
    rw [Hl2.out] at hfw
    obtain ⟨-, -, q, -, -, hq, -, hq2⟩ := rd_ok hok
    have hqn : (rdL l 0).2.1 ≤ n2 := by rw [hq2]; simp only; have := Hl2.out; omega
    rw [hok] at hrd
    clear hok hq hq2
    generalize (rdL l 0).1 = cps at *
    generalize (rdL l 0).2.1 = nx at *
    have hsz : (ofL (textL cps)).size ≤ 1600 := by rw [ofL_size]; have := (textL_le4 cps); omega
    have hpr := fun (W : World) (hb : Below w2.heap.size w2 W) => print_any (ofL (textL cps)) (textL cps) (ofL_toList _) W (by omega) (t2.below hb t2.lt) (e2.below hb e2.lt)
    rw [print_textL cps Hcps.out] at hpr
    have hqs := ofL_size (quoteL cps)
    have Hrq := Lib.hid (rd_quote0 cps Hcps.out)
    have Hss := Lib.hid (ofL_toList (quoteL cps))
    have hself : ((ofL (textL cps)).toList == (ofL (textL cps)).toList) = true := by simp
    have Hrv := Lib.hid (readV_rd (quoteL cps) 0)
    rw [Hrq.out] at Hrv
    generalize ofL (textL cps) = T at *
    generalize hQ : ofL (quoteL cps) = S at *
    clear hQ
    generalize hm : (quoteL cps).length = m at *
    go_wp2_with fail
    refine hrd.mono ?_
    rintro e w3 ⟨rfl, hb3⟩
    go_wp2_with fail
    refine (hpr _ hb3).mono ?_
    rintro e w4 ⟨rfl, hb4⟩
    have hb24 := bel_next hb3 hb4
    obtain ⟨c5, w5, hconv5, hl5, hc5a, hc5b, hb5⟩ := string_bytes (P := Tryd.prog) Tryd.underlying9 Tryd.underlying22 Tryd.underlying5 S (quoteL cps) Hss.out (by unfold maxLen; omega) w4
    have hb25 := bel_next hb24 hb5
    have Hb25 := Lib.hid hb25
    have hrd2 := read_in (some ⟨w4.heap.size, 0, none⟩) m c5 w5.heap.size 0 (quoteL cps) w5 (t2.below hb25 t2.lt) (e2.below hb25 e2.lt) (by rw [← hm]; exact hl5) (Nat.le_refl _) (by omega) (by omega) (Nat.zero_le _)
    rw [Hrv.out] at hrd2
    rw [hm] at hconv5
    have hle' : (m : Int) ≤ nx := by omega
    clear hl5 Hrv Hrq Hss hm hpr hrd hle hb4 hb3
    go_wp2_with fail
    refine hrd2.mono ?_
    rintro e w6 ⟨rfl, hb6⟩
    go_wp2
    go_ret
    exact ⟨rfl, bel_next hb02 (bel_next hb25 hb6)⟩
  · obtain ⟨hc0, hq⟩ := rd_bad hok (Nat.zero_le _)
    rw [Hl2.out] at hq
    rw [hc0, show ofL (textL []) = ⟨#[]⟩ from rfl] at hrd
    have hok' : ((rdL l 0).2.2 != 0) = true := by rw [bne_iff_ne]; exact hok
    clear hok hc0
    generalize (rdL l 0).2.1 = q at *
    generalize (rdL l 0).2.2 = z at *
    have hq' : (q : Int) ≤ n2 := by omega
    go_wp2_with fail
    refine hrd.mono ?_
    rintro e w3 ⟨rfl, hb3⟩
    go_wp2
    go_ret
    exact ⟨rfl, bel_next hb02 hb3⟩
end Go.Proofs.YtgnialemiefeeaaDoor
