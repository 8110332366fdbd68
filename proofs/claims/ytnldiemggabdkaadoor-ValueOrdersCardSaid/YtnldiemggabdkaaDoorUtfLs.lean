/-
  Layer 1: walk, Check.
-/
import Derived.Test.YtnldiemggabdkaaDoorUtfKs
import Derived.RangeFuncBox
import Derived.Shelf.Abstract
namespace Go.Proofs.YtnldiemggabdkaaDoor
open Go.RowKit Go.Shelf

/-- What walk tells. -/
def walkR (l : List UInt8) : Value := if (ptsL l).2 = l.length then .tuple #[.int .i64 0, .int .i64 0] else .tuple #[.int .i64 ((ptsL l).2 : Int), .int .i64 110]
set_option maxRecDepth 20000 in
set_option maxHeartbeats 1000000 in
theorem walk_any (s : ByteArray) (l : List UInt8) (hs : s.data.toList = l) (g : Nat) (lb : Array Value) (w : World) (hm : s.size ≤ maxLen)
    (I : List Nat → World → Prop) (hU : ∀ pre W, I pre W → UTab W) (hI : ∀ pre W W', I pre W → Below W.heap.size W W' → I pre W') (h0 : I [] w)
    (eg : ∀ args w, (callFunc g args).run Tryd.prog w = .ok (.enter g args) w)
    (hv : ∀ pre c W, I pre W → pre.length < s.size → Calls Tryd.prog g (#[.int .i64 ((c : Nat) : Int)] ++ lb) W fun e W' => (∃ v, e = .returned v) ∧ I (pre ++ [c]) W') :
    Calls Tryd.prog 58 #[.string s, .func (.func g) #[] lb] w fun e w' => e = .returned (walkR l) ∧ I (ptsL l).1 w' := by
  have hlen : l.length = s.size := by rw [← hs]; simp
  have Hm := Lib.hid hm
  unfold maxLen at hm
  go_enter Tryd.func58, Tryd.ntmps58
  go_wp2
  go_loopw [6] (fun a wr => ∃ (p : Nat) (pre : List Nat), p ≤ s.size ∧ a = .int .i64 p ∧ ptsL l = (pre ++ (ptsL (l.drop p)).1, p + (ptsL (l.drop p)).2) ∧ pre.length ≤ p ∧ I pre wr) (fun a _ => s.size - (intOf a).toNat)
  case atStart => exact ⟨0, [], by omega, rfl, by simp, by simp, h0⟩
  case round =>
    obtain ⟨p, pre, hp, rfl, hP, hpl, hJ⟩ := hrel
    have HP := Lib.hid hP
    have HL := Lib.hid hlen
    clear hP hlen
    by_cases hlt : p < s.size
    · have hd := decode_string s p wr (hU _ _ hJ) Hm.out hlt
      rw [hs] at hd
      clear hs
      rcases Nat.eq_zero_or_pos (decL (l.drop p)).2 with h | h
      · rw [decR_no (dec_zero h)] at hd
        have HQ := Lib.hid (show ptsL l = (pre, p) by rw [HP.out, pts_zero h]; simp)
        clear h
        go_wp2_with fail
        refine hd.mono ?_
        rintro e w1 ⟨rfl, hb⟩
        go_wp2
        go_ret2
        have := HQ.out
        have e2 := HL.out
        refine ⟨?_, by rw [this]; exact hI _ _ _ hJ hb⟩
        unfold walkR
        rw [this, if_neg (by simp only; omega)]
        rfl
      · rw [decR_yes (l := l) (p := p) (c := (decL (l.drop p)).1) (n := (decL (l.drop p)).2) rfl (by omega)] at hd
        have HQ := Lib.hid (show ptsL l = ((pre ++ [(decL (l.drop p)).1]) ++ (ptsL (l.drop (p + (decL (l.drop p)).2))).1, (p + (decL (l.drop p)).2) + (ptsL (l.drop (p + (decL (l.drop p)).2))).2) by
          rw [HP.out, pts_step (l := l.drop p) (by omega), List.drop_drop]
          simp [Nat.add_assoc])
        have hle := dec_le (l.drop p)
        rw [List.length_drop, HL.out] at hle
        generalize (decL (l.drop p)).1 = c at *
        generalize (decL (l.drop p)).2 = n at *
        go_wp2_with fail
        refine hd.mono ?_
        rintro e w1 ⟨rfl, hb⟩
        have hJ1 := hI _ _ _ hJ hb
        have hv1 := hv pre c w1 hJ1 (by omega)
        go_wp2_with fail
        refine hv1.mono ?_
        rintro e w2 ⟨⟨v, rfl⟩, hJ2⟩
        go_wp2
        go_roundw
        case rel => exact ⟨p + n, pre ++ [c], by omega, rfl, HQ.out, by simp; omega, hJ2⟩
        case measure => simp [intOf]; omega
    · have hk : p = s.size := by omega
      have HQ := Lib.hid (show ptsL l = (pre, p) by rw [HP.out, List.drop_of_length_le (by rw [HL.out]; omega), pts_zero (l := []) rfl]; simp)
      have e2 := Lib.hid (show p = l.length by rw [HL.out]; exact hk)
      clear hk
      go_wp2
      go_ret2
      have := HQ.out
      refine ⟨?_, by rw [this]; exact hJ⟩
      unfold walkR
      rw [this, if_pos e2.out]
      rfl

set_option maxRecDepth 20000 in
theorem check_any (s : ByteArray) (l : List UInt8) (hs : s.data.toList = l) (w : World) (hm : s.size ≤ maxLen) (htab : UTab w) :
    Calls Tryd.prog 93 #[.string s] w fun e w' => e = .returned (walkR l) ∧ Below w.heap.size w w' := by
  have hw := walk_any s l hs 96 #[] w hm (fun _ W => UTab W ∧ Below w.heap.size w W) (fun _ _ h => h.1) (fun _ W W' h hb => ⟨h.1.below hb h.1.lt, bel_next h.2 hb⟩) ⟨htab, Below.refl _ _⟩ (enters_of Tryd.func96 (by kernel_rfl) rfl) (fun pre c W h _ => by
    go_enter Tryd.func96, Tryd.ntmps96
    go_wp2
    go_end0
    exact ⟨⟨_, rfl⟩, h⟩)
  unfold walkR at hw ⊢
  split at hw
  · rw [if_pos (by assumption)]
    go_enter Tryd.func93, Tryd.ntmps93
    go_wp2_with fail
    refine hw.mono ?_
    rintro e w1 ⟨rfl, -, hb⟩
    go_wp2
    go_ret2
    exact ⟨rfl, hb⟩
  · rw [if_neg (by assumption)]
    generalize (((ptsL l).2 : Nat) : Int) = x at *
    go_enter Tryd.func93, Tryd.ntmps93
    go_wp2_with fail
    refine hw.mono ?_
    rintro e w1 ⟨rfl, -, hb⟩
    go_wp2
    go_ret2
    exact ⟨rfl, hb⟩
end Go.Proofs.YtnldiemggabdkaaDoor
