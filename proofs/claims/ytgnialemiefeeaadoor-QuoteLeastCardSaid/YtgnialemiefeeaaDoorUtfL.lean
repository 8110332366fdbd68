/-
  Layer 1: Next, walk, Check.
-/
import Derived.Test.YtgnialemiefeeaaDoorUtfK
import Derived.RangeFuncBox
import Derived.Shelf.Abstract
namespace Go.Proofs.YtgnialemiefeeaaDoor
open Go.RowKit Go.Shelf

set_option maxRecDepth 20000 in
theorem next_bad (A : Option Addr) (m c0 : Nat) (p : Int) (w : World) (h : p < 0 ∨ (m : Int) < p) :
    Calls Tryd.prog 32 #[.slice A m c0, .int .i64 p] w fun e w' => e = .returned (.tuple #[.int .i64 0, .int .i64 0, .int .i64 2]) ∧ w' = w := by
  rcases h with h | h
  · go_enter Tryd.func32, Tryd.ntmps32
    go_wp2
    go_ret3
    exact ⟨rfl, rfl⟩
  · have h0 : ¬ p < 0 := by omega
    go_enter Tryd.func32, Tryd.ntmps32
    go_wp2
    go_ret3
    exact ⟨rfl, rfl⟩
set_option maxRecDepth 20000 in
theorem next_end (A : Option Addr) (m c0 : Nat) (w : World) :
    Calls Tryd.prog 32 #[.slice A m c0, .int .i64 (m : Int)] w fun e w' => e = .returned (.tuple #[.int .i64 0, .int .i64 0, .int .i64 6]) ∧ w' = w := by
  have h0 : ¬ (m : Int) < 0 := by omega
  go_enter Tryd.func32, Tryd.ntmps32
  go_wp2
  go_ret3
  exact ⟨rfl, rfl⟩
set_option maxRecDepth 20000 in
theorem next_in (A : Option Addr) (m c0 B p : Nat) (l : List UInt8) (w : World) (htab : UTab w) (hl : Bytes w B A m l) (hB : B ≤ w.heap.size) (hm : m ≤ maxLen) (hp : p < m) :
    Calls Tryd.prog 32 #[.slice A m c0, .int .i64 p] w fun e w' => e = .returned (decR l p) ∧ Below w.heap.size w w' := by
  have h0 : ¬ (p : Int) < 0 := by omega
  have h1 : ¬ (m : Int) < (p : Int) := by omega
  have h2 : ((p : Int) == (m : Int)) = false := by rw [beq_eq_false_iff_ne]; omega
  have hd := decode_bytes A m c0 B p l w htab hl hB hm hp
  rcases Nat.eq_zero_or_pos (decL (l.drop p)).2 with h | h
  · have e := decR_no (dec_zero h)
    rw [e] at hd ⊢
    clear e h
    go_enter Tryd.func32, Tryd.ntmps32
    go_wp2_with fail
    refine hd.mono ?_
    rintro e w1 ⟨rfl, hb⟩
    go_wp2
    go_ret3
    exact ⟨rfl, hb⟩
  · have e := decR_yes (l := l) (p := p) (c := (decL (l.drop p)).1) (n := (decL (l.drop p)).2) rfl (by omega)
    rw [e] at hd ⊢
    generalize (((decL (l.drop p)).1 : Nat) : Int) = x at *
    generalize ((p + (decL (l.drop p)).2 : Nat) : Int) = y at *
    clear e h
    go_enter Tryd.func32, Tryd.ntmps32
    go_wp2_with fail
    refine hd.mono ?_
    rintro e w1 ⟨rfl, hb⟩
    go_wp2
    go_ret3
    exact ⟨rfl, hb⟩

/-- What walk tells. -/
def walkR (l : List UInt8) : Value := if (ptsL l).2 = l.length then .tuple #[.int .i64 0, .int .i64 0] else .tuple #[.int .i64 ((ptsL l).2 : Int), .int .i64 110]
set_option maxRecDepth 20000 in
set_option maxHeartbeats 1000000 in
theorem walk_any (s : ByteArray) (l : List UInt8) (hs : s.data.toList = l) (g : Nat) (lb : Array Value) (w : World) (hm : s.size ≤ maxLen)
    (I : List Nat → World → Prop) (hU : ∀ pre W, I pre W → UTab W) (hI : ∀ pre W W', I pre W → Below W.heap.size W W' → I pre W') (h0 : I [] w)
    (eg : ∀ args w, (callFunc g args).run Tryd.prog w = .ok (.enter g args) w)
    (hv : ∀ pre c W, I pre W → pre.length < s.size → Calls Tryd.prog g (#[.int .i64 ((c : Nat) : Int)] ++ lb) W fun e W' => (∃ v, e = .returned v) ∧ I (pre ++ [c]) W') :
    Calls Tryd.prog 44 #[.string s, .func (.func g) #[] lb] w fun e w' => e = .returned (walkR l) ∧ I (ptsL l).1 w' := by
  have hlen : l.length = s.size := by rw [← hs]; simp
  have Hm := Lib.hid hm
  unfold maxLen at hm
  go_enter Tryd.func44, Tryd.ntmps44
  go_wp2
  go_loopw [6] (fun a wr => ∃ (p : Nat) (pre : List Nat), p ≤ s.size ∧ a = .int .i64 p ∧ ptsL l = (pre ++ (ptsL (l.drop p)).1, p + (ptsL (l.drop p)).2) ∧ pre.length ≤ p ∧ I pre wr) (fun a _ => s.size - (intOf a).toNat)
  case atStart => exact ⟨0, [], by omega, rfl, by simp, by simp, h0⟩
  case round =>
    obtain ⟨p, pre, hp, rfl, hP, hpl, hJ⟩ := hrel
    have HP := Lib.hid hP
    have HL := Lib.hid hlen
    clear hP hlen
    by_cases hlt : p < s.size
    · have hd := decode_string s p wr (hU _ _ hJ) Hm.out hlt
      rw [hs] at hd
      clear hs
      rcases Nat.eq_zero_or_pos (decL (l.drop p)).2 with h | h
      · rw [decR_no (dec_zero h)] at hd
        have HQ := Lib.hid (show ptsL l = (pre, p) by rw [HP.out, pts_zero h]; simp)
        clear h
        go_wp2_with fail
        refine hd.mono ?_
        rintro e w1 ⟨rfl, hb⟩
        go_wp2
        go_ret2
        have := HQ.out
        have e2 := HL.out
        refine ⟨?_, by rw [this]; exact hI _ _ _ hJ hb⟩
        unfold walkR
        rw [this, if_neg (by simp only; omega)]
        rfl
      · rw [decR_yes (l := l) (p := p) (c := (decL (l.drop p)).1) (n := (decL (l.drop p)).2) rfl (by omega)] at hd
        have HQ := Lib.hid (show ptsL l = ((pre ++ [(decL (l.drop p)).1]) ++ (ptsL (l.drop (p + (decL (l.drop p)).2))).1, (p + (decL (l.drop p)).2) + (ptsL (l.drop (p + (decL (l.drop p)).2))).2) by
          rw [HP.out, pts_step (l := l.drop p) (by omega), List.drop_drop]
          simp [Nat.add_assoc])
        have hle := dec_le (l.drop p)
        rw [List.length_drop, HL.out] at hle
        generalize (decL (l.drop p)).1 = c at *
        generalize (decL (l.drop p)).2 = n at *
        go_wp2_with fail
        refine hd.mono ?_
        rintro e w1 ⟨rfl, hb⟩
        have hJ1 := hI _ _ _ hJ hb
        have hv1 := hv pre c w1 hJ1 (by omega)
        go_wp2_with fail
        refine hv1.mono ?_
        rintro e w2 ⟨⟨v, rfl⟩, hJ2⟩
        go_wp2
        go_roundw
        case rel => exact ⟨p + n, pre ++ [c], by omega, rfl, HQ.out, by simp; omega, hJ2⟩
        case measure => simp [intOf]; omega
    · have hk : p = s.size := by omega
      have HQ := Lib.hid (show ptsL l = (pre, p) by rw [HP.out, List.drop_of_length_le (by rw [HL.out]; omega), pts_zero (l := []) rfl]; simp)
      have e2 := Lib.hid (show p = l.length by rw [HL.out]; exact hk)
      clear hk
      go_wp2
      go_ret2
      have := HQ.out
      refine ⟨?_, by rw [this]; exact hJ⟩
      unfold walkR
      rw [this, if_pos e2.out]
      rfl

set_option maxRecDepth 20000 in
theorem check_any (s : ByteArray) (l : List UInt8) (hs : s.data.toList = l) (w : World) (hm : s.size ≤ maxLen) (htab : UTab w) :
    Calls Tryd.prog 23 #[.string s] w fun e w' => e = .returned (walkR l) ∧ Below w.heap.size w w' := by
  have hw := walk_any s l hs 45 #[] w hm (fun _ W => UTab W ∧ Below w.heap.size w W) (fun _ _ h => h.1) (fun _ W W' h hb => ⟨h.1.below hb h.1.lt, bel_next h.2 hb⟩) ⟨htab, Below.refl _ _⟩ (enters_of Tryd.func45 (by kernel_rfl) rfl) (fun pre c W h _ => by
    go_enter Tryd.func45, Tryd.ntmps45
    go_wp2
    go_end0
    exact ⟨⟨_, rfl⟩, h⟩)
  unfold walkR at hw ⊢
  split at hw
  · rw [if_pos (by assumption)]
    go_enter Tryd.func23, Tryd.ntmps23
    go_wp2_with fail
    refine hw.mono ?_
    rintro e w1 ⟨rfl, -, hb⟩
    go_wp2
    go_ret2
    exact ⟨rfl, hb⟩
  · rw [if_neg (by assumption)]
    generalize (((ptsL l).2 : Nat) : Int) = x at *
    go_enter Tryd.func23, Tryd.ntmps23
    go_wp2_with fail
    refine hw.mono ?_
    rintro e w1 ⟨rfl, -, hb⟩
    go_wp2
    go_ret2
    exact ⟨rfl, hb⟩
end Go.Proofs.YtgnialemiefeeaaDoor
