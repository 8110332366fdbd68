/-
  Layer 1: the iterator over a code point's bytes.
-/
import Derived.Test.YtgnialemiefeeaaDoorUtfB
import Derived.Test.YtgnialemiefeeaaDoorUtfE
import Derived.RangeFuncNested
import Derived.RangeFuncBound
import Derived.RangeFuncCalls
import Derived.RangeFuncLeaves
import Derived.Shelf.Abstract
import Derived.Shelf.RegionOpen
import Derived.WalkKit
import Derived.OwnWalkIn
import Derived.TacticsInMore
import Derived.LoopNIn
import Derived.LoopIn
import Derived.Stop.RegionWithIn
import Derived.Deep.DeepCutAuto
namespace Go.Proofs.YtgnialemiefeeaaDoor
open Go.RowKit Go.Shelf
attribute [local go_sem] Oper.semAt_some
set_option linter.unusedVariables false

theorem only_drew {a w : World} {row : Option Nat} (h : a.grownBy w row) : a.grownBy w.drew row := ⟨h.os, h.tape, h.output, h.size, h.block⟩
/-- A cell is as it was. -/
def KeptAt (b : Nat) (W W' : World) : Prop := W'.cell? ⟨b, 0, none⟩ = W.cell? ⟨b, 0, none⟩
theorem KeptAt.trans {b : Nat} {A B C : World} (h : KeptAt b B C) (k : KeptAt b A B) : KeptAt b A C := Eq.trans h k
/-- What a round says, in one form. -/
def Says (A B : World → Prop) (b : Bool) (W : World) : Prop := (b = true ∧ A W) ∨ (b = false ∧ B W)
theorem yes_or {F : Fence} {m : Nat} {P : Program} {l : Nat} {fn : FuncId} {tmps : Array Value} {assign body : Code} {W : World} {A B : World → Prop}
    (h : RoundIn F m P l fn tmps assign body W fun e W' => (e = .returned (.bool true) ∧ A W') ∨ (e = .returned (.bool false) ∧ B W')) :
    RoundIn F m P l fn tmps assign body W fun e W' => ∃ b : Bool, e = .returned (.bool b) ∧ Says A B b W' :=
  h.mono fun _ _ h => by
    rcases h with ⟨rfl, h⟩ | ⟨rfl, h⟩
    · exact ⟨true, rfl, .inl ⟨rfl, h⟩⟩
    · exact ⟨false, rfl, .inr ⟨rfl, h⟩⟩
theorem Says.yes {A B : World → Prop} {W : World} (h : Says A B true W) : A W := by exact (by rcases h with ⟨_, h⟩ | ⟨h, _⟩ <;> first | exact h | cases h)
theorem Says.no {A B : World → Prop} {W : World} (h : Says A B false W) : B W := by exact (by rcases h with ⟨h, _⟩ | ⟨_, h⟩ <;> first | exact h | cases h)

set_option maxRecDepth 100000 in
set_option maxHeartbeats 2000000 in
theorem enc1_in (n : Nat) (hn : 1 ≤ n) (l Bf Bc : Nat) (c : Nat) (hc1 : 0 ≤ c) (hc2 : c ≤ 127) (J Jx : List UInt8 → World → Prop)
    (W : World) (hJ : AbidesFrom W.heap.size J)
    (hY : ∀ pre x W, J pre W → pre.length < 4 → YieldAt Fence.wide (n - 1) Tryd.prog l #[bv x] W fun e W' =>
      (e = .returned (.bool true) ∧ J (pre ++ [x]) W' ∧ KeptAt Bc W W') ∨ (e = .returned (.bool false) ∧ Jx (pre ++ [x]) W'))
    (hBf : Box W Bf [.int .i64 0, .int .i64 127, .int .i64 1, .int .i64 0]) (hBc : W.cell? ⟨Bc, 0, none⟩ = some (.int .i64 c)) (h0 : J [] W) :
    CallsIn Fence.wide n Tryd.prog 61 #[.func (.yield l) #[] #[], .pointer (some ⟨Bf, 0, none⟩), .pointer (some ⟨Bc, 0, none⟩)] W fun e W' => (∃ v, e = .returned v) ∧
      ((∃ ys, ys = encL c ∧ J ys W') ∨ (∃ pre, pre <+: encL c ∧ Jx pre W')) := by
  have he : encL c = [b8 (c)] := by unfold encL; rw [if_pos (by omega)]
  have f2 := (hBf 2 _ rfl).1
  have f3 := (hBf 3 _ rfl).1
  have h0' : J [] W.drew := hJ [] W _ none h0 (only_drew (World.grownBy.refl W none)) (fun r e => by cases e)
  have y0 : IntKind.u8.wrap (bits .or .i64 0 ((c : Int))) = ((b8 (c)).toNat : Int) := by apply yb_first1 <;> omega
  obtain ⟨fn, tmps, assign, body, hy, hR⟩ := hY [] (b8 (c)) W.drew h0' (by simp)
  rw [he]
  clear he h0 h0'
  generalize b8 (c) = z0 at *
  dsimp only [bv] at hy
  refine callsIn_of_wp Tryd.func61 rfl trivial ?_ rfl
  simp only [Tryd.ntmps61, List.size_toArray, List.length_cons, List.length_nil, Nat.reduceAdd, Nat.reduceSub, Array.replicate_succ, Array.replicate_zero, List.push_toArray, List.append_toArray, List.nil_append, List.cons_append]
  gi_wp2
  gi_region_with ((refine (yes_or hR).mono ?_; rintro e W1 ⟨b, rfl, hor⟩))
  all_goals
    cases b
    · gi_wp2
      refine bodyPost_ret (results_none rfl _ _ _) rfl ?_
      exact ⟨⟨_, rfl⟩, .inr ⟨[z0], by simp, by simpa using hor.no⟩⟩
    · obtain ⟨hJ1, hk1⟩ := hor.yes
      clear hor hR hy
      gi_wp2
      simp only [Bool.not_true, Act.put, List.getElem_toArray, List.getElem_cons_succ, List.getElem_cons_zero, List.setIfInBounds_toArray, List.set_cons_succ, List.set_cons_zero]
      gi_loopw [4] (fun t wr => ∃ j : Nat, j < 1 ∧ t = .int .i64 ((6 * j : Nat) : Int) ∧ J ([z0].take (1 - j)) wr ∧ KeptAt Bc W wr) (fun t _ => (intOf t).toNat)
      case atStart => exact ⟨0, by omega, rfl, hJ1, hk1⟩
      case round =>
        obtain ⟨j, hj, rfl, hJ2, hk2⟩ := hrel
        have hc2 : wr.cell? ⟨Bc, 0, none⟩ = some (.int .i64 c) := Eq.trans hk2 hBc
        clear f2 f3 hk1 hJ1
        rcases (show j = 0 by omega) with rfl
        · gi_wp2
          go_end0
          exact ⟨⟨_, rfl⟩, .inl ⟨[z0], rfl, hJ2⟩⟩

set_option maxRecDepth 100000 in
set_option maxHeartbeats 2000000 in
theorem enc2_in (n : Nat) (hn : 1 ≤ n) (l Bf Bc : Nat) (c : Nat) (hc1 : 128 ≤ c) (hc2 : c ≤ 2047) (J Jx : List UInt8 → World → Prop)
    (W : World) (hJ : AbidesFrom W.heap.size J)
    (hY : ∀ pre x W, J pre W → pre.length < 4 → YieldAt Fence.wide (n - 1) Tryd.prog l #[bv x] W fun e W' =>
      (e = .returned (.bool true) ∧ J (pre ++ [x]) W' ∧ KeptAt Bc W W') ∨ (e = .returned (.bool false) ∧ Jx (pre ++ [x]) W'))
    (hBf : Box W Bf [.int .i64 128, .int .i64 2047, .int .i64 2, .int .i64 192]) (hBc : W.cell? ⟨Bc, 0, none⟩ = some (.int .i64 c)) (h0 : J [] W) :
    CallsIn Fence.wide n Tryd.prog 61 #[.func (.yield l) #[] #[], .pointer (some ⟨Bf, 0, none⟩), .pointer (some ⟨Bc, 0, none⟩)] W fun e W' => (∃ v, e = .returned v) ∧
      ((∃ ys, ys = encL c ∧ J ys W') ∨ (∃ pre, pre <+: encL c ∧ Jx pre W')) := by
  have he : encL c = [b8 (192 + c / 64), b8 (128 + c % 64)] := by unfold encL; rw [if_neg (by omega), if_pos (by omega)]
  have f2 := (hBf 2 _ rfl).1
  have f3 := (hBf 3 _ rfl).1
  have h0' : J [] W.drew := hJ [] W _ none h0 (only_drew (World.grownBy.refl W none)) (fun r e => by cases e)
  have y0 : IntKind.u8.wrap (bits .or .i64 192 ((c : Int) / 64)) = ((b8 (192 + c / 64)).toNat : Int) := by apply yb_first2 <;> omega
  obtain ⟨fn, tmps, assign, body, hy, hR⟩ := hY [] (b8 (192 + c / 64)) W.drew h0' (by simp)
  have y1 : IntKind.u8.wrap (bits .or .i64 128 (bits .and .i64 ((c : Int)) 63)) = ((b8 (128 + c % 64)).toNat : Int) := yb_next (c) (by omega)
  rw [he]
  clear he h0 h0'
  generalize b8 (192 + c / 64) = z0 at *
  generalize b8 (128 + c % 64) = z1 at *
  dsimp only [bv] at hy
  refine callsIn_of_wp Tryd.func61 rfl trivial ?_ rfl
  simp only [Tryd.ntmps61, List.size_toArray, List.length_cons, List.length_nil, Nat.reduceAdd, Nat.reduceSub, Array.replicate_succ, Array.replicate_zero, List.push_toArray, List.append_toArray, List.nil_append, List.cons_append]
  gi_wp2
  gi_region_with ((refine (yes_or hR).mono ?_; rintro e W1 ⟨b, rfl, hor⟩))
  all_goals
    cases b
    · gi_wp2
      refine bodyPost_ret (results_none rfl _ _ _) rfl ?_
      exact ⟨⟨_, rfl⟩, .inr ⟨[z0], by simp, by simpa using hor.no⟩⟩
    · obtain ⟨hJ1, hk1⟩ := hor.yes
      clear hor hR hy
      gi_wp2
      simp only [Bool.not_true, Act.put, List.getElem_toArray, List.getElem_cons_succ, List.getElem_cons_zero, List.setIfInBounds_toArray, List.set_cons_succ, List.set_cons_zero]
      gi_loopw [4] (fun t wr => ∃ j : Nat, j < 2 ∧ t = .int .i64 ((6 * j : Nat) : Int) ∧ J ([z0, z1].take (2 - j)) wr ∧ KeptAt Bc W wr) (fun t _ => (intOf t).toNat)
      case atStart => exact ⟨1, by omega, rfl, hJ1, hk1⟩
      case round =>
        obtain ⟨j, hj, rfl, hJ2, hk2⟩ := hrel
        have hc2 : wr.cell? ⟨Bc, 0, none⟩ = some (.int .i64 c) := Eq.trans hk2 hBc
        clear f2 f3 hk1 hJ1
        rcases (show j = 0 ∨ j = 1 by omega) with rfl | rfl
        · gi_wp2
          go_end0
          exact ⟨⟨_, rfl⟩, .inl ⟨[z0, z1], rfl, hJ2⟩⟩
        · obtain ⟨fn, tmps, assign, body, hy, hR⟩ := hY [z0] z1 wr hJ2 (by simp)
          dsimp only [bv] at hy
          gi_wp2
          refine hR.mono ?_
          rintro e W3 (⟨rfl, hJ3, hk3⟩ | ⟨rfl, hJx3⟩)
          · gi_wp2
            go_roundw
            case rel => exact ⟨0, by omega, rfl, hJ3, hk3.trans hk2⟩
            case measure => simp [intOf]
          · gi_wp2
            refine bodyPost_ret (results_none rfl _ _ _) rfl ?_
            exact ⟨⟨_, rfl⟩, .inr ⟨[z0, z1], by simp, by simpa using hJx3⟩⟩

set_option maxRecDepth 100000 in
set_option maxHeartbeats 2000000 in
theorem enc3_in (n : Nat) (hn : 1 ≤ n) (l Bf Bc : Nat) (c : Nat) (hc1 : 2048 ≤ c) (hc2 : c ≤ 65535) (J Jx : List UInt8 → World → Prop)
    (W : World) (hJ : AbidesFrom W.heap.size J)
    (hY : ∀ pre x W, J pre W → pre.length < 4 → YieldAt Fence.wide (n - 1) Tryd.prog l #[bv x] W fun e W' =>
      (e = .returned (.bool true) ∧ J (pre ++ [x]) W' ∧ KeptAt Bc W W') ∨ (e = .returned (.bool false) ∧ Jx (pre ++ [x]) W'))
    (hBf : Box W Bf [.int .i64 2048, .int .i64 65535, .int .i64 3, .int .i64 224]) (hBc : W.cell? ⟨Bc, 0, none⟩ = some (.int .i64 c)) (h0 : J [] W) :
    CallsIn Fence.wide n Tryd.prog 61 #[.func (.yield l) #[] #[], .pointer (some ⟨Bf, 0, none⟩), .pointer (some ⟨Bc, 0, none⟩)] W fun e W' => (∃ v, e = .returned v) ∧
      ((∃ ys, ys = encL c ∧ J ys W') ∨ (∃ pre, pre <+: encL c ∧ Jx pre W')) := by
  have he : encL c = [b8 (224 + c / 4096), b8 (128 + c / 64 % 64), b8 (128 + c % 64)] := by unfold encL; rw [if_neg (by omega), if_neg (by omega), if_pos (by omega)]
  have f2 := (hBf 2 _ rfl).1
  have f3 := (hBf 3 _ rfl).1
  have h0' : J [] W.drew := hJ [] W _ none h0 (only_drew (World.grownBy.refl W none)) (fun r e => by cases e)
  have y0 : IntKind.u8.wrap (bits .or .i64 224 ((c : Int) / 4096)) = ((b8 (224 + c / 4096)).toNat : Int) := by apply yb_first3 <;> omega
  obtain ⟨fn, tmps, assign, body, hy, hR⟩ := hY [] (b8 (224 + c / 4096)) W.drew h0' (by simp)
  have y1 : IntKind.u8.wrap (bits .or .i64 128 (bits .and .i64 ((c : Int) / 64) 63)) = ((b8 (128 + c / 64 % 64)).toNat : Int) := yb_next (c / 64) (by omega)
  have y2 : IntKind.u8.wrap (bits .or .i64 128 (bits .and .i64 ((c : Int)) 63)) = ((b8 (128 + c % 64)).toNat : Int) := yb_next (c) (by omega)
  rw [he]
  clear he h0 h0'
  generalize b8 (224 + c / 4096) = z0 at *
  generalize b8 (128 + c / 64 % 64) = z1 at *
  generalize b8 (128 + c % 64) = z2 at *
  dsimp only [bv] at hy
  refine callsIn_of_wp Tryd.func61 rfl trivial ?_ rfl
  simp only [Tryd.ntmps61, List.size_toArray, List.length_cons, List.length_nil, Nat.reduceAdd, Nat.reduceSub, Array.replicate_succ, Array.replicate_zero, List.push_toArray, List.append_toArray, List.nil_append, List.cons_append]
  gi_wp2
  gi_region_with ((refine (yes_or hR).mono ?_; rintro e W1 ⟨b, rfl, hor⟩))
  all_goals
    cases b
    · gi_wp2
      refine bodyPost_ret (results_none rfl _ _ _) rfl ?_
      exact ⟨⟨_, rfl⟩, .inr ⟨[z0], by simp, by simpa using hor.no⟩⟩
    · obtain ⟨hJ1, hk1⟩ := hor.yes
      clear hor hR hy
      gi_wp2
      simp only [Bool.not_true, Act.put, List.getElem_toArray, List.getElem_cons_succ, List.getElem_cons_zero, List.setIfInBounds_toArray, List.set_cons_succ, List.set_cons_zero]
      gi_loopw [4] (fun t wr => ∃ j : Nat, j < 3 ∧ t = .int .i64 ((6 * j : Nat) : Int) ∧ J ([z0, z1, z2].take (3 - j)) wr ∧ KeptAt Bc W wr) (fun t _ => (intOf t).toNat)
      case atStart => exact ⟨2, by omega, rfl, hJ1, hk1⟩
      case round =>
        obtain ⟨j, hj, rfl, hJ2, hk2⟩ := hrel
        have hc2 : wr.cell? ⟨Bc, 0, none⟩ = some (.int .i64 c) := Eq.trans hk2 hBc
        clear f2 f3 hk1 hJ1
        rcases (show j = 0 ∨ j = 1 ∨ j = 2 by omega) with rfl | rfl | rfl
        · gi_wp2
          go_end0
          exact ⟨⟨_, rfl⟩, .inl ⟨[z0, z1, z2], rfl, hJ2⟩⟩
        · obtain ⟨fn, tmps, assign, body, hy, hR⟩ := hY [z0, z1] z2 wr hJ2 (by simp)
          dsimp only [bv] at hy
          gi_wp2
          refine hR.mono ?_
          rintro e W3 (⟨rfl, hJ3, hk3⟩ | ⟨rfl, hJx3⟩)
          · gi_wp2
            go_roundw
            case rel => exact ⟨0, by omega, rfl, hJ3, hk3.trans hk2⟩
            case measure => simp [intOf]
          · gi_wp2
            refine bodyPost_ret (results_none rfl _ _ _) rfl ?_
            exact ⟨⟨_, rfl⟩, .inr ⟨[z0, z1, z2], by simp, by simpa using hJx3⟩⟩
        · obtain ⟨fn, tmps, assign, body, hy, hR⟩ := hY [z0] z1 wr hJ2 (by simp)
          dsimp only [bv] at hy
          gi_wp2
          refine hR.mono ?_
          rintro e W3 (⟨rfl, hJ3, hk3⟩ | ⟨rfl, hJx3⟩)
          · gi_wp2
            go_roundw
            case rel => exact ⟨1, by omega, rfl, hJ3, hk3.trans hk2⟩
            case measure => simp [intOf]
          · gi_wp2
            refine bodyPost_ret (results_none rfl _ _ _) rfl ?_
            exact ⟨⟨_, rfl⟩, .inr ⟨[z0, z1], by simp, by simpa using hJx3⟩⟩

set_option maxRecDepth 100000 in
set_option maxHeartbeats 2000000 in
theorem enc4_in (n : Nat) (hn : 1 ≤ n) (l Bf Bc : Nat) (c : Nat) (hc1 : 65536 ≤ c) (hc2 : c ≤ 1114111) (J Jx : List UInt8 → World → Prop)
    (W : World) (hJ : AbidesFrom W.heap.size J)
    (hY : ∀ pre x W, J pre W → pre.length < 4 → YieldAt Fence.wide (n - 1) Tryd.prog l #[bv x] W fun e W' =>
      (e = .returned (.bool true) ∧ J (pre ++ [x]) W' ∧ KeptAt Bc W W') ∨ (e = .returned (.bool false) ∧ Jx (pre ++ [x]) W'))
    (hBf : Box W Bf [.int .i64 65536, .int .i64 1114111, .int .i64 4, .int .i64 240]) (hBc : W.cell? ⟨Bc, 0, none⟩ = some (.int .i64 c)) (h0 : J [] W) :
    CallsIn Fence.wide n Tryd.prog 61 #[.func (.yield l) #[] #[], .pointer (some ⟨Bf, 0, none⟩), .pointer (some ⟨Bc, 0, none⟩)] W fun e W' => (∃ v, e = .returned v) ∧
      ((∃ ys, ys = encL c ∧ J ys W') ∨ (∃ pre, pre <+: encL c ∧ Jx pre W')) := by
  have he : encL c = [b8 (240 + c / 262144), b8 (128 + c / 4096 % 64), b8 (128 + c / 64 % 64), b8 (128 + c % 64)] := by unfold encL; rw [if_neg (by omega), if_neg (by omega), if_neg (by omega)]
  have f2 := (hBf 2 _ rfl).1
  have f3 := (hBf 3 _ rfl).1
  have h0' : J [] W.drew := hJ [] W _ none h0 (only_drew (World.grownBy.refl W none)) (fun r e => by cases e)
  have y0 : IntKind.u8.wrap (bits .or .i64 240 ((c : Int) / 262144)) = ((b8 (240 + c / 262144)).toNat : Int) := by apply yb_first4 <;> omega
  obtain ⟨fn, tmps, assign, body, hy, hR⟩ := hY [] (b8 (240 + c / 262144)) W.drew h0' (by simp)
  have y1 : IntKind.u8.wrap (bits .or .i64 128 (bits .and .i64 ((c : Int) / 4096) 63)) = ((b8 (128 + c / 4096 % 64)).toNat : Int) := yb_next (c / 4096) (by omega)
  have y2 : IntKind.u8.wrap (bits .or .i64 128 (bits .and .i64 ((c : Int) / 64) 63)) = ((b8 (128 + c / 64 % 64)).toNat : Int) := yb_next (c / 64) (by omega)
  have y3 : IntKind.u8.wrap (bits .or .i64 128 (bits .and .i64 ((c : Int)) 63)) = ((b8 (128 + c % 64)).toNat : Int) := yb_next (c) (by omega)
  rw [he]
  clear he h0 h0'
  generalize b8 (240 + c / 262144) = z0 at *
  generalize b8 (128 + c / 4096 % 64) = z1 at *
  generalize b8 (128 + c / 64 % 64) = z2 at *
  generalize b8 (128 + c % 64) = z3 at *
  dsimp only [bv] at hy
  refine callsIn_of_wp Tryd.func61 rfl trivial ?_ rfl
  simp only [Tryd.ntmps61, List.size_toArray, List.length_cons, List.length_nil, Nat.reduceAdd, Nat.reduceSub, Array.replicate_succ, Array.replicate_zero, List.push_toArray, List.append_toArray, List.nil_append, List.cons_append]
  gi_wp2
  gi_region_with ((refine (yes_or hR).mono ?_; rintro e W1 ⟨b, rfl, hor⟩))
  all_goals
    cases b
    · gi_wp2
      refine bodyPost_ret (results_none rfl _ _ _) rfl ?_
      exact ⟨⟨_, rfl⟩, .inr ⟨[z0], by simp, by simpa using hor.no⟩⟩
    · obtain ⟨hJ1, hk1⟩ := hor.yes
      clear hor hR hy
      gi_wp2
      simp only [Bool.not_true, Act.put, List.getElem_toArray, List.getElem_cons_succ, List.getElem_cons_zero, List.setIfInBounds_toArray, List.set_cons_succ, List.set_cons_zero]
      gi_loopw [4] (fun t wr => ∃ j : Nat, j < 4 ∧ t = .int .i64 ((6 * j : Nat) : Int) ∧ J ([z0, z1, z2, z3].take (4 - j)) wr ∧ KeptAt Bc W wr) (fun t _ => (intOf t).toNat)
      case atStart => exact ⟨3, by omega, rfl, hJ1, hk1⟩
      case round =>
        obtain ⟨j, hj, rfl, hJ2, hk2⟩ := hrel
        have hc2 : wr.cell? ⟨Bc, 0, none⟩ = some (.int .i64 c) := Eq.trans hk2 hBc
        clear f2 f3 hk1 hJ1
        rcases (show j = 0 ∨ j = 1 ∨ j = 2 ∨ j = 3 by omega) with rfl | rfl | rfl | rfl
        · gi_wp2
          go_end0
          exact ⟨⟨_, rfl⟩, .inl ⟨[z0, z1, z2, z3], rfl, hJ2⟩⟩
        · obtain ⟨fn, tmps, assign, body, hy, hR⟩ := hY [z0, z1, z2] z3 wr hJ2 (by simp)
          dsimp only [bv] at hy
          gi_wp2
          refine hR.mono ?_
          rintro e W3 (⟨rfl, hJ3, hk3⟩ | ⟨rfl, hJx3⟩)
          · gi_wp2
            go_roundw
            case rel => exact ⟨0, by omega, rfl, hJ3, hk3.trans hk2⟩
            case measure => simp [intOf]
          · gi_wp2
            refine bodyPost_ret (results_none rfl _ _ _) rfl ?_
            exact ⟨⟨_, rfl⟩, .inr ⟨[z0, z1, z2, z3], by simp, by simpa using hJx3⟩⟩
        · obtain ⟨fn, tmps, assign, body, hy, hR⟩ := hY [z0, z1] z2 wr hJ2 (by simp)
          dsimp only [bv] at hy
          gi_wp2
          refine hR.mono ?_
          rintro e W3 (⟨rfl, hJ3, hk3⟩ | ⟨rfl, hJx3⟩)
          · gi_wp2
            go_roundw
            case rel => exact ⟨1, by omega, rfl, hJ3, hk3.trans hk2⟩
            case measure => simp [intOf]
          · gi_wp2
            refine bodyPost_ret (results_none rfl _ _ _) rfl ?_
            exact ⟨⟨_, rfl⟩, .inr ⟨[z0, z1, z2], by simp, by simpa using hJx3⟩⟩
        · obtain ⟨fn, tmps, assign, body, hy, hR⟩ := hY [z0] z1 wr hJ2 (by simp)
          dsimp only [bv] at hy
          gi_wp2
          refine hR.mono ?_
          rintro e W3 (⟨rfl, hJ3, hk3⟩ | ⟨rfl, hJx3⟩)
          · gi_wp2
            go_roundw
            case rel => exact ⟨2, by omega, rfl, hJ3, hk3.trans hk2⟩
            case measure => simp [intOf]
          · gi_wp2
            refine bodyPost_ret (results_none rfl _ _ _) rfl ?_
            exact ⟨⟨_, rfl⟩, .inr ⟨[z0, z1], by simp, by simpa using hJx3⟩⟩

/-- The index of the form of a number. -/
def hIdx (n : Int) : Nat := firstK fun k => holdsB (fl k) (fh k) n
theorem hIdx_yes (c : Nat) (h : isCp c = true) : (c < 128 ∧ hIdx c = 0) ∨ (128 ≤ c ∧ c < 2048 ∧ hIdx c = 1) ∨ (2048 ≤ c ∧ c < 65536 ∧ hIdx c = 2) ∨ (65536 ≤ c ∧ c ≤ 1114111 ∧ hIdx c = 3) := by
  have hc := (isCp_iff _).1 h
  unfold hIdx
  by_cases h1 : c < 128
  · exact .inl ⟨h1, first_yes _ 0 (by omega) (fun j hj => by omega) (by simp [holdsB, fl, fh]; omega)⟩
  · by_cases h2 : c < 2048
    · refine .inr (.inl ⟨by omega, h2, first_yes _ 1 (by omega) (fun j hj => ?_) (by simp [holdsB, fl, fh]; omega)⟩)
      obtain rfl : j = 0 := by omega
      simp [holdsB, fl, fh]; omega
    · by_cases h3 : c < 65536
      · refine .inr (.inr (.inl ⟨by omega, h3, first_yes _ 2 (by omega) (fun j hj => ?_) (by simp [holdsB, fl, fh]; omega)⟩))
        rcases (show j = 0 ∨ j = 1 by omega) with rfl | rfl <;> (simp [holdsB, fl, fh]; omega)
      · refine .inr (.inr (.inr ⟨by omega, by omega, first_yes _ 3 (by omega) (fun j hj => ?_) (by simp [holdsB, fl, fh]; omega)⟩))
        rcases (show j = 0 ∨ j = 1 ∨ j = 2 by omega) with rfl | rfl | rfl <;> (simp [holdsB, fl, fh]; omega)
theorem hIdx_no (n : Int) (h : isCp n = false) : hIdx n = 4 := by
  refine first_no _ (fun j hj => ?_)
  have h' : ¬ ((0 ≤ n ∧ n ≤ 1114111) ∧ (n < 55296 ∨ 57343 < n)) := fun k => by rw [(isCp_iff n).2 k] at h; cases h
  rcases (show j = 0 ∨ j = 1 ∨ j = 2 ∨ j = 3 by omega) with rfl | rfl | rfl | rfl <;> (simp [holdsB, fl, fh]; omega)
theorem hIdx_len (c : Nat) (h : isCp c = true) : fs (hIdx c) = ((encL c).length : Int) := by
  rw [encL_len]
  rcases hIdx_yes c h with ⟨h1, e⟩ | ⟨h0, h1, e⟩ | ⟨h0, h1, e⟩ | ⟨h0, h1, e⟩ <;> rw [e]
  · rw [if_pos h1]; rfl
  · rw [if_neg (by omega), if_pos h1]; rfl
  · rw [if_neg (by omega), if_neg (by omega), if_pos h1]; rfl
  · rw [if_neg (by omega), if_neg (by omega), if_neg (by omega)]; rfl
/-- The iterator's contract. -/
theorem enc_stops (n : Nat) (hn : 1 ≤ n) (Bf Bc : Nat) (c : Nat) (h : isCp c = true) (w : World)
    (hBf : Box w Bf [.int .i64 (fl (hIdx c)), .int .i64 (fh (hIdx c)), .int .i64 (fs (hIdx c)), .int .i64 (fd (hIdx c))]) (hBc : w.cell? ⟨Bc, 0, none⟩ = some (.int .i64 c)) :
    SeqStopsK Fence.wide n Tryd.prog 61 #[.pointer (some ⟨Bf, 0, none⟩), .pointer (some ⟨Bc, 0, none⟩)] (fun x : UInt8 => #[bv x]) (KeptAt Bc) (fun ys => ys = encL c) (fun pre => pre <+: encL c) 4 w := fun l J Jx W hW hJ _ hY h0 => by
  have hBf' := hBf.later hW
  have hBc' : W.cell? ⟨Bc, 0, none⟩ = some (.int .i64 c) := kept_later hW hBc
  rcases hIdx_yes c h with ⟨h1, e⟩ | ⟨h0', h1, e⟩ | ⟨h0', h1, e⟩ | ⟨h0', h1, e⟩ <;> rw [e] at hBf'
  · exact enc1_in n hn l Bf Bc c (by omega) (by omega) J Jx W hJ hY hBf' hBc' h0
  · exact enc2_in n hn l Bf Bc c h0' (by omega) J Jx W hJ hY hBf' hBc' h0
  · exact enc3_in n hn l Bf Bc c h0' (by omega) J Jx W hJ hY hBf' hBc' h0
  · exact enc4_in n hn l Bf Bc c h0' (by omega) J Jx W hJ hY hBf' hBc' h0
end Go.Proofs.YtgnialemiefeeaaDoor
