import Derived.Test.YtgnialemiefeeaaDoorGab
import Derived.Deep.DeepCutAuto
import Derived.RangeFuncNested
import Derived.RangeFuncBound
import Derived.RangeFuncCalls
import Derived.RangeFuncLeaves
import Derived.Shelf.Abstract
import Derived.Shelf.RegionOpen
import Derived.WalkKit
import Derived.OwnWalkIn
import Derived.TacticsInMore
import Derived.LoopNIn
import Derived.LoopIn
import Derived.Stop.RegionWithIn
import Derived.Test.YtgnialemiefeeaaDoorGaa
/-
  Layer 1: find, by holds.
-/
namespace Go.Proofs.YtgnialemiefeeaaDoor
open Go.RowKit

set_option maxRecDepth 20000 in
set_option maxHeartbeats 600000 in
theorem find_holds (P : Nat → Bool) (n : Int) (w : World) (htab : UTab w)
    (hfit : ∀ k, k < 4 → ∀ W : World, Calls Tryd.prog 48 #[.agg #[.int .i64 (fl k), .int .i64 (fh k), .int .i64 (fs k), .int .i64 (fd k)], .int .i64 n] W fun e w' => e = .returned (.bool (P k)) ∧ Below W.heap.size W w') :
    Calls Tryd.prog 47 #[.func (.func 48) #[] #[], .int .i64 n] w fun e w' => e = .returned (formK (firstK P)) ∧ Below w.heap.size w w' := by
  obtain ⟨W2, hW2⟩ : ∃ W2, (w.alloc (.cells #[.int .i64 0, .int .i64 0, .int .i64 0, .int .i64 0] 76)).alloc (.cells #[.int .i64 0, .int .i64 0, .int .i64 0, .int .i64 0] 76) = W2 := ⟨_, rfl⟩
  have htab2 : UTab W2 := by rw [← hW2]; exact (htab.alloc _).alloc _
  have hb2 : Below w.heap.size w W2 := by rw [← hW2]; exact bel_alloc (bel_alloc (Below.refl _ _) _) _
  have hs2 : w.heap.size + 2 ≤ W2.heap.size := by rw [← hW2]; simp
  have bx0 : Box W2 (w.heap.size) [.int .i64 0, .int .i64 0, .int .i64 0, .int .i64 0] := by rw [← hW2]; exact (Box.new w _ _).alloc _
  have bx1 : Box W2 (w.heap.size + 1) [.int .i64 0, .int .i64 0, .int .i64 0, .int .i64 0] := by rw [← hW2]; exact Box.new' _ _ _ (by simp)
  go_enter Tryd.func47, Tryd.ntmps47
  go_wp2
  go_step3
  go_wp2
  go_step3
  clear hW2
  go_wp2_with (refine wpList_load_mid rfl 91 _ rfl 1 0 rfl utab _ htab2 Tryd.underlying91 rfl info_tab ?_)
  go_loopw [9] (fun i wr => ∃ k : Nat, k ≤ 4 ∧ i = .int .i64 k ∧ (∀ j, j < k → P j = false) ∧ Below W2.heap.size W2 wr) (fun i _ => 4 - (intOf i).toNat)
  case atStart => exact ⟨0, by omega, rfl, fun j hj => by omega, Below.refl _ _⟩
  case round =>
    obtain ⟨k, hk, rfl, hP, hbw⟩ := hrel
    have hsw := hbw.size
    by_cases hlt : k < 4
    · have hk4 : (k : Int) < 4 := by omega
      have hk0 : (0 : Int) ≤ k := by omega
      have hidx := index_form k hlt
      have hf := hfit k hlt
      have hres := Lib.hid (show formK k = .agg #[.int .i64 (fl k), .int .i64 (fh k), .int .i64 (fs k), .int .i64 (fd k)] from rfl)
      generalize fl k = x0 at *
      generalize fh k = x1 at *
      generalize fs k = x2 at *
      generalize fd k = x3 at *
      cases hq : P k
      · rw [hq] at hf
        have hF := Lib.hid (show ∀ j, j < k + 1 → P j = false from fun j hj => if e : j = k then e ▸ hq else hP j (by omega))
        clear hP hq hfit hlt
        go_wp2_with fail
        refine (hf _).mono ?_
        rintro e w1 ⟨rfl, hb⟩
        have c0 := Box.later (Box.new wr #[.int .i64 x0, .int .i64 x1, .int .i64 x2, .int .i64 x3] 76) hb
        have hbn := bel_next (bel_alloc hbw _) hb
        clear c0 bx0 bx1 hf
        go_wp2
        go_roundw
        case rel => exact ⟨k + 1, by omega, by go_num, hF.out, hbn⟩
        case measure => simp [intOf]; omega
      · rw [hq] at hf
        have hF := Lib.hid (show firstK P = k from first_yes P k hlt hP hq)
        clear hP hq hfit hlt
        go_wp2_with fail
        refine (hf _).mono ?_
        rintro e w1 ⟨rfl, hb⟩
        have c0 := Box.later (Box.new wr #[.int .i64 x0, .int .i64 x1, .int .i64 x2, .int .i64 x3] 76) hb
        have d0 := (c0 0 _ rfl).1
        have d1 := (c0 1 _ rfl).1
        have d2 := (c0 2 _ rfl).1
        have d3 := (c0 3 _ rfl).1
        have hbn := bel_next (bel_alloc hbw _) hb
        have b2 := bx1.later hbn
        have b3 := bx0.later hbn
        obtain ⟨W3, hW3⟩ : ∃ W3, set4 w1 (w.heap.size + 1) (.int .i64 x0) (.int .i64 x1) (.int .i64 x2) (.int .i64 x3) = W3 := ⟨_, rfl⟩
        have k3 : Box W3 (w.heap.size + 1) [.int .i64 x0, .int .i64 x1, .int .i64 x2, .int .i64 x3] := by rw [← hW3]; exact b2.set4 _ _ _ _
        have k2 : Box W3 w.heap.size [.int .i64 0, .int .i64 0, .int .i64 0, .int .i64 0] := by rw [← hW3]; exact b3.far4 _ _ _ _ (by omega)
        have hb3 : Below w.heap.size w W3 := by rw [← hW3]; exact below_set4 (hb2.trans (hbn.mono (by omega))) (by omega) _ _ _ _
        have hW3' : (((w1.setCell ⟨w.heap.size + 1, 0, none⟩ (.int .i64 x0)).setCell ⟨w.heap.size + 1, 1, none⟩ (.int .i64 x1)).setCell ⟨w.heap.size + 1, 2, none⟩ (.int .i64 x2)).setCell ⟨w.heap.size + 1, 3, none⟩ (.int .i64 x3) = W3 := hW3
        have p0 := (b2 0 _ rfl).1
        have q0 := (b2 0 _ rfl).2
        have p1 := (b2 1 _ rfl).1
        have q1 := (b2 1 _ rfl).2
        have p2 := (b2 2 _ rfl).1
        have q2 := (b2 2 _ rfl).2
        have p3 := (b2 3 _ rfl).1
        have q3 := (b2 3 _ rfl).2
        clear hW3 b2 b3 c0 bx0 bx1 hf
        go_upto_region 8 with (fail)
        clear hW3' p0 p1 p2 p3 q0 q1 q2 q3 d0 d1 d2 d3
        obtain ⟨W4, hW4⟩ : ∃ W4, set4 W3 w.heap.size (.int .i64 x0) (.int .i64 x1) (.int .i64 x2) (.int .i64 x3) = W4 := ⟨_, rfl⟩
        have k4 : Box W4 w.heap.size [.int .i64 x0, .int .i64 x1, .int .i64 x2, .int .i64 x3] := by rw [← hW4]; exact k2.set4 _ _ _ _
        have hb4 : Below w.heap.size w W4 := by rw [← hW4]; exact below_set4 hb3 (Nat.le_refl _) _ _ _ _
        have hW4' : (((W3.setCell ⟨w.heap.size, 0, none⟩ (.int .i64 x0)).setCell ⟨w.heap.size, 1, none⟩ (.int .i64 x1)).setCell ⟨w.heap.size, 2, none⟩ (.int .i64 x2)).setCell ⟨w.heap.size, 3, none⟩ (.int .i64 x3) = W4 := hW4
        have p0 := (k3 0 _ rfl).1
        have q0 := (k3 0 _ rfl).2
        have r0 := (k2 0 _ rfl).1
        have s0 := (k2 0 _ rfl).2
        have t0 := (k4 0 _ rfl).1
        have p1 := (k3 1 _ rfl).1
        have q1 := (k3 1 _ rfl).2
        have r1 := (k2 1 _ rfl).1
        have s1 := (k2 1 _ rfl).2
        have t1 := (k4 1 _ rfl).1
        have p2 := (k3 2 _ rfl).1
        have q2 := (k3 2 _ rfl).2
        have r2 := (k2 2 _ rfl).1
        have s2 := (k2 2 _ rfl).2
        have t2 := (k4 2 _ rfl).1
        have p3 := (k3 3 _ rfl).1
        have q3 := (k3 3 _ rfl).2
        have r3 := (k2 3 _ rfl).1
        have s3 := (k2 3 _ rfl).2
        have t3 := (k4 3 _ rfl).1
        clear hW4 k3 k2 k4
        go_wp2
        rw [Exit.noGoto_ret]
        exact bodyPost_ret (v := .agg #[.int .i64 x0, .int .i64 x1, .int .i64 x2, .int .i64 x3]) (by simp [results, Tryd.results47, go_sem, *]) rfl ⟨by rw [hF.out, hres.out], hb4⟩
    · have hF := Lib.hid (first_no P (fun j hj => hP j (by omega)))
      have hk4 : k = 4 := by omega
      subst hk4
      clear hP hfit hlt
      have b0 := bx0.later hbw
      have b1 := bx1.later hbw
      have hb3 : Below w.heap.size w wr := hb2.trans (hbw.mono (by omega))
      clear bx0 bx1
      obtain ⟨W4, hW4⟩ : ∃ W4, set4 wr w.heap.size (.int .i64 0) (.int .i64 0) (.int .i64 0) (.int .i64 0) = W4 := ⟨_, rfl⟩
      have k4 : Box W4 w.heap.size [.int .i64 0, .int .i64 0, .int .i64 0, .int .i64 0] := by rw [← hW4]; exact b0.set4 _ _ _ _
      have hb4 : Below w.heap.size w W4 := by rw [← hW4]; exact below_set4 hb3 (Nat.le_refl _) _ _ _ _
      have hW4' : (((wr.setCell ⟨w.heap.size, 0, none⟩ (.int .i64 0)).setCell ⟨w.heap.size, 1, none⟩ (.int .i64 0)).setCell ⟨w.heap.size, 2, none⟩ (.int .i64 0)).setCell ⟨w.heap.size, 3, none⟩ (.int .i64 0) = W4 := hW4
      have p0 := (b1 0 _ rfl).1
      have q0 := (b1 0 _ rfl).2
      have r0 := (b0 0 _ rfl).1
      have s0 := (b0 0 _ rfl).2
      have t0 := (k4 0 _ rfl).1
      have p1 := (b1 1 _ rfl).1
      have q1 := (b1 1 _ rfl).2
      have r1 := (b0 1 _ rfl).1
      have s1 := (b0 1 _ rfl).2
      have t1 := (k4 1 _ rfl).1
      have p2 := (b1 2 _ rfl).1
      have q2 := (b1 2 _ rfl).2
      have r2 := (b0 2 _ rfl).1
      have s2 := (b0 2 _ rfl).2
      have t2 := (k4 2 _ rfl).1
      have p3 := (b1 3 _ rfl).1
      have q3 := (b1 3 _ rfl).2
      have r3 := (b0 3 _ rfl).1
      have s3 := (b0 3 _ rfl).2
      have t3 := (k4 3 _ rfl).1
      clear hW4 b1 b0 k4
      go_wp2
      rw [Exit.noGoto_ret]
      exact bodyPost_ret (v := .agg #[.int .i64 0, .int .i64 0, .int .i64 0, .int .i64 0]) (by simp [results, Tryd.results47, go_sem, *]) rfl ⟨by rw [hF.out]; rfl, hb4⟩
end Go.Proofs.YtgnialemiefeeaaDoor
/-
  Layer 1: the iterator over a code point's bytes.
-/
namespace Go.Proofs.YtgnialemiefeeaaDoor
open Go.RowKit Go.Shelf
attribute [local go_sem] Oper.semAt_some
set_option linter.unusedVariables false

theorem only_drew {a w : World} {row : Option Nat} (h : a.grownBy w row) : a.grownBy w.drew row := ⟨h.os, h.tape, h.output, h.size, h.block⟩
/-- A cell is as it was. -/
def KeptAt (b : Nat) (W W' : World) : Prop := W'.cell? ⟨b, 0, none⟩ = W.cell? ⟨b, 0, none⟩
theorem KeptAt.trans {b : Nat} {A B C : World} (h : KeptAt b B C) (k : KeptAt b A B) : KeptAt b A C := Eq.trans h k
/-- What a round says, in one form. -/
def Says (A B : World → Prop) (b : Bool) (W : World) : Prop := (b = true ∧ A W) ∨ (b = false ∧ B W)
theorem yes_or {F : Fence} {m : Nat} {P : Program} {l : Nat} {fn : FuncId} {tmps : Array Value} {assign body : Code} {W : World} {A B : World → Prop}
    (h : RoundIn F m P l fn tmps assign body W fun e W' => (e = .returned (.bool true) ∧ A W') ∨ (e = .returned (.bool false) ∧ B W')) :
    RoundIn F m P l fn tmps assign body W fun e W' => ∃ b : Bool, e = .returned (.bool b) ∧ Says A B b W' :=
  h.mono fun _ _ h => by
    rcases h with ⟨rfl, h⟩ | ⟨rfl, h⟩
    · exact ⟨true, rfl, .inl ⟨rfl, h⟩⟩
    · exact ⟨false, rfl, .inr ⟨rfl, h⟩⟩
theorem Says.yes {A B : World → Prop} {W : World} (h : Says A B true W) : A W := by exact (by rcases h with ⟨_, h⟩ | ⟨h, _⟩ <;> first | exact h | cases h)
theorem Says.no {A B : World → Prop} {W : World} (h : Says A B false W) : B W := by exact (by rcases h with ⟨h, _⟩ | ⟨_, h⟩ <;> first | exact h | cases h)

set_option maxRecDepth 100000 in
set_option maxHeartbeats 2000000 in
theorem enc1_in (n : Nat) (hn : 1 ≤ n) (l Bf Bc : Nat) (c : Nat) (hc1 : 0 ≤ c) (hc2 : c ≤ 127) (J Jx : List UInt8 → World → Prop)
    (W : World) (hJ : AbidesFrom W.heap.size J)
    (hY : ∀ pre x W, J pre W → pre.length < 4 → YieldAt Fence.wide (n - 1) Tryd.prog l #[bv x] W fun e W' =>
      (e = .returned (.bool true) ∧ J (pre ++ [x]) W' ∧ KeptAt Bc W W') ∨ (e = .returned (.bool false) ∧ Jx (pre ++ [x]) W'))
    (hBf : Box W Bf [.int .i64 0, .int .i64 127, .int .i64 1, .int .i64 0]) (hBc : W.cell? ⟨Bc, 0, none⟩ = some (.int .i64 c)) (h0 : J [] W) :
    CallsIn Fence.wide n Tryd.prog 61 #[.func (.yield l) #[] #[], .pointer (some ⟨Bf, 0, none⟩), .pointer (some ⟨Bc, 0, none⟩)] W fun e W' => (∃ v, e = .returned v) ∧
      ((∃ ys, ys = encL c ∧ J ys W') ∨ (∃ pre, pre <+: encL c ∧ Jx pre W')) := by
  have he : encL c = [b8 (c)] := by unfold encL; rw [if_pos (by omega)]
  have f2 := (hBf 2 _ rfl).1
  have f3 := (hBf 3 _ rfl).1
  have h0' : J [] W.drew := hJ [] W _ none h0 (only_drew (World.grownBy.refl W none)) (fun r e => by cases e)
  have y0 : IntKind.u8.wrap (bits .or .i64 0 ((c : Int))) = ((b8 (c)).toNat : Int) := by apply yb_first1 <;> omega
  obtain ⟨fn, tmps, assign, body, hy, hR⟩ := hY [] (b8 (c)) W.drew h0' (by simp)
  rw [he]
  clear he h0 h0'
  generalize b8 (c) = z0 at *
  dsimp only [bv] at hy
  refine callsIn_of_wp Tryd.func61 rfl trivial ?_ rfl
  simp only [Tryd.ntmps61, List.size_toArray, List.length_cons, List.length_nil, Nat.reduceAdd, Nat.reduceSub, Array.replicate_succ, Array.replicate_zero, List.push_toArray, List.append_toArray, List.nil_append, List.cons_append]
  gi_wp2
  gi_region_with ((refine (yes_or hR).mono ?_; rintro e W1 ⟨b, rfl, hor⟩))
  all_goals
    cases b
    · gi_wp2
      refine bodyPost_ret (results_none rfl _ _ _) rfl ?_
      exact ⟨⟨_, rfl⟩, .inr ⟨[z0], by simp, by simpa using hor.no⟩⟩
    · obtain ⟨hJ1, hk1⟩ := hor.yes
      clear hor hR hy
      gi_wp2
      simp only [Bool.not_true, Act.put, List.getElem_toArray, List.getElem_cons_succ, List.getElem_cons_zero, List.setIfInBounds_toArray, List.set_cons_succ, List.set_cons_zero]
      gi_loopw [4] (fun t wr => ∃ j : Nat, j < 1 ∧ t = .int .i64 ((6 * j : Nat) : Int) ∧ J ([z0].take (1 - j)) wr ∧ KeptAt Bc W wr) (fun t _ => (intOf t).toNat)
      case atStart => exact ⟨0, by omega, rfl, hJ1, hk1⟩
      case round =>
        obtain ⟨j, hj, rfl, hJ2, hk2⟩ := hrel
        have hc2 : wr.cell? ⟨Bc, 0, none⟩ = some (.int .i64 c) := Eq.trans hk2 hBc
        clear f2 f3 hk1 hJ1
        rcases (show j = 0 by omega) with rfl
        · gi_wp2
          go_end0
          exact ⟨⟨_, rfl⟩, .inl ⟨[z0], rfl, hJ2⟩⟩

set_option maxRecDepth 100000 in
set_option maxHeartbeats 2000000 in
theorem enc2_in (n : Nat) (hn : 1 ≤ n) (l Bf Bc : Nat) (c : Nat) (hc1 : 128 ≤ c) (hc2 : c ≤ 2047) (J Jx : List UInt8 → World → Prop)
    (W : World) (hJ : AbidesFrom W.heap.size J)
    (hY : ∀ pre x W, J pre W → pre.length < 4 → YieldAt Fence.wide (n - 1) Tryd.prog l #[bv x] W fun e W' =>
      (e = .returned (.bool true) ∧ J (pre ++ [x]) W' ∧ KeptAt Bc W W') ∨ (e = .returned (.bool false) ∧ Jx (pre ++ [x]) W'))
    (hBf : Box W Bf [.int .i64 128, .int .i64 2047, .int .i64 2, .int .i64 192]) (hBc : W.cell? ⟨Bc, 0, none⟩ = some (.int .i64 c)) (h0 : J [] W) :
    CallsIn Fence.wide n Tryd.prog 61 #[.func (.yield l) #[] #[], .pointer (some ⟨Bf, 0, none⟩), .pointer (some ⟨Bc, 0, none⟩)] W fun e W' => (∃ v, e = .returned v) ∧
      ((∃ ys, ys = encL c ∧ J ys W') ∨ (∃ pre, pre <+: encL c ∧ Jx pre W')) := by
  have he : encL c = [b8 (192 + c / 64), b8 (128 + c % 64)] := by unfold encL; rw [if_neg (by omega), if_pos (by omega)]
  have f2 := (hBf 2 _ rfl).1
  have f3 := (hBf 3 _ rfl).1
  have h0' : J [] W.drew := hJ [] W _ none h0 (only_drew (World.grownBy.refl W none)) (fun r e => by cases e)
  have y0 : IntKind.u8.wrap (bits .or .i64 192 ((c : Int) / 64)) = ((b8 (192 + c / 64)).toNat : Int) := by apply yb_first2 <;> omega
  obtain ⟨fn, tmps, assign, body, hy, hR⟩ := hY [] (b8 (192 + c / 64)) W.drew h0' (by simp)
  have y1 : IntKind.u8.wrap (bits .or .i64 128 (bits .and .i64 ((c : Int)) 63)) = ((b8 (128 + c % 64)).toNat : Int) := yb_next (c) (by omega)
  rw [he]
  clear he h0 h0'
  generalize b8 (192 + c / 64) = z0 at *
  generalize b8 (128 + c % 64) = z1 at *
  dsimp only [bv] at hy
  refine callsIn_of_wp Tryd.func61 rfl trivial ?_ rfl
  simp only [Tryd.ntmps61, List.size_toArray, List.length_cons, List.length_nil, Nat.reduceAdd, Nat.reduceSub, Array.replicate_succ, Array.replicate_zero, List.push_toArray, List.append_toArray, List.nil_append, List.cons_append]
  gi_wp2
  gi_region_with ((refine (yes_or hR).mono ?_; rintro e W1 ⟨b, rfl, hor⟩))
  all_goals
    cases b
    · gi_wp2
      refine bodyPost_ret (results_none rfl _ _ _) rfl ?_
      exact ⟨⟨_, rfl⟩, .inr ⟨[z0], by simp, by simpa using hor.no⟩⟩
    · obtain ⟨hJ1, hk1⟩ := hor.yes
      clear hor hR hy
      gi_wp2
      simp only [Bool.not_true, Act.put, List.getElem_toArray, List.getElem_cons_succ, List.getElem_cons_zero, List.setIfInBounds_toArray, List.set_cons_succ, List.set_cons_zero]
      gi_loopw [4] (fun t wr => ∃ j : Nat, j < 2 ∧ t = .int .i64 ((6 * j : Nat) : Int) ∧ J ([z0, z1].take (2 - j)) wr ∧ KeptAt Bc W wr) (fun t _ => (intOf t).toNat)
      case atStart => exact ⟨1, by omega, rfl, hJ1, hk1⟩
      case round =>
        obtain ⟨j, hj, rfl, hJ2, hk2⟩ := hrel
        have hc2 : wr.cell? ⟨Bc, 0, none⟩ = some (.int .i64 c) := Eq.trans hk2 hBc
        clear f2 f3 hk1 hJ1
        rcases (show j = 0 ∨ j = 1 by omega) with rfl | rfl
        · gi_wp2
          go_end0
          exact ⟨⟨_, rfl⟩, .inl ⟨[z0, z1], rfl, hJ2⟩⟩
        · obtain ⟨fn, tmps, assign, body, hy, hR⟩ := hY [z0] z1 wr hJ2 (by simp)
          dsimp only [bv] at hy
          gi_wp2
          refine hR.mono ?_
          rintro e W3 (⟨rfl, hJ3, hk3⟩ | ⟨rfl, hJx3⟩)
          · gi_wp2
            go_roundw
            case rel => exact ⟨0, by omega, rfl, hJ3, hk3.trans hk2⟩
            case measure => simp [intOf]
          · gi_wp2
            refine bodyPost_ret (results_none rfl _ _ _) rfl ?_
            exact ⟨⟨_, rfl⟩, .inr ⟨[z0, z1], by simp, by simpa using hJx3⟩⟩

set_option maxRecDepth 100000 in
set_option maxHeartbeats 2000000 in
theorem enc3_in (n : Nat) (hn : 1 ≤ n) (l Bf Bc : Nat) (c : Nat) (hc1 : 2048 ≤ c) (hc2 : c ≤ 65535) (J Jx : List UInt8 → World → Prop)
    (W : World) (hJ : AbidesFrom W.heap.size J)
    (hY : ∀ pre x W, J pre W → pre.length < 4 → YieldAt Fence.wide (n - 1) Tryd.prog l #[bv x] W fun e W' =>
      (e = .returned (.bool true) ∧ J (pre ++ [x]) W' ∧ KeptAt Bc W W') ∨ (e = .returned (.bool false) ∧ Jx (pre ++ [x]) W'))
    (hBf : Box W Bf [.int .i64 2048, .int .i64 65535, .int .i64 3, .int .i64 224]) (hBc : W.cell? ⟨Bc, 0, none⟩ = some (.int .i64 c)) (h0 : J [] W) :
    CallsIn Fence.wide n Tryd.prog 61 #[.func (.yield l) #[] #[], .pointer (some ⟨Bf, 0, none⟩), .pointer (some ⟨Bc, 0, none⟩)] W fun e W' => (∃ v, e = .returned v) ∧
      ((∃ ys, ys = encL c ∧ J ys W') ∨ (∃ pre, pre <+: encL c ∧ Jx pre W')) := by
  have he : encL c = [b8 (224 + c / 4096), b8 (128 + c / 64 % 64), b8 (128 + c % 64)] := by unfold encL; rw [if_neg (by omega), if_neg (by omega), if_pos (by omega)]
  have f2 := (hBf 2 _ rfl).1
  have f3 := (hBf 3 _ rfl).1
  have h0' : J [] W.drew := hJ [] W _ none h0 (only_drew (World.grownBy.refl W none)) (fun r e => by cases e)
  have y0 : IntKind.u8.wrap (bits .or .i64 224 ((c : Int) / 4096)) = ((b8 (224 + c / 4096)).toNat : Int) := by apply yb_first3 <;> omega
  obtain ⟨fn, tmps, assign, body, hy, hR⟩ := hY [] (b8 (224 + c / 4096)) W.drew h0' (by simp)
  have y1 : IntKind.u8.wrap (bits .or .i64 128 (bits .and .i64 ((c : Int) / 64) 63)) = ((b8 (128 + c / 64 % 64)).toNat : Int) := yb_next (c / 64) (by omega)
  have y2 : IntKind.u8.wrap (bits .or .i64 128 (bits .and .i64 ((c : Int)) 63)) = ((b8 (128 + c % 64)).toNat : Int) := yb_next (c) (by omega)
  rw [he]
  clear he h0 h0'
  generalize b8 (224 + c / 4096) = z0 at *
  generalize b8 (128 + c / 64 % 64) = z1 at *
  generalize b8 (128 + c % 64) = z2 at *
  dsimp only [bv] at hy
  refine callsIn_of_wp Tryd.func61 rfl trivial ?_ rfl
  simp only [Tryd.ntmps61, List.size_toArray, List.length_cons, List.length_nil, Nat.reduceAdd, Nat.reduceSub, Array.replicate_succ, Array.replicate_zero, List.push_toArray, List.append_toArray, List.nil_append, List.cons_append]
  gi_wp2
  gi_region_with ((refine (yes_or hR).mono ?_; rintro e W1 ⟨b, rfl, hor⟩))
  all_goals
    cases b
    · gi_wp2
      refine bodyPost_ret (results_none rfl _ _ _) rfl ?_
      exact ⟨⟨_, rfl⟩, .inr ⟨[z0], by simp, by simpa using hor.no⟩⟩
    · obtain ⟨hJ1, hk1⟩ := hor.yes
      clear hor hR hy
      gi_wp2
      simp only [Bool.not_true, Act.put, List.getElem_toArray, List.getElem_cons_succ, List.getElem_cons_zero, List.setIfInBounds_toArray, List.set_cons_succ, List.set_cons_zero]
      gi_loopw [4] (fun t wr => ∃ j : Nat, j < 3 ∧ t = .int .i64 ((6 * j : Nat) : Int) ∧ J ([z0, z1, z2].take (3 - j)) wr ∧ KeptAt Bc W wr) (fun t _ => (intOf t).toNat)
      case atStart => exact ⟨2, by omega, rfl, hJ1, hk1⟩
      case round =>
        obtain ⟨j, hj, rfl, hJ2, hk2⟩ := hrel
        have hc2 : wr.cell? ⟨Bc, 0, none⟩ = some (.int .i64 c) := Eq.trans hk2 hBc
        clear f2 f3 hk1 hJ1
        rcases (show j = 0 ∨ j = 1 ∨ j = 2 by omega) with rfl | rfl | rfl
        · gi_wp2
          go_end0
          exact ⟨⟨_, rfl⟩, .inl ⟨[z0, z1, z2], rfl, hJ2⟩⟩
        · obtain ⟨fn, tmps, assign, body, hy, hR⟩ := hY [z0, z1] z2 wr hJ2 (by simp)
          dsimp only [bv] at hy
          gi_wp2
          refine hR.mono ?_
          rintro e W3 (⟨rfl, hJ3, hk3⟩ | ⟨rfl, hJx3⟩)
          · gi_wp2
            go_roundw
            case rel => exact ⟨0, by omega, rfl, hJ3, hk3.trans hk2⟩
            case measure => simp [intOf]
          · gi_wp2
            refine bodyPost_ret (results_none rfl _ _ _) rfl ?_
            exact ⟨⟨_, rfl⟩, .inr ⟨[z0, z1, z2], by simp, by simpa using hJx3⟩⟩
        · obtain ⟨fn, tmps, assign, body, hy, hR⟩ := hY [z0] z1 wr hJ2 (by simp)
          dsimp only [bv] at hy
          gi_wp2
          refine hR.mono ?_
          rintro e W3 (⟨rfl, hJ3, hk3⟩ | ⟨rfl, hJx3⟩)
          · gi_wp2
            go_roundw
            case rel => exact ⟨1, by omega, rfl, hJ3, hk3.trans hk2⟩
            case measure => simp [intOf]
          · gi_wp2
            refine bodyPost_ret (results_none rfl _ _ _) rfl ?_
            exact ⟨⟨_, rfl⟩, .inr ⟨[z0, z1], by simp, by simpa using hJx3⟩⟩

set_option maxRecDepth 100000 in
set_option maxHeartbeats 2000000 in
theorem enc4_in (n : Nat) (hn : 1 ≤ n) (l Bf Bc : Nat) (c : Nat) (hc1 : 65536 ≤ c) (hc2 : c ≤ 1114111) (J Jx : List UInt8 → World → Prop)
    (W : World) (hJ : AbidesFrom W.heap.size J)
    (hY : ∀ pre x W, J pre W → pre.length < 4 → YieldAt Fence.wide (n - 1) Tryd.prog l #[bv x] W fun e W' =>
      (e = .returned (.bool true) ∧ J (pre ++ [x]) W' ∧ KeptAt Bc W W') ∨ (e = .returned (.bool false) ∧ Jx (pre ++ [x]) W'))
    (hBf : Box W Bf [.int .i64 65536, .int .i64 1114111, .int .i64 4, .int .i64 240]) (hBc : W.cell? ⟨Bc, 0, none⟩ = some (.int .i64 c)) (h0 : J [] W) :
    CallsIn Fence.wide n Tryd.prog 61 #[.func (.yield l) #[] #[], .pointer (some ⟨Bf, 0, none⟩), .pointer (some ⟨Bc, 0, none⟩)] W fun e W' => (∃ v, e = .returned v) ∧
      ((∃ ys, ys = encL c ∧ J ys W') ∨ (∃ pre, pre <+: encL c ∧ Jx pre W')) := by
  have he : encL c = [b8 (240 + c / 262144), b8 (128 + c / 4096 % 64), b8 (128 + c / 64 % 64), b8 (128 + c % 64)] := by unfold encL; rw [if_neg (by omega), if_neg (by omega), if_neg (by omega)]
  have f2 := (hBf 2 _ rfl).1
  have f3 := (hBf 3 _ rfl).1
  have h0' : J [] W.drew := hJ [] W _ none h0 (only_drew (World.grownBy.refl W none)) (fun r e => by cases e)
  have y0 : IntKind.u8.wrap (bits .or .i64 240 ((c : Int) / 262144)) = ((b8 (240 + c / 262144)).toNat : Int) := by apply yb_first4 <;> omega
  obtain ⟨fn, tmps, assign, body, hy, hR⟩ := hY [] (b8 (240 + c / 262144)) W.drew h0' (by simp)
  have y1 : IntKind.u8.wrap (bits .or .i64 128 (bits .and .i64 ((c : Int) / 4096) 63)) = ((b8 (128 + c / 4096 % 64)).toNat : Int) := yb_next (c / 4096) (by omega)
  have y2 : IntKind.u8.wrap (bits .or .i64 128 (bits .and .i64 ((c : Int) / 64) 63)) = ((b8 (128 + c / 64 % 64)).toNat : Int) := yb_next (c / 64) (by omega)
  have y3 : IntKind.u8.wrap (bits .or .i64 128 (bits .and .i64 ((c : Int)) 63)) = ((b8 (128 + c % 64)).toNat : Int) := yb_next (c) (by omega)
  rw [he]
  clear he h0 h0'
  generalize b8 (240 + c / 262144) = z0 at *
  generalize b8 (128 + c / 4096 % 64) = z1 at *
  generalize b8 (128 + c / 64 % 64) = z2 at *
  generalize b8 (128 + c % 64) = z3 at *
  dsimp only [bv] at hy
  refine callsIn_of_wp Tryd.func61 rfl trivial ?_ rfl
  simp only [Tryd.ntmps61, List.size_toArray, List.length_cons, List.length_nil, Nat.reduceAdd, Nat.reduceSub, Array.replicate_succ, Array.replicate_zero, List.push_toArray, List.append_toArray, List.nil_append, List.cons_append]
  gi_wp2
  gi_region_with ((refine (yes_or hR).mono ?_; rintro e W1 ⟨b, rfl, hor⟩))
  all_goals
    cases b
    · gi_wp2
      refine bodyPost_ret (results_none rfl _ _ _) rfl ?_
      exact ⟨⟨_, rfl⟩, .inr ⟨[z0], by simp, by simpa using hor.no⟩⟩
    · obtain ⟨hJ1, hk1⟩ := hor.yes
      clear hor hR hy
      gi_wp2
      simp only [Bool.not_true, Act.put, List.getElem_toArray, List.getElem_cons_succ, List.getElem_cons_zero, List.setIfInBounds_toArray, List.set_cons_succ, List.set_cons_zero]
      gi_loopw [4] (fun t wr => ∃ j : Nat, j < 4 ∧ t = .int .i64 ((6 * j : Nat) : Int) ∧ J ([z0, z1, z2, z3].take (4 - j)) wr ∧ KeptAt Bc W wr) (fun t _ => (intOf t).toNat)
      case atStart => exact ⟨3, by omega, rfl, hJ1, hk1⟩
      case round =>
        obtain ⟨j, hj, rfl, hJ2, hk2⟩ := hrel
        have hc2 : wr.cell? ⟨Bc, 0, none⟩ = some (.int .i64 c) := Eq.trans hk2 hBc
        clear f2 f3 hk1 hJ1
        rcases (show j = 0 ∨ j = 1 ∨ j = 2 ∨ j = 3 by omega) with rfl | rfl | rfl | rfl
        · gi_wp2
          go_end0
          exact ⟨⟨_, rfl⟩, .inl ⟨[z0, z1, z2, z3], rfl, hJ2⟩⟩
        · obtain ⟨fn, tmps, assign, body, hy, hR⟩ := hY [z0, z1, z2] z3 wr hJ2 (by simp)
          dsimp only [bv] at hy
          gi_wp2
          refine hR.mono ?_
          rintro e W3 (⟨rfl, hJ3, hk3⟩ | ⟨rfl, hJx3⟩)
          · gi_wp2
            go_roundw
            case rel => exact ⟨0, by omega, rfl, hJ3, hk3.trans hk2⟩
            case measure => simp [intOf]
          · gi_wp2
            refine bodyPost_ret (results_none rfl _ _ _) rfl ?_
            exact ⟨⟨_, rfl⟩, .inr ⟨[z0, z1, z2, z3], by simp, by simpa using hJx3⟩⟩
        · obtain ⟨fn, tmps, assign, body, hy, hR⟩ := hY [z0, z1] z2 wr hJ2 (by simp)
          dsimp only [bv] at hy
          gi_wp2
          refine hR.mono ?_
          rintro e W3 (⟨rfl, hJ3, hk3⟩ | ⟨rfl, hJx3⟩)
          · gi_wp2
            go_roundw
            case rel => exact ⟨1, by omega, rfl, hJ3, hk3.trans hk2⟩
            case measure => simp [intOf]
          · gi_wp2
            refine bodyPost_ret (results_none rfl _ _ _) rfl ?_
            exact ⟨⟨_, rfl⟩, .inr ⟨[z0, z1, z2], by simp, by simpa using hJx3⟩⟩
        · obtain ⟨fn, tmps, assign, body, hy, hR⟩ := hY [z0] z1 wr hJ2 (by simp)
          dsimp only [bv] at hy
          gi_wp2
          refine hR.mono ?_
          rintro e W3 (⟨rfl, hJ3, hk3⟩ | ⟨rfl, hJx3⟩)
          · gi_wp2
            go_roundw
            case rel => exact ⟨2, by omega, rfl, hJ3, hk3.trans hk2⟩
            case measure => simp [intOf]
          · gi_wp2
            refine bodyPost_ret (results_none rfl _ _ _) rfl ?_
            exact ⟨⟨_, rfl⟩, .inr ⟨[z0, z1], by simp, by simpa using hJx3⟩⟩

/-- The index of the form of a number. -/
def hIdx (n : Int) : Nat := firstK fun k => holdsB (fl k) (fh k) n
theorem hIdx_yes (c : Nat) (h : isCp c = true) : (c < 128 ∧ hIdx c = 0) ∨ (128 ≤ c ∧ c < 2048 ∧ hIdx c = 1) ∨ (2048 ≤ c ∧ c < 65536 ∧ hIdx c = 2) ∨ (65536 ≤ c ∧ c ≤ 1114111 ∧ hIdx c = 3) := by
  have hc := (isCp_iff _).1 h
  unfold hIdx
  by_cases h1 : c < 128
  · exact .inl ⟨h1, first_yes _ 0 (by omega) (fun j hj => by omega) (by simp [holdsB, fl, fh]; omega)⟩
  · by_cases h2 : c < 2048
    · refine .inr (.inl ⟨by omega, h2, first_yes _ 1 (by omega) (fun j hj => ?_) (by simp [holdsB, fl, fh]; omega)⟩)
      obtain rfl : j = 0 := by omega
      simp [holdsB, fl, fh]; omega
    · by_cases h3 : c < 65536
      · refine .inr (.inr (.inl ⟨by omega, h3, first_yes _ 2 (by omega) (fun j hj => ?_) (by simp [holdsB, fl, fh]; omega)⟩))
        rcases (show j = 0 ∨ j = 1 by omega) with rfl | rfl <;> (simp [holdsB, fl, fh]; omega)
      · refine .inr (.inr (.inr ⟨by omega, by omega, first_yes _ 3 (by omega) (fun j hj => ?_) (by simp [holdsB, fl, fh]; omega)⟩))
        rcases (show j = 0 ∨ j = 1 ∨ j = 2 by omega) with rfl | rfl | rfl <;> (simp [holdsB, fl, fh]; omega)
theorem hIdx_no (n : Int) (h : isCp n = false) : hIdx n = 4 := by
  refine first_no _ (fun j hj => ?_)
  have h' : ¬ ((0 ≤ n ∧ n ≤ 1114111) ∧ (n < 55296 ∨ 57343 < n)) := fun k => by rw [(isCp_iff n).2 k] at h; cases h
  rcases (show j = 0 ∨ j = 1 ∨ j = 2 ∨ j = 3 by omega) with rfl | rfl | rfl | rfl <;> (simp [holdsB, fl, fh]; omega)
theorem hIdx_len (c : Nat) (h : isCp c = true) : fs (hIdx c) = ((encL c).length : Int) := by
  rw [encL_len]
  rcases hIdx_yes c h with ⟨h1, e⟩ | ⟨h0, h1, e⟩ | ⟨h0, h1, e⟩ | ⟨h0, h1, e⟩ <;> rw [e]
  · rw [if_pos h1]; rfl
  · rw [if_neg (by omega), if_pos h1]; rfl
  · rw [if_neg (by omega), if_neg (by omega), if_pos h1]; rfl
  · rw [if_neg (by omega), if_neg (by omega), if_neg (by omega)]; rfl
/-- The iterator's contract. -/
theorem enc_stops (n : Nat) (hn : 1 ≤ n) (Bf Bc : Nat) (c : Nat) (h : isCp c = true) (w : World)
    (hBf : Box w Bf [.int .i64 (fl (hIdx c)), .int .i64 (fh (hIdx c)), .int .i64 (fs (hIdx c)), .int .i64 (fd (hIdx c))]) (hBc : w.cell? ⟨Bc, 0, none⟩ = some (.int .i64 c)) :
    SeqStopsK Fence.wide n Tryd.prog 61 #[.pointer (some ⟨Bf, 0, none⟩), .pointer (some ⟨Bc, 0, none⟩)] (fun x : UInt8 => #[bv x]) (KeptAt Bc) (fun ys => ys = encL c) (fun pre => pre <+: encL c) 4 w := fun l J Jx W hW hJ _ hY h0 => by
  have hBf' := hBf.later hW
  have hBc' : W.cell? ⟨Bc, 0, none⟩ = some (.int .i64 c) := kept_later hW hBc
  rcases hIdx_yes c h with ⟨h1, e⟩ | ⟨h0', h1, e⟩ | ⟨h0', h1, e⟩ | ⟨h0', h1, e⟩ <;> rw [e] at hBf'
  · exact enc1_in n hn l Bf Bc c (by omega) (by omega) J Jx W hJ hY hBf' hBc' h0
  · exact enc2_in n hn l Bf Bc c h0' (by omega) J Jx W hJ hY hBf' hBc' h0
  · exact enc3_in n hn l Bf Bc c h0' (by omega) J Jx W hJ hY hBf' hBc' h0
  · exact enc4_in n hn l Bf Bc c h0' (by omega) J Jx W hJ hY hBf' hBc' h0
end Go.Proofs.YtgnialemiefeeaaDoor
/-
  make and copy on rows of the call's own. No program in sight.
-/
namespace Go.Proofs.YtgnialemiefeeaaDoor
open Go.RowKit

section
variable {w : World} {base : Nat} {e : TypeId} {size : Nat}
theorem own_made (w : World) (cs : Array Value) (n cap : Nat) (hb : base ≤ w.heap.size) (hn : n ≤ cap) (hm : cap ≤ maxLen) (hs : cs.size = cap * size) :
    (w.alloc (.cells cs e)).ownsRow base e size (.slice (some ⟨w.heap.size, 0, none⟩) n cap) n (cs.toList.take (n * size)) :=
  ⟨by rw [List.length_take, Array.length_toList, hs]; exact Nat.min_eq_left (Nat.mul_le_mul_right _ hn), .inr ⟨w.heap.size, cap, cs, rfl, hb, heap_alloc_new w _, hn, hm, hs, rfl⟩⟩
theorem own_zeros (w : World) (z : Value) (n cap : Nat) (hb : base ≤ w.heap.size) (hn : n ≤ cap) (hm : cap ≤ maxLen) :
    (w.alloc (.cells (madeCells #[z] cap) e)).ownsRow base e 1 (.slice (some ⟨w.heap.size, 0, none⟩) n cap) n (List.replicate n z) := by
  have h := own_made (base := base) (e := e) (size := 1) w (madeCells #[z] cap) n cap hb hn hm (by rw [size_madeCells, Nat.mul_one])
  rw [toList_madeCells_one, List.take_replicate, Nat.mul_one, Nat.min_eq_left hn] at h
  exact h
end

section
variable {P : Program} {w : World}
/-- 'make' of a slice of elements of one cell. -/
theorem run_make_one {t e : TypeId} {i : TypeInfo} {z : Value} (ht : P.underlying t = some (.slice e)) (hi : P.info? e = some i) (hz : i.zero = some z) (hz1 : z.cells = #[z]) (h1 : i.size = 1)
    (kl kc : IntKind) (l c : Int) (h0 : 0 ≤ l) (hlc : l ≤ c) (hbytes : (i.bytes : Int) * c ≤ 281474976710656) (h63 : c ≤ 9223372036854775807) (w : World) :
    (Instr.makeSlice t (.int kl l) (.int kc c)).run P w = .ok (.slice (some ⟨w.heap.size, 0, none⟩) l.toNat c.toNat) (w.alloc (.cells (madeCells #[z] c.toNat) e)) := by
  have h := run_make (P := P) w t e i z ht hi hz kl kc l c h0 hlc hbytes h63
  rw [hz1, h1, Nat.mul_one] at h
  exact h

theorem splice_take {α : Type} (L cs : List α) (off n : Nat) (h : off + cs.length ≤ n) (hn : n ≤ L.length) : (splice L off cs).take n = splice (L.take n) off cs := by
  unfold splice
  rw [List.take_append, List.take_append, List.length_take, Nat.min_eq_left (by omega), List.take_of_length_le (l := L.take off) (by rw [List.length_take]; omega), List.take_of_length_le (l := cs) (by omega), List.take_take, Nat.min_eq_left (by omega), List.drop_take]
  congr 3
  omega

/-- 'copy' into a row of the call's own. -/
theorem wp_copy_shows {o : Oper} {a : Act} {K : Act → World → Prop} {Q : Exit → Act → World → Prop} (d s : Operand) (dT sT : TypeId)
    (ho : o.op = .call { callee := .builtin .copy, args := #[d, s], argTypes := #[dT, sT] }) (elem : TypeId) (hu : P.underlying dT = some (.slice elem)) (hsz : (P.info? elem).map (·.size) = some 1)
    (base : Nat) (e : TypeId) (g n cap : Nat) (xs : List Value) (hown : w.ownsRow base e 1 (.slice (some ⟨g, 0, none⟩) n cap) n xs)
    (off : Nat) (dp : Option Addr) (dLen dCap : Nat) (hd : a.eval d = .slice dp dLen dCap) (hdp : 0 < dLen → dp = some ⟨g, off, none⟩) (hfit : off + dLen ≤ n)
    (B : Nat) (sp : Option Addr) (sLen sCap : Nat) (news : List Value) (hs : a.eval s = .slice sp sLen sCap) (hr : Shows w B 1 sp sLen news) (h1 : ∀ v ∈ news, v.oneCell' = true)
    (h : ∀ w', w'.ownsRow base e 1 (.slice (some ⟨g, 0, none⟩) n cap) n (splice xs off (news.take dLen)) → w.grownBy w' (some g) → Below base w w' → K (a.put o.dst (goInt ((min sLen dLen : Nat) : Int))) w') :
    o.wp P a w K Q := by
  obtain ⟨hlen, hform⟩ := hown
  rcases hform with ⟨h', _⟩ | ⟨g', cap', cur, h', hbg, hg, hnc, hcm, hcs, htake⟩
  · simp at h'
  · simp only [Value.slice.injEq, Option.some.injEq, Addr.mk.injEq, and_true, true_and] at h'
    obtain ⟨rfl, rfl⟩ := h'
    have hl : (news.take dLen).length = Nat.min sLen dLen := by
      rw [List.length_take, hr.1, Nat.mul_one]
      exact Nat.min_comm _ _
    have hle : (news.take dLen).length ≤ dLen := by rw [hl]; exact Nat.min_le_right _ _
    have hcl : cur.toList.length = cap := by rw [Array.length_toList, hcs, Nat.mul_one]
    have e0 : (goInt ((news.take dLen).length : Nat)) = goInt ((min sLen dLen : Nat) : Int) := by rw [hl]
    by_cases hz : (news.take dLen).length = 0
    · have hrun := run_copy_none (P := P) w dT sT o.type elem dp sp dLen dCap sLen sCap hu hsz (by rw [← hl]; exact hz)
      have hnil : news.take dLen = [] := List.eq_nil_of_length_eq_zero hz
      have hm0 : min sLen dLen = 0 := by rw [hl] at hz; exact hz
      unfold Oper.wp
      simp [execOp, ho, resolve, invoke, builtin, hd, hs, hrun, Result.andThen]
      have hx := h w ⟨by rw [hnil]; simpa [splice] using hlen, .inr ⟨g, cap, cur, rfl, hbg, hg, hnc, hcm, hcs, by rw [hnil]; simpa [splice] using htake⟩⟩ (World.grownBy.refl w _) (Below.refl _ _)
      rw [hm0] at hx
      exact hx
    · have hpos : 0 < Nat.min sLen dLen := by omega
      have hs0 : 0 < sLen := Nat.lt_of_lt_of_le hpos (Nat.min_le_left _ _)
      have hd0 : 0 < dLen := Nat.lt_of_lt_of_le hpos (Nat.min_le_right _ _)
      obtain rfl := hdp hd0
      obtain ⟨b, so, rfl, _, hc⟩ := hr.2 hs0
      have hrun := run_copy_row (P := P) w dT sT o.type elem g off dLen dCap ⟨b, so, none⟩ sLen sCap cur e (news.take dLen) hu hsz hg hl
        (fun j v hj => by
          rw [addr_add]
          rw [List.getElem?_take] at hj
          split at hj
          · exact hc j v hj
          · cases hj) (by rw [hcs]; omega) (fun v hv => h1 v (List.mem_of_mem_take hv))
      unfold Oper.wp
      simp only [execOp, ho, resolve, invoke, builtin, hd, hs, hrun, Sem.run_bind, Sem.run_pure, Result.andThen_ok, List.map_toArray, List.map_cons, List.map_nil]
      rw [e0]
      refine (h _ ⟨?_, .inr ⟨g, cap, _, rfl, hbg, setRow_heap w g cur _ e _ hg, hnc, hcm, ?_, ?_⟩⟩ ?_ ?_)
      · rw [length_splice _ _ _ (by omega), hlen]
      · have := length_splice cur.toList off (news.take dLen) (by omega)
        unfold splice at this
        rw [← List.append_assoc] at this
        simp only [List.size_toArray]
        omega
      · have := splice_take cur.toList (news.take dLen) off (n * 1) (by omega) (by omega)
        rw [htake] at this
        unfold splice at this ⊢
        rw [← List.append_assoc] at this
        exact this
      · exact ⟨rfl, rfl, rfl, by simp [World.setRow], fun k _ hk => setRow_other w g k _ (fun e => hk (by simp [e]))⟩
      · exact below_setRow (Below.refl _ _) hbg _

theorem wpList_copy_shows {ops : Array Oper} {rest : List Oper} {o : Oper} {a : Act} {Q : Exit → Act → World → Prop} (hgd : o.guard = none) (d s : Operand) (dT sT : TypeId)
    (ho : o.op = .call { callee := .builtin .copy, args := #[d, s], argTypes := #[dT, sT] }) (elem : TypeId) (hu : P.underlying dT = some (.slice elem)) (hsz : (P.info? elem).map (·.size) = some 1)
    (base : Nat) (e : TypeId) (g n cap : Nat) (xs : List Value) (hown : w.ownsRow base e 1 (.slice (some ⟨g, 0, none⟩) n cap) n xs)
    (off : Nat) (dp : Option Addr) (dLen dCap : Nat) (hd : a.eval d = .slice dp dLen dCap) (hdp : 0 < dLen → dp = some ⟨g, off, none⟩) (hfit : off + dLen ≤ n)
    (B : Nat) (sp : Option Addr) (sLen sCap : Nat) (news : List Value) (hs : a.eval s = .slice sp sLen sCap) (hr : Shows w B 1 sp sLen news) (h1 : ∀ v ∈ news, v.oneCell' = true)
    (h : ∀ w', w'.ownsRow base e 1 (.slice (some ⟨g, 0, none⟩) n cap) n (splice xs off (news.take dLen)) → w.grownBy w' (some g) → Below base w w' → wpList P ops Q rest (a.put o.dst (goInt ((min sLen dLen : Nat) : Int))) w') :
    wpList P ops Q (o :: rest) a w :=
  wpList_plain hgd fun _ hK => wp_copy_shows d s dT sT ho elem hu hsz base e g n cap xs hown off dp dLen dCap hd hdp hfit B sp sLen sCap news hs hr h1 fun w' h2 h3 h4 => hK _ _ (h w' h2 h3 h4)

theorem step_copy_shows {ops : Array Oper} {o : Oper} {a : Act} {K : Act → World → Prop} {Q : Exit → Act → World → Prop} {E : Prop} (hgd : o.guard = none) (d s : Operand) (dT sT : TypeId)
    (ho : o.op = .call { callee := .builtin .copy, args := #[d, s], argTypes := #[dT, sT] }) (elem : TypeId) (hu : P.underlying dT = some (.slice elem)) (hsz : (P.info? elem).map (·.size) = some 1)
    (base : Nat) (e : TypeId) (g n cap : Nat) (xs : List Value) (hown : w.ownsRow base e 1 (.slice (some ⟨g, 0, none⟩) n cap) n xs)
    (off : Nat) (dp : Option Addr) (dLen dCap : Nat) (hd : a.eval d = .slice dp dLen dCap) (hdp : 0 < dLen → dp = some ⟨g, off, none⟩) (hfit : off + dLen ≤ n)
    (B : Nat) (sp : Option Addr) (sLen sCap : Nat) (news : List Value) (hs : a.eval s = .slice sp sLen sCap) (hr : Shows w B 1 sp sLen news) (h1 : ∀ v ∈ news, v.oneCell' = true)
    (h : ∀ w', w'.ownsRow base e 1 (.slice (some ⟨g, 0, none⟩) n cap) n (splice xs off (news.take dLen)) → w.grownBy w' (some g) → Below base w w' → K (a.put o.dst (goInt ((min sLen dLen : Nat) : Int))) w') :
    if Region.wanted o (yielded ops a.tmps) = true then Oper.wp P o a w K Q else E := by
  have hw : Region.wanted o (yielded ops a.tmps) = true := by simp [Region.wanted, hgd]
  rw [if_pos hw]
  exact wp_copy_shows d s dT sT ho elem hu hsz base e g n cap xs hown off dp dLen dCap hd hdp hfit B sp sLen sCap news hs hr h1 h
end
end Go.Proofs.YtgnialemiefeeaaDoor
