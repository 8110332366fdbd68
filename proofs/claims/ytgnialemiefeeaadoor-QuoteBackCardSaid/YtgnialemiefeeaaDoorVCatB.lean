import Derived.Test.YtgnialemiefeeaaDoorRows
import Derived.Test.YtgnialemiefeeaaDoorGaa
import Derived.Test.YtgnialemiefeeaaDoorGak
import Derived.LoopTactic
import Derived.Deep.DrawnRows
import Derived.Lib.Hide
/-
  slices.Grow, slices.Concat at bytes: any number of pieces.
-/
namespace Go.Proofs.YtgnialemiefeeaaDoor
open Go.RowKit
attribute [local go_sem ↓] Go.wp_at_zero Go.wp_at_succ

/-- 'append(nil, make([]T, n)...)'. -/
theorem run_append_makeB {P : Program} (t tx ty e : TypeId) (i : TypeInfo) (z : Value) (kx : IntKind) (ht : P.underlying t = some (.slice e)) (htx : P.underlying tx = some (.int kx)) (hi : P.info? e = some i) (hz : i.zero = some z)
    (h1 : i.size = 1) (hb : i.bytes = 1) (n : Nat) (h0 : 0 < n) (hn : n ≤ 1000000) (w : World) :
    (Builtin.append_ #[t, tx] ty #[.slice none 0 0, .int .i64 (n : Int)]).run P w =
      .ok (.slice (some ⟨w.heap.size, 0, none⟩) n (grownCap w n 0 e)) (w.drew.alloc (.cells (Builtin.zeroCells z.cells n ++ Builtin.zeroCells z.cells (grownCap w n 0 e - n)) e)) := by
  have hw : IntKind.i64.wrap (n : Int) = (n : Int) := by rw [IntKind.wrap_i64]; omega
  have e1 : ¬ ((n : Int) < 0) := by omega
  have e2 : ¬ (281474976710656 < (n : Int)) := by omega
  have e3 : ¬ (n = 0) := by omega
  have e4 : ¬ (9223372036854775807 < (n : Int)) := by omega
  have e5 : Builtin.nextslicecap n 0 = n := by
    unfold Builtin.nextslicecap
    rw [if_pos (by omega)]
  have e6 : ¬ (281474976710656 < n) := by omega
  simp [Builtin.append_, run_underlying ht, run_underlying htx, sizeOf, typeInfo, zeroValue, hi, hz, h1, hb, asInt, asIntOf, Builtin.firstCells, hw, e1, e2, e3, e4, e5, e6, Question.forced, newRow, grownCap]

theorem wpList_append_makeB {P : Program} {w : World} {ops : Array Oper} {rest : List Oper} {o : Oper} {a : Act} {Q : Exit → Act → World → Prop} (hgd : o.guard = none) (s x : Operand) (t tx : TypeId)
    (ho : o.op = .call { callee := .builtin .append, args := #[s, x], argTypes := #[t, tx] })
    (e : TypeId) (i : TypeInfo) (z : Value) (kx : IntKind) (ht : P.underlying t = some (.slice e)) (htx : P.underlying tx = some (.int kx)) (hi : P.info? e = some i) (hz : i.zero = some z) (hz1 : z.cells.size = 1)
    (h1 : i.size = 1) (hb : i.bytes = 1) (n : Nat) (h0 : 0 < n) (hn : n ≤ 1000000) (hs : a.eval s = .slice none 0 0) (hx : a.eval x = .int .i64 (n : Int))
    (h : ∀ c w', n ≤ c → c ≤ maxLen → w'.ownsRow w.heap.size e 1 (.slice (some ⟨w.heap.size, 0, none⟩) 0 c) 0 [] → Below w.heap.size w w' → wpList P ops Q rest (a.put o.dst (.slice (some ⟨w.heap.size, 0, none⟩) n c)) w') :
    wpList P ops Q (o :: rest) a w := by
  refine wpList_plain hgd fun K hK => ?_
  have hrun := run_append_makeB (P := P) t tx o.type e i z kx ht htx hi hz h1 hb n h0 hn w
  have hge := grownCap_ge w n 0 e
  have hle := grownCap_le_maxLen w n 0 e (by unfold maxLen; omega)
  unfold Oper.wp execOp
  simp only [ho, resolve, invoke, builtin, Sem.run_bind, Sem.run_pure, Result.andThen_ok, List.map_toArray, List.map_cons, List.map_nil, hs, hx, hrun]
  refine hK _ _ (h _ _ hge hle ?_ ((Below.refl _ _).drew.alloc (Nat.le_refl _) _))
  exact World.ownsRow_made w.drew _ _ (Nat.le_refl _) hle (by rw [Array.size_append, size_zeroCells, size_zeroCells, hz1]; omega)

set_option maxRecDepth 20000 in
set_option maxHeartbeats 1000000 in
theorem growB_any (n : Nat) (w : World) (hn : n ≤ 1000000) (h0 : 0 < n) :
    Calls Tryd.prog 46 #[.slice none 0 0, .int .i64 (n : Int)] w fun e w' => ∃ A c, e = .returned (.slice A 0 c) ∧ w'.ownsRow w.heap.size 5 1 (.slice A 0 c) 0 [] ∧ Below w.heap.size w w' := by
  obtain ⟨i0, hi, hz0, hz1, hz2⟩ := u8_info
  go_enter Tryd.func46, Tryd.ntmps46
  go_wp2_with (at_builtin; refine wpList_append_makeB rfl _ _ _ _ rfl 5 i0 (.int .u8 0) .i64 Tryd.underlying22 Tryd.underlying3 hi hz0 rfl hz1 hz2 n h0 hn rfl rfl ?_)
  intro c w1 hc hm hown hb
  have hc0 : (0 : Int) ≤ (c : Int) := by omega
  go_wp2
  go_ret
  exact ⟨_, c, rfl, hown, hb⟩
set_option maxRecDepth 20000 in
theorem growB_zero (w : World) :
    Calls Tryd.prog 46 #[.slice none 0 0, .int .i64 0] w fun e w' => e = .returned (.slice none 0 0) ∧ w = w' := by
  go_enter Tryd.func46, Tryd.ntmps46
  go_wp2
  go_ret
  exact ⟨rfl, rfl⟩
theorem growB_all (n : Nat) (w : World) (hn : n ≤ 1000000) :
    Calls Tryd.prog 46 #[.slice none 0 0, .int .i64 (n : Int)] w fun e w' => ∃ A c, e = .returned (.slice A 0 c) ∧ w'.ownsRow w.heap.size 5 1 (.slice A 0 c) 0 [] ∧ Below w.heap.size w w' := by
  rcases Nat.eq_zero_or_pos n with h | h
  · subst h
    refine (growB_zero w).mono ?_
    rintro e w' ⟨rfl, rfl⟩
    exact ⟨none, 0, rfl, World.ownsRow_nil _ _ _ _, Below.refl _ _⟩
  · exact growB_any n w hn h

/-- A piece: a slice, and what it shows. -/
structure Piece where
  A : Option Addr
  n : Nat
  c : Nat
  l : List UInt8
/-- The pieces' bytes, one behind the other. -/
def joinB (P : List Piece) : List UInt8 := P.flatMap (·.l)
theorem joinB_take (P : List Piece) (k : Nat) (x : Piece) (h : P[k]? = some x) : joinB (P.take (k + 1)) = joinB (P.take k) ++ x.l := by
  have hk := (List.getElem?_eq_some_iff.1 h).1
  have hx := (List.getElem?_eq_some_iff.1 h).2
  rw [List.take_succ_eq_append_getElem hk, joinB, List.flatMap_append, hx]
  simp [joinB]
/-- The pieces lie one behind the other from a block's head on. -/
def LieB (w : World) (g : Nat) (P : List Piece) : Prop := ∀ k x, P[k]? = some x → w.cell? ⟨g, k, none⟩ = some (.slice x.A x.n x.c) ∧ Bytes w w.heap.size x.A x.n x.l
theorem lieB_new (w : World) (P : List Piece) (C : Array Value) (t : TypeId) (hC : C.toList = P.map fun x => Value.slice x.A x.n x.c) (hb : ∀ x ∈ P, Bytes w w.heap.size x.A x.n x.l) : LieB (w.alloc (.cells C t)) w.heap.size P := by
  intro k x hk
  have hx : x ∈ P := List.mem_of_getElem? hk
  refine ⟨?_, ((hb x hx).alloc (Nat.le_refl _) _).more (by simp)⟩
  rw [World.cell?_alloc_new, ← Array.getElem?_toList, hC, List.getElem?_map, hk]
  rfl
theorem joinB_le (P : List Piece) (k : Nat) : (joinB (P.take k)).length ≤ (joinB P).length := by
  have := congrArg (fun l => (joinB l).length) (List.take_append_drop k P)
  simp only [joinB, List.flatMap_append, List.length_append] at this ⊢
  omega
set_option maxRecDepth 20000 in
set_option maxHeartbeats 1000000 in
theorem concatB_any (g : Nat) (P : List Piece) (m : Nat) (w : World) (hP : P.length = m) (hm : m ≤ 100) (hL : LieB w g P) (hs : ∀ k, (joinB (P.take k)).length ≤ 100000) (hg : g < w.heap.size) :
    Calls Tryd.prog 24 #[.slice (some ⟨g, 0, none⟩) m m] w (GivesBytes 5 (joinB P) w) := by
  have HP := Lib.hid hP
  clear hP
  go_enter Tryd.func24, Tryd.ntmps24
  go_wp2_with fail
  go_loop [3, 11] (fun z i => ∃ k : Nat, k ≤ m ∧ i = .int .i64 k ∧ z = .int .i64 ((joinB (P.take k)).length : Int)) (fun _ i => m - (intOf i).toNat)
  case atStart => exact ⟨0, Nat.zero_le _, rfl, by simp [joinB]⟩
  case round =>
    obtain ⟨k, hk, rfl, rfl⟩ := hrel
    by_cases hlt : k < m
    · have hkx : P[k]? = some (P[k]'(by rw [HP.out]; exact hlt)) := List.getElem?_eq_getElem _
      obtain ⟨hc, hb⟩ := hL k _ hkx
      have hj := Lib.hid (joinB_take P k _ hkx)
      have hbl := Lib.hid hb.len
      have hs1 := hs k
      have hs2 := hs (k + 1)
      rw [hj.out, List.length_append] at hs2
      have HE : Hid (((joinB (P.take (k + 1))).length : Int) = ((joinB (P.take k)).length : Int) + (((P[k]'(by rw [HP.out]; exact hlt)).n : Nat) : Int)) := Lib.hid (by rw [hj.out, List.length_append, hbl.out]; omega)
      rw [hbl.out] at hs2
      clear hkx hj hbl hb
      generalize (P[k]'(by rw [HP.out]; exact hlt)).A = A' at *
      generalize (P[k]'(by rw [HP.out]; exact hlt)).n = n' at *
      generalize (P[k]'(by rw [HP.out]; exact hlt)).c = c' at *
      have i1 : (0 : Int) ≤ (k : Int) := by omega
      have i2 : (k : Int) < (m : Int) := by omega
      go_wp2
      go_round
      case rel => exact ⟨k + 1, by omega, by go_num, by rw [HE.out]⟩
      case measure => simp [intOf]; omega
    · have hkm : k = m := by omega
      have htk : P.take k = P := List.take_of_length_le (by rw [HP.out]; omega)
      rw [htk]
      have hsz := hs m
      rw [← hkm, htk] at hsz
      have HT := Lib.hid htk
      clear htk hkm
      obtain ⟨i0, hi, hz0, hz1, hz2⟩ := u8_info
      have hgrow := fun W => growB_all (joinB P).length W (by omega)
      have hnn : ¬ ((joinB P).length : Int) < 0 := by omega
      go_wp2_with fail
      refine (hgrow _).mono ?_
      rintro e w1 ⟨A, c, rfl, hown, hb⟩
      clear hgrow
      go_wp2_with fail
      go_loopw [6, 27] (fun v i wr => ∃ (k : Nat) (A : Option Addr) (n c : Nat), k ≤ m ∧ i = .int .i64 k ∧ v = .slice A n c ∧ wr.ownsRow w.heap.size 5 1 (.slice A n c) n ((joinB (P.take k)).map bv) ∧ Below w.heap.size w wr) (fun _ i _ => m - (intOf i).toNat)
      case atStart => exact ⟨0, A, 0, c, Nat.zero_le _, rfl, rfl, by simpa [joinB] using hown, hb⟩
      case round =>
        clear hown hb
        obtain ⟨k, A', n', c', hk, rfl, rfl, hown, hb⟩ := hrel
        have s1 := hb.size
        by_cases hlt : k < m
        · have hkx : P[k]? = some (P[k]'(by rw [HP.out]; exact hlt)) := List.getElem?_eq_getElem _
          obtain ⟨hc, hbx⟩ := hL k _ hkx
          have hj := Lib.hid (joinB_take P k _ hkx)
          have hc' := (hb.cell (p := ⟨g, k, none⟩) hg).trans hc
          have hbx := hbx.below hb
          have hbl := Lib.hid hbx.len
          have hs2 := hs (k + 1)
          rw [hj.out, List.length_append, hbl.out] at hs2
          have hnl : (joinB (P.take k)).length = n' := by have := hown.1; simpa using this
          rw [hnl] at hs2
          clear hc hkx hnl
          generalize (P[k]'(by rw [HP.out]; exact hlt)).A = A2 at *
          generalize (P[k]'(by rw [HP.out]; exact hlt)).n = n2 at *
          generalize (P[k]'(by rw [HP.out]; exact hlt)).c = c2 at *
          generalize (P[k]'(by rw [HP.out]; exact hlt)).l = l2 at *
          have i1 : (0 : Int) ≤ (k : Int) := by omega
          have i2 : (k : Int) < (m : Int) := by omega
          go_wp2_with (at_builtin; refine wpList_append_shows _ rfl _ _ _ rfl w.heap.size 5 i0 (.int .u8 0) 1 1 Tryd.underlying22 hi hz0 hz1 hz2 rfl (by decide) _ _ _ rfl hown w.heap.size A2 n2 c2 (l2.map bv) rfl hbx (bv_one _) (by unfold maxLen; omega) (by omega) (by omega) ?_; intro A5 c5 w5 hown5 _ hb5)
          go_roundw
          case rel => exact ⟨k + 1, A5, n' + n2, c5, by omega, by go_num, rfl, by rw [hj.out, List.map_append]; exact hown5, hb.trans hb5⟩
          case measure => simp [intOf]; omega
        · have hkm : k = m := by omega
          have htk : P.take k = P := List.take_of_length_le (by rw [HP.out]; omega)
          rw [htk] at hown
          clear htk hkm
          go_wp2
          go_ret
          exact ⟨A', n', c', rfl, hown, hb⟩
end Go.Proofs.YtgnialemiefeeaaDoor
