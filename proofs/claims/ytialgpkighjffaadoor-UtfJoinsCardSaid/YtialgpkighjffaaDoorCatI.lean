/-
  slices.Grow, slices.Concat at whole numbers.
-/
import Derived.Test.YtialgpkighjffaaDoorRows
import Derived.Test.YtialgpkighjffaaDoorInts
import Derived.Test.YtialgpkighjffaaDoorAp
import Derived.LoopTactic
import Derived.Deep.DrawnRows
import Derived.Lib.Hide
namespace Go.Proofs.YtialgpkighjffaaDoor
open Go.RowKit
attribute [local go_sem ↓] Go.wp_at_zero Go.wp_at_succ

theorem i64_inf : ∃ i, Tryd.prog.info? 3 = some i ∧ i.zero = some (.int .i64 0) ∧ i.size = 1 ∧ i.bytes = 8 := ⟨Tryd.t3, by kernel_rfl, by kernel_rfl, by kernel_rfl, by kernel_rfl⟩
/-- 'append(nil, make([]T, n)...)'. -/
theorem run_append_makeI {P : Program} (t tx ty e : TypeId) (i : TypeInfo) (z : Value) (kx : IntKind) (ht : P.underlying t = some (.slice e)) (htx : P.underlying tx = some (.int kx)) (hi : P.info? e = some i) (hz : i.zero = some z)
    (h1 : i.size = 1) (hb : i.bytes = 8) (n : Nat) (h0 : 0 < n) (hn : n ≤ 1000000) (w : World) :
    (Builtin.append_ #[t, tx] ty #[.slice none 0 0, .int .i64 (n : Int)]).run P w =
      .ok (.slice (some ⟨w.heap.size, 0, none⟩) n (grownCap w n 0 e)) (w.drew.alloc (.cells (Builtin.zeroCells z.cells n ++ Builtin.zeroCells z.cells (grownCap w n 0 e - n)) e)) := by
  have hw : IntKind.i64.wrap (n : Int) = (n : Int) := by rw [IntKind.wrap_i64]; omega
  have e1 : ¬ ((n : Int) < 0) := by omega
  have e3 : ¬ (n = 0) := by omega
  have e4 : ¬ (9223372036854775807 < (n : Int)) := by omega
  have e5 : Builtin.nextslicecap n 0 = n := by
    unfold Builtin.nextslicecap
    rw [if_pos (by omega)]
  have e6 : ¬ (281474976710656 < n * 8) := by omega
  have e7 : ¬ (281474976710656 < (n : Int) * 8) := by omega
  simp [Builtin.append_, run_underlying ht, run_underlying htx, sizeOf, typeInfo, zeroValue, hi, hz, h1, hb, asInt, asIntOf, Builtin.firstCells, hw, e1, e3, e4, e5, e6, e7, Question.forced, newRow, grownCap]

theorem wpList_append_makeI {P : Program} {w : World} {ops : Array Oper} {rest : List Oper} {o : Oper} {a : Act} {Q : Exit → Act → World → Prop} (hgd : o.guard = none) (s x : Operand) (t tx : TypeId)
    (ho : o.op = .call { callee := .builtin .append, args := #[s, x], argTypes := #[t, tx] })
    (e : TypeId) (i : TypeInfo) (z : Value) (kx : IntKind) (ht : P.underlying t = some (.slice e)) (htx : P.underlying tx = some (.int kx)) (hi : P.info? e = some i) (hz : i.zero = some z) (hz1 : z.cells.size = 1)
    (h1 : i.size = 1) (hb : i.bytes = 8) (n : Nat) (h0 : 0 < n) (hn : n ≤ 1000000) (hs : a.eval s = .slice none 0 0) (hx : a.eval x = .int .i64 (n : Int))
    (h : ∀ c w', n ≤ c → c ≤ maxLen → w'.ownsRow w.heap.size e 1 (.slice (some ⟨w.heap.size, 0, none⟩) 0 c) 0 [] → Below w.heap.size w w' → wpList P ops Q rest (a.put o.dst (.slice (some ⟨w.heap.size, 0, none⟩) n c)) w') :
    wpList P ops Q (o :: rest) a w := by
  refine wpList_plain hgd fun K hK => ?_
  have hrun := run_append_makeI (P := P) t tx o.type e i z kx ht htx hi hz h1 hb n h0 hn w
  have hge := grownCap_ge w n 0 e
  have hle := grownCap_le_maxLen w n 0 e (by unfold maxLen; omega)
  unfold Oper.wp execOp
  simp only [ho, resolve, invoke, builtin, Sem.run_bind, Sem.run_pure, Result.andThen_ok, List.map_toArray, List.map_cons, List.map_nil, hs, hx, hrun]
  refine hK _ _ (h _ _ hge hle ?_ ((Below.refl _ _).drew.alloc (Nat.le_refl _) _))
  exact World.ownsRow_made w.drew _ _ (Nat.le_refl _) hle (by rw [Array.size_append, size_zeroCells, size_zeroCells, hz1]; omega)

set_option maxHeartbeats 1000000 in
theorem growI_any (n : Nat) (w : World) (hn : n ≤ 1000000) (h0 : 0 < n) :
    Calls Tryd.prog 39 #[.slice none 0 0, .int .i64 (n : Int)] w fun e w' => ∃ A c, e = .returned (.slice A 0 c) ∧ w'.ownsRow w.heap.size 3 1 (.slice A 0 c) 0 [] ∧ Below w.heap.size w w' := by
  obtain ⟨i0, hi, hz0, hz1, hz2⟩ := i64_inf
  go_enter Tryd.func39, Tryd.ntmps39
  go_wp2_with (at_builtin; refine wpList_append_makeI rfl _ _ _ _ rfl 3 i0 (.int .i64 0) .i64 Tryd.underlying37 Tryd.underlying3 hi hz0 rfl hz1 hz2 n h0 hn rfl rfl ?_)
  intro c w1 hc hm hown hb
  have hc0 : (0 : Int) ≤ (c : Int) := by omega
  go_wp2
  go_ret
  exact ⟨_, c, rfl, hown, hb⟩
theorem growI_zero (w : World) :
    Calls Tryd.prog 39 #[.slice none 0 0, .int .i64 0] w fun e w' => e = .returned (.slice none 0 0) ∧ w = w' := by
  go_enter Tryd.func39, Tryd.ntmps39
  go_wp2
  go_ret
  exact ⟨rfl, rfl⟩
theorem growI_all (n : Nat) (w : World) (hn : n ≤ 1000000) :
    Calls Tryd.prog 39 #[.slice none 0 0, .int .i64 (n : Int)] w fun e w' => ∃ A c, e = .returned (.slice A 0 c) ∧ w'.ownsRow w.heap.size 3 1 (.slice A 0 c) 0 [] ∧ Below w.heap.size w w' := by
  rcases Nat.eq_zero_or_pos n with h | h
  · subst h
    refine (growI_zero w).mono ?_
    rintro e w' ⟨rfl, rfl⟩
    exact ⟨none, 0, rfl, World.ownsRow_nil _ _ _ _, Below.refl _ _⟩
  · exact growI_any n w hn h

set_option maxHeartbeats 1000000 in
theorem concatI_any (g : Nat) (A1 A2 : Option Addr) (n1 n2 c1 c2 : Nat) (l1 l2 : List Int) (w : World) (h1 : Ints w w.heap.size A1 n1 l1) (h2 : Ints w w.heap.size A2 n2 l2) (hm1 : n1 ≤ 400) (hm2 : n2 ≤ 400)
    (hc1 : w.cell? ⟨g, 0, none⟩ = some (.slice A1 n1 c1)) (hc2 : w.cell? ⟨g, 1, none⟩ = some (.slice A2 n2 c2)) :
    Calls Tryd.prog 28 #[.slice (some ⟨g, 0, none⟩) 2 2] w fun e w' => ∃ A n c, e = .returned (.slice A n c) ∧ w'.ownsRow w.heap.size 3 1 (.slice A n c) n ((l1 ++ l2).map iv) ∧ Below w.heap.size w w' := by
  go_enter Tryd.func28, Tryd.ntmps28
  go_wp2_with fail
  go_loop [3, 11] (fun z i => (i = .int .i64 0 ∧ z = .int .i64 0) ∨ (i = .int .i64 1 ∧ z = .int .i64 (n1 : Int)) ∨ (i = .int .i64 2 ∧ z = .int .i64 ((n1 : Int) + (n2 : Int)))) (fun _ i => 2 - (intOf i).toNat)
  case atStart => exact .inl ⟨rfl, rfl⟩
  case round =>
    rcases hrel with ⟨rfl, rfl⟩ | ⟨rfl, rfl⟩ | ⟨rfl, rfl⟩
    · go_wp2
      go_round
      case rel => exact .inr (.inl ⟨rfl, rfl⟩)
      case measure => simp [intOf]
    · go_wp2
      go_round
      case rel => exact .inr (.inr ⟨rfl, rfl⟩)
      case measure => simp [intOf]
    · obtain ⟨i0, hi, hz0, hz1, hz2⟩ := i64_inf
      go_wp2_with fail
      rw [show (n1 : Int) + (n2 : Int) = ((n1 + n2 : Nat) : Int) by omega]
      refine (growI_all (n1 + n2) _ (by omega)).mono ?_
      rintro e w1 ⟨A, c, rfl, hown, hb⟩
      have hc1' := (hb.cell (p := ⟨g, 0, none⟩) (World.block_lt_of_cell? w _ hc1)).trans hc1
      have hc2' := (hb.cell (p := ⟨g, 1, none⟩) (World.block_lt_of_cell? w _ hc2)).trans hc2
      have hg := World.block_lt_of_cell? w _ hc1
      have s1 := hb.size
      go_wp2_with fail
      go_loopw [6, 27] (fun v i wr => ∃ (k : Nat) (A : Option Addr) (c : Nat) (l : List Int), Hid ((k = 0 ∧ l = []) ∨ (k = 1 ∧ l = l1) ∨ (k = 2 ∧ l = l1 ++ l2)) ∧ k ≤ 2 ∧ i = .int .i64 k ∧ v = .slice A l.length c ∧ wr.ownsRow w.heap.size 3 1 (.slice A l.length c) l.length (l.map iv) ∧ Below w.heap.size w wr) (fun _ i _ => 2 - (intOf i).toNat)
      case atStart => exact ⟨0, A, c, [], Lib.hid (.inl ⟨rfl, rfl⟩), by omega, rfl, rfl, hown, hb⟩
      case round =>
        clear hown hb hc1' hc2' s1
        obtain ⟨k, A', c', l, Hk, hk, rfl, rfl, hown, hb⟩ := hrel
        have hc1' := (hb.cell (p := ⟨g, 0, none⟩) hg).trans hc1
        have hc2' := (hb.cell (p := ⟨g, 1, none⟩) hg).trans hc2
        have s1 := hb.size
        have HL1 := Lib.hid h1.len
        have HL2 := Lib.hid h2.len
        rcases Hk.out with ⟨rfl, rfl⟩ | ⟨rfl, rfl⟩ | ⟨rfl, rfl⟩
        · go_wp2_with (at_builtin; refine wpList_append_shows _ rfl _ _ _ rfl w.heap.size 3 i0 (.int .i64 0) 1 8 Tryd.underlying37 hi hz0 hz1 hz2 rfl (by decide) _ _ _ rfl hown w.heap.size A1 n1 c1 (l1.map iv) rfl (Ints.below h1 hb) (iv_one _) ?d3 ?d4 ?d5 ?_)
          case d3 => have e1 := HL1.out; have e2 := HL2.out; unfold maxLen; (try simp only [List.length_nil]); omega
          case d4 => have e1 := HL1.out; have e2 := HL2.out; (try simp only [List.length_nil]); omega
          try (case d5 => omega)
          intro A5 c5 w5 hown5 _ hb5
          try rw [← List.map_append] at hown5
          go_wp2
          go_roundw
          case rel =>
            refine ⟨1, A5, c5, l1, Lib.hid (by simp), by omega, rfl, ?_, ?_, hb.trans hb5⟩
            · simp [HL1.out]
            · simpa [HL1.out] using hown5
          case measure => simp [intOf]
        · go_wp2_with (at_builtin; refine wpList_append_shows _ rfl _ _ _ rfl w.heap.size 3 i0 (.int .i64 0) 1 8 Tryd.underlying37 hi hz0 hz1 hz2 rfl (by decide) _ _ _ rfl hown w.heap.size A2 n2 c2 (l2.map iv) rfl (Ints.below h2 hb) (iv_one _) ?d3 ?d4 ?d5 ?_)
          case d3 => have e1 := HL1.out; have e2 := HL2.out; unfold maxLen; (try simp only [List.length_nil]); omega
          case d4 => have e1 := HL1.out; have e2 := HL2.out; (try simp only [List.length_nil]); omega
          try (case d5 => omega)
          intro A5 c5 w5 hown5 _ hb5
          rw [← List.map_append] at hown5
          go_wp2
          go_roundw
          case rel =>
            refine ⟨2, A5, c5, (l ++ l2), Lib.hid (by simp), by omega, rfl, ?_, ?_, hb.trans hb5⟩
            · simp [HL2.out]
            · simpa [HL2.out] using hown5
          case measure => simp [intOf]
        · go_wp2
          go_ret
          exact ⟨A', _, c', rfl, by simpa using hown, hb⟩
end Go.Proofs.YtialgpkighjffaaDoor
