import Derived.Test.YtkbcgcokokddlaaGaj
import Derived.LoopTactic
import Derived.Deep.DrawnRows
/-
  Layer 15: slices.Grow, slices.Concat at edits.
-/
namespace Go.Proofs.Ytkbcgcokokddlaa
open Go.RowKit
attribute [local go_sem ↓] Go.wp_at_zero Go.wp_at_succ
set_option linter.unusedVariables false
set_option linter.unusedSimpArgs false

/-- 'append(nil, make([]T, n)...)'. -/
theorem run_append_makeE {P : Program} (t tx ty e : TypeId) (i : TypeInfo) (z : Value) (kx : IntKind) (ht : P.underlying t = some (.slice e)) (htx : P.underlying tx = some (.int kx)) (hi : P.info? e = some i) (hz : i.zero = some z)
    (h1 : i.size = 5) (hb : i.bytes = 72) (n : Nat) (h0 : 0 < n) (hn : n ≤ 1000000) (w : World) :
    (Builtin.append_ #[t, tx] ty #[.slice none 0 0, .int .i64 (n : Int)]).run P w =
      .ok (.slice (some ⟨w.heap.size, 0, none⟩) n (grownCap w n 0 e)) (w.drew.alloc (.cells (Builtin.zeroCells z.cells n ++ Builtin.zeroCells z.cells (grownCap w n 0 e - n)) e)) := by
  have hw : IntKind.i64.wrap (n : Int) = (n : Int) := by rw [IntKind.wrap_i64]; omega
  have e1 : ¬ ((n : Int) < 0) := by omega
  have e2 : ¬ (281474976710656 < (72 : Int) * (n : Int)) := by omega
  have e3 : ¬ (n = 0) := by omega
  have e4 : ¬ (9223372036854775807 < (n : Int)) := by omega
  have e5 : Builtin.nextslicecap n 0 = n := by
    unfold Builtin.nextslicecap
    rw [if_pos (by omega)]
  have e6 : ¬ (281474976710656 < n * 72) := by omega
  have e7 : ¬ (281474976710656 < 72 * n) := by omega
  have e8 : ¬ (281474976710656 < (n : Int) * 72) := by omega
  simp [Builtin.append_, run_underlying ht, run_underlying htx, sizeOf, typeInfo, zeroValue, hi, hz, h1, hb, asInt, asIntOf, Builtin.firstCells, hw, e1, e2, e3, e4, e5, e6, e7, e8, Question.forced, newRow, grownCap]
  intro hx
  omega
theorem wpList_append_makeE {P : Program} {w : World} {ops : Array Oper} {rest : List Oper} {o : Oper} {a : Act} {Q : Exit → Act → World → Prop} (hgd : o.guard = none) (s x : Operand) (t tx : TypeId)
    (ho : o.op = .call { callee := .builtin .append, args := #[s, x], argTypes := #[t, tx] })
    (e : TypeId) (i : TypeInfo) (z : Value) (kx : IntKind) (ht : P.underlying t = some (.slice e)) (htx : P.underlying tx = some (.int kx)) (hi : P.info? e = some i) (hz : i.zero = some z) (hz1 : z.cells.size = 5)
    (h1 : i.size = 5) (hb : i.bytes = 72) (n : Nat) (h0 : 0 < n) (hn : n ≤ 1000000) (hs : a.eval s = .slice none 0 0) (hx : a.eval x = .int .i64 (n : Int))
    (h : ∀ c w', n ≤ c → c ≤ maxLen → w'.ownsRow w.heap.size e 5 (.slice (some ⟨w.heap.size, 0, none⟩) 0 c) 0 [] → Below w.heap.size w w' → wpList P ops Q rest (a.put o.dst (.slice (some ⟨w.heap.size, 0, none⟩) n c)) w') :
    wpList P ops Q (o :: rest) a w := by
  refine wpList_plain hgd fun K hK => ?_
  have hrun := run_append_makeE (P := P) t tx o.type e i z kx ht htx hi hz h1 hb n h0 hn w
  have hge := grownCap_ge w n 0 e
  have hle := grownCap_le_maxLen w n 0 e (by unfold maxLen; omega)
  unfold Oper.wp execOp
  simp only [ho, resolve, invoke, builtin, Sem.run_bind, Sem.run_pure, Result.andThen_ok, List.map_toArray, List.map_cons, List.map_nil, hs, hx, hrun]
  refine hK _ _ (h _ _ hge hle ?_ ((Below.refl _ _).drew.alloc (Nat.le_refl _) _))
  exact World.ownsRow_made w.drew _ _ (Nat.le_refl _) hle (by rw [Array.size_append, size_zeroCells, size_zeroCells, hz1]; omega)
set_option maxRecDepth 20000 in
set_option maxHeartbeats 1000000 in
theorem growE_any (n : Nat) (w : World) (hn : n ≤ 1000000) (h0 : 0 < n) :
    Calls Try.prog 46 #[.slice none 0 0, .int .i64 (n : Int)] w fun e w' => ∃ A c, e = .returned (.slice A 0 c) ∧ w'.ownsRow w.heap.size 49 5 (.slice A 0 c) 0 [] ∧ Below w.heap.size w w' := by
  obtain ⟨i0, hi, hz0, hz1, hz2⟩ := edit_info
  go_enter Try.func46, Try.ntmps46
  go_wp2_with (at_builtin; refine wpList_append_makeE rfl _ _ _ _ rfl 49 i0 (.agg #[.slice none 0 0, .bool false, .slice none 0 0, .bool false, .int .i64 0]) .i64 Try.underlying22 Try.underlying3 hi hz0 rfl hz1 hz2 n h0 hn rfl rfl ?_)
  intro c w1 hc hm hown hb
  have hc0 : (0 : Int) ≤ (c : Int) := by omega
  go_wp2
  go_ret
  exact ⟨_, c, rfl, hown, hb⟩
set_option maxRecDepth 20000 in
theorem growE_zero (w : World) :
    Calls Try.prog 46 #[.slice none 0 0, .int .i64 0] w fun e w' => e = .returned (.slice none 0 0) ∧ w = w' := by
  go_enter Try.func46, Try.ntmps46
  go_wp2
  go_ret
  exact ⟨rfl, rfl⟩
theorem growE_all (n : Nat) (w : World) (hn : n ≤ 1000000) :
    Calls Try.prog 46 #[.slice none 0 0, .int .i64 (n : Int)] w fun e w' => ∃ A c, e = .returned (.slice A 0 c) ∧ w'.ownsRow w.heap.size 49 5 (.slice A 0 c) 0 [] ∧ Below w.heap.size w w' := by
  rcases Nat.eq_zero_or_pos n with h | h
  · subst h
    refine (growE_zero w).mono ?_
    rintro e w' ⟨rfl, rfl⟩
    exact ⟨none, 0, rfl, World.ownsRow_nil _ _ _ _, Below.refl _ _⟩
  · exact growE_any n w hn h
/-- How many edits stand in the first rows. -/
def cntL (L : List EsT) : Nat := (L.map (·.n)).sum
theorem cntL_take {L : List EsT} {k : Nat} {X : EsT} (h : L[k]? = some X) : cntL (L.take (k + 1)) = cntL (L.take k) + X.n := by
  unfold cntL
  rw [List.take_add_one, h]
  simp
theorem cntL_le (L : List EsT) (M : Nat) (h : ∀ X ∈ L, X.n ≤ M) : cntL L ≤ L.length * M := by
  induction L with
  | nil => exact Nat.zero_le _
  | cons X L ih =>
    have h1 := ih (fun Y hY => h Y (List.mem_cons_of_mem _ hY))
    have h2 := h X List.mem_cons_self
    unfold cntL at *
    rw [List.map_cons, List.sum_cons, List.length_cons, Nat.add_mul]
    omega
set_option maxRecDepth 20000 in
set_option maxHeartbeats 2000000 in
theorem concatE_any (A : Option Addr) (m c B : Nat) (L : List EsT) (w : World) (hS : Shows w B 1 A m (L.map EsT.val)) (hL : ∀ X ∈ L, X.Lie w B) (hB : B ≤ w.heap.size) (hm : m ≤ 100) (h60 : ∀ X ∈ L, X.n ≤ 1000) :
    Calls Try.prog 27 #[.slice A m c] w (SoP (L.map EsT.s).flatten w) := by
  have hl : L.length = m := by have := hS.1; simpa using this
  have HS := Lib.hid hS
  have HL := Lib.hid hL
  have HB := Lib.hid hB
  have H60 := Lib.hid h60
  have HLn := Lib.hid hl
  have HC : Hid (∀ k, cntL (L.take k) ≤ 100000) := Lib.hid (fun k => by
    have h1 := cntL_le (L.take k) 1000 (fun X hX => h60 X (List.mem_of_mem_take hX))
    rw [List.length_take] at h1
    omega)
  clear hS hL hB h60 hl
  go_enter Try.func27, Try.ntmps27
  go_wp2_with fail
  go_loopw [3, 11] (fun z i wr => ∃ k : Nat, k ≤ m ∧ i = .int .i64 k ∧ z = .int .i64 ((cntL (L.take k) : Nat) : Int) ∧ w = wr) (fun _ i _ => m - (intOf i).toNat)
  case atStart => exact ⟨0, Nat.zero_le _, rfl, rfl, rfl⟩
  case round =>
    obtain ⟨k, hk, rfl, rfl, hwr⟩ := hrel
    subst hwr
    obtain ⟨q, hq⟩ : ∃ q, cntL (L.take k) = q := ⟨_, rfl⟩
    have hqm := HC.out k
    rw [hq] at hqm ⊢
    by_cases hlt : k < m
    · obtain ⟨b, off, X, hA, hbb, hX, x0⟩ := es_at HS.out hlt
      have HE : Hid (cntL (L.take (k + 1)) = q + X.n) := Lib.hid (by rw [cntL_take hX, hq])
      have hX6 := H60.out X (List.mem_of_getElem? hX)
      have hlt' : (k : Int) < (m : Int) := by omega
      have w1 : wrap64 ((q : Int) + (X.n : Int)) = ((q + X.n : Nat) : Int) := by unfold wrap64; omega
      have w2 : wrap64 ((k : Int) + 1) = ((k + 1 : Nat) : Int) := by unfold wrap64; omega
      have w4 : ¬ ((q : Int) + (X.n : Int) < 0) := by omega
      have w5 : ¬ (((q + X.n : Nat) : Int) < 0) := by omega
      have HLT := Lib.hid hlt
      subst hA
      clear hbb hX hX6 hq hk hlt
      go_wp2_with fail
      go_roundw
      case rel => exact ⟨k + 1, HLT.out, by first | rfl | go_num, by rw [HE.out]; first | rfl | go_num, by first | rfl | trivial⟩
      case measure => have := HLT.out; simp [intOf]; omega
    · have hkm : k = m := by omega
      subst hkm
      have hlt' : ¬ (k : Int) < (k : Int) := by omega
      obtain ⟨i0, hi, hz0, hz1, hz2⟩ := edit_info
      have hgrow := growE_all q w (by omega)
      clear hlt hk hq
      go_wp2_with fail
      refine hgrow.mono ?_
      rintro e w1 ⟨gA, gc, rfl, hown, hb⟩
      have HOn := Lib.hid hown
      clear hgrow hown
      go_wp2_with fail
      go_loopw [6, 27] (fun v i wr => ∃ (j : Nat) (Z : EsT), v = .slice Z.A Z.n Z.c ∧ i = .int .i64 j ∧ j ≤ k ∧ Z.n ≤ j * 1000 ∧ Hid (OwnE wr w.heap.size B Z) ∧ Hid (Z.s = ((L.take j).map EsT.s).flatten) ∧ Below w.heap.size w wr) (fun _ i _ => k - (intOf i).toNat)
      case atStart => exact ⟨0, ⟨gA, 0, gc, []⟩, rfl, rfl, Nat.zero_le _, Nat.le_refl _, Lib.hid ⟨HOn.out, nofun⟩, Lib.hid rfl, hb⟩
      case round =>
        clear hb
        obtain ⟨j, ⟨ZA, Zn, Zc, ZE⟩, rfl, rfl, hj, hZn, HO, HZ, hbr⟩ := hrel
        simp only at hZn ⊢
        by_cases hjk : j < k
        · obtain ⟨b, off, X, hA, hbb, hX, x0⟩ := es_at (HS.out.below (hbr.mono HB.out)) hjk
          have hXl := (HL.out X (List.mem_of_getElem? hX)).later (hbr.mono HB.out)
          have hX6 := H60.out X (List.mem_of_getElem? hX)
          have hjk' : (j : Int) < (k : Int) := by omega
          have w2 : wrap64 ((j : Int) + 1) = ((j + 1 : Nat) : Int) := by unfold wrap64; omega
          have hs1 := hXl.row
          have h1c := cells_ed1 X.E
          have hown := HO.out.row
          have g1 : Zn + X.n ≤ maxLen := by unfold maxLen; omega
          have g2 : (Zn + X.n) * 72 ≤ 140737488355328 := by omega
          have g3 := hbr.size
          have HXl := Lib.hid hXl
          have HJK := Lib.hid hjk
          have HN7 : Hid (Zn + X.n ≤ (j + 1) * 1000) := Lib.hid (by omega)
          have htk : L.take (j + 1) = L.take j ++ [X] := by rw [List.take_add_one, hX]; rfl
          have HTK := Lib.hid htk
          subst hA
          clear hbb hX hX6 hXl htk hj hjk
          go_wp2_with (at_builtin; refine wpList_append_shows _ rfl _ _ 22 rfl w.heap.size 49 i0 (.agg #[.slice none 0 0, .bool false, .slice none 0 0, .bool false, .int .i64 0]) 5 72 Try.underlying22 hi hz0 hz1 hz2 rfl (by decide) _ _ _ rfl hown B _ X.n _ _ rfl hs1 h1c g1 g2 g3 ?_; intro A5 c5 w5 hown5 hgrow5 hb5; have HO5 := Lib.hid hown5; have HB5 := Lib.hid hb5; clear hown5 hgrow5 hb5 hown hs1 g1 g2 g3 h1c)
          have HBB : Hid (Below B wr w5) := Lib.hid (HB5.out.mono HB.out)
          have HOZ : Hid (OwnE w5 w.heap.size B ⟨A5, Zn + X.n, c5, ZE ++ X.E⟩) := Lib.hid (by
            refine ⟨?_, fun y hy => ?_⟩
            · show w5.ownsRow _ _ 5 (.slice A5 (Zn + X.n) c5) (Zn + X.n) ((ZE ++ X.E).flatMap EdT.cells)
              rw [List.flatMap_append]
              exact HO5.out
            · rcases List.mem_append.1 hy with hy | hy
              · exact (HO.out.all y hy).later HBB.out
              · exact (HXl.out.all y hy).later HBB.out)
          have HZ7 : Hid (EsT.s ⟨A5, Zn + X.n, c5, ZE ++ X.E⟩ = ((L.take (j + 1)).map EsT.s).flatten) := Lib.hid (by
            rw [HTK.out, List.map_append, List.flatten_append, ← HZ.out]
            show (ZE ++ X.E).map EdT.s = _ ++ ([X.s] : List (List EdS)).flatten
            rw [List.flatten_cons, List.flatten_nil, List.append_nil, List.map_append]
            rfl)
          have hb6 := hbr.trans HB5.out
          go_roundw
          case rel => exact ⟨j + 1, ⟨A5, Zn + X.n, c5, ZE ++ X.E⟩, rfl, by first | rfl | go_num, HJK.out, HN7.out, HOZ, HZ7, hb6⟩
          case measure =>
            have h := HJK.out
            show k - ((j : Int) + 1).toNat < k - ((j : Nat) : Int).toNat
            rw [show ((j : Int) + 1).toNat = j + 1 from by rw [← Int.toNat_natCast (j + 1)]; rfl, Int.toNat_natCast]
            exact Nat.sub_lt_sub_left h (Nat.lt_succ_self j)
        · have hjm : j = k := by omega
          subst hjm
          have hjk' : ¬ (j : Int) < (j : Int) := by omega
          have HP : Hid (SoP (L.map EsT.s).flatten w (.returned (.slice ZA Zn Zc)) wr) := Lib.hid ⟨hbr, ⟨ZA, Zn, Zc, ZE⟩, rfl, by rw [HZ.out, List.take_of_length_le (Nat.le_of_eq HLn.out)], HO.out.lie (Nat.le_trans HB.out hbr.size)⟩
          clear hjk hj
          go_wp2
          go_ret
          exact HP.out
end Go.Proofs.Ytkbcgcokokddlaa
