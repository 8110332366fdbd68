import Derived.Test.YtlknmpnjhbdlhaaDoorGac
import Derived.Test.YtlknmpnjhbdlhaaDoorGao
/-
  append(b, make([]byte, m)...), as the program's text has it: so many noughts behind a row of one's own. No program in sight.
-/
namespace Go.Proofs.YtlknmpnjhbdlhaaDoor
open Go.RowKit
set_option linter.unusedVariables false

section
variable {P : Program} (w : World)
theorem zero_cells (m : Nat) : Builtin.zeroCells #[Value.int .u8 0] m = ⟨List.replicate m (Value.int .u8 0)⟩ := by
  apply Array.ext'
  simp only [Builtin.zeroCells]
  apply List.ext_getElem
  · simp
  · intro k h1 h2
    simp [Nat.mod_one]
theorem run_append_zeros (base : Nat) (t u ty e : TypeId) (i : TypeInfo) (ht : P.underlying t = some (.slice e)) (hu : P.underlying u = some (.int .i64)) (hi : P.info? e = some i) (hz : i.zero = some (.int .u8 0)) (hs : i.size = 1) (hby : i.bytes = 1)
    (A : Option Addr) (n c : Nat) (xs : List Value) (hown : w.ownsRow base e 1 (.slice A n c) n xs) (hn : 0 < n) (m : Nat) (hm : 0 < m) (hnm : n + m ≤ 1000000) (hbase : base ≤ w.heap.size) :
    ∃ A' c' w', (Builtin.append_ #[t, u] ty #[.slice A n c, .int .i64 (m : Nat)]).run P w = .ok (.slice A' (n + m) c') w' ∧ w'.ownsRow base e 1 (.slice A' (n + m) c') (n + m) (xs ++ List.replicate m (.int .u8 0)) ∧ w.grownBy w' (Value.slice A n c).ownBlock ∧ Below base w w' := by
  have hlen : (xs ++ List.replicate m (Value.int .u8 0)).length = (n + m) * 1 := by rw [List.length_append, hown.1, List.length_replicate]; omega
  have h63' : ¬ (9223372036854775807 < ((n : Int) + (m : Int))) := by omega
  have hml : ¬ ((m : Int) < 0) := by omega
  have hw : IntKind.i64.wrap (m : Int) = (m : Int) := by rw [IntKind.wrap_i64]; omega
  have hm48 : ¬ (281474976710656 < (m : Int)) := by omega
  have hm0 : ¬ m = 0 := by omega
  have h1 : ∀ v ∈ List.replicate m (Value.int .u8 0), v.oneCell' = true := fun v hv => by rw [(List.mem_replicate.1 hv).2]; rfl
  have hzc : (Value.int .u8 0).cells = #[Value.int .u8 0] := rfl
  have key : ∃ v' w', (Builtin.append_ #[t, u] ty #[.slice A n c, .int .i64 (m : Nat)]).run P w = .ok v' w' ∧ w'.ownsRow base e 1 v' (n + m) (xs ++ List.replicate m (.int .u8 0)) ∧ w.grownBy w' (Value.slice A n c).ownBlock := by
    obtain ⟨g, cap, hv, hbg, hlt⟩ := hown.form hn
    injection hv with e1 e2 e3
    subst e1
    rcases hown.2 with ⟨hx, _⟩ | ⟨g', cap', cur, hx, hbg', hg, hnc, hcm, hcs, htake⟩
    · cases hx
    · injection hx with f1 f2 f3
      injection f1 with f1
      injection f1 with f1
      subst f1
      subst f3
      by_cases hroom : n + m ≤ c
      · have hfit : n * 1 + (List.replicate m (Value.int .u8 0)).length ≤ cur.size := by rw [List.length_replicate, hcs]; omega
        have hst := run_storeCells_at P g (n * 1) e (List.replicate m (Value.int .u8 0)) 0 cur w hg (by simpa using hfit) h1
        simp only [Nat.add_zero] at hst
        have hr : (Builtin.append_ #[t, u] ty #[.slice (some ⟨g, 0, none⟩) n c, .int .i64 (m : Nat)]).run P w = .ok (.slice (some ⟨g, 0, none⟩) (n + m) c) (w.setRow g (cur.toList.take (n * 1) ++ List.replicate m (Value.int .u8 0) ++ cur.toList.drop (n * 1 + (List.replicate m (Value.int .u8 0)).length)).toArray) := by
          simp only [Nat.mul_one] at hst ⊢
          simp [Builtin.append_, run_underlying ht, run_underlying hu, sizeOf, typeInfo, zeroValue, hi, hz, hs, hby, asInt, asIntOf, hw, hml, hm48, hm0, hroom, Addr.add_lit, hzc, zero_cells, hst]
        refine ⟨_, _, hr, ⟨hlen, .inr ⟨g, c, _, rfl, hbg', setRow_heap w g cur _ e _ hg, hroom, hcm, ?_, ?_⟩⟩, ⟨rfl, rfl, rfl, by simp, fun k _ hk => setRow_other w g k _ (fun e => hk (by simp [Value.ownBlock, e]))⟩⟩
        · simp only [List.size_toArray, List.length_append, List.length_take, List.length_drop, Array.length_toList]
          omega
        · rw [htake, ← hlen]
          exact List.take_left
      · have holds : ∀ j v, xs[j]? = some v → w.cell? ((⟨g, 0, none⟩ : Addr).add j) = some v := hown.cells (g := g) rfl
        have hfo := run_firstCells_some (P := P) w.drew 1 n ⟨g, 0, none⟩ n c xs hown.1 (by simpa using holds)
        have h48' : ¬ (281474976710656 < Builtin.nextslicecap (n + m) c * 1) := by have := growslice_fits (need := n + m) (old := c) (bytes := 1) (by omega) (by omega); omega
        have hr : (Builtin.append_ #[t, u] ty #[.slice (some ⟨g, 0, none⟩) n c, .int .i64 (m : Nat)]).run P w = .ok (.slice (some ⟨w.heap.size, 0, none⟩) (n + m) (grownCap w (n + m) c e))
            (w.drew.alloc (.cells (xs.toArray ++ (List.replicate m (Value.int .u8 0)).toArray ++ Builtin.zeroCells #[Value.int .u8 0] (grownCap w (n + m) c e - (n + m))) e)) := by
          simp only [Nat.mul_one] at h48'
          simp [Builtin.append_, run_underlying ht, run_underlying hu, sizeOf, typeInfo, zeroValue, hi, hz, hs, hby, asInt, asIntOf, hw, hml, hm48, hm0, hroom, h63', h48', Question.forced, hfo, newRow, grownCap, hzc, zero_cells m]
        have hge := grownCap_ge w (n + m) c e
        have hcm' : grownCap w (n + m) c e ≤ maxLen := grownCap_le_maxLen w (n + m) c e (by unfold maxLen; omega)
        refine ⟨_, _, hr, ⟨hlen, .inr ⟨w.heap.size, _, _, rfl, hbase, heap_alloc_new w.drew _, hge, hcm', ?_, ?_⟩⟩, ⟨rfl, rfl, rfl, by simp, fun k hk _ => ((Below.refl w.drew.heap.size w.drew).alloc (Nat.le_refl _) _).block k hk⟩⟩
        · simp only [Array.size_append, List.size_toArray, size_zeroCells, hown.1, List.length_replicate]
          show n * 1 + m + _ * 1 = _
          omega
        · simp only [Array.toList_append, List.append_assoc]
          rw [← List.append_assoc, ← hlen]
          exact List.take_left
  obtain ⟨v', w', hrun, h2, h3⟩ := key
  obtain ⟨A', c', rfl, _, _⟩ := own_form h2
  exact ⟨A', c', w', hrun, h2, h3, (Below.refl base w).grown h3 hbase fun k hk => (hown.lt k hk).1⟩
theorem wpList_append_zeros {ops : Array Oper} {rest : List Oper} {o : Oper} {a : Act} {Q : Exit → Act → World → Prop} (hgd : o.guard = none) (s x : Operand) (t u : TypeId)
    (ho : o.op = .call { callee := .builtin .append, args := #[s, x], argTypes := #[t, u] })
    (base : Nat) (e : TypeId) (i : TypeInfo) (ht : P.underlying t = some (.slice e)) (hu : P.underlying u = some (.int .i64)) (hi : P.info? e = some i) (hz : i.zero = some (.int .u8 0)) (hs : i.size = 1) (hby : i.bytes = 1)
    (A : Option Addr) (n c : Nat) (xs : List Value) (hs0 : a.eval s = .slice A n c) (hown : w.ownsRow base e 1 (.slice A n c) n xs) (hn : 0 < n) (m : Nat) (hx : a.eval x = .int .i64 (m : Nat)) (hm : 0 < m) (hnm : n + m ≤ 1000000) (hbase : base ≤ w.heap.size)
    (h : ∀ A' c' w', w'.ownsRow base e 1 (.slice A' (n + m) c') (n + m) (xs ++ List.replicate m (.int .u8 0)) → Below base w w' → wpList P ops Q rest (a.put o.dst (.slice A' (n + m) c')) w') :
    wpList P ops Q (o :: rest) a w :=
  wpList_plain hgd fun _ hK => by
    obtain ⟨A', c', w', hrun, h2, h3, h4⟩ := run_append_zeros (P := P) w base t u o.type e i ht hu hi hz hs hby A n c xs hown hn m hm hnm hbase
    unfold Oper.wp execOp
    simp only [ho, resolve, invoke, builtin, Sem.run_bind, Sem.run_pure, Result.andThen_ok, List.map_toArray, List.map_cons, List.map_nil, hs0, hx, hrun]
    exact hK _ _ (h A' c' w' h2 h4)
end
end Go.Proofs.YtlknmpnjhbdlhaaDoor
/-
  Layer 12: the reference's Right, high and Block.
-/
namespace Go.Proofs.YtlknmpnjhbdlhaaDoor
open Go.RowKit
set_option linter.unusedVariables false

set_option maxRecDepth 20000 in
theorem refRightH_any (g : Nat) (a : Int) (w : World) :
    Calls Tryd.prog 10 #[.agg #[.int .u64 (g : Int), .int .i64 a]] w fun e w' => e = .returned (.bool (okH g a)) ∧ Below w.heap.size w w' := by
  have hb1 := bel_alloc (Below.refl w.heap.size w) (.cells #[.int .u64 (g : Int), .int .i64 a] 24)
  obtain ⟨s, hs⟩ : ∃ s, okH g a = s := ⟨_, rfl⟩
  have HS := Lib.hid hs
  rw [hs]
  clear hs
  by_cases h0 : g = 0
  · obtain rfl : s = false := by rw [← HS.out]; unfold okH; simp [h0]
    subst h0
    go_enter Tryd.func10, Tryd.ntmps10
    go_wp2
    go_ret
    exact ⟨rfl, hb1⟩
  · have h0' : (1 : Int) ≤ (g : Int) := by omega
    by_cases h1 : a < 0
    · obtain rfl : s = false := by rw [← HS.out]; unfold okH; simp; omega
      have h1' : ¬ (0 ≤ a) := by omega
      clear h0
      go_enter Tryd.func10, Tryd.ntmps10
      go_wp2
      go_ret
      exact ⟨rfl, hb1⟩
    · have h1' : 0 ≤ a := by omega
      by_cases h2 : a < 524288
      · obtain rfl : s = true := by rw [← HS.out]; exact okH_iff.2 ⟨by omega, h1', h2⟩
        clear h0
        go_enter Tryd.func10, Tryd.ntmps10
        go_wp2
        go_ret
        exact ⟨rfl, hb1⟩
      · obtain rfl : s = false := by rw [← HS.out]; unfold okH; simp; omega
        clear h0
        go_enter Tryd.func10, Tryd.ntmps10
        go_wp2
        go_ret
        exact ⟨rfl, hb1⟩
theorem set_zeros (q : Nat) (x : UInt8) (T : List UInt8) : (List.replicate (q + 1) 0 ++ T).set q x = List.replicate q 0 ++ x :: T := by
  rw [List.replicate_succ', List.append_assoc, List.set_append_right _ _ (by simp), List.length_replicate, Nat.sub_self]
  rfl
set_option maxRecDepth 20000 in
set_option maxHeartbeats 2000000 in
theorem high_any (x n : Nat) (w : World) (hx : x < 18446744073709551616) (hn : 1 ≤ n ∧ n ≤ 8) :
    Calls Tryd.prog 31 #[.int .u64 (x : Int), .int .i64 (n : Nat)] w (GivesBytes 5 (Hdr.hiL x n) w) := by
  obtain ⟨i0, hi, hz0, hz1, hz2⟩ := u8_info
  have hmk := fun W => run_make_one (P := Tryd.prog) Tryd.underlying34 hi hz0 rfl hz1 .i64 .i64 (n : Int) (n : Int) (by omega) (by omega) (by rw [hz2]; omega) (by omega) W
  rw [Int.toNat_natCast] at hmk
  have ho := own_zeros (base := w.heap.size) (e := 5) w (.int .u8 0) n n (Nat.le_refl _) (Nat.le_refl _) (by unfold maxLen; omega)
  have hb1 := bel_alloc (Below.refl w.heap.size w) (.cells (madeCells #[.int .u8 0] n) 5)
  go_enter Tryd.func31, Tryd.ntmps31
  go_wp2
  generalize w.alloc (.cells (madeCells #[.int .u8 0] n) 5) = W1 at *
  obtain ⟨g, hg⟩ : ∃ g, w.heap.size = g := ⟨_, rfl⟩
  rw [hg] at ho ⊢
  have hgw : w.heap.size ≤ g := by omega
  have HO := Lib.hid (show W1.ownsRow w.heap.size 5 1 (.slice (some ⟨g, 0, none⟩) n n) n ((List.replicate (n - 0) (0 : UInt8) ++ []).map bv) by
    rw [hg, List.append_nil, Nat.sub_zero, ← zeros_bv]
    exact ho)
  clear hmk ho hg
  go_loopw [0, 6] (fun xv iv wr => ∃ (j X : Nat) (z : Int) (T : List UInt8), j ≤ n ∧ xv = .int .u64 (X : Nat) ∧ iv = .int .i64 z ∧ Hid (z = (n : Int) - 1 - (j : Int)) ∧ Hid (Hdr.hiL X (n - j) ++ T = Hdr.hiL x n) ∧ X < 18446744073709551616 ∧ Hid (T.length = j) ∧ Hid (wr.ownsRow w.heap.size 5 1 (.slice (some ⟨g, 0, none⟩) n n) n ((List.replicate (n - j) 0 ++ T).map bv)) ∧ Below w.heap.size w wr) (fun _ iv _ => (intOf iv + 1).toNat)
  case atStart => exact ⟨0, x, (n : Int) - 1, [], by omega, rfl, rfl, Lib.hid (by omega), Lib.hid (by rw [List.append_nil, Nat.sub_zero]), hx, Lib.hid rfl, HO, hb1⟩
  case round =>
    clear HO hb1 hx
    obtain ⟨j, X, z, T, hj, rfl, rfl, HZ, HH, hX, HT, HO, hb⟩ := hrel
    by_cases hlt : j < n
    · obtain ⟨q, rfl⟩ : ∃ q : Nat, z = (q : Int) := ⟨z.toNat, by have := HZ.out; omega⟩
      have hqn : q < n := by have := HZ.out; omega
      have hq1 : n - j = q + 1 := by have := HZ.out; omega
      have ho2 := HO.out
      rw [hq1] at ho2
      obtain ⟨b', off, e', hb', hc⟩ := (Shows.own ho2).2 (by omega)
      injection e' with e'
      injection e' with e1 e2
      subst e1 e2
      have hcell : ∃ u, wr.cell? ⟨g, q, none⟩ = some u := by
        have := hc q ((List.replicate (q + 1) (0 : UInt8) ++ T).map bv)[q]! (by
          rw [List.getElem!_eq_getElem?_getD, List.getElem?_eq_getElem (by simp; omega)]
          rfl)
        rw [Nat.zero_add] at this
        exact ⟨_, this⟩
      obtain ⟨u, hu⟩ := hcell
      have hf := World.ownsRow.frozenAt ho2 q
      have hst := (World.ownsRow.stored ho2 q (bv (UInt8.ofNat X))).1
      rw [← List.map_set, set_zeros] at hst
      have HST := Lib.hid hst
      have hbv := u8_nat X
      have HBV := Lib.hid hbv
      have HH2 := Lib.hid (show Hdr.hiL (X / 256) q ++ UInt8.ofNat X :: T = Hdr.hiL x n by
        rw [← HH.out, hq1, Hdr.hiL, List.append_assoc]
        rfl)
      have hX2 : X / 256 < 18446744073709551616 := by omega
      have hj1 : n - (j + 1) = q := by omega
      have HJ := Lib.hid hj1
      clear hst ho2 hc hb' HO HH hbv hq1 hj1
      go_wp2
      go_roundw
      case rel =>
        refine ⟨j + 1, X / 256, (q : Int) - 1, UInt8.ofNat X :: T, by omega, by first | rfl | (congr 1; omega), by first | rfl | go_num, Lib.hid (by have := HZ.out; omega), Lib.hid (by rw [HJ.out]; exact HH2.out), hX2, Lib.hid (by rw [List.length_cons, HT.out]), Lib.hid ?_, ?_⟩
        · rw [HJ.out, ← HBV.out]
          exact HST.out
        · rw [← HBV.out]
          exact hb.setCell hgw _
      case measure => simp [intOf]
    · have hjn : j = n := by omega
      have HF := Lib.hid (show T = Hdr.hiL x n by rw [← HH.out, hjn, Nat.sub_self]; rfl)
      have HO2 := Lib.hid (show wr.ownsRow w.heap.size 5 1 (.slice (some ⟨g, 0, none⟩) n n) n (T.map bv) by
        have h := HO.out
        rw [hjn, Nat.sub_self] at h
        exact h)
      have hz : ¬ (0 ≤ z) := by have := HZ.out; omega
      clear hjn HO HH
      go_wp2
      go_ret
      exact ⟨_, n, n, rfl, by rw [← HF.out]; exact HO2.out, hb⟩
theorem HBox.below {w w' : World} {h g B : Nat} {a : Int} (hb : HBox w h g a) (hh : h < B) (hl : Below B w w') : HBox w' h g a := (hl.block h hh).trans hb
theorem pre_app (g a : Nat) : ([1] ++ Hdr.hiL g 8 ++ Hdr.hiL a 4).map bv ++ List.replicate 46 (Value.int .u8 0) = (Hdr.preL g a).map bv := by
  unfold Hdr.preL
  rw [List.map_append (l₁ := [1] ++ Hdr.hiL g 8 ++ Hdr.hiL a 4), zeros_bv]
/-- A whole array is loaded out of a row. -/
theorem wpList_loadRow {P : Program} {w : World} {t : TypeId} {l : List UInt8} {ops : Array Oper} {rest : List Oper} {o : Oper} {a : Act} {Q : Exit → Act → World → Prop} (hgd : o.guard = none) (x : Operand) (ho : o.op = .load t x) {b off B k : Nat} (hx : a.eval x = .pointer (some ⟨b, off, none⟩)) (hl : Bytes w B (some ⟨b, off, none⟩) k l) (hk : 0 < k)
    {n : Nat} {e : TypeId} (hu : P.underlying t = some (.array n e)) (hi : (P.info? t).map (·.size) = some l.length) (h : wpList P ops Q rest (a.put o.dst (arrV l)) w) : wpList P ops Q (o :: rest) a w := by
  obtain ⟨b', off', e', _, hc⟩ := hl.2 hk
  injection e' with e'
  injection e' with e1 e2
  subst e1 e2
  exact wpList_load_mid hgd t x ho b off hx (l.map bv) _ hc hu rfl (by rw [List.length_map]; exact hi) h
set_option maxRecDepth 20000 in
set_option maxHeartbeats 4000000 in
theorem refBlockH_any (g a : Nat) (w : World) (hg : g < 18446744073709551616) (ha : a < 524288) :
    Calls Tryd.prog 12 #[.agg #[.int .u64 (g : Int), .int .i64 (a : Nat)]] w fun e w' => e = .returned (arrV (Hdr.blockL g a)) ∧ Below w.heap.size w w' := by
  obtain ⟨i0, hi, hz0, hz1, hz2⟩ := u8_info
  have hwa : IntKind.u64.wrap (a : Int) = (a : Int) := by
    have : IntKind.u64.wrap (a : Int) = (a : Int) % 18446744073709551616 := by simp [IntKind.wrap, IntKind.bits, IntKind.signed]
    rw [this]; omega
  have HHI := Lib.hid (fun x (n : Nat) W hx hn => high_any x n W hx hn)
  go_enter Tryd.func12, Tryd.ntmps12
  go_upto_region 1 with fail
  rw [lit64]
  obtain ⟨W1, hW1⟩ : ∃ W1, (w.alloc (.cells #[.int .u64 (g : Int), .int .i64 (a : Nat)] 24)).alloc (.cells ⟨z64.map bv⟩ 25) = W1 := ⟨_, rfl⟩
  have hs1 : W1.heap.size = w.heap.size + 1 + 1 := by rw [← hW1]; simp
  have hb1 : Below w.heap.size w W1 := by rw [← hW1]; exact bel_alloc (bel_alloc (Below.refl _ _) _) _
  have hh1 : HBox W1 w.heap.size g (a : Nat) := by
    rw [← hW1]
    exact (show HBox _ _ g (a : Nat) from heap_alloc_new w _).later (bel_alloc (Below.refl _ _) _)
  have hR1 : Arr W1 (w.heap.size + 1) 25 z64 := by
    have h := Arr.new (w.alloc (.cells #[.int .u64 (g : Int), .int .i64 (a : Nat)] 24)) 25 z64
    rw [World.size_alloc] at h
    rw [← hW1]
    exact h
  rw [hW1]
  clear hW1
  have hba := bel_alloc (Below.refl W1.heap.size W1) (.cells #[.int .u8 1] 5)
  have hb2 := bel_next hb1 hba
  have hh2 := hh1.later hba
  have hr2 := hR1.later hba
  have x0 := hh2.c0
  have hown1 : (W1.alloc (.cells #[.int .u8 1] 5)).ownsRow W1.heap.size 5 1 (.slice (some ⟨W1.heap.size, 0, none⟩) 1 1) 1 (([1] : List UInt8).map bv) := World.ownsRow_lit (size := 1) W1 #[.int .u8 1] 1 (Nat.le_refl _) (by unfold maxLen; omega) rfl
  have hB2 : W1.heap.size ≤ (W1.alloc (.cells #[.int .u8 1] 5)).heap.size := hba.size
  go_wp2_with fail
  rw [hs1] at hown1 hB2
  generalize W1.alloc (.cells #[.int .u8 1] 5) = W2 at *
  clear hba hb1 hh1 hR1 hs1
  obtain ⟨B, hB⟩ : ∃ B, w.heap.size + 1 + 1 = B := ⟨_, rfl⟩
  rw [hB] at hown1 hB2 ⊢
  have hwB : w.heap.size + 1 < B := by omega
  refine (HHI.out g 8 _ hg (by omega)).mono ?_
  rintro e W3 ⟨A3, n3, c3, rfl, hown3, hb3⟩
  have hl3 : n3 = 8 := by have h := hown3.1; rw [List.length_map, Hdr.hi_len] at h; omega
  subst hl3
  have own1 := own_later hown1 hb3
  have hs3 := Nat.le_trans hB2 hb3.size
  have hh3 := hh2.later hb3
  have hr3 := hr2.later hb3
  have hb4 := bel_next hb2 hb3
  have hbs3 := Bytes.own hown3
  clear x0 hown1 hown3 hB hb2 hb3 hh2 hr2 hB2
  go_upto_region 2 with (at_builtin; refine wpList_append_shows _ rfl (.tmp 4) (.tmp 7) 34 rfl B 5 i0 (.int .u8 0) 1 1 Tryd.underlying34 hi hz0 hz1 hz2 rfl (by decide) _ 1 _ rfl own1 W3.heap.size A3 8 c3 ((Hdr.hiL g 8).map bv) rfl hbs3 (bv_one _) (by unfold maxLen; omega) (by omega) hs3 ?_; intro A4 c4 W4 own4 hgr4 hb5)
  have hh4 := hh3.below (by omega) hb5
  have hr4 : Arr W4 (w.heap.size + 1) 25 z64 := hr3.below (by omega) hb5
  have hs4 := Nat.le_trans hs3 hb5.size
  have hb6 := hb4.trans (hb5.mono (by omega))
  have y1 := hh4.c1
  rw [← List.map_append] at own4
  clear own1 hgr4 hb5 hbs3 hh3 hr3 hs3 hb4
  go_wp2_with fail
  refine (HHI.out a 4 _ (by omega) (by omega)).mono ?_
  rintro e W5 ⟨A5, n5, c5, rfl, hown5, hb7⟩
  have hl5 : n5 = 4 := by have h := hown5.1; rw [List.length_map, Hdr.hi_len] at h; omega
  subst hl5
  have own4' := own_later own4 hb7
  have hs5 := Nat.le_trans hs4 hb7.size
  have hr5 := hr4.later hb7
  have hb8 := bel_next hb6 hb7
  have hbs5 := Bytes.own hown5
  clear y1 own4 hown5 hb6 hb7 hh4 hr4 hs4
  go_upto_region 3 with (at_builtin; refine wpList_append_shows _ rfl (.tmp 9) (.tmp 13) 34 rfl B 5 i0 (.int .u8 0) 1 1 Tryd.underlying34 hi hz0 hz1 hz2 rfl (by decide) _ _ _ rfl own4' W5.heap.size A5 4 c5 ((Hdr.hiL a 4).map bv) rfl hbs5 (bv_one _) (by unfold maxLen; omega) (by omega) hs5 ?_; intro A6 c6 W6 own6 hgr6 hb9)
  have hr6 : Arr W6 (w.heap.size + 1) 25 z64 := hr5.below (by omega) hb9
  have hs6 := Nat.le_trans hs5 hb9.size
  have hb10 := hb8.trans (hb9.mono (by omega))
  rw [← List.map_append] at own6
  clear own4' hgr6 hb9 hbs5 hr5 hs5 hb8
  go_upto_region 4 with (at_builtin; refine wpList_append_zeros _ rfl (.tmp 15) (.const (.int .i64 46)) 34 3 rfl B 5 i0 Tryd.underlying34 Tryd.underlying3 hi hz0 hz1 hz2 A6 13 c6 _ rfl own6 (by omega) 46 rfl (by omega) (by omega) hs6 ?_; intro A7 c7 W7 own7 hb11)
  have hr7 : Arr W7 (w.heap.size + 1) 25 z64 := hr6.below (by omega) hb11
  have hs7 := Nat.le_trans hs6 hb11.size
  have hb12 := hb10.trans (hb11.mono (by omega))
  rw [pre_app] at own7
  have hbs7 := Bytes.own own7
  have hmo := refmore_any A7 59 c7 W7.heap.size (Hdr.preL g a) 0 W7 hbs7 (by omega) (by unfold maxLen; omega)
  have hlt7 := Crc.more_lt 0 (Hdr.preL g a)
  obtain ⟨s, hs⟩ : ∃ s, Crc.more 0 (Hdr.preL g a) = s := ⟨_, rfl⟩
  have HS := Lib.hid hs
  rw [hs] at hmo hlt7
  clear hs hr6 hs6 hb10 hb11 own6 HHI hwa
  go_wp2_with fail
  refine hmo.mono ?_
  rintro e w8 ⟨rfl, rfl⟩
  clear hmo
  go_wp2_with fail
  refine (laid_any s W7 hlt7).mono ?_
  rintro e W9 ⟨A9, n9, c9, rfl, hown9, hb13⟩
  have hl9 : n9 = 4 := by have h := hown9.1; rw [List.length_map] at h; unfold Crc.laid at h; simp at h; omega
  subst hl9
  have own7' := own_later own7 hb13
  have hs9 := Nat.le_trans hs7 hb13.size
  have hr9 := hr7.later hb13
  have hb14 := bel_next hb12 hb13
  have hbs9 := Bytes.own hown9
  clear own7 hown9 hb12 hb13 hr7 hs7 hbs7
  go_upto_region 5 with (at_builtin; refine wpList_append_shows _ rfl (.tmp 17) (.tmp 20) 34 rfl B 5 i0 (.int .u8 0) 1 1 Tryd.underlying34 hi hz0 hz1 hz2 rfl (by decide) _ _ _ rfl own7' W9.heap.size A9 4 c9 ((Crc.laid s).map bv) rfl hbs9 (bv_one _) (by unfold maxLen; omega) (by omega) hs9 ?_; intro A10 c10 W10 own10 hgr10 hb15)
  have hr10 : Arr W10 (w.heap.size + 1) 25 z64 := hr9.below (by omega) hb15
  have hs10 := Nat.le_trans hs9 hb15.size
  have hb16 := hb14.trans (hb15.mono (by omega))
  rw [← List.map_append] at own10
  have hba := bel_alloc (Below.refl W10.heap.size W10) (.cells #[.int .u8 165] 5)
  have own10' := own10.alloc (.cells #[.int .u8 165] 5)
  have hr11 := hr10.later hba
  have hs11 := Nat.le_trans hs10 hba.size
  have hb17 := bel_next hb16 hba
  have hnew := bytes_new W10 [165] #[.int .u8 165] 5 (0, 0) rfl
  have HBE := Lib.hid (show Hdr.preL g a ++ Crc.laid s ++ [165] = Hdr.blockL g a by unfold Hdr.blockL; rw [HS.out])
  clear own7' hgr10 hb15 hbs9 hr9 hs9 hb14 own10 hr10 hs10 hb16 hba
  have hbl := Hdr.block_len g a
  go_wp2_with (first
    | (at_builtin; refine wpList_append_shows _ rfl (.tmp 22) (.tmp 23) 34 rfl B 5 i0 (.int .u8 0) 1 1 Tryd.underlying34 hi hz0 hz1 hz2 rfl (by decide) _ _ _ rfl own10' (W10.heap.size + 1) _ 1 1 (([165] : List UInt8).map bv) rfl hnew (bv_one _) (by unfold maxLen; omega) (by omega) hs11 ?_; intro A12 c12 W12 own12 hgr12 hb18; obtain ⟨gA, rfl⟩ := own_some own12 (by omega); rw [← List.map_append, HBE.out] at own12; have hbs12 := Bytes.own own12; have harr := run_arrayAt (P := Tryd.prog) (w := W12) 25 5 64 (some ⟨gA, 0, none⟩) 64 c12 Tryd.underlying25 (Nat.le_refl _); have hr12 : Arr W12 (w.heap.size + 1) 25 z64 := hr11.below (by omega) hb18; have hb19 := hb17.trans (hb18.mono (by omega)))
    | (with_reducible refine wpList_loadRow rfl (.tmp 25) rfl rfl hbs12 (by omega) Tryd.underlying25 (info64 hbl) ?_)
    | (with_reducible refine wpList_storeArr rfl (.tmp 2) (.tmp 26) rfl rfl rfl hr12 (info64 z64_len) (hbl.trans z64_len.symm) ?_; intro w13 ha13 ho13))
  refine bodyPost_ret (results64 rfl _ _ (w.heap.size + 1) _ hbl rfl ha13) rfl ⟨rfl, hb19.trans (ho13.below _ (by omega))⟩
end Go.Proofs.YtlknmpnjhbdlhaaDoor
/-
  Layer 12: the reference's Laid.
-/
namespace Go.Proofs.YtlknmpnjhbdlhaaDoor
open Go.RowKit
set_option linter.unusedVariables false

def lenW : Value → Nat
  | .slice _ n _ => n
  | _ => 0
set_option maxRecDepth 20000 in
set_option maxHeartbeats 4000000 in
theorem refLaidH_any (n g a : Nat) (w : World) (hn : n ≤ 1048576) (hg : g < 18446744073709551616) (ha : a < 524288) :
    Calls Tryd.prog 20 #[.int .i64 (n : Nat), .agg #[.int .u64 (g : Int), .int .i64 (a : Nat)]] w fun e w' => ∃ p : PcT, e = .returned p.val ∧ p.l = Hdr.headL n g a ∧ p.Ok w' w'.heap.size ∧ Below w.heap.size w w' := by
  obtain ⟨i0, hi, hz0, hz1, hz2⟩ := u8_info
  obtain ⟨pad, hp⟩ : ∃ pad, Hdr.gapN n = pad := ⟨_, rfl⟩
  have hp1 : pad ≤ 63 ∧ (n + pad) % 64 = 0 ∧ ∀ m, m < pad → (n + m) % 64 ≠ 0 := by
    rw [← hp]
    unfold Hdr.gapN
    exact ⟨by omega, by omega, fun m hm => by omega⟩
  have HP1 := Lib.hid hp1
  have HPG := Lib.hid hp
  have hpb : pad ≤ 63 := hp1.1
  have HBK := Lib.hid (fun W => refBlockH_any g a W hg ha)
  clear hp hp1 hg ha
  go_enter Tryd.func20, Tryd.ntmps20
  go_wp2_with fail
  have hh1 : HBox (w.alloc (.cells #[.int .u64 (g : Int), .int .i64 (a : Nat)] 24)) w.heap.size g (a : Nat) := heap_alloc_new w _
  have hb1 := bel_alloc (Below.refl w.heap.size w) (.cells #[.int .u64 (g : Int), .int .i64 (a : Nat)] 24)
  have hs1 : (w.alloc (.cells #[.int .u64 (g : Int), .int .i64 (a : Nat)] 24)).heap.size = w.heap.size + 1 := World.size_alloc _ _
  generalize w.alloc (.cells #[.int .u64 (g : Int), .int .i64 (a : Nat)] 24) = W1 at *
  have HH1 := Lib.hid hh1
  have HB1 := Lib.hid hb1
  have HS1 := Lib.hid hs1
  clear hh1 hb1 hs1
  go_loopw [5] (fun ov wr => ∃ (m : Nat) (A : Option Addr) (c : Nat), m ≤ pad ∧ ov = .slice A m c ∧ Hid (wr.ownsRow W1.heap.size 5 1 (.slice A m c) m ((List.replicate m 0).map bv)) ∧ Below W1.heap.size W1 wr) (fun ov _ => pad - lenW ov)
  case atStart => exact ⟨0, none, 0, Nat.zero_le _, rfl, Lib.hid (World.ownsRow_nil W1 W1.heap.size 5 1), Below.refl _ _⟩
  case round =>
    obtain ⟨m, A, c, hm, rfl, HO, hbr⟩ := hrel
    rename World => wr
    by_cases hlt : m < pad
    · have hne := HP1.out.2.2 m hlt
      have h64b : (((n : Int) + (m : Int)) % 64 != 0) = true := by rw [bne_iff_ne]; omega
      have h64c : ¬ ((n : Int) + (m : Int)) % 64 = 0 := by omega
      clear hne
      have hba7 := bel_alloc (Below.refl wr.heap.size wr) (.cells #[.int .u8 0] 5)
      have n17 := own_later HO.out hba7
      have s17 := shows_new' wr #[.int .u8 0] 5 1 1 rfl
      have z17 : W1.heap.size ≤ (wr.alloc (.cells #[.int .u8 0] 5)).heap.size := Nat.le_trans hbr.size hba7.size
      have hX7 := hbr.trans (hba7.mono hbr.size)
      have g17 : m + 1 ≤ maxLen := by unfold maxLen; omega
      have g27 : (m + 1) * 1 ≤ 140737488355328 := by omega
      clear hba7
      go_wp2_with (at_builtin; refine wpList_append_shows _ rfl _ _ 34 rfl W1.heap.size 5 i0 (.int .u8 0) 1 1 Tryd.underlying34 hi hz0 hz1 hz2 rfl (by decide) _ _ _ rfl n17 _ _ 1 _ _ rfl s17 (by intro x hx; rw [List.mem_singleton.1 hx]; rfl) g17 g27 z17 ?_; intro A7 c7 w7 hown7 hgrow7 hb7; have HO7 := Lib.hid hown7; have hY7 := hX7.trans hb7; clear hown7 hgrow7 n17 s17 z17 hb7 hX7)
      go_roundw
      case rel => exact ⟨m + 1, A7, c7, by omega, rfl, Lib.hid (by rw [List.replicate_succ', List.map_append]; exact HO7.out), hY7⟩
      case measure => simp [lenW]; omega
    · have hmp : m = pad := by omega
      subst m
      have hmm := HP1.out.2.1
      have h64b : (((n : Int) + (pad : Int)) % 64 != 0) = false := by rw [bne_eq_false_iff_eq]; omega
      clear hmm
      have hh2 := HH1.out.later hbr
      have x0 := hh2.c0
      have x1 := hh2.c1
      have hb2 := bel_next HB1.out hbr
      clear hlt hm HH1
      have hbl := Hdr.block_len g a
      go_upto_region 5 with (first
        | (go_at_call 12; refine (HBK.out wr).mono ?_; rintro e w3 ⟨rfl, hb3⟩; have hA3 := arr_lit w3)
        | (with_reducible refine wpList_storeArr rfl (.tmp 6) (.tmp 17) rfl rfl rfl hA3 (info64 z64_len) (hbl.trans z64_len.symm) ?_; intro W4 ha4 ho4))
      (try simp only [Act.put])
      have hb5 : Below wr.heap.size wr W4 := (bel_alloc hb3 _).trans (ho4.below _ hb3.size)
      have hb6 := bel_next hb2 hb5
      have own4 := own_later HO.out hb5
      obtain ⟨gb, hgb⟩ : ∃ gb, w3.heap.size = gb := ⟨_, rfl⟩
      rw [hgb] at ha4 ⊢
      have hbs4 := ha4.bytes ha4.lt
      rw [hbl] at hbs4
      have hs4 : W1.heap.size ≤ W4.heap.size := Nat.le_trans hbr.size hb5.size
      have HBE := Lib.hid (show List.replicate pad 0 ++ Hdr.blockL g a = Hdr.headL n g a by unfold Hdr.headL; rw [HPG.out])
      clear hb2 hb3 hb5 hA3 ho4 x0 x1 hh2 hgb
      go_wp2_with (at_builtin; (refine wpList_append_shows _ rfl (.tmp 18) (.tmp 19) 34 rfl W1.heap.size 5 i0 (.int .u8 0) 1 1 Tryd.underlying34 hi hz0 hz1 hz2 rfl (by decide) _ _ _ rfl own4 W4.heap.size _ 64 64 ((Hdr.blockL g a).map bv) rfl hbs4 (bv_one _) (by unfold maxLen; omega) (by omega) hs4 ?_); intro A5 c5 W5 own5 hgr5 hb7; have hb8 := hb6.trans (hb7.mono HB1.out.size); rw [← List.map_append, HBE.out] at own5; obtain ⟨r1, r2, r3⟩ := own_facts own5)
      go_ret
      exact ⟨⟨A5, _, c5, Hdr.headL n g a⟩, rfl, rfl, ⟨Bytes.own own5, r1, r2, r3⟩, hb8⟩
end Go.Proofs.YtlknmpnjhbdlhaaDoor
