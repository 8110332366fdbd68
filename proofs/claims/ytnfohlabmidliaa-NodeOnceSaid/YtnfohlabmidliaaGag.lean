import Derived.Test.YtnfohlabmidliaaGaf
import Derived.Handy
/-
  put.
-/
namespace Go.Proofs.Ytnfohlabmidliaa
open Go.RowKit
set_option linter.unusedVariables false
set_option linter.unusedSimpArgs false

/-- A number as 64 bits without a sign. -/
def u64n (z : Int) : Nat := (z % 18446744073709551616).toNat
theorem u64n_lt (z : Int) : u64n z < 18446744073709551616 := by unfold u64n; omega
theorem u64n_wrap (z : Int) : IntKind.u64.wrap z = (u64n z : Int) := by
  rw [IntKind.wrap_u64]
  unfold u64n
  omega
theorem u64n_nat (x : Nat) (h : x < 18446744073709551616) : u64n (x : Int) = x := by unfold u64n; omega
/-- An entry's bytes. -/
def putIL (k v : List UInt8) (b : Bool) (n : Int) : List UInt8 := (UInt8.ofNat k.length :: k) ++ ((UInt8.ofNat v.length :: v) ++ [((if b then 1 else 0 : Nat), 1), (u64n n, 8)].flatMap nnL)
def putKL (k : List UInt8) (a c i hi lo l m : Int) : List UInt8 := (UInt8.ofNat k.length :: k) ++ ([(u64n a, 4), (u64n c, 4), (u64n i, 4)].flatMap nnL ++ [(u64n hi, 8), (u64n lo, 8), (u64n l, 8), (u64n m, 8)].flatMap nnL)
def ItT.put (x : ItT) : List UInt8 := putIL x.k.l x.v.l x.b x.n
def KiT.put (x : KiT) : List UInt8 := putKL x.k.l x.a x.r.c x.r.i (hiI x.r.v) (loI x.r.v) x.r.l x.r.m
def EnT.put : EnT → List UInt8
  | .it x => x.put
  | .ki x => x.put
section
variable {P : Program} {w w' : World} {o : Oper} {a : Act} {K : Act → World → Prop} {Q : Exit → Act → World → Prop}
/-- '[]T{..}', its block. -/
theorem step_rowsB (t e : TypeId) (k : Nat) (xs : Array (Nat × Operand)) (ho : o.op = .buildSlice t k xs) (size : Nat) (i : TypeInfo) (z : Value) (ht : P.underlying t = some (.slice e)) (hi : P.info? e = some i) (hz : i.zero = some z) (hsize : i.size = size)
    (cells : Array Value) (hf : Instr.fill (fun q => some (q * size, size)) ((Array.range (k * size)).map (z.cells[· % z.cells.size]!)) (xs.toList.map fun p => (p.1, a.eval p.2)) = some cells) (h0 : ¬ k * size = 0) (h24 : ¬ k * size > 2 ^ 24)
    (h : ∀ g w', w.heap.size ≤ g → w'.heap[g]? = some (.cells cells e (0, 0)) → Below w.heap.size w w' → K (a.put o.dst (.slice (some ⟨g, 0, none⟩) k k)) w') : o.wp P a w K Q := by
  refine wp_buildSlice t e k xs ho cells i z ht hi hz (by rw [hsize]; exact h24) (by rw [hsize]; exact h0) (by rw [hsize]; simpa using hf) ?_
  exact h w.heap.size (w.alloc (.cells cells e)) (Nat.le_refl _) (heap_alloc_new _ _) ((Below.refl _ _).alloc (Nat.le_refl _) _)
end
set_option maxRecDepth 20000 in
theorem num_info : ∃ i, Try.prog.info? 96 = some i ∧ i.zero = some (.agg #[.int .u64 0, .int .i64 0]) ∧ i.size = 2 := ⟨Try.t96, by kernel_rfl, by kernel_rfl, by kernel_rfl⟩
theorem put_lens {base n : Nat} {e : TypeId} {A : Option Addr} {c : Nat} {l : List UInt8} {W : World} (h : W.ownsRow base e 1 (.slice A n c) n (l.map bv)) : n = l.length := by have := h.1; simpa using this.symm
theorem nn_len (ns : List (Nat × Nat)) : (ns.flatMap nnL).length = (ns.map (·.2)).sum := by
  induction ns with
  | nil => rfl
  | cons p ns ih => rw [List.flatMap_cons, List.length_append, ih, List.map_cons, List.sum_cons]; unfold nnL; rw [Nod.hi_len]
theorem box_it {W : World} {g : Nat} {kA vA : Option Addr} {kn kc vn vc : Nat} {b : Bool} {n : Int} {t : TypeId} (h : W.heap[g]? = some (.cells #[.slice kA kn kc, .slice vA vn vc, .bool b, .int .i64 n] t (0, 0))) :
    (W.cell? ⟨g, 0, none⟩ = some (.slice kA kn kc) ∧ W.cell? ⟨g, 1, none⟩ = some (.slice vA vn vc)) ∧ W.heap[g]? = some (.cells #[.slice kA kn kc, .slice vA vn vc, .bool b, .int .i64 n] t (0, 0)) :=
  ⟨⟨by rw [cell_of_row _ _ _ _ _ _ h]; rfl, by rw [cell_of_row _ _ _ _ _ _ h]; rfl⟩, h⟩
set_option maxRecDepth 20000 in
set_option maxHeartbeats 2000000 in
theorem putI_any (base : Nat) (A0 : Option Addr) (n0 c0 : Nat) (l0 : List UInt8) (x : ItT) (B : Nat) (w : World) (h0 : w.ownsRow base 5 1 (.slice A0 n0 c0) n0 (l0.map bv)) (hbase : base ≤ w.heap.size) (hx : x.Ok w B) (hB : B ≤ base) (hkn : x.k.n ≤ 255) (hvn : x.v.n ≤ 255) (hn0 : n0 ≤ 90000) :
    Calls Try.prog 43 #[.slice A0 n0 c0, (EnT.it x).val] w (LaysB base (.slice A0 n0 c0) (l0 ++ x.put) w) := by
  have hkl := hx.key.len
  have hvl := hx.val.len
  have HL0 := Lib.hid (put_lens h0)
  simp only [EnT.val]
  unfold ItT.agg
  obtain ⟨⟨kA, kn, kc, kl⟩, ⟨vA, vn, vc, vl⟩, b, n⟩ := x
  simp only at hkl hvl hkn hvn ⊢
  have HX := Lib.hid hx
  obtain ⟨un, hun⟩ : ∃ u, u64n n = u := ⟨_, rfl⟩
  have hwn : IntKind.u64.wrap n = (un : Int) := by rw [u64n_wrap, hun]
  have Hul := Lib.hid (show un < 18446744073709551616 by rw [← hun]; exact u64n_lt n)
  cases b
  · have HPL := Lib.hid (show l0 ++ ItT.put ⟨⟨kA, kn, kc, kl⟩, ⟨vA, vn, vc, vl⟩, false, n⟩ = l0 ++ (UInt8.ofNat kn :: kl) ++ (UInt8.ofNat vn :: vl) ++ [((0 : Nat), 1), (un, 8)].flatMap nnL by
      unfold ItT.put putIL
      simp only
      rw [hkl, hvl, hun, List.append_assoc, List.append_assoc]
      rfl)
    generalize l0 ++ ItT.put ⟨⟨kA, kn, kc, kl⟩, ⟨vA, vn, vc, vl⟩, false, n⟩ = R at *
    clear hun
    have hta : ∀ W, (Instr.typeAssert (.iface 94 (.agg #[.slice kA kn kc, .slice vA vn vc, .bool false, .int .i64 n])) 71 94 true).run Try.prog W = .ok (.tuple #[.agg #[.slice kA kn kc, .slice vA vn vc, .bool false, .int .i64 n], .bool true]) W := fun W => by kernel_rfl
    have hbk := blk_later (heap_alloc_new w (.cells #[.slice kA kn kc, .slice vA vn vc, .bool false, .int .i64 n] 94)) ((Below.refl _ _).alloc (Nat.le_refl _) (.cells #[.int .u64 0, .int .i64 1] 96))
    have hflg := heap_alloc_new (w.alloc (.cells #[.slice kA kn kc, .slice vA vn vc, .bool false, .int .i64 n] 94)) (.cells #[.int .u64 0, .int .i64 1] 96)
    rw [World.size_alloc] at hflg
    have hGd := ((Gr.refl (.slice A0 n0 c0) w).alloc (.cells #[.slice kA kn kc, .slice vA vn vc, .bool false, .int .i64 n] 94)).alloc (.cells #[.int .u64 0, .int .i64 1] 96)
    have hO0d := (h0.alloc (.cells #[.slice kA kn kc, .slice vA vn vc, .bool false, .int .i64 n] 94)).alloc (.cells #[.int .u64 0, .int .i64 1] 96)
    have hb0s := Nat.le_trans hbase hGd.size
    have HKd := Lib.hid (hx.key.later (((bel_alloc (bel_alloc (Below.refl w.heap.size w) (.cells #[.slice kA kn kc, .slice vA vn vc, .bool false, .int .i64 n] 94)) (.cells #[.int .u64 0, .int .i64 1] 96))).mono (Nat.le_trans hB hbase)))
    have HV := Lib.hid (hx.val.later (((bel_alloc (bel_alloc (Below.refl w.heap.size w) (.cells #[.slice kA kn kc, .slice vA vn vc, .bool false, .int .i64 n] 94)) (.cells #[.int .u64 0, .int .i64 1] 96))).mono (Nat.le_trans hB hbase)))
    go_enter Try.func43, Try.ntmps43
    go_upto_region 7 with fail
    generalize (w.alloc (.cells #[.slice kA kn kc, .slice vA vn vc, .bool false, .int .i64 n] 94)).alloc (.cells #[.int .u64 0, .int .i64 1] 96) = W1 at *
    have hO0d := hO0d.drew
    have hGd := hGd.drew
    have hbk : W1.drew.heap[w.heap.size]? = some (.cells #[.slice kA kn kc, .slice vA vn vc, .bool false, .int .i64 n] 94 (0, 0)) := hbk
    have hflg : W1.drew.heap[w.heap.size + 1]? = some (.cells #[.int .u64 0, .int .i64 1] 96 (0, 0)) := hflg
    have hb0s : base ≤ W1.drew.heap.size := hb0s
    have HV := Lib.hid (HV.out.later (below_drewN (Below.refl _ _) 1))
    have HcA := Lib.hid (fun (W : World) (_ : W.heap[w.heap.size]? = some (.cells #[.slice kA kn kc, .slice vA vn vc, .bool false, .int .i64 n] 94 (0, 0))) => short_any base A0 n0 c0 l0 ⟨kA, kn, kc, kl⟩ B W1.drew hO0d hb0s (HKd.out.later (below_drewN (Below.refl _ _) 1)) hB hkn (by omega))
    clear hta
    refine wp_region_held_drew (S := fun W => (W.cell? ⟨w.heap.size, 0, none⟩ = some (.slice kA kn kc) ∧ W.cell? ⟨w.heap.size, 1, none⟩ = some (.slice vA vn vc)) ∧ W.heap[w.heap.size]? = some (.cells #[.slice kA kn kc, .slice vA vn vc, .bool false, .int .i64 n] 94 (0, 0))) (by kernel_rfl) (box_it hbk) (fun hHeld => ?_)
    refine rg_in 0 rfl (by kernel_rfl) (by kernel_rfl) (by kernel_rfl) (by rfl) (v := ?_) (fun _ _ _ h => h) hHeld (fun w hSw => ?_) ?_
    rotate_left
    · (try dsimp only at hSw); go_simp <;> (with_reducible rfl)
    (try simp only [Act.put, List.setIfInBounds_toArray, List.set_cons_zero, List.set_cons_succ])
    refine rg_in 1 rfl (by kernel_rfl) (by kernel_rfl) (by kernel_rfl) (by rfl) (v := ?_) (fun _ _ _ h => h) hHeld (fun w hSw => ?_) ?_
    rotate_left
    · (try dsimp only at hSw); go_simp <;> (with_reducible rfl)
    (try simp only [Act.put, List.setIfInBounds_toArray, List.set_cons_zero, List.set_cons_succ])
    refine rg_in 2 rfl (by kernel_rfl) (by kernel_rfl) (by kernel_rfl) (by rfl) (v := ?_) (fun _ _ _ h => h) hHeld (fun w hSw => ?_) ?_
    rotate_left
    · (try dsimp only at hSw); go_simp <;> (with_reducible rfl)
    (try simp only [Act.put, List.setIfInBounds_toArray, List.set_cons_zero, List.set_cons_succ])
    refine rg_in 3 rfl (by kernel_rfl) (by kernel_rfl) (by kernel_rfl) (by rfl) (v := ?_) (fun _ _ _ h => h) hHeld (fun w hSw => ?_) ?_
    rotate_left
    · (try dsimp only at hSw); go_simp <;> (with_reducible rfl)
    (try simp only [Act.put, List.setIfInBounds_toArray, List.set_cons_zero, List.set_cons_succ])
    refine rg_in 5 rfl (by kernel_rfl) (by kernel_rfl) (by kernel_rfl) (by rfl) (v := ?_) (fun _ _ _ h => h) hHeld (fun w hSw => ?_) ?_
    rotate_left
    · (try dsimp only at hSw); go_simp <;> (with_reducible rfl)
    (try simp only [Act.put, List.setIfInBounds_toArray, List.set_cons_zero, List.set_cons_succ])
    refine rg_in 6 rfl (by kernel_rfl) (by kernel_rfl) (by kernel_rfl) (by rfl) (v := ?_) (fun _ _ _ h => h) hHeld (fun w hSw => ?_) ?_
    rotate_left
    · (try dsimp only at hSw); go_simp <;> (with_reducible rfl)
    (try simp only [Act.put, List.setIfInBounds_toArray, List.set_cons_zero, List.set_cons_succ])
    refine rg_in 7 rfl (by kernel_rfl) (by kernel_rfl) (by kernel_rfl) (by rfl) (v := ?_) (fun _ _ _ h => h) hHeld (fun w hSw => ?_) ?_
    rotate_left
    · (try dsimp only at hSw); go_simp <;> (with_reducible rfl)
    (try simp only [Act.put, List.setIfInBounds_toArray, List.set_cons_zero, List.set_cons_succ])
    refine rg_do 4 rfl (by kernel_rfl) (by rfl) (fun K hK => ?_)
    go_simp
    (go_at_call 58; (with_reducible refine (HcA.out _ hHeld.2).mono ?_); (rintro e w104 ⟨A1, n1, c1, rfl, hO1, hG1⟩))
    have hk1 := hG1.blk hO0d hHeld.2 (by decide)
    have HL1 := Lib.hid (put_lens hO1)
    have hn1 : n1 ≤ 95000 := by rw [HL1.out, List.length_append, ← HL0.out, List.length_cons, hkl]; omega
    refine hK.out _ _ (box_it hk1) (fun hHeld => ?_)
    clear hK K
    (try simp only [Act.put, List.setIfInBounds_toArray, List.set_cons_zero, List.set_cons_succ])
    refine rg_do 8 rfl (by kernel_rfl) (by rfl) (fun K hK => ?_)
    have hc2 := short_any base A1 n1 c1 _ ⟨vA, vn, vc, vl⟩ B w104 hO1 (Nat.le_trans hb0s hG1.size) (HV.out.later ((hG1.below hO0d hb0s).mono hB)) hB hvn (by omega)
    go_simp
    (go_at_call 58; (with_reducible refine hc2.mono ?_); (rintro e w108 ⟨A2, n2, c2, rfl, hO2, hG2⟩))
    have hk2 := hG2.blk hO1 hHeld.2 (by decide)
    refine hK.out _ _ (box_it hk2) (fun hHeld => ?_)
    clear hK K
    (try simp only [Act.put, List.setIfInBounds_toArray, List.set_cons_zero, List.set_cons_succ])
    refine rg_in 9 rfl (by kernel_rfl) (by kernel_rfl) (by kernel_rfl) (by rfl) (v := ?_) (fun _ _ _ h => h) hHeld (fun w hSw => ?_) ?_
    rotate_left
    · (try dsimp only at hSw); go_simp <;> (with_reducible rfl)
    (try simp only [Act.put, List.setIfInBounds_toArray, List.set_cons_zero, List.set_cons_succ])
    refine wpAnyH_done (by kernel_rfl) ?_ _
    have hk9 := hHeld
    clear hHeld
    have hgf := hG2.blk hO1 (hG1.blk hO0d hflg (by decide)) (by decide)
    have hG9 := (hGd.call hG1).call hG2
    have HL2 := Lib.hid (put_lens hO2)
    have hn2 : n2 ≤ 96000 := by rw [HL2.out, List.length_append, ← HL1.out, List.length_cons, hvl]; omega
    have f0 : w108.cell? ⟨w.heap.size + 1, 0, none⟩ = some (.int .u64 0) := by rw [cell_of_row _ _ _ _ _ _ hgf]; rfl
    have f1 : w108.cell? ⟨w.heap.size + 1, 1, none⟩ = some (.int .i64 1) := by rw [cell_of_row _ _ _ _ _ _ hgf]; rfl
    have f2 : w108.cell? ⟨w.heap.size, 3, none⟩ = some (.int .i64 n) := by rw [cell_of_row _ _ _ _ _ _ hk9.2]; rfl
    clear hbk hflg hk1 hk2 hgf hk9
    have hbl := heap_alloc_new w108 (.cells #[.int .u64 0, .int .i64 1, .int .u64 (un : Int), .int .i64 8] 96)
    have hcl := nlaid_any base A2 n2 c2 _ (some ⟨w108.heap.size, 0, none⟩) 2 2 [(0, 1), (un, 8)] _ (hO2.alloc (.cells #[.int .u64 0, .int .i64 1, .int .u64 (un : Int), .int .i64 8] 96)) (by rw [World.size_alloc]; have h1 := hG9.size; omega) ⟨_, rfl, hbl⟩ rfl (by intro p hp; simp only [List.mem_cons, List.not_mem_nil, or_false] at hp; rcases hp with rfl | rfl <;> (simp only; have := Hul.out; omega)) (by omega) (by omega)
    have HGa := Lib.hid (hG9.alloc (.cells #[.int .u64 0, .int .i64 1, .int .u64 (un : Int), .int .i64 8] 96))
    clear hbl hG1 hG2 hG9 hO1 hO2 hO0d hGd
    go_wp2_with fail
    generalize w108.alloc (.cells #[.int .u64 0, .int .i64 1, .int .u64 (un : Int), .int .i64 8] 96) = W9 at *
    refine hcl.mono ?_
    rintro e W10 ⟨A3, n3, c3, rfl, hO3, hG3⟩
    clear f0 f1 f2
    go_wp2
    (first | rw [Exit.noGoto_ret] | skip)
    refine bodyPost_ret (v := .slice A3 n3 c3) ?_ rfl ⟨A3, n3, c3, rfl, ?_, HGa.out.call hG3⟩
    · simp [results, Try.results43, go_sem, *]
    · rw [HPL.out]
      exact hO3
  · have HPL := Lib.hid (show l0 ++ ItT.put ⟨⟨kA, kn, kc, kl⟩, ⟨vA, vn, vc, vl⟩, true, n⟩ = l0 ++ (UInt8.ofNat kn :: kl) ++ (UInt8.ofNat vn :: vl) ++ [((1 : Nat), 1), (un, 8)].flatMap nnL by
      unfold ItT.put putIL
      simp only
      rw [hkl, hvl, hun, List.append_assoc, List.append_assoc]
      rfl)
    generalize l0 ++ ItT.put ⟨⟨kA, kn, kc, kl⟩, ⟨vA, vn, vc, vl⟩, true, n⟩ = R at *
    clear hun
    have hta : ∀ W, (Instr.typeAssert (.iface 94 (.agg #[.slice kA kn kc, .slice vA vn vc, .bool true, .int .i64 n])) 71 94 true).run Try.prog W = .ok (.tuple #[.agg #[.slice kA kn kc, .slice vA vn vc, .bool true, .int .i64 n], .bool true]) W := fun W => by kernel_rfl
    have hbk := blk_later (heap_alloc_new w (.cells #[.slice kA kn kc, .slice vA vn vc, .bool true, .int .i64 n] 94)) ((Below.refl _ _).alloc (Nat.le_refl _) (.cells #[.int .u64 1, .int .i64 1] 96))
    have hflg := heap_alloc_new (w.alloc (.cells #[.slice kA kn kc, .slice vA vn vc, .bool true, .int .i64 n] 94)) (.cells #[.int .u64 1, .int .i64 1] 96)
    rw [World.size_alloc] at hflg
    have hGd := ((Gr.refl (.slice A0 n0 c0) w).alloc (.cells #[.slice kA kn kc, .slice vA vn vc, .bool true, .int .i64 n] 94)).alloc (.cells #[.int .u64 1, .int .i64 1] 96)
    have hO0d := (h0.alloc (.cells #[.slice kA kn kc, .slice vA vn vc, .bool true, .int .i64 n] 94)).alloc (.cells #[.int .u64 1, .int .i64 1] 96)
    have hb0s := Nat.le_trans hbase hGd.size
    have HKd := Lib.hid (hx.key.later (((bel_alloc (bel_alloc (Below.refl w.heap.size w) (.cells #[.slice kA kn kc, .slice vA vn vc, .bool true, .int .i64 n] 94)) (.cells #[.int .u64 1, .int .i64 1] 96))).mono (Nat.le_trans hB hbase)))
    have HV := Lib.hid (hx.val.later (((bel_alloc (bel_alloc (Below.refl w.heap.size w) (.cells #[.slice kA kn kc, .slice vA vn vc, .bool true, .int .i64 n] 94)) (.cells #[.int .u64 1, .int .i64 1] 96))).mono (Nat.le_trans hB hbase)))
    go_enter Try.func43, Try.ntmps43
    go_upto_region 7 with fail
    generalize (w.alloc (.cells #[.slice kA kn kc, .slice vA vn vc, .bool true, .int .i64 n] 94)).alloc (.cells #[.int .u64 1, .int .i64 1] 96) = W1 at *
    have hO0d := hO0d.drew
    have hGd := hGd.drew
    have hbk : W1.drew.heap[w.heap.size]? = some (.cells #[.slice kA kn kc, .slice vA vn vc, .bool true, .int .i64 n] 94 (0, 0)) := hbk
    have hflg : W1.drew.heap[w.heap.size + 1]? = some (.cells #[.int .u64 1, .int .i64 1] 96 (0, 0)) := hflg
    have hb0s : base ≤ W1.drew.heap.size := hb0s
    have HV := Lib.hid (HV.out.later (below_drewN (Below.refl _ _) 1))
    have HcA := Lib.hid (fun (W : World) (_ : W.heap[w.heap.size]? = some (.cells #[.slice kA kn kc, .slice vA vn vc, .bool true, .int .i64 n] 94 (0, 0))) => short_any base A0 n0 c0 l0 ⟨kA, kn, kc, kl⟩ B W1.drew hO0d hb0s (HKd.out.later (below_drewN (Below.refl _ _) 1)) hB hkn (by omega))
    clear hta
    refine wp_region_held_drew (S := fun W => (W.cell? ⟨w.heap.size, 0, none⟩ = some (.slice kA kn kc) ∧ W.cell? ⟨w.heap.size, 1, none⟩ = some (.slice vA vn vc)) ∧ W.heap[w.heap.size]? = some (.cells #[.slice kA kn kc, .slice vA vn vc, .bool true, .int .i64 n] 94 (0, 0))) (by kernel_rfl) (box_it hbk) (fun hHeld => ?_)
    refine rg_in 0 rfl (by kernel_rfl) (by kernel_rfl) (by kernel_rfl) (by rfl) (v := ?_) (fun _ _ _ h => h) hHeld (fun w hSw => ?_) ?_
    rotate_left
    · (try dsimp only at hSw); go_simp <;> (with_reducible rfl)
    (try simp only [Act.put, List.setIfInBounds_toArray, List.set_cons_zero, List.set_cons_succ])
    refine rg_in 1 rfl (by kernel_rfl) (by kernel_rfl) (by kernel_rfl) (by rfl) (v := ?_) (fun _ _ _ h => h) hHeld (fun w hSw => ?_) ?_
    rotate_left
    · (try dsimp only at hSw); go_simp <;> (with_reducible rfl)
    (try simp only [Act.put, List.setIfInBounds_toArray, List.set_cons_zero, List.set_cons_succ])
    refine rg_in 2 rfl (by kernel_rfl) (by kernel_rfl) (by kernel_rfl) (by rfl) (v := ?_) (fun _ _ _ h => h) hHeld (fun w hSw => ?_) ?_
    rotate_left
    · (try dsimp only at hSw); go_simp <;> (with_reducible rfl)
    (try simp only [Act.put, List.setIfInBounds_toArray, List.set_cons_zero, List.set_cons_succ])
    refine rg_in 3 rfl (by kernel_rfl) (by kernel_rfl) (by kernel_rfl) (by rfl) (v := ?_) (fun _ _ _ h => h) hHeld (fun w hSw => ?_) ?_
    rotate_left
    · (try dsimp only at hSw); go_simp <;> (with_reducible rfl)
    (try simp only [Act.put, List.setIfInBounds_toArray, List.set_cons_zero, List.set_cons_succ])
    refine rg_in 5 rfl (by kernel_rfl) (by kernel_rfl) (by kernel_rfl) (by rfl) (v := ?_) (fun _ _ _ h => h) hHeld (fun w hSw => ?_) ?_
    rotate_left
    · (try dsimp only at hSw); go_simp <;> (with_reducible rfl)
    (try simp only [Act.put, List.setIfInBounds_toArray, List.set_cons_zero, List.set_cons_succ])
    refine rg_in 6 rfl (by kernel_rfl) (by kernel_rfl) (by kernel_rfl) (by rfl) (v := ?_) (fun _ _ _ h => h) hHeld (fun w hSw => ?_) ?_
    rotate_left
    · (try dsimp only at hSw); go_simp <;> (with_reducible rfl)
    (try simp only [Act.put, List.setIfInBounds_toArray, List.set_cons_zero, List.set_cons_succ])
    refine rg_in 7 rfl (by kernel_rfl) (by kernel_rfl) (by kernel_rfl) (by rfl) (v := ?_) (fun _ _ _ h => h) hHeld (fun w hSw => ?_) ?_
    rotate_left
    · (try dsimp only at hSw); go_simp <;> (with_reducible rfl)
    (try simp only [Act.put, List.setIfInBounds_toArray, List.set_cons_zero, List.set_cons_succ])
    refine rg_do 4 rfl (by kernel_rfl) (by rfl) (fun K hK => ?_)
    go_simp
    (go_at_call 58; (with_reducible refine (HcA.out _ hHeld.2).mono ?_); (rintro e w104 ⟨A1, n1, c1, rfl, hO1, hG1⟩))
    have hk1 := hG1.blk hO0d hHeld.2 (by decide)
    have HL1 := Lib.hid (put_lens hO1)
    have hn1 : n1 ≤ 95000 := by rw [HL1.out, List.length_append, ← HL0.out, List.length_cons, hkl]; omega
    refine hK.out _ _ (box_it hk1) (fun hHeld => ?_)
    clear hK K
    (try simp only [Act.put, List.setIfInBounds_toArray, List.set_cons_zero, List.set_cons_succ])
    refine rg_do 8 rfl (by kernel_rfl) (by rfl) (fun K hK => ?_)
    have hc2 := short_any base A1 n1 c1 _ ⟨vA, vn, vc, vl⟩ B w104 hO1 (Nat.le_trans hb0s hG1.size) (HV.out.later ((hG1.below hO0d hb0s).mono hB)) hB hvn (by omega)
    go_simp
    (go_at_call 58; (with_reducible refine hc2.mono ?_); (rintro e w108 ⟨A2, n2, c2, rfl, hO2, hG2⟩))
    have hk2 := hG2.blk hO1 hHeld.2 (by decide)
    refine hK.out _ _ (box_it hk2) (fun hHeld => ?_)
    clear hK K
    (try simp only [Act.put, List.setIfInBounds_toArray, List.set_cons_zero, List.set_cons_succ])
    refine rg_in 9 rfl (by kernel_rfl) (by kernel_rfl) (by kernel_rfl) (by rfl) (v := ?_) (fun _ _ _ h => h) hHeld (fun w hSw => ?_) ?_
    rotate_left
    · (try dsimp only at hSw); go_simp <;> (with_reducible rfl)
    (try simp only [Act.put, List.setIfInBounds_toArray, List.set_cons_zero, List.set_cons_succ])
    refine wpAnyH_done (by kernel_rfl) ?_ _
    have hk9 := hHeld
    clear hHeld
    have hgf := hG2.blk hO1 (hG1.blk hO0d hflg (by decide)) (by decide)
    have hG9 := (hGd.call hG1).call hG2
    have HL2 := Lib.hid (put_lens hO2)
    have hn2 : n2 ≤ 96000 := by rw [HL2.out, List.length_append, ← HL1.out, List.length_cons, hvl]; omega
    have f0 : w108.cell? ⟨w.heap.size + 1, 0, none⟩ = some (.int .u64 1) := by rw [cell_of_row _ _ _ _ _ _ hgf]; rfl
    have f1 : w108.cell? ⟨w.heap.size + 1, 1, none⟩ = some (.int .i64 1) := by rw [cell_of_row _ _ _ _ _ _ hgf]; rfl
    have f2 : w108.cell? ⟨w.heap.size, 3, none⟩ = some (.int .i64 n) := by rw [cell_of_row _ _ _ _ _ _ hk9.2]; rfl
    clear hbk hflg hk1 hk2 hgf hk9
    have hbl := heap_alloc_new w108 (.cells #[.int .u64 1, .int .i64 1, .int .u64 (un : Int), .int .i64 8] 96)
    have hcl := nlaid_any base A2 n2 c2 _ (some ⟨w108.heap.size, 0, none⟩) 2 2 [(1, 1), (un, 8)] _ (hO2.alloc (.cells #[.int .u64 1, .int .i64 1, .int .u64 (un : Int), .int .i64 8] 96)) (by rw [World.size_alloc]; have h1 := hG9.size; omega) ⟨_, rfl, hbl⟩ rfl (by intro p hp; simp only [List.mem_cons, List.not_mem_nil, or_false] at hp; rcases hp with rfl | rfl <;> (simp only; have := Hul.out; omega)) (by omega) (by omega)
    have HGa := Lib.hid (hG9.alloc (.cells #[.int .u64 1, .int .i64 1, .int .u64 (un : Int), .int .i64 8] 96))
    clear hbl hG1 hG2 hG9 hO1 hO2 hO0d hGd
    go_wp2_with fail
    generalize w108.alloc (.cells #[.int .u64 1, .int .i64 1, .int .u64 (un : Int), .int .i64 8] 96) = W9 at *
    refine hcl.mono ?_
    rintro e W10 ⟨A3, n3, c3, rfl, hO3, hG3⟩
    clear f0 f1 f2
    go_wp2
    (first | rw [Exit.noGoto_ret] | skip)
    refine bodyPost_ret (v := .slice A3 n3 c3) ?_ rfl ⟨A3, n3, c3, rfl, ?_, HGa.out.call hG3⟩
    · simp [results, Try.results43, go_sem, *]
    · rw [HPL.out]
      exact hO3
end Go.Proofs.Ytnfohlabmidliaa
/-
  put, of a kid.
-/
namespace Go.Proofs.Ytnfohlabmidliaa
open Go.RowKit
set_option linter.unusedVariables false
set_option linter.unusedSimpArgs false

theorem box_ki {W : World} {g : Nat} {kA : Option Addr} {kn kc : Nat} {a c i hi lo l m : Int} {t t' : TypeId} (h : W.heap[g]? = some (.cells #[.slice kA kn kc, .int .i64 a, .int .i64 c, .int .i64 i, .int .i64 hi, .int .u64 lo, .int .i64 l, .int .i64 m] t (0, 0))) (h' : W.heap[g + 1]? = some (.cells #[.int .i64 c, .int .i64 i, .int .i64 hi, .int .u64 lo, .int .i64 l, .int .i64 m] t' (0, 0))) :
    (W.cell? ⟨g, 0, none⟩ = some (.slice kA kn kc) ∧ W.cell? ⟨g, 1, none⟩ = some (.int .i64 a) ∧ W.cell? ⟨g + 1, 0, none⟩ = some (.int .i64 c) ∧ W.cell? ⟨g + 1, 1, none⟩ = some (.int .i64 i)) ∧ W.heap[g]? = some (.cells #[.slice kA kn kc, .int .i64 a, .int .i64 c, .int .i64 i, .int .i64 hi, .int .u64 lo, .int .i64 l, .int .i64 m] t (0, 0)) ∧ W.heap[g + 1]? = some (.cells #[.int .i64 c, .int .i64 i, .int .i64 hi, .int .u64 lo, .int .i64 l, .int .i64 m] t' (0, 0)) :=
  ⟨⟨by rw [cell_of_row _ _ _ _ _ _ h]; rfl, by rw [cell_of_row _ _ _ _ _ _ h]; rfl, by rw [cell_of_row _ _ _ _ _ _ h']; rfl, by rw [cell_of_row _ _ _ _ _ _ h']; rfl⟩, h, h'⟩
theorem fillN3 (v0 v1 x0 x1 y0 y1 : Value) (hv : (Value.agg #[v0, v1]).cells = #[v0, v1]) (hx : (Value.agg #[x0, x1]).cells = #[x0, x1]) (hy : (Value.agg #[y0, y1]).cells = #[y0, y1]) :
    Instr.fill (fun q => some (q * 2, 2)) ((Array.range (3 * 2)).map ((Value.agg #[.int .u64 0, .int .i64 0]).cells[· % (Value.agg #[.int .u64 0, .int .i64 0]).cells.size]!)) [(0, .agg #[v0, v1]), (1, .agg #[x0, x1]), (2, .agg #[y0, y1])] = some #[v0, v1, x0, x1, y0, y1] := by
  have e : Array.range (3 * 2) = #[0, 1, 2, 3, 4, 5] := by first | rfl | decide
  rw [e]
  simp [Instr.fill, hv, hx, hy]
set_option maxRecDepth 20000 in
set_option maxHeartbeats 2000000 in
theorem putK_any (base : Nat) (A0 : Option Addr) (n0 c0 : Nat) (l0 : List UInt8) (x : KiT) (B : Nat) (w : World) (h0 : w.ownsRow base 5 1 (.slice A0 n0 c0) n0 (l0.map bv)) (hbase : base ≤ w.heap.size) (hx : x.Ok w B) (hB : B ≤ base) (hkn : x.k.n ≤ 255) (hn0 : n0 ≤ 90000) :
    Calls Try.prog 43 #[.slice A0 n0 c0, (EnT.ki x).val] w (LaysB base (.slice A0 n0 c0) (l0 ++ x.put) w) := by
  have hkl := hx.key.len
  have HL0 := Lib.hid (put_lens h0)
  have hkey := hx.key
  simp only [EnT.val]
  unfold KiT.agg
  have HX : x.put = putKL x.k.l x.a x.r.c x.r.i (hiI x.r.v) (loI x.r.v) x.r.l x.r.m := rfl
  rw [HX]
  clear HX hx
  obtain ⟨ul, hul, hull⟩ : ∃ ul : Nat, loI x.r.v = (ul : Int) ∧ ul < 18446744073709551616 := by
    have h := lo_bound x.r.v
    exact ⟨(loI x.r.v).toNat, by omega, by omega⟩
  rw [hul]
  clear hul
  obtain ⟨⟨kA, kn, kc, kl⟩, a, ⟨c, i, v, l, m⟩⟩ := x
  simp only at hkl hkn hkey ⊢
  generalize hiI v = hi at *
  obtain ⟨na, hna⟩ : ∃ u, u64n a = u := ⟨_, rfl⟩
  obtain ⟨nc, hnc⟩ : ∃ u, u64n c = u := ⟨_, rfl⟩
  obtain ⟨ni, hni⟩ : ∃ u, u64n i = u := ⟨_, rfl⟩
  obtain ⟨nh, hnh⟩ : ∃ u, u64n hi = u := ⟨_, rfl⟩
  obtain ⟨nl, hnl⟩ : ∃ u, u64n l = u := ⟨_, rfl⟩
  obtain ⟨nm, hnm⟩ : ∃ u, u64n m = u := ⟨_, rfl⟩
  have w1 : IntKind.u64.wrap a = (na : Int) := by rw [u64n_wrap, hna]
  have w2 : IntKind.u64.wrap c = (nc : Int) := by rw [u64n_wrap, hnc]
  have w3 : IntKind.u64.wrap i = (ni : Int) := by rw [u64n_wrap, hni]
  have w4 : IntKind.u64.wrap hi = (nh : Int) := by rw [u64n_wrap, hnh]
  have w5 : IntKind.u64.wrap l = (nl : Int) := by rw [u64n_wrap, hnl]
  have w6 : IntKind.u64.wrap m = (nm : Int) := by rw [u64n_wrap, hnm]
  have HU3 := Lib.hid (show ∀ p ∈ [(na, 4), (nc, 4), (ni, 4)], p.1 < 18446744073709551616 ∧ 1 ≤ p.2 ∧ p.2 ≤ 8 by
    intro p hp
    simp only [List.mem_cons, List.not_mem_nil, or_false] at hp
    rcases hp with rfl | rfl | rfl <;> (simp only; have := u64n_lt a; have := u64n_lt c; have := u64n_lt i; omega))
  have HU4 := Lib.hid (show ∀ p ∈ [(nh, 8), (ul, 8), (nl, 8), (nm, 8)], p.1 < 18446744073709551616 ∧ 1 ≤ p.2 ∧ p.2 ≤ 8 by
    intro p hp
    simp only [List.mem_cons, List.not_mem_nil, or_false] at hp
    rcases hp with rfl | rfl | rfl | rfl <;> (simp only; have := u64n_lt hi; have := u64n_lt l; have := u64n_lt m; omega))
  have HPL := Lib.hid (show l0 ++ putKL kl a c i hi (ul : Int) l m = l0 ++ (UInt8.ofNat kn :: kl) ++ [(na, 4), (nc, 4), (ni, 4)].flatMap nnL ++ [(nh, 8), (ul, 8), (nl, 8), (nm, 8)].flatMap nnL by
    unfold putKL
    rw [hkl, hna, hnc, hni, hnh, hnl, hnm, u64n_nat ul hull, List.append_assoc, List.append_assoc])
  generalize l0 ++ putKL kl a c i hi (ul : Int) l m = R at *
  clear hna hnc hni hnh hnl hnm
  obtain ⟨iN, hiN, hzN, hsN⟩ := num_info
  have hta : ∀ W, (Instr.typeAssert (.iface 100 (.agg #[.slice kA kn kc, .int .i64 a, .int .i64 c, .int .i64 i, .int .i64 hi, .int .u64 (ul : Int), .int .i64 l, .int .i64 m])) 71 94 true).run Try.prog W = .ok (.tuple #[.agg #[.slice none 0 0, .slice none 0 0, .bool false, .int .i64 0], .bool false]) W := fun W => by kernel_rfl
  have htb : ∀ W, (Instr.typeAssert (.iface 100 (.agg #[.slice kA kn kc, .int .i64 a, .int .i64 c, .int .i64 i, .int .i64 hi, .int .u64 (ul : Int), .int .i64 l, .int .i64 m])) 71 100 true).run Try.prog W = .ok (.tuple #[.agg #[.slice kA kn kc, .int .i64 a, .int .i64 c, .int .i64 i, .int .i64 hi, .int .u64 (ul : Int), .int .i64 l, .int .i64 m], .bool true]) W := fun W => by kernel_rfl
  have hbk := blk_later (heap_alloc_new w (.cells #[.slice kA kn kc, .int .i64 a, .int .i64 c, .int .i64 i, .int .i64 hi, .int .u64 (ul : Int), .int .i64 l, .int .i64 m] 100)) ((Below.refl _ _).alloc (Nat.le_refl _) (.cells #[.int .i64 c, .int .i64 i, .int .i64 hi, .int .u64 (ul : Int), .int .i64 l, .int .i64 m] 37))
  have hbr := heap_alloc_new (w.alloc (.cells #[.slice kA kn kc, .int .i64 a, .int .i64 c, .int .i64 i, .int .i64 hi, .int .u64 (ul : Int), .int .i64 l, .int .i64 m] 100)) (.cells #[.int .i64 c, .int .i64 i, .int .i64 hi, .int .u64 (ul : Int), .int .i64 l, .int .i64 m] 37)
  rw [World.size_alloc] at hbr
  have hGd := ((Gr.refl (.slice A0 n0 c0) w).alloc (.cells #[.slice kA kn kc, .int .i64 a, .int .i64 c, .int .i64 i, .int .i64 hi, .int .u64 (ul : Int), .int .i64 l, .int .i64 m] 100)).alloc (.cells #[.int .i64 c, .int .i64 i, .int .i64 hi, .int .u64 (ul : Int), .int .i64 l, .int .i64 m] 37)
  have hO0d := (h0.alloc (.cells #[.slice kA kn kc, .int .i64 a, .int .i64 c, .int .i64 i, .int .i64 hi, .int .u64 (ul : Int), .int .i64 l, .int .i64 m] 100)).alloc (.cells #[.int .i64 c, .int .i64 i, .int .i64 hi, .int .u64 (ul : Int), .int .i64 l, .int .i64 m] 37)
  have hb0s := Nat.le_trans hbase hGd.size
  have HKd := Lib.hid (hkey.later (((bel_alloc (bel_alloc (Below.refl w.heap.size w) (.cells #[.slice kA kn kc, .int .i64 a, .int .i64 c, .int .i64 i, .int .i64 hi, .int .u64 (ul : Int), .int .i64 l, .int .i64 m] 100)) (.cells #[.int .i64 c, .int .i64 i, .int .i64 hi, .int .u64 (ul : Int), .int .i64 l, .int .i64 m] 37))).mono (Nat.le_trans hB hbase)))
  go_enter Try.func43, Try.ntmps43
  go_upto_region 12 with fail
  generalize (w.alloc (.cells #[.slice kA kn kc, .int .i64 a, .int .i64 c, .int .i64 i, .int .i64 hi, .int .u64 (ul : Int), .int .i64 l, .int .i64 m] 100)).alloc (.cells #[.int .i64 c, .int .i64 i, .int .i64 hi, .int .u64 (ul : Int), .int .i64 l, .int .i64 m] 37) = W1 at *
  have hO0d := hO0d.drew
  have hGd := hGd.drew
  have hbk : W1.drew.heap[w.heap.size]? = some (.cells #[.slice kA kn kc, .int .i64 a, .int .i64 c, .int .i64 i, .int .i64 hi, .int .u64 (ul : Int), .int .i64 l, .int .i64 m] 100 (0, 0)) := hbk
  have hbr : W1.drew.heap[w.heap.size + 1]? = some (.cells #[.int .i64 c, .int .i64 i, .int .i64 hi, .int .u64 (ul : Int), .int .i64 l, .int .i64 m] 37 (0, 0)) := hbr
  have hb0s : base ≤ W1.drew.heap.size := hb0s
  have HKd := Lib.hid (HKd.out.later (below_drewN (Below.refl _ _) 1 : Below B W1 W1.drew))
  clear hta htb
  refine wp_region_held_drew (S := fun W => (W.cell? ⟨w.heap.size, 0, none⟩ = some (.slice kA kn kc) ∧ W.cell? ⟨w.heap.size, 1, none⟩ = some (.int .i64 a) ∧ W.cell? ⟨w.heap.size + 1, 0, none⟩ = some (.int .i64 c) ∧ W.cell? ⟨w.heap.size + 1, 1, none⟩ = some (.int .i64 i)) ∧ W.heap[w.heap.size]? = some (.cells #[.slice kA kn kc, .int .i64 a, .int .i64 c, .int .i64 i, .int .i64 hi, .int .u64 (ul : Int), .int .i64 l, .int .i64 m] 100 (0, 0)) ∧ W.heap[w.heap.size + 1]? = some (.cells #[.int .i64 c, .int .i64 i, .int .i64 hi, .int .u64 (ul : Int), .int .i64 l, .int .i64 m] 37 (0, 0))) (by kernel_rfl) (box_ki hbk hbr) (fun hHeld => ?_)
  refine rg_in 0 rfl (by kernel_rfl) (by kernel_rfl) (by kernel_rfl) (by rfl) (v := ?_) (fun _ _ _ h => h) hHeld (fun w hSw => ?_) ?_
  rotate_left
  · (try dsimp only at hSw); go_simp <;> (with_reducible rfl)
  (try simp only [Act.put, List.setIfInBounds_toArray, List.set_cons_zero, List.set_cons_succ])
  refine rg_in 1 rfl (by kernel_rfl) (by kernel_rfl) (by kernel_rfl) (by rfl) (v := ?_) (fun _ _ _ h => h) hHeld (fun w hSw => ?_) ?_
  rotate_left
  · (try dsimp only at hSw); go_simp <;> (with_reducible rfl)
  (try simp only [Act.put, List.setIfInBounds_toArray, List.set_cons_zero, List.set_cons_succ])
  refine rg_in 2 rfl (by kernel_rfl) (by kernel_rfl) (by kernel_rfl) (by rfl) (v := ?_) (fun _ _ _ h => h) hHeld (fun w hSw => ?_) ?_
  rotate_left
  · (try dsimp only at hSw); go_simp <;> (with_reducible rfl)
  (try simp only [Act.put, List.setIfInBounds_toArray, List.set_cons_zero, List.set_cons_succ])
  refine rg_in 3 rfl (by kernel_rfl) (by kernel_rfl) (by kernel_rfl) (by rfl) (v := ?_) (fun _ _ _ h => h) hHeld (fun w hSw => ?_) ?_
  rotate_left
  · (try dsimp only at hSw); go_simp <;> (with_reducible rfl)
  (try simp only [Act.put, List.setIfInBounds_toArray, List.set_cons_zero, List.set_cons_succ])
  refine rg_in 5 rfl (by kernel_rfl) (by kernel_rfl) (by kernel_rfl) (by rfl) (v := ?_) (fun _ _ _ h => h) hHeld (fun w hSw => ?_) ?_
  rotate_left
  · (try dsimp only at hSw); go_simp <;> (with_reducible rfl)
  (try simp only [Act.put, List.setIfInBounds_toArray, List.set_cons_zero, List.set_cons_succ])
  refine rg_in 6 rfl (by kernel_rfl) (by kernel_rfl) (by kernel_rfl) (by rfl) (v := ?_) (fun _ _ _ h => h) hHeld (fun w hSw => ?_) ?_
  rotate_left
  · (try dsimp only at hSw); go_simp <;> (with_reducible rfl)
  (try simp only [Act.put, List.setIfInBounds_toArray, List.set_cons_zero, List.set_cons_succ])
  refine rg_in 7 rfl (by kernel_rfl) (by kernel_rfl) (by kernel_rfl) (by rfl) (v := ?_) (fun _ _ _ h => h) hHeld (fun w hSw => ?_) ?_
  rotate_left
  · (try dsimp only at hSw); go_simp <;> (with_reducible rfl)
  (try simp only [Act.put, List.setIfInBounds_toArray, List.set_cons_zero, List.set_cons_succ])
  refine rg_in 8 rfl (by kernel_rfl) (by kernel_rfl) (by kernel_rfl) (by rfl) (v := ?_) (fun _ _ _ h => h) hHeld (fun w hSw => ?_) ?_
  rotate_left
  · (try dsimp only at hSw); go_simp <;> (with_reducible rfl)
  (try simp only [Act.put, List.setIfInBounds_toArray, List.set_cons_zero, List.set_cons_succ])
  refine rg_in 9 rfl (by kernel_rfl) (by kernel_rfl) (by kernel_rfl) (by rfl) (v := ?_) (fun _ _ _ h => h) hHeld (fun w hSw => ?_) ?_
  rotate_left
  · (try dsimp only at hSw); go_simp <;> (with_reducible rfl)
  (try simp only [Act.put, List.setIfInBounds_toArray, List.set_cons_zero, List.set_cons_succ])
  refine rg_in 10 rfl (by kernel_rfl) (by kernel_rfl) (by kernel_rfl) (by rfl) (v := ?_) (fun _ _ _ h => h) hHeld (fun w hSw => ?_) ?_
  rotate_left
  · (try dsimp only at hSw); go_simp <;> (with_reducible rfl)
  (try simp only [Act.put, List.setIfInBounds_toArray, List.set_cons_zero, List.set_cons_succ])
  refine rg_in 11 rfl (by kernel_rfl) (by kernel_rfl) (by kernel_rfl) (by rfl) (v := ?_) (fun _ _ _ h => h) hHeld (fun w hSw => ?_) ?_
  rotate_left
  · (try dsimp only at hSw); go_simp <;> (with_reducible rfl)
  (try simp only [Act.put, List.setIfInBounds_toArray, List.set_cons_zero, List.set_cons_succ])
  refine rg_in 12 rfl (by kernel_rfl) (by kernel_rfl) (by kernel_rfl) (by rfl) (v := ?_) (fun _ _ _ h => h) hHeld (fun w hSw => ?_) ?_
  rotate_left
  · (try dsimp only at hSw); go_simp <;> (with_reducible rfl)
  (try simp only [Act.put, List.setIfInBounds_toArray, List.set_cons_zero, List.set_cons_succ])
  refine rg_in 13 rfl (by kernel_rfl) (by kernel_rfl) (by kernel_rfl) (by rfl) (v := ?_) (fun _ _ _ h => h) hHeld (fun w hSw => ?_) ?_
  rotate_left
  · (try dsimp only at hSw); go_simp <;> (with_reducible rfl)
  (try simp only [Act.put, List.setIfInBounds_toArray, List.set_cons_zero, List.set_cons_succ])
  refine rg_in 14 rfl (by kernel_rfl) (by kernel_rfl) (by kernel_rfl) (by rfl) (v := ?_) (fun _ _ _ h => h) hHeld (fun w hSw => ?_) ?_
  rotate_left
  · (try dsimp only at hSw); go_simp <;> (with_reducible rfl)
  (try simp only [Act.put, List.setIfInBounds_toArray, List.set_cons_zero, List.set_cons_succ])
  refine rg_in 15 rfl (by kernel_rfl) (by kernel_rfl) (by kernel_rfl) (by rfl) (v := ?_) (fun _ _ _ h => h) hHeld (fun w hSw => ?_) ?_
  rotate_left
  · (try dsimp only at hSw); go_simp <;> (with_reducible rfl)
  (try simp only [Act.put, List.setIfInBounds_toArray, List.set_cons_zero, List.set_cons_succ])
  refine rg_in 16 rfl (by kernel_rfl) (by kernel_rfl) (by kernel_rfl) (by rfl) (v := ?_) (fun _ _ _ h => h) hHeld (fun w hSw => ?_) ?_
  rotate_left
  · (try dsimp only at hSw); go_simp <;> (with_reducible rfl)
  (try simp only [Act.put, List.setIfInBounds_toArray, List.set_cons_zero, List.set_cons_succ])
  refine rg_in 17 rfl (by kernel_rfl) (by kernel_rfl) (by kernel_rfl) (by rfl) (v := ?_) (fun _ _ _ h => h) hHeld (fun w hSw => ?_) ?_
  rotate_left
  · (try dsimp only at hSw); go_simp <;> (with_reducible rfl)
  (try simp only [Act.put, List.setIfInBounds_toArray, List.set_cons_zero, List.set_cons_succ])
  refine wpAnyH_ready (rs := [4, 18]) (by kernel_rfl) (by simp) ?_
  refine rg_cons rfl (by rfl) (fun K hK => ?_) ?_
  · have hcs := short_any base A0 n0 c0 l0 ⟨kA, kn, kc, kl⟩ B W1.drew hO0d hb0s HKd.out hB hkn (by omega)
    go_simp
    (go_at_call 58; (with_reducible refine hcs.mono ?_); (rintro e w104 ⟨A1, n1, c1, rfl, hO1, hG1⟩))
    have hk1 := hG1.blk hO0d hHeld.2.1 (by decide)
    have hk2 := hG1.blk hO0d hHeld.2.2 (by decide)
    have HL1 := Lib.hid (put_lens hO1)
    have hn1 : n1 ≤ 95000 := by rw [HL1.out, List.length_append, ← HL0.out, List.length_cons, hkl]; omega
    refine hK.out _ _ (box_ki hk1 hk2) (fun hHeld => ?_)
    clear hK K
    (try simp only [Act.put, List.setIfInBounds_toArray, List.set_cons_zero, List.set_cons_succ])
    refine rg_do 18 rfl (by kernel_rfl) (by rfl) (fun K hK => ?_)
    refine step_rowsB _ _ 3 _ rfl 2 iN _ Try.underlying122 hiN hzN hsN #[.int .u64 (na : Int), .int .i64 4, .int .u64 (nc : Int), .int .i64 4, .int .u64 (ni : Int), .int .i64 4] (fillN3 _ _ _ _ _ _ rfl rfl rfl) (by decide) (by decide) ?_
    intro g118 w118 hge18 hbx18 hb18
    refine hK.out _ _ (box_ki (blk_later hHeld.2.1 hb18) (blk_later hHeld.2.2 hb18)) (fun hHeld => ?_)
    clear hK K
    (try simp only [Act.put, List.setIfInBounds_toArray, List.set_cons_zero, List.set_cons_succ])
    refine rg_do 19 rfl (by kernel_rfl) (by rfl) (fun K hK => ?_)
    have hcl := nlaid_any base A1 n1 c1 _ (some ⟨g118, 0, none⟩) 3 3 [(na, 4), (nc, 4), (ni, 4)] w118 (own_later hO1 hb18) (Nat.le_trans (Nat.le_trans hb0s hG1.size) hb18.size) ⟨_, rfl, hbx18⟩ rfl HU3.out (by omega) (by omega)
    go_simp
    (go_at_call 59; (with_reducible refine hcl.mono ?_); (rintro e w119 ⟨A2, n2, c2, rfl, hO2, hG2⟩))
    have hk3 := hG2.blk (own_later hO1 hb18) hHeld.2.1 (by decide)
    have hk4 := hG2.blk (own_later hO1 hb18) hHeld.2.2 (by decide)
    refine hK.out _ _ (box_ki hk3 hk4) (fun hHeld => ?_)
    clear hK K
    (try simp only [Act.put, List.setIfInBounds_toArray, List.set_cons_zero, List.set_cons_succ])
    refine rg_in 20 rfl (by kernel_rfl) (by kernel_rfl) (by kernel_rfl) (by rfl) (v := ?_) (fun _ _ _ h => h) hHeld (fun w hSw => ?_) ?_
    rotate_left
    · (try dsimp only at hSw); go_simp <;> (with_reducible rfl)
    (try simp only [Act.put, List.setIfInBounds_toArray, List.set_cons_zero, List.set_cons_succ])
    refine wpAnyH_done (by kernel_rfl) ?_ _
    have hG9 := ((hGd.call hG1).later hb18).call hG2
    have hk9 := hHeld
    have HL2 := Lib.hid (put_lens hO2)
    have hn2 : n2 ≤ 96000 := by rw [HL2.out, List.length_append, ← HL1.out, nn_len]; simp only [List.map_cons, List.map_nil, List.sum_cons, List.sum_nil]; omega
    have f2 : w119.cell? ⟨w.heap.size + 1, 2, none⟩ = some (.int .i64 hi) := by rw [cell_of_row _ _ _ _ _ _ hk9.2.2]; rfl
    have f3 : w119.cell? ⟨w.heap.size + 1, 3, none⟩ = some (.int .u64 (ul : Int)) := by rw [cell_of_row _ _ _ _ _ _ hk9.2.2]; rfl
    have f4 : w119.cell? ⟨w.heap.size + 1, 4, none⟩ = some (.int .i64 l) := by rw [cell_of_row _ _ _ _ _ _ hk9.2.2]; rfl
    have f5 : w119.cell? ⟨w.heap.size + 1, 5, none⟩ = some (.int .i64 m) := by rw [cell_of_row _ _ _ _ _ _ hk9.2.2]; rfl
    clear hHeld hk9 hk1 hk2 hk3 hk4
    have hbl := heap_alloc_new w119 (.cells #[.int .u64 (nh : Int), .int .i64 8, .int .u64 (ul : Int), .int .i64 8, .int .u64 (nl : Int), .int .i64 8, .int .u64 (nm : Int), .int .i64 8] 96)
    have hcl4 := nlaid_any base A2 n2 c2 _ (some ⟨w119.heap.size, 0, none⟩) 4 4 [(nh, 8), (ul, 8), (nl, 8), (nm, 8)] _ (hO2.alloc (.cells #[.int .u64 (nh : Int), .int .i64 8, .int .u64 (ul : Int), .int .i64 8, .int .u64 (nl : Int), .int .i64 8, .int .u64 (nm : Int), .int .i64 8] 96)) (by rw [World.size_alloc]; have h1 := hG9.size; omega) ⟨_, rfl, hbl⟩ rfl HU4.out (by omega) (by omega)
    have HGa := Lib.hid (hG9.alloc (.cells #[.int .u64 (nh : Int), .int .i64 8, .int .u64 (ul : Int), .int .i64 8, .int .u64 (nl : Int), .int .i64 8, .int .u64 (nm : Int), .int .i64 8] 96))
    clear hbl hG1 hG2 hG9 hO1 hO2 hO0d hGd hbk hbr hcl hcs
    go_wp2_with fail
    generalize w119.alloc (.cells #[.int .u64 (nh : Int), .int .i64 8, .int .u64 (ul : Int), .int .i64 8, .int .u64 (nl : Int), .int .i64 8, .int .u64 (nm : Int), .int .i64 8] 96) = W9 at *
    refine hcl4.mono ?_
    rintro e W10 ⟨A3, n3, c3, rfl, hO3, hG3⟩
    clear f2 f3 f4 f5
    go_wp2
    (first | rw [Exit.noGoto_ret] | skip)
    refine bodyPost_ret (v := .slice A3 n3 c3) ?_ rfl ⟨A3, n3, c3, rfl, ?_, HGa.out.call hG3⟩
    · simp [results, Try.results43, go_sem, *]
    · rw [HPL.out]
      exact hO3
  refine rg_cons rfl (by rfl) (fun K hK => ?_) ?_
  · refine step_rowsB _ _ 3 _ rfl 2 iN _ Try.underlying122 hiN hzN hsN #[.int .u64 (na : Int), .int .i64 4, .int .u64 (nc : Int), .int .i64 4, .int .u64 (ni : Int), .int .i64 4] (fillN3 _ _ _ _ _ _ rfl rfl rfl) (by decide) (by decide) ?_
    intro g118 w118 hge18 hbx18 hb18
    refine hK.out _ _ (box_ki (blk_later hHeld.2.1 hb18) (blk_later hHeld.2.2 hb18)) (fun hHeld => ?_)
    clear hK K
    (try simp only [Act.put, List.setIfInBounds_toArray, List.set_cons_zero, List.set_cons_succ])
    refine rg_do 4 rfl (by kernel_rfl) (by rfl) (fun K hK => ?_)
    have hcs := short_any base A0 n0 c0 l0 ⟨kA, kn, kc, kl⟩ B w118 (own_later hO0d hb18) (Nat.le_trans hb0s hb18.size) ((HKd.out.later (hb18.mono (Nat.le_trans hB hb0s)))) hB hkn (by omega)
    go_simp
    (go_at_call 58; (with_reducible refine hcs.mono ?_); (rintro e w104 ⟨A1, n1, c1, rfl, hO1, hG1⟩))
    have hk1 := hG1.blk (own_later hO0d hb18) hHeld.2.1 (by decide)
    have hk2 := hG1.blk (own_later hO0d hb18) hHeld.2.2 (by decide)
    have HL1 := Lib.hid (put_lens hO1)
    have hn1 : n1 ≤ 95000 := by rw [HL1.out, List.length_append, ← HL0.out, List.length_cons, hkl]; omega
    have hbx := hG1.blk (own_later hO0d hb18) hbx18 (by decide)
    refine hK.out _ _ (box_ki hk1 hk2) (fun hHeld => ?_)
    clear hK K
    (try simp only [Act.put, List.setIfInBounds_toArray, List.set_cons_zero, List.set_cons_succ])
    refine rg_do 19 rfl (by kernel_rfl) (by rfl) (fun K hK => ?_)
    have hcl := nlaid_any base A1 n1 c1 _ (some ⟨g118, 0, none⟩) 3 3 [(na, 4), (nc, 4), (ni, 4)] w104 hO1 (Nat.le_trans (Nat.le_trans hb0s hb18.size) hG1.size) ⟨_, rfl, hbx⟩ rfl HU3.out (by omega) (by omega)
    go_simp
    (go_at_call 59; (with_reducible refine hcl.mono ?_); (rintro e w119 ⟨A2, n2, c2, rfl, hO2, hG2⟩))
    have hk3 := hG2.blk hO1 hHeld.2.1 (by decide)
    have hk4 := hG2.blk hO1 hHeld.2.2 (by decide)
    refine hK.out _ _ (box_ki hk3 hk4) (fun hHeld => ?_)
    clear hK K
    (try simp only [Act.put, List.setIfInBounds_toArray, List.set_cons_zero, List.set_cons_succ])
    refine rg_in 20 rfl (by kernel_rfl) (by kernel_rfl) (by kernel_rfl) (by rfl) (v := ?_) (fun _ _ _ h => h) hHeld (fun w hSw => ?_) ?_
    rotate_left
    · (try dsimp only at hSw); go_simp <;> (with_reducible rfl)
    (try simp only [Act.put, List.setIfInBounds_toArray, List.set_cons_zero, List.set_cons_succ])
    refine wpAnyH_done (by kernel_rfl) ?_ _
    have hG9 := ((hGd.later hb18).call hG1).call hG2
    have hk9 := hHeld
    have HL2 := Lib.hid (put_lens hO2)
    have hn2 : n2 ≤ 96000 := by rw [HL2.out, List.length_append, ← HL1.out, nn_len]; simp only [List.map_cons, List.map_nil, List.sum_cons, List.sum_nil]; omega
    have f2 : w119.cell? ⟨w.heap.size + 1, 2, none⟩ = some (.int .i64 hi) := by rw [cell_of_row _ _ _ _ _ _ hk9.2.2]; rfl
    have f3 : w119.cell? ⟨w.heap.size + 1, 3, none⟩ = some (.int .u64 (ul : Int)) := by rw [cell_of_row _ _ _ _ _ _ hk9.2.2]; rfl
    have f4 : w119.cell? ⟨w.heap.size + 1, 4, none⟩ = some (.int .i64 l) := by rw [cell_of_row _ _ _ _ _ _ hk9.2.2]; rfl
    have f5 : w119.cell? ⟨w.heap.size + 1, 5, none⟩ = some (.int .i64 m) := by rw [cell_of_row _ _ _ _ _ _ hk9.2.2]; rfl
    clear hHeld hk9 hk1 hk2 hk3 hk4
    have hbl := heap_alloc_new w119 (.cells #[.int .u64 (nh : Int), .int .i64 8, .int .u64 (ul : Int), .int .i64 8, .int .u64 (nl : Int), .int .i64 8, .int .u64 (nm : Int), .int .i64 8] 96)
    have hcl4 := nlaid_any base A2 n2 c2 _ (some ⟨w119.heap.size, 0, none⟩) 4 4 [(nh, 8), (ul, 8), (nl, 8), (nm, 8)] _ (hO2.alloc (.cells #[.int .u64 (nh : Int), .int .i64 8, .int .u64 (ul : Int), .int .i64 8, .int .u64 (nl : Int), .int .i64 8, .int .u64 (nm : Int), .int .i64 8] 96)) (by rw [World.size_alloc]; have h1 := hG9.size; omega) ⟨_, rfl, hbl⟩ rfl HU4.out (by omega) (by omega)
    have HGa := Lib.hid (hG9.alloc (.cells #[.int .u64 (nh : Int), .int .i64 8, .int .u64 (ul : Int), .int .i64 8, .int .u64 (nl : Int), .int .i64 8, .int .u64 (nm : Int), .int .i64 8] 96))
    clear hbl hG1 hG2 hG9 hO1 hO2 hO0d hGd hbk hbr hcl hcs
    go_wp2_with fail
    generalize w119.alloc (.cells #[.int .u64 (nh : Int), .int .i64 8, .int .u64 (ul : Int), .int .i64 8, .int .u64 (nl : Int), .int .i64 8, .int .u64 (nm : Int), .int .i64 8] 96) = W9 at *
    refine hcl4.mono ?_
    rintro e W10 ⟨A3, n3, c3, rfl, hO3, hG3⟩
    clear f2 f3 f4 f5
    go_wp2
    (first | rw [Exit.noGoto_ret] | skip)
    refine bodyPost_ret (v := .slice A3 n3 c3) ?_ rfl ⟨A3, n3, c3, rfl, ?_, HGa.out.call hG3⟩
    · simp [results, Try.results43, go_sem, *]
    · rw [HPL.out]
      exact hO3
  exact AllReadyH.nil
end Go.Proofs.Ytnfohlabmidliaa
/-
  Encode.
-/
namespace Go.Proofs.Ytnfohlabmidliaa
open Go.RowKit
set_option linter.unusedVariables false

/-- The bytes of a node. -/
def markN (b : Bool) : UInt8 := if b then 1 else 2
def NoT.enc (X : NoT) : List UInt8 := [markN X.leaf, UInt8.ofNat X.ents.length] ++ X.ents.flatMap EnT.put
def EncP (X : NoT) (W : World) (e : Ending) (w' : World) : Prop :=
  Below W.heap.size W w' ∧ ((X.okB = false ∧ e = .returned (.tuple #[.slice none 0 0, .int .i64 240])) ∨
    (X.okB = true ∧ ∃ A n c, e = .returned (.tuple #[.slice A n c, .int .i64 0]) ∧ w'.ownsRow W.heap.size 5 1 (.slice A n c) n (X.enc.map bv)))
theorem keyB_len {l : List UInt8} (h : keyB l = true) : 1 ≤ l.length ∧ l.length ≤ 120 := of_decide_eq_true h
theorem it_okB {x : ItT} (h : x.okB = true) : (1 ≤ x.k.l.length ∧ x.k.l.length ≤ 120) ∧ x.v.l.length ≤ 100 ∧ (x.b = true ∨ x.n = 0) := by
  unfold ItT.okB at h
  simp only [Bool.and_eq_true, Bool.or_eq_true, decide_eq_true_eq] at h
  exact ⟨keyB_len h.1.1, h.1.2, h.2⟩
theorem ki_okB {x : KiT} (h : x.okB = true) : (1 ≤ x.k.l.length ∧ x.k.l.length ≤ 120) ∧ (1 ≤ x.a ∧ x.a < 524288) ∧ x.r.valid = true ∧ 1 ≤ x.r.c := by
  unfold KiT.okB at h
  simp only [Bool.and_eq_true, decide_eq_true_eq] at h
  exact ⟨keyB_len h.1.1.1.1, ⟨h.1.1.1.2, h.1.1.2⟩, h.1.2, h.2⟩
theorem put_len {x : EnT} (h : x.okB = true) : x.put.length ≤ 240 := by
  cases x with
  | it x =>
    have hx := it_okB (x := x) h
    show (putIL x.k.l x.v.l x.b x.n).length ≤ 240
    unfold putIL
    rw [List.length_append, List.length_append, List.length_cons, List.length_cons, nn_len]
    simp only [List.map_cons, List.map_nil, List.sum_cons, List.sum_nil]
    omega
  | ki x =>
    have hx := ki_okB (x := x) h
    show (putKL x.k.l _ _ _ _ _ _ _).length ≤ 240
    unfold putKL
    rw [List.length_append, List.length_append, List.length_cons, nn_len, nn_len]
    simp only [List.map_cons, List.map_nil, List.sum_cons, List.sum_nil]
    omega
theorem put_any (base : Nat) (A0 : Option Addr) (n0 c0 : Nat) (l0 : List UInt8) (x : EnT) (B : Nat) (w : World) (h0 : w.ownsRow base 5 1 (.slice A0 n0 c0) n0 (l0.map bv)) (hbase : base ≤ w.heap.size) (hx : x.Ok w B) (hB : B ≤ base) (hok : x.okB = true) (hn0 : n0 ≤ 90000) :
    Calls Try.prog 43 #[.slice A0 n0 c0, x.val] w (LaysB base (.slice A0 n0 c0) (l0 ++ x.put) w) := by
  cases x with
  | it x =>
    have h := it_okB (x := x) hok
    have h1 := (ItT.Ok.key hx).len
    have h2 := (ItT.Ok.val hx).len
    exact putI_any base A0 n0 c0 l0 x B w h0 hbase hx hB (by omega) (by omega) hn0
  | ki x =>
    have h := ki_okB (x := x) hok
    have h1 := (KiT.Ok.key hx).len
    exact putK_any base A0 n0 c0 l0 x B w h0 hbase hx hB (by omega) hn0
set_option maxRecDepth 20000 in
set_option maxHeartbeats 2000000 in
theorem encode_any (X : NoT) (B : Nat) (w : World) (hX : LieN w B X) (hB : B ≤ w.heap.size) :
    Calls Try.prog 22 #[X.agg] w (EncP X w) := by
  have hb := bel_alloc (Below.refl w.heap.size w) (.cells #[.bool X.leaf, .slice X.iA X.iN X.iC, .slice X.kA X.kN X.kC] 25)
  have hcall := checked_any X B _ (hX.later (hb.mono hB)) (Nat.le_trans hB hb.size)
  have hagg : X.agg = .agg #[.bool X.leaf, .slice X.iA X.iN X.iC, .slice X.kA X.kN X.kC] := rfl
  rw [hagg] at hcall ⊢
  have HX := Lib.hid hX
  have hleaf : (w.alloc (.cells #[.bool X.leaf, .slice X.iA X.iN X.iC, .slice X.kA X.kN X.kC] 25)).cell? ⟨w.heap.size, 0, none⟩ = some (.bool X.leaf) := World.cell?_alloc_new _ _ _ 0
  clear hX hagg
  go_enter Try.func22, Try.ntmps22
  go_wp2_with fail
  generalize w.alloc (.cells #[.bool X.leaf, .slice X.iA X.iN X.iC, .slice X.kA X.kN X.kC] 25) = W1 at *
  refine hcall.mono ?_
  rintro e w2 ⟨hb2, ⟨hok, rfl⟩ | ⟨hok, A, n, c, rfl, hn, hO⟩⟩
  · have hb3 := bel_alloc (bel_next hb hb2) (.cells #[.int .i64 0, .int .i64 0, .int .i64 0, .int .u64 0, .int .i64 0, .int .i64 0] 37)
    have HK := Lib.hid hok
    clear hb2 hok hcall hleaf hb
    go_wp2
    go_ret2
    exact ⟨hb3, .inl ⟨HK.out, rfl⟩⟩
  · have hl := shape_len HX.out (okB_parts hok).1
    have HAll := Lib.hid (runOk_all _ _ (okB_parts hok).2.1)
    have hsz2 := (bel_next hb hb2).size
    have HE := Lib.hid (fun x hx => (ents_ok HX.out x hx).later ((bel_next hb hb2).mono hB))
    obtain ⟨R, hR⟩ : ∃ R, X.all.1 = R := ⟨_, rfl⟩
    rw [hR]
    clear hR
    have HK := Lib.hid hok
    have HN := Lib.hid hn
    have hn6 : n ≤ 6 := by omega
    have hb3 := bel_next hb hb2
    have hleaf := mkept_later hb2 hleaf
    obtain ⟨W3, hW3⟩ : ∃ W3, w2.alloc (.cells #[.int .i64 R.c, .int .i64 R.i, .int .i64 (hiI R.v), .int .u64 (loI R.v), .int .i64 R.l, .int .i64 R.m] 37) = W3 := ⟨_, rfl⟩
    have hb23 : Below w2.heap.size w2 W3 := by rw [← hW3]; exact bel_alloc (Below.refl _ _) _
    have hb4 := bel_next hb3 hb23
    have hleaf := mkept_later hb23 hleaf
    have hO3 := own_later hO hb23
    have HW3 := Lib.hid hW3
    have HE3 := Lib.hid (fun x hx => (HE.out x hx).later (hb23.mono (Nat.le_trans hB hsz2)))
    have hcnt : IntKind.u8.wrap (n : Int) = (n : Int) := by rw [IntKind.wrap_u8]; omega
    have hm8 : (n : Int) % 256 = (n : Int) := by omega
    clear hb2 hok hcall hb hn hl hW3 HE hb23 hO hb3
    go_upto_region 4 with fail
    rw [HW3.out]
    clear HW3
    obtain ⟨leaf, hlf⟩ : ∃ z, X.leaf = z := ⟨_, rfl⟩
    have HLF := Lib.hid hlf
    rw [hlf] at hleaf
    clear hlf
    obtain ⟨mk, hmk⟩ : ∃ z : UInt8, markN leaf = z := ⟨_, rfl⟩
    have hmv : ((mk.toNat : Nat) : Int) = if leaf then 1 else 2 := by rw [← hmk]; cases leaf <;> rfl
    have HMK := Lib.hid hmk
    have hw4 : w.heap.size ≤ W3.heap.size := hb4.size
    have hO4 : (W3.alloc (.cells #[bv mk, .int .u8 (n : Int)] 5)).ownsRow w.heap.size 5 1 (.slice (some ⟨W3.heap.size, 0, none⟩) 2 2) 2 (([mk, UInt8.ofNat n] ++ ((X.ents.take 0).flatMap EnT.put)).map bv) := by
      have h := World.ownsRow_lit (base := w.heap.size) (e := 5) (size := 1) W3 #[bv mk, .int .u8 (n : Int)] 2 hw4 (by unfold maxLen; omega) rfl
      have e : [bv mk, Value.int .u8 (n : Int)] = ([mk, UInt8.ofNat n] ++ ((X.ents.take 0).flatMap EnT.put)).map bv := by
        simp only [List.take_zero, List.flatMap_nil, List.append_nil, List.map_cons, List.map_nil, nu8_nat, hm8]
      rw [← e]
      exact h
    have hbm : bv mk = .int .u8 (if leaf then 1 else 2) := by unfold bv; rw [hmv]
    rw [hbm] at hO4
    have hOe := hO3.alloc (.cells #[.int .u8 (if leaf then 1 else 2), .int .u8 (n : Int)] 5)
    have HB5 := Lib.hid (bel_alloc hb4 (.cells #[.int .u8 (if leaf then 1 else 2), .int .u8 (n : Int)] 5))
    have HE5 := Lib.hid (fun x hx => (HE3.out x hx).later ((bel_alloc (Below.refl W3.heap.size W3) (.cells #[.int .u8 (if leaf then 1 else 2), .int .u8 (n : Int)] 5)).mono (Nat.le_trans hB hw4)))
    have HO4 := Lib.hid hO4
    have HOe := Lib.hid hOe
    obtain ⟨g0, hg0⟩ : ∃ g0, W3.heap.size = g0 := ⟨_, rfl⟩
    rw [hg0] at HO4
    have HG0 := Lib.hid hg0
    clear hmv hbm hmk hO4 hOe hO3 hm8 HE3 hb4 hg0
    cases leaf
    · simp only [Bool.false_eq_true, if_false] at HO4 HOe HB5 HE5
      go_upto_region 8 with fail
      rw [HG0.out]
      generalize W3.alloc (.cells #[.int .u8 2, .int .u8 (n : Int)] 5) = W4 at *
      clear HG0 hcnt
      go_wp2_with fail
      go_loopw [8, 28] (fun v y wr => ∃ (k : Nat) (A1 : Option Addr) (n1 c1 : Nat), k ≤ n ∧ y = .int .i64 k ∧ v = .slice A1 n1 c1 ∧ n1 ≤ 2 + 240 * k ∧ Hid (wr.ownsRow w.heap.size 5 1 (.slice A1 n1 c1) n1 (([mk, UInt8.ofNat n] ++ ((X.ents.take k).flatMap EnT.put)).map bv)) ∧ Hid (Gr (.slice (some ⟨g0, 0, none⟩) 2 2) W4 (.slice A1 n1 c1) wr)) (fun _ y _ => n - (intOf y).toNat)
      case atStart => exact ⟨0, _, 2, 2, Nat.zero_le _, rfl, rfl, by omega, HO4, Lib.hid (Gr.refl _ _)⟩
      case round =>
        obtain ⟨k, A1, n1, c1, hk, rfl, rfl, hn1, HO, HG⟩ := hrel
        have hbr := HG.out.below HO4.out HB5.out.size
        by_cases hlt : k < n
        · have hEr : EntsL wr wr.heap.size A n X.ents := ⟨Shows.own (HG.out.row HO4.out HOe.out (by decide)), fun x hx => by
            have h := (HE5.out x hx).later (hbr.mono hB)
            have hsz := Nat.le_trans hB (Nat.le_trans HB5.out.size HG.out.size)
            cases x
            · exact ItT.Ok.more h hsz
            · exact KiT.Ok.more h hsz⟩
          obtain ⟨b, off, x, rfl, hbB, hx, x0⟩ := hEr.cell hlt
          have hlt' : (k : Int) < (n : Int) := by omega
          have HX2 := Lib.hid (flatN_take EnT.put hx)
          have hok := HAll.out x (List.mem_of_getElem? hx)
          have hpl := put_len hok
          have hcp := put_any w.heap.size A1 n1 c1 _ x B wr HO.out (Nat.le_trans HB5.out.size HG.out.size) ((HE5.out x (List.mem_of_getElem? hx)).later (hbr.mono hB)) hB hok (by omega)
          clear hEr hx hok hbr
          rcases x with x | x <;> simp only [EnT.val] at x0 hcp <;>
          · go_wp2_with fail
            refine hcp.mono ?_
            rintro e w5 ⟨A2, n2, c2, rfl, hO2, hG2⟩
            have HO2 := Lib.hid hO2
            have hn2 : n2 ≤ 2 + 240 * (k + 1) := by
              have h1 := put_lens hO2
              have h2 := put_lens HO.out
              rw [List.length_append] at h1
              omega
            have HG3 := Lib.hid (HG.out.call hG2)
            clear hcp x0 hO2 hG2 HO HG hpl
            go_wp2
            go_roundw
            case rel => exact ⟨k + 1, A2, n2, c2, by omega, by go_num, rfl, hn2, Lib.hid (by rw [HX2.out, ← List.append_assoc]; exact HO2.out), HG3⟩
            case measure => simp [intOf]; omega
        · obtain rfl : n = k := by omega
          have hbz := HB5.out.trans hbr
          have HE9 := Lib.hid (show X.enc = [mk, UInt8.ofNat n] ++ ((X.ents.take n).flatMap EnT.put) by
            unfold NoT.enc
            rw [List.take_of_length_le (by rw [← HN.out]; exact Nat.le_refl _), HLF.out, HMK.out, ← HN.out])
          clear hbr
          go_wp2
          go_ret2
          exact ⟨hbz, .inr ⟨HK.out, A1, n1, c1, rfl, by rw [HE9.out]; exact HO.out⟩⟩
    · simp only [if_true] at HO4 HOe HB5 HE5
      go_upto_region 8 with fail
      rw [HG0.out]
      generalize W3.alloc (.cells #[.int .u8 1, .int .u8 (n : Int)] 5) = W4 at *
      clear HG0 hcnt
      go_wp2_with fail
      go_loopw [8, 28] (fun v y wr => ∃ (k : Nat) (A1 : Option Addr) (n1 c1 : Nat), k ≤ n ∧ y = .int .i64 k ∧ v = .slice A1 n1 c1 ∧ n1 ≤ 2 + 240 * k ∧ Hid (wr.ownsRow w.heap.size 5 1 (.slice A1 n1 c1) n1 (([mk, UInt8.ofNat n] ++ ((X.ents.take k).flatMap EnT.put)).map bv)) ∧ Hid (Gr (.slice (some ⟨g0, 0, none⟩) 2 2) W4 (.slice A1 n1 c1) wr)) (fun _ y _ => n - (intOf y).toNat)
      case atStart => exact ⟨0, _, 2, 2, Nat.zero_le _, rfl, rfl, by omega, HO4, Lib.hid (Gr.refl _ _)⟩
      case round =>
        obtain ⟨k, A1, n1, c1, hk, rfl, rfl, hn1, HO, HG⟩ := hrel
        have hbr := HG.out.below HO4.out HB5.out.size
        by_cases hlt : k < n
        · have hEr : EntsL wr wr.heap.size A n X.ents := ⟨Shows.own (HG.out.row HO4.out HOe.out (by decide)), fun x hx => by
            have h := (HE5.out x hx).later (hbr.mono hB)
            have hsz := Nat.le_trans hB (Nat.le_trans HB5.out.size HG.out.size)
            cases x
            · exact ItT.Ok.more h hsz
            · exact KiT.Ok.more h hsz⟩
          obtain ⟨b, off, x, rfl, hbB, hx, x0⟩ := hEr.cell hlt
          have hlt' : (k : Int) < (n : Int) := by omega
          have HX2 := Lib.hid (flatN_take EnT.put hx)
          have hok := HAll.out x (List.mem_of_getElem? hx)
          have hpl := put_len hok
          have hcp := put_any w.heap.size A1 n1 c1 _ x B wr HO.out (Nat.le_trans HB5.out.size HG.out.size) ((HE5.out x (List.mem_of_getElem? hx)).later (hbr.mono hB)) hB hok (by omega)
          clear hEr hx hok hbr
          rcases x with x | x <;> simp only [EnT.val] at x0 hcp <;>
          · go_wp2_with fail
            refine hcp.mono ?_
            rintro e w5 ⟨A2, n2, c2, rfl, hO2, hG2⟩
            have HO2 := Lib.hid hO2
            have hn2 : n2 ≤ 2 + 240 * (k + 1) := by
              have h1 := put_lens hO2
              have h2 := put_lens HO.out
              rw [List.length_append] at h1
              omega
            have HG3 := Lib.hid (HG.out.call hG2)
            clear hcp x0 hO2 hG2 HO HG hpl
            go_wp2
            go_roundw
            case rel => exact ⟨k + 1, A2, n2, c2, by omega, by go_num, rfl, hn2, Lib.hid (by rw [HX2.out, ← List.append_assoc]; exact HO2.out), HG3⟩
            case measure => simp [intOf]; omega
        · obtain rfl : n = k := by omega
          have hbz := HB5.out.trans hbr
          have HE9 := Lib.hid (show X.enc = [mk, UInt8.ofNat n] ++ ((X.ents.take n).flatMap EnT.put) by
            unfold NoT.enc
            rw [List.take_of_length_le (by rw [← HN.out]; exact Nat.le_refl _), HLF.out, HMK.out, ← HN.out])
          clear hbr
          go_wp2
          go_ret2
          exact ⟨hbz, .inr ⟨HK.out, A1, n1, c1, rfl, by rw [HE9.out]; exact HO.out⟩⟩
end Go.Proofs.Ytnfohlabmidliaa
