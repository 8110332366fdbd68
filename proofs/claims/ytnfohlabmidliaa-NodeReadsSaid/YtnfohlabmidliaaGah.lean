import Derived.Test.YtnfohlabmidliaaGag
import Derived.Test.YtnfohlabmidliaaGaf
/-
  put, of a kid.
-/
namespace Go.Proofs.Ytnfohlabmidliaa
open Go.RowKit
set_option linter.unusedVariables false
set_option linter.unusedSimpArgs false

theorem box_ki {W : World} {g : Nat} {kA : Option Addr} {kn kc : Nat} {a c i hi lo l m : Int} {t t' : TypeId} (h : W.heap[g]? = some (.cells #[.slice kA kn kc, .int .i64 a, .int .i64 c, .int .i64 i, .int .i64 hi, .int .u64 lo, .int .i64 l, .int .i64 m] t (0, 0))) (h' : W.heap[g + 1]? = some (.cells #[.int .i64 c, .int .i64 i, .int .i64 hi, .int .u64 lo, .int .i64 l, .int .i64 m] t' (0, 0))) :
    (W.cell? ⟨g, 0, none⟩ = some (.slice kA kn kc) ∧ W.cell? ⟨g, 1, none⟩ = some (.int .i64 a) ∧ W.cell? ⟨g + 1, 0, none⟩ = some (.int .i64 c) ∧ W.cell? ⟨g + 1, 1, none⟩ = some (.int .i64 i)) ∧ W.heap[g]? = some (.cells #[.slice kA kn kc, .int .i64 a, .int .i64 c, .int .i64 i, .int .i64 hi, .int .u64 lo, .int .i64 l, .int .i64 m] t (0, 0)) ∧ W.heap[g + 1]? = some (.cells #[.int .i64 c, .int .i64 i, .int .i64 hi, .int .u64 lo, .int .i64 l, .int .i64 m] t' (0, 0)) :=
  ⟨⟨by rw [cell_of_row _ _ _ _ _ _ h]; rfl, by rw [cell_of_row _ _ _ _ _ _ h]; rfl, by rw [cell_of_row _ _ _ _ _ _ h']; rfl, by rw [cell_of_row _ _ _ _ _ _ h']; rfl⟩, h, h'⟩
theorem fillN3 (v0 v1 x0 x1 y0 y1 : Value) (hv : (Value.agg #[v0, v1]).cells = #[v0, v1]) (hx : (Value.agg #[x0, x1]).cells = #[x0, x1]) (hy : (Value.agg #[y0, y1]).cells = #[y0, y1]) :
    Instr.fill (fun q => some (q * 2, 2)) ((Array.range (3 * 2)).map ((Value.agg #[.int .u64 0, .int .i64 0]).cells[· % (Value.agg #[.int .u64 0, .int .i64 0]).cells.size]!)) [(0, .agg #[v0, v1]), (1, .agg #[x0, x1]), (2, .agg #[y0, y1])] = some #[v0, v1, x0, x1, y0, y1] := by
  have e : Array.range (3 * 2) = #[0, 1, 2, 3, 4, 5] := by first | rfl | decide
  rw [e]
  simp [Instr.fill, hv, hx, hy]
set_option maxRecDepth 20000 in
set_option maxHeartbeats 2000000 in
theorem putK_any (base : Nat) (A0 : Option Addr) (n0 c0 : Nat) (l0 : List UInt8) (x : KiT) (B : Nat) (w : World) (h0 : w.ownsRow base 5 1 (.slice A0 n0 c0) n0 (l0.map bv)) (hbase : base ≤ w.heap.size) (hx : x.Ok w B) (hB : B ≤ base) (hkn : x.k.n ≤ 255) (hn0 : n0 ≤ 90000) :
    Calls Try.prog 43 #[.slice A0 n0 c0, (EnT.ki x).val] w (LaysB base (.slice A0 n0 c0) (l0 ++ x.put) w) := by
  have hkl := hx.key.len
  have HL0 := Lib.hid (put_lens h0)
  have hkey := hx.key
  simp only [EnT.val]
  unfold KiT.agg
  have HX : x.put = putKL x.k.l x.a x.r.c x.r.i (hiI x.r.v) (loI x.r.v) x.r.l x.r.m := rfl
  rw [HX]
  clear HX hx
  obtain ⟨ul, hul, hull⟩ : ∃ ul : Nat, loI x.r.v = (ul : Int) ∧ ul < 18446744073709551616 := by
    have h := lo_bound x.r.v
    exact ⟨(loI x.r.v).toNat, by omega, by omega⟩
  rw [hul]
  clear hul
  obtain ⟨⟨kA, kn, kc, kl⟩, a, ⟨c, i, v, l, m⟩⟩ := x
  simp only at hkl hkn hkey ⊢
  generalize hiI v = hi at *
  obtain ⟨na, hna⟩ : ∃ u, u64n a = u := ⟨_, rfl⟩
  obtain ⟨nc, hnc⟩ : ∃ u, u64n c = u := ⟨_, rfl⟩
  obtain ⟨ni, hni⟩ : ∃ u, u64n i = u := ⟨_, rfl⟩
  obtain ⟨nh, hnh⟩ : ∃ u, u64n hi = u := ⟨_, rfl⟩
  obtain ⟨nl, hnl⟩ : ∃ u, u64n l = u := ⟨_, rfl⟩
  obtain ⟨nm, hnm⟩ : ∃ u, u64n m = u := ⟨_, rfl⟩
  have w1 : IntKind.u64.wrap a = (na : Int) := by rw [u64n_wrap, hna]
  have w2 : IntKind.u64.wrap c = (nc : Int) := by rw [u64n_wrap, hnc]
  have w3 : IntKind.u64.wrap i = (ni : Int) := by rw [u64n_wrap, hni]
  have w4 : IntKind.u64.wrap hi = (nh : Int) := by rw [u64n_wrap, hnh]
  have w5 : IntKind.u64.wrap l = (nl : Int) := by rw [u64n_wrap, hnl]
  have w6 : IntKind.u64.wrap m = (nm : Int) := by rw [u64n_wrap, hnm]
  have HU3 := Lib.hid (show ∀ p ∈ [(na, 4), (nc, 4), (ni, 4)], p.1 < 18446744073709551616 ∧ 1 ≤ p.2 ∧ p.2 ≤ 8 by
    intro p hp
    simp only [List.mem_cons, List.not_mem_nil, or_false] at hp
    rcases hp with rfl | rfl | rfl <;> (simp only; have := u64n_lt a; have := u64n_lt c; have := u64n_lt i; omega))
  have HU4 := Lib.hid (show ∀ p ∈ [(nh, 8), (ul, 8), (nl, 8), (nm, 8)], p.1 < 18446744073709551616 ∧ 1 ≤ p.2 ∧ p.2 ≤ 8 by
    intro p hp
    simp only [List.mem_cons, List.not_mem_nil, or_false] at hp
    rcases hp with rfl | rfl | rfl | rfl <;> (simp only; have := u64n_lt hi; have := u64n_lt l; have := u64n_lt m; omega))
  have HPL := Lib.hid (show l0 ++ putKL kl a c i hi (ul : Int) l m = l0 ++ (UInt8.ofNat kn :: kl) ++ [(na, 4), (nc, 4), (ni, 4)].flatMap nnL ++ [(nh, 8), (ul, 8), (nl, 8), (nm, 8)].flatMap nnL by
    unfold putKL
    rw [hkl, hna, hnc, hni, hnh, hnl, hnm, u64n_nat ul hull, List.append_assoc, List.append_assoc])
  generalize l0 ++ putKL kl a c i hi (ul : Int) l m = R at *
  clear hna hnc hni hnh hnl hnm
  obtain ⟨iN, hiN, hzN, hsN⟩ := num_info
  have hta : ∀ W, (Instr.typeAssert (.iface 100 (.agg #[.slice kA kn kc, .int .i64 a, .int .i64 c, .int .i64 i, .int .i64 hi, .int .u64 (ul : Int), .int .i64 l, .int .i64 m])) 71 94 true).run Try.prog W = .ok (.tuple #[.agg #[.slice none 0 0, .slice none 0 0, .bool false, .int .i64 0], .bool false]) W := fun W => by kernel_rfl
  have htb : ∀ W, (Instr.typeAssert (.iface 100 (.agg #[.slice kA kn kc, .int .i64 a, .int .i64 c, .int .i64 i, .int .i64 hi, .int .u64 (ul : Int), .int .i64 l, .int .i64 m])) 71 100 true).run Try.prog W = .ok (.tuple #[.agg #[.slice kA kn kc, .int .i64 a, .int .i64 c, .int .i64 i, .int .i64 hi, .int .u64 (ul : Int), .int .i64 l, .int .i64 m], .bool true]) W := fun W => by kernel_rfl
  have hbk := blk_later (heap_alloc_new w (.cells #[.slice kA kn kc, .int .i64 a, .int .i64 c, .int .i64 i, .int .i64 hi, .int .u64 (ul : Int), .int .i64 l, .int .i64 m] 100)) ((Below.refl _ _).alloc (Nat.le_refl _) (.cells #[.int .i64 c, .int .i64 i, .int .i64 hi, .int .u64 (ul : Int), .int .i64 l, .int .i64 m] 37))
  have hbr := heap_alloc_new (w.alloc (.cells #[.slice kA kn kc, .int .i64 a, .int .i64 c, .int .i64 i, .int .i64 hi, .int .u64 (ul : Int), .int .i64 l, .int .i64 m] 100)) (.cells #[.int .i64 c, .int .i64 i, .int .i64 hi, .int .u64 (ul : Int), .int .i64 l, .int .i64 m] 37)
  rw [World.size_alloc] at hbr
  have hGd := ((Gr.refl (.slice A0 n0 c0) w).alloc (.cells #[.slice kA kn kc, .int .i64 a, .int .i64 c, .int .i64 i, .int .i64 hi, .int .u64 (ul : Int), .int .i64 l, .int .i64 m] 100)).alloc (.cells #[.int .i64 c, .int .i64 i, .int .i64 hi, .int .u64 (ul : Int), .int .i64 l, .int .i64 m] 37)
  have hO0d := (h0.alloc (.cells #[.slice kA kn kc, .int .i64 a, .int .i64 c, .int .i64 i, .int .i64 hi, .int .u64 (ul : Int), .int .i64 l, .int .i64 m] 100)).alloc (.cells #[.int .i64 c, .int .i64 i, .int .i64 hi, .int .u64 (ul : Int), .int .i64 l, .int .i64 m] 37)
  have hb0s := Nat.le_trans hbase hGd.size
  have HKd := Lib.hid (hkey.later (((bel_alloc (bel_alloc (Below.refl w.heap.size w) (.cells #[.slice kA kn kc, .int .i64 a, .int .i64 c, .int .i64 i, .int .i64 hi, .int .u64 (ul : Int), .int .i64 l, .int .i64 m] 100)) (.cells #[.int .i64 c, .int .i64 i, .int .i64 hi, .int .u64 (ul : Int), .int .i64 l, .int .i64 m] 37))).mono (Nat.le_trans hB hbase)))
  go_enter Try.func43, Try.ntmps43
  go_upto_region 12 with fail
  generalize (w.alloc (.cells #[.slice kA kn kc, .int .i64 a, .int .i64 c, .int .i64 i, .int .i64 hi, .int .u64 (ul : Int), .int .i64 l, .int .i64 m] 100)).alloc (.cells #[.int .i64 c, .int .i64 i, .int .i64 hi, .int .u64 (ul : Int), .int .i64 l, .int .i64 m] 37) = W1 at *
  have hO0d := hO0d.drew
  have hGd := hGd.drew
  have hbk : W1.drew.heap[w.heap.size]? = some (.cells #[.slice kA kn kc, .int .i64 a, .int .i64 c, .int .i64 i, .int .i64 hi, .int .u64 (ul : Int), .int .i64 l, .int .i64 m] 100 (0, 0)) := hbk
  have hbr : W1.drew.heap[w.heap.size + 1]? = some (.cells #[.int .i64 c, .int .i64 i, .int .i64 hi, .int .u64 (ul : Int), .int .i64 l, .int .i64 m] 37 (0, 0)) := hbr
  have hb0s : base ≤ W1.drew.heap.size := hb0s
  have HKd := Lib.hid (HKd.out.later (below_drewN (Below.refl _ _) 1 : Below B W1 W1.drew))
  clear hta htb
  refine wp_region_held_drew (S := fun W => (W.cell? ⟨w.heap.size, 0, none⟩ = some (.slice kA kn kc) ∧ W.cell? ⟨w.heap.size, 1, none⟩ = some (.int .i64 a) ∧ W.cell? ⟨w.heap.size + 1, 0, none⟩ = some (.int .i64 c) ∧ W.cell? ⟨w.heap.size + 1, 1, none⟩ = some (.int .i64 i)) ∧ W.heap[w.heap.size]? = some (.cells #[.slice kA kn kc, .int .i64 a, .int .i64 c, .int .i64 i, .int .i64 hi, .int .u64 (ul : Int), .int .i64 l, .int .i64 m] 100 (0, 0)) ∧ W.heap[w.heap.size + 1]? = some (.cells #[.int .i64 c, .int .i64 i, .int .i64 hi, .int .u64 (ul : Int), .int .i64 l, .int .i64 m] 37 (0, 0))) (by kernel_rfl) (box_ki hbk hbr) (fun hHeld => ?_)
  refine rg_in 0 rfl (by kernel_rfl) (by kernel_rfl) (by kernel_rfl) (by rfl) (v := ?_) (fun _ _ _ h => h) hHeld (fun w hSw => ?_) ?_
  rotate_left
  · (try dsimp only at hSw); go_simp <;> (with_reducible rfl)
  (try simp only [Act.put, List.setIfInBounds_toArray, List.set_cons_zero, List.set_cons_succ])
  refine rg_in 1 rfl (by kernel_rfl) (by kernel_rfl) (by kernel_rfl) (by rfl) (v := ?_) (fun _ _ _ h => h) hHeld (fun w hSw => ?_) ?_
  rotate_left
  · (try dsimp only at hSw); go_simp <;> (with_reducible rfl)
  (try simp only [Act.put, List.setIfInBounds_toArray, List.set_cons_zero, List.set_cons_succ])
  refine rg_in 2 rfl (by kernel_rfl) (by kernel_rfl) (by kernel_rfl) (by rfl) (v := ?_) (fun _ _ _ h => h) hHeld (fun w hSw => ?_) ?_
  rotate_left
  · (try dsimp only at hSw); go_simp <;> (with_reducible rfl)
  (try simp only [Act.put, List.setIfInBounds_toArray, List.set_cons_zero, List.set_cons_succ])
  refine rg_in 3 rfl (by kernel_rfl) (by kernel_rfl) (by kernel_rfl) (by rfl) (v := ?_) (fun _ _ _ h => h) hHeld (fun w hSw => ?_) ?_
  rotate_left
  · (try dsimp only at hSw); go_simp <;> (with_reducible rfl)
  (try simp only [Act.put, List.setIfInBounds_toArray, List.set_cons_zero, List.set_cons_succ])
  refine rg_in 5 rfl (by kernel_rfl) (by kernel_rfl) (by kernel_rfl) (by rfl) (v := ?_) (fun _ _ _ h => h) hHeld (fun w hSw => ?_) ?_
  rotate_left
  · (try dsimp only at hSw); go_simp <;> (with_reducible rfl)
  (try simp only [Act.put, List.setIfInBounds_toArray, List.set_cons_zero, List.set_cons_succ])
  refine rg_in 6 rfl (by kernel_rfl) (by kernel_rfl) (by kernel_rfl) (by rfl) (v := ?_) (fun _ _ _ h => h) hHeld (fun w hSw => ?_) ?_
  rotate_left
  · (try dsimp only at hSw); go_simp <;> (with_reducible rfl)
  (try simp only [Act.put, List.setIfInBounds_toArray, List.set_cons_zero, List.set_cons_succ])
  refine rg_in 7 rfl (by kernel_rfl) (by kernel_rfl) (by kernel_rfl) (by rfl) (v := ?_) (fun _ _ _ h => h) hHeld (fun w hSw => ?_) ?_
  rotate_left
  · (try dsimp only at hSw); go_simp <;> (with_reducible rfl)
  (try simp only [Act.put, List.setIfInBounds_toArray, List.set_cons_zero, List.set_cons_succ])
  refine rg_in 8 rfl (by kernel_rfl) (by kernel_rfl) (by kernel_rfl) (by rfl) (v := ?_) (fun _ _ _ h => h) hHeld (fun w hSw => ?_) ?_
  rotate_left
  · (try dsimp only at hSw); go_simp <;> (with_reducible rfl)
  (try simp only [Act.put, List.setIfInBounds_toArray, List.set_cons_zero, List.set_cons_succ])
  refine rg_in 9 rfl (by kernel_rfl) (by kernel_rfl) (by kernel_rfl) (by rfl) (v := ?_) (fun _ _ _ h => h) hHeld (fun w hSw => ?_) ?_
  rotate_left
  · (try dsimp only at hSw); go_simp <;> (with_reducible rfl)
  (try simp only [Act.put, List.setIfInBounds_toArray, List.set_cons_zero, List.set_cons_succ])
  refine rg_in 10 rfl (by kernel_rfl) (by kernel_rfl) (by kernel_rfl) (by rfl) (v := ?_) (fun _ _ _ h => h) hHeld (fun w hSw => ?_) ?_
  rotate_left
  · (try dsimp only at hSw); go_simp <;> (with_reducible rfl)
  (try simp only [Act.put, List.setIfInBounds_toArray, List.set_cons_zero, List.set_cons_succ])
  refine rg_in 11 rfl (by kernel_rfl) (by kernel_rfl) (by kernel_rfl) (by rfl) (v := ?_) (fun _ _ _ h => h) hHeld (fun w hSw => ?_) ?_
  rotate_left
  · (try dsimp only at hSw); go_simp <;> (with_reducible rfl)
  (try simp only [Act.put, List.setIfInBounds_toArray, List.set_cons_zero, List.set_cons_succ])
  refine rg_in 12 rfl (by kernel_rfl) (by kernel_rfl) (by kernel_rfl) (by rfl) (v := ?_) (fun _ _ _ h => h) hHeld (fun w hSw => ?_) ?_
  rotate_left
  · (try dsimp only at hSw); go_simp <;> (with_reducible rfl)
  (try simp only [Act.put, List.setIfInBounds_toArray, List.set_cons_zero, List.set_cons_succ])
  refine rg_in 13 rfl (by kernel_rfl) (by kernel_rfl) (by kernel_rfl) (by rfl) (v := ?_) (fun _ _ _ h => h) hHeld (fun w hSw => ?_) ?_
  rotate_left
  · (try dsimp only at hSw); go_simp <;> (with_reducible rfl)
  (try simp only [Act.put, List.setIfInBounds_toArray, List.set_cons_zero, List.set_cons_succ])
  refine rg_in 14 rfl (by kernel_rfl) (by kernel_rfl) (by kernel_rfl) (by rfl) (v := ?_) (fun _ _ _ h => h) hHeld (fun w hSw => ?_) ?_
  rotate_left
  · (try dsimp only at hSw); go_simp <;> (with_reducible rfl)
  (try simp only [Act.put, List.setIfInBounds_toArray, List.set_cons_zero, List.set_cons_succ])
  refine rg_in 15 rfl (by kernel_rfl) (by kernel_rfl) (by kernel_rfl) (by rfl) (v := ?_) (fun _ _ _ h => h) hHeld (fun w hSw => ?_) ?_
  rotate_left
  · (try dsimp only at hSw); go_simp <;> (with_reducible rfl)
  (try simp only [Act.put, List.setIfInBounds_toArray, List.set_cons_zero, List.set_cons_succ])
  refine rg_in 16 rfl (by kernel_rfl) (by kernel_rfl) (by kernel_rfl) (by rfl) (v := ?_) (fun _ _ _ h => h) hHeld (fun w hSw => ?_) ?_
  rotate_left
  · (try dsimp only at hSw); go_simp <;> (with_reducible rfl)
  (try simp only [Act.put, List.setIfInBounds_toArray, List.set_cons_zero, List.set_cons_succ])
  refine rg_in 17 rfl (by kernel_rfl) (by kernel_rfl) (by kernel_rfl) (by rfl) (v := ?_) (fun _ _ _ h => h) hHeld (fun w hSw => ?_) ?_
  rotate_left
  · (try dsimp only at hSw); go_simp <;> (with_reducible rfl)
  (try simp only [Act.put, List.setIfInBounds_toArray, List.set_cons_zero, List.set_cons_succ])
  refine wpAnyH_ready (rs := [4, 18]) (by kernel_rfl) (by simp) ?_
  refine rg_cons rfl (by rfl) (fun K hK => ?_) ?_
  · have hcs := short_any base A0 n0 c0 l0 ⟨kA, kn, kc, kl⟩ B W1.drew hO0d hb0s HKd.out hB hkn (by omega)
    go_simp
    (go_at_call 58; (with_reducible refine hcs.mono ?_); (rintro e w104 ⟨A1, n1, c1, rfl, hO1, hG1⟩))
    have hk1 := hG1.blk hO0d hHeld.2.1 (by decide)
    have hk2 := hG1.blk hO0d hHeld.2.2 (by decide)
    have HL1 := Lib.hid (put_lens hO1)
    have hn1 : n1 ≤ 95000 := by rw [HL1.out, List.length_append, ← HL0.out, List.length_cons, hkl]; omega
    refine hK.out _ _ (box_ki hk1 hk2) (fun hHeld => ?_)
    clear hK K
    (try simp only [Act.put, List.setIfInBounds_toArray, List.set_cons_zero, List.set_cons_succ])
    refine rg_do 18 rfl (by kernel_rfl) (by rfl) (fun K hK => ?_)
    refine step_rowsB _ _ 3 _ rfl 2 iN _ Try.underlying122 hiN hzN hsN #[.int .u64 (na : Int), .int .i64 4, .int .u64 (nc : Int), .int .i64 4, .int .u64 (ni : Int), .int .i64 4] (fillN3 _ _ _ _ _ _ rfl rfl rfl) (by decide) (by decide) ?_
    intro g118 w118 hge18 hbx18 hb18
    refine hK.out _ _ (box_ki (blk_later hHeld.2.1 hb18) (blk_later hHeld.2.2 hb18)) (fun hHeld => ?_)
    clear hK K
    (try simp only [Act.put, List.setIfInBounds_toArray, List.set_cons_zero, List.set_cons_succ])
    refine rg_do 19 rfl (by kernel_rfl) (by rfl) (fun K hK => ?_)
    have hcl := nlaid_any base A1 n1 c1 _ (some ⟨g118, 0, none⟩) 3 3 [(na, 4), (nc, 4), (ni, 4)] w118 (own_later hO1 hb18) (Nat.le_trans (Nat.le_trans hb0s hG1.size) hb18.size) ⟨_, rfl, hbx18⟩ rfl HU3.out (by omega) (by omega)
    go_simp
    (go_at_call 59; (with_reducible refine hcl.mono ?_); (rintro e w119 ⟨A2, n2, c2, rfl, hO2, hG2⟩))
    have hk3 := hG2.blk (own_later hO1 hb18) hHeld.2.1 (by decide)
    have hk4 := hG2.blk (own_later hO1 hb18) hHeld.2.2 (by decide)
    refine hK.out _ _ (box_ki hk3 hk4) (fun hHeld => ?_)
    clear hK K
    (try simp only [Act.put, List.setIfInBounds_toArray, List.set_cons_zero, List.set_cons_succ])
    refine rg_in 20 rfl (by kernel_rfl) (by kernel_rfl) (by kernel_rfl) (by rfl) (v := ?_) (fun _ _ _ h => h) hHeld (fun w hSw => ?_) ?_
    rotate_left
    · (try dsimp only at hSw); go_simp <;> (with_reducible rfl)
    (try simp only [Act.put, List.setIfInBounds_toArray, List.set_cons_zero, List.set_cons_succ])
    refine wpAnyH_done (by kernel_rfl) ?_ _
    have hG9 := ((hGd.call hG1).later hb18).call hG2
    have hk9 := hHeld
    have HL2 := Lib.hid (put_lens hO2)
    have hn2 : n2 ≤ 96000 := by rw [HL2.out, List.length_append, ← HL1.out, nn_len]; simp only [List.map_cons, List.map_nil, List.sum_cons, List.sum_nil]; omega
    have f2 : w119.cell? ⟨w.heap.size + 1, 2, none⟩ = some (.int .i64 hi) := by rw [cell_of_row _ _ _ _ _ _ hk9.2.2]; rfl
    have f3 : w119.cell? ⟨w.heap.size + 1, 3, none⟩ = some (.int .u64 (ul : Int)) := by rw [cell_of_row _ _ _ _ _ _ hk9.2.2]; rfl
    have f4 : w119.cell? ⟨w.heap.size + 1, 4, none⟩ = some (.int .i64 l) := by rw [cell_of_row _ _ _ _ _ _ hk9.2.2]; rfl
    have f5 : w119.cell? ⟨w.heap.size + 1, 5, none⟩ = some (.int .i64 m) := by rw [cell_of_row _ _ _ _ _ _ hk9.2.2]; rfl
    clear hHeld hk9 hk1 hk2 hk3 hk4
    have hbl := heap_alloc_new w119 (.cells #[.int .u64 (nh : Int), .int .i64 8, .int .u64 (ul : Int), .int .i64 8, .int .u64 (nl : Int), .int .i64 8, .int .u64 (nm : Int), .int .i64 8] 96)
    have hcl4 := nlaid_any base A2 n2 c2 _ (some ⟨w119.heap.size, 0, none⟩) 4 4 [(nh, 8), (ul, 8), (nl, 8), (nm, 8)] _ (hO2.alloc (.cells #[.int .u64 (nh : Int), .int .i64 8, .int .u64 (ul : Int), .int .i64 8, .int .u64 (nl : Int), .int .i64 8, .int .u64 (nm : Int), .int .i64 8] 96)) (by rw [World.size_alloc]; have h1 := hG9.size; omega) ⟨_, rfl, hbl⟩ rfl HU4.out (by omega) (by omega)
    have HGa := Lib.hid (hG9.alloc (.cells #[.int .u64 (nh : Int), .int .i64 8, .int .u64 (ul : Int), .int .i64 8, .int .u64 (nl : Int), .int .i64 8, .int .u64 (nm : Int), .int .i64 8] 96))
    clear hbl hG1 hG2 hG9 hO1 hO2 hO0d hGd hbk hbr hcl hcs
    go_wp2_with fail
    generalize w119.alloc (.cells #[.int .u64 (nh : Int), .int .i64 8, .int .u64 (ul : Int), .int .i64 8, .int .u64 (nl : Int), .int .i64 8, .int .u64 (nm : Int), .int .i64 8] 96) = W9 at *
    refine hcl4.mono ?_
    rintro e W10 ⟨A3, n3, c3, rfl, hO3, hG3⟩
    clear f2 f3 f4 f5
    go_wp2
    (first | rw [Exit.noGoto_ret] | skip)
    refine bodyPost_ret (v := .slice A3 n3 c3) ?_ rfl ⟨A3, n3, c3, rfl, ?_, HGa.out.call hG3⟩
    · simp [results, Try.results43, go_sem, *]
    · rw [HPL.out]
      exact hO3
  refine rg_cons rfl (by rfl) (fun K hK => ?_) ?_
  · refine step_rowsB _ _ 3 _ rfl 2 iN _ Try.underlying122 hiN hzN hsN #[.int .u64 (na : Int), .int .i64 4, .int .u64 (nc : Int), .int .i64 4, .int .u64 (ni : Int), .int .i64 4] (fillN3 _ _ _ _ _ _ rfl rfl rfl) (by decide) (by decide) ?_
    intro g118 w118 hge18 hbx18 hb18
    refine hK.out _ _ (box_ki (blk_later hHeld.2.1 hb18) (blk_later hHeld.2.2 hb18)) (fun hHeld => ?_)
    clear hK K
    (try simp only [Act.put, List.setIfInBounds_toArray, List.set_cons_zero, List.set_cons_succ])
    refine rg_do 4 rfl (by kernel_rfl) (by rfl) (fun K hK => ?_)
    have hcs := short_any base A0 n0 c0 l0 ⟨kA, kn, kc, kl⟩ B w118 (own_later hO0d hb18) (Nat.le_trans hb0s hb18.size) ((HKd.out.later (hb18.mono (Nat.le_trans hB hb0s)))) hB hkn (by omega)
    go_simp
    (go_at_call 58; (with_reducible refine hcs.mono ?_); (rintro e w104 ⟨A1, n1, c1, rfl, hO1, hG1⟩))
    have hk1 := hG1.blk (own_later hO0d hb18) hHeld.2.1 (by decide)
    have hk2 := hG1.blk (own_later hO0d hb18) hHeld.2.2 (by decide)
    have HL1 := Lib.hid (put_lens hO1)
    have hn1 : n1 ≤ 95000 := by rw [HL1.out, List.length_append, ← HL0.out, List.length_cons, hkl]; omega
    have hbx := hG1.blk (own_later hO0d hb18) hbx18 (by decide)
    refine hK.out _ _ (box_ki hk1 hk2) (fun hHeld => ?_)
    clear hK K
    (try simp only [Act.put, List.setIfInBounds_toArray, List.set_cons_zero, List.set_cons_succ])
    refine rg_do 19 rfl (by kernel_rfl) (by rfl) (fun K hK => ?_)
    have hcl := nlaid_any base A1 n1 c1 _ (some ⟨g118, 0, none⟩) 3 3 [(na, 4), (nc, 4), (ni, 4)] w104 hO1 (Nat.le_trans (Nat.le_trans hb0s hb18.size) hG1.size) ⟨_, rfl, hbx⟩ rfl HU3.out (by omega) (by omega)
    go_simp
    (go_at_call 59; (with_reducible refine hcl.mono ?_); (rintro e w119 ⟨A2, n2, c2, rfl, hO2, hG2⟩))
    have hk3 := hG2.blk hO1 hHeld.2.1 (by decide)
    have hk4 := hG2.blk hO1 hHeld.2.2 (by decide)
    refine hK.out _ _ (box_ki hk3 hk4) (fun hHeld => ?_)
    clear hK K
    (try simp only [Act.put, List.setIfInBounds_toArray, List.set_cons_zero, List.set_cons_succ])
    refine rg_in 20 rfl (by kernel_rfl) (by kernel_rfl) (by kernel_rfl) (by rfl) (v := ?_) (fun _ _ _ h => h) hHeld (fun w hSw => ?_) ?_
    rotate_left
    · (try dsimp only at hSw); go_simp <;> (with_reducible rfl)
    (try simp only [Act.put, List.setIfInBounds_toArray, List.set_cons_zero, List.set_cons_succ])
    refine wpAnyH_done (by kernel_rfl) ?_ _
    have hG9 := ((hGd.later hb18).call hG1).call hG2
    have hk9 := hHeld
    have HL2 := Lib.hid (put_lens hO2)
    have hn2 : n2 ≤ 96000 := by rw [HL2.out, List.length_append, ← HL1.out, nn_len]; simp only [List.map_cons, List.map_nil, List.sum_cons, List.sum_nil]; omega
    have f2 : w119.cell? ⟨w.heap.size + 1, 2, none⟩ = some (.int .i64 hi) := by rw [cell_of_row _ _ _ _ _ _ hk9.2.2]; rfl
    have f3 : w119.cell? ⟨w.heap.size + 1, 3, none⟩ = some (.int .u64 (ul : Int)) := by rw [cell_of_row _ _ _ _ _ _ hk9.2.2]; rfl
    have f4 : w119.cell? ⟨w.heap.size + 1, 4, none⟩ = some (.int .i64 l) := by rw [cell_of_row _ _ _ _ _ _ hk9.2.2]; rfl
    have f5 : w119.cell? ⟨w.heap.size + 1, 5, none⟩ = some (.int .i64 m) := by rw [cell_of_row _ _ _ _ _ _ hk9.2.2]; rfl
    clear hHeld hk9 hk1 hk2 hk3 hk4
    have hbl := heap_alloc_new w119 (.cells #[.int .u64 (nh : Int), .int .i64 8, .int .u64 (ul : Int), .int .i64 8, .int .u64 (nl : Int), .int .i64 8, .int .u64 (nm : Int), .int .i64 8] 96)
    have hcl4 := nlaid_any base A2 n2 c2 _ (some ⟨w119.heap.size, 0, none⟩) 4 4 [(nh, 8), (ul, 8), (nl, 8), (nm, 8)] _ (hO2.alloc (.cells #[.int .u64 (nh : Int), .int .i64 8, .int .u64 (ul : Int), .int .i64 8, .int .u64 (nl : Int), .int .i64 8, .int .u64 (nm : Int), .int .i64 8] 96)) (by rw [World.size_alloc]; have h1 := hG9.size; omega) ⟨_, rfl, hbl⟩ rfl HU4.out (by omega) (by omega)
    have HGa := Lib.hid (hG9.alloc (.cells #[.int .u64 (nh : Int), .int .i64 8, .int .u64 (ul : Int), .int .i64 8, .int .u64 (nl : Int), .int .i64 8, .int .u64 (nm : Int), .int .i64 8] 96))
    clear hbl hG1 hG2 hG9 hO1 hO2 hO0d hGd hbk hbr hcl hcs
    go_wp2_with fail
    generalize w119.alloc (.cells #[.int .u64 (nh : Int), .int .i64 8, .int .u64 (ul : Int), .int .i64 8, .int .u64 (nl : Int), .int .i64 8, .int .u64 (nm : Int), .int .i64 8] 96) = W9 at *
    refine hcl4.mono ?_
    rintro e W10 ⟨A3, n3, c3, rfl, hO3, hG3⟩
    clear f2 f3 f4 f5
    go_wp2
    (first | rw [Exit.noGoto_ret] | skip)
    refine bodyPost_ret (v := .slice A3 n3 c3) ?_ rfl ⟨A3, n3, c3, rfl, ?_, HGa.out.call hG3⟩
    · simp [results, Try.results43, go_sem, *]
    · rw [HPL.out]
      exact hO3
  exact AllReadyH.nil
end Go.Proofs.Ytnfohlabmidliaa
/-
  Encode.
-/
namespace Go.Proofs.Ytnfohlabmidliaa
open Go.RowKit
set_option linter.unusedVariables false

/-- The bytes of a node. -/
def markN (b : Bool) : UInt8 := if b then 1 else 2
def NoT.enc (X : NoT) : List UInt8 := [markN X.leaf, UInt8.ofNat X.ents.length] ++ X.ents.flatMap EnT.put
def EncP (X : NoT) (W : World) (e : Ending) (w' : World) : Prop :=
  Below W.heap.size W w' ∧ ((X.okB = false ∧ e = .returned (.tuple #[.slice none 0 0, .int .i64 240])) ∨
    (X.okB = true ∧ ∃ A n c, e = .returned (.tuple #[.slice A n c, .int .i64 0]) ∧ w'.ownsRow W.heap.size 5 1 (.slice A n c) n (X.enc.map bv)))
theorem keyB_len {l : List UInt8} (h : keyB l = true) : 1 ≤ l.length ∧ l.length ≤ 120 := of_decide_eq_true h
theorem it_okB {x : ItT} (h : x.okB = true) : (1 ≤ x.k.l.length ∧ x.k.l.length ≤ 120) ∧ x.v.l.length ≤ 100 ∧ (x.b = true ∨ x.n = 0) := by
  unfold ItT.okB at h
  simp only [Bool.and_eq_true, Bool.or_eq_true, decide_eq_true_eq] at h
  exact ⟨keyB_len h.1.1, h.1.2, h.2⟩
theorem ki_okB {x : KiT} (h : x.okB = true) : (1 ≤ x.k.l.length ∧ x.k.l.length ≤ 120) ∧ (1 ≤ x.a ∧ x.a < 524288) ∧ x.r.valid = true ∧ 1 ≤ x.r.c := by
  unfold KiT.okB at h
  simp only [Bool.and_eq_true, decide_eq_true_eq] at h
  exact ⟨keyB_len h.1.1.1.1, ⟨h.1.1.1.2, h.1.1.2⟩, h.1.2, h.2⟩
theorem put_len {x : EnT} (h : x.okB = true) : x.put.length ≤ 240 := by
  cases x with
  | it x =>
    have hx := it_okB (x := x) h
    show (putIL x.k.l x.v.l x.b x.n).length ≤ 240
    unfold putIL
    rw [List.length_append, List.length_append, List.length_cons, List.length_cons, nn_len]
    simp only [List.map_cons, List.map_nil, List.sum_cons, List.sum_nil]
    omega
  | ki x =>
    have hx := ki_okB (x := x) h
    show (putKL x.k.l _ _ _ _ _ _ _).length ≤ 240
    unfold putKL
    rw [List.length_append, List.length_append, List.length_cons, nn_len, nn_len]
    simp only [List.map_cons, List.map_nil, List.sum_cons, List.sum_nil]
    omega
theorem put_any (base : Nat) (A0 : Option Addr) (n0 c0 : Nat) (l0 : List UInt8) (x : EnT) (B : Nat) (w : World) (h0 : w.ownsRow base 5 1 (.slice A0 n0 c0) n0 (l0.map bv)) (hbase : base ≤ w.heap.size) (hx : x.Ok w B) (hB : B ≤ base) (hok : x.okB = true) (hn0 : n0 ≤ 90000) :
    Calls Try.prog 43 #[.slice A0 n0 c0, x.val] w (LaysB base (.slice A0 n0 c0) (l0 ++ x.put) w) := by
  cases x with
  | it x =>
    have h := it_okB (x := x) hok
    have h1 := (ItT.Ok.key hx).len
    have h2 := (ItT.Ok.val hx).len
    exact putI_any base A0 n0 c0 l0 x B w h0 hbase hx hB (by omega) (by omega) hn0
  | ki x =>
    have h := ki_okB (x := x) hok
    have h1 := (KiT.Ok.key hx).len
    exact putK_any base A0 n0 c0 l0 x B w h0 hbase hx hB (by omega) hn0
set_option maxRecDepth 20000 in
set_option maxHeartbeats 2000000 in
theorem encode_any (X : NoT) (B : Nat) (w : World) (hX : LieN w B X) (hB : B ≤ w.heap.size) :
    Calls Try.prog 22 #[X.agg] w (EncP X w) := by
  have hb := bel_alloc (Below.refl w.heap.size w) (.cells #[.bool X.leaf, .slice X.iA X.iN X.iC, .slice X.kA X.kN X.kC] 25)
  have hcall := checked_any X B _ (hX.later (hb.mono hB)) (Nat.le_trans hB hb.size)
  have hagg : X.agg = .agg #[.bool X.leaf, .slice X.iA X.iN X.iC, .slice X.kA X.kN X.kC] := rfl
  rw [hagg] at hcall ⊢
  have HX := Lib.hid hX
  have hleaf : (w.alloc (.cells #[.bool X.leaf, .slice X.iA X.iN X.iC, .slice X.kA X.kN X.kC] 25)).cell? ⟨w.heap.size, 0, none⟩ = some (.bool X.leaf) := World.cell?_alloc_new _ _ _ 0
  clear hX hagg
  go_enter Try.func22, Try.ntmps22
  go_wp2_with fail
  generalize w.alloc (.cells #[.bool X.leaf, .slice X.iA X.iN X.iC, .slice X.kA X.kN X.kC] 25) = W1 at *
  refine hcall.mono ?_
  rintro e w2 ⟨hb2, ⟨hok, rfl⟩ | ⟨hok, A, n, c, rfl, hn, hO⟩⟩
  · have hb3 := bel_alloc (bel_next hb hb2) (.cells #[.int .i64 0, .int .i64 0, .int .i64 0, .int .u64 0, .int .i64 0, .int .i64 0] 37)
    have HK := Lib.hid hok
    clear hb2 hok hcall hleaf hb
    go_wp2
    go_ret2
    exact ⟨hb3, .inl ⟨HK.out, rfl⟩⟩
  · have hl := shape_len HX.out (okB_parts hok).1
    have HAll := Lib.hid (runOk_all _ _ (okB_parts hok).2.1)
    have hsz2 := (bel_next hb hb2).size
    have HE := Lib.hid (fun x hx => (ents_ok HX.out x hx).later ((bel_next hb hb2).mono hB))
    obtain ⟨R, hR⟩ : ∃ R, X.all.1 = R := ⟨_, rfl⟩
    rw [hR]
    clear hR
    have HK := Lib.hid hok
    have HN := Lib.hid hn
    have hn6 : n ≤ 6 := by omega
    have hb3 := bel_next hb hb2
    have hleaf := mkept_later hb2 hleaf
    obtain ⟨W3, hW3⟩ : ∃ W3, w2.alloc (.cells #[.int .i64 R.c, .int .i64 R.i, .int .i64 (hiI R.v), .int .u64 (loI R.v), .int .i64 R.l, .int .i64 R.m] 37) = W3 := ⟨_, rfl⟩
    have hb23 : Below w2.heap.size w2 W3 := by rw [← hW3]; exact bel_alloc (Below.refl _ _) _
    have hb4 := bel_next hb3 hb23
    have hleaf := mkept_later hb23 hleaf
    have hO3 := own_later hO hb23
    have HW3 := Lib.hid hW3
    have HE3 := Lib.hid (fun x hx => (HE.out x hx).later (hb23.mono (Nat.le_trans hB hsz2)))
    have hcnt : IntKind.u8.wrap (n : Int) = (n : Int) := by rw [IntKind.wrap_u8]; omega
    have hm8 : (n : Int) % 256 = (n : Int) := by omega
    clear hb2 hok hcall hb hn hl hW3 HE hb23 hO hb3
    go_upto_region 4 with fail
    rw [HW3.out]
    clear HW3
    obtain ⟨leaf, hlf⟩ : ∃ z, X.leaf = z := ⟨_, rfl⟩
    have HLF := Lib.hid hlf
    rw [hlf] at hleaf
    clear hlf
    obtain ⟨mk, hmk⟩ : ∃ z : UInt8, markN leaf = z := ⟨_, rfl⟩
    have hmv : ((mk.toNat : Nat) : Int) = if leaf then 1 else 2 := by rw [← hmk]; cases leaf <;> rfl
    have HMK := Lib.hid hmk
    have hw4 : w.heap.size ≤ W3.heap.size := hb4.size
    have hO4 : (W3.alloc (.cells #[bv mk, .int .u8 (n : Int)] 5)).ownsRow w.heap.size 5 1 (.slice (some ⟨W3.heap.size, 0, none⟩) 2 2) 2 (([mk, UInt8.ofNat n] ++ ((X.ents.take 0).flatMap EnT.put)).map bv) := by
      have h := World.ownsRow_lit (base := w.heap.size) (e := 5) (size := 1) W3 #[bv mk, .int .u8 (n : Int)] 2 hw4 (by unfold maxLen; omega) rfl
      have e : [bv mk, Value.int .u8 (n : Int)] = ([mk, UInt8.ofNat n] ++ ((X.ents.take 0).flatMap EnT.put)).map bv := by
        simp only [List.take_zero, List.flatMap_nil, List.append_nil, List.map_cons, List.map_nil, nu8_nat, hm8]
      rw [← e]
      exact h
    have hbm : bv mk = .int .u8 (if leaf then 1 else 2) := by unfold bv; rw [hmv]
    rw [hbm] at hO4
    have hOe := hO3.alloc (.cells #[.int .u8 (if leaf then 1 else 2), .int .u8 (n : Int)] 5)
    have HB5 := Lib.hid (bel_alloc hb4 (.cells #[.int .u8 (if leaf then 1 else 2), .int .u8 (n : Int)] 5))
    have HE5 := Lib.hid (fun x hx => (HE3.out x hx).later ((bel_alloc (Below.refl W3.heap.size W3) (.cells #[.int .u8 (if leaf then 1 else 2), .int .u8 (n : Int)] 5)).mono (Nat.le_trans hB hw4)))
    have HO4 := Lib.hid hO4
    have HOe := Lib.hid hOe
    obtain ⟨g0, hg0⟩ : ∃ g0, W3.heap.size = g0 := ⟨_, rfl⟩
    rw [hg0] at HO4
    have HG0 := Lib.hid hg0
    clear hmv hbm hmk hO4 hOe hO3 hm8 HE3 hb4 hg0
    cases leaf
    · simp only [Bool.false_eq_true, if_false] at HO4 HOe HB5 HE5
      go_upto_region 8 with fail
      rw [HG0.out]
      generalize W3.alloc (.cells #[.int .u8 2, .int .u8 (n : Int)] 5) = W4 at *
      clear HG0 hcnt
      go_wp2_with fail
      go_loopw [8, 28] (fun v y wr => ∃ (k : Nat) (A1 : Option Addr) (n1 c1 : Nat), k ≤ n ∧ y = .int .i64 k ∧ v = .slice A1 n1 c1 ∧ n1 ≤ 2 + 240 * k ∧ Hid (wr.ownsRow w.heap.size 5 1 (.slice A1 n1 c1) n1 (([mk, UInt8.ofNat n] ++ ((X.ents.take k).flatMap EnT.put)).map bv)) ∧ Hid (Gr (.slice (some ⟨g0, 0, none⟩) 2 2) W4 (.slice A1 n1 c1) wr)) (fun _ y _ => n - (intOf y).toNat)
      case atStart => exact ⟨0, _, 2, 2, Nat.zero_le _, rfl, rfl, by omega, HO4, Lib.hid (Gr.refl _ _)⟩
      case round =>
        obtain ⟨k, A1, n1, c1, hk, rfl, rfl, hn1, HO, HG⟩ := hrel
        have hbr := HG.out.below HO4.out HB5.out.size
        by_cases hlt : k < n
        · have hEr : EntsL wr wr.heap.size A n X.ents := ⟨Shows.own (HG.out.row HO4.out HOe.out (by decide)), fun x hx => by
            have h := (HE5.out x hx).later (hbr.mono hB)
            have hsz := Nat.le_trans hB (Nat.le_trans HB5.out.size HG.out.size)
            cases x
            · exact ItT.Ok.more h hsz
            · exact KiT.Ok.more h hsz⟩
          obtain ⟨b, off, x, rfl, hbB, hx, x0⟩ := hEr.cell hlt
          have hlt' : (k : Int) < (n : Int) := by omega
          have HX2 := Lib.hid (flatN_take EnT.put hx)
          have hok := HAll.out x (List.mem_of_getElem? hx)
          have hpl := put_len hok
          have hcp := put_any w.heap.size A1 n1 c1 _ x B wr HO.out (Nat.le_trans HB5.out.size HG.out.size) ((HE5.out x (List.mem_of_getElem? hx)).later (hbr.mono hB)) hB hok (by omega)
          clear hEr hx hok hbr
          rcases x with x | x <;> simp only [EnT.val] at x0 hcp <;>
          · go_wp2_with fail
            refine hcp.mono ?_
            rintro e w5 ⟨A2, n2, c2, rfl, hO2, hG2⟩
            have HO2 := Lib.hid hO2
            have hn2 : n2 ≤ 2 + 240 * (k + 1) := by
              have h1 := put_lens hO2
              have h2 := put_lens HO.out
              rw [List.length_append] at h1
              omega
            have HG3 := Lib.hid (HG.out.call hG2)
            clear hcp x0 hO2 hG2 HO HG hpl
            go_wp2
            go_roundw
            case rel => exact ⟨k + 1, A2, n2, c2, by omega, by go_num, rfl, hn2, Lib.hid (by rw [HX2.out, ← List.append_assoc]; exact HO2.out), HG3⟩
            case measure => simp [intOf]; omega
        · obtain rfl : n = k := by omega
          have hbz := HB5.out.trans hbr
          have HE9 := Lib.hid (show X.enc = [mk, UInt8.ofNat n] ++ ((X.ents.take n).flatMap EnT.put) by
            unfold NoT.enc
            rw [List.take_of_length_le (by rw [← HN.out]; exact Nat.le_refl _), HLF.out, HMK.out, ← HN.out])
          clear hbr
          go_wp2
          go_ret2
          exact ⟨hbz, .inr ⟨HK.out, A1, n1, c1, rfl, by rw [HE9.out]; exact HO.out⟩⟩
    · simp only [if_true] at HO4 HOe HB5 HE5
      go_upto_region 8 with fail
      rw [HG0.out]
      generalize W3.alloc (.cells #[.int .u8 1, .int .u8 (n : Int)] 5) = W4 at *
      clear HG0 hcnt
      go_wp2_with fail
      go_loopw [8, 28] (fun v y wr => ∃ (k : Nat) (A1 : Option Addr) (n1 c1 : Nat), k ≤ n ∧ y = .int .i64 k ∧ v = .slice A1 n1 c1 ∧ n1 ≤ 2 + 240 * k ∧ Hid (wr.ownsRow w.heap.size 5 1 (.slice A1 n1 c1) n1 (([mk, UInt8.ofNat n] ++ ((X.ents.take k).flatMap EnT.put)).map bv)) ∧ Hid (Gr (.slice (some ⟨g0, 0, none⟩) 2 2) W4 (.slice A1 n1 c1) wr)) (fun _ y _ => n - (intOf y).toNat)
      case atStart => exact ⟨0, _, 2, 2, Nat.zero_le _, rfl, rfl, by omega, HO4, Lib.hid (Gr.refl _ _)⟩
      case round =>
        obtain ⟨k, A1, n1, c1, hk, rfl, rfl, hn1, HO, HG⟩ := hrel
        have hbr := HG.out.below HO4.out HB5.out.size
        by_cases hlt : k < n
        · have hEr : EntsL wr wr.heap.size A n X.ents := ⟨Shows.own (HG.out.row HO4.out HOe.out (by decide)), fun x hx => by
            have h := (HE5.out x hx).later (hbr.mono hB)
            have hsz := Nat.le_trans hB (Nat.le_trans HB5.out.size HG.out.size)
            cases x
            · exact ItT.Ok.more h hsz
            · exact KiT.Ok.more h hsz⟩
          obtain ⟨b, off, x, rfl, hbB, hx, x0⟩ := hEr.cell hlt
          have hlt' : (k : Int) < (n : Int) := by omega
          have HX2 := Lib.hid (flatN_take EnT.put hx)
          have hok := HAll.out x (List.mem_of_getElem? hx)
          have hpl := put_len hok
          have hcp := put_any w.heap.size A1 n1 c1 _ x B wr HO.out (Nat.le_trans HB5.out.size HG.out.size) ((HE5.out x (List.mem_of_getElem? hx)).later (hbr.mono hB)) hB hok (by omega)
          clear hEr hx hok hbr
          rcases x with x | x <;> simp only [EnT.val] at x0 hcp <;>
          · go_wp2_with fail
            refine hcp.mono ?_
            rintro e w5 ⟨A2, n2, c2, rfl, hO2, hG2⟩
            have HO2 := Lib.hid hO2
            have hn2 : n2 ≤ 2 + 240 * (k + 1) := by
              have h1 := put_lens hO2
              have h2 := put_lens HO.out
              rw [List.length_append] at h1
              omega
            have HG3 := Lib.hid (HG.out.call hG2)
            clear hcp x0 hO2 hG2 HO HG hpl
            go_wp2
            go_roundw
            case rel => exact ⟨k + 1, A2, n2, c2, by omega, by go_num, rfl, hn2, Lib.hid (by rw [HX2.out, ← List.append_assoc]; exact HO2.out), HG3⟩
            case measure => simp [intOf]; omega
        · obtain rfl : n = k := by omega
          have hbz := HB5.out.trans hbr
          have HE9 := Lib.hid (show X.enc = [mk, UInt8.ofNat n] ++ ((X.ents.take n).flatMap EnT.put) by
            unfold NoT.enc
            rw [List.take_of_length_le (by rw [← HN.out]; exact Nat.le_refl _), HLF.out, HMK.out, ← HN.out])
          clear hbr
          go_wp2
          go_ret2
          exact ⟨hbz, .inr ⟨HK.out, A1, n1, c1, rfl, by rw [HE9.out]; exact HO.out⟩⟩
end Go.Proofs.Ytnfohlabmidliaa
/-
  Layer 14, plain: how bytes are read as a node.
-/
namespace Go.Proofs.Ytnfohlabmidliaa
open Go.RowKit
set_option linter.unusedVariables false

namespace Nod
/-- So many bytes, and the rest. -/
def cutL (n : Nat) (b : List UInt8) : Option (List UInt8 × List UInt8) := if b.length < n then none else some (b.take n, b.drop n)
theorem cut_some {n : Nat} {b l r : List UInt8} (h : cutL n b = some (l, r)) : b = l ++ r ∧ l.length = n := by
  unfold cutL at h
  split at h
  · cases h
  · injection h with h
    injection h with h1 h2
    subst h1 h2
    exact ⟨(List.take_append_drop n b).symm, by rw [List.length_take]; omega⟩
theorem cut_append (l r : List UInt8) : cutL l.length (l ++ r) = some (l, r) := by
  unfold cutL
  rw [if_neg (by rw [List.length_append]; omega), List.take_left, List.drop_left]
def numO (n : Nat) (b : List UInt8) : Option (Nat × List UInt8) := (cutL n b).map fun p => (rdN p.1, p.2)
theorem num_some {n x : Nat} {b r : List UInt8} (h : numO n b = some (x, r)) : b = hiL x n ++ r ∧ x < 256 ^ n := by
  unfold numO at h
  cases hc : cutL n b with
  | none => rw [hc] at h; cases h
  | some p =>
    rw [hc] at h
    injection h with h
    injection h with h1 h2
    obtain ⟨l, r'⟩ := p
    simp only at h1 h2
    subst h1 h2
    obtain ⟨e, hl⟩ := cut_some hc
    rw [hi_back n l hl]
    exact ⟨e, rd_lt n l hl⟩
theorem num_hi (n x : Nat) (r : List UInt8) (h : x < 256 ^ n) : numO n (hiL x n ++ r) = some (x, r) := by
  have hc := cut_append (hiL x n) r
  rw [hi_len] at hc
  unfold numO
  rw [hc]
  show some (rdN (hiL x n), r) = _
  rw [rd_hi, Nat.mod_eq_of_lt h]
def textO (b : List UInt8) : Option (List UInt8 × List UInt8) := (numO 1 b).bind fun p => cutL p.1 p.2
theorem hi_one (x : Nat) : hiL x 1 = [UInt8.ofNat x] := rfl
theorem text_some {b l r : List UInt8} (h : textO b = some (l, r)) : b = (UInt8.ofNat l.length :: l) ++ r ∧ l.length ≤ 255 := by
  unfold textO at h
  cases hn : numO 1 b with
  | none => rw [hn] at h; cases h
  | some p =>
    obtain ⟨x, r'⟩ := p
    rw [hn] at h
    have h' : cutL x r' = some (l, r) := h
    obtain ⟨e1, hx⟩ := num_some hn
    obtain ⟨e2, hl⟩ := cut_some h'
    rw [e1, e2, hl, hi_one]
    exact ⟨by simp, by have : (256 : Nat) ^ 1 = 256 := rfl; omega⟩
theorem text_put (l r : List UInt8) (h : l.length ≤ 255) : textO ((UInt8.ofNat l.length :: l) ++ r) = some (l, r) := by
  have h1 := num_hi 1 l.length (l ++ r) (by omega)
  rw [hi_one] at h1
  unfold textO
  rw [show (UInt8.ofNat l.length :: l) ++ r = [UInt8.ofNat l.length] ++ (l ++ r) by simp, h1]
  exact cut_append l r
/-- A number of 64 bits with its sign. -/
def i64n (x : Nat) : Int := if x < 9223372036854775808 then (x : Int) else (x : Int) - 18446744073709551616
theorem i64n_r (x : Nat) (h : x < 18446744073709551616) : R64 (i64n x) := by
  unfold i64n R64
  split <;> omega
theorem u64n_i (x : Nat) (h : x < 18446744073709551616) : u64n (i64n x) = x := by
  unfold u64n i64n
  split <;> omega
theorem i64n_u (z : Int) (h : R64 z) : i64n (u64n z) = z := by
  unfold R64 at h
  unfold u64n i64n
  split <;> omega
end Nod
/-- What an item's bytes say: its key, its value, its number. -/
structure ItS where
  k : List UInt8
  v : List UInt8
  b : Bool
  n : Int
structure KiS where
  k : List UInt8
  a : Int
  r : RedT
def ItT.s (x : ItT) : ItS := ⟨x.k.l, x.v.l, x.b, x.n⟩
def KiT.s (x : KiT) : KiS := ⟨x.k.l, x.a, x.r⟩
def ItS.put (x : ItS) : List UInt8 := putIL x.k x.v x.b x.n
def KiS.put (x : KiS) : List UInt8 := putKL x.k x.a x.r.c x.r.i (hiI x.r.v) (loI x.r.v) x.r.l x.r.m
namespace Nod
open Go.Proofs.Ytnfohlabmidliaa
def itemO (b : List UInt8) : Option (ItS × List UInt8) := (textO b).bind fun k => (textO k.2).bind fun v => (numO 1 v.2).bind fun f => (numO 8 f.2).bind fun n => if f.1 ≤ 1 then some (⟨k.1, v.1, decide (f.1 = 1), i64n n.1⟩, n.2) else none
def kidO (b : List UInt8) : Option (KiS × List UInt8) := (textO b).bind fun k => (numO 4 k.2).bind fun a => (numO 4 a.2).bind fun c => (numO 4 c.2).bind fun i => (numO 8 i.2).bind fun h => (numO 8 h.2).bind fun lo => (numO 8 lo.2).bind fun l => (numO 8 l.2).bind fun m =>
  some (⟨k.1, (a.1 : Int), ⟨(c.1 : Int), (i.1 : Int), i64n h.1 * 18446744073709551616 + (lo.1 : Int), i64n l.1, i64n m.1⟩⟩, m.2)
def itemsO : Nat → List UInt8 → Option (List ItS × List UInt8)
  | 0, b => some ([], b)
  | n + 1, b => (itemO b).bind fun x => (itemsO n x.2).bind fun l => some (x.1 :: l.1, l.2)
def kidsO : Nat → List UInt8 → Option (List KiS × List UInt8)
  | 0, b => some ([], b)
  | n + 1, b => (kidO b).bind fun x => (kidsO n x.2).bind fun l => some (x.1 :: l.1, l.2)
theorem item_some {b r : List UInt8} {x : ItS} (h : itemO b = some (x, r)) : b = x.put ++ r ∧ x.k.length ≤ 255 ∧ x.v.length ≤ 255 ∧ R64 x.n := by
  unfold itemO at h
  cases h1 : textO b with
  | none => rw [h1] at h; cases h
  | some k =>
  rw [h1] at h
  cases h2 : textO k.2 with
  | none => simp only [Option.bind_some] at h; rw [h2] at h; cases h
  | some v =>
  simp only [Option.bind_some] at h; rw [h2] at h
  cases h3 : numO 1 v.2 with
  | none => simp only [Option.bind_some] at h; rw [h3] at h; cases h
  | some f =>
  simp only [Option.bind_some] at h; rw [h3] at h
  cases h4 : numO 8 f.2 with
  | none => simp only [Option.bind_some] at h; rw [h4] at h; cases h
  | some n =>
  simp only [Option.bind_some] at h; rw [h4] at h
  simp only [Option.bind_some] at h
  split at h
  · rename_i hf
    injection h with h
    injection h with hx hr
    subst hx hr
    obtain ⟨e1, l1⟩ := text_some (l := k.1) (r := k.2) h1
    obtain ⟨e2, l2⟩ := text_some (l := v.1) (r := v.2) h2
    obtain ⟨e3, l3⟩ := num_some (x := f.1) (r := f.2) h3
    obtain ⟨e4, l4⟩ := num_some (x := n.1) (r := n.2) h4
    have l4' : n.1 < 18446744073709551616 := l4
    refine ⟨?_, l1, l2, i64n_r _ l4'⟩
    unfold ItS.put putIL
    simp only [List.flatMap_cons, List.flatMap_nil, List.append_nil]
    unfold nnL
    simp only
    rw [u64n_i _ l4', e1, e2, e3, e4]
    have hff : (if decide (f.1 = 1) = true then 1 else 0 : Nat) = f.1 := by
      rcases (show f.1 = 0 ∨ f.1 = 1 by omega) with e | e <;> simp [e]
    rw [hff]
    simp only [List.append_assoc, List.cons_append]
  · cases h
theorem item_put (x : ItS) (r : List UInt8) (hk : x.k.length ≤ 255) (hv : x.v.length ≤ 255) (hn : R64 x.n) : itemO (x.put ++ r) = some (x, r) := by
  obtain ⟨k, v, b, n⟩ := x
  simp only at hk hv hn
  have e : ItS.put ⟨k, v, b, n⟩ ++ r = (UInt8.ofNat k.length :: k) ++ ((UInt8.ofNat v.length :: v) ++ (hiL (if b then 1 else 0) 1 ++ (hiL (u64n n) 8 ++ r))) := by
    unfold ItS.put putIL
    simp only [List.flatMap_cons, List.flatMap_nil, List.append_nil]
    unfold nnL
    simp only [List.append_assoc]
  rw [e]
  unfold itemO
  rw [text_put k _ hk]
  simp only [Option.bind_some]
  rw [text_put v _ hv]
  simp only [Option.bind_some]
  rw [num_hi 1 _ _ (by cases b <;> decide)]
  simp only [Option.bind_some]
  rw [num_hi 8 _ _ (u64n_lt n)]
  simp only [Option.bind_some]
  rw [if_pos (by cases b <;> decide), i64n_u n hn]
  cases b <;> rfl
theorem step4 {n : Nat} {b r : List UInt8} {x : Nat} (h : numO n b = some (x, r)) : numO n b = some (x, r) := h
theorem kid_some {b r : List UInt8} {x : KiS} (h : kidO b = some (x, r)) : b = x.put ++ r ∧ x.k.length ≤ 255 ∧ R64 x.a ∧ x.r.ok := by
  unfold kidO at h
  cases h1 : textO b with
  | none => rw [h1] at h; cases h
  | some k =>
  rw [h1] at h
  cases h2 : numO 4 k.2 with
  | none => simp only [Option.bind_some] at h; rw [h2] at h; cases h
  | some a =>
  simp only [Option.bind_some] at h; rw [h2] at h
  cases h3 : numO 4 a.2 with
  | none => simp only [Option.bind_some] at h; rw [h3] at h; cases h
  | some c =>
  simp only [Option.bind_some] at h; rw [h3] at h
  cases h4 : numO 4 c.2 with
  | none => simp only [Option.bind_some] at h; rw [h4] at h; cases h
  | some i =>
  simp only [Option.bind_some] at h; rw [h4] at h
  cases h5 : numO 8 i.2 with
  | none => simp only [Option.bind_some] at h; rw [h5] at h; cases h
  | some hh =>
  simp only [Option.bind_some] at h; rw [h5] at h
  cases h6 : numO 8 hh.2 with
  | none => simp only [Option.bind_some] at h; rw [h6] at h; cases h
  | some lo =>
  simp only [Option.bind_some] at h; rw [h6] at h
  cases h7 : numO 8 lo.2 with
  | none => simp only [Option.bind_some] at h; rw [h7] at h; cases h
  | some l =>
  simp only [Option.bind_some] at h; rw [h7] at h
  cases h8 : numO 8 l.2 with
  | none => simp only [Option.bind_some] at h; rw [h8] at h; cases h
  | some m =>
  simp only [Option.bind_some] at h; rw [h8] at h
  simp only [Option.bind_some] at h
  injection h with h
  injection h with hx hr
  subst hx hr
  obtain ⟨e1, l1⟩ := text_some (l := k.1) (r := k.2) h1
  obtain ⟨e2, l2⟩ := num_some (x := a.1) (r := a.2) h2
  obtain ⟨e3, l3⟩ := num_some (x := c.1) (r := c.2) h3
  obtain ⟨e4, l4⟩ := num_some (x := i.1) (r := i.2) h4
  obtain ⟨e5, l5⟩ := num_some (x := hh.1) (r := hh.2) h5
  obtain ⟨e6, l6⟩ := num_some (x := lo.1) (r := lo.2) h6
  obtain ⟨e7, l7⟩ := num_some (x := l.1) (r := l.2) h7
  obtain ⟨e8, l8⟩ := num_some (x := m.1) (r := m.2) h8
  have l2' : a.1 < 4294967296 := l2
  have l3' : c.1 < 4294967296 := l3
  have l4' : i.1 < 4294967296 := l4
  have l5' : hh.1 < 18446744073709551616 := l5
  have l6' : lo.1 < 18446744073709551616 := l6
  have l7' : l.1 < 18446744073709551616 := l7
  have l8' : m.1 < 18446744073709551616 := l8
  have hr5 := i64n_r _ l5'
  obtain ⟨q1, q2, q3⟩ := hl_mk (i64n hh.1) (lo.1 : Int) hr5 ⟨by omega, by omega⟩
  have q2' : hiI (i64n hh.1 * 18446744073709551616 + (lo.1 : Int)) = i64n hh.1 ∧ loI (i64n hh.1 * 18446744073709551616 + (lo.1 : Int)) = (lo.1 : Int) := ⟨q2, q3⟩
  refine ⟨?_, l1, by unfold R64; simp only; omega, by unfold R64; simp only; omega, by unfold R64; simp only; omega, q1, i64n_r _ l7', i64n_r _ l8'⟩
  unfold KiS.put putKL
  simp only [List.flatMap_cons, List.flatMap_nil, List.append_nil]
  unfold nnL
  simp only
  rw [q2'.1, q2'.2, u64n_i _ l5', u64n_i _ l7', u64n_i _ l8', u64n_nat _ l6', u64n_nat a.1 (by omega), u64n_nat c.1 (by omega), u64n_nat i.1 (by omega)]
  simp only [List.append_assoc, List.cons_append]
  rw [← e8, ← e7, ← e6, ← e5, ← e4, ← e3, ← e2]
  exact e1
theorem kid_put (x : KiS) (r : List UInt8) (hk : x.k.length ≤ 255) (ha : 0 ≤ x.a ∧ x.a < 4294967296) (hc : 0 ≤ x.r.c ∧ x.r.c < 4294967296) (hi : 0 ≤ x.r.i ∧ x.r.i < 4294967296) (hr : x.r.ok) : kidO (x.put ++ r) = some (x, r) := by
  obtain ⟨k, a, ⟨c, i, v, l, m⟩⟩ := x
  simp only at hk ha hc hi
  obtain ⟨-, -, hv, hl, hm⟩ := hr
  simp only at hv hl hm
  have hh := hi_bound v
  have hlo := lo_bound v
  have e : KiS.put ⟨k, a, ⟨c, i, v, l, m⟩⟩ ++ r = (UInt8.ofNat k.length :: k) ++ (hiL (u64n a) 4 ++ (hiL (u64n c) 4 ++ (hiL (u64n i) 4 ++ (hiL (u64n (hiI v)) 8 ++ (hiL (u64n (loI v)) 8 ++ (hiL (u64n l) 8 ++ (hiL (u64n m) 8 ++ r))))))) := by
    unfold KiS.put putKL
    simp only [List.flatMap_cons, List.flatMap_nil, List.append_nil]
    unfold nnL
    simp only [List.append_assoc]
  have a1 : u64n a < 256 ^ 4 := by show u64n a < 4294967296; unfold u64n; omega
  have a2 : u64n c < 256 ^ 4 := by show u64n c < 4294967296; unfold u64n; omega
  have a3 : u64n i < 256 ^ 4 := by show u64n i < 4294967296; unfold u64n; omega
  have b1 : ((u64n a : Nat) : Int) = a := by unfold u64n; omega
  have b2 : ((u64n c : Nat) : Int) = c := by unfold u64n; omega
  have b3 : ((u64n i : Nat) : Int) = i := by unfold u64n; omega
  have b4 : ((u64n (loI v) : Nat) : Int) = loI v := by unfold u64n; omega
  rw [e]
  unfold kidO
  rw [text_put k _ hk]
  simp only [Option.bind_some]
  rw [num_hi 4 _ _ a1]
  simp only [Option.bind_some]
  rw [num_hi 4 _ _ a2]
  simp only [Option.bind_some]
  rw [num_hi 4 _ _ a3]
  simp only [Option.bind_some]
  rw [num_hi 8 _ _ (u64n_lt _)]
  simp only [Option.bind_some]
  rw [num_hi 8 _ _ (u64n_lt _)]
  simp only [Option.bind_some]
  rw [num_hi 8 _ _ (u64n_lt _)]
  simp only [Option.bind_some]
  rw [num_hi 8 _ _ (u64n_lt _)]
  simp only [Option.bind_some]
  rw [b1, b2, b3, b4, i64n_u _ hh, i64n_u _ hl, i64n_u _ hm, show hiI v * 18446744073709551616 + loI v = v by rw [hi_in v hv]; unfold loI; omega]
end Nod
end Go.Proofs.Ytnfohlabmidliaa
/-
  decode: take, num.
-/
namespace Go.Proofs.Ytnfohlabmidliaa
open Go.RowKit
set_option linter.unusedVariables false

/-- Only the two blocks of a reader have turned. -/
structure Tk (gb gk : Nat) (w w' : World) : Prop where
  os : w'.os = w.os
  tape : w'.tape = w.tape
  output : w'.output = w.output
  size : w'.heap.size = w.heap.size
  block : ∀ k, k ≠ gb → k ≠ gk → w'.heap[k]? = w.heap[k]?
theorem Tk.refl (gb gk : Nat) (w : World) : Tk gb gk w w := ⟨rfl, rfl, rfl, rfl, fun _ _ _ => rfl⟩
theorem Tk.trans {gb gk : Nat} {a b c : World} (h : Tk gb gk a b) (k : Tk gb gk b c) : Tk gb gk a c :=
  ⟨k.os.trans h.os, k.tape.trans h.tape, k.output.trans h.output, k.size.trans h.size, fun i h1 h2 => (k.block i h1 h2).trans (h.block i h1 h2)⟩
theorem Tk.drew {gb gk : Nat} {a b : World} (h : Tk gb gk a b) : Tk gb gk a b.drew := ⟨h.os, h.tape, h.output, h.size, h.block⟩
theorem Tk.undrew {gb gk : Nat} {a b : World} (h : Tk gb gk a.drew b) : Tk gb gk a b := ⟨h.os, h.tape, h.output, h.size, h.block⟩
theorem Tk.set {gb gk g : Nat} (w : World) (h : g = gb ∨ g = gk) (v : Value) : Tk gb gk w (w.setCell ⟨g, 0, none⟩ v) :=
  ⟨by simp [World.setCell], by simp [World.setCell], by simp [World.setCell], by simp [World.setCell], fun i h1 h2 => Below.heap_setCell w ⟨g, 0, none⟩ v i (by show i ≠ g; rcases h with rfl | rfl <;> assumption)⟩
theorem Tk.below {gb gk B : Nat} {w w' : World} (h : Tk gb gk w w') (hb : B ≤ gb) (hk : B ≤ gk) : Below B w w' :=
  ⟨h.os, h.tape, h.output, by rw [h.size]; exact Nat.le_refl _, fun i hi => h.block i (by omega) (by omega)⟩
theorem Tk.row {gb gk base size n : Nat} {e : TypeId} {v : Value} {xs : List Value} {w w' : World} (h : Tk gb gk w w') (hb : gb < base) (hk : gk < base) (ho : w.ownsRow base e size v n xs) : w'.ownsRow base e size v n xs := by
  refine ⟨ho.1, ?_⟩
  rcases ho.2 with h2 | ⟨g, cap, cur, hv, hg, hh, r⟩
  · exact .inl h2
  · exact .inr ⟨g, cap, cur, hv, hg, (h.block g (by omega) (by omega)).trans hh, r⟩
/-- What is left to read, and whether all went well. -/
structure Rs (W : World) (gb gk B : Nat) (p : PcT) (ok : Bool) : Prop where
  b : W.heap[gb]? = some (.cells #[.slice p.A p.n p.c] 32 (0, 0))
  k : W.heap[gk]? = some (.cells #[.bool ok] 4 (0, 0))
  p : p.Ok W B
theorem Rs.drew {W : World} {gb gk B : Nat} {p : PcT} {ok : Bool} (h : Rs W gb gk B p ok) : Rs W.drew gb gk B p ok := ⟨h.b, h.k, h.p.later (below_drewN (Below.refl _ _) 1)⟩
theorem Rs.undrew {W : World} {gb gk B : Nat} {p : PcT} {ok : Bool} (h : Rs W.drew gb gk B p ok) : Rs W gb gk B p ok := ⟨h.b, h.k, ⟨h.p.here, h.p.nil, h.p.fits, h.p.most⟩⟩
theorem Rs.cells {W : World} {gb gk B : Nat} {p : PcT} {ok : Bool} (h : Rs W gb gk B p ok) : W.cell? ⟨gb, 0, none⟩ = some (.slice p.A p.n p.c) ∧ W.cell? ⟨gk, 0, none⟩ = some (.bool ok) ∧ W.frozen? ⟨gb, 0, none⟩ = false ∧ W.frozen? ⟨gk, 0, none⟩ = false := by
  refine ⟨?_, ?_, ?_, ?_⟩
  · rw [cell_of_row _ _ _ _ _ _ h.b]; rfl
  · rw [cell_of_row _ _ _ _ _ _ h.k]; rfl
  · simp [World.frozen?, h.b]
  · simp [World.frozen?, h.k]
theorem set_blk {W : World} {g : Nat} {v u : Value} {t : TypeId} (h : W.heap[g]? = some (.cells #[v] t (0, 0))) (hc : u.oneCell' = true) : (W.setCell ⟨g, 0, none⟩ u).heap[g]? = some (.cells #[u] t (0, 0)) := by
  obtain ⟨hlt, he⟩ := Array.getElem?_eq_some_iff.1 h
  simp [World.setCell, hlt, Array.getElem_modify, he]
theorem set_oth {W : World} {g k : Nat} {v : Value} (h : k ≠ g) : (W.setCell ⟨g, 0, none⟩ v).heap[k]? = W.heap[k]? := Below.heap_setCell W ⟨g, 0, none⟩ v k h

set_option maxRecDepth 20000 in
set_option maxHeartbeats 2000000 in
theorem take_no (gb gk B : Nat) (p : PcT) (ok : Bool) (n : Nat) (w : World) (h : Rs w gb gk B p ok) (hne : gb ≠ gk) (hB : B ≤ gb ∧ B ≤ gk) (hn : p.n < n) (hn2 : n < 1000000) :
    Calls Try.prog 60 #[.int .i64 (n : Nat), .pointer (some ⟨gb, 0, none⟩), .pointer (some ⟨gk, 0, none⟩)] w fun e w' => e = .returned (.slice none 0 0) ∧ Rs w' gb gk B ⟨none, 0, 0, []⟩ false ∧ Tk gb gk w w' := by
  obtain ⟨c0, c1, f0, f1⟩ := h.cells
  have HH := Lib.hid h
  have hn' : (p.n : Int) < (n : Int) := by omega
  have hT := (Tk.set w (.inr rfl) (.bool false) : Tk gb gk w _).trans (Tk.set (w.setCell ⟨gk, 0, none⟩ (.bool false)) (.inl rfl) (.slice none 0 0))
  have hR : Rs ((w.setCell ⟨gk, 0, none⟩ (.bool false)).setCell ⟨gb, 0, none⟩ (.slice none 0 0)) gb gk B ⟨none, 0, 0, []⟩ false :=
    ⟨set_blk ((set_oth hne).trans h.b) rfl, (set_oth hne.symm).trans (set_blk h.k rfl), ⟨Bytes.zero _, fun _ => rfl, Nat.le_refl _, Nat.zero_le _⟩⟩
  have hng : ¬ gk = gb := fun e => hne e.symm
  clear h
  obtain ⟨A, pn, pc, l⟩ := p
  simp only at *
  go_enter Try.func60, Try.ntmps60
  go_wp2
  go_ret
  exact ⟨rfl, hR, hT⟩
def TakeP (gb gk B n : Nat) (p : PcT) (ok : Bool) (w : World) (e : Ending) (w' : World) : Prop :=
  ∃ h q : PcT, e = .returned (.slice h.A h.n h.c) ∧ h.l = p.l.take n ∧ h.n = n ∧ h.c = n ∧ q.l = p.l.drop n ∧ h.Ok w' B ∧ Rs w' gb gk B q ok ∧ Tk gb gk w w'
set_option maxRecDepth 20000 in
set_option maxHeartbeats 2000000 in
theorem take_ok (gb gk B : Nat) (p : PcT) (ok : Bool) (n : Nat) (w : World) (h : Rs w gb gk B p ok) (hne : gb ≠ gk) (hB : B ≤ gb ∧ B ≤ gk) (hn : n ≤ p.n) (hn2 : n < 1000000) :
    Calls Try.prog 60 #[.int .i64 (n : Nat), .pointer (some ⟨gb, 0, none⟩), .pointer (some ⟨gk, 0, none⟩)] w (TakeP gb gk B n p ok w) := by
  obtain ⟨c0, c1, f0, f1⟩ := h.cells
  have hfit := h.p.fits
  have hmost := h.p.most
  have hnot : ((p.n : Int) < (n : Int)) = False := by simp; omega
  have hn1 : (n : Int) ≤ (p.n : Int) := by omega
  have hn3 : (n : Int) ≤ (p.c : Int) := by omega
  have hn4 : (p.n : Int) ≤ (p.c : Int) := by omega
  have hcut := (Bytes.cut h.p.here hn hfit)
  have hfst := (Bytes.first h.p.here hn)
  have hnil := h.p.nil
  have HB := Lib.hid h.b
  have HK := Lib.hid h.k
  clear h
  obtain ⟨A, pn, pc, l⟩ := p
  simp only at *
  unfold maxLen at hmost
  by_cases hcn : pc = n
  · subst hcn
    obtain rfl : pn = pc := by omega
    rw [if_pos rfl] at hcut
    have hR : Rs (w.setCell ⟨gb, 0, none⟩ (.slice A 0 0)) gb gk B ⟨A, 0, 0, l.drop pn⟩ ok :=
      ⟨set_blk HB.out rfl, (set_oth hne.symm).trans HK.out, ⟨by rw [Nat.sub_self] at hcut; exact hcut.setCell hB.1 _, fun _ => rfl, Nat.le_refl _, Nat.zero_le _⟩⟩
    have hH : PcT.Ok (w.setCell ⟨gb, 0, none⟩ (.slice A 0 0)) B ⟨A, pn, pn, l.take pn⟩ := ⟨hfst.setCell hB.1 _, hnil, Nat.le_refl _, by simp only; unfold maxLen; omega⟩
    have hT := (Tk.set w (.inl rfl) (.slice A 0 0) : Tk gb gk w _)
    clear hcut hfst hnil
    go_enter Try.func60, Try.ntmps60
    go_wp2
    go_ret
    exact ⟨⟨A, pn, pn, l.take pn⟩, ⟨A, 0, 0, l.drop pn⟩, rfl, rfl, rfl, rfl, rfl, hH, hR, hT⟩
  · rw [if_neg hcn] at hcut
    have hcn' : ¬ (pc : Int) = (n : Int) := by omega
    obtain ⟨A2, hA2⟩ : ∃ A2, A.map (·.add n) = A2 := ⟨_, rfl⟩
    rw [hA2] at hcut
    have hR : Rs (w.setCell ⟨gb, 0, none⟩ (.slice A2 (pn - n : Nat) (pc - n : Nat))) gb gk B ⟨A2, pn - n, pc - n, l.drop n⟩ ok :=
      ⟨set_blk HB.out rfl, (set_oth hne.symm).trans HK.out, ⟨hcut.setCell hB.1 _, fun e => by
        have : A = none := by cases A with | none => rfl | some a => rw [← hA2] at e; cases e
        have := hnil this
        simp only
        omega, by simp only; omega, by simp only; unfold maxLen; omega⟩⟩
    have hH : PcT.Ok (w.setCell ⟨gb, 0, none⟩ (.slice A2 (pn - n : Nat) (pc - n : Nat))) B ⟨A, n, n, l.take n⟩ := ⟨hfst.setCell hB.1 _, fun e => by have := hnil e; simp only; omega, Nat.le_refl _, by simp only; unfold maxLen; omega⟩
    have hT := (Tk.set w (.inl rfl) (.slice A2 (pn - n : Nat) (pc - n : Nat)) : Tk gb gk w _)
    clear hcut hfst hnil
    go_enter Try.func60, Try.ntmps60
    go_wp2
    go_ret
    exact ⟨⟨A, n, n, l.take n⟩, ⟨A2, pn - n, pc - n, l.drop n⟩, rfl, rfl, rfl, rfl, rfl, hH, hR, hT⟩
end Go.Proofs.Ytnfohlabmidliaa
