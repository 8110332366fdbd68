import Derived.Test.YtnfohlabmidliaaVNodRe
import Derived.Test.YtnfohlabmidliaaGah
import Derived.Test.YtnfohlabmidliaaGag
import Derived.Test.YtnfohlabmidliaaGac
/-
  The reference's Bytes of a right node.
-/
namespace Go.Proofs.Ytnfohlabmidliaa
open Go.RowKit
set_option linter.unusedVariables false
set_option linter.unusedSimpArgs false

theorem shows_blk {W : World} {g m size : Nat} {C : Array Value} {t : TypeId} {fr : Nat × Nat} (h : W.heap[g]? = some (.cells C t fr)) (hl : C.toList.length = m * size) : Shows W (g + 1) size (some ⟨g, 0, none⟩) m C.toList :=
  ⟨hl, fun _ => ⟨g, 0, rfl, by omega, fun j u hu => by
    rw [cell_of_row _ _ _ _ _ _ h, Nat.zero_add]
    simpa using hu⟩⟩
theorem box_it4 {W : World} {g : Nat} {kA vA : Option Addr} {kn kc vn vc : Nat} {b : Bool} {n : Int} {t : TypeId} (h : W.heap[g]? = some (.cells #[.slice kA kn kc, .slice vA vn vc, .bool b, .int .i64 n] t (0, 0))) :
    ((W.cell? ⟨g, 0, none⟩ = some (.slice kA kn kc) ∧ W.cell? ⟨g, 1, none⟩ = some (.slice vA vn vc)) ∧ (W.cell? ⟨g, 2, none⟩ = some (.bool b) ∧ W.cell? ⟨g, 3, none⟩ = some (.int .i64 n))) ∧ W.heap[g]? = some (.cells #[.slice kA kn kc, .slice vA vn vc, .bool b, .int .i64 n] t (0, 0)) :=
  ⟨⟨⟨by rw [cell_of_row _ _ _ _ _ _ h]; rfl, by rw [cell_of_row _ _ _ _ _ _ h]; rfl⟩, by rw [cell_of_row _ _ _ _ _ _ h]; rfl, by rw [cell_of_row _ _ _ _ _ _ h]; rfl⟩, h⟩
theorem box_ki1 {W : World} {g : Nat} {a0 a1 a2 a3 a4 a5 a6 a7 : Value} {t : TypeId} (h : W.heap[g]? = some (.cells #[a0, a1, a2, a3, a4, a5, a6, a7] t (0, 0))) : W.cell? ⟨g, 0, none⟩ = some a0 ∧ W.heap[g]? = some (.cells #[a0, a1, a2, a3, a4, a5, a6, a7] t (0, 0)) :=
  ⟨by rw [cell_of_row _ _ _ _ _ _ h]; rfl, h⟩
theorem box_ki8 {W : World} {g : Nat} {a0 a1 a2 a3 a4 a5 a6 a7 : Value} {t : TypeId} (h : W.heap[g]? = some (.cells #[a0, a1, a2, a3, a4, a5, a6, a7] t (0, 0))) :
    (W.cell? ⟨g, 0, none⟩ = some a0 ∧ W.cell? ⟨g, 1, none⟩ = some a1 ∧ W.cell? ⟨g, 2, none⟩ = some a2 ∧ W.cell? ⟨g, 3, none⟩ = some a3 ∧ W.cell? ⟨g, 4, none⟩ = some a4 ∧ W.cell? ⟨g, 5, none⟩ = some a5 ∧ W.cell? ⟨g, 6, none⟩ = some a6 ∧ W.cell? ⟨g, 7, none⟩ = some a7) ∧ True := by
  refine ⟨⟨?_, ?_, ?_, ?_, ?_, ?_, ?_, ?_⟩, trivial⟩ <;> (rw [cell_of_row _ _ _ _ _ _ h]; rfl)
theorem nhigh_at (x n : Nat) (z : Int) (hz : z = (n : Int)) (w : World) (hx : x < 18446744073709551616) (hn : 1 ≤ n ∧ n ≤ 8) :
    Calls Try.prog 44 #[.int .u64 (x : Int), .int .i64 z] w fun e w' => ∃ A c, e = .returned (.slice A n c) ∧ w'.ownsRow w.heap.size 5 1 (.slice A n c) n ((Nod.hiL x n).map bv) ∧ Below w.heap.size w w' := by
  subst hz
  refine (nhigh_any x n w hx hn).mono ?_
  rintro e w' ⟨A, m, c, rfl, hO, hb⟩
  have h1 := put_lens hO
  rw [Nod.hi_len] at h1
  subst h1
  exact ⟨A, c, rfl, hO, hb⟩
theorem fillB1 (z : Int) : Instr.fill (fun q => some (q * 1, 1)) ((Array.range (1 * 1)).map ((Value.int .u8 0).cells[· % (Value.int .u8 0).cells.size]!)) [(0, .int .u8 z)] = some #[.int .u8 z] := by
  have e : Array.range (1 * 1) = #[0] := by first | rfl | decide
  rw [e]
  simp [Instr.fill, Value.cells]
theorem own_under {W : World} {D n : Nat} {t : TypeId} {v : Value} {xs : List Value} (h : W.ownsRow D t 1 v n xs) : ∀ k, v.ownBlock = some k → k < W.heap.size := fun k hk => (World.ownsRow.lt h k hk).2
theorem own_apart {W W' : World} {base m : Nat} {t : TypeId} {v vh : Value} {ys : List Value} (hH : W.ownsRow base t 1 vh m ys) (hg : W.grownBy W' v.ownBlock) (hlt : ∀ k, v.ownBlock = some k → k < base) : W'.ownsRow base t 1 vh m ys := by
  refine hH.kept hg ?_
  cases hv : vh.ownBlock with
  | none => exact .inl rfl
  | some k =>
    refine .inr fun e => ?_
    have h1 := (World.ownsRow.lt hH k hv).1
    have h2 := hlt k e.symm
    omega
theorem it_put_v (x : ItT) (b f : Bool) (hb : x.b = b) (xs : List Value) (un : Nat) (hun : u64n x.n = un) (hk : x.k.l.length ≤ 255) (hv : x.v.l.length ≤ 255) (z : Int) (hz : z = if b then 1 else 0) :
    xs ++ (EnT.it x).put.map bv = xs ++ [.int .u8 (x.k.l.length : Int)] ++ x.k.l.map bv ++ [.int .u8 (x.v.l.length : Int)] ++ x.v.l.map bv ++ [.int .u8 z] ++ (Nod.hiL un 8).map bv := by
  have e1 : bv (UInt8.ofNat x.k.l.length) = .int .u8 (x.k.l.length : Int) := by rw [nu8_nat]; congr 1; omega
  have e2 : bv (UInt8.ofNat x.v.l.length) = .int .u8 (x.v.l.length : Int) := by rw [nu8_nat]; congr 1; omega
  have e3 : (Nod.hiL (if b then 1 else 0) 1).map bv = [.int .u8 z] := by rw [hz]; cases b <;> rfl
  show xs ++ (putIL x.k.l x.v.l x.b x.n).map bv = _
  unfold putIL nnL
  rw [hun, hb]
  simp only [List.flatMap_cons, List.flatMap_nil, List.append_nil, List.map_append, List.map_cons, e1, e2, e3, List.append_assoc, List.cons_append, List.nil_append]
theorem ki_put_v (x : KiT) (xs : List Value) (ua uc ui uh rl ue um : Nat) (ha : u64n x.a = ua) (hc : u64n x.r.c = uc) (hi : u64n x.r.i = ui) (hh : u64n (hiI x.r.v) = uh) (hl : u64n (loI x.r.v) = rl) (he : u64n x.r.l = ue) (hm : u64n x.r.m = um) (hk : x.k.l.length ≤ 255) :
    xs ++ (EnT.ki x).put.map bv = xs ++ [.int .u8 (x.k.l.length : Int)] ++ x.k.l.map bv ++ (Nod.hiL ua 4).map bv ++ (Nod.hiL uc 4).map bv ++ (Nod.hiL ui 4).map bv ++ (Nod.hiL uh 8).map bv ++ (Nod.hiL rl 8).map bv ++ (Nod.hiL ue 8).map bv ++ (Nod.hiL um 8).map bv := by
  have e1 : bv (UInt8.ofNat x.k.l.length) = .int .u8 (x.k.l.length : Int) := by rw [nu8_nat]; congr 1; omega
  show xs ++ (putKL x.k.l x.a x.r.c x.r.i (hiI x.r.v) (loI x.r.v) x.r.l x.r.m).map bv = _
  unfold putKL nnL
  rw [ha, hc, hi, hh, hl, he, hm]
  simp only [List.flatMap_cons, List.flatMap_nil, List.append_nil, List.map_append, List.map_cons, e1, List.append_assoc, List.cons_append, List.nil_append]
set_option maxRecDepth 20000 in
set_option maxHeartbeats 4000000 in
theorem rBytes_leaf (X : NoT) (B : Nat) (w : World) (hX : LieN w B X) (hB : B ≤ w.heap.size) (hok : X.okB = true) (hlf : X.leaf = true) :
    Calls Try.prog 23 #[X.agg] w (GivesBytes 5 X.enc w) := by
  have hb := bel_alloc (Below.refl w.heap.size w) (.cells #[.bool X.leaf, .slice X.iA X.iN X.iC, .slice X.kA X.kN X.kC] 25)
  have hn := NBox.new w (.bool X.leaf) (.slice X.iA X.iN X.iC) (.slice X.kA X.kN X.kC) 25
  have hagg : X.agg = .agg #[.bool X.leaf, .slice X.iA X.iN X.iC, .slice X.kA X.kN X.kC] := rfl
  rw [hagg]
  have hXL := hX.later (hb.mono hB)
  have hil := hX.ilen
  obtain ⟨hsh, hru, -⟩ := okB_parts hok
  have HAll := Lib.hid (runOk_all _ _ hru)
  have hen : X.ents = X.I.map .it := by unfold NoT.ents; rw [if_pos hlf]
  have hn6 := (shape_len hX hsh).1
  rw [hen, List.length_map, hil] at hn6
  have HE := Lib.hid hen
  have henc : X.enc = [1, UInt8.ofNat X.iN] ++ (X.I.map EnT.it).flatMap EnT.put := by
    unfold NoT.enc
    rw [hlf, hen, List.length_map, hil]
    rfl
  rw [henc]
  rw [hlf] at hb hn hXL ⊢
  have HN := Lib.hid hn
  have HX := Lib.hid hXL
  have HIL := Lib.hid hil
  obtain ⟨N, hN⟩ : ∃ N, X.iN = N := ⟨_, rfl⟩
  have HNN := Lib.hid hN
  rw [hN] at hn6 hb HN HX ⊢
  obtain ⟨⟨m0, m1, m2⟩, -⟩ := HN.out
  clear hX hagg hXL hen hlf henc hok hsh hru hn hil hN
  obtain ⟨i0, hi, hz0, hz1, hz2⟩ := u8_info
  have hw8 : IntKind.u8.wrap (N : Int) = (N : Int) := by rw [IntKind.wrap_u8]; omega
  go_enter Try.func23, Try.ntmps23
  go_upto_region 2 with fail
  generalize w.alloc (.cells #[.bool true, .slice X.iA N X.iC, .slice X.kA X.kN X.kC] 25) = W0 at *
  have hlit := World.ownsRow_lit (base := W0.heap.size) (e := 5) (size := 1) W0 #[.int .u8 1, .int .u8 (N : Int)] 2 (Nat.le_refl _) (by unfold maxLen; omega) rfl
  have hbl := bel_alloc (Below.refl W0.heap.size W0) (.cells #[.int .u8 1, .int .u8 (N : Int)] 5)
  have HLIT := Lib.hid hlit
  have HBL := Lib.hid hbl
  clear hlit hbl
  go_upto_region 4 with fail
  obtain ⟨g0, hg0⟩ : ∃ g0, W0.heap.size = g0 := ⟨_, rfl⟩
  generalize W0.alloc (.cells #[.int .u8 1, .int .u8 (N : Int)] 5) = W1 at *
  have HG0 := Lib.hid hg0
  have hO1 := HLIT.out
  rw [hg0] at hO1 ⊢
  have hbD := HBL.out
  rw [hg0] at hbD
  have hwD : w.heap.size ≤ g0 := by rw [← hg0]; exact hb.size
  have hBD : B ≤ g0 := Nat.le_trans hB hwD
  obtain ⟨D, hD⟩ : ∃ D, g0 = D := ⟨_, rfl⟩
  rw [hD] at hbD hwD hBD
  have hO1 : W1.ownsRow D 5 1 (.slice (some ⟨g0, 0, none⟩) 2 2) 2 [.int .u8 1, .int .u8 (N : Int)] := by rw [← hD]; exact hO1
  have HN1 := Lib.hid (HN.out.later HBL.out)
  have HX1 := Lib.hid (HX.out.later (HBL.out.mono (by rw [hg0, hD]; exact hBD)))
  have HW1 := Lib.hid (show Below w.heap.size w W1 from bel_next hb HBL.out)
  have hD1 : D ≤ W1.heap.size := by rw [← hD, ← hg0]; exact HBL.out.size
  have HO1 := Lib.hid hO1
  have HVL : Hid (∀ k, k ≤ N → (([1, UInt8.ofNat N] ++ ((X.I.take k).map EnT.it).flatMap EnT.put).map bv) = [.int .u8 1, .int .u8 (N : Int)] ++ (((X.I.take k).map EnT.it).flatMap EnT.put).map bv) := Lib.hid (fun k _ => by
    rw [List.map_append]
    congr 1
    simp only [List.map_cons, List.map_nil, nu8_nat]
    rw [show (N : Int) % 256 = (N : Int) by omega]
    rfl)
  obtain ⟨⟨m0, m1, m2⟩, -⟩ := HN1.out
  have hgn : w.heap.size < D := by
    have h1 : W0.heap.size = D := hg0.trans hD
    rw [← h1]
    exact World.block_lt_of_cell? W0 _ HN.out.1.1
  have hb1 : Below w.heap.size w W1 := HW1.out
  clear hb hO1 HLIT HBL HN HX hw8 hg0 hD HG0
  go_wp2_with fail
  go_loopw [3, 4] (fun v y wr => ∃ (k : Nat) (A : Option Addr) (n c : Nat), k ≤ N ∧ y = .int .i64 k ∧ v = .slice A n c ∧ n ≤ 2 + 240 * k ∧ Hid (wr.ownsRow D 5 1 (.slice A n c) n ([.int .u8 1, .int .u8 (N : Int)] ++ (((X.I.take k).map EnT.it).flatMap EnT.put).map bv)) ∧ Below D W1 wr) (fun _ y _ => N - (intOf y).toNat)
  case atStart => exact ⟨0, some ⟨g0, 0, none⟩, 2, 2, Nat.zero_le _, rfl, rfl, Nat.le_refl _, Lib.hid HO1.out, Below.refl _ _⟩
  case round =>
    clear m0 m1 m2 HO1
    obtain ⟨k, A, n, c, hk, rfl, rfl, hn, HO, hbr⟩ := hrel
    rename World => wr
    have hcN : ∀ j v, W1.cell? ⟨w.heap.size, j, none⟩ = some v → wr.cell? ⟨w.heap.size, j, none⟩ = some v := fun j v h => (hbr.cell (show w.heap.size < D from hgn)).trans h
    have m1 := hcN _ _ HN1.out.1.2.1
    by_cases hlt : k < N
    · have hXr := HX1.out.later (hbr.mono hBD)
      obtain ⟨b1, f1, x, hxA, hbB, hx, x0, x1, x2, x3⟩ := it_at hXr.irow (show k < X.iN by rw [HNN.out]; exact hlt)
      have hxok := it_okB (x := x) (HAll.out (.it x) (by rw [HE.out]; exact List.mem_map.2 ⟨x, List.mem_of_getElem? hx, rfl⟩))
      have hxo := hXr.items x (List.mem_of_getElem? hx)
      obtain ⟨un, hun⟩ : ∃ u, u64n x.n = u := ⟨_, rfl⟩
      have hwn : IntKind.u64.wrap x.n = (un : Int) := by rw [u64n_wrap, hun]
      have Hun := Lib.hid (show un < 18446744073709551616 by rw [← hun]; exact u64n_lt x.n)
      have hkl := hxo.key.len
      have hvl := hxo.val.len
      have HNX0 : Hid (∀ (b : Bool), x.b = b → ∀ z : Int, z = (if b then 1 else 0) → [Value.int .u8 1, Value.int .u8 (N : Int)] ++ (((X.I.take (k + 1)).map EnT.it).flatMap EnT.put).map bv = ([Value.int .u8 1, Value.int .u8 (N : Int)] ++ (((X.I.take k).map EnT.it).flatMap EnT.put).map bv) ++ [.int .u8 (x.k.n : Int)] ++ x.k.l.map bv ++ [.int .u8 (x.v.n : Int)] ++ x.v.l.map bv ++ [.int .u8 z] ++ (Nod.hiL un 8).map bv) := Lib.hid (by
        intro b hb z hz
        have h := it_put_v x b b hb ([Value.int .u8 1, Value.int .u8 (N : Int)] ++ (((X.I.take k).map EnT.it).flatMap EnT.put).map bv) un hun (by omega) (by omega) z hz
        rw [hkl, hvl] at h
        rw [← h, takeN hx, List.map_append, List.flatMap_append, List.map_append, List.append_assoc, List.map_singleton, List.flatMap_singleton])
      have HKK := Lib.hid hxo.key.here
      have HVV := Lib.hid hxo.val.here
      have hk1 : x.k.n ≤ 120 := by omega
      have hv1 : x.v.n ≤ 100 := by omega
      obtain ⟨⟨kA, kn, kc, kl⟩, ⟨vA, vn, vc, vl⟩, b, xn⟩ := x
      simp only at x0 x1 x2 x3 hwn HNX0 HKK HVV hk1 hv1 hkl hvl
      have hwk : IntKind.u8.wrap (kn : Int) = (kn : Int) := by rw [IntKind.wrap_u8]; omega
      have hwv : IntKind.u8.wrap (vn : Int) = (vn : Int) := by rw [IntKind.wrap_u8]; omega
      have hlt' : (k : Int) < (N : Int) := by omega
      rw [hxA] at m1
      clear hx hxok hxo hun hXr hxA hcN
      have hbx := bel_alloc (Below.refl wr.heap.size wr) (.cells #[.slice kA kn kc, .slice vA vn vc, .bool b, .int .i64 xn] 58)
      have hblk := heap_alloc_new wr (.cells #[.slice kA kn kc, .slice vA vn vc, .bool b, .int .i64 xn] 58)
      have hDr : D ≤ wr.heap.size := Nat.le_trans hD1 hbr.size
      have HT := Lib.hid hblk
      have HO := Lib.hid (own_later HO.out hbx)
      have HW := Lib.hid (hbx.mono hDr)
      have HD := Lib.hid (Nat.le_trans hDr hbx.size)
      clear hbx hblk
      cases b
      · have HNX := Lib.hid (HNX0.out false rfl 0 rfl)
        clear HNX0
        go_upto_region 7 with fail
        clear m1 x0 x1 x2 x3
        obtain ⟨gx, hgx⟩ : ∃ gx, wr.heap.size = gx := ⟨_, rfl⟩
        rw [hgx] at HT ⊢
        clear hgx
        generalize wr.alloc (.cells #[.slice kA kn kc, .slice vA vn vc, .bool false, .int .i64 xn] 58) = wa at *
        have hOx := HO.out.drew
        have hWx := HW.out.drew
        have hDx := HD.out
        clear HO HW HD
        refine wp_region_held_drew (S := fun W => ((W.cell? ⟨gx, 0, none⟩ = some (.slice kA kn kc) ∧ W.cell? ⟨gx, 1, none⟩ = some (.slice vA vn vc)) ∧ (W.cell? ⟨gx, 2, none⟩ = some (.bool false) ∧ W.cell? ⟨gx, 3, none⟩ = some (.int .i64 xn))) ∧ W.heap[gx]? = some (.cells #[.slice kA kn kc, .slice vA vn vc, .bool false, .int .i64 xn] 58 (0, 0))) (by kernel_rfl) (box_it4 HT.out) (fun hHeld => ?_)
        refine rg_in 0 rfl (by kernel_rfl) (by kernel_rfl) (by kernel_rfl) (by rfl) (v := ?_) (fun _ _ _ h => h) hHeld (fun w hSw => ?_) ?_
        rotate_left
        · (try dsimp only at hSw); go_simp <;> (with_reducible rfl)
        (try simp only [Act.put, List.setIfInBounds_toArray, List.set_cons_zero, List.set_cons_succ])
        refine rg_in 1 rfl (by kernel_rfl) (by kernel_rfl) (by kernel_rfl) (by rfl) (v := ?_) (fun _ _ _ h => h) hHeld (fun w hSw => ?_) ?_
        rotate_left
        · (try dsimp only at hSw); go_simp <;> (with_reducible rfl)
        (try simp only [Act.put, List.setIfInBounds_toArray, List.set_cons_zero, List.set_cons_succ])
        refine rg_in 2 rfl (by kernel_rfl) (by kernel_rfl) (by kernel_rfl) (by rfl) (v := ?_) (fun _ _ _ h => h) hHeld (fun w hSw => ?_) ?_
        rotate_left
        · (try dsimp only at hSw); go_simp <;> (with_reducible rfl)
        (try simp only [Act.put, List.setIfInBounds_toArray, List.set_cons_zero, List.set_cons_succ])
        refine rg_in 3 rfl (by kernel_rfl) (by kernel_rfl) (by kernel_rfl) (by rfl) (v := ?_) (fun _ _ _ h => h) hHeld (fun w hSw => ?_) ?_
        rotate_left
        · (try dsimp only at hSw); go_simp <;> (with_reducible rfl)
        (try simp only [Act.put, List.setIfInBounds_toArray, List.set_cons_zero, List.set_cons_succ])
        refine rg_in 4 rfl (by kernel_rfl) (by kernel_rfl) (by kernel_rfl) (by rfl) (v := ?_) (fun _ _ _ h => h) hHeld (fun w hSw => ?_) ?_
        rotate_left
        · (try dsimp only at hSw); go_simp <;> (with_reducible rfl)
        (try simp only [Act.put, List.setIfInBounds_toArray, List.set_cons_zero, List.set_cons_succ])
        refine rg_in 7 rfl (by kernel_rfl) (by kernel_rfl) (by kernel_rfl) (by rfl) (v := ?_) (fun _ _ _ h => h) hHeld (fun w hSw => ?_) ?_
        rotate_left
        · (try dsimp only at hSw); go_simp <;> (with_reducible rfl)
        (try simp only [Act.put, List.setIfInBounds_toArray, List.set_cons_zero, List.set_cons_succ])
        refine rg_in 8 rfl (by kernel_rfl) (by kernel_rfl) (by kernel_rfl) (by rfl) (v := ?_) (fun _ _ _ h => h) hHeld (fun w hSw => ?_) ?_
        rotate_left
        · (try dsimp only at hSw); go_simp <;> (with_reducible rfl)
        (try simp only [Act.put, List.setIfInBounds_toArray, List.set_cons_zero, List.set_cons_succ])
        refine rg_do 5 rfl (by kernel_rfl) (by rfl) (fun K hK => ?_)
        refine step_rowsB _ _ 1 _ rfl 1 i0 _ Try.underlying32 hi hz0 hz1 #[.int .u8 (kn : Int)] (fillB1 _) (by decide) (by decide) ?_
        intro gb w105 hgeb hbsb hb
        have hTb := blk_later hHeld.2 hb
        have hOx := own_later hOx hb
        have hWx := hWx.trans (hb.mono hDx)
        have hDx := Nat.le_trans hDx hb.size
        refine hK.out _ _ (box_it4 hTb) (fun hHeld => ?_)
        clear hK K
        (try simp only [Act.put, List.setIfInBounds_toArray, List.set_cons_zero, List.set_cons_succ])
        refine rg_do 6 rfl (by kernel_rfl) (by rfl) (fun K hK => ?_)
        refine wp_append_shows _ _ _ 32 rfl D 5 i0 _ 1 1 Try.underlying32 hi hz0 hz1 hz2 rfl (by decide) _ _ _ rfl hOx _ _ 1 _ _ rfl (shows_blk hbsb rfl) (by intro x hx; rw [List.mem_singleton.1 hx]; rfl) (by unfold maxLen; omega) (by omega) hDx ?_
        intro Aa ca w106 hOa hga hBa
        have hTb := blk_other hHeld.2 hga (own_blk_ne hOx hHeld.2 (by decide))
        have hOx := hOa
        have hWx := hWx.trans hBa
        have hDx := Nat.le_trans hDx hBa.size
        refine hK.out _ _ (box_it4 hTb) (fun hHeld => ?_)
        clear hK K
        (try simp only [Act.put, List.setIfInBounds_toArray, List.set_cons_zero, List.set_cons_succ])
        refine rg_do 9 rfl (by kernel_rfl) (by rfl) (fun K hK => ?_)
        refine wp_append_shows _ _ _ 32 rfl D 5 i0 _ 1 1 Try.underlying32 hi hz0 hz1 hz2 rfl (by decide) _ _ _ rfl hOx _ _ kn _ _ rfl (HKK.out.below (hWx.mono hBD)) (bv_one _) (by unfold maxLen; omega) (by omega) hDx ?_
        intro Ac cc w109 hOc hgc hBc
        have hTb := blk_other hHeld.2 hgc (own_blk_ne hOx hHeld.2 (by decide))
        have hOx := hOc
        have hWx := hWx.trans hBc
        have hDx := Nat.le_trans hDx hBc.size
        refine hK.out _ _ (box_it4 hTb) (fun hHeld => ?_)
        clear hK K
        (try simp only [Act.put, List.setIfInBounds_toArray, List.set_cons_zero, List.set_cons_succ])
        refine rg_in 10 rfl (by kernel_rfl) (by kernel_rfl) (by kernel_rfl) (by rfl) (v := ?_) (fun _ _ _ h => h) hHeld (fun w hSw => ?_) ?_
        rotate_left
        · (try dsimp only at hSw); go_simp <;> (with_reducible rfl)
        (try simp only [Act.put, List.setIfInBounds_toArray, List.set_cons_zero, List.set_cons_succ])
        refine wpAnyH_done (by kernel_rfl) ?_ _
        have HO := Lib.hid hOx
        have HW := Lib.hid hWx
        have HD := Lib.hid hDx
        have HT := Lib.hid hHeld.2
        clear hHeld hOx hOa hOc hga hgc hBa hBc hTb hgeb hbsb hb hWx hDx
        go_upto_region 8 with fail
        have hOx := HO.out.drew
        have hWx := HW.out.drew
        have hDx := HD.out
        clear HO HW HD
        refine wp_region_held_drew (S := fun W => ((W.cell? ⟨gx, 0, none⟩ = some (.slice kA kn kc) ∧ W.cell? ⟨gx, 1, none⟩ = some (.slice vA vn vc)) ∧ (W.cell? ⟨gx, 2, none⟩ = some (.bool false) ∧ W.cell? ⟨gx, 3, none⟩ = some (.int .i64 xn))) ∧ W.heap[gx]? = some (.cells #[.slice kA kn kc, .slice vA vn vc, .bool false, .int .i64 xn] 58 (0, 0))) (by kernel_rfl) (box_it4 HT.out) (fun hHeld => ?_)
        refine rg_in 0 rfl (by kernel_rfl) (by kernel_rfl) (by kernel_rfl) (by rfl) (v := ?_) (fun _ _ _ h => h) hHeld (fun w hSw => ?_) ?_
        rotate_left
        · (try dsimp only at hSw); go_simp <;> (with_reducible rfl)
        (try simp only [Act.put, List.setIfInBounds_toArray, List.set_cons_zero, List.set_cons_succ])
        refine rg_in 1 rfl (by kernel_rfl) (by kernel_rfl) (by kernel_rfl) (by rfl) (v := ?_) (fun _ _ _ h => h) hHeld (fun w hSw => ?_) ?_
        rotate_left
        · (try dsimp only at hSw); go_simp <;> (with_reducible rfl)
        (try simp only [Act.put, List.setIfInBounds_toArray, List.set_cons_zero, List.set_cons_succ])
        refine rg_in 2 rfl (by kernel_rfl) (by kernel_rfl) (by kernel_rfl) (by rfl) (v := ?_) (fun _ _ _ h => h) hHeld (fun w hSw => ?_) ?_
        rotate_left
        · (try dsimp only at hSw); go_simp <;> (with_reducible rfl)
        (try simp only [Act.put, List.setIfInBounds_toArray, List.set_cons_zero, List.set_cons_succ])
        refine rg_in 3 rfl (by kernel_rfl) (by kernel_rfl) (by kernel_rfl) (by rfl) (v := ?_) (fun _ _ _ h => h) hHeld (fun w hSw => ?_) ?_
        rotate_left
        · (try dsimp only at hSw); go_simp <;> (with_reducible rfl)
        (try simp only [Act.put, List.setIfInBounds_toArray, List.set_cons_zero, List.set_cons_succ])
        refine rg_in 4 rfl (by kernel_rfl) (by kernel_rfl) (by kernel_rfl) (by rfl) (v := ?_) (fun _ _ _ h => h) hHeld (fun w hSw => ?_) ?_
        rotate_left
        · (try dsimp only at hSw); go_simp <;> (with_reducible rfl)
        (try simp only [Act.put, List.setIfInBounds_toArray, List.set_cons_zero, List.set_cons_succ])
        refine rg_in 7 rfl (by kernel_rfl) (by kernel_rfl) (by kernel_rfl) (by rfl) (v := ?_) (fun _ _ _ h => h) hHeld (fun w hSw => ?_) ?_
        rotate_left
        · (try dsimp only at hSw); go_simp <;> (with_reducible rfl)
        (try simp only [Act.put, List.setIfInBounds_toArray, List.set_cons_zero, List.set_cons_succ])
        refine rg_in 8 rfl (by kernel_rfl) (by kernel_rfl) (by kernel_rfl) (by rfl) (v := ?_) (fun _ _ _ h => h) hHeld (fun w hSw => ?_) ?_
        rotate_left
        · (try dsimp only at hSw); go_simp <;> (with_reducible rfl)
        (try simp only [Act.put, List.setIfInBounds_toArray, List.set_cons_zero, List.set_cons_succ])
        refine rg_do 5 rfl (by kernel_rfl) (by rfl) (fun K hK => ?_)
        refine step_rowsB _ _ 1 _ rfl 1 i0 _ Try.underlying32 hi hz0 hz1 #[.int .u8 (vn : Int)] (fillB1 _) (by decide) (by decide) ?_
        intro gb w105 hgeb hbsb hb
        have hTb := blk_later hHeld.2 hb
        have hOx := own_later hOx hb
        have hWx := hWx.trans (hb.mono hDx)
        have hDx := Nat.le_trans hDx hb.size
        refine hK.out _ _ (box_it4 hTb) (fun hHeld => ?_)
        clear hK K
        (try simp only [Act.put, List.setIfInBounds_toArray, List.set_cons_zero, List.set_cons_succ])
        refine rg_do 6 rfl (by kernel_rfl) (by rfl) (fun K hK => ?_)
        refine wp_append_shows _ _ _ 32 rfl D 5 i0 _ 1 1 Try.underlying32 hi hz0 hz1 hz2 rfl (by decide) _ _ _ rfl hOx _ _ 1 _ _ rfl (shows_blk hbsb rfl) (by intro x hx; rw [List.mem_singleton.1 hx]; rfl) (by unfold maxLen; omega) (by omega) hDx ?_
        intro Aa ca w106 hOa hga hBa
        have hTb := blk_other hHeld.2 hga (own_blk_ne hOx hHeld.2 (by decide))
        have hOx := hOa
        have hWx := hWx.trans hBa
        have hDx := Nat.le_trans hDx hBa.size
        refine hK.out _ _ (box_it4 hTb) (fun hHeld => ?_)
        clear hK K
        (try simp only [Act.put, List.setIfInBounds_toArray, List.set_cons_zero, List.set_cons_succ])
        refine rg_do 9 rfl (by kernel_rfl) (by rfl) (fun K hK => ?_)
        refine wp_append_shows _ _ _ 32 rfl D 5 i0 _ 1 1 Try.underlying32 hi hz0 hz1 hz2 rfl (by decide) _ _ _ rfl hOx _ _ vn _ _ rfl (HVV.out.below (hWx.mono hBD)) (bv_one _) (by unfold maxLen; omega) (by omega) hDx ?_
        intro Ac cc w109 hOc hgc hBc
        have hTb := blk_other hHeld.2 hgc (own_blk_ne hOx hHeld.2 (by decide))
        have hOx := hOc
        have hWx := hWx.trans hBc
        have hDx := Nat.le_trans hDx hBc.size
        refine hK.out _ _ (box_it4 hTb) (fun hHeld => ?_)
        clear hK K
        (try simp only [Act.put, List.setIfInBounds_toArray, List.set_cons_zero, List.set_cons_succ])
        refine rg_in 10 rfl (by kernel_rfl) (by kernel_rfl) (by kernel_rfl) (by rfl) (v := ?_) (fun _ _ _ h => h) hHeld (fun w hSw => ?_) ?_
        rotate_left
        · (try dsimp only at hSw); go_simp <;> (with_reducible rfl)
        (try simp only [Act.put, List.setIfInBounds_toArray, List.set_cons_zero, List.set_cons_succ])
        refine wpAnyH_done (by kernel_rfl) ?_ _
        have HO := Lib.hid hOx
        have HW := Lib.hid hWx
        have HD := Lib.hid hDx
        have HT := Lib.hid hHeld.2
        clear hHeld hOx hOa hOc hga hgc hBa hBc hTb hgeb hbsb hb hWx hDx
        obtain ⟨⟨⟨b0, b1⟩, b2, b3⟩, -⟩ := box_it4 HT.out
        go_upto_region 12 with fail
        clear b0 b1 b2 b3
        have hOx := HO.out.drew
        have hWx := HW.out.drew
        have hDx := HD.out
        clear HO HW HD
        refine wp_region_held_drew (S := fun W => ((W.cell? ⟨gx, 0, none⟩ = some (.slice kA kn kc) ∧ W.cell? ⟨gx, 1, none⟩ = some (.slice vA vn vc)) ∧ (W.cell? ⟨gx, 2, none⟩ = some (.bool false) ∧ W.cell? ⟨gx, 3, none⟩ = some (.int .i64 xn))) ∧ W.heap[gx]? = some (.cells #[.slice kA kn kc, .slice vA vn vc, .bool false, .int .i64 xn] 58 (0, 0))) (by kernel_rfl) (box_it4 HT.out) (fun hHeld => ?_)
        refine rg_in 0 rfl (by kernel_rfl) (by kernel_rfl) (by kernel_rfl) (by rfl) (v := ?_) (fun _ _ _ h => h) hHeld (fun w hSw => ?_) ?_
        rotate_left
        · (try dsimp only at hSw); go_simp <;> (with_reducible rfl)
        (try simp only [Act.put, List.setIfInBounds_toArray, List.set_cons_zero, List.set_cons_succ])
        refine rg_in 1 rfl (by kernel_rfl) (by kernel_rfl) (by kernel_rfl) (by rfl) (v := ?_) (fun _ _ _ h => h) hHeld (fun w hSw => ?_) ?_
        rotate_left
        · (try dsimp only at hSw); go_simp <;> (with_reducible rfl)
        (try simp only [Act.put, List.setIfInBounds_toArray, List.set_cons_zero, List.set_cons_succ])
        refine rg_in 4 rfl (by kernel_rfl) (by kernel_rfl) (by kernel_rfl) (by rfl) (v := ?_) (fun _ _ _ h => h) hHeld (fun w hSw => ?_) ?_
        rotate_left
        · (try dsimp only at hSw); go_simp <;> (with_reducible rfl)
        (try simp only [Act.put, List.setIfInBounds_toArray, List.set_cons_zero, List.set_cons_succ])
        refine rg_in 5 rfl (by kernel_rfl) (by kernel_rfl) (by kernel_rfl) (by rfl) (v := ?_) (fun _ _ _ h => h) hHeld (fun w hSw => ?_) ?_
        rotate_left
        · (try dsimp only at hSw); go_simp <;> (with_reducible rfl)
        (try simp only [Act.put, List.setIfInBounds_toArray, List.set_cons_zero, List.set_cons_succ])
        refine rg_in 6 rfl (by kernel_rfl) (by kernel_rfl) (by kernel_rfl) (by rfl) (v := ?_) (fun _ _ _ h => h) hHeld (fun w hSw => ?_) ?_
        rotate_left
        · (try dsimp only at hSw); go_simp <;> (with_reducible rfl)
        (try simp only [Act.put, List.setIfInBounds_toArray, List.set_cons_zero, List.set_cons_succ])
        refine rg_do 2 rfl (by kernel_rfl) (by rfl) (fun K hK => ?_)
        refine step_rowsB _ _ 1 _ rfl 1 i0 _ Try.underlying32 hi hz0 hz1 #[.int .u8 0] (fillB1 _) (by decide) (by decide) ?_
        intro gb w102 hgeb hbsb hb
        have hTb := blk_later hHeld.2 hb
        have hOx := own_later hOx hb
        have hWx := hWx.trans (hb.mono hDx)
        have hDx := Nat.le_trans hDx hb.size
        refine hK.out _ _ (box_it4 hTb) (fun hHeld => ?_)
        clear hK K
        (try simp only [Act.put, List.setIfInBounds_toArray, List.set_cons_zero, List.set_cons_succ])
        refine rg_do 3 rfl (by kernel_rfl) (by rfl) (fun K hK => ?_)
        refine wp_append_shows _ _ _ 32 rfl D 5 i0 _ 1 1 Try.underlying32 hi hz0 hz1 hz2 rfl (by decide) _ _ _ rfl hOx _ _ 1 _ _ rfl (shows_blk hbsb rfl) (by intro x hx; rw [List.mem_singleton.1 hx]; rfl) (by unfold maxLen; omega) (by omega) hDx ?_
        intro Aa ca w103 hOa hga hBa
        have hTb := blk_other hHeld.2 hga (own_blk_ne hOx hHeld.2 (by decide))
        have hOx := hOa
        have hWx := hWx.trans hBa
        have hDx := Nat.le_trans hDx hBa.size
        refine hK.out _ _ (box_it4 hTb) (fun hHeld => ?_)
        clear hK K
        (try simp only [Act.put, List.setIfInBounds_toArray, List.set_cons_zero, List.set_cons_succ])
        refine rg_do 7 rfl (by kernel_rfl) (by rfl) (fun K hK => ?_)
        go_simp
        (go_at_call 44; (with_reducible refine (nhigh_at un 8 8 rfl _ Hun.out (by omega)).mono ?_); (rintro e w107 ⟨Ah, cH, rfl, hH, hbh⟩))
        have hTb := blk_later hHeld.2 hbh
        have hOlt := own_under hOx
        have hOx := own_later hOx hbh
        have hWx := hWx.trans (hbh.mono hDx)
        have hDx := Nat.le_trans hDx hbh.size
        refine hK.out _ _ (box_it4 hTb) (fun hHeld => ?_)
        clear hK K
        (try simp only [Act.put, List.setIfInBounds_toArray, List.set_cons_zero, List.set_cons_succ])
        refine rg_do 8 rfl (by kernel_rfl) (by rfl) (fun K hK => ?_)
        refine wp_append_shows _ _ _ 32 rfl D 5 i0 _ 1 1 Try.underlying32 hi hz0 hz1 hz2 rfl (by decide) _ _ _ rfl hOx _ _ 8 _ _ rfl (Shows.own hH) (bv_one _) (by unfold maxLen; omega) (by omega) hDx ?_
        intro Ac cc w108 hOc hgc hBc
        have hTb := blk_other hHeld.2 hgc (own_blk_ne hOx hHeld.2 (by decide))
        have hOx := hOc
        have hWx := hWx.trans hBc
        refine hK.out _ _ (box_it4 hTb) (fun hHeld => ?_)
        clear hK K
        (try simp only [Act.put, List.setIfInBounds_toArray, List.set_cons_zero, List.set_cons_succ])
        refine rg_in 9 rfl (by kernel_rfl) (by kernel_rfl) (by kernel_rfl) (by rfl) (v := ?_) (fun _ _ _ h => h) hHeld (fun w hSw => ?_) ?_
        rotate_left
        · (try dsimp only at hSw); go_simp <;> (with_reducible rfl)
        (try simp only [Act.put, List.setIfInBounds_toArray, List.set_cons_zero, List.set_cons_succ])
        refine wpAnyH_done (by kernel_rfl) ?_ _
        have HBZ := Lib.hid (hbr.trans hWx)
        have HOZ := Lib.hid hOx
        clear hHeld hOx hOa hOc hga hgc hBa hBc hTb hgeb hbsb hb hWx hDx hH hbh hOlt
        go_wp2_with fail
        go_roundw
        case rel => first | exact ⟨k + 1, Ac, _, cc, by omega, by go_num, rfl, by omega, Lib.hid (by rw [HNX.out]; exact HOZ.out), HBZ.out⟩ | exact ⟨_, _, ⟨k + 1, Ac, _, cc, by omega, by go_num, rfl, by omega, Lib.hid (by rw [HNX.out]; exact HOZ.out), HBZ.out⟩, rfl, rfl⟩
        case measure => simp [intOf]; omega
      · have HNX := Lib.hid (HNX0.out true rfl 1 rfl)
        clear HNX0
        go_upto_region 7 with fail
        clear m1 x0 x1 x2 x3
        obtain ⟨gx, hgx⟩ : ∃ gx, wr.heap.size = gx := ⟨_, rfl⟩
        rw [hgx] at HT ⊢
        clear hgx
        generalize wr.alloc (.cells #[.slice kA kn kc, .slice vA vn vc, .bool true, .int .i64 xn] 58) = wa at *
        have hOx := HO.out.drew
        have hWx := HW.out.drew
        have hDx := HD.out
        clear HO HW HD
        refine wp_region_held_drew (S := fun W => ((W.cell? ⟨gx, 0, none⟩ = some (.slice kA kn kc) ∧ W.cell? ⟨gx, 1, none⟩ = some (.slice vA vn vc)) ∧ (W.cell? ⟨gx, 2, none⟩ = some (.bool true) ∧ W.cell? ⟨gx, 3, none⟩ = some (.int .i64 xn))) ∧ W.heap[gx]? = some (.cells #[.slice kA kn kc, .slice vA vn vc, .bool true, .int .i64 xn] 58 (0, 0))) (by kernel_rfl) (box_it4 HT.out) (fun hHeld => ?_)
        refine rg_in 0 rfl (by kernel_rfl) (by kernel_rfl) (by kernel_rfl) (by rfl) (v := ?_) (fun _ _ _ h => h) hHeld (fun w hSw => ?_) ?_
        rotate_left
        · (try dsimp only at hSw); go_simp <;> (with_reducible rfl)
        (try simp only [Act.put, List.setIfInBounds_toArray, List.set_cons_zero, List.set_cons_succ])
        refine rg_in 1 rfl (by kernel_rfl) (by kernel_rfl) (by kernel_rfl) (by rfl) (v := ?_) (fun _ _ _ h => h) hHeld (fun w hSw => ?_) ?_
        rotate_left
        · (try dsimp only at hSw); go_simp <;> (with_reducible rfl)
        (try simp only [Act.put, List.setIfInBounds_toArray, List.set_cons_zero, List.set_cons_succ])
        refine rg_in 2 rfl (by kernel_rfl) (by kernel_rfl) (by kernel_rfl) (by rfl) (v := ?_) (fun _ _ _ h => h) hHeld (fun w hSw => ?_) ?_
        rotate_left
        · (try dsimp only at hSw); go_simp <;> (with_reducible rfl)
        (try simp only [Act.put, List.setIfInBounds_toArray, List.set_cons_zero, List.set_cons_succ])
        refine rg_in 3 rfl (by kernel_rfl) (by kernel_rfl) (by kernel_rfl) (by rfl) (v := ?_) (fun _ _ _ h => h) hHeld (fun w hSw => ?_) ?_
        rotate_left
        · (try dsimp only at hSw); go_simp <;> (with_reducible rfl)
        (try simp only [Act.put, List.setIfInBounds_toArray, List.set_cons_zero, List.set_cons_succ])
        refine rg_in 4 rfl (by kernel_rfl) (by kernel_rfl) (by kernel_rfl) (by rfl) (v := ?_) (fun _ _ _ h => h) hHeld (fun w hSw => ?_) ?_
        rotate_left
        · (try dsimp only at hSw); go_simp <;> (with_reducible rfl)
        (try simp only [Act.put, List.setIfInBounds_toArray, List.set_cons_zero, List.set_cons_succ])
        refine rg_in 7 rfl (by kernel_rfl) (by kernel_rfl) (by kernel_rfl) (by rfl) (v := ?_) (fun _ _ _ h => h) hHeld (fun w hSw => ?_) ?_
        rotate_left
        · (try dsimp only at hSw); go_simp <;> (with_reducible rfl)
        (try simp only [Act.put, List.setIfInBounds_toArray, List.set_cons_zero, List.set_cons_succ])
        refine rg_in 8 rfl (by kernel_rfl) (by kernel_rfl) (by kernel_rfl) (by rfl) (v := ?_) (fun _ _ _ h => h) hHeld (fun w hSw => ?_) ?_
        rotate_left
        · (try dsimp only at hSw); go_simp <;> (with_reducible rfl)
        (try simp only [Act.put, List.setIfInBounds_toArray, List.set_cons_zero, List.set_cons_succ])
        refine rg_do 5 rfl (by kernel_rfl) (by rfl) (fun K hK => ?_)
        refine step_rowsB _ _ 1 _ rfl 1 i0 _ Try.underlying32 hi hz0 hz1 #[.int .u8 (kn : Int)] (fillB1 _) (by decide) (by decide) ?_
        intro gb w105 hgeb hbsb hb
        have hTb := blk_later hHeld.2 hb
        have hOx := own_later hOx hb
        have hWx := hWx.trans (hb.mono hDx)
        have hDx := Nat.le_trans hDx hb.size
        refine hK.out _ _ (box_it4 hTb) (fun hHeld => ?_)
        clear hK K
        (try simp only [Act.put, List.setIfInBounds_toArray, List.set_cons_zero, List.set_cons_succ])
        refine rg_do 6 rfl (by kernel_rfl) (by rfl) (fun K hK => ?_)
        refine wp_append_shows _ _ _ 32 rfl D 5 i0 _ 1 1 Try.underlying32 hi hz0 hz1 hz2 rfl (by decide) _ _ _ rfl hOx _ _ 1 _ _ rfl (shows_blk hbsb rfl) (by intro x hx; rw [List.mem_singleton.1 hx]; rfl) (by unfold maxLen; omega) (by omega) hDx ?_
        intro Aa ca w106 hOa hga hBa
        have hTb := blk_other hHeld.2 hga (own_blk_ne hOx hHeld.2 (by decide))
        have hOx := hOa
        have hWx := hWx.trans hBa
        have hDx := Nat.le_trans hDx hBa.size
        refine hK.out _ _ (box_it4 hTb) (fun hHeld => ?_)
        clear hK K
        (try simp only [Act.put, List.setIfInBounds_toArray, List.set_cons_zero, List.set_cons_succ])
        refine rg_do 9 rfl (by kernel_rfl) (by rfl) (fun K hK => ?_)
        refine wp_append_shows _ _ _ 32 rfl D 5 i0 _ 1 1 Try.underlying32 hi hz0 hz1 hz2 rfl (by decide) _ _ _ rfl hOx _ _ kn _ _ rfl (HKK.out.below (hWx.mono hBD)) (bv_one _) (by unfold maxLen; omega) (by omega) hDx ?_
        intro Ac cc w109 hOc hgc hBc
        have hTb := blk_other hHeld.2 hgc (own_blk_ne hOx hHeld.2 (by decide))
        have hOx := hOc
        have hWx := hWx.trans hBc
        have hDx := Nat.le_trans hDx hBc.size
        refine hK.out _ _ (box_it4 hTb) (fun hHeld => ?_)
        clear hK K
        (try simp only [Act.put, List.setIfInBounds_toArray, List.set_cons_zero, List.set_cons_succ])
        refine rg_in 10 rfl (by kernel_rfl) (by kernel_rfl) (by kernel_rfl) (by rfl) (v := ?_) (fun _ _ _ h => h) hHeld (fun w hSw => ?_) ?_
        rotate_left
        · (try dsimp only at hSw); go_simp <;> (with_reducible rfl)
        (try simp only [Act.put, List.setIfInBounds_toArray, List.set_cons_zero, List.set_cons_succ])
        refine wpAnyH_done (by kernel_rfl) ?_ _
        have HO := Lib.hid hOx
        have HW := Lib.hid hWx
        have HD := Lib.hid hDx
        have HT := Lib.hid hHeld.2
        clear hHeld hOx hOa hOc hga hgc hBa hBc hTb hgeb hbsb hb hWx hDx
        go_upto_region 8 with fail
        have hOx := HO.out.drew
        have hWx := HW.out.drew
        have hDx := HD.out
        clear HO HW HD
        refine wp_region_held_drew (S := fun W => ((W.cell? ⟨gx, 0, none⟩ = some (.slice kA kn kc) ∧ W.cell? ⟨gx, 1, none⟩ = some (.slice vA vn vc)) ∧ (W.cell? ⟨gx, 2, none⟩ = some (.bool true) ∧ W.cell? ⟨gx, 3, none⟩ = some (.int .i64 xn))) ∧ W.heap[gx]? = some (.cells #[.slice kA kn kc, .slice vA vn vc, .bool true, .int .i64 xn] 58 (0, 0))) (by kernel_rfl) (box_it4 HT.out) (fun hHeld => ?_)
        refine rg_in 0 rfl (by kernel_rfl) (by kernel_rfl) (by kernel_rfl) (by rfl) (v := ?_) (fun _ _ _ h => h) hHeld (fun w hSw => ?_) ?_
        rotate_left
        · (try dsimp only at hSw); go_simp <;> (with_reducible rfl)
        (try simp only [Act.put, List.setIfInBounds_toArray, List.set_cons_zero, List.set_cons_succ])
        refine rg_in 1 rfl (by kernel_rfl) (by kernel_rfl) (by kernel_rfl) (by rfl) (v := ?_) (fun _ _ _ h => h) hHeld (fun w hSw => ?_) ?_
        rotate_left
        · (try dsimp only at hSw); go_simp <;> (with_reducible rfl)
        (try simp only [Act.put, List.setIfInBounds_toArray, List.set_cons_zero, List.set_cons_succ])
        refine rg_in 2 rfl (by kernel_rfl) (by kernel_rfl) (by kernel_rfl) (by rfl) (v := ?_) (fun _ _ _ h => h) hHeld (fun w hSw => ?_) ?_
        rotate_left
        · (try dsimp only at hSw); go_simp <;> (with_reducible rfl)
        (try simp only [Act.put, List.setIfInBounds_toArray, List.set_cons_zero, List.set_cons_succ])
        refine rg_in 3 rfl (by kernel_rfl) (by kernel_rfl) (by kernel_rfl) (by rfl) (v := ?_) (fun _ _ _ h => h) hHeld (fun w hSw => ?_) ?_
        rotate_left
        · (try dsimp only at hSw); go_simp <;> (with_reducible rfl)
        (try simp only [Act.put, List.setIfInBounds_toArray, List.set_cons_zero, List.set_cons_succ])
        refine rg_in 4 rfl (by kernel_rfl) (by kernel_rfl) (by kernel_rfl) (by rfl) (v := ?_) (fun _ _ _ h => h) hHeld (fun w hSw => ?_) ?_
        rotate_left
        · (try dsimp only at hSw); go_simp <;> (with_reducible rfl)
        (try simp only [Act.put, List.setIfInBounds_toArray, List.set_cons_zero, List.set_cons_succ])
        refine rg_in 7 rfl (by kernel_rfl) (by kernel_rfl) (by kernel_rfl) (by rfl) (v := ?_) (fun _ _ _ h => h) hHeld (fun w hSw => ?_) ?_
        rotate_left
        · (try dsimp only at hSw); go_simp <;> (with_reducible rfl)
        (try simp only [Act.put, List.setIfInBounds_toArray, List.set_cons_zero, List.set_cons_succ])
        refine rg_in 8 rfl (by kernel_rfl) (by kernel_rfl) (by kernel_rfl) (by rfl) (v := ?_) (fun _ _ _ h => h) hHeld (fun w hSw => ?_) ?_
        rotate_left
        · (try dsimp only at hSw); go_simp <;> (with_reducible rfl)
        (try simp only [Act.put, List.setIfInBounds_toArray, List.set_cons_zero, List.set_cons_succ])
        refine rg_do 5 rfl (by kernel_rfl) (by rfl) (fun K hK => ?_)
        refine step_rowsB _ _ 1 _ rfl 1 i0 _ Try.underlying32 hi hz0 hz1 #[.int .u8 (vn : Int)] (fillB1 _) (by decide) (by decide) ?_
        intro gb w105 hgeb hbsb hb
        have hTb := blk_later hHeld.2 hb
        have hOx := own_later hOx hb
        have hWx := hWx.trans (hb.mono hDx)
        have hDx := Nat.le_trans hDx hb.size
        refine hK.out _ _ (box_it4 hTb) (fun hHeld => ?_)
        clear hK K
        (try simp only [Act.put, List.setIfInBounds_toArray, List.set_cons_zero, List.set_cons_succ])
        refine rg_do 6 rfl (by kernel_rfl) (by rfl) (fun K hK => ?_)
        refine wp_append_shows _ _ _ 32 rfl D 5 i0 _ 1 1 Try.underlying32 hi hz0 hz1 hz2 rfl (by decide) _ _ _ rfl hOx _ _ 1 _ _ rfl (shows_blk hbsb rfl) (by intro x hx; rw [List.mem_singleton.1 hx]; rfl) (by unfold maxLen; omega) (by omega) hDx ?_
        intro Aa ca w106 hOa hga hBa
        have hTb := blk_other hHeld.2 hga (own_blk_ne hOx hHeld.2 (by decide))
        have hOx := hOa
        have hWx := hWx.trans hBa
        have hDx := Nat.le_trans hDx hBa.size
        refine hK.out _ _ (box_it4 hTb) (fun hHeld => ?_)
        clear hK K
        (try simp only [Act.put, List.setIfInBounds_toArray, List.set_cons_zero, List.set_cons_succ])
        refine rg_do 9 rfl (by kernel_rfl) (by rfl) (fun K hK => ?_)
        refine wp_append_shows _ _ _ 32 rfl D 5 i0 _ 1 1 Try.underlying32 hi hz0 hz1 hz2 rfl (by decide) _ _ _ rfl hOx _ _ vn _ _ rfl (HVV.out.below (hWx.mono hBD)) (bv_one _) (by unfold maxLen; omega) (by omega) hDx ?_
        intro Ac cc w109 hOc hgc hBc
        have hTb := blk_other hHeld.2 hgc (own_blk_ne hOx hHeld.2 (by decide))
        have hOx := hOc
        have hWx := hWx.trans hBc
        have hDx := Nat.le_trans hDx hBc.size
        refine hK.out _ _ (box_it4 hTb) (fun hHeld => ?_)
        clear hK K
        (try simp only [Act.put, List.setIfInBounds_toArray, List.set_cons_zero, List.set_cons_succ])
        refine rg_in 10 rfl (by kernel_rfl) (by kernel_rfl) (by kernel_rfl) (by rfl) (v := ?_) (fun _ _ _ h => h) hHeld (fun w hSw => ?_) ?_
        rotate_left
        · (try dsimp only at hSw); go_simp <;> (with_reducible rfl)
        (try simp only [Act.put, List.setIfInBounds_toArray, List.set_cons_zero, List.set_cons_succ])
        refine wpAnyH_done (by kernel_rfl) ?_ _
        have HO := Lib.hid hOx
        have HW := Lib.hid hWx
        have HD := Lib.hid hDx
        have HT := Lib.hid hHeld.2
        clear hHeld hOx hOa hOc hga hgc hBa hBc hTb hgeb hbsb hb hWx hDx
        obtain ⟨⟨⟨b0, b1⟩, b2, b3⟩, -⟩ := box_it4 HT.out
        go_upto_region 12 with fail
        clear b0 b1 b2 b3
        have hOx := HO.out.drew
        have hWx := HW.out.drew
        have hDx := HD.out
        clear HO HW HD
        refine wp_region_held_drew (S := fun W => ((W.cell? ⟨gx, 0, none⟩ = some (.slice kA kn kc) ∧ W.cell? ⟨gx, 1, none⟩ = some (.slice vA vn vc)) ∧ (W.cell? ⟨gx, 2, none⟩ = some (.bool true) ∧ W.cell? ⟨gx, 3, none⟩ = some (.int .i64 xn))) ∧ W.heap[gx]? = some (.cells #[.slice kA kn kc, .slice vA vn vc, .bool true, .int .i64 xn] 58 (0, 0))) (by kernel_rfl) (box_it4 HT.out) (fun hHeld => ?_)
        refine rg_in 0 rfl (by kernel_rfl) (by kernel_rfl) (by kernel_rfl) (by rfl) (v := ?_) (fun _ _ _ h => h) hHeld (fun w hSw => ?_) ?_
        rotate_left
        · (try dsimp only at hSw); go_simp <;> (with_reducible rfl)
        (try simp only [Act.put, List.setIfInBounds_toArray, List.set_cons_zero, List.set_cons_succ])
        refine rg_in 1 rfl (by kernel_rfl) (by kernel_rfl) (by kernel_rfl) (by rfl) (v := ?_) (fun _ _ _ h => h) hHeld (fun w hSw => ?_) ?_
        rotate_left
        · (try dsimp only at hSw); go_simp <;> (with_reducible rfl)
        (try simp only [Act.put, List.setIfInBounds_toArray, List.set_cons_zero, List.set_cons_succ])
        refine rg_in 4 rfl (by kernel_rfl) (by kernel_rfl) (by kernel_rfl) (by rfl) (v := ?_) (fun _ _ _ h => h) hHeld (fun w hSw => ?_) ?_
        rotate_left
        · (try dsimp only at hSw); go_simp <;> (with_reducible rfl)
        (try simp only [Act.put, List.setIfInBounds_toArray, List.set_cons_zero, List.set_cons_succ])
        refine rg_in 5 rfl (by kernel_rfl) (by kernel_rfl) (by kernel_rfl) (by rfl) (v := ?_) (fun _ _ _ h => h) hHeld (fun w hSw => ?_) ?_
        rotate_left
        · (try dsimp only at hSw); go_simp <;> (with_reducible rfl)
        (try simp only [Act.put, List.setIfInBounds_toArray, List.set_cons_zero, List.set_cons_succ])
        refine rg_in 6 rfl (by kernel_rfl) (by kernel_rfl) (by kernel_rfl) (by rfl) (v := ?_) (fun _ _ _ h => h) hHeld (fun w hSw => ?_) ?_
        rotate_left
        · (try dsimp only at hSw); go_simp <;> (with_reducible rfl)
        (try simp only [Act.put, List.setIfInBounds_toArray, List.set_cons_zero, List.set_cons_succ])
        refine rg_do 2 rfl (by kernel_rfl) (by rfl) (fun K hK => ?_)
        refine step_rowsB _ _ 1 _ rfl 1 i0 _ Try.underlying32 hi hz0 hz1 #[.int .u8 1] (fillB1 _) (by decide) (by decide) ?_
        intro gb w102 hgeb hbsb hb
        have hTb := blk_later hHeld.2 hb
        have hOx := own_later hOx hb
        have hWx := hWx.trans (hb.mono hDx)
        have hDx := Nat.le_trans hDx hb.size
        refine hK.out _ _ (box_it4 hTb) (fun hHeld => ?_)
        clear hK K
        (try simp only [Act.put, List.setIfInBounds_toArray, List.set_cons_zero, List.set_cons_succ])
        refine rg_do 3 rfl (by kernel_rfl) (by rfl) (fun K hK => ?_)
        refine wp_append_shows _ _ _ 32 rfl D 5 i0 _ 1 1 Try.underlying32 hi hz0 hz1 hz2 rfl (by decide) _ _ _ rfl hOx _ _ 1 _ _ rfl (shows_blk hbsb rfl) (by intro x hx; rw [List.mem_singleton.1 hx]; rfl) (by unfold maxLen; omega) (by omega) hDx ?_
        intro Aa ca w103 hOa hga hBa
        have hTb := blk_other hHeld.2 hga (own_blk_ne hOx hHeld.2 (by decide))
        have hOx := hOa
        have hWx := hWx.trans hBa
        have hDx := Nat.le_trans hDx hBa.size
        refine hK.out _ _ (box_it4 hTb) (fun hHeld => ?_)
        clear hK K
        (try simp only [Act.put, List.setIfInBounds_toArray, List.set_cons_zero, List.set_cons_succ])
        refine rg_do 7 rfl (by kernel_rfl) (by rfl) (fun K hK => ?_)
        go_simp
        (go_at_call 44; (with_reducible refine (nhigh_at un 8 8 rfl _ Hun.out (by omega)).mono ?_); (rintro e w107 ⟨Ah, cH, rfl, hH, hbh⟩))
        have hTb := blk_later hHeld.2 hbh
        have hOlt := own_under hOx
        have hOx := own_later hOx hbh
        have hWx := hWx.trans (hbh.mono hDx)
        have hDx := Nat.le_trans hDx hbh.size
        refine hK.out _ _ (box_it4 hTb) (fun hHeld => ?_)
        clear hK K
        (try simp only [Act.put, List.setIfInBounds_toArray, List.set_cons_zero, List.set_cons_succ])
        refine rg_do 8 rfl (by kernel_rfl) (by rfl) (fun K hK => ?_)
        refine wp_append_shows _ _ _ 32 rfl D 5 i0 _ 1 1 Try.underlying32 hi hz0 hz1 hz2 rfl (by decide) _ _ _ rfl hOx _ _ 8 _ _ rfl (Shows.own hH) (bv_one _) (by unfold maxLen; omega) (by omega) hDx ?_
        intro Ac cc w108 hOc hgc hBc
        have hTb := blk_other hHeld.2 hgc (own_blk_ne hOx hHeld.2 (by decide))
        have hOx := hOc
        have hWx := hWx.trans hBc
        refine hK.out _ _ (box_it4 hTb) (fun hHeld => ?_)
        clear hK K
        (try simp only [Act.put, List.setIfInBounds_toArray, List.set_cons_zero, List.set_cons_succ])
        refine rg_in 9 rfl (by kernel_rfl) (by kernel_rfl) (by kernel_rfl) (by rfl) (v := ?_) (fun _ _ _ h => h) hHeld (fun w hSw => ?_) ?_
        rotate_left
        · (try dsimp only at hSw); go_simp <;> (with_reducible rfl)
        (try simp only [Act.put, List.setIfInBounds_toArray, List.set_cons_zero, List.set_cons_succ])
        refine wpAnyH_done (by kernel_rfl) ?_ _
        have HBZ := Lib.hid (hbr.trans hWx)
        have HOZ := Lib.hid hOx
        clear hHeld hOx hOa hOc hga hgc hBa hBc hTb hgeb hbsb hb hWx hDx hH hbh hOlt
        go_wp2_with fail
        go_roundw
        case rel => first | exact ⟨k + 1, Ac, _, cc, by omega, by go_num, rfl, by omega, Lib.hid (by rw [HNX.out]; exact HOZ.out), HBZ.out⟩ | exact ⟨_, _, ⟨k + 1, Ac, _, cc, by omega, by go_num, rfl, by omega, Lib.hid (by rw [HNX.out]; exact HOZ.out), HBZ.out⟩, rfl, rfl⟩
        case measure => simp [intOf]; omega
    · obtain rfl : N = k := by omega
      have hbz := hb1.trans (hbr.mono (Nat.le_of_lt hgn))
      have HOZ : Hid (wr.ownsRow w.heap.size 5 1 (.slice A n c) n (([1, UInt8.ofNat N] ++ (X.I.map EnT.it).flatMap EnT.put).map bv)) := Lib.hid (by
        have h := own_base HO.out (Nat.le_of_lt hgn)
        rw [← HVL.out N (Nat.le_refl _), List.take_of_length_le (by rw [HIL.out, HNN.out]; exact Nat.le_refl _)] at h
        exact h)
      clear hlt hk HO hcN
      go_wp2
      go_ret
      exact ⟨A, n, c, rfl, HOZ.out, hbz⟩
set_option maxRecDepth 20000 in
set_option maxHeartbeats 4000000 in
theorem rBytes_inner (X : NoT) (B : Nat) (w : World) (hX : LieN w B X) (hB : B ≤ w.heap.size) (hok : X.okB = true) (hlf : X.leaf = false) :
    Calls Try.prog 23 #[X.agg] w (GivesBytes 5 X.enc w) := by
  have hb := bel_alloc (Below.refl w.heap.size w) (.cells #[.bool X.leaf, .slice X.iA X.iN X.iC, .slice X.kA X.kN X.kC] 25)
  have hn := NBox.new w (.bool X.leaf) (.slice X.iA X.iN X.iC) (.slice X.kA X.kN X.kC) 25
  have hagg : X.agg = .agg #[.bool X.leaf, .slice X.iA X.iN X.iC, .slice X.kA X.kN X.kC] := rfl
  rw [hagg]
  have hXL := hX.later (hb.mono hB)
  have hil := hX.klen
  obtain ⟨hsh, hru, -⟩ := okB_parts hok
  have HAll := Lib.hid (runOk_all _ _ hru)
  have hen : X.ents = X.K.map .ki := by unfold NoT.ents; rw [hlf]; rfl
  have hn6 := (shape_len hX hsh).1
  rw [hen, List.length_map, hil] at hn6
  have HE := Lib.hid hen
  have henc : X.enc = [2, UInt8.ofNat X.kN] ++ (X.K.map EnT.ki).flatMap EnT.put := by
    unfold NoT.enc
    rw [hlf, hen, List.length_map, hil]
    rfl
  rw [henc]
  rw [hlf] at hb hn hXL ⊢
  have HN := Lib.hid hn
  have HX := Lib.hid hXL
  have HIL := Lib.hid hil
  obtain ⟨N, hN⟩ : ∃ N, X.kN = N := ⟨_, rfl⟩
  have HNN := Lib.hid hN
  rw [hN] at hn6 hb HN HX ⊢
  obtain ⟨⟨m0, m1, m2⟩, -⟩ := HN.out
  clear hX hagg hXL hen hlf henc hok hsh hru hn hil hN
  obtain ⟨i0, hi, hz0, hz1, hz2⟩ := u8_info
  have hw8 : IntKind.u8.wrap (N : Int) = (N : Int) := by rw [IntKind.wrap_u8]; omega
  go_enter Try.func23, Try.ntmps23
  go_upto_region 14 with fail
  generalize w.alloc (.cells #[.bool false, .slice X.iA X.iN X.iC, .slice X.kA N X.kC] 25) = W0 at *
  have hlit := World.ownsRow_lit (base := W0.heap.size) (e := 5) (size := 1) W0 #[.int .u8 2, .int .u8 (N : Int)] 2 (Nat.le_refl _) (by unfold maxLen; omega) rfl
  have hbl := bel_alloc (Below.refl W0.heap.size W0) (.cells #[.int .u8 2, .int .u8 (N : Int)] 5)
  have HLIT := Lib.hid hlit
  have HBL := Lib.hid hbl
  clear hlit hbl
  go_upto_region 16 with fail
  obtain ⟨g0, hg0⟩ : ∃ g0, W0.heap.size = g0 := ⟨_, rfl⟩
  generalize W0.alloc (.cells #[.int .u8 2, .int .u8 (N : Int)] 5) = W1 at *
  have HG0 := Lib.hid hg0
  have hO1 := HLIT.out
  rw [hg0] at hO1 ⊢
  have hbD := HBL.out
  rw [hg0] at hbD
  have hwD : w.heap.size ≤ g0 := by rw [← hg0]; exact hb.size
  have hBD : B ≤ g0 := Nat.le_trans hB hwD
  obtain ⟨D, hD⟩ : ∃ D, g0 = D := ⟨_, rfl⟩
  rw [hD] at hbD hwD hBD
  have hO1 : W1.ownsRow D 5 1 (.slice (some ⟨g0, 0, none⟩) 2 2) 2 [.int .u8 2, .int .u8 (N : Int)] := by rw [← hD]; exact hO1
  have HN1 := Lib.hid (HN.out.later HBL.out)
  have HX1 := Lib.hid (HX.out.later (HBL.out.mono (by rw [hg0, hD]; exact hBD)))
  have HW1 := Lib.hid (show Below w.heap.size w W1 from bel_next hb HBL.out)
  have hD1 : D ≤ W1.heap.size := by rw [← hD, ← hg0]; exact HBL.out.size
  have HO1 := Lib.hid hO1
  have HVL : Hid (∀ k, k ≤ N → (([2, UInt8.ofNat N] ++ ((X.K.take k).map EnT.ki).flatMap EnT.put).map bv) = [.int .u8 2, .int .u8 (N : Int)] ++ (((X.K.take k).map EnT.ki).flatMap EnT.put).map bv) := Lib.hid (fun k _ => by
    rw [List.map_append]
    congr 1
    simp only [List.map_cons, List.map_nil, nu8_nat]
    rw [show (N : Int) % 256 = (N : Int) by omega]
    rfl)
  obtain ⟨⟨m0, m1, m2⟩, -⟩ := HN1.out
  have hgn : w.heap.size < D := by
    have h1 : W0.heap.size = D := hg0.trans hD
    rw [← h1]
    exact World.block_lt_of_cell? W0 _ HN.out.1.1
  have hb1 : Below w.heap.size w W1 := HW1.out
  clear hb hO1 HLIT HBL HN HX hw8 hg0 hD HG0
  go_wp2_with fail
  go_loopw [7, 8] (fun v y wr => ∃ (k : Nat) (A : Option Addr) (n c : Nat), k ≤ N ∧ y = .int .i64 k ∧ v = .slice A n c ∧ n ≤ 2 + 240 * k ∧ Hid (wr.ownsRow D 5 1 (.slice A n c) n ([.int .u8 2, .int .u8 (N : Int)] ++ (((X.K.take k).map EnT.ki).flatMap EnT.put).map bv)) ∧ Below D W1 wr) (fun _ y _ => N - (intOf y).toNat)
  case atStart => exact ⟨0, some ⟨g0, 0, none⟩, 2, 2, Nat.zero_le _, rfl, rfl, Nat.le_refl _, Lib.hid HO1.out, Below.refl _ _⟩
  case round =>
    clear m0 m1 m2 HO1
    obtain ⟨k, A, n, c, hk, rfl, rfl, hn, HO, hbr⟩ := hrel
    rename World => wr
    have hcN : ∀ j v, W1.cell? ⟨w.heap.size, j, none⟩ = some v → wr.cell? ⟨w.heap.size, j, none⟩ = some v := fun j v h => (hbr.cell (show w.heap.size < D from hgn)).trans h
    have m1 := hcN _ _ HN1.out.1.2.2
    by_cases hlt : k < N
    · have hXr := HX1.out.later (hbr.mono hBD)
      obtain ⟨b1, f1, x, hxA, hbB, hx, x0, x1, x2, x3, x4, x5, x6, x7⟩ := ki_at hXr.krow (show k < X.kN by rw [HNN.out]; exact hlt)
      have hxok := ki_okB (x := x) (HAll.out (.ki x) (by rw [HE.out]; exact List.mem_map.2 ⟨x, List.mem_of_getElem? hx, rfl⟩))
      have hxo := hXr.kids x (List.mem_of_getElem? hx)
      have hkl := hxo.key.len
      have hk1 : x.k.n ≤ 120 := by omega
      have HKK := Lib.hid hxo.key.here
      obtain ⟨ua, huua⟩ : ∃ u, u64n (x.a) = u := ⟨_, rfl⟩
      have hwua : IntKind.u64.wrap (x.a) = (ua : Int) := by rw [u64n_wrap, huua]
      have Hua := Lib.hid (show ua < 18446744073709551616 by rw [← huua]; exact u64n_lt _)
      obtain ⟨uc, huuc⟩ : ∃ u, u64n (x.r.c) = u := ⟨_, rfl⟩
      have hwuc : IntKind.u64.wrap (x.r.c) = (uc : Int) := by rw [u64n_wrap, huuc]
      have Huc := Lib.hid (show uc < 18446744073709551616 by rw [← huuc]; exact u64n_lt _)
      obtain ⟨ui, huui⟩ : ∃ u, u64n (x.r.i) = u := ⟨_, rfl⟩
      have hwui : IntKind.u64.wrap (x.r.i) = (ui : Int) := by rw [u64n_wrap, huui]
      have Hui := Lib.hid (show ui < 18446744073709551616 by rw [← huui]; exact u64n_lt _)
      obtain ⟨uh, huuh⟩ : ∃ u, u64n (hiI x.r.v) = u := ⟨_, rfl⟩
      have hwuh : IntKind.u64.wrap (hiI x.r.v) = (uh : Int) := by rw [u64n_wrap, huuh]
      have Huh := Lib.hid (show uh < 18446744073709551616 by rw [← huuh]; exact u64n_lt _)
      obtain ⟨ue, huue⟩ : ∃ u, u64n (x.r.l) = u := ⟨_, rfl⟩
      have hwue : IntKind.u64.wrap (x.r.l) = (ue : Int) := by rw [u64n_wrap, huue]
      have Hue := Lib.hid (show ue < 18446744073709551616 by rw [← huue]; exact u64n_lt _)
      obtain ⟨um, huum⟩ : ∃ u, u64n (x.r.m) = u := ⟨_, rfl⟩
      have hwum : IntKind.u64.wrap (x.r.m) = (um : Int) := by rw [u64n_wrap, huum]
      have Hum := Lib.hid (show um < 18446744073709551616 by rw [← huum]; exact u64n_lt _)
      obtain ⟨rl, hurl⟩ : ∃ u, u64n (loI x.r.v) = u := ⟨_, rfl⟩
      have Hrl := Lib.hid (show rl < 18446744073709551616 by rw [← hurl]; exact u64n_lt _)
      have hl0 : 0 ≤ loI x.r.v ∧ loI x.r.v < 18446744073709551616 := by unfold loI; omega
      have hrl : loI x.r.v = (rl : Int) := by rw [← hurl]; unfold u64n; omega
      have HNX : Hid ([Value.int .u8 2, Value.int .u8 (N : Int)] ++ (((X.K.take (k + 1)).map EnT.ki).flatMap EnT.put).map bv = ([Value.int .u8 2, Value.int .u8 (N : Int)] ++ (((X.K.take k).map EnT.ki).flatMap EnT.put).map bv) ++ [.int .u8 (x.k.n : Int)] ++ x.k.l.map bv ++ (Nod.hiL ua 4).map bv ++ (Nod.hiL uc 4).map bv ++ (Nod.hiL ui 4).map bv ++ (Nod.hiL uh 8).map bv ++ (Nod.hiL rl 8).map bv ++ (Nod.hiL ue 8).map bv ++ (Nod.hiL um 8).map bv) := Lib.hid (by
        have h := ki_put_v x ([Value.int .u8 2, Value.int .u8 (N : Int)] ++ (((X.K.take k).map EnT.ki).flatMap EnT.put).map bv) ua uc ui uh rl ue um huua huuc huui huuh hurl huue huum (by omega)
        rw [hkl] at h
        rw [← h, takeN hx, List.map_append, List.flatMap_append, List.map_append, List.append_assoc, List.map_singleton, List.flatMap_singleton])
      rw [hrl] at x5
      clear huua huuc huui huuh hurl huue huum hl0 hrl
      generalize hiI x.r.v = rh at *
      obtain ⟨⟨kA, kn, kc, kl⟩, xa, ⟨rc, ri, rv, re, rm⟩⟩ := x
      simp only at x0 x1 x2 x3 x4 x5 x6 x7 HNX HKK hk1 hkl hwua hwuc hwui hwue hwum
      have hwk : IntKind.u8.wrap (kn : Int) = (kn : Int) := by rw [IntKind.wrap_u8]; omega
      have hlt' : (k : Int) < (N : Int) := by omega
      rw [hxA] at m1
      clear hx hxok hxo hXr hxA hcN
      have hbx := bel_alloc (Below.refl wr.heap.size wr) (.cells #[.slice kA kn kc, .int .i64 xa, .int .i64 rc, .int .i64 ri, .int .i64 rh, .int .u64 (rl : Int), .int .i64 re, .int .i64 rm] 60)
      have hblk := heap_alloc_new wr (.cells #[.slice kA kn kc, .int .i64 xa, .int .i64 rc, .int .i64 ri, .int .i64 rh, .int .u64 (rl : Int), .int .i64 re, .int .i64 rm] 60)
      have hDr : D ≤ wr.heap.size := Nat.le_trans hD1 hbr.size
      have HT := Lib.hid hblk
      have HO := Lib.hid (own_later HO.out hbx)
      have HW := Lib.hid (hbx.mono hDr)
      have HD := Lib.hid (Nat.le_trans hDr hbx.size)
      clear hbx hblk
      go_upto_region 19 with fail
      clear m1 x0 x1 x2 x3 x4 x5 x6 x7
      obtain ⟨gx, hgx⟩ : ∃ gx, wr.heap.size = gx := ⟨_, rfl⟩
      rw [hgx] at HT ⊢
      clear hgx
      generalize wr.alloc (.cells #[.slice kA kn kc, .int .i64 xa, .int .i64 rc, .int .i64 ri, .int .i64 rh, .int .u64 (rl : Int), .int .i64 re, .int .i64 rm] 60) = wa at *
      have hOx := HO.out.drew
      have hWx := HW.out.drew
      have hDx := HD.out
      clear HO HW HD
      refine wp_region_held_drew (S := fun W => (W.cell? ⟨gx, 0, none⟩ = some (.slice kA kn kc)) ∧ W.heap[gx]? = some (.cells #[.slice kA kn kc, .int .i64 xa, .int .i64 rc, .int .i64 ri, .int .i64 rh, .int .u64 (rl : Int), .int .i64 re, .int .i64 rm] 60 (0, 0))) (by kernel_rfl) (box_ki1 HT.out) (fun hHeld => ?_)
      refine rg_in 0 rfl (by kernel_rfl) (by kernel_rfl) (by kernel_rfl) (by rfl) (v := ?_) (fun _ _ _ h => h) hHeld (fun w hSw => ?_) ?_
      rotate_left
      · (try dsimp only at hSw); go_simp <;> (with_reducible rfl)
      (try simp only [Act.put, List.setIfInBounds_toArray, List.set_cons_zero, List.set_cons_succ])
      refine rg_in 1 rfl (by kernel_rfl) (by kernel_rfl) (by kernel_rfl) (by rfl) (v := ?_) (fun _ _ _ h => h) hHeld (fun w hSw => ?_) ?_
      rotate_left
      · (try dsimp only at hSw); go_simp <;> (with_reducible rfl)
      (try simp only [Act.put, List.setIfInBounds_toArray, List.set_cons_zero, List.set_cons_succ])
      refine rg_in 2 rfl (by kernel_rfl) (by kernel_rfl) (by kernel_rfl) (by rfl) (v := ?_) (fun _ _ _ h => h) hHeld (fun w hSw => ?_) ?_
      rotate_left
      · (try dsimp only at hSw); go_simp <;> (with_reducible rfl)
      (try simp only [Act.put, List.setIfInBounds_toArray, List.set_cons_zero, List.set_cons_succ])
      refine rg_in 3 rfl (by kernel_rfl) (by kernel_rfl) (by kernel_rfl) (by rfl) (v := ?_) (fun _ _ _ h => h) hHeld (fun w hSw => ?_) ?_
      rotate_left
      · (try dsimp only at hSw); go_simp <;> (with_reducible rfl)
      (try simp only [Act.put, List.setIfInBounds_toArray, List.set_cons_zero, List.set_cons_succ])
      refine rg_in 4 rfl (by kernel_rfl) (by kernel_rfl) (by kernel_rfl) (by rfl) (v := ?_) (fun _ _ _ h => h) hHeld (fun w hSw => ?_) ?_
      rotate_left
      · (try dsimp only at hSw); go_simp <;> (with_reducible rfl)
      (try simp only [Act.put, List.setIfInBounds_toArray, List.set_cons_zero, List.set_cons_succ])
      refine rg_in 7 rfl (by kernel_rfl) (by kernel_rfl) (by kernel_rfl) (by rfl) (v := ?_) (fun _ _ _ h => h) hHeld (fun w hSw => ?_) ?_
      rotate_left
      · (try dsimp only at hSw); go_simp <;> (with_reducible rfl)
      (try simp only [Act.put, List.setIfInBounds_toArray, List.set_cons_zero, List.set_cons_succ])
      refine rg_in 8 rfl (by kernel_rfl) (by kernel_rfl) (by kernel_rfl) (by rfl) (v := ?_) (fun _ _ _ h => h) hHeld (fun w hSw => ?_) ?_
      rotate_left
      · (try dsimp only at hSw); go_simp <;> (with_reducible rfl)
      (try simp only [Act.put, List.setIfInBounds_toArray, List.set_cons_zero, List.set_cons_succ])
      refine rg_do 5 rfl (by kernel_rfl) (by rfl) (fun K hK => ?_)
      refine step_rowsB _ _ 1 _ rfl 1 i0 _ Try.underlying32 hi hz0 hz1 #[.int .u8 (kn : Int)] (fillB1 _) (by decide) (by decide) ?_
      intro gb w105 hgeb hbsb hb
      have hTb := blk_later hHeld.2 hb
      have hOx := own_later hOx hb
      have hWx := hWx.trans (hb.mono hDx)
      have hDx := Nat.le_trans hDx hb.size
      refine hK.out _ _ (box_ki1 hTb) (fun hHeld => ?_)
      clear hK K
      (try simp only [Act.put, List.setIfInBounds_toArray, List.set_cons_zero, List.set_cons_succ])
      refine rg_do 6 rfl (by kernel_rfl) (by rfl) (fun K hK => ?_)
      refine wp_append_shows _ _ _ 32 rfl D 5 i0 _ 1 1 Try.underlying32 hi hz0 hz1 hz2 rfl (by decide) _ _ _ rfl hOx _ _ 1 _ _ rfl (shows_blk hbsb rfl) (by intro x hx; rw [List.mem_singleton.1 hx]; rfl) (by unfold maxLen; omega) (by omega) hDx ?_
      intro Aa ca w106 hOa hga hBa
      have hTb := blk_other hHeld.2 hga (own_blk_ne hOx hHeld.2 (by decide))
      have hOx := hOa
      have hWx := hWx.trans hBa
      have hDx := Nat.le_trans hDx hBa.size
      refine hK.out _ _ (box_ki1 hTb) (fun hHeld => ?_)
      clear hK K
      (try simp only [Act.put, List.setIfInBounds_toArray, List.set_cons_zero, List.set_cons_succ])
      refine rg_do 9 rfl (by kernel_rfl) (by rfl) (fun K hK => ?_)
      refine wp_append_shows _ _ _ 32 rfl D 5 i0 _ 1 1 Try.underlying32 hi hz0 hz1 hz2 rfl (by decide) _ _ _ rfl hOx _ _ kn _ _ rfl (HKK.out.below (hWx.mono hBD)) (bv_one _) (by unfold maxLen; omega) (by omega) hDx ?_
      intro Ac cc w109 hOc hgc hBc
      have hTb := blk_other hHeld.2 hgc (own_blk_ne hOx hHeld.2 (by decide))
      have hOx := hOc
      have hWx := hWx.trans hBc
      have hDx := Nat.le_trans hDx hBc.size
      refine hK.out _ _ (box_ki1 hTb) (fun hHeld => ?_)
      clear hK K
      (try simp only [Act.put, List.setIfInBounds_toArray, List.set_cons_zero, List.set_cons_succ])
      refine rg_in 10 rfl (by kernel_rfl) (by kernel_rfl) (by kernel_rfl) (by rfl) (v := ?_) (fun _ _ _ h => h) hHeld (fun w hSw => ?_) ?_
      rotate_left
      · (try dsimp only at hSw); go_simp <;> (with_reducible rfl)
      (try simp only [Act.put, List.setIfInBounds_toArray, List.set_cons_zero, List.set_cons_succ])
      refine wpAnyH_done (by kernel_rfl) ?_ _
      have HO := Lib.hid hOx
      have HW := Lib.hid hWx
      have HD := Lib.hid hDx
      have HT := Lib.hid hHeld.2
      clear hHeld hOx hOa hOc hga hgc hBa hBc hTb hgeb hbsb hb hWx hDx
      obtain ⟨q0, hq0⟩ : ∃ q, q = n + 1 + kn := ⟨_, rfl⟩
      rw [← hq0] at HO ⊢
      have hqb0 : q0 ≤ 2 + 240 * k + 1 + kn := by omega
      clear hq0
      obtain ⟨⟨b0, b1, b2, b3, b4, b5, b6, b7⟩, -⟩ := box_ki8 HT.out
      go_upto_region 20 with fail
      go_wp2_with fail
      refine (nhigh_at ua 4 4 rfl _ Hua.out (by omega)).mono ?_
      rintro e wh0 ⟨Ah0, ch0, rfl, hH, hbh⟩
      have hOh := own_later HO.out hbh
      have hTh := blk_later HT.out hbh
      have hsh := Shows.own hH
      have hDh := Nat.le_trans HD.out hbh.size
      have hWh := HW.out.trans (hbh.mono HD.out)
      have hma : q0 + 4 ≤ maxLen := by unfold maxLen; omega
      have hmb : (q0 + 4) * 1 ≤ 140737488355328 := by omega
      clear b0 b1 b2 b3 b4 b5 b6 b7 hbh HO HT HD HW
      go_wp2_with (at_builtin; refine wpList_append_shows _ rfl _ _ 32 rfl D 5 i0 _ 1 1 Try.underlying32 hi hz0 hz1 hz2 rfl (by decide) _ _ _ rfl hOh _ _ 4 _ _ rfl hsh (bv_one _) hma hmb hDh ?_; intro As0 cs0 ws0 hown hgrow hbb; have HT := Lib.hid (blk_other hTh hgrow (own_blk_ne hOh hTh (by decide))); have HO := Lib.hid hown; have HW := Lib.hid (hWh.trans hbb); have HD := Lib.hid (Nat.le_trans hDh hbb.size); obtain ⟨⟨b0, b1, b2, b3, b4, b5, b6, b7⟩, -⟩ := box_ki8 HT.out; clear hown hgrow hbb hOh hTh hsh hDh hWh hma hmb hH)
      obtain ⟨q1, hq1⟩ : ∃ q, q = q0 + 4 := ⟨_, rfl⟩
      rw [← hq1] at HO ⊢
      have hqb1 : q1 ≤ q0 + 4 := by omega
      clear hq1
      refine (nhigh_at uc 4 4 rfl _ Huc.out (by omega)).mono ?_
      rintro e wh1 ⟨Ah1, ch1, rfl, hH, hbh⟩
      have hOh := own_later HO.out hbh
      have hTh := blk_later HT.out hbh
      have hsh := Shows.own hH
      have hDh := Nat.le_trans HD.out hbh.size
      have hWh := HW.out.trans (hbh.mono HD.out)
      have hma : q1 + 4 ≤ maxLen := by unfold maxLen; omega
      have hmb : (q1 + 4) * 1 ≤ 140737488355328 := by omega
      clear b0 b1 b2 b3 b4 b5 b6 b7 hbh HO HT HD HW
      go_wp2_with (at_builtin; refine wpList_append_shows _ rfl _ _ 32 rfl D 5 i0 _ 1 1 Try.underlying32 hi hz0 hz1 hz2 rfl (by decide) _ _ _ rfl hOh _ _ 4 _ _ rfl hsh (bv_one _) hma hmb hDh ?_; intro As1 cs1 ws1 hown hgrow hbb; have HT := Lib.hid (blk_other hTh hgrow (own_blk_ne hOh hTh (by decide))); have HO := Lib.hid hown; have HW := Lib.hid (hWh.trans hbb); have HD := Lib.hid (Nat.le_trans hDh hbb.size); obtain ⟨⟨b0, b1, b2, b3, b4, b5, b6, b7⟩, -⟩ := box_ki8 HT.out; clear hown hgrow hbb hOh hTh hsh hDh hWh hma hmb hH)
      obtain ⟨q2, hq2⟩ : ∃ q, q = q1 + 4 := ⟨_, rfl⟩
      rw [← hq2] at HO ⊢
      have hqb2 : q2 ≤ q1 + 4 := by omega
      clear hq2
      refine (nhigh_at ui 4 4 rfl _ Hui.out (by omega)).mono ?_
      rintro e wh2 ⟨Ah2, ch2, rfl, hH, hbh⟩
      have hOh := own_later HO.out hbh
      have hTh := blk_later HT.out hbh
      have hsh := Shows.own hH
      have hDh := Nat.le_trans HD.out hbh.size
      have hWh := HW.out.trans (hbh.mono HD.out)
      have hma : q2 + 4 ≤ maxLen := by unfold maxLen; omega
      have hmb : (q2 + 4) * 1 ≤ 140737488355328 := by omega
      clear b0 b1 b2 b3 b4 b5 b6 b7 hbh HO HT HD HW
      go_wp2_with (at_builtin; refine wpList_append_shows _ rfl _ _ 32 rfl D 5 i0 _ 1 1 Try.underlying32 hi hz0 hz1 hz2 rfl (by decide) _ _ _ rfl hOh _ _ 4 _ _ rfl hsh (bv_one _) hma hmb hDh ?_; intro As2 cs2 ws2 hown hgrow hbb; have HT := Lib.hid (blk_other hTh hgrow (own_blk_ne hOh hTh (by decide))); have HO := Lib.hid hown; have HW := Lib.hid (hWh.trans hbb); have HD := Lib.hid (Nat.le_trans hDh hbb.size); obtain ⟨⟨b0, b1, b2, b3, b4, b5, b6, b7⟩, -⟩ := box_ki8 HT.out; clear hown hgrow hbb hOh hTh hsh hDh hWh hma hmb hH)
      obtain ⟨q3, hq3⟩ : ∃ q, q = q2 + 4 := ⟨_, rfl⟩
      rw [← hq3] at HO ⊢
      have hqb3 : q3 ≤ q2 + 4 := by omega
      clear hq3
      refine (nhigh_at uh 8 8 rfl _ Huh.out (by omega)).mono ?_
      rintro e wh3 ⟨Ah3, ch3, rfl, hH, hbh⟩
      have hOh := own_later HO.out hbh
      have hTh := blk_later HT.out hbh
      have hsh := Shows.own hH
      have hDh := Nat.le_trans HD.out hbh.size
      have hWh := HW.out.trans (hbh.mono HD.out)
      have hma : q3 + 8 ≤ maxLen := by unfold maxLen; omega
      have hmb : (q3 + 8) * 1 ≤ 140737488355328 := by omega
      clear b0 b1 b2 b3 b4 b5 b6 b7 hbh HO HT HD HW
      go_wp2_with (at_builtin; refine wpList_append_shows _ rfl _ _ 32 rfl D 5 i0 _ 1 1 Try.underlying32 hi hz0 hz1 hz2 rfl (by decide) _ _ _ rfl hOh _ _ 8 _ _ rfl hsh (bv_one _) hma hmb hDh ?_; intro As3 cs3 ws3 hown hgrow hbb; have HT := Lib.hid (blk_other hTh hgrow (own_blk_ne hOh hTh (by decide))); have HO := Lib.hid hown; have HW := Lib.hid (hWh.trans hbb); have HD := Lib.hid (Nat.le_trans hDh hbb.size); obtain ⟨⟨b0, b1, b2, b3, b4, b5, b6, b7⟩, -⟩ := box_ki8 HT.out; clear hown hgrow hbb hOh hTh hsh hDh hWh hma hmb hH)
      obtain ⟨q4, hq4⟩ : ∃ q, q = q3 + 8 := ⟨_, rfl⟩
      rw [← hq4] at HO ⊢
      have hqb4 : q4 ≤ q3 + 8 := by omega
      clear hq4
      refine (nhigh_at rl 8 8 rfl _ Hrl.out (by omega)).mono ?_
      rintro e wh4 ⟨Ah4, ch4, rfl, hH, hbh⟩
      have hOh := own_later HO.out hbh
      have hTh := blk_later HT.out hbh
      have hsh := Shows.own hH
      have hDh := Nat.le_trans HD.out hbh.size
      have hWh := HW.out.trans (hbh.mono HD.out)
      have hma : q4 + 8 ≤ maxLen := by unfold maxLen; omega
      have hmb : (q4 + 8) * 1 ≤ 140737488355328 := by omega
      clear b0 b1 b2 b3 b4 b5 b6 b7 hbh HO HT HD HW
      go_wp2_with (at_builtin; refine wpList_append_shows _ rfl _ _ 32 rfl D 5 i0 _ 1 1 Try.underlying32 hi hz0 hz1 hz2 rfl (by decide) _ _ _ rfl hOh _ _ 8 _ _ rfl hsh (bv_one _) hma hmb hDh ?_; intro As4 cs4 ws4 hown hgrow hbb; have HT := Lib.hid (blk_other hTh hgrow (own_blk_ne hOh hTh (by decide))); have HO := Lib.hid hown; have HW := Lib.hid (hWh.trans hbb); have HD := Lib.hid (Nat.le_trans hDh hbb.size); obtain ⟨⟨b0, b1, b2, b3, b4, b5, b6, b7⟩, -⟩ := box_ki8 HT.out; clear hown hgrow hbb hOh hTh hsh hDh hWh hma hmb hH)
      obtain ⟨q5, hq5⟩ : ∃ q, q = q4 + 8 := ⟨_, rfl⟩
      rw [← hq5] at HO ⊢
      have hqb5 : q5 ≤ q4 + 8 := by omega
      clear hq5
      refine (nhigh_at ue 8 8 rfl _ Hue.out (by omega)).mono ?_
      rintro e wh5 ⟨Ah5, ch5, rfl, hH, hbh⟩
      have hOh := own_later HO.out hbh
      have hTh := blk_later HT.out hbh
      have hsh := Shows.own hH
      have hDh := Nat.le_trans HD.out hbh.size
      have hWh := HW.out.trans (hbh.mono HD.out)
      have hma : q5 + 8 ≤ maxLen := by unfold maxLen; omega
      have hmb : (q5 + 8) * 1 ≤ 140737488355328 := by omega
      clear b0 b1 b2 b3 b4 b5 b6 b7 hbh HO HT HD HW
      go_wp2_with (at_builtin; refine wpList_append_shows _ rfl _ _ 32 rfl D 5 i0 _ 1 1 Try.underlying32 hi hz0 hz1 hz2 rfl (by decide) _ _ _ rfl hOh _ _ 8 _ _ rfl hsh (bv_one _) hma hmb hDh ?_; intro As5 cs5 ws5 hown hgrow hbb; have HT := Lib.hid (blk_other hTh hgrow (own_blk_ne hOh hTh (by decide))); have HO := Lib.hid hown; have HW := Lib.hid (hWh.trans hbb); have HD := Lib.hid (Nat.le_trans hDh hbb.size); obtain ⟨⟨b0, b1, b2, b3, b4, b5, b6, b7⟩, -⟩ := box_ki8 HT.out; clear hown hgrow hbb hOh hTh hsh hDh hWh hma hmb hH)
      obtain ⟨q6, hq6⟩ : ∃ q, q = q5 + 8 := ⟨_, rfl⟩
      rw [← hq6] at HO ⊢
      have hqb6 : q6 ≤ q5 + 8 := by omega
      clear hq6
      refine (nhigh_at um 8 8 rfl _ Hum.out (by omega)).mono ?_
      rintro e wh6 ⟨Ah6, ch6, rfl, hH, hbh⟩
      have hOh := own_later HO.out hbh
      have hTh := blk_later HT.out hbh
      have hsh := Shows.own hH
      have hDh := Nat.le_trans HD.out hbh.size
      have hWh := HW.out.trans (hbh.mono HD.out)
      have hma : q6 + 8 ≤ maxLen := by unfold maxLen; omega
      have hmb : (q6 + 8) * 1 ≤ 140737488355328 := by omega
      clear b0 b1 b2 b3 b4 b5 b6 b7 hbh HO HT HD HW
      go_wp2_with (at_builtin; refine wpList_append_shows _ rfl _ _ 32 rfl D 5 i0 _ 1 1 Try.underlying32 hi hz0 hz1 hz2 rfl (by decide) _ _ _ rfl hOh _ _ 8 _ _ rfl hsh (bv_one _) hma hmb hDh ?_; intro As6 cs6 ws6 hown hgrow hbb; have HT := Lib.hid (blk_other hTh hgrow (own_blk_ne hOh hTh (by decide))); have HO := Lib.hid hown; have HW := Lib.hid (hWh.trans hbb); have HD := Lib.hid (Nat.le_trans hDh hbb.size); obtain ⟨⟨b0, b1, b2, b3, b4, b5, b6, b7⟩, -⟩ := box_ki8 HT.out; clear hown hgrow hbb hOh hTh hsh hDh hWh hma hmb hH)
      obtain ⟨q7, hq7⟩ : ∃ q, q = q6 + 8 := ⟨_, rfl⟩
      rw [← hq7] at HO ⊢
      have hqb7 : q7 ≤ q6 + 8 := by omega
      clear hq7
      clear b0 b1 b2 b3 b4 b5 b6 b7
      go_wp2_with fail
      go_roundw
      case rel => first | exact ⟨k + 1, As6, q7, cs6, by omega, by go_num, rfl, by omega, Lib.hid (by rw [HNX.out]; exact HO.out), hbr.trans HW.out⟩ | exact ⟨_, _, ⟨k + 1, As6, q7, cs6, by omega, by go_num, rfl, by omega, Lib.hid (by rw [HNX.out]; exact HO.out), hbr.trans HW.out⟩, rfl, rfl⟩
      case measure => simp [intOf]; omega
    · obtain rfl : N = k := by omega
      have hbz := hb1.trans (hbr.mono (Nat.le_of_lt hgn))
      have HOZ : Hid (wr.ownsRow w.heap.size 5 1 (.slice A n c) n (([2, UInt8.ofNat N] ++ (X.K.map EnT.ki).flatMap EnT.put).map bv)) := Lib.hid (by
        have h := own_base HO.out (Nat.le_of_lt hgn)
        rw [← HVL.out N (Nat.le_refl _), List.take_of_length_le (by rw [HIL.out, HNN.out]; exact Nat.le_refl _)] at h
        exact h)
      clear hlt hk HO hcN
      go_wp2
      go_ret
      exact ⟨A, n, c, rfl, HOZ.out, hbz⟩
theorem rBytes14_any (X : NoT) (B : Nat) (w : World) (hX : LieN w B X) (hB : B ≤ w.heap.size) (hok : X.okB = true) :
    Calls Try.prog 23 #[X.agg] w (GivesBytes 5 X.enc w) := by
  cases h : X.leaf
  · exact rBytes_inner X B w hX hB hok h
  · exact rBytes_leaf X B w hX hB hok h
end Go.Proofs.Ytnfohlabmidliaa
