import Derived.Test.YtnfohlabmidliaaVNodRm
import Derived.Test.YtnfohlabmidliaaGae
import Derived.Test.YtnfohlabmidliaaGaf
import Derived.Test.YtnfohlabmidliaaGag
/-
  The reference's parts of Read: item, kid.
-/
namespace Go.Proofs.Ytnfohlabmidliaa
open Go.RowKit
set_option linter.unusedVariables false
set_option linter.unusedSimpArgs false

theorem box4_all {W : World} {g : Nat} {a b c d : Value} {t : TypeId} (h : W.heap[g]? = some (.cells #[a, b, c, d] t (0, 0))) :
    (W.cell? ⟨g, 0, none⟩ = some a ∧ W.cell? ⟨g, 1, none⟩ = some b ∧ W.cell? ⟨g, 2, none⟩ = some c ∧ W.cell? ⟨g, 3, none⟩ = some d) ∧ W.frozen? ⟨g, 0, none⟩ = false ∧ W.frozen? ⟨g, 1, none⟩ = false ∧ W.frozen? ⟨g, 2, none⟩ = false ∧ W.frozen? ⟨g, 3, none⟩ = false := by
  refine ⟨⟨?_, ?_, ?_, ?_⟩, ?_, ?_, ?_, ?_⟩ <;> first | (rw [cell_of_row _ _ _ _ _ _ h]; rfl) | simp [World.frozen?, h]
theorem box8_all {W : World} {g : Nat} {a0 a1 a2 a3 a4 a5 a6 a7 : Value} {t : TypeId} (h : W.heap[g]? = some (.cells #[a0, a1, a2, a3, a4, a5, a6, a7] t (0, 0))) :
    (W.cell? ⟨g, 0, none⟩ = some a0 ∧ W.cell? ⟨g, 1, none⟩ = some a1 ∧ W.cell? ⟨g, 2, none⟩ = some a2 ∧ W.cell? ⟨g, 3, none⟩ = some a3 ∧ W.cell? ⟨g, 4, none⟩ = some a4 ∧ W.cell? ⟨g, 5, none⟩ = some a5 ∧ W.cell? ⟨g, 6, none⟩ = some a6 ∧ W.cell? ⟨g, 7, none⟩ = some a7) ∧ W.frozen? ⟨g, 0, none⟩ = false ∧ W.frozen? ⟨g, 1, none⟩ = false ∧ W.frozen? ⟨g, 2, none⟩ = false ∧ W.frozen? ⟨g, 3, none⟩ = false ∧ W.frozen? ⟨g, 4, none⟩ = false ∧ W.frozen? ⟨g, 5, none⟩ = false ∧ W.frozen? ⟨g, 6, none⟩ = false ∧ W.frozen? ⟨g, 7, none⟩ = false := by
  refine ⟨⟨?_, ?_, ?_, ?_, ?_, ?_, ?_, ?_⟩, ?_, ?_, ?_, ?_, ?_, ?_, ?_, ?_⟩ <;> first | (rw [cell_of_row _ _ _ _ _ _ h]; rfl) | simp [World.frozen?, h]
theorem six_blk {W : World} {g : Nat} {a0 a1 a2 a3 a4 a5 : Value} {t : TypeId} (h : W.heap[g]? = some (.cells #[a0, a1, a2, a3, a4, a5] t (0, 0))) : Six W g a0 a1 a2 a3 a4 a5 := by
  refine ⟨⟨?_, ?_, ?_, ?_, ?_, ?_⟩, ?_, ?_, ?_, ?_, ?_, ?_⟩ <;> first | (rw [cell_of_row _ _ _ _ _ _ h]; rfl) | simp [World.frozen?, h]
theorem blk_set6 {W : World} {g j : Nat} {o : Obj} (h : W.heap[g]? = some o) (hne : g ≠ j) (a b c d e f : Value) : ((((((W.setCell ⟨j, 0, none⟩ a).setCell ⟨j, 1, none⟩ b).setCell ⟨j, 2, none⟩ c).setCell ⟨j, 3, none⟩ d).setCell ⟨j, 4, none⟩ e).setCell ⟨j, 5, none⟩ f).heap[g]? = some o := by
  rw [set_othN hne, set_othN hne, set_othN hne, set_othN hne, set_othN hne, set_othN hne]
  exact h
theorem sub_ok {w : World} {B b off n c : Nat} {l : List UInt8} (h : PcT.Ok w B ⟨some ⟨b, off, none⟩, n, c, l⟩) (i m : Nat) (hi : i + m ≤ n) (hic : ¬ c = i) : PcT.Ok w B ⟨some ⟨b, off + i, none⟩, m, c - i, (l.drop i).take m⟩ := by
  have hf := h.fits
  have hm := h.most
  simp only at hf hm
  have h1 := Shows.cut h.here (show i ≤ n by omega) hf
  rw [if_neg hic, Option.map_some, addr_add, Nat.mul_one, ← List.map_drop] at h1
  have h2 : Bytes w B (some ⟨b, off + i, none⟩) (n - i) (l.drop i) := h1
  exact ⟨h2.first (show m ≤ n - i by omega), nofun, by show m ≤ c - i; omega, by show c - i ≤ maxLen; omega⟩
theorem wrap_i64n (u : Nat) (h : u < 18446744073709551616) : IntKind.i64.wrap (u : Int) = Nod.i64n u := by
  rw [IntKind.wrap_i64]
  unfold Nod.i64n
  split <;> omega
theorem piece {l A M C : List UInt8} {i m : Nat} (h : l = A ++ (M ++ C)) (hA : A.length = i) (hM : M.length = m) : (l.drop i).take m = M := by
  rw [h, ← hA, List.drop_left, ← hM, List.take_left]
/-- An item, read. -/
def ItmP (p : PcT) (B : Nat) (w : World) (e : Ending) (w' : World) : Prop :=
  Below w.heap.size w w' ∧ ∃ (ok : Bool) (x : ItT) (q : PcT), e = .returned (.tuple #[x.agg, .slice q.A q.n q.c, .bool ok]) ∧ x.Ok w' B ∧ q.Ok w' B ∧ ∀ (y : ItS) (r : List UInt8), y.k.length ≤ 255 → y.v.length ≤ 255 → R64 y.n → p.l = y.put ++ r → ok = true ∧ x.s = y ∧ q.l = r
def zIt : ItT := ⟨⟨none, 0, 0, []⟩, ⟨none, 0, 0, []⟩, false, 0⟩
theorem zIt_ok (w : World) (B : Nat) : zIt.Ok w B := ⟨nil_ok w B, nil_ok w B, by show R64 0; unfold R64; omega⟩
set_option maxRecDepth 20000 in
set_option maxHeartbeats 4000000 in
theorem rItem14_any (p : PcT) (B : Nat) (w : World) (hp : p.Ok w B) (hB : B ≤ w.heap.size) :
    Calls Try.prog 46 #[.slice p.A p.n p.c] w (ItmP p B w) := by
  have hb1 := bel_alloc (Below.refl w.heap.size w) (.cells #[.slice none 0 0, .slice none 0 0, .bool false, .int .i64 0] 58)
  have hBX := heap_alloc_new w (.cells #[.slice none 0 0, .slice none 0 0, .bool false, .int .i64 0] 58)
  have hs1 : w.heap.size + 1 ≤ (w.alloc (.cells #[.slice none 0 0, .slice none 0 0, .bool false, .int .i64 0] 58)).heap.size := by rw [World.size_alloc]; exact Nat.le_refl _
  have hc1 := rCounted_any p B _ (hp.later (hb1.mono hB)) (Nat.le_trans hB hb1.size)
  have HBX := Lib.hid hBX
  clear hBX
  go_enter Try.func46, Try.ntmps46
  go_wp2_with fail
  generalize w.alloc (.cells #[.slice none 0 0, .slice none 0 0, .bool false, .int .i64 0] 58) = W1 at *
  refine hc1.mono ?_
  rintro e W2 ⟨hb2, ok1, t1, q1, rfl, ht1, hq1, hfin1⟩
  have hb12 := bel_next hb1 hb2
  have HBX2 := Lib.hid (blk_later HBX.out hb2)
  have hs2 := Nat.le_trans hs1 hb2.size
  clear hc1 HBX
  cases ok1
  · obtain ⟨⟨b0, b1, b2, b3⟩, f0, f1, f2, f3⟩ := box4_all HBX2.out
    have hbz := ((((hb12.setCell (p := ⟨w.heap.size, 0, none⟩) (Nat.le_refl _) (.slice none 0 0)).setCell (p := ⟨w.heap.size, 1, none⟩) (Nat.le_refl _) (.slice none 0 0)).setCell (p := ⟨w.heap.size, 2, none⟩) (Nat.le_refl _) (.bool false)).setCell (p := ⟨w.heap.size, 3, none⟩) (Nat.le_refl _) (.int .i64 0))
    have HFIN : Hid (∀ (y : ItS) (r : List UInt8), y.k.length ≤ 255 → y.v.length ≤ 255 → R64 y.n → p.l = y.put ++ r → false = true ∧ zIt.s = y ∧ ([] : List UInt8) = r) := Lib.hid (fun y r h1 h2 h3 h4 => by
      have h5 := (hfin1 y.k _ h1 (by rw [h4]; unfold ItS.put putIL; rw [List.append_assoc])).1
      cases h5)
    clear hfin1 ht1 hq1
    go_wp2
    refine bodyPost_ret (v := .tuple #[.agg #[.slice none 0 0, .slice none 0 0, .bool false, .int .i64 0], .slice none 0 0, .bool false]) ?_ rfl ⟨hbz, false, zIt, ⟨none, 0, 0, []⟩, rfl, zIt_ok _ _, nil_ok _ _, HFIN.out⟩
    simp [results, Try.results46, go_sem, *]
  have hc2 := rCounted_any q1 B W2 hq1 (Nat.le_trans hB hb12.size)
  go_wp2_with fail
  refine hc2.mono ?_
  rintro e W3 ⟨hb3, ok2, t2, q2, rfl, ht2, hq2, hfin2⟩
  have hb13 := bel_next hb12 hb3
  have HBX3 := Lib.hid (blk_later HBX2.out hb3)
  have hs3 := Nat.le_trans hs2 hb3.size
  have HT1 := Lib.hid (ht1.later (hb3.mono (Nat.le_trans hB hb12.size)))
  clear hc2 HBX2 ht1 hq1
  cases ok2
  · obtain ⟨⟨b0, b1, b2, b3⟩, f0, f1, f2, f3⟩ := box4_all HBX3.out
    have hbz := ((((hb13.setCell (p := ⟨w.heap.size, 0, none⟩) (Nat.le_refl _) (.slice none 0 0)).setCell (p := ⟨w.heap.size, 1, none⟩) (Nat.le_refl _) (.slice none 0 0)).setCell (p := ⟨w.heap.size, 2, none⟩) (Nat.le_refl _) (.bool false)).setCell (p := ⟨w.heap.size, 3, none⟩) (Nat.le_refl _) (.int .i64 0))
    have HFIN : Hid (∀ (y : ItS) (r : List UInt8), y.k.length ≤ 255 → y.v.length ≤ 255 → R64 y.n → p.l = y.put ++ r → false = true ∧ zIt.s = y ∧ ([] : List UInt8) = r) := Lib.hid (fun y r h1 h2 h3 h4 => by
      have h5 := hfin1 y.k _ h1 (by rw [h4]; unfold ItS.put putIL; rw [List.append_assoc])
      have h6 := (hfin2 y.v _ h2 (by rw [h5.2.2, List.append_assoc])).1
      cases h6)
    clear hfin1 hfin2 ht2 hq2
    go_wp2
    refine bodyPost_ret (v := .tuple #[.agg #[.slice none 0 0, .slice none 0 0, .bool false, .int .i64 0], .slice none 0 0, .bool false]) ?_ rfl ⟨hbz, false, zIt, ⟨none, 0, 0, []⟩, rfl, zIt_ok _ _, nil_ok _ _, HFIN.out⟩
    simp [results, Try.results46, go_sem, *]
  have hc3 := rCut_any q2 9 9 rfl B W3 hq2
  go_wp2_with fail
  refine hc3.mono ?_
  rintro e W4 ⟨hb4, ok3, t3, q3, rfl, ht3, hq3, hok3, hfin3⟩
  have hb14 := bel_next hb13 hb4
  have HBX4 := Lib.hid (blk_later HBX3.out hb4)
  have hs4 := Nat.le_trans hs3 hb4.size
  have HKo := Lib.hid (HT1.out.later (hb4.mono (Nat.le_trans hB hb13.size)))
  have HVo := Lib.hid (ht2.later (hb4.mono (Nat.le_trans hB hb13.size)))
  have HQo := Lib.hid hq3
  have hparts : ∀ (y : ItS) (r : List UInt8), y.k.length ≤ 255 → y.v.length ≤ 255 → R64 y.n → p.l = y.put ++ r → t1.l = y.k ∧ t2.l = y.v ∧ ok3 = true ∧ t3.l = Nod.hiL (if y.b then 1 else 0) 1 ++ Nod.hiL (u64n y.n) 8 ∧ q3.l = r := fun y r h1 h2 h3 h4 => by
    have h5 := hfin1 y.k _ h1 (by rw [h4]; unfold ItS.put putIL; rw [List.append_assoc])
    have h6 := hfin2 y.v _ h2 (by rw [h5.2.2, List.append_assoc])
    have h7 := hfin3 (Nod.hiL (if y.b then 1 else 0) 1 ++ Nod.hiL (u64n y.n) 8) r (by rw [List.length_append, Nod.hi_len, Nod.hi_len]) (by rw [h6.2.2]; simp [nnL])
    exact ⟨h5.2.1, h6.2.1, h7.1, h7.2.1, h7.2.2⟩
  clear hc3 HBX3 ht2 hq2 hq3 hfin1 hfin2 hfin3 HT1
  cases ok3
  · obtain ⟨⟨b0, b1, b2, b3⟩, f0, f1, f2, f3⟩ := box4_all HBX4.out
    have hbz := ((((hb14.setCell (p := ⟨w.heap.size, 0, none⟩) (Nat.le_refl _) (.slice none 0 0)).setCell (p := ⟨w.heap.size, 1, none⟩) (Nat.le_refl _) (.slice none 0 0)).setCell (p := ⟨w.heap.size, 2, none⟩) (Nat.le_refl _) (.bool false)).setCell (p := ⟨w.heap.size, 3, none⟩) (Nat.le_refl _) (.int .i64 0))
    have HFIN : Hid (∀ (y : ItS) (r : List UInt8), y.k.length ≤ 255 → y.v.length ≤ 255 → R64 y.n → p.l = y.put ++ r → false = true ∧ zIt.s = y ∧ ([] : List UInt8) = r) := Lib.hid (fun y r h1 h2 h3 h4 => by
      have h5 := (hparts y r h1 h2 h3 h4).2.2.1
      cases h5)
    clear hparts ht3 hok3
    go_wp2
    refine bodyPost_ret (v := .tuple #[.agg #[.slice none 0 0, .slice none 0 0, .bool false, .int .i64 0], .slice none 0 0, .bool false]) ?_ rfl ⟨hbz, false, zIt, ⟨none, 0, 0, []⟩, rfl, zIt_ok _ _, nil_ok _ _, HFIN.out⟩
    simp [results, Try.results46, go_sem, *]
  · obtain ⟨h39, -⟩ := hok3 rfl
    obtain ⟨A3, n3, c3, l3⟩ := t3
    simp only at h39
    subst h39
    have hl9 := ht3.len
    have hf9 := ht3.fits
    have hm9 := ht3.most
    simp only at hl9 hf9 hm9
    obtain ⟨b, off, rfl, hbB, hcc⟩ := ht3.here.2 (show 0 < 9 by omega)
    obtain ⟨x, hx⟩ : ∃ x, l3[0]? = some x := ⟨_, List.getElem?_eq_getElem (by omega)⟩
    have x0 : W4.cell? ⟨b, off, none⟩ = some (.int .u8 (x.toNat : Nat)) := by
      have h := hcc 0 (bv x) (by rw [List.getElem?_map, hx]; rfl)
      rw [Nat.add_zero] at h
      exact h
    have hsub := sub_ok ht3 1 8 (by decide) (by omega)
    obtain ⟨u, hu⟩ : ∃ u, Nod.rdN ((l3.drop 1).take 8) = u := ⟨_, rfl⟩
    have hul : u < 18446744073709551616 := by
      rw [← hu]
      exact Nod.rd_lt 8 _ (by rw [List.length_take, List.length_drop]; omega)
    obtain ⟨xn, hxn⟩ : ∃ xn, Nod.i64n u = xn := ⟨_, rfl⟩
    have hwn : IntKind.i64.wrap (u : Int) = xn := by rw [wrap_i64n u hul, hxn]
    have HXN := Lib.hid (show R64 xn by rw [← hxn]; exact Nod.i64n_r u hul)
    obtain ⟨fb, hfb⟩ : ∃ fb, (((x.toNat : Nat) : Int) == 1) = fb := ⟨_, rfl⟩
    have HFIN : Hid (∀ (y : ItS) (r : List UInt8), y.k.length ≤ 255 → y.v.length ≤ 255 → R64 y.n → p.l = y.put ++ r → true = true ∧ (⟨t1, t2, fb, xn⟩ : ItT).s = y ∧ q3.l = r) := Lib.hid (fun y r h1 h2 h3 h4 => by
      obtain ⟨e1, e2, -, e4, e5⟩ := hparts y r h1 h2 h3 h4
      refine ⟨rfl, ?_, e5⟩
      have e6 : Nod.hiL (if y.b then 1 else 0) 1 = [UInt8.ofNat (if y.b then 1 else 0)] := Nod.hi_one _
      rw [e6] at e4
      have e7 : x = UInt8.ofNat (if y.b then 1 else 0) := by
        have e4' : l3 = [UInt8.ofNat (if y.b then 1 else 0)] ++ Nod.hiL (u64n y.n) 8 := e4
        rw [e4'] at hx
        simpa using hx.symm
      have e8 : u = u64n y.n := by
        rw [← hu, piece (i := 1) (m := 8) (l := l3) (A := [UInt8.ofNat (if y.b then 1 else 0)]) (M := Nod.hiL (u64n y.n) 8) (C := []) (by rw [List.append_nil]; exact e4) rfl (Nod.hi_len 8 _), Nod.rd_hi, Nat.mod_eq_of_lt (u64n_lt y.n)]
      have e9 : fb = y.b := by
        rw [← hfb, e7]
        cases y.b <;> rfl
      show (⟨t1.l, t2.l, fb, xn⟩ : ItS) = y
      rw [e1, e2, e9, ← hxn, e8, Nod.i64n_u _ h3])
    have hcN : ∀ W, Below w.heap.size W4 W → Calls Try.prog 65 #[.slice (some ⟨b, off + 1, none⟩) 8 (c3 - 1)] W fun e w' => e = .returned (.int .u64 (u : Nat)) ∧ Below W.heap.size W w' := fun W h => by
      have h1 := rNumber_any ⟨some ⟨b, off + 1, none⟩, 8, c3 - 1, (l3.drop 1).take 8⟩ B W (hsub.later (h.mono hB)) (Nat.le_refl _)
      simp only [hu] at h1
      exact h1
    have HcN := Lib.hid hcN
    have x0r : ∀ W, Below w.heap.size W4 W → W.cell? ⟨b, off, none⟩ = some (.int .u8 (x.toNat : Nat)) := fun W h => (h.cell (show b < w.heap.size by omega)).trans x0
    have hi9 : (9 : Int) ≤ (c3 : Int) := by omega
    have hc1 : ¬ c3 = 1 := by omega
    have hc63 : c3 ≤ 9223372036854775807 := by unfold maxLen at hm9; exact hm9
    have hBX : W4.drew.heap[w.heap.size]? = some (.cells #[.slice none 0 0, .slice none 0 0, .bool false, .int .i64 0] 58 (0, 0)) := HBX4.out
    have hszx : w.heap.size + 1 ≤ W4.drew.heap.size := hs4
    have hszw : w.heap.size ≤ W4.drew.heap.size := Nat.le_trans (Nat.le_succ _) hs4
    have HBW := Lib.hid hb14
    generalize x.toNat = xx at *
    clear ht3 hok3 hparts hx hcc hsub hu hul hxn hcN x0 hl9 hf9 hm9 HBX4 hb14
    go_upto_region 10 with fail
    refine wp_region_held_drew (S := fun W => Below w.heap.size W4 W) (by kernel_rfl) (below_drewN (Below.refl _ _) 1) (fun hHeld => ?_)
    refine rg_in 0 rfl (by kernel_rfl) (by kernel_rfl) (by kernel_rfl) (by rfl) (v := ?_) (fun _ _ _ h => h) hHeld (fun w hSw => ?_) ?_
    rotate_left
    · (try dsimp only at hSw); go_simp <;> (with_reducible rfl)
    (try simp only [Act.put, List.setIfInBounds_toArray, List.set_cons_zero, List.set_cons_succ])
    refine rg_in 1 rfl (by kernel_rfl) (by kernel_rfl) (by kernel_rfl) (by rfl) (v := ?_) (fun _ _ _ h => h) hHeld (fun w hSw => ?_) ?_
    rotate_left
    · (try dsimp only at hSw); go_simp <;> (with_reducible rfl)
    (try simp only [Act.put, List.setIfInBounds_toArray, List.set_cons_zero, List.set_cons_succ])
    refine rg_in 2 rfl (by kernel_rfl) (by kernel_rfl) (by kernel_rfl) (by rfl) (v := ?_) (fun _ _ _ h => h) hHeld (fun w hSw => ?_) ?_
    rotate_left
    · (try dsimp only at hSw); go_simp <;> (with_reducible rfl)
    (try simp only [Act.put, List.setIfInBounds_toArray, List.set_cons_zero, List.set_cons_succ])
    refine rg_in 3 rfl (by kernel_rfl) (by kernel_rfl) (by kernel_rfl) (by rfl) (v := ?_) (fun _ _ _ h => h) hHeld (fun w hSw => ?_) ?_
    rotate_left
    · (try dsimp only at hSw); go_simp <;> (with_reducible rfl)
    (try simp only [Act.put, List.setIfInBounds_toArray, List.set_cons_zero, List.set_cons_succ])
    refine rg_in 4 rfl (by kernel_rfl) (by kernel_rfl) (by kernel_rfl) (by rfl) (v := ?_) (fun _ _ _ h => h) hHeld (fun w hSw => ?_) ?_
    rotate_left
    · (try dsimp only at hSw); go_simp <;> (with_reducible rfl)
    (try simp only [Act.put, List.setIfInBounds_toArray, List.set_cons_zero, List.set_cons_succ])
    refine rg_in 5 rfl (by kernel_rfl) (by kernel_rfl) (by kernel_rfl) (by rfl) (v := ?_) (fun _ _ _ h => h) hHeld (fun w hSw => ?_) ?_
    rotate_left
    · (try dsimp only at hSw); go_simp <;> (with_reducible rfl)
    (try simp only [Act.put, List.setIfInBounds_toArray, List.set_cons_zero, List.set_cons_succ])
    refine rg_in 6 rfl (by kernel_rfl) (by kernel_rfl) (by kernel_rfl) (by rfl) (v := ?_) (fun _ _ _ h => h) hHeld (fun w hSw => ?_) ?_
    rotate_left
    · (try dsimp only at hSw); go_simp <;> (with_reducible rfl)
    (try simp only [Act.put, List.setIfInBounds_toArray, List.set_cons_zero, List.set_cons_succ])
    refine rg_in 7 rfl (by kernel_rfl) (by kernel_rfl) (by kernel_rfl) (by rfl) (v := ?_) (fun _ _ _ h => h) hHeld (fun w hSw => ?_) ?_
    rotate_left
    · (try dsimp only at hSw); go_simp <;> (with_reducible rfl)
    (try simp only [Act.put, List.setIfInBounds_toArray, List.set_cons_zero, List.set_cons_succ])
    refine rg_in 11 rfl (by kernel_rfl) (by kernel_rfl) (by kernel_rfl) (by rfl) (v := ?_) (fun _ _ _ h => h) hHeld (fun w hSw => ?_) ?_
    rotate_left
    · (try dsimp only at hSw); go_simp <;> (with_reducible rfl)
    (try simp only [Act.put, List.setIfInBounds_toArray, List.set_cons_zero, List.set_cons_succ])
    refine rg_do 8 rfl (by kernel_rfl) (by rfl) (fun K hK => ?_)
    go_simp
    (go_at_call 65; (with_reducible refine (HcN.out _ hHeld).mono ?_); (rintro e w108 ⟨rfl, hbs⟩))
    have hBX := blk_later hBX hbs
    have hszx := Nat.le_trans hszx hbs.size
    refine hK.out _ _ (hHeld.trans (hbs.mono hszw)) (fun hHeld => ?_)
    clear hK K
    (try simp only [Act.put, List.setIfInBounds_toArray, List.set_cons_zero, List.set_cons_succ])
    refine rg_in 9 rfl (by kernel_rfl) (by kernel_rfl) (by kernel_rfl) (by rfl) (v := ?_) (fun _ _ _ h => h) hHeld (fun w hSw => ?_) ?_
    rotate_left
    · (try dsimp only at hSw); go_simp <;> (with_reducible rfl)
    (try simp only [Act.put, List.setIfInBounds_toArray, List.set_cons_zero, List.set_cons_succ])
    refine rg_in 10 rfl (by kernel_rfl) (by kernel_rfl) (by kernel_rfl) (by rfl) (v := ?_) (fun _ _ _ h => h) hHeld (fun w hSw => ?_) ?_
    rotate_left
    · (try dsimp only at hSw); go_simp <;> (with_reducible rfl)
    (try simp only [Act.put, List.setIfInBounds_toArray, List.set_cons_zero, List.set_cons_succ])
    refine rg_do 12 rfl (by kernel_rfl) (by rfl) (fun K hK => ?_)
    obtain ⟨⟨b0, b1, b2, b3⟩, f0, f1, f2, f3⟩ := box4_all hBX
    go_simp
    refine hK.out _ _ ((((hHeld.setCell (p := ⟨w.heap.size, 0, none⟩) (Nat.le_refl _) _).setCell (p := ⟨w.heap.size, 1, none⟩) (Nat.le_refl _) _).setCell (p := ⟨w.heap.size, 2, none⟩) (Nat.le_refl _) _).setCell (p := ⟨w.heap.size, 3, none⟩) (Nat.le_refl _) _) (fun hHeld => ?_)
    clear hK K
    (try simp only [Act.put, List.setIfInBounds_toArray, List.set_cons_zero, List.set_cons_succ])
    refine rg_in 13 rfl (by kernel_rfl) (by kernel_rfl) (by kernel_rfl) (by rfl) (v := ?_) (fun _ _ _ h => h) hHeld (fun w hSw => ?_) ?_
    rotate_left
    · (try dsimp only at hSw); go_simp <;> (with_reducible rfl)
    (try simp only [Act.put, List.setIfInBounds_toArray, List.set_cons_zero, List.set_cons_succ])
    refine rg_in 14 rfl (by kernel_rfl) (by kernel_rfl) (by kernel_rfl) (by rfl) (v := ?_) (fun _ _ _ h => h) hHeld (fun w hSw => ?_) ?_
    rotate_left
    · (try dsimp only at hSw); go_simp <;> (with_reducible rfl)
    (try simp only [Act.put, List.setIfInBounds_toArray, List.set_cons_zero, List.set_cons_succ])
    refine wpAnyH_done (by kernel_rfl) ?_ _
    have hbz := HBW.out.trans hHeld
    have HK2 := Lib.hid (HKo.out.later (hHeld.mono hB))
    have HV2 := Lib.hid (HVo.out.later (hHeld.mono hB))
    have HQ2 := Lib.hid (HQo.out.later (hHeld.mono hB))
    clear hHeld hbs
    go_wp2
    refine bodyPost_ret (v := .tuple #[.agg #[.slice t1.A t1.n t1.c, .slice t2.A t2.n t2.c, .bool fb, .int .i64 xn], .slice q3.A q3.n q3.c, .bool true]) ?_ rfl ⟨hbz, true, ⟨t1, t2, fb, xn⟩, q3, rfl, ⟨HK2.out, HV2.out, HXN.out⟩, HQ2.out, fun y r h1 h2 h3 h4 => ⟨rfl, (HFIN.out y r h1 h2 h3 h4).2⟩⟩
    simp [results, Try.results46, go_sem, *]
/-- A kid, read. -/
def KidP (p : PcT) (B : Nat) (w : World) (e : Ending) (w' : World) : Prop :=
  Below w.heap.size w w' ∧ ∃ (ok : Bool) (x : KiT) (q : PcT), e = .returned (.tuple #[x.agg, .slice q.A q.n q.c, .bool ok]) ∧ x.Ok w' B ∧ q.Ok w' B ∧ ∀ (y : KiS) (r : List UInt8), y.k.length ≤ 255 → (0 ≤ y.a ∧ y.a < 4294967296) → (0 ≤ y.r.c ∧ y.r.c < 4294967296) → (0 ≤ y.r.i ∧ y.r.i < 4294967296) → y.r.ok → p.l = y.put ++ r → ok = true ∧ x.s = y ∧ q.l = r
def zKi : KiT := ⟨⟨none, 0, 0, []⟩, 0, RedT.zero⟩
theorem zKi_agg : zKi.agg = .agg #[.slice none 0 0, .int .i64 0, .int .i64 0, .int .i64 0, .int .i64 0, .int .u64 0, .int .i64 0, .int .i64 0] := by
  unfold zKi KiT.agg RedT.zero
  simp only
  rw [hl_zero.1, hl_zero.2]
theorem zKi_ok (w : World) (B : Nat) : zKi.Ok w B := ⟨nil_ok w B, by show R64 0; unfold R64; omega, by show RedT.zero.ok; unfold RedT.ok RedT.zero R64 R128; simp only; omega⟩
theorem kid_bytes (y : KiS) (r : List UInt8) : y.put ++ r = (UInt8.ofNat y.k.length :: y.k) ++ ((Nod.hiL (u64n y.a) 4 ++ (Nod.hiL (u64n y.r.c) 4 ++ (Nod.hiL (u64n y.r.i) 4 ++ (Nod.hiL (u64n (hiI y.r.v)) 8 ++ (Nod.hiL (u64n (loI y.r.v)) 8 ++ (Nod.hiL (u64n y.r.l) 8 ++ Nod.hiL (u64n y.r.m) 8)))))) ++ r) := by
  unfold KiS.put putKL nnL
  simp only [List.flatMap_cons, List.flatMap_nil, List.append_nil, List.append_assoc]
set_option maxRecDepth 20000 in
set_option maxHeartbeats 4000000 in
theorem rKid14_any (p : PcT) (B : Nat) (w : World) (hp : p.Ok w B) (hB : B ≤ w.heap.size) :
    Calls Try.prog 47 #[.slice p.A p.n p.c] w (KidP p B w) := by
  have hb1 := bel_alloc (Below.refl w.heap.size w) (.cells #[.slice none 0 0, .int .i64 0, .int .i64 0, .int .i64 0, .int .i64 0, .int .u64 0, .int .i64 0, .int .i64 0] 60)
  have hBX := heap_alloc_new w (.cells #[.slice none 0 0, .int .i64 0, .int .i64 0, .int .i64 0, .int .i64 0, .int .u64 0, .int .i64 0, .int .i64 0] 60)
  have hs1 : w.heap.size + 1 ≤ (w.alloc (.cells #[.slice none 0 0, .int .i64 0, .int .i64 0, .int .i64 0, .int .i64 0, .int .u64 0, .int .i64 0, .int .i64 0] 60)).heap.size := by rw [World.size_alloc]; exact Nat.le_refl _
  have hc1 := rCounted_any p B _ (hp.later (hb1.mono hB)) (Nat.le_trans hB hb1.size)
  have HBX := Lib.hid hBX
  obtain ⟨iR, hiR, hzR, -⟩ := nred_info
  clear hBX
  go_enter Try.func47, Try.ntmps47
  go_wp2_with fail
  generalize w.alloc (.cells #[.slice none 0 0, .int .i64 0, .int .i64 0, .int .i64 0, .int .i64 0, .int .u64 0, .int .i64 0, .int .i64 0] 60) = W1 at *
  refine hc1.mono ?_
  rintro e W2 ⟨hb2, ok1, t1, q1, rfl, ht1, hq1, hfin1⟩
  have hb12 := bel_next hb1 hb2
  have HBX2 := Lib.hid (blk_later HBX.out hb2)
  have hs2 := Nat.le_trans hs1 hb2.size
  clear hc1 HBX
  cases ok1
  · skip
    have hbz := ((((((((hb12.setCell (p := ⟨w.heap.size, 0, none⟩) (Nat.le_refl _) (.slice none 0 0)).setCell (p := ⟨w.heap.size, 1, none⟩) (Nat.le_refl _) (.int .i64 0)).setCell (p := ⟨w.heap.size, 2, none⟩) (Nat.le_refl _) (.int .i64 0)).setCell (p := ⟨w.heap.size, 3, none⟩) (Nat.le_refl _) (.int .i64 0)).setCell (p := ⟨w.heap.size, 4, none⟩) (Nat.le_refl _) (.int .i64 0)).setCell (p := ⟨w.heap.size, 5, none⟩) (Nat.le_refl _) (.int .u64 0)).setCell (p := ⟨w.heap.size, 6, none⟩) (Nat.le_refl _) (.int .i64 0)).setCell (p := ⟨w.heap.size, 7, none⟩) (Nat.le_refl _) (.int .i64 0))
    have HFIN : Hid (∀ (y : KiS) (r : List UInt8), y.k.length ≤ 255 → (0 ≤ y.a ∧ y.a < 4294967296) → (0 ≤ y.r.c ∧ y.r.c < 4294967296) → (0 ≤ y.r.i ∧ y.r.i < 4294967296) → y.r.ok → p.l = y.put ++ r → false = true ∧ zKi.s = y ∧ ([] : List UInt8) = r) := Lib.hid (fun y r h1 h2 h2' h2'' h3 h4 => by
      rw [kid_bytes] at h4
      have h5 := (hfin1 y.k _ h1 h4).1
      cases h5)
    obtain ⟨⟨b0, b1, b2, b3, b4, b5, b6, b7⟩, f0, f1, f2, f3, f4, f5, f6, f7⟩ := box8_all HBX2.out
    clear hfin1 ht1 hq1
    go_wp2
    refine bodyPost_ret (v := .tuple #[.agg #[.slice none 0 0, .int .i64 0, .int .i64 0, .int .i64 0, .int .i64 0, .int .u64 0, .int .i64 0, .int .i64 0], .slice none 0 0, .bool false]) ?_ rfl ⟨hbz, false, zKi, ⟨none, 0, 0, []⟩, by rw [zKi_agg], zKi_ok _ _, nil_ok _ _, HFIN.out⟩
    simp [results, Try.results47, go_sem, *]
  have hc3 := rCut_any q1 44 44 rfl B W2 hq1
  go_wp2_with fail
  refine hc3.mono ?_
  rintro e W4 ⟨hb4, ok3, t3, q3, rfl, ht3, hq3, hok3, hfin3⟩
  have hb14 := bel_next hb12 hb4
  have HBX4 := Lib.hid (blk_later HBX2.out hb4)
  have hs4 := Nat.le_trans hs2 hb4.size
  have HKo := Lib.hid (ht1.later (hb4.mono (Nat.le_trans hB hb12.size)))
  have HQo := Lib.hid hq3
  have hparts : ∀ (y : KiS) (r : List UInt8), y.k.length ≤ 255 → (0 ≤ y.a ∧ y.a < 4294967296) → (0 ≤ y.r.c ∧ y.r.c < 4294967296) → (0 ≤ y.r.i ∧ y.r.i < 4294967296) → y.r.ok → p.l = y.put ++ r → t1.l = y.k ∧ ok3 = true ∧ t3.l = (Nod.hiL (u64n y.a) 4 ++ (Nod.hiL (u64n y.r.c) 4 ++ (Nod.hiL (u64n y.r.i) 4 ++ (Nod.hiL (u64n (hiI y.r.v)) 8 ++ (Nod.hiL (u64n (loI y.r.v)) 8 ++ (Nod.hiL (u64n y.r.l) 8 ++ Nod.hiL (u64n y.r.m) 8)))))) ∧ q3.l = r := fun y r h1 h2 h2' h2'' h3 h4 => by
    rw [kid_bytes] at h4
    have h5 := hfin1 y.k _ h1 h4
    have h7 := hfin3 _ r (by simp only [List.length_append, Nod.hi_len]) h5.2.2
    exact ⟨h5.2.1, h7.1, h7.2.1, h7.2.2⟩
  clear hc3 HBX2 ht1 hq1 hq3 hfin1 hfin3
  cases ok3
  · skip
    have hbz := ((((((((hb14.setCell (p := ⟨w.heap.size, 0, none⟩) (Nat.le_refl _) (.slice none 0 0)).setCell (p := ⟨w.heap.size, 1, none⟩) (Nat.le_refl _) (.int .i64 0)).setCell (p := ⟨w.heap.size, 2, none⟩) (Nat.le_refl _) (.int .i64 0)).setCell (p := ⟨w.heap.size, 3, none⟩) (Nat.le_refl _) (.int .i64 0)).setCell (p := ⟨w.heap.size, 4, none⟩) (Nat.le_refl _) (.int .i64 0)).setCell (p := ⟨w.heap.size, 5, none⟩) (Nat.le_refl _) (.int .u64 0)).setCell (p := ⟨w.heap.size, 6, none⟩) (Nat.le_refl _) (.int .i64 0)).setCell (p := ⟨w.heap.size, 7, none⟩) (Nat.le_refl _) (.int .i64 0))
    have HFIN : Hid (∀ (y : KiS) (r : List UInt8), y.k.length ≤ 255 → (0 ≤ y.a ∧ y.a < 4294967296) → (0 ≤ y.r.c ∧ y.r.c < 4294967296) → (0 ≤ y.r.i ∧ y.r.i < 4294967296) → y.r.ok → p.l = y.put ++ r → false = true ∧ zKi.s = y ∧ ([] : List UInt8) = r) := Lib.hid (fun y r h1 h2 h2' h2'' h3 h4 => by
      have h5 := (hparts y r h1 h2 h2' h2'' h3 h4).2.1
      cases h5)
    obtain ⟨⟨b0, b1, b2, b3, b4, b5, b6, b7⟩, f0, f1, f2, f3, f4, f5, f6, f7⟩ := box8_all HBX4.out
    clear hparts ht3 hok3
    go_wp2
    refine bodyPost_ret (v := .tuple #[.agg #[.slice none 0 0, .int .i64 0, .int .i64 0, .int .i64 0, .int .i64 0, .int .u64 0, .int .i64 0, .int .i64 0], .slice none 0 0, .bool false]) ?_ rfl ⟨hbz, false, zKi, ⟨none, 0, 0, []⟩, by rw [zKi_agg], zKi_ok _ _, nil_ok _ _, HFIN.out⟩
    simp [results, Try.results47, go_sem, *]
  · obtain ⟨h39, -⟩ := hok3 rfl
    obtain ⟨A3, n3, c3, l3⟩ := t3
    simp only at h39
    subst h39
    have hl9 := ht3.len
    have hf9 := ht3.fits
    have hm9 := ht3.most
    simp only at hl9 hf9 hm9
    obtain ⟨b, off, rfl, hbB, -⟩ := ht3.here.2 (show 0 < 44 by omega)
    obtain ⟨ua, hua⟩ : ∃ u, Nod.rdN ((l3.drop 0).take 4) = u := ⟨_, rfl⟩
    have hbua : ua < 4294967296 := by
      rw [← hua]
      exact Nod.rd_lt 4 _ (by rw [List.length_take, List.length_drop]; omega)
    obtain ⟨uc, huc⟩ : ∃ u, Nod.rdN ((l3.drop 4).take 4) = u := ⟨_, rfl⟩
    have hbuc : uc < 4294967296 := by
      rw [← huc]
      exact Nod.rd_lt 4 _ (by rw [List.length_take, List.length_drop]; omega)
    obtain ⟨ui, hui⟩ : ∃ u, Nod.rdN ((l3.drop 8).take 4) = u := ⟨_, rfl⟩
    have hbui : ui < 4294967296 := by
      rw [← hui]
      exact Nod.rd_lt 4 _ (by rw [List.length_take, List.length_drop]; omega)
    obtain ⟨uh, huh⟩ : ∃ u, Nod.rdN ((l3.drop 12).take 8) = u := ⟨_, rfl⟩
    have hbuh : uh < 18446744073709551616 := by
      rw [← huh]
      exact Nod.rd_lt 8 _ (by rw [List.length_take, List.length_drop]; omega)
    obtain ⟨ul, hul⟩ : ∃ u, Nod.rdN ((l3.drop 20).take 8) = u := ⟨_, rfl⟩
    have hbul : ul < 18446744073709551616 := by
      rw [← hul]
      exact Nod.rd_lt 8 _ (by rw [List.length_take, List.length_drop]; omega)
    obtain ⟨ue, hue⟩ : ∃ u, Nod.rdN ((l3.drop 28).take 8) = u := ⟨_, rfl⟩
    have hbue : ue < 18446744073709551616 := by
      rw [← hue]
      exact Nod.rd_lt 8 _ (by rw [List.length_take, List.length_drop]; omega)
    obtain ⟨um, hum⟩ : ∃ u, Nod.rdN ((l3.drop 36).take 8) = u := ⟨_, rfl⟩
    have hbum : um < 18446744073709551616 := by
      rw [← hum]
      exact Nod.rd_lt 8 _ (by rw [List.length_take, List.length_drop]; omega)
    obtain ⟨zh, hzh⟩ : ∃ z, Nod.i64n uh = z := ⟨_, rfl⟩
    obtain ⟨ze, hze⟩ : ∃ z, Nod.i64n ue = z := ⟨_, rfl⟩
    obtain ⟨zm, hzm⟩ : ∃ z, Nod.i64n um = z := ⟨_, rfl⟩
    have wa : IntKind.i64.wrap (ua : Int) = (ua : Int) := by rw [IntKind.wrap_i64]; omega
    have wc : IntKind.i64.wrap (uc : Int) = (uc : Int) := by rw [IntKind.wrap_i64]; omega
    have wi : IntKind.i64.wrap (ui : Int) = (ui : Int) := by rw [IntKind.wrap_i64]; omega
    have wh : IntKind.i64.wrap (uh : Int) = zh := by rw [wrap_i64n uh hbuh, hzh]
    have we : IntKind.i64.wrap (ue : Int) = ze := by rw [wrap_i64n ue hbue, hze]
    have wm : IntKind.i64.wrap (um : Int) = zm := by rw [wrap_i64n um hbum, hzm]
    have rzh : R64 zh := by rw [← hzh]; exact Nod.i64n_r uh hbuh
    have rze : R64 ze := by rw [← hze]; exact Nod.i64n_r ue hbue
    have rzm : R64 zm := by rw [← hzm]; exact Nod.i64n_r um hbum
    have hmk := hl_mk zh (ul : Int) rzh (by omega)
    obtain ⟨RR, hRR⟩ : ∃ RR : RedT, RR = ⟨(uc : Int), (ui : Int), zh * 18446744073709551616 + (ul : Int), ze, zm⟩ := ⟨_, rfl⟩
    have HRO := Lib.hid (show R64 (ua : Int) ∧ RR.ok by
      subst hRR
      refine ⟨by unfold R64; omega, ?_, ?_, hmk.1, rze, rzm⟩ <;> (simp only; unfold R64; omega))
    have HAGG : Hid ((⟨t1, (ua : Int), RR⟩ : KiT).agg = .agg #[.slice t1.A t1.n t1.c, .int .i64 (ua : Int), .int .i64 (uc : Int), .int .i64 (ui : Int), .int .i64 zh, .int .u64 (ul : Int), .int .i64 ze, .int .i64 zm]) := Lib.hid (by
      subst hRR
      unfold KiT.agg
      simp only
      rw [hmk.2.1, hmk.2.2])
    have HFIN : Hid (∀ (y : KiS) (r : List UInt8), y.k.length ≤ 255 → (0 ≤ y.a ∧ y.a < 4294967296) → (0 ≤ y.r.c ∧ y.r.c < 4294967296) → (0 ≤ y.r.i ∧ y.r.i < 4294967296) → y.r.ok → p.l = y.put ++ r → true = true ∧ (⟨t1, (ua : Int), RR⟩ : KiT).s = y ∧ q3.l = r) := Lib.hid (fun y r h1 h2 h2' h2'' h3 h4 => by
      obtain ⟨e1, -, e4, e5⟩ := hparts y r h1 h2 h2' h2'' h3 h4
      have e4 : l3 = Nod.hiL (u64n y.a) 4 ++ (Nod.hiL (u64n y.r.c) 4 ++ (Nod.hiL (u64n y.r.i) 4 ++ (Nod.hiL (u64n (hiI y.r.v)) 8 ++ (Nod.hiL (u64n (loI y.r.v)) 8 ++ (Nod.hiL (u64n y.r.l) 8 ++ Nod.hiL (u64n y.r.m) 8))))) := e4
      refine ⟨rfl, ?_, e5⟩
      have pa : ua = u64n (y.a) := by
        rw [← hua, piece (i := 0) (m := 4) (l := l3) (A := []) (M := Nod.hiL (u64n (y.a)) 4) (C := Nod.hiL (u64n (y.r.c)) 4 ++ (Nod.hiL (u64n (y.r.i)) 4 ++ (Nod.hiL (u64n (hiI y.r.v)) 8 ++ (Nod.hiL (u64n (loI y.r.v)) 8 ++ (Nod.hiL (u64n (y.r.l)) 8 ++ (Nod.hiL (u64n (y.r.m)) 8)))))) (by rw [e4]; try simp only [List.append_assoc, List.append_nil, List.nil_append]) (by simp only [List.length_append, Nod.hi_len, List.length_nil]) (Nod.hi_len 4 _), Nod.rd_hi]
        exact Nat.mod_eq_of_lt (by unfold u64n; omega)
      have pc : uc = u64n (y.r.c) := by
        rw [← huc, piece (i := 4) (m := 4) (l := l3) (A := Nod.hiL (u64n (y.a)) 4) (M := Nod.hiL (u64n (y.r.c)) 4) (C := Nod.hiL (u64n (y.r.i)) 4 ++ (Nod.hiL (u64n (hiI y.r.v)) 8 ++ (Nod.hiL (u64n (loI y.r.v)) 8 ++ (Nod.hiL (u64n (y.r.l)) 8 ++ (Nod.hiL (u64n (y.r.m)) 8))))) (by rw [e4]; try simp only [List.append_assoc, List.append_nil, List.nil_append]) (by simp only [List.length_append, Nod.hi_len, List.length_nil]) (Nod.hi_len 4 _), Nod.rd_hi]
        exact Nat.mod_eq_of_lt (by unfold u64n; omega)
      have pi : ui = u64n (y.r.i) := by
        rw [← hui, piece (i := 8) (m := 4) (l := l3) (A := Nod.hiL (u64n (y.a)) 4 ++ (Nod.hiL (u64n (y.r.c)) 4)) (M := Nod.hiL (u64n (y.r.i)) 4) (C := Nod.hiL (u64n (hiI y.r.v)) 8 ++ (Nod.hiL (u64n (loI y.r.v)) 8 ++ (Nod.hiL (u64n (y.r.l)) 8 ++ (Nod.hiL (u64n (y.r.m)) 8)))) (by rw [e4]; try simp only [List.append_assoc, List.append_nil, List.nil_append]) (by simp only [List.length_append, Nod.hi_len, List.length_nil]) (Nod.hi_len 4 _), Nod.rd_hi]
        exact Nat.mod_eq_of_lt (by unfold u64n; omega)
      have ph : uh = u64n (hiI y.r.v) := by
        rw [← huh, piece (i := 12) (m := 8) (l := l3) (A := Nod.hiL (u64n (y.a)) 4 ++ (Nod.hiL (u64n (y.r.c)) 4 ++ (Nod.hiL (u64n (y.r.i)) 4))) (M := Nod.hiL (u64n (hiI y.r.v)) 8) (C := Nod.hiL (u64n (loI y.r.v)) 8 ++ (Nod.hiL (u64n (y.r.l)) 8 ++ (Nod.hiL (u64n (y.r.m)) 8))) (by rw [e4]; try simp only [List.append_assoc, List.append_nil, List.nil_append]) (by simp only [List.length_append, Nod.hi_len, List.length_nil]) (Nod.hi_len 8 _), Nod.rd_hi]
        exact Nat.mod_eq_of_lt (u64n_lt _)
      have pl : ul = u64n (loI y.r.v) := by
        rw [← hul, piece (i := 20) (m := 8) (l := l3) (A := Nod.hiL (u64n (y.a)) 4 ++ (Nod.hiL (u64n (y.r.c)) 4 ++ (Nod.hiL (u64n (y.r.i)) 4 ++ (Nod.hiL (u64n (hiI y.r.v)) 8)))) (M := Nod.hiL (u64n (loI y.r.v)) 8) (C := Nod.hiL (u64n (y.r.l)) 8 ++ (Nod.hiL (u64n (y.r.m)) 8)) (by rw [e4]; try simp only [List.append_assoc, List.append_nil, List.nil_append]) (by simp only [List.length_append, Nod.hi_len, List.length_nil]) (Nod.hi_len 8 _), Nod.rd_hi]
        exact Nat.mod_eq_of_lt (u64n_lt _)
      have pe : ue = u64n (y.r.l) := by
        rw [← hue, piece (i := 28) (m := 8) (l := l3) (A := Nod.hiL (u64n (y.a)) 4 ++ (Nod.hiL (u64n (y.r.c)) 4 ++ (Nod.hiL (u64n (y.r.i)) 4 ++ (Nod.hiL (u64n (hiI y.r.v)) 8 ++ (Nod.hiL (u64n (loI y.r.v)) 8))))) (M := Nod.hiL (u64n (y.r.l)) 8) (C := Nod.hiL (u64n (y.r.m)) 8) (by rw [e4]; try simp only [List.append_assoc, List.append_nil, List.nil_append]) (by simp only [List.length_append, Nod.hi_len, List.length_nil]) (Nod.hi_len 8 _), Nod.rd_hi]
        exact Nat.mod_eq_of_lt (u64n_lt _)
      have pm : um = u64n (y.r.m) := by
        rw [← hum, piece (i := 36) (m := 8) (l := l3) (A := Nod.hiL (u64n (y.a)) 4 ++ (Nod.hiL (u64n (y.r.c)) 4 ++ (Nod.hiL (u64n (y.r.i)) 4 ++ (Nod.hiL (u64n (hiI y.r.v)) 8 ++ (Nod.hiL (u64n (loI y.r.v)) 8 ++ (Nod.hiL (u64n (y.r.l)) 8)))))) (M := Nod.hiL (u64n (y.r.m)) 8) (C := []) (by rw [e4]; try simp only [List.append_assoc, List.append_nil, List.nil_append]) (by simp only [List.length_append, Nod.hi_len, List.length_nil]) (Nod.hi_len 8 _), Nod.rd_hi]
        exact Nat.mod_eq_of_lt (u64n_lt _)
      obtain ⟨ho1, ho2, ho3, ho4, ho5⟩ := h3
      have hlo : 0 ≤ loI y.r.v ∧ loI y.r.v < 18446744073709551616 := by unfold loI; omega
      have hhi : R64 (hiI y.r.v) := hi_bound _
      have ea : (ua : Int) = y.a := by rw [pa]; unfold u64n; omega
      have ec : (uc : Int) = y.r.c := by rw [pc]; unfold u64n; omega
      have ei : (ui : Int) = y.r.i := by rw [pi]; unfold u64n; omega
      have el : (ul : Int) = loI y.r.v := by rw [pl]; unfold u64n; omega
      have eh : zh = hiI y.r.v := by rw [← hzh, ph]; exact Nod.i64n_u _ hhi
      have ee : ze = y.r.l := by rw [← hze, pe]; exact Nod.i64n_u _ ho4
      have em : zm = y.r.m := by rw [← hzm, pm]; exact Nod.i64n_u _ ho5
      have ev : zh * 18446744073709551616 + (ul : Int) = y.r.v := (hl_inj _ _ hmk.1 ho3).1 ⟨by rw [hmk.2.1, eh], by rw [hmk.2.2, el]⟩
      show (⟨t1.l, (ua : Int), RR⟩ : KiS) = y
      rw [hRR, e1, ea, ec, ei, ev, ee, em])
    have HUA := Lib.hid hua
    have hi44 : (44 : Int) ≤ (c3 : Int) := by omega
    have hi4 : (4 : Int) ≤ (c3 : Int) := by omega
    have hi8 : (8 : Int) ≤ (c3 : Int) := by omega
    have hi12 : (12 : Int) ≤ (c3 : Int) := by omega
    have hi20 : (20 : Int) ≤ (c3 : Int) := by omega
    have hi28 : (28 : Int) ≤ (c3 : Int) := by omega
    have hi36 : (36 : Int) ≤ (c3 : Int) := by omega
    have hcc4 : ¬ c3 = 4 ∧ ¬ c3 = 8 ∧ ¬ c3 = 12 ∧ ¬ c3 = 20 ∧ ¬ c3 = 28 ∧ ¬ c3 = 36 := by omega
    obtain ⟨n4, n8, n12, n20, n28, n36⟩ := hcc4
    have hc63 : c3 ≤ 9223372036854775807 := by unfold maxLen at hm9; exact hm9
    have Hc : Hid (∀ W, Below (w.heap.size + 1) W4 W → Calls Try.prog 65 #[.slice (some ⟨b, off + 4, none⟩) 4 (c3 - 4)] W fun e w' => e = .returned (.int .u64 (uc : Nat)) ∧ Below W.heap.size W w') := Lib.hid (fun W h => by
      have h1 := rNumber_any ⟨some ⟨b, off + 4, none⟩, 4, c3 - 4, (l3.drop 4).take 4⟩ B W ((sub_ok ht3 4 4 (by decide) (by omega)).later (h.mono (by omega))) (by show 4 ≤ 8; decide)
      simp only [huc] at h1
      exact h1)
    have Hi : Hid (∀ W, Below (w.heap.size + 1) W4 W → Calls Try.prog 65 #[.slice (some ⟨b, off + 8, none⟩) 4 (c3 - 8)] W fun e w' => e = .returned (.int .u64 (ui : Nat)) ∧ Below W.heap.size W w') := Lib.hid (fun W h => by
      have h1 := rNumber_any ⟨some ⟨b, off + 8, none⟩, 4, c3 - 8, (l3.drop 8).take 4⟩ B W ((sub_ok ht3 8 4 (by decide) (by omega)).later (h.mono (by omega))) (by show 4 ≤ 8; decide)
      simp only [hui] at h1
      exact h1)
    have Hh : Hid (∀ W, Below (w.heap.size + 1) W4 W → Calls Try.prog 65 #[.slice (some ⟨b, off + 12, none⟩) 8 (c3 - 12)] W fun e w' => e = .returned (.int .u64 (uh : Nat)) ∧ Below W.heap.size W w') := Lib.hid (fun W h => by
      have h1 := rNumber_any ⟨some ⟨b, off + 12, none⟩, 8, c3 - 12, (l3.drop 12).take 8⟩ B W ((sub_ok ht3 12 8 (by decide) (by omega)).later (h.mono (by omega))) (by show 8 ≤ 8; decide)
      simp only [huh] at h1
      exact h1)
    have Hl : Hid (∀ W, Below (w.heap.size + 1) W4 W → Calls Try.prog 65 #[.slice (some ⟨b, off + 20, none⟩) 8 (c3 - 20)] W fun e w' => e = .returned (.int .u64 (ul : Nat)) ∧ Below W.heap.size W w') := Lib.hid (fun W h => by
      have h1 := rNumber_any ⟨some ⟨b, off + 20, none⟩, 8, c3 - 20, (l3.drop 20).take 8⟩ B W ((sub_ok ht3 20 8 (by decide) (by omega)).later (h.mono (by omega))) (by show 8 ≤ 8; decide)
      simp only [hul] at h1
      exact h1)
    have He : Hid (∀ W, Below (w.heap.size + 1) W4 W → Calls Try.prog 65 #[.slice (some ⟨b, off + 28, none⟩) 8 (c3 - 28)] W fun e w' => e = .returned (.int .u64 (ue : Nat)) ∧ Below W.heap.size W w') := Lib.hid (fun W h => by
      have h1 := rNumber_any ⟨some ⟨b, off + 28, none⟩, 8, c3 - 28, (l3.drop 28).take 8⟩ B W ((sub_ok ht3 28 8 (by decide) (by omega)).later (h.mono (by omega))) (by show 8 ≤ 8; decide)
      simp only [hue] at h1
      exact h1)
    have Hm : Hid (∀ W, Below (w.heap.size + 1) W4 W → Calls Try.prog 65 #[.slice (some ⟨b, off + 36, none⟩) 8 (c3 - 36)] W fun e w' => e = .returned (.int .u64 (um : Nat)) ∧ Below W.heap.size W w') := Lib.hid (fun W h => by
      have h1 := rNumber_any ⟨some ⟨b, off + 36, none⟩, 8, c3 - 36, (l3.drop 36).take 8⟩ B W ((sub_ok ht3 36 8 (by decide) (by omega)).later (h.mono (by omega))) (by show 8 ≤ 8; decide)
      simp only [hum] at h1
      exact h1)
    have hBX : W4.drew.heap[w.heap.size]? = some (.cells #[.slice none 0 0, .int .i64 0, .int .i64 0, .int .i64 0, .int .i64 0, .int .u64 0, .int .i64 0, .int .i64 0] 60 (0, 0)) := HBX4.out
    have hszx : w.heap.size + 1 ≤ W4.drew.heap.size := hs4
    have HBW := Lib.hid hb14
    have HT3 := Lib.hid ht3
    clear ht3 hok3 hparts hl9 hf9 hm9 HBX4 hb14 hmk hRR hzh hze hzm rzh rze rzm hbua hbuc hbui hbuh hbul hbue hbum
    go_upto_region 7 with fail
    go_cut [8] (fun s wx => ∃ g8, s = .pointer (some ⟨g8, 0, none⟩) ∧ Six wx g8 (.int .i64 (uc : Int)) (.int .i64 (ui : Int)) (.int .i64 zh) (.int .u64 (ul : Int)) (.int .i64 ze) (.int .i64 zm) ∧ wx.heap[w.heap.size]? = some (.cells #[.slice none 0 0, .int .i64 0, .int .i64 0, .int .i64 0, .int .i64 0, .int .u64 0, .int .i64 0, .int .i64 0] 60 (0, 0)) ∧ Below (w.heap.size + 1) W4 wx)
    case first =>
      refine wp_region_held_drew (S := fun W => Below (w.heap.size + 1) W4 W) (by kernel_rfl) (below_drewN (Below.refl _ _) 1) (fun hHeld => ?_)
      refine rg_in 0 rfl (by kernel_rfl) (by kernel_rfl) (by kernel_rfl) (by rfl) (v := ?_) (fun _ _ _ h => h) hHeld (fun w hSw => ?_) ?_
      rotate_left
      · (try dsimp only at hSw); go_simp <;> (with_reducible rfl)
      (try simp only [Act.put, List.setIfInBounds_toArray, List.set_cons_zero, List.set_cons_succ])
      refine rg_in 1 rfl (by kernel_rfl) (by kernel_rfl) (by kernel_rfl) (by rfl) (v := ?_) (fun _ _ _ h => h) hHeld (fun w hSw => ?_) ?_
      rotate_left
      · (try dsimp only at hSw); go_simp <;> (with_reducible rfl)
      (try simp only [Act.put, List.setIfInBounds_toArray, List.set_cons_zero, List.set_cons_succ])
      refine rg_in 4 rfl (by kernel_rfl) (by kernel_rfl) (by kernel_rfl) (by rfl) (v := ?_) (fun _ _ _ h => h) hHeld (fun w hSw => ?_) ?_
      rotate_left
      · (try dsimp only at hSw); go_simp <;> (with_reducible rfl)
      (try simp only [Act.put, List.setIfInBounds_toArray, List.set_cons_zero, List.set_cons_succ])
      refine rg_in 5 rfl (by kernel_rfl) (by kernel_rfl) (by kernel_rfl) (by rfl) (v := ?_) (fun _ _ _ h => h) hHeld (fun w hSw => ?_) ?_
      rotate_left
      · (try dsimp only at hSw); go_simp <;> (with_reducible rfl)
      (try simp only [Act.put, List.setIfInBounds_toArray, List.set_cons_zero, List.set_cons_succ])
      refine rg_in 8 rfl (by kernel_rfl) (by kernel_rfl) (by kernel_rfl) (by rfl) (v := ?_) (fun _ _ _ h => h) hHeld (fun w hSw => ?_) ?_
      rotate_left
      · (try dsimp only at hSw); go_simp <;> (with_reducible rfl)
      (try simp only [Act.put, List.setIfInBounds_toArray, List.set_cons_zero, List.set_cons_succ])
      refine rg_in 9 rfl (by kernel_rfl) (by kernel_rfl) (by kernel_rfl) (by rfl) (v := ?_) (fun _ _ _ h => h) hHeld (fun w hSw => ?_) ?_
      rotate_left
      · (try dsimp only at hSw); go_simp <;> (with_reducible rfl)
      (try simp only [Act.put, List.setIfInBounds_toArray, List.set_cons_zero, List.set_cons_succ])
      refine rg_in 12 rfl (by kernel_rfl) (by kernel_rfl) (by kernel_rfl) (by rfl) (v := ?_) (fun _ _ _ h => h) hHeld (fun w hSw => ?_) ?_
      rotate_left
      · (try dsimp only at hSw); go_simp <;> (with_reducible rfl)
      (try simp only [Act.put, List.setIfInBounds_toArray, List.set_cons_zero, List.set_cons_succ])
      refine rg_in 13 rfl (by kernel_rfl) (by kernel_rfl) (by kernel_rfl) (by rfl) (v := ?_) (fun _ _ _ h => h) hHeld (fun w hSw => ?_) ?_
      rotate_left
      · (try dsimp only at hSw); go_simp <;> (with_reducible rfl)
      (try simp only [Act.put, List.setIfInBounds_toArray, List.set_cons_zero, List.set_cons_succ])
      refine rg_in 15 rfl (by kernel_rfl) (by kernel_rfl) (by kernel_rfl) (by rfl) (v := ?_) (fun _ _ _ h => h) hHeld (fun w hSw => ?_) ?_
      rotate_left
      · (try dsimp only at hSw); go_simp <;> (with_reducible rfl)
      (try simp only [Act.put, List.setIfInBounds_toArray, List.set_cons_zero, List.set_cons_succ])
      refine rg_in 16 rfl (by kernel_rfl) (by kernel_rfl) (by kernel_rfl) (by rfl) (v := ?_) (fun _ _ _ h => h) hHeld (fun w hSw => ?_) ?_
      rotate_left
      · (try dsimp only at hSw); go_simp <;> (with_reducible rfl)
      (try simp only [Act.put, List.setIfInBounds_toArray, List.set_cons_zero, List.set_cons_succ])
      refine rg_in 19 rfl (by kernel_rfl) (by kernel_rfl) (by kernel_rfl) (by rfl) (v := ?_) (fun _ _ _ h => h) hHeld (fun w hSw => ?_) ?_
      rotate_left
      · (try dsimp only at hSw); go_simp <;> (with_reducible rfl)
      (try simp only [Act.put, List.setIfInBounds_toArray, List.set_cons_zero, List.set_cons_succ])
      refine rg_in 20 rfl (by kernel_rfl) (by kernel_rfl) (by kernel_rfl) (by rfl) (v := ?_) (fun _ _ _ h => h) hHeld (fun w hSw => ?_) ?_
      rotate_left
      · (try dsimp only at hSw); go_simp <;> (with_reducible rfl)
      (try simp only [Act.put, List.setIfInBounds_toArray, List.set_cons_zero, List.set_cons_succ])
      refine wpAnyH_ready (rs := [2, 24]) (by kernel_rfl) (by simp) ?_
      refine rg_cons rfl (by rfl) (fun K hK => ?_) ?_
      · go_simp
        (go_at_call 65; (with_reducible refine (Hc.out _ hHeld).mono ?_); (rintro e w102 ⟨rfl, hbs⟩))
        have hHx := hHeld.trans (hbs.mono hszx)
        have hBX := blk_later hBX hbs
        have hszx := Nat.le_trans hszx hbs.size
        refine hK.out _ _ hHx (fun hHeld => ?_)
        clear hK K
        (try simp only [Act.put, List.setIfInBounds_toArray, List.set_cons_zero, List.set_cons_succ])
        refine rg_in 3 rfl (by kernel_rfl) (by kernel_rfl) (by kernel_rfl) (by rfl) (v := ?_) (fun _ _ _ h => h) hHeld (fun w hSw => ?_) ?_
        rotate_left
        · (try dsimp only at hSw); go_simp <;> (with_reducible rfl)
        (try simp only [Act.put, List.setIfInBounds_toArray, List.set_cons_zero, List.set_cons_succ])
        refine wpAnyH_ready (rs := [6, 24]) (by kernel_rfl) (by simp) ?_
        refine rg_cons rfl (by rfl) (fun K hK => ?_) ?_
        · go_simp
          (go_at_call 65; (with_reducible refine (Hi.out _ hHeld).mono ?_); (rintro e w106 ⟨rfl, hbs⟩))
          have hHx := hHeld.trans (hbs.mono hszx)
          have hBX := blk_later hBX hbs
          have hszx := Nat.le_trans hszx hbs.size
          refine hK.out _ _ hHx (fun hHeld => ?_)
          clear hK K
          (try simp only [Act.put, List.setIfInBounds_toArray, List.set_cons_zero, List.set_cons_succ])
          refine rg_in 7 rfl (by kernel_rfl) (by kernel_rfl) (by kernel_rfl) (by rfl) (v := ?_) (fun _ _ _ h => h) hHeld (fun w hSw => ?_) ?_
          rotate_left
          · (try dsimp only at hSw); go_simp <;> (with_reducible rfl)
          (try simp only [Act.put, List.setIfInBounds_toArray, List.set_cons_zero, List.set_cons_succ])
          refine wpAnyH_ready (rs := [10, 24]) (by kernel_rfl) (by simp) ?_
          refine rg_cons rfl (by rfl) (fun K hK => ?_) ?_
          · go_simp
            (go_at_call 65; (with_reducible refine (Hh.out _ hHeld).mono ?_); (rintro e w110 ⟨rfl, hbs⟩))
            have hHx := hHeld.trans (hbs.mono hszx)
            have hBX := blk_later hBX hbs
            have hszx := Nat.le_trans hszx hbs.size
            refine hK.out _ _ hHx (fun hHeld => ?_)
            clear hK K
            (try simp only [Act.put, List.setIfInBounds_toArray, List.set_cons_zero, List.set_cons_succ])
            refine rg_in 11 rfl (by kernel_rfl) (by kernel_rfl) (by kernel_rfl) (by rfl) (v := ?_) (fun _ _ _ h => h) hHeld (fun w hSw => ?_) ?_
            rotate_left
            · (try dsimp only at hSw); go_simp <;> (with_reducible rfl)
            (try simp only [Act.put, List.setIfInBounds_toArray, List.set_cons_zero, List.set_cons_succ])
            refine wpAnyH_ready (rs := [14, 24]) (by kernel_rfl) (by simp) ?_
            refine rg_cons rfl (by rfl) (fun K hK => ?_) ?_
            · go_simp
              (go_at_call 65; (with_reducible refine (Hl.out _ hHeld).mono ?_); (rintro e w114 ⟨rfl, hbs⟩))
              have hHx := hHeld.trans (hbs.mono hszx)
              have hBX := blk_later hBX hbs
              have hszx := Nat.le_trans hszx hbs.size
              refine hK.out _ _ hHx (fun hHeld => ?_)
              clear hK K
              (try simp only [Act.put, List.setIfInBounds_toArray, List.set_cons_zero, List.set_cons_succ])
              refine wpAnyH_ready (rs := [17, 24]) (by kernel_rfl) (by simp) ?_
              refine rg_cons rfl (by rfl) (fun K hK => ?_) ?_
              · go_simp
                (go_at_call 65; (with_reducible refine (He.out _ hHeld).mono ?_); (rintro e w117 ⟨rfl, hbs⟩))
                have hHx := hHeld.trans (hbs.mono hszx)
                have hBX := blk_later hBX hbs
                have hszx := Nat.le_trans hszx hbs.size
                refine hK.out _ _ hHx (fun hHeld => ?_)
                clear hK K
                (try simp only [Act.put, List.setIfInBounds_toArray, List.set_cons_zero, List.set_cons_succ])
                refine rg_in 18 rfl (by kernel_rfl) (by kernel_rfl) (by kernel_rfl) (by rfl) (v := ?_) (fun _ _ _ h => h) hHeld (fun w hSw => ?_) ?_
                rotate_left
                · (try dsimp only at hSw); go_simp <;> (with_reducible rfl)
                (try simp only [Act.put, List.setIfInBounds_toArray, List.set_cons_zero, List.set_cons_succ])
                refine wpAnyH_ready (rs := [21, 24]) (by kernel_rfl) (by simp) ?_
                refine rg_cons rfl (by rfl) (fun K hK => ?_) ?_
                · go_simp
                  (go_at_call 65; (with_reducible refine (Hm.out _ hHeld).mono ?_); (rintro e w121 ⟨rfl, hbs⟩))
                  have hHx := hHeld.trans (hbs.mono hszx)
                  have hBX := blk_later hBX hbs
                  have hszx := Nat.le_trans hszx hbs.size
                  refine hK.out _ _ hHx (fun hHeld => ?_)
                  clear hK K
                  (try simp only [Act.put, List.setIfInBounds_toArray, List.set_cons_zero, List.set_cons_succ])
                  refine rg_in 22 rfl (by kernel_rfl) (by kernel_rfl) (by kernel_rfl) (by rfl) (v := ?_) (fun _ _ _ h => h) hHeld (fun w hSw => ?_) ?_
                  rotate_left
                  · (try dsimp only at hSw); go_simp <;> (with_reducible rfl)
                  (try simp only [Act.put, List.setIfInBounds_toArray, List.set_cons_zero, List.set_cons_succ])
                  refine rg_in 23 rfl (by kernel_rfl) (by kernel_rfl) (by kernel_rfl) (by rfl) (v := ?_) (fun _ _ _ h => h) hHeld (fun w hSw => ?_) ?_
                  rotate_left
                  · (try dsimp only at hSw); go_simp <;> (with_reducible rfl)
                  (try simp only [Act.put, List.setIfInBounds_toArray, List.set_cons_zero, List.set_cons_succ])
                  refine rg_do 24 rfl (by kernel_rfl) (by rfl) (fun K hK => ?_)
                  refine step_alloc 37 rfl iR _ hiR hzR ?_
                  intro g8 w124 hge8 hbx8 hbs
                  have hg8w : w.heap.size + 1 ≤ g8 := Nat.le_trans hszx hge8
                  simp only [Value.cells] at hbx8
                  have hRX := hbx8
                  have hHx := hHeld.trans (hbs.mono hszx)
                  have hBX := blk_later hBX hbs
                  have hszx := Nat.le_trans hszx hbs.size
                  refine hK.out _ _ hHx (fun hHeld => ?_)
                  clear hK K
                  (try simp only [Act.put, List.setIfInBounds_toArray, List.set_cons_zero, List.set_cons_succ])
                  refine rg_do 25 rfl (by kernel_rfl) (by rfl) (fun K hK => ?_)
                  obtain ⟨⟨c0, c1, c2, c3, c4, c5⟩, f0, f1, f2, f3, f4, f5⟩ := six_blk hRX
                  have hsx := six_blk hRX
                  have hHx := below_set6 (a := .int .i64 (uc : Int)) (b := .int .i64 (ui : Int)) (c := .int .i64 zh) (d := .int .u64 (ul : Int)) (e := .int .i64 ze) (f := .int .i64 zm) hHeld hg8w
                  go_simp
                  refine hK.out _ _ hHx (fun hHeld => ?_)
                  clear hK K
                  (try simp only [Act.put, List.setIfInBounds_toArray, List.set_cons_zero, List.set_cons_succ])
                  refine wpAnyH_done (by kernel_rfl) ?_ _
                  have hsn := ((((((hsx.s0 (.int .i64 (uc : Int))).s1 (.int .i64 (ui : Int))).s2 (.int .i64 zh)).s3 (.int .u64 (ul : Int))).s4 (.int .i64 ze)).s5 (.int .i64 zm))
                  have hbn := blk_set6 hBX (show w.heap.size ≠ g8 by omega) (.int .i64 (uc : Int)) (.int .i64 (ui : Int)) (.int .i64 zh) (.int .u64 (ul : Int)) (.int .i64 ze) (.int .i64 zm)
                  have HSN := Lib.hid hsn
                  have HBN := Lib.hid hbn
                  have HHE := Lib.hid hHeld
                  have hs9 := hszx
                  clear hHeld hHx hsx c0 c1 c2 c3 c4 c5 f0 f1 f2 f3 f4 f5 hsn hbn hBX hRX hbx8
                  go_wp2_with fail
                  go_meet
                  case rel => exact ⟨g8, rfl, HSN.out, HBN.out, HHE.out⟩
                refine rg_cons rfl (by rfl) (fun K hK => ?_) ?_
                · refine step_alloc 37 rfl iR _ hiR hzR ?_
                  intro g8 w124 hge8 hbx8 hbs
                  have hg8w : w.heap.size + 1 ≤ g8 := Nat.le_trans hszx hge8
                  simp only [Value.cells] at hbx8
                  have hRX := hbx8
                  have hHx := hHeld.trans (hbs.mono hszx)
                  have hBX := blk_later hBX hbs
                  have hszx := Nat.le_trans hszx hbs.size
                  refine hK.out _ _ hHx (fun hHeld => ?_)
                  clear hK K
                  (try simp only [Act.put, List.setIfInBounds_toArray, List.set_cons_zero, List.set_cons_succ])
                  refine rg_do 21 rfl (by kernel_rfl) (by rfl) (fun K hK => ?_)
                  go_simp
                  (go_at_call 65; (with_reducible refine (Hm.out _ hHeld).mono ?_); (rintro e w121 ⟨rfl, hbs⟩))
                  have hHx := hHeld.trans (hbs.mono hszx)
                  have hBX := blk_later hBX hbs
                  have hszx := Nat.le_trans hszx hbs.size
                  have hRX := blk_later hRX hbs
                  refine hK.out _ _ hHx (fun hHeld => ?_)
                  clear hK K
                  (try simp only [Act.put, List.setIfInBounds_toArray, List.set_cons_zero, List.set_cons_succ])
                  refine rg_in 22 rfl (by kernel_rfl) (by kernel_rfl) (by kernel_rfl) (by rfl) (v := ?_) (fun _ _ _ h => h) hHeld (fun w hSw => ?_) ?_
                  rotate_left
                  · (try dsimp only at hSw); go_simp <;> (with_reducible rfl)
                  (try simp only [Act.put, List.setIfInBounds_toArray, List.set_cons_zero, List.set_cons_succ])
                  refine rg_in 23 rfl (by kernel_rfl) (by kernel_rfl) (by kernel_rfl) (by rfl) (v := ?_) (fun _ _ _ h => h) hHeld (fun w hSw => ?_) ?_
                  rotate_left
                  · (try dsimp only at hSw); go_simp <;> (with_reducible rfl)
                  (try simp only [Act.put, List.setIfInBounds_toArray, List.set_cons_zero, List.set_cons_succ])
                  refine rg_do 25 rfl (by kernel_rfl) (by rfl) (fun K hK => ?_)
                  obtain ⟨⟨c0, c1, c2, c3, c4, c5⟩, f0, f1, f2, f3, f4, f5⟩ := six_blk hRX
                  have hsx := six_blk hRX
                  have hHx := below_set6 (a := .int .i64 (uc : Int)) (b := .int .i64 (ui : Int)) (c := .int .i64 zh) (d := .int .u64 (ul : Int)) (e := .int .i64 ze) (f := .int .i64 zm) hHeld hg8w
                  go_simp
                  refine hK.out _ _ hHx (fun hHeld => ?_)
                  clear hK K
                  (try simp only [Act.put, List.setIfInBounds_toArray, List.set_cons_zero, List.set_cons_succ])
                  refine wpAnyH_done (by kernel_rfl) ?_ _
                  have hsn := ((((((hsx.s0 (.int .i64 (uc : Int))).s1 (.int .i64 (ui : Int))).s2 (.int .i64 zh)).s3 (.int .u64 (ul : Int))).s4 (.int .i64 ze)).s5 (.int .i64 zm))
                  have hbn := blk_set6 hBX (show w.heap.size ≠ g8 by omega) (.int .i64 (uc : Int)) (.int .i64 (ui : Int)) (.int .i64 zh) (.int .u64 (ul : Int)) (.int .i64 ze) (.int .i64 zm)
                  have HSN := Lib.hid hsn
                  have HBN := Lib.hid hbn
                  have HHE := Lib.hid hHeld
                  have hs9 := hszx
                  clear hHeld hHx hsx c0 c1 c2 c3 c4 c5 f0 f1 f2 f3 f4 f5 hsn hbn hBX hRX hbx8
                  go_wp2_with fail
                  go_meet
                  case rel => exact ⟨g8, rfl, HSN.out, HBN.out, HHE.out⟩
                exact AllReadyH.nil
              refine rg_cons rfl (by rfl) (fun K hK => ?_) ?_
              · refine step_alloc 37 rfl iR _ hiR hzR ?_
                intro g8 w124 hge8 hbx8 hbs
                have hg8w : w.heap.size + 1 ≤ g8 := Nat.le_trans hszx hge8
                simp only [Value.cells] at hbx8
                have hRX := hbx8
                have hHx := hHeld.trans (hbs.mono hszx)
                have hBX := blk_later hBX hbs
                have hszx := Nat.le_trans hszx hbs.size
                refine hK.out _ _ hHx (fun hHeld => ?_)
                clear hK K
                (try simp only [Act.put, List.setIfInBounds_toArray, List.set_cons_zero, List.set_cons_succ])
                refine rg_do 17 rfl (by kernel_rfl) (by rfl) (fun K hK => ?_)
                go_simp
                (go_at_call 65; (with_reducible refine (He.out _ hHeld).mono ?_); (rintro e w117 ⟨rfl, hbs⟩))
                have hHx := hHeld.trans (hbs.mono hszx)
                have hBX := blk_later hBX hbs
                have hszx := Nat.le_trans hszx hbs.size
                have hRX := blk_later hRX hbs
                refine hK.out _ _ hHx (fun hHeld => ?_)
                clear hK K
                (try simp only [Act.put, List.setIfInBounds_toArray, List.set_cons_zero, List.set_cons_succ])
                refine rg_in 18 rfl (by kernel_rfl) (by kernel_rfl) (by kernel_rfl) (by rfl) (v := ?_) (fun _ _ _ h => h) hHeld (fun w hSw => ?_) ?_
                rotate_left
                · (try dsimp only at hSw); go_simp <;> (with_reducible rfl)
                (try simp only [Act.put, List.setIfInBounds_toArray, List.set_cons_zero, List.set_cons_succ])
                refine rg_do 21 rfl (by kernel_rfl) (by rfl) (fun K hK => ?_)
                go_simp
                (go_at_call 65; (with_reducible refine (Hm.out _ hHeld).mono ?_); (rintro e w121 ⟨rfl, hbs⟩))
                have hHx := hHeld.trans (hbs.mono hszx)
                have hBX := blk_later hBX hbs
                have hszx := Nat.le_trans hszx hbs.size
                have hRX := blk_later hRX hbs
                refine hK.out _ _ hHx (fun hHeld => ?_)
                clear hK K
                (try simp only [Act.put, List.setIfInBounds_toArray, List.set_cons_zero, List.set_cons_succ])
                refine rg_in 22 rfl (by kernel_rfl) (by kernel_rfl) (by kernel_rfl) (by rfl) (v := ?_) (fun _ _ _ h => h) hHeld (fun w hSw => ?_) ?_
                rotate_left
                · (try dsimp only at hSw); go_simp <;> (with_reducible rfl)
                (try simp only [Act.put, List.setIfInBounds_toArray, List.set_cons_zero, List.set_cons_succ])
                refine rg_in 23 rfl (by kernel_rfl) (by kernel_rfl) (by kernel_rfl) (by rfl) (v := ?_) (fun _ _ _ h => h) hHeld (fun w hSw => ?_) ?_
                rotate_left
                · (try dsimp only at hSw); go_simp <;> (with_reducible rfl)
                (try simp only [Act.put, List.setIfInBounds_toArray, List.set_cons_zero, List.set_cons_succ])
                refine rg_do 25 rfl (by kernel_rfl) (by rfl) (fun K hK => ?_)
                obtain ⟨⟨c0, c1, c2, c3, c4, c5⟩, f0, f1, f2, f3, f4, f5⟩ := six_blk hRX
                have hsx := six_blk hRX
                have hHx := below_set6 (a := .int .i64 (uc : Int)) (b := .int .i64 (ui : Int)) (c := .int .i64 zh) (d := .int .u64 (ul : Int)) (e := .int .i64 ze) (f := .int .i64 zm) hHeld hg8w
                go_simp
                refine hK.out _ _ hHx (fun hHeld => ?_)
                clear hK K
                (try simp only [Act.put, List.setIfInBounds_toArray, List.set_cons_zero, List.set_cons_succ])
                refine wpAnyH_done (by kernel_rfl) ?_ _
                have hsn := ((((((hsx.s0 (.int .i64 (uc : Int))).s1 (.int .i64 (ui : Int))).s2 (.int .i64 zh)).s3 (.int .u64 (ul : Int))).s4 (.int .i64 ze)).s5 (.int .i64 zm))
                have hbn := blk_set6 hBX (show w.heap.size ≠ g8 by omega) (.int .i64 (uc : Int)) (.int .i64 (ui : Int)) (.int .i64 zh) (.int .u64 (ul : Int)) (.int .i64 ze) (.int .i64 zm)
                have HSN := Lib.hid hsn
                have HBN := Lib.hid hbn
                have HHE := Lib.hid hHeld
                have hs9 := hszx
                clear hHeld hHx hsx c0 c1 c2 c3 c4 c5 f0 f1 f2 f3 f4 f5 hsn hbn hBX hRX hbx8
                go_wp2_with fail
                go_meet
                case rel => exact ⟨g8, rfl, HSN.out, HBN.out, HHE.out⟩
              exact AllReadyH.nil
            refine rg_cons rfl (by rfl) (fun K hK => ?_) ?_
            · refine step_alloc 37 rfl iR _ hiR hzR ?_
              intro g8 w124 hge8 hbx8 hbs
              have hg8w : w.heap.size + 1 ≤ g8 := Nat.le_trans hszx hge8
              simp only [Value.cells] at hbx8
              have hRX := hbx8
              have hHx := hHeld.trans (hbs.mono hszx)
              have hBX := blk_later hBX hbs
              have hszx := Nat.le_trans hszx hbs.size
              refine hK.out _ _ hHx (fun hHeld => ?_)
              clear hK K
              (try simp only [Act.put, List.setIfInBounds_toArray, List.set_cons_zero, List.set_cons_succ])
              refine rg_do 14 rfl (by kernel_rfl) (by rfl) (fun K hK => ?_)
              go_simp
              (go_at_call 65; (with_reducible refine (Hl.out _ hHeld).mono ?_); (rintro e w114 ⟨rfl, hbs⟩))
              have hHx := hHeld.trans (hbs.mono hszx)
              have hBX := blk_later hBX hbs
              have hszx := Nat.le_trans hszx hbs.size
              have hRX := blk_later hRX hbs
              refine hK.out _ _ hHx (fun hHeld => ?_)
              clear hK K
              (try simp only [Act.put, List.setIfInBounds_toArray, List.set_cons_zero, List.set_cons_succ])
              refine rg_do 17 rfl (by kernel_rfl) (by rfl) (fun K hK => ?_)
              go_simp
              (go_at_call 65; (with_reducible refine (He.out _ hHeld).mono ?_); (rintro e w117 ⟨rfl, hbs⟩))
              have hHx := hHeld.trans (hbs.mono hszx)
              have hBX := blk_later hBX hbs
              have hszx := Nat.le_trans hszx hbs.size
              have hRX := blk_later hRX hbs
              refine hK.out _ _ hHx (fun hHeld => ?_)
              clear hK K
              (try simp only [Act.put, List.setIfInBounds_toArray, List.set_cons_zero, List.set_cons_succ])
              refine rg_in 18 rfl (by kernel_rfl) (by kernel_rfl) (by kernel_rfl) (by rfl) (v := ?_) (fun _ _ _ h => h) hHeld (fun w hSw => ?_) ?_
              rotate_left
              · (try dsimp only at hSw); go_simp <;> (with_reducible rfl)
              (try simp only [Act.put, List.setIfInBounds_toArray, List.set_cons_zero, List.set_cons_succ])
              refine rg_do 21 rfl (by kernel_rfl) (by rfl) (fun K hK => ?_)
              go_simp
              (go_at_call 65; (with_reducible refine (Hm.out _ hHeld).mono ?_); (rintro e w121 ⟨rfl, hbs⟩))
              have hHx := hHeld.trans (hbs.mono hszx)
              have hBX := blk_later hBX hbs
              have hszx := Nat.le_trans hszx hbs.size
              have hRX := blk_later hRX hbs
              refine hK.out _ _ hHx (fun hHeld => ?_)
              clear hK K
              (try simp only [Act.put, List.setIfInBounds_toArray, List.set_cons_zero, List.set_cons_succ])
              refine rg_in 22 rfl (by kernel_rfl) (by kernel_rfl) (by kernel_rfl) (by rfl) (v := ?_) (fun _ _ _ h => h) hHeld (fun w hSw => ?_) ?_
              rotate_left
              · (try dsimp only at hSw); go_simp <;> (with_reducible rfl)
              (try simp only [Act.put, List.setIfInBounds_toArray, List.set_cons_zero, List.set_cons_succ])
              refine rg_in 23 rfl (by kernel_rfl) (by kernel_rfl) (by kernel_rfl) (by rfl) (v := ?_) (fun _ _ _ h => h) hHeld (fun w hSw => ?_) ?_
              rotate_left
              · (try dsimp only at hSw); go_simp <;> (with_reducible rfl)
              (try simp only [Act.put, List.setIfInBounds_toArray, List.set_cons_zero, List.set_cons_succ])
              refine rg_do 25 rfl (by kernel_rfl) (by rfl) (fun K hK => ?_)
              obtain ⟨⟨c0, c1, c2, c3, c4, c5⟩, f0, f1, f2, f3, f4, f5⟩ := six_blk hRX
              have hsx := six_blk hRX
              have hHx := below_set6 (a := .int .i64 (uc : Int)) (b := .int .i64 (ui : Int)) (c := .int .i64 zh) (d := .int .u64 (ul : Int)) (e := .int .i64 ze) (f := .int .i64 zm) hHeld hg8w
              go_simp
              refine hK.out _ _ hHx (fun hHeld => ?_)
              clear hK K
              (try simp only [Act.put, List.setIfInBounds_toArray, List.set_cons_zero, List.set_cons_succ])
              refine wpAnyH_done (by kernel_rfl) ?_ _
              have hsn := ((((((hsx.s0 (.int .i64 (uc : Int))).s1 (.int .i64 (ui : Int))).s2 (.int .i64 zh)).s3 (.int .u64 (ul : Int))).s4 (.int .i64 ze)).s5 (.int .i64 zm))
              have hbn := blk_set6 hBX (show w.heap.size ≠ g8 by omega) (.int .i64 (uc : Int)) (.int .i64 (ui : Int)) (.int .i64 zh) (.int .u64 (ul : Int)) (.int .i64 ze) (.int .i64 zm)
              have HSN := Lib.hid hsn
              have HBN := Lib.hid hbn
              have HHE := Lib.hid hHeld
              have hs9 := hszx
              clear hHeld hHx hsx c0 c1 c2 c3 c4 c5 f0 f1 f2 f3 f4 f5 hsn hbn hBX hRX hbx8
              go_wp2_with fail
              go_meet
              case rel => exact ⟨g8, rfl, HSN.out, HBN.out, HHE.out⟩
            exact AllReadyH.nil
          refine rg_cons rfl (by rfl) (fun K hK => ?_) ?_
          · refine step_alloc 37 rfl iR _ hiR hzR ?_
            intro g8 w124 hge8 hbx8 hbs
            have hg8w : w.heap.size + 1 ≤ g8 := Nat.le_trans hszx hge8
            simp only [Value.cells] at hbx8
            have hRX := hbx8
            have hHx := hHeld.trans (hbs.mono hszx)
            have hBX := blk_later hBX hbs
            have hszx := Nat.le_trans hszx hbs.size
            refine hK.out _ _ hHx (fun hHeld => ?_)
            clear hK K
            (try simp only [Act.put, List.setIfInBounds_toArray, List.set_cons_zero, List.set_cons_succ])
            refine rg_do 10 rfl (by kernel_rfl) (by rfl) (fun K hK => ?_)
            go_simp
            (go_at_call 65; (with_reducible refine (Hh.out _ hHeld).mono ?_); (rintro e w110 ⟨rfl, hbs⟩))
            have hHx := hHeld.trans (hbs.mono hszx)
            have hBX := blk_later hBX hbs
            have hszx := Nat.le_trans hszx hbs.size
            have hRX := blk_later hRX hbs
            refine hK.out _ _ hHx (fun hHeld => ?_)
            clear hK K
            (try simp only [Act.put, List.setIfInBounds_toArray, List.set_cons_zero, List.set_cons_succ])
            refine rg_in 11 rfl (by kernel_rfl) (by kernel_rfl) (by kernel_rfl) (by rfl) (v := ?_) (fun _ _ _ h => h) hHeld (fun w hSw => ?_) ?_
            rotate_left
            · (try dsimp only at hSw); go_simp <;> (with_reducible rfl)
            (try simp only [Act.put, List.setIfInBounds_toArray, List.set_cons_zero, List.set_cons_succ])
            refine rg_do 14 rfl (by kernel_rfl) (by rfl) (fun K hK => ?_)
            go_simp
            (go_at_call 65; (with_reducible refine (Hl.out _ hHeld).mono ?_); (rintro e w114 ⟨rfl, hbs⟩))
            have hHx := hHeld.trans (hbs.mono hszx)
            have hBX := blk_later hBX hbs
            have hszx := Nat.le_trans hszx hbs.size
            have hRX := blk_later hRX hbs
            refine hK.out _ _ hHx (fun hHeld => ?_)
            clear hK K
            (try simp only [Act.put, List.setIfInBounds_toArray, List.set_cons_zero, List.set_cons_succ])
            refine rg_do 17 rfl (by kernel_rfl) (by rfl) (fun K hK => ?_)
            go_simp
            (go_at_call 65; (with_reducible refine (He.out _ hHeld).mono ?_); (rintro e w117 ⟨rfl, hbs⟩))
            have hHx := hHeld.trans (hbs.mono hszx)
            have hBX := blk_later hBX hbs
            have hszx := Nat.le_trans hszx hbs.size
            have hRX := blk_later hRX hbs
            refine hK.out _ _ hHx (fun hHeld => ?_)
            clear hK K
            (try simp only [Act.put, List.setIfInBounds_toArray, List.set_cons_zero, List.set_cons_succ])
            refine rg_in 18 rfl (by kernel_rfl) (by kernel_rfl) (by kernel_rfl) (by rfl) (v := ?_) (fun _ _ _ h => h) hHeld (fun w hSw => ?_) ?_
            rotate_left
            · (try dsimp only at hSw); go_simp <;> (with_reducible rfl)
            (try simp only [Act.put, List.setIfInBounds_toArray, List.set_cons_zero, List.set_cons_succ])
            refine rg_do 21 rfl (by kernel_rfl) (by rfl) (fun K hK => ?_)
            go_simp
            (go_at_call 65; (with_reducible refine (Hm.out _ hHeld).mono ?_); (rintro e w121 ⟨rfl, hbs⟩))
            have hHx := hHeld.trans (hbs.mono hszx)
            have hBX := blk_later hBX hbs
            have hszx := Nat.le_trans hszx hbs.size
            have hRX := blk_later hRX hbs
            refine hK.out _ _ hHx (fun hHeld => ?_)
            clear hK K
            (try simp only [Act.put, List.setIfInBounds_toArray, List.set_cons_zero, List.set_cons_succ])
            refine rg_in 22 rfl (by kernel_rfl) (by kernel_rfl) (by kernel_rfl) (by rfl) (v := ?_) (fun _ _ _ h => h) hHeld (fun w hSw => ?_) ?_
            rotate_left
            · (try dsimp only at hSw); go_simp <;> (with_reducible rfl)
            (try simp only [Act.put, List.setIfInBounds_toArray, List.set_cons_zero, List.set_cons_succ])
            refine rg_in 23 rfl (by kernel_rfl) (by kernel_rfl) (by kernel_rfl) (by rfl) (v := ?_) (fun _ _ _ h => h) hHeld (fun w hSw => ?_) ?_
            rotate_left
            · (try dsimp only at hSw); go_simp <;> (with_reducible rfl)
            (try simp only [Act.put, List.setIfInBounds_toArray, List.set_cons_zero, List.set_cons_succ])
            refine rg_do 25 rfl (by kernel_rfl) (by rfl) (fun K hK => ?_)
            obtain ⟨⟨c0, c1, c2, c3, c4, c5⟩, f0, f1, f2, f3, f4, f5⟩ := six_blk hRX
            have hsx := six_blk hRX
            have hHx := below_set6 (a := .int .i64 (uc : Int)) (b := .int .i64 (ui : Int)) (c := .int .i64 zh) (d := .int .u64 (ul : Int)) (e := .int .i64 ze) (f := .int .i64 zm) hHeld hg8w
            go_simp
            refine hK.out _ _ hHx (fun hHeld => ?_)
            clear hK K
            (try simp only [Act.put, List.setIfInBounds_toArray, List.set_cons_zero, List.set_cons_succ])
            refine wpAnyH_done (by kernel_rfl) ?_ _
            have hsn := ((((((hsx.s0 (.int .i64 (uc : Int))).s1 (.int .i64 (ui : Int))).s2 (.int .i64 zh)).s3 (.int .u64 (ul : Int))).s4 (.int .i64 ze)).s5 (.int .i64 zm))
            have hbn := blk_set6 hBX (show w.heap.size ≠ g8 by omega) (.int .i64 (uc : Int)) (.int .i64 (ui : Int)) (.int .i64 zh) (.int .u64 (ul : Int)) (.int .i64 ze) (.int .i64 zm)
            have HSN := Lib.hid hsn
            have HBN := Lib.hid hbn
            have HHE := Lib.hid hHeld
            have hs9 := hszx
            clear hHeld hHx hsx c0 c1 c2 c3 c4 c5 f0 f1 f2 f3 f4 f5 hsn hbn hBX hRX hbx8
            go_wp2_with fail
            go_meet
            case rel => exact ⟨g8, rfl, HSN.out, HBN.out, HHE.out⟩
          exact AllReadyH.nil
        refine rg_cons rfl (by rfl) (fun K hK => ?_) ?_
        · refine step_alloc 37 rfl iR _ hiR hzR ?_
          intro g8 w124 hge8 hbx8 hbs
          have hg8w : w.heap.size + 1 ≤ g8 := Nat.le_trans hszx hge8
          simp only [Value.cells] at hbx8
          have hRX := hbx8
          have hHx := hHeld.trans (hbs.mono hszx)
          have hBX := blk_later hBX hbs
          have hszx := Nat.le_trans hszx hbs.size
          refine hK.out _ _ hHx (fun hHeld => ?_)
          clear hK K
          (try simp only [Act.put, List.setIfInBounds_toArray, List.set_cons_zero, List.set_cons_succ])
          refine rg_do 6 rfl (by kernel_rfl) (by rfl) (fun K hK => ?_)
          go_simp
          (go_at_call 65; (with_reducible refine (Hi.out _ hHeld).mono ?_); (rintro e w106 ⟨rfl, hbs⟩))
          have hHx := hHeld.trans (hbs.mono hszx)
          have hBX := blk_later hBX hbs
          have hszx := Nat.le_trans hszx hbs.size
          have hRX := blk_later hRX hbs
          refine hK.out _ _ hHx (fun hHeld => ?_)
          clear hK K
          (try simp only [Act.put, List.setIfInBounds_toArray, List.set_cons_zero, List.set_cons_succ])
          refine rg_in 7 rfl (by kernel_rfl) (by kernel_rfl) (by kernel_rfl) (by rfl) (v := ?_) (fun _ _ _ h => h) hHeld (fun w hSw => ?_) ?_
          rotate_left
          · (try dsimp only at hSw); go_simp <;> (with_reducible rfl)
          (try simp only [Act.put, List.setIfInBounds_toArray, List.set_cons_zero, List.set_cons_succ])
          refine rg_do 10 rfl (by kernel_rfl) (by rfl) (fun K hK => ?_)
          go_simp
          (go_at_call 65; (with_reducible refine (Hh.out _ hHeld).mono ?_); (rintro e w110 ⟨rfl, hbs⟩))
          have hHx := hHeld.trans (hbs.mono hszx)
          have hBX := blk_later hBX hbs
          have hszx := Nat.le_trans hszx hbs.size
          have hRX := blk_later hRX hbs
          refine hK.out _ _ hHx (fun hHeld => ?_)
          clear hK K
          (try simp only [Act.put, List.setIfInBounds_toArray, List.set_cons_zero, List.set_cons_succ])
          refine rg_in 11 rfl (by kernel_rfl) (by kernel_rfl) (by kernel_rfl) (by rfl) (v := ?_) (fun _ _ _ h => h) hHeld (fun w hSw => ?_) ?_
          rotate_left
          · (try dsimp only at hSw); go_simp <;> (with_reducible rfl)
          (try simp only [Act.put, List.setIfInBounds_toArray, List.set_cons_zero, List.set_cons_succ])
          refine rg_do 14 rfl (by kernel_rfl) (by rfl) (fun K hK => ?_)
          go_simp
          (go_at_call 65; (with_reducible refine (Hl.out _ hHeld).mono ?_); (rintro e w114 ⟨rfl, hbs⟩))
          have hHx := hHeld.trans (hbs.mono hszx)
          have hBX := blk_later hBX hbs
          have hszx := Nat.le_trans hszx hbs.size
          have hRX := blk_later hRX hbs
          refine hK.out _ _ hHx (fun hHeld => ?_)
          clear hK K
          (try simp only [Act.put, List.setIfInBounds_toArray, List.set_cons_zero, List.set_cons_succ])
          refine rg_do 17 rfl (by kernel_rfl) (by rfl) (fun K hK => ?_)
          go_simp
          (go_at_call 65; (with_reducible refine (He.out _ hHeld).mono ?_); (rintro e w117 ⟨rfl, hbs⟩))
          have hHx := hHeld.trans (hbs.mono hszx)
          have hBX := blk_later hBX hbs
          have hszx := Nat.le_trans hszx hbs.size
          have hRX := blk_later hRX hbs
          refine hK.out _ _ hHx (fun hHeld => ?_)
          clear hK K
          (try simp only [Act.put, List.setIfInBounds_toArray, List.set_cons_zero, List.set_cons_succ])
          refine rg_in 18 rfl (by kernel_rfl) (by kernel_rfl) (by kernel_rfl) (by rfl) (v := ?_) (fun _ _ _ h => h) hHeld (fun w hSw => ?_) ?_
          rotate_left
          · (try dsimp only at hSw); go_simp <;> (with_reducible rfl)
          (try simp only [Act.put, List.setIfInBounds_toArray, List.set_cons_zero, List.set_cons_succ])
          refine rg_do 21 rfl (by kernel_rfl) (by rfl) (fun K hK => ?_)
          go_simp
          (go_at_call 65; (with_reducible refine (Hm.out _ hHeld).mono ?_); (rintro e w121 ⟨rfl, hbs⟩))
          have hHx := hHeld.trans (hbs.mono hszx)
          have hBX := blk_later hBX hbs
          have hszx := Nat.le_trans hszx hbs.size
          have hRX := blk_later hRX hbs
          refine hK.out _ _ hHx (fun hHeld => ?_)
          clear hK K
          (try simp only [Act.put, List.setIfInBounds_toArray, List.set_cons_zero, List.set_cons_succ])
          refine rg_in 22 rfl (by kernel_rfl) (by kernel_rfl) (by kernel_rfl) (by rfl) (v := ?_) (fun _ _ _ h => h) hHeld (fun w hSw => ?_) ?_
          rotate_left
          · (try dsimp only at hSw); go_simp <;> (with_reducible rfl)
          (try simp only [Act.put, List.setIfInBounds_toArray, List.set_cons_zero, List.set_cons_succ])
          refine rg_in 23 rfl (by kernel_rfl) (by kernel_rfl) (by kernel_rfl) (by rfl) (v := ?_) (fun _ _ _ h => h) hHeld (fun w hSw => ?_) ?_
          rotate_left
          · (try dsimp only at hSw); go_simp <;> (with_reducible rfl)
          (try simp only [Act.put, List.setIfInBounds_toArray, List.set_cons_zero, List.set_cons_succ])
          refine rg_do 25 rfl (by kernel_rfl) (by rfl) (fun K hK => ?_)
          obtain ⟨⟨c0, c1, c2, c3, c4, c5⟩, f0, f1, f2, f3, f4, f5⟩ := six_blk hRX
          have hsx := six_blk hRX
          have hHx := below_set6 (a := .int .i64 (uc : Int)) (b := .int .i64 (ui : Int)) (c := .int .i64 zh) (d := .int .u64 (ul : Int)) (e := .int .i64 ze) (f := .int .i64 zm) hHeld hg8w
          go_simp
          refine hK.out _ _ hHx (fun hHeld => ?_)
          clear hK K
          (try simp only [Act.put, List.setIfInBounds_toArray, List.set_cons_zero, List.set_cons_succ])
          refine wpAnyH_done (by kernel_rfl) ?_ _
          have hsn := ((((((hsx.s0 (.int .i64 (uc : Int))).s1 (.int .i64 (ui : Int))).s2 (.int .i64 zh)).s3 (.int .u64 (ul : Int))).s4 (.int .i64 ze)).s5 (.int .i64 zm))
          have hbn := blk_set6 hBX (show w.heap.size ≠ g8 by omega) (.int .i64 (uc : Int)) (.int .i64 (ui : Int)) (.int .i64 zh) (.int .u64 (ul : Int)) (.int .i64 ze) (.int .i64 zm)
          have HSN := Lib.hid hsn
          have HBN := Lib.hid hbn
          have HHE := Lib.hid hHeld
          have hs9 := hszx
          clear hHeld hHx hsx c0 c1 c2 c3 c4 c5 f0 f1 f2 f3 f4 f5 hsn hbn hBX hRX hbx8
          go_wp2_with fail
          go_meet
          case rel => exact ⟨g8, rfl, HSN.out, HBN.out, HHE.out⟩
        exact AllReadyH.nil
      refine rg_cons rfl (by rfl) (fun K hK => ?_) ?_
      · refine step_alloc 37 rfl iR _ hiR hzR ?_
        intro g8 w124 hge8 hbx8 hbs
        have hg8w : w.heap.size + 1 ≤ g8 := Nat.le_trans hszx hge8
        simp only [Value.cells] at hbx8
        have hRX := hbx8
        have hHx := hHeld.trans (hbs.mono hszx)
        have hBX := blk_later hBX hbs
        have hszx := Nat.le_trans hszx hbs.size
        refine hK.out _ _ hHx (fun hHeld => ?_)
        clear hK K
        (try simp only [Act.put, List.setIfInBounds_toArray, List.set_cons_zero, List.set_cons_succ])
        refine rg_do 2 rfl (by kernel_rfl) (by rfl) (fun K hK => ?_)
        go_simp
        (go_at_call 65; (with_reducible refine (Hc.out _ hHeld).mono ?_); (rintro e w102 ⟨rfl, hbs⟩))
        have hHx := hHeld.trans (hbs.mono hszx)
        have hBX := blk_later hBX hbs
        have hszx := Nat.le_trans hszx hbs.size
        have hRX := blk_later hRX hbs
        refine hK.out _ _ hHx (fun hHeld => ?_)
        clear hK K
        (try simp only [Act.put, List.setIfInBounds_toArray, List.set_cons_zero, List.set_cons_succ])
        refine rg_in 3 rfl (by kernel_rfl) (by kernel_rfl) (by kernel_rfl) (by rfl) (v := ?_) (fun _ _ _ h => h) hHeld (fun w hSw => ?_) ?_
        rotate_left
        · (try dsimp only at hSw); go_simp <;> (with_reducible rfl)
        (try simp only [Act.put, List.setIfInBounds_toArray, List.set_cons_zero, List.set_cons_succ])
        refine rg_do 6 rfl (by kernel_rfl) (by rfl) (fun K hK => ?_)
        go_simp
        (go_at_call 65; (with_reducible refine (Hi.out _ hHeld).mono ?_); (rintro e w106 ⟨rfl, hbs⟩))
        have hHx := hHeld.trans (hbs.mono hszx)
        have hBX := blk_later hBX hbs
        have hszx := Nat.le_trans hszx hbs.size
        have hRX := blk_later hRX hbs
        refine hK.out _ _ hHx (fun hHeld => ?_)
        clear hK K
        (try simp only [Act.put, List.setIfInBounds_toArray, List.set_cons_zero, List.set_cons_succ])
        refine rg_in 7 rfl (by kernel_rfl) (by kernel_rfl) (by kernel_rfl) (by rfl) (v := ?_) (fun _ _ _ h => h) hHeld (fun w hSw => ?_) ?_
        rotate_left
        · (try dsimp only at hSw); go_simp <;> (with_reducible rfl)
        (try simp only [Act.put, List.setIfInBounds_toArray, List.set_cons_zero, List.set_cons_succ])
        refine rg_do 10 rfl (by kernel_rfl) (by rfl) (fun K hK => ?_)
        go_simp
        (go_at_call 65; (with_reducible refine (Hh.out _ hHeld).mono ?_); (rintro e w110 ⟨rfl, hbs⟩))
        have hHx := hHeld.trans (hbs.mono hszx)
        have hBX := blk_later hBX hbs
        have hszx := Nat.le_trans hszx hbs.size
        have hRX := blk_later hRX hbs
        refine hK.out _ _ hHx (fun hHeld => ?_)
        clear hK K
        (try simp only [Act.put, List.setIfInBounds_toArray, List.set_cons_zero, List.set_cons_succ])
        refine rg_in 11 rfl (by kernel_rfl) (by kernel_rfl) (by kernel_rfl) (by rfl) (v := ?_) (fun _ _ _ h => h) hHeld (fun w hSw => ?_) ?_
        rotate_left
        · (try dsimp only at hSw); go_simp <;> (with_reducible rfl)
        (try simp only [Act.put, List.setIfInBounds_toArray, List.set_cons_zero, List.set_cons_succ])
        refine rg_do 14 rfl (by kernel_rfl) (by rfl) (fun K hK => ?_)
        go_simp
        (go_at_call 65; (with_reducible refine (Hl.out _ hHeld).mono ?_); (rintro e w114 ⟨rfl, hbs⟩))
        have hHx := hHeld.trans (hbs.mono hszx)
        have hBX := blk_later hBX hbs
        have hszx := Nat.le_trans hszx hbs.size
        have hRX := blk_later hRX hbs
        refine hK.out _ _ hHx (fun hHeld => ?_)
        clear hK K
        (try simp only [Act.put, List.setIfInBounds_toArray, List.set_cons_zero, List.set_cons_succ])
        refine rg_do 17 rfl (by kernel_rfl) (by rfl) (fun K hK => ?_)
        go_simp
        (go_at_call 65; (with_reducible refine (He.out _ hHeld).mono ?_); (rintro e w117 ⟨rfl, hbs⟩))
        have hHx := hHeld.trans (hbs.mono hszx)
        have hBX := blk_later hBX hbs
        have hszx := Nat.le_trans hszx hbs.size
        have hRX := blk_later hRX hbs
        refine hK.out _ _ hHx (fun hHeld => ?_)
        clear hK K
        (try simp only [Act.put, List.setIfInBounds_toArray, List.set_cons_zero, List.set_cons_succ])
        refine rg_in 18 rfl (by kernel_rfl) (by kernel_rfl) (by kernel_rfl) (by rfl) (v := ?_) (fun _ _ _ h => h) hHeld (fun w hSw => ?_) ?_
        rotate_left
        · (try dsimp only at hSw); go_simp <;> (with_reducible rfl)
        (try simp only [Act.put, List.setIfInBounds_toArray, List.set_cons_zero, List.set_cons_succ])
        refine rg_do 21 rfl (by kernel_rfl) (by rfl) (fun K hK => ?_)
        go_simp
        (go_at_call 65; (with_reducible refine (Hm.out _ hHeld).mono ?_); (rintro e w121 ⟨rfl, hbs⟩))
        have hHx := hHeld.trans (hbs.mono hszx)
        have hBX := blk_later hBX hbs
        have hszx := Nat.le_trans hszx hbs.size
        have hRX := blk_later hRX hbs
        refine hK.out _ _ hHx (fun hHeld => ?_)
        clear hK K
        (try simp only [Act.put, List.setIfInBounds_toArray, List.set_cons_zero, List.set_cons_succ])
        refine rg_in 22 rfl (by kernel_rfl) (by kernel_rfl) (by kernel_rfl) (by rfl) (v := ?_) (fun _ _ _ h => h) hHeld (fun w hSw => ?_) ?_
        rotate_left
        · (try dsimp only at hSw); go_simp <;> (with_reducible rfl)
        (try simp only [Act.put, List.setIfInBounds_toArray, List.set_cons_zero, List.set_cons_succ])
        refine rg_in 23 rfl (by kernel_rfl) (by kernel_rfl) (by kernel_rfl) (by rfl) (v := ?_) (fun _ _ _ h => h) hHeld (fun w hSw => ?_) ?_
        rotate_left
        · (try dsimp only at hSw); go_simp <;> (with_reducible rfl)
        (try simp only [Act.put, List.setIfInBounds_toArray, List.set_cons_zero, List.set_cons_succ])
        refine rg_do 25 rfl (by kernel_rfl) (by rfl) (fun K hK => ?_)
        obtain ⟨⟨c0, c1, c2, c3, c4, c5⟩, f0, f1, f2, f3, f4, f5⟩ := six_blk hRX
        have hsx := six_blk hRX
        have hHx := below_set6 (a := .int .i64 (uc : Int)) (b := .int .i64 (ui : Int)) (c := .int .i64 zh) (d := .int .u64 (ul : Int)) (e := .int .i64 ze) (f := .int .i64 zm) hHeld hg8w
        go_simp
        refine hK.out _ _ hHx (fun hHeld => ?_)
        clear hK K
        (try simp only [Act.put, List.setIfInBounds_toArray, List.set_cons_zero, List.set_cons_succ])
        refine wpAnyH_done (by kernel_rfl) ?_ _
        have hsn := ((((((hsx.s0 (.int .i64 (uc : Int))).s1 (.int .i64 (ui : Int))).s2 (.int .i64 zh)).s3 (.int .u64 (ul : Int))).s4 (.int .i64 ze)).s5 (.int .i64 zm))
        have hbn := blk_set6 hBX (show w.heap.size ≠ g8 by omega) (.int .i64 (uc : Int)) (.int .i64 (ui : Int)) (.int .i64 zh) (.int .u64 (ul : Int)) (.int .i64 ze) (.int .i64 zm)
        have HSN := Lib.hid hsn
        have HBN := Lib.hid hbn
        have HHE := Lib.hid hHeld
        have hs9 := hszx
        clear hHeld hHx hsx c0 c1 c2 c3 c4 c5 f0 f1 f2 f3 f4 f5 hsn hbn hBX hRX hbx8
        go_wp2_with fail
        go_meet
        case rel => exact ⟨g8, rfl, HSN.out, HBN.out, HHE.out⟩
      exact AllReadyH.nil
    case rest =>
      obtain ⟨g8, rfl, hsix, hbox, hbw5⟩ := hcut
      rename World => W5
      have hbw4 := HBW.out
      have hb5w := hbw4.trans (hbw5.mono (Nat.le_succ _))
      have hs5 : w.heap.size + 1 ≤ W5.heap.size := Nat.le_trans hszx hbw5.size
      have hsz5 : w.heap.size ≤ W5.drew.heap.size := Nat.le_trans (Nat.le_succ _) hs5
      have HKo5 := Lib.hid (HKo.out.later (hbw5.mono (by omega)))
      have HQo5 := Lib.hid (HQo.out.later (hbw5.mono (by omega)))
      have HBW5 := Lib.hid hb5w
      have hg8 := World.block_lt_of_cell? W5 _ hsix.1.1
      have hcN : ∀ W, Below w.heap.size W5 W → Calls Try.prog 65 #[.slice (some ⟨b, off, none⟩) 4 c3] W fun e w' => e = .returned (.int .u64 (ua : Nat)) ∧ Below W.heap.size W w' := fun W h => by
        have hk0 : PcT.Ok W4 B ⟨some ⟨b, off, none⟩, 4, c3, l3.take 4⟩ := ⟨HT3.out.here.first (show 4 ≤ 44 by omega), nofun, by show 4 ≤ c3; omega, HT3.out.most⟩
        have h1 := rNumber_any ⟨some ⟨b, off, none⟩, 4, c3, l3.take 4⟩ B W (hk0.later ((hbw5.mono (by omega)).trans (h.mono hB))) (by show 4 ≤ 8; decide)
        have hu0 : Nod.rdN (l3.take 4) = ua := by rw [← HUA.out, List.drop_zero]
        simp only [hu0] at h1
        exact h1
      have Ha5 := Lib.hid hcN
      have hBX : W5.drew.heap[w.heap.size]? = some (.cells #[.slice none 0 0, .int .i64 0, .int .i64 0, .int .i64 0, .int .i64 0, .int .u64 0, .int .i64 0, .int .i64 0] 60 (0, 0)) := hbox
      have hr0 : ∀ W, Below w.heap.size W5 W ∧ W.cell? ⟨g8, 0, none⟩ = some (.int .i64 (uc : Int)) → True := fun _ _ => trivial
      have hSX : Six W5.drew g8 (.int .i64 (uc : Int)) (.int .i64 (ui : Int)) (.int .i64 zh) (.int .u64 (ul : Int)) (.int .i64 ze) (.int .i64 zm) := hsix
      clear hcN hbox hsix hr0 hbw4 hb5w hbw5
      go_upto_region 8 with fail
      refine wp_region_held_drew (S := fun W => Below w.heap.size W5 W) (by kernel_rfl) (below_drewN (Below.refl _ _) 1) (fun hHeld => ?_)
      refine rg_in 0 rfl (by kernel_rfl) (by kernel_rfl) (by kernel_rfl) (by rfl) (v := ?_) (fun _ _ _ h => h) hHeld (fun w hSw => ?_) ?_
      rotate_left
      · (try dsimp only at hSw); go_simp <;> (with_reducible rfl)
      (try simp only [Act.put, List.setIfInBounds_toArray, List.set_cons_zero, List.set_cons_succ])
      refine rg_in 1 rfl (by kernel_rfl) (by kernel_rfl) (by kernel_rfl) (by rfl) (v := ?_) (fun _ _ _ h => h) hHeld (fun w hSw => ?_) ?_
      rotate_left
      · (try dsimp only at hSw); go_simp <;> (with_reducible rfl)
      (try simp only [Act.put, List.setIfInBounds_toArray, List.set_cons_zero, List.set_cons_succ])
      refine rg_in 2 rfl (by kernel_rfl) (by kernel_rfl) (by kernel_rfl) (by rfl) (v := ?_) (fun _ _ _ h => h) hHeld (fun w hSw => ?_) ?_
      rotate_left
      · (try dsimp only at hSw); go_simp <;> (with_reducible rfl)
      (try simp only [Act.put, List.setIfInBounds_toArray, List.set_cons_zero, List.set_cons_succ])
      refine rg_in 7 rfl (by kernel_rfl) (by kernel_rfl) (by kernel_rfl) (by rfl) (v := ?_) (fun _ _ _ h => h) hHeld (fun w hSw => ?_) ?_
      rotate_left
      · (try dsimp only at hSw); go_simp <;> (with_reducible rfl)
      (try simp only [Act.put, List.setIfInBounds_toArray, List.set_cons_zero, List.set_cons_succ])
      refine wpAnyH_ready (rs := [3, 5]) (by kernel_rfl) (by simp) ?_
      refine rg_cons rfl (by rfl) (fun K hK => ?_) ?_
      · go_simp
        (go_at_call 65; (with_reducible refine (Ha5.out _ hHeld).mono ?_); (rintro e w103 ⟨rfl, hbs⟩))
        have hHx := hHeld.trans (hbs.mono hsz5)
        have hBX := blk_later hBX hbs
        have hSX := hSX.below hbs rfl
        refine hK.out _ _ hHx (fun hHeld => ?_)
        clear hK K
        (try simp only [Act.put, List.setIfInBounds_toArray, List.set_cons_zero, List.set_cons_succ])
        refine rg_in 4 rfl (by kernel_rfl) (by kernel_rfl) (by kernel_rfl) (by rfl) (v := ?_) (fun _ _ _ h => h) hHeld (fun w hSw => ?_) ?_
        rotate_left
        · (try dsimp only at hSw); go_simp <;> (with_reducible rfl)
        (try simp only [Act.put, List.setIfInBounds_toArray, List.set_cons_zero, List.set_cons_succ])
        refine rg_do 5 rfl (by kernel_rfl) (by rfl) (fun K hK => ?_)
        have hsx := hSX
        obtain ⟨⟨c0, c1, c2, c3', c4, c5⟩, -⟩ := hsx
        have hHx := hHeld
        go_simp
        clear c0 c1 c2 c3' c4 c5
        refine hK.out _ _ hHx (fun hHeld => ?_)
        clear hK K
        (try simp only [Act.put, List.setIfInBounds_toArray, List.set_cons_zero, List.set_cons_succ])
        refine rg_in 6 rfl (by kernel_rfl) (by kernel_rfl) (by kernel_rfl) (by rfl) (v := ?_) (fun _ _ _ h => h) hHeld (fun w hSw => ?_) ?_
        rotate_left
        · (try dsimp only at hSw); go_simp <;> (with_reducible rfl)
        (try simp only [Act.put, List.setIfInBounds_toArray, List.set_cons_zero, List.set_cons_succ])
        refine rg_do 8 rfl (by kernel_rfl) (by rfl) (fun K hK => ?_)
        obtain ⟨⟨b0, b1, b2, b3, b4, b5, b6, b7⟩, e0, e1, e2, e3, e4, e5, e6, e7⟩ := box8_all hBX
        have hHx := hHeld
        go_simp
        refine hK.out _ _ ((((((((hHeld.setCell (p := ⟨w.heap.size, 0, none⟩) (Nat.le_refl _) _).setCell (p := ⟨w.heap.size, 1, none⟩) (Nat.le_refl _) _).setCell (p := ⟨w.heap.size, 2, none⟩) (Nat.le_refl _) _).setCell (p := ⟨w.heap.size, 3, none⟩) (Nat.le_refl _) _).setCell (p := ⟨w.heap.size, 4, none⟩) (Nat.le_refl _) _).setCell (p := ⟨w.heap.size, 5, none⟩) (Nat.le_refl _) _).setCell (p := ⟨w.heap.size, 6, none⟩) (Nat.le_refl _) _).setCell (p := ⟨w.heap.size, 7, none⟩) (Nat.le_refl _) _) (fun hHeld => ?_)
        clear hK K
        (try simp only [Act.put, List.setIfInBounds_toArray, List.set_cons_zero, List.set_cons_succ])
        refine rg_in 9 rfl (by kernel_rfl) (by kernel_rfl) (by kernel_rfl) (by rfl) (v := ?_) (fun _ _ _ h => h) hHeld (fun w hSw => ?_) ?_
        rotate_left
        · (try dsimp only at hSw); go_simp <;> (with_reducible rfl)
        (try simp only [Act.put, List.setIfInBounds_toArray, List.set_cons_zero, List.set_cons_succ])
        refine rg_in 10 rfl (by kernel_rfl) (by kernel_rfl) (by kernel_rfl) (by rfl) (v := ?_) (fun _ _ _ h => h) hHeld (fun w hSw => ?_) ?_
        rotate_left
        · (try dsimp only at hSw); go_simp <;> (with_reducible rfl)
        (try simp only [Act.put, List.setIfInBounds_toArray, List.set_cons_zero, List.set_cons_succ])
        refine wpAnyH_done (by kernel_rfl) ?_ _
        have hbz := HBW5.out.trans hHeld
        have HK2 := Lib.hid (HKo5.out.later (hHeld.mono hB))
        have HQ2 := Lib.hid (HQo5.out.later (hHeld.mono hB))
        clear hHeld hHx hbs hSX
        go_wp2
        refine bodyPost_ret (v := .tuple #[.agg #[.slice t1.A t1.n t1.c, .int .i64 (ua : Int), .int .i64 (uc : Int), .int .i64 (ui : Int), .int .i64 zh, .int .u64 (ul : Int), .int .i64 ze, .int .i64 zm], .slice q3.A q3.n q3.c, .bool true]) ?_ rfl ⟨hbz, true, ⟨t1, ua, RR⟩, q3, by rw [HAGG.out], ⟨HK2.out, HRO.out.1, HRO.out.2⟩, HQ2.out, fun y r h1 h2 h2' h2'' h3 h4 => ⟨rfl, (HFIN.out y r h1 h2 h2' h2'' h3 h4).2⟩⟩
        simp [results, Try.results47, go_sem, *]
      refine rg_cons rfl (by rfl) (fun K hK => ?_) ?_
      · have hsx := hSX
        obtain ⟨⟨c0, c1, c2, c3', c4, c5⟩, -⟩ := hsx
        have hHx := hHeld
        go_simp
        clear c0 c1 c2 c3' c4 c5
        refine hK.out _ _ hHx (fun hHeld => ?_)
        clear hK K
        (try simp only [Act.put, List.setIfInBounds_toArray, List.set_cons_zero, List.set_cons_succ])
        refine rg_do 3 rfl (by kernel_rfl) (by rfl) (fun K hK => ?_)
        go_simp
        (go_at_call 65; (with_reducible refine (Ha5.out _ hHeld).mono ?_); (rintro e w103 ⟨rfl, hbs⟩))
        have hHx := hHeld.trans (hbs.mono hsz5)
        have hBX := blk_later hBX hbs
        have hSX := hSX.below hbs rfl
        refine hK.out _ _ hHx (fun hHeld => ?_)
        clear hK K
        (try simp only [Act.put, List.setIfInBounds_toArray, List.set_cons_zero, List.set_cons_succ])
        refine rg_in 4 rfl (by kernel_rfl) (by kernel_rfl) (by kernel_rfl) (by rfl) (v := ?_) (fun _ _ _ h => h) hHeld (fun w hSw => ?_) ?_
        rotate_left
        · (try dsimp only at hSw); go_simp <;> (with_reducible rfl)
        (try simp only [Act.put, List.setIfInBounds_toArray, List.set_cons_zero, List.set_cons_succ])
        refine rg_in 6 rfl (by kernel_rfl) (by kernel_rfl) (by kernel_rfl) (by rfl) (v := ?_) (fun _ _ _ h => h) hHeld (fun w hSw => ?_) ?_
        rotate_left
        · (try dsimp only at hSw); go_simp <;> (with_reducible rfl)
        (try simp only [Act.put, List.setIfInBounds_toArray, List.set_cons_zero, List.set_cons_succ])
        refine rg_do 8 rfl (by kernel_rfl) (by rfl) (fun K hK => ?_)
        obtain ⟨⟨b0, b1, b2, b3, b4, b5, b6, b7⟩, e0, e1, e2, e3, e4, e5, e6, e7⟩ := box8_all hBX
        have hHx := hHeld
        go_simp
        refine hK.out _ _ ((((((((hHeld.setCell (p := ⟨w.heap.size, 0, none⟩) (Nat.le_refl _) _).setCell (p := ⟨w.heap.size, 1, none⟩) (Nat.le_refl _) _).setCell (p := ⟨w.heap.size, 2, none⟩) (Nat.le_refl _) _).setCell (p := ⟨w.heap.size, 3, none⟩) (Nat.le_refl _) _).setCell (p := ⟨w.heap.size, 4, none⟩) (Nat.le_refl _) _).setCell (p := ⟨w.heap.size, 5, none⟩) (Nat.le_refl _) _).setCell (p := ⟨w.heap.size, 6, none⟩) (Nat.le_refl _) _).setCell (p := ⟨w.heap.size, 7, none⟩) (Nat.le_refl _) _) (fun hHeld => ?_)
        clear hK K
        (try simp only [Act.put, List.setIfInBounds_toArray, List.set_cons_zero, List.set_cons_succ])
        refine rg_in 9 rfl (by kernel_rfl) (by kernel_rfl) (by kernel_rfl) (by rfl) (v := ?_) (fun _ _ _ h => h) hHeld (fun w hSw => ?_) ?_
        rotate_left
        · (try dsimp only at hSw); go_simp <;> (with_reducible rfl)
        (try simp only [Act.put, List.setIfInBounds_toArray, List.set_cons_zero, List.set_cons_succ])
        refine rg_in 10 rfl (by kernel_rfl) (by kernel_rfl) (by kernel_rfl) (by rfl) (v := ?_) (fun _ _ _ h => h) hHeld (fun w hSw => ?_) ?_
        rotate_left
        · (try dsimp only at hSw); go_simp <;> (with_reducible rfl)
        (try simp only [Act.put, List.setIfInBounds_toArray, List.set_cons_zero, List.set_cons_succ])
        refine wpAnyH_done (by kernel_rfl) ?_ _
        have hbz := HBW5.out.trans hHeld
        have HK2 := Lib.hid (HKo5.out.later (hHeld.mono hB))
        have HQ2 := Lib.hid (HQo5.out.later (hHeld.mono hB))
        clear hHeld hHx hbs hSX
        go_wp2
        refine bodyPost_ret (v := .tuple #[.agg #[.slice t1.A t1.n t1.c, .int .i64 (ua : Int), .int .i64 (uc : Int), .int .i64 (ui : Int), .int .i64 zh, .int .u64 (ul : Int), .int .i64 ze, .int .i64 zm], .slice q3.A q3.n q3.c, .bool true]) ?_ rfl ⟨hbz, true, ⟨t1, ua, RR⟩, q3, by rw [HAGG.out], ⟨HK2.out, HRO.out.1, HRO.out.2⟩, HQ2.out, fun y r h1 h2 h2' h2'' h3 h4 => ⟨rfl, (HFIN.out y r h1 h2 h2' h2'' h3 h4).2⟩⟩
        simp [results, Try.results47, go_sem, *]
      exact AllReadyH.nil
end Go.Proofs.Ytnfohlabmidliaa
