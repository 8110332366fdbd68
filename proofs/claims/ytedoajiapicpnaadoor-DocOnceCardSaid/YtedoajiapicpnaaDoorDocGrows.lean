/-
  Layer 19: the walk of DocGrows.
-/
import Derived.Test.YtedoajiapicpnaaDoorDocNexts
import Derived.Test.YtedoajiapicpnaaDoorCrcA
import Derived.Test.YtedoajiapicpnaaDoorMk
import Derived.Deep.RegionLaw
namespace Go.Proofs.YtedoajiapicpnaaDoor
open Go.RowKit
attribute [local go_sem ↓] Go.wp_at_zero Go.wp_at_succ

theorem gives_len {e8 : TypeId} {B : Nat} {w' : World} {A : Option Addr} {n c : Nat} {l : List UInt8} (h : w'.ownsRow B e8 1 (.slice A n c) n (l.map bv)) : n = l.length ∧ n ≤ c ∧ c ≤ maxLen := by
  obtain ⟨A', c', e, h1, h2⟩ := own_form h
  injection e with _ _ e
  subst e
  have := h.1
  simp at this
  exact ⟨this.symm, h1, h2⟩
theorem next_apart (k : Nat) (m x v v' y u : List UInt8) (hm : m = x ++ (v ++ y)) (hu : u = x ++ (v' ++ y)) (hv : v.length = 4) (hv' : v'.length = 4) : decide (nextM k m = nextM k u) = sameB m u := by
  subst hm hu
  by_cases hmc : v = v'
  · rw [hmc]
    unfold sameB
    rw [decide_eq_true rfl, decide_eq_true rfl]
  · unfold sameB
    rw [decide_eq_false (p := nextM k _ = nextM k _) (fun he => hmc (apart _ _ _ _ _ hv hv' he)), decide_eq_false (fun he => hmc (List.append_cancel_right (List.append_cancel_left he)))]

theorem grow_cases (g m : Nat) (l : List UInt8) : ∃ (E : Int) (v0 v1 : Nat), nextE g m = E ∧ nextV g m l = .agg #[.int .u32 (v0 : Int), .int .u32 (v1 : Int)] ∧
    ((E = 291 ∧ v0 = 0 ∧ v1 = 0) ∨ (E = 5 ∧ v0 = 0 ∧ v1 = 0) ∨ (possB g m = true ∧ g ≠ 4294967295 ∧ E = 0 ∧ v0 = g + 1 ∧ v1 = nextM m l)) := by
  by_cases hp : possB g m = true
  · by_cases hx : g = 4294967295
    · refine ⟨5, 0, 0, ?_, ?_, .inr (.inl ⟨rfl, rfl, rfl⟩)⟩
      · unfold nextE; rw [if_neg (by rw [hp]; decide), if_pos hx]
      · unfold nextV; rw [if_pos (.inl hx)]; rfl
    · refine ⟨0, g + 1, nextM m l, ?_, ?_, .inr (.inr ⟨hp, hx, rfl, rfl, rfl⟩)⟩
      · unfold nextE; rw [if_neg (by rw [hp]; decide), if_neg hx]
      · unfold nextV; rw [if_neg (by rw [hp]; simp; exact hx)]; rfl
  · have hp2 : possB g m = false := by simpa using hp
    refine ⟨291, 0, 0, ?_, ?_, .inl ⟨rfl, rfl, rfl⟩⟩
    · unfold nextE; rw [if_pos hp2]
    · unfold nextV; rw [if_pos (.inr hp2)]; rfl
theorem grow_yes (g m : Nat) (l : List UInt8) (hp : possB g m = true) (hx : g ≠ 4294967295) : nextE g m = 0 ∧ nextV g m l = .agg #[.int .u32 ((g + 1 : Nat) : Int), .int .u32 (nextM m l : Int)] := by
  refine ⟨?_, ?_⟩
  · unfold nextE; rw [if_neg (by rw [hp]; decide), if_neg hx]
  · unfold nextV; rw [if_neg (by rw [hp]; simp; exact hx)]; rfl

set_option maxRecDepth 100000 in
set_option maxHeartbeats 2000000 in
theorem docGrows_walk (w : World) (g m : Nat) (hg : g < 4294967296) (hm : m < 4294967296) (A : Option Addr) (n c : Nat) (l : List UInt8) (h : Bytes w w.heap.size A n l) (hA : A = none → c = 0) (hn : n ≤ c) (hc : c ≤ maxLen)
    (at_ : Int) (_wat : (Lit.int .i64 at_).wf = true) (b0 b1 b2 b3 : UInt8) (htab : Tab w) :
    Calls Tryd.prog 8 #[revV g m, .slice A n c, .int .i64 at_, .agg #[bv b0, bv b1, bv b2, bv b3]] w fun e w' => e = .returned (.bool true) ∧ Below w.heap.size w w' := by
  have hv : revV g m = .agg #[.int .u32 (g : Int), .int .u32 (m : Int)] := rfl
  obtain ⟨E, v0, v1, he, hv', hcase⟩ := grow_cases g m (l.take 300)
  have He := Lib.hid he
  have Hv := Lib.hid hv'
  clear he hv'
  have hb0 := ((Below.refl w.heap.size w).alloc (Nat.le_refl _) (.cells #[.int .u32 (g : Int), .int .u32 (m : Int)] 28)).alloc (by simp) (.cells #[bv b0, bv b1, bv b2, bv b3] 57)
  have ho := bytes_new (w.alloc (.cells #[.int .u32 (g : Int), .int .u32 (m : Int)] 28)) [b0, b1, b2, b3] #[bv b0, bv b1, bv b2, bv b3] 57 (0, 0) rfl
  have o0 := cell_keep (World.cell?_alloc_new w #[.int .u32 (g : Int), .int .u32 (m : Int)] 28 0) (.cells #[bv b0, bv b1, bv b2, bv b3] 57)
  have o1 := cell_keep (World.cell?_alloc_new w #[.int .u32 (g : Int), .int .u32 (m : Int)] 28 1) (.cells #[bv b0, bv b1, bv b2, bv b3] 57)
  rw [show (w.alloc (.cells #[.int .u32 (g : Int), .int .u32 (m : Int)] 28)).heap.size = w.heap.size + 1 by simp] at ho
  go_enter Tryd.func8, Tryd.ntmps8
  rw [hv]
  go_wp2_with fail
  refine (wakes_any _ ((htab.alloc _).alloc _)).mono ?_
  rintro e w1 ⟨rfl, hb1⟩
  have o0 := kept_later hb1 o0
  have o1 := kept_later hb1 o1
  have ho1 := ho.below (hb1.mono (by simp))
  have hb01 := hb0.trans (hb1.mono hb0.size)
  have s1 := hb01.size
  have s1' : w.heap.size + 2 ≤ w1.heap.size := by have := hb1.size; simpa using this
  clear hb1 ho hb0
  go_wp2_with fail
  refine (few_any A n c w.heap.size l _ (h.below hb01) hA s1 hn hc).mono ?_
  rintro e w2 ⟨A2, n2, c2, rfl, hown, hb2⟩
  have o0 := kept_later hb2 o0
  have o1 := kept_later hb2 o1
  have ho2 := ho1.below (hb2.mono (by omega))
  have hb02 := hb01.trans (hb2.mono s1)
  have s2 := hb02.size
  have s2' : w.heap.size + 2 ≤ w2.heap.size := by have := hb2.size; omega
  obtain ⟨hlen2, hc2, hc3⟩ := gives_len hown
  have hn3 : n2 ≤ 300 := by rw [hlen2, List.length_take]; omega
  have hl2 : Bytes w2 w2.heap.size A2 n2 (l.take 300) := Bytes.own hown
  obtain ⟨q, Hq⟩ : ∃ q, Hid (q = l.take 300) := ⟨_, Lib.hid rfl⟩
  rw [← Hq.out] at hl2 hcase Hv
  have t2 := htab.below hb02 htab.lt
  clear hb2 hown hb01 hlen2 ho1
  go_wp2_with fail
  refine (next_any g m A2 n2 c2 w2.heap.size q _ t2 hg hm hl2 (Nat.le_refl _) (by omega)).mono ?_
  rintro e w3 ⟨rfl, hb3⟩
  rw [Hv.out, He.out]
  have hl3 := hl2.below hb3
  have o0 := kept_later hb3 o0
  have o1 := kept_later hb3 o1
  have z3 : w.heap.size < w3.heap.size := World.block_lt_of_cell? w3 _ o0
  have o0 : (w3.alloc (.cells #[.int .u32 (v0 : Int), .int .u32 (v1 : Int)] 28)).cell? ⟨w.heap.size, 0, none⟩ = some (.int .u32 (g : Int)) := cell_keep o0 (.cells #[.int .u32 (v0 : Int), .int .u32 (v1 : Int)] 28)
  have o1 : (w3.alloc (.cells #[.int .u32 (v0 : Int), .int .u32 (v1 : Int)] 28)).cell? ⟨w.heap.size, 1, none⟩ = some (.int .u32 (m : Int)) := cell_keep o1 (.cells #[.int .u32 (v0 : Int), .int .u32 (v1 : Int)] 28)
  have r0 : (w3.alloc (.cells #[.int .u32 (v0 : Int), .int .u32 (v1 : Int)] 28)).cell? ⟨w3.heap.size, 0, none⟩ = some (.int .u32 (v0 : Int)) := World.cell?_alloc_new w3 _ _ 0
  have r1 : (w3.alloc (.cells #[.int .u32 (v0 : Int), .int .u32 (v1 : Int)] 28)).cell? ⟨w3.heap.size, 1, none⟩ = some (.int .u32 (v1 : Int)) := World.cell?_alloc_new w3 _ _ 1
  have ho3 := (ho2.below (hb3.mono s2')).alloc (by have := hb3.size; omega) (.cells #[.int .u32 (v0 : Int), .int .u32 (v1 : Int)] 28)
  have hb03 := hb02.trans (hb3.mono s2)
  have s3 := hb03.size
  have hb04 := hb03.alloc s3 (.cells #[.int .u32 (v0 : Int), .int .u32 (v1 : Int)] 28)
  have hl4 := hl3.alloc hb3.size (.cells #[.int .u32 (v0 : Int), .int .u32 (v1 : Int)] 28)
  have s4 := hb04.size
  have s4' : w2.heap.size < (w3.alloc (.cells #[.int .u32 (v0 : Int), .int .u32 (v1 : Int)] 28)).heap.size := by have := hb3.size; simp; omega
  have s4'' : w3.heap.size + 1 = (w3.alloc (.cells #[.int .u32 (v0 : Int), .int .u32 (v1 : Int)] 28)).heap.size := by simp
  clear hl2 hb02 hb3 hl3 hb03 ho2
  go_upto_region 5 with fail
  have S4 := Lib.hid s4''
  clear s4''
  generalize w3.alloc (.cells #[.int .u32 (v0 : Int), .int .u32 (v1 : Int)] 28) = w4 at *
  rcases hcase with ⟨rfl, rfl, rfl⟩ | ⟨rfl, rfl, rfl⟩ | ⟨hp, hx, rfl, rfl, rfl⟩
  · rw [show ((0 : Nat) : Int) = 0 from rfl] at *
    go_wp2
    go_ret
    exact ⟨rfl, hb04⟩
  · rw [show ((0 : Nat) : Int) = 0 from rfl] at *
    go_wp2
    go_ret
    exact ⟨rfl, hb04⟩
  · rw [show ((g + 1 : Nat) : Int) = (g : Int) + 1 by omega] at *
    have hne : ((g : Int) + 1 == (g : Int)) = false := beq_eq_false_iff_ne.2 (by omega)
    have hgl : g < 4294967295 := by omega
    have Hp := Lib.hid hp
    have Hx := Lib.hid hx
    clear hp hx
    by_cases h4 : n2 < 4
    · go_wp2
      go_ret
      exact ⟨rfl, hb04⟩
    · go_wp2_with fail
      have hA2 : A2 = none → c2 = 0 := by
        intro e
        subst e
        obtain ⟨_, _, e1, _⟩ := hl4.cell (k := 0) (by omega)
        cases e1
      refine (clone_any A2 n2 c2 q w2.heap.size _ hl4 hA2 (by omega) (by omega)).mono ?_
      rintro e w5 ⟨A3, n3, c3, rfl, hown3, hb5⟩
      have s5 := hb5.size
      obtain ⟨hlen3, hn3', hc3'⟩ := gives_len hown3
      have hn23 : n3 = n2 := by rw [hlen3, hl4.len]
      subst hn23
      clear hlen3
      have ho5 := ho3.below (hb5.mono (by omega))
      have o0 := kept_later hb5 o0
      have o1 := kept_later hb5 o1
      have r0 := kept_later hb5 r0
      have r1 := kept_later hb5 r1
      have hl5 := hl4.below (hb5.mono (by omega))
      have hb05 := hb04.trans (hb5.mono s4)
      have s5' := hb05.size
      clear hb5 hb04 ho3 hl4
      go_wp2_with fail
      obtain ⟨d, rfl⟩ : ∃ d, n3 = d + 3 := ⟨n3 - 3, by omega⟩
      have hd0 : 0 < d := by omega
      obtain ⟨u, hu⟩ : ∃ u : Nat, IntKind.u64.wrap at_ = (u : Int) := by
        have h0 : 0 ≤ IntKind.u64.wrap at_ := by simp [IntKind.wrap, IntKind.bits, IntKind.signed]; omega
        exact Int.eq_ofNat_of_zero_le h0
      have hd1 : ((d : Int) == 0) = false := by simp; omega
      have hd2 : ¬ ((d : Int) = 0) := by omega
      have hd3 : ¬ (d = 0) := by omega
      obtain ⟨p, Hpp⟩ : ∃ p : Nat, Hid (p = u % d) := ⟨_, Lib.hid rfl⟩
      have hp : (u : Int) % (d : Int) = (p : Int) := by
        rw [Hpp.out]
        exact (Int.natCast_emod u d).symm
      have hpd : p < d := by
        have := Nat.mod_lt u hd0
        rw [← Hpp.out] at this
        omega
      have j1 : (0 : Int) ≤ (p : Int) := by omega
      have j2 : (p : Int) ≤ (d : Int) + 3 := by omega
      have j3 : (p : Int) ≤ (c3 : Int) := by omega
      have hw0 : IntKind.i64.wrap (p : Int) = (p : Int) := by rw [IntKind.wrap_i64]; omega
      have hw1 : IntKind.i64.wrap (d : Int) = (d : Int) := by rw [IntKind.wrap_i64]; omega
      have hw2 : IntKind.u64.wrap (d : Int) = (d : Int) := by simp [IntKind.wrap, IntKind.bits, IntKind.signed]; omega
      have htm : (u : Int).tmod (d : Int) = (p : Int) := by rw [Int.tmod_eq_emod_of_nonneg (by omega)]; exact hp
      have Ho5 := Lib.hid ho5
      have Hb3' := Lib.hid hown3
      clear ho5
      have hsz5 : (Tryd.prog.info? 5).map (·.size) = some 1 := by kernel_rfl
      have hone4 : ∀ v ∈ [bv b0, bv b1, bv b2, bv b3], v.oneCell' = true := bv_one [b0, b1, b2, b3]
      have hfit : p + (d + 3 - p) ≤ d + 3 := by omega
      have hcp : ¬ c3 = p := by omega
      clear hp hd1
      rcases own_some hown3 (by omega) with ⟨gb, rfl⟩
      clear hown3
      go_region_held3 (fun w' => True) (trivial) (first
        | (refine step_copy_shows (by rfl) (.tmp 62) (.tmp 63) 29 29 (by rfl) 5 Tryd.underlying29 hsz5 w4.heap.size 5 gb (d + 3) c3 (q.map bv) (own_below Hb3'.out (Below.refl _ _).drew) p (some ⟨gb, p, none⟩) (d + 3 - p) (c3 - p) (by rfl) (fun _ => rfl) hfit (w.heap.size + 1 + 1) (some ⟨w.heap.size + 1, 0, none⟩) 4 4 [bv b0, bv b1, bv b2, bv b3] (by rfl) (Ho5.out.drew) hone4 ?_; intro w6 hown6 _ hb6))
      have hb56 : Below w4.heap.size w5 w6 := below_undrew hb6
      have s6 : w5.heap.size ≤ w6.heap.size := hb56.size
      obtain ⟨cc, Hcc⟩ : ∃ cc, Hid (cc = q.take p ++ ([b0, b1, b2, b3] ++ q.drop (p + 4))) := ⟨_, Lib.hid rfl⟩
      have hml := hl5.len
      have hcc : splice (q.map bv) p (List.take (d + 3 - p) [bv b0, bv b1, bv b2, bv b3]) = cc.map bv := by
        rw [List.take_of_length_le (by simp; omega), Hcc.out]
        unfold splice
        simp [List.map_take, List.map_drop]
      rw [hcc] at hown6
      have hl6 : Bytes w6 w6.heap.size (some ⟨gb, 0, none⟩) (d + 3) cc := Bytes.own hown6
      have hmm : q = q.take p ++ ((q.drop p).take 4 ++ q.drop (p + 4)) := by
        conv => lhs; rw [← List.take_append_drop p q, ← List.take_append_drop 4 (q.drop p), List.drop_drop]
      have hv4 : ((q.drop p).take 4).length = 4 := by rw [List.length_take, List.length_drop, hml]; omega
      have Hfin := Lib.hid (next_apart m q (q.take p) ((q.drop p).take 4) [b0, b1, b2, b3] (q.drop (p + 4)) cc hmm Hcc.out hv4 rfl)
      have Hg := Lib.hid (grow_yes g m cc Hp.out Hx.out)
      have o0 : w6.cell? ⟨w.heap.size, 0, none⟩ = some (.int .u32 (g : Int)) := (hb56.cell (p := ⟨w.heap.size, 0, none⟩) (by show w.heap.size < _; omega)).trans o0
      have o1 : w6.cell? ⟨w.heap.size, 1, none⟩ = some (.int .u32 (m : Int)) := (hb56.cell (p := ⟨w.heap.size, 1, none⟩) (by show w.heap.size < _; omega)).trans o1
      have S34 : w3.heap.size < w4.heap.size := by have := S4.out; omega
      have r0 : w6.cell? ⟨w3.heap.size, 0, none⟩ = some (.int .u32 ((g : Int) + 1)) := (hb56.cell (p := ⟨w3.heap.size, 0, none⟩) (by show w3.heap.size < _; omega)).trans r0
      have r1 : w6.cell? ⟨w3.heap.size, 1, none⟩ = some (.int .u32 (nextM m q : Int)) := (hb56.cell (p := ⟨w3.heap.size, 1, none⟩) (by show w3.heap.size < _; omega)).trans r1
      have hq6 : Bytes w6 w2.heap.size A2 (d + 3) q := hl5.below (hb56.mono (by omega))
      have hb06 := hb05.trans (hb56.mono s4)
      have s06 := hb06.size
      have t6 := htab.below hb06 htab.lt
      clear hmm hv4 hml hcc hown6 hl5 hb05
      go_wp2_with fail
      refine (next_any g m (some ⟨gb, 0, none⟩) (d + 3) c3 w6.heap.size cc _ t6 hg hm hl6 (Nat.le_refl _) (by omega)).mono ?_
      rintro e w7 ⟨rfl, hb7⟩
      rw [Hg.out.1, Hg.out.2]
      have o0 := kept_later hb7 o0
      have o1 := kept_later hb7 o1
      have r0 := kept_later hb7 r0
      have r1 := kept_later hb7 r1
      have z7 : w3.heap.size < w7.heap.size := World.block_lt_of_cell? w7 _ r0
      have r0 := cell_keep r0 (.cells #[.int .u32 ((g + 1 : Nat) : Int), .int .u32 (nextM m cc : Int)] 28)
      have r1 := cell_keep r1 (.cells #[.int .u32 ((g + 1 : Nat) : Int), .int .u32 (nextM m cc : Int)] 28)
      have hq7 := (hq6.below (hb7.mono (by omega))).alloc (by have := hb7.size; omega) (.cells #[.int .u32 ((g + 1 : Nat) : Int), .int .u32 (nextM m cc : Int)] 28)
      have hl7 := (hl6.below hb7).alloc hb7.size (.cells #[.int .u32 ((g + 1 : Nat) : Int), .int .u32 (nextM m cc : Int)] 28)
      have hb07 := hb06.trans (hb7.mono s06)
      have s07 := hb07.size
      have hb08 := hb07.alloc s07 (.cells #[.int .u32 ((g + 1 : Nat) : Int), .int .u32 (nextM m cc : Int)] 28)
      have k0 : (w7.alloc (.cells #[.int .u32 ((g + 1 : Nat) : Int), .int .u32 (nextM m cc : Int)] 28)).cell? ⟨w7.heap.size, 0, none⟩ = some (.int .u32 ((g + 1 : Nat) : Int)) := World.cell?_alloc_new w7 _ _ 0
      have k1 : (w7.alloc (.cells #[.int .u32 ((g + 1 : Nat) : Int), .int .u32 (nextM m cc : Int)] 28)).cell? ⟨w7.heap.size, 1, none⟩ = some (.int .u32 (nextM m cc : Int)) := World.cell?_alloc_new w7 _ _ 1
      rw [show ((g + 1 : Nat) : Int) = (g : Int) + 1 by omega] at *
      have s67 := hb7.size
      clear hq6 hl6 hb7 hb06 hb07 t6 t2
      have sz8a : w6.heap.size ≤ (w7.alloc (.cells #[.int .u32 ((g : Int) + 1), .int .u32 (nextM m cc : Int)] 28)).heap.size := by simp; omega
      go_upto_region 14 with fail
      generalize w7.alloc (.cells #[.int .u32 ((g : Int) + 1), .int .u32 (nextM m cc : Int)] 28) = w8 at *
      have sz8 : w6.heap.size ≤ w8.heap.size := sz8a
      obtain ⟨z, hz⟩ : ∃ z, decide (nextM m q = nextM m cc) = z := ⟨_, rfl⟩
      have hii : ((nextM m q : Int) == (nextM m cc : Int)) = z := (beq_cast _ _).trans hz
      have heq : ∀ (W : World), Below w8.heap.size w8 W → Calls Tryd.prog 18 #[.slice A2 (d + 3 : Nat) c2, .slice (some ⟨gb, 0, none⟩) (d + 3 : Nat) c3] W fun e w' => e = .returned (.bool z) ∧ Below W.heap.size W w' := fun W hW =>
        (equal_any A2 (some ⟨gb, 0, none⟩) (d + 3) c2 (d + 3) c3 q cc w2.heap.size w6.heap.size W (hq7.below (hW.mono (by omega))) (hl7.below (hW.mono sz8)) (by omega) (by omega)).mono fun e w' h => by
          obtain ⟨he, k, rfl⟩ := h
          exact ⟨he.trans (by rw [← Hfin.out, hz]), below_drewN (Below.refl _ _) k⟩
      have Heq := Lib.hid heq
      clear heq hz
      cases z
      all_goals
        go_region_held3 (fun w' => Below w8.heap.size w8 w' ∧ w'.cell? ⟨w3.heap.size, 0, none⟩ = some (.int .u32 ((g : Int) + 1)) ∧ w'.cell? ⟨w3.heap.size, 1, none⟩ = some (.int .u32 (nextM m q : Int)) ∧ w'.cell? ⟨w7.heap.size, 0, none⟩ = some (.int .u32 ((g : Int) + 1)) ∧ w'.cell? ⟨w7.heap.size, 1, none⟩ = some (.int .u32 (nextM m cc : Int))) (first | exact ⟨(Below.refl _ _).drew, r0, r1, k0, k1⟩ | exact keep4 (by assumption) (by assumption)) ((go_at_call 18; with_reducible refine (Heq.out _ (And.left (by assumption))).mono ?_; rintro e wC ⟨rfl, hbC⟩))
        all_goals
          go_wp2
          go_ret
          exact ⟨rfl, hb08.trans (Below.mono (And.left (by assumption)) (by omega))⟩
end Go.Proofs.YtedoajiapicpnaaDoor
