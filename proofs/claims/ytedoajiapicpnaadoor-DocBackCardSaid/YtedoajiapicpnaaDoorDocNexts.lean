/-
  Layer 19: the walk of DocNexts.
-/
import Derived.Test.YtedoajiapicpnaaDoorDocIds
import Derived.Test.YtedoajiapicpnaaDoorDocK
import Derived.Test.YtedoajiapicpnaaDoorEq
import Derived.Test.YtedoajiapicpnaaDoorFr
namespace Go.Proofs.YtedoajiapicpnaaDoor
open Go.RowKit
attribute [local go_sem ↓] Go.wp_at_zero Go.wp_at_succ

theorem keep4 {W0 w1 w2 : World} {p q r s : Addr} {a b c d : Value} (hb : Below w1.heap.size w1 w2) (h : Below W0.heap.size W0 w1 ∧ w1.cell? p = some a ∧ w1.cell? q = some b ∧ w1.cell? r = some c ∧ w1.cell? s = some d) :
    Below W0.heap.size W0 w2 ∧ w2.cell? p = some a ∧ w2.cell? q = some b ∧ w2.cell? r = some c ∧ w2.cell? s = some d :=
  ⟨h.1.trans (hb.mono h.1.size), kept_later hb h.2.1, kept_later hb h.2.2.1, kept_later hb h.2.2.2.1, kept_later hb h.2.2.2.2⟩

set_option maxHeartbeats 1000000 in
theorem docNexts_walk (w : World) (g m : Nat) (hg : g < 4294967296) (hm : m < 4294967296) (A : Option Addr) (n c : Nat) (l : List UInt8) (h : Bytes w w.heap.size A n l) (hA : A = none → c = 0) (hn : n ≤ c) (hc : c ≤ maxLen) (htab : Tab w) :
    Calls Tryd.prog 4 #[revV g m, .slice A n c] w fun e w' => e = .returned (.bool true) ∧ Below w.heap.size w w' := by
  have hv : revV g m = .agg #[.int .u32 (g : Int), .int .u32 (m : Int)] := rfl
  obtain ⟨P, E, v0, v1, Hp, He, Hv, hcase⟩ : ∃ (P : Bool) (E : Int) (v0 v1 : Nat), Hid (possB g m = P) ∧ Hid (nextE g m = E) ∧ Hid (nextV g m (l.take 300) = .agg #[.int .u32 (v0 : Int), .int .u32 (v1 : Int)]) ∧
      ((P = false ∧ E = 291 ∧ v0 = 0 ∧ v1 = 0) ∨ (P = true ∧ g = 4294967295 ∧ E = 5 ∧ v0 = 0 ∧ v1 = 0) ∨ (P = true ∧ g < 4294967295 ∧ E = 0 ∧ v0 = g + 1 ∧ v1 = nextM m (l.take 300))) := by
    by_cases hp : possB g m = true
    · by_cases hx : g = 4294967295
      · refine ⟨true, 5, 0, 0, Lib.hid hp, Lib.hid ?_, Lib.hid ?_, .inr (.inl ⟨rfl, hx, rfl, rfl, rfl⟩)⟩
        · unfold nextE; rw [if_neg (by rw [hp]; decide), if_pos hx]
        · unfold nextV; rw [if_pos (.inl hx)]; rfl
      · refine ⟨true, 0, g + 1, nextM m (l.take 300), Lib.hid hp, Lib.hid ?_, Lib.hid ?_, .inr (.inr ⟨rfl, by omega, rfl, rfl, rfl⟩)⟩
        · unfold nextE; rw [if_neg (by rw [hp]; decide), if_neg hx]
        · unfold nextV; rw [if_neg (by rw [hp]; simp; exact hx)]; rfl
    · have hp2 : possB g m = false := by simpa using hp
      refine ⟨false, 291, 0, 0, Lib.hid hp2, Lib.hid ?_, Lib.hid ?_, .inl ⟨rfl, rfl, rfl, rfl⟩⟩
      · unfold nextE; rw [if_pos hp2]
      · unfold nextV; rw [if_pos (.inr hp2)]; rfl
  go_enter Tryd.func4, Tryd.ntmps4
  rw [hv]
  go_wp2_with fail
  refine (wakes_any _ (htab.alloc _)).mono ?_
  rintro e w1 ⟨rfl, hb1⟩
  have o0 := new_later hb1 0 rfl
  have o1 := new_later hb1 1 rfl
  have hb01 := ((Below.refl w.heap.size w).alloc (Nat.le_refl _) (.cells #[.int .u32 (g : Int), .int .u32 (m : Int)] 28)).trans (hb1.mono (by simp))
  have s1 := hb01.size
  clear hb1
  go_wp2_with fail
  refine (few_any A n c w.heap.size l _ (h.below hb01) hA s1 hn hc).mono ?_
  rintro e w2 ⟨A2, n2, c2, rfl, hown, hb2⟩
  have o0 := kept_later hb2 o0
  have o1 := kept_later hb2 o1
  have hb02 := hb01.trans (hb2.mono s1)
  have s2 := hb02.size
  have hl2 : Bytes w2 w2.heap.size A2 n2 (l.take 300) := Bytes.own hown
  have hn2 : n2 ≤ maxLen := by
    obtain ⟨A', c', e, h1, h2⟩ := own_form hown
    omega
  have hn3 : n2 ≤ 300 := by rw [← hl2.len, List.length_take]; omega
  clear hb2 hown hb01
  go_wp2_with fail
  refine (next_any g m A2 n2 c2 w2.heap.size (l.take 300) _ (htab.below hb02 htab.lt) hg hm hl2 (Nat.le_refl _) hn2).mono ?_
  rintro e w3 ⟨rfl, hb3⟩
  rw [Hv.out, He.out]
  have hl3 := hl2.below hb3
  have o0 := kept_later hb3 o0
  have o1 := kept_later hb3 o1
  have z3 : w.heap.size < w3.heap.size := World.block_lt_of_cell? w3 _ o0
  have o0 := cell_keep o0 (.cells #[.int .u32 (v0 : Int), .int .u32 (v1 : Int)] 28)
  have o1 := cell_keep o1 (.cells #[.int .u32 (v0 : Int), .int .u32 (v1 : Int)] 28)
  have hb03 := hb02.trans (hb3.mono s2)
  have s3 := hb03.size
  clear hl2 hb02
  go_wp2_with fail
  refine (is_any g m _).mono ?_
  rintro e w4 ⟨rfl, hb4⟩
  rw [Hp.out]
  have r0 := new_later hb4 0 rfl
  have r1 := new_later hb4 1 rfl
  have p0 : w4.cell? ⟨w.heap.size, 0, none⟩ = some (.int .u32 (g : Int)) := kept_later hb4 o0
  have p1 : w4.cell? ⟨w.heap.size, 1, none⟩ = some (.int .u32 (m : Int)) := kept_later hb4 o1
  clear o0 o1
  have hb04 := below_new hb03 s3 hb4
  have h34 := ((Below.refl w3.heap.size w3).alloc (Nat.le_refl _) (.cells #[.int .u32 (v0 : Int), .int .u32 (v1 : Int)] 28)).trans (hb4.mono (by simp))
  have hl4 := (hl3.below (h34.mono hb3.size)).more (by have := hb3.size; have := h34.size; omega : w2.heap.size ≤ w4.heap.size)
  have s4 := hb04.size
  have z4 := h34.size
  clear hb4 hb03 hl3 h34 hb3
  rcases hcase with ⟨rfl, rfl, rfl, rfl⟩ | ⟨rfl, hgx, rfl, rfl, rfl⟩ | ⟨rfl, hgx, rfl, rfl, rfl⟩
  · rw [show ((0 : Nat) : Int) = 0 from rfl] at *
    go_wp2
    go_ret
    exact ⟨rfl, hb04⟩
  · have hge : ((g : Int) == 4294967295) = true := by rw [hgx]; rfl
    rw [show ((0 : Nat) : Int) = 0 from rfl] at *
    clear hgx
    go_wp2
    go_ret
    exact ⟨rfl, hb04⟩
  · have hge : ((g : Int) == 4294967295) = false := beq_eq_false_iff_ne.2 (by omega)
    have q0 : w4.cell? ⟨w3.heap.size, 0, none⟩ = some (.int .u32 ((g : Int) + 1)) := r0.trans (by rw [show ((g : Int) + 1) = ((g + 1 : Nat) : Int) by omega]; rfl)
    have q1 : w4.cell? ⟨w3.heap.size, 1, none⟩ = some (.int .u32 (nextM m (l.take 300) : Int)) := r1
    clear r0 r1
    go_wp2_with fail
    have hnx : ∀ (W : World), Below w4.heap.size w4 W → Calls Tryd.prog 17 #[.agg #[.int .u32 (g : Int), .int .u32 (m : Int)], .slice A2 n2 c2] W fun e w' => e = .returned (.agg #[.int .u32 ((g : Int) + 1), .int .u32 (nextM m (l.take 300) : Int)]) ∧ Below W.heap.size W w' := fun W hW =>
      (refNext_any g m A2 n2 c2 w4.heap.size (l.take 300) W hgx hm (hl4.below hW) hW.size (by omega)).mono fun e w' h => ⟨h.1.trans (by unfold revV; rw [show ((g + 1 : Nat) : Int) = (g : Int) + 1 by omega]), h.2⟩
    have hfw : ∀ (W : World), Below w4.heap.size w4 W → Calls Tryd.prog 14 #[.slice A n c] W fun e w' => ∃ A5 n5 c5, e = .returned (.slice A5 n5 c5) ∧ w'.ownsRow w4.heap.size 5 1 (.slice A5 n5 c5) n5 ((l.take 300).map bv) ∧ Below W.heap.size W w' := fun W hW =>
      (few_any A n c w.heap.size l W (h.below (hb04.trans (hW.mono s4))) hA (by have := hW.size; omega) hn hc).mono fun e w' h => by
        obtain ⟨A5, n5, c5, he, ho, hb⟩ := h
        exact ⟨A5, n5, c5, he, own_base ho hW.size, hb⟩
    have heq : ∀ (W : World) (A5 : Option Addr) (n5 c5 : Nat), Below w4.heap.size w4 W → W.ownsRow w4.heap.size 5 1 (.slice A5 n5 c5) n5 ((l.take 300).map bv) → Calls Tryd.prog 18 #[.slice A2 n2 c2, .slice A5 n5 c5] W fun e w' => e = .returned (.bool true) ∧ Below W.heap.size W w' := fun W A5 n5 c5 hW hown5 =>
      (equal_any A2 A5 n2 c2 n5 c5 (l.take 300) (l.take 300) w4.heap.size W.heap.size W (hl4.below hW) (Bytes.own hown5) hn2 (by obtain ⟨A', c', e, h1, h2⟩ := own_form hown5; omega)).mono fun e w' h => by
        obtain ⟨he, k, rfl⟩ := h
        exact ⟨he.trans (by rw [show sameB (l.take 300) (l.take 300) = true from decide_eq_true rfl]), below_drewN (Below.refl _ _) k⟩
    have Hnx := Lib.hid hnx
    have Hfw := Lib.hid hfw
    have Heq := Lib.hid heq
    clear hnx hfw heq
    go_region_held3 (fun w' => Below w4.heap.size w4 w' ∧ w'.cell? ⟨w.heap.size, 0, none⟩ = some (.int .u32 (g : Int)) ∧ w'.cell? ⟨w.heap.size, 1, none⟩ = some (.int .u32 (m : Int)) ∧ w'.cell? ⟨w3.heap.size, 0, none⟩ = some (.int .u32 ((g : Int) + 1)) ∧ w'.cell? ⟨w3.heap.size, 1, none⟩ = some (.int .u32 (nextM m (l.take 300) : Int))) (first | exact ⟨(Below.refl _ _).drew, p0, p1, q0, q1⟩ | exact keep4 (by assumption) (by assumption)) (first
      | (go_at_call 17; with_reducible refine (Hnx.out _ (And.left (by assumption))).mono ?_; rintro e wA ⟨rfl, hbA⟩)
      | (go_at_call 14; with_reducible refine (Hfw.out _ (And.left (by assumption))).mono ?_; rintro e wB ⟨A5, n5, c5, rfl, hown5, hbB⟩)
      | (go_at_call 18; with_reducible refine (Heq.out _ _ _ _ (And.left (by assumption)) hown5).mono ?_; rintro e wC ⟨rfl, hbC⟩))
    go_wp2
    go_ret
    exact ⟨rfl, hb04.trans (Below.mono (And.left (by assumption)) s4)⟩
end Go.Proofs.YtedoajiapicpnaaDoor
