/-
  Package doc: the text of a revision.
-/
import Derived.Test.YtedoajiapicpnaaDoorDocH
import Derived.Test.YtedoajiapicpnaaDoorStr
namespace Go.Proofs.YtedoajiapicpnaaDoor
open Go.RowKit
attribute [local go_sem ↓] Go.wp_at_zero Go.wp_at_succ

def revV (g m : Nat) : Value := .agg #[.int .u32 (g : Int), .int .u32 (m : Int)]
def textL (g m : Nat) : List UInt8 := decF 9 g ++ [45] ++ hexTo m 8
def possB (g m : Nat) : Bool := decide (0 < g) || decide (m = 0)

set_option maxHeartbeats 1000000 in
theorem possible_any (g m : Nat) (w : World) :
    Calls Tryd.prog 32 #[revV g m] w fun e w' => e = .returned (.bool (possB g m)) ∧ Below w.heap.size w w' := by
  by_cases hg : 0 < g
  · have Hr := Lib.hid (show possB g m = true by unfold possB; rw [decide_eq_true hg]; rfl)
    unfold revV
    go_enter Tryd.func32, Tryd.ntmps32
    go_wp2
    go_ret
    exact ⟨by rw [Hr.out]; rfl, (Below.refl _ _).alloc (Nat.le_refl _) _⟩
  · have hg0 : g = 0 := by omega
    subst hg0
    clear hg
    unfold revV
    by_cases hm : m = 0
    · subst hm
      go_enter Tryd.func32, Tryd.ntmps32
      go_wp2
      go_ret
      exact ⟨rfl, (Below.refl _ _).alloc (Nat.le_refl _) _⟩
    · have hmz : ((m : Int) == 0) = false := beq_eq_false_iff_ne.2 (by omega)
      have Hr := Lib.hid (show possB 0 m = false by unfold possB; rw [decide_eq_false hm]; rfl)
      clear hm
      go_enter Tryd.func32, Tryd.ntmps32
      go_wp2
      go_ret
      exact ⟨by rw [Hr.out]; rfl, (Below.refl _ _).alloc (Nat.le_refl _) _⟩

theorem text_len (g m : Nat) : (textL g m).length ≤ 19 := by
  unfold textL
  rw [List.length_append, List.length_append, hexTo_length]
  have := decF_length 9 g
  simp
  omega

/-- A new writer. -/
theorem wr_new (w : World) (t : TypeId) : Wr (w.alloc (.cells #[.slice none 0 0] t)) w.heap.size [] :=
  ⟨none, 0, by rw [cell_of_row _ _ _ _ _ _ (heap_alloc_new w _)]; rfl, by simp, World.ownsRow_nil _ _ _ _⟩

set_option maxHeartbeats 1000000 in
theorem text_any (g m : Nat) (w : World) (hg : g < 4294967296) (hm : m < 4294967296) :
    Calls Tryd.prog 37 #[revV g m] w fun e w' => e = .returned (.string (ofL (textL g m))) ∧ Below w.heap.size w w' := by
  have kc := fun (W : World) (A : Option Addr) (n c B : Nat) (l : List UInt8) (h : Bytes W B A n l) => run_bytes_string (P := Tryd.prog) Tryd.underlying29 Tryd.underlying5 Tryd.underlying9 W A n c B l h
  have hw0 := wr_new (w.alloc (.cells #[.int .u32 (g : Int), .int .u32 (m : Int)] 28)) 95
  have hb0 := ((Below.refl w.heap.size w).alloc (Nat.le_refl _) (.cells #[.int .u32 (g : Int), .int .u32 (m : Int)] 28)).alloc (by simp) (.cells #[.slice none 0 0] 95)
  rw [show (w.alloc (.cells #[.int .u32 (g : Int), .int .u32 (m : Int)] 28)).heap.size = w.heap.size + 1 by simp] at hw0
  unfold revV
  go_enter Tryd.func37, Tryd.ntmps37
  go_wp2_with fail
  refine (decimal_any 9 g (w.heap.size + 1) [] _ (by omega) hg hw0 (by simp)).mono ?_
  rintro e w1 ⟨rfl, hw1, hb1⟩
  rw [List.nil_append] at hw1
  have hlen := decF_length 9 g
  obtain ⟨l1, hl1, hlen⟩ : ∃ l1, Hid (decF 9 g = l1) ∧ l1.length ≤ 10 := ⟨_, Lib.hid rfl, hlen⟩
  rw [hl1.out] at hw1
  obtain ⟨A, c, hc, hf, hown⟩ := hw1
  have s1 := hb1.size
  have hbs : w.heap.size + 1 < w1.heap.size := World.block_lt_of_cell? w1 _ hc
  have hnew := World.new_ne w1 _ hc
  obtain ⟨i0, hi, hz0, hz1, hz2⟩ := u8_info
  clear hw0
  go_wp2_with (at_builtin; refine wpList_append_shows _ rfl _ _ _ rfl (w.heap.size + 1 + 1) 5 i0 (.int .u8 0) 1 1 Tryd.underlying29 hi hz0 hz1 hz2 rfl (by decide) _ _ _ rfl (hown.alloc _) (w1.heap.size + 1) _ 1 1 [bv 45] rfl (by exact bytes_new w1 [45] _ _ _ rfl) (bv_one [45]) ?c3 ?c4 ?c5 ?_)
  case c3 => unfold maxLen; omega
  case c4 => omega
  case c5 => simp; omega
  intro A2 c2 w2 hown2 _ hb2
  have hc2 : w2.cell? ⟨w.heap.size + 1, 0, none⟩ = some (.slice A l1.length c) := (hb2.cell (p := ⟨w.heap.size + 1, 0, none⟩) (by show w.heap.size + 1 < w.heap.size + 1 + 1; omega)).trans (cell_keep hc _)
  have hf2 : w2.frozen? ⟨w.heap.size + 1, 0, none⟩ = false := (hb2.frozen (p := ⟨w.heap.size + 1, 0, none⟩) (by show w.heap.size + 1 < w.heap.size + 1 + 1; omega)).trans ((frozen_keep hc _).trans hf)
  have hdone := wr_done (w := w1) (o := .cells #[.int .u8 45] 5) rfl hbs ⟨hb2.os, hb2.tape, hb2.output, hb2.size, hb2.block⟩ hc2 hf2 hown2
  have hbb := hb0.trans ((hb1.trans hdone.2).mono (Nat.le_succ _))
  have hmem := cell_keep (World.cell?_alloc_new w #[.int .u32 (g : Int), .int .u32 (m : Int)] 28 1) (.cells #[.slice none 0 0] 95)
  have hmc := ((hb1.trans hdone.2).cell (p := ⟨w.heap.size, 1, none⟩) (by show w.heap.size < w.heap.size + 1; omega)).trans hmem
  go_wp2_with fail
  refine (hex_any m (w.heap.size + 1) (l1 ++ [45]) _ hm hdone.1 (by simp; omega)).mono ?_
  rintro e w3 ⟨rfl, hw3, hb3⟩
  have hbb2 := hbb.trans (hb3.mono (Nat.le_succ _))
  obtain ⟨A3, c3, hc3, hf3, hown3⟩ := hw3
  clear hc2 hf2 hown2 hdone hbb hb1 hb2 hmc hmem hb0 hown hc hf
  have hby := Bytes.own hown3
  have hcv := kc _ _ _ c3 _ _ hby
  have hr : ofL (l1 ++ [45] ++ hexTo m 8) = ofL (textL g m) := by unfold textL; rw [hl1.out]
  rw [hr] at hcv
  clear hr hby kc hown3
  generalize (l1 ++ [45] ++ hexTo m 8).length = n3 at hc3 hcv
  obtain ⟨str, Hstr⟩ : ∃ str, Hid (ofL (textL g m) = str) := ⟨_, Lib.hid rfl⟩
  rw [Hstr.out] at hcv
  clear hf3 hb3 hbs hnew s1 hl1
  go_wp2
  go_ret
  exact ⟨by rw [Hstr.out]; rfl, hbb2⟩

/-- What RevText answers. -/
def revL (g m : Nat) : List UInt8 := if g = 0 then [] else textL g m
def revE (g m : Nat) : Int := if g = 0 ∧ m ≠ 0 then 291 else 0

set_option maxHeartbeats 1000000 in
theorem revText_any (g m : Nat) (w : World) (hg : g < 4294967296) (hm : m < 4294967296) :
    Calls Tryd.prog 19 #[revV g m] w fun e w' => e = .returned (.tuple #[.string (ofL (revL g m)), .int .i64 (revE g m)]) ∧ Below w.heap.size w w' := by
  by_cases h0 : g = 0
  · subst h0
    by_cases hz : m = 0
    · subst hz
      unfold revV
      go_enter Tryd.func19, Tryd.ntmps19
      go_wp2
      refine bodyPost_ret (v := .tuple #[.string ⟨#[]⟩, .int .i64 0]) (by simp [results, Tryd.results19, go_sem]) rfl ⟨?_, ?_⟩
      · rfl
      · exact (Below.refl _ _).alloc (Nat.le_refl _) _
    · have hmz : ((m : Int) == 0) = false := beq_eq_false_iff_ne.2 (by omega)
      have Hr := Lib.hid (show revE 0 m = 291 by unfold revE; rw [if_pos ⟨rfl, hz⟩])
      have Hp := Lib.hid (show possB 0 m = false by unfold possB; rw [decide_eq_false hz]; rfl)
      clear hz
      go_enter Tryd.func19, Tryd.ntmps19
      have hv : revV 0 m = .agg #[.int .u32 0, .int .u32 (m : Int)] := rfl
      rw [hv]
      go_wp2_with fail
      refine (possible_any 0 m _).mono ?_
      rintro e w1 ⟨rfl, hb1⟩
      rw [Hp.out]
      have hb2 := ((Below.refl w.heap.size w).alloc (Nat.le_refl _) (.cells #[.int .u32 0, .int .u32 (m : Int)] 28)).trans (hb1.mono (by simp))
      go_wp2
      refine bodyPost_ret (v := .tuple #[.string ⟨#[]⟩, .int .i64 291]) (by simp [results, Tryd.results19, go_sem]) rfl ⟨?_, ?_⟩
      · rw [Hr.out]
        rfl
      · exact hb2
  · have hgz : ((g : Int) == 0) = false := beq_eq_false_iff_ne.2 (by omega)
    have Hr := Lib.hid (show revE g m = 0 by unfold revE; rw [if_neg (fun h => h0 h.1)])
    have Hl := Lib.hid (show revL g m = textL g m by unfold revL; rw [if_neg h0])
    have Hp := Lib.hid (show possB g m = true by unfold possB; rw [decide_eq_true (by omega)]; rfl)
    clear h0
    go_enter Tryd.func19, Tryd.ntmps19
    have hv : revV g m = .agg #[.int .u32 (g : Int), .int .u32 (m : Int)] := rfl
    rw [hv]
    go_wp2_with fail
    refine (possible_any g m _).mono ?_
    rintro e w1 ⟨rfl, hb1⟩
    rw [Hp.out]
    have c0 := hb1.cell (p := ⟨w.heap.size, 0, none⟩) (by simp)
    have c1 := hb1.cell (p := ⟨w.heap.size, 1, none⟩) (by simp)
    rw [World.cell?_alloc_new] at c0 c1
    have hb2 := ((Below.refl w.heap.size w).alloc (Nat.le_refl _) (.cells #[.int .u32 (g : Int), .int .u32 (m : Int)] 28)).trans (hb1.mono (by simp))
    have s1 := hb2.size
    go_wp2_with fail
    refine (text_any g m _ hg hm).mono ?_
    rintro e w2 ⟨rfl, hb3⟩
    go_wp2
    refine bodyPost_ret (v := .tuple #[.string (ofL (textL g m)), .int .i64 0]) (by simp [results, Tryd.results19, go_sem]) rfl ⟨?_, ?_⟩
    · rw [Hr.out, Hl.out]
    · exact hb2.trans (hb3.mono s1)
end Go.Proofs.YtedoajiapicpnaaDoor
