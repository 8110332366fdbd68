/-
  Package doc: Encode.
-/
import Derived.Test.YtedoajiapicpnaaDoorDocI
namespace Go.Proofs.YtedoajiapicpnaaDoor
open Go.RowKit
attribute [local go_sem ↓] Go.wp_at_zero Go.wp_at_succ

/-- The encoding. -/
def encL (g m s : Nat) (d : Bool) (a : Nat) : List UInt8 := numTo g 4 4 ++ numTo m 4 4 ++ numTo s 8 8 ++ numTo (if d then 1 else 0) 1 1 ++ numTo a 4 4
theorem encL_length (g m s : Nat) (d : Bool) (a : Nat) : (encL g m s d a).length = 21 := by
  unfold encL
  simp only [List.length_append, numTo_length]
/-- Five cells of a new variable, in a later world. -/
theorem five_new (w : World) (a b c d e : Value) (t : TypeId) (o : Obj) {w1 : World} (hb : Below ((w.alloc (.cells #[a, b, c, d, e] t))).heap.size ((w.alloc (.cells #[a, b, c, d, e] t)).alloc o) w1) :
    w1.cell? ⟨w.heap.size, 0, none⟩ = some a ∧ w1.cell? ⟨w.heap.size, 1, none⟩ = some b ∧ w1.cell? ⟨w.heap.size, 2, none⟩ = some c ∧ w1.cell? ⟨w.heap.size, 3, none⟩ = some d ∧ w1.cell? ⟨w.heap.size, 4, none⟩ = some e := by
  refine ⟨?_, ?_, ?_, ?_, ?_⟩
  · rw [hb.cell (p := ⟨w.heap.size, 0, none⟩) (by simp), World.cell?_alloc_lt _ _ _ (by simp)]; go_simp
  · rw [hb.cell (p := ⟨w.heap.size, 1, none⟩) (by simp), World.cell?_alloc_lt _ _ _ (by simp)]; go_simp
  · rw [hb.cell (p := ⟨w.heap.size, 2, none⟩) (by simp), World.cell?_alloc_lt _ _ _ (by simp)]; go_simp
  · rw [hb.cell (p := ⟨w.heap.size, 3, none⟩) (by simp), World.cell?_alloc_lt _ _ _ (by simp)]; go_simp
  · rw [hb.cell (p := ⟨w.heap.size, 4, none⟩) (by simp), World.cell?_alloc_lt _ _ _ (by simp)]; go_simp

set_option maxRecDepth 20000 in
set_option maxHeartbeats 1000000 in
theorem encode_any (g m s : Nat) (d : Bool) (a : Nat) (w : World) (hg : g < 4294967296) (hm : m < 4294967296) (ha : a < 524288) :
    Calls Tryd.prog 44 #[infoV g m s d (a : Int)] w (GivesBytes 5 (encL g m s d a) w) := by
  have hw0 := wr_new (w.alloc (.cells #[.int .u32 (g : Int), .int .u32 (m : Int), .int .u64 (s : Int), .bool d, .int .i64 (a : Int)] 46)) 95
  have hb0 := ((Below.refl w.heap.size w).alloc (Nat.le_refl _) (.cells #[.int .u32 (g : Int), .int .u32 (m : Int), .int .u64 (s : Int), .bool d, .int .i64 (a : Int)] 46)).alloc (by simp) (.cells #[.slice none 0 0] 95)
  have hq0 := Below.refl (w.heap.size + 1) ((w.alloc (.cells #[.int .u32 (g : Int), .int .u32 (m : Int), .int .u64 (s : Int), .bool d, .int .i64 (a : Int)] 46)).alloc (.cells #[.slice none 0 0] 95))
  rw [show (w.alloc (.cells #[.int .u32 (g : Int), .int .u32 (m : Int), .int .u64 (s : Int), .bool d, .int .i64 (a : Int)] 46)).heap.size = w.heap.size + 1 by simp] at hw0
  have hmf : ∀ (fn : Fn) (first cap : Array Value) (w : World), (Instr.makeFunc fn first cap).run Tryd.prog w = .ok (.func fn first cap) w := fun _ _ _ _ => rfl
  have hv : infoV g m s d (a : Int) = .agg #[.int .u32 (g : Int), .int .u32 (m : Int), .int .u64 (s : Int), .bool d, .int .i64 (a : Int)] := rfl
  rw [hv]
  clear hv
  obtain ⟨dn, hdn, Hdn⟩ : ∃ dn : Nat, dn ≤ 1 ∧ Hid (dn = if d then 1 else 0) := ⟨_, by split <;> omega, Lib.hid rfl⟩
  cases d
  · obtain rfl : dn = 0 := Hdn.out
    go_enter Tryd.func44, Tryd.ntmps44
    go_wp2_with fail
    refine (number_any g 4 (w.heap.size + 1) _ _ (by omega) (by omega) hw0 (by simp)).mono ?_
    rintro e w1 ⟨rfl, hw1, hb1⟩
    have hq1 := hq0.trans hb1
    obtain ⟨c0, c1, c2, c3, c4⟩ := five_new w _ _ _ _ _ _ _ (w1 := w1) (hq1.mono (by simp))
    rw [List.nil_append] at hw1
    clear hw0
    go_wp2_with fail
    refine (number_any m 4 (w.heap.size + 1) _ _ (by omega) (by omega) hw1 (by simp [numTo_length])).mono ?_
    rintro e w2 ⟨rfl, hw2, hb2⟩
    have hq2 := hq1.trans hb2
    obtain ⟨c0, c1, c2, c3, c4⟩ := five_new w _ _ _ _ _ _ _ (w1 := w2) (hq2.mono (by simp))
    clear hw1
    go_wp2_with fail
    refine (number_any s 8 (w.heap.size + 1) _ _ (by omega) (by omega) hw2 (by simp [numTo_length])).mono ?_
    rintro e w3 ⟨rfl, hw3, hb3⟩
    have hq3 := hq2.trans hb3
    obtain ⟨c0, c1, c2, c3, c4⟩ := five_new w _ _ _ _ _ _ _ (w1 := w3) (hq3.mono (by simp))
    clear hw2
    go_wp2_with fail
    refine (number_any 0 1 (w.heap.size + 1) _ _ (by omega) (by omega) hw3 (by simp [numTo_length])).mono ?_
    rintro e w4 ⟨rfl, hw4, hb4⟩
    have hq4 := hq3.trans hb4
    obtain ⟨c0, c1, c2, c3, c4⟩ := five_new w _ _ _ _ _ _ _ (w1 := w4) (hq4.mono (by simp))
    clear hw3
    go_wp2_with fail
    refine (number_any a 4 (w.heap.size + 1) _ _ (by omega) (by omega) hw4 (by simp [numTo_length])).mono ?_
    rintro e w5 ⟨rfl, hw5, hb5⟩
    have hq5 := hq4.trans hb5
    obtain ⟨c0, c1, c2, c3, c4⟩ := five_new w _ _ _ _ _ _ _ (w1 := w5) (hq5.mono (by simp))
    clear hw4
    have hbz := hb0.trans (hq5.mono (Nat.le_succ _))
    have s5 := hq5.size
    clear c0 c1 c2 c3 c4 hb1 hb2 hb3 hb4 hb5 hq0 hq1 hq2 hq3 hq4 hq5 hb0
    obtain ⟨A, c, hc, hf, hown⟩ := hw5
    generalize (numTo g 4 4 ++ numTo m 4 4 ++ numTo s 8 8 ++ numTo 0 1 1 ++ numTo a 4 4).length = n5 at hc hown
    have Hown := Lib.hid hown
    clear hown hf
    go_wp2
    go_ret
    exact ⟨A, n5, c, rfl, own_base Hown.out (by omega), hbz⟩
  · obtain rfl : dn = 1 := Hdn.out
    go_enter Tryd.func44, Tryd.ntmps44
    go_wp2_with fail
    refine (number_any g 4 (w.heap.size + 1) _ _ (by omega) (by omega) hw0 (by simp)).mono ?_
    rintro e w1 ⟨rfl, hw1, hb1⟩
    have hq1 := hq0.trans hb1
    obtain ⟨c0, c1, c2, c3, c4⟩ := five_new w _ _ _ _ _ _ _ (w1 := w1) (hq1.mono (by simp))
    rw [List.nil_append] at hw1
    clear hw0
    go_wp2_with fail
    refine (number_any m 4 (w.heap.size + 1) _ _ (by omega) (by omega) hw1 (by simp [numTo_length])).mono ?_
    rintro e w2 ⟨rfl, hw2, hb2⟩
    have hq2 := hq1.trans hb2
    obtain ⟨c0, c1, c2, c3, c4⟩ := five_new w _ _ _ _ _ _ _ (w1 := w2) (hq2.mono (by simp))
    clear hw1
    go_wp2_with fail
    refine (number_any s 8 (w.heap.size + 1) _ _ (by omega) (by omega) hw2 (by simp [numTo_length])).mono ?_
    rintro e w3 ⟨rfl, hw3, hb3⟩
    have hq3 := hq2.trans hb3
    obtain ⟨c0, c1, c2, c3, c4⟩ := five_new w _ _ _ _ _ _ _ (w1 := w3) (hq3.mono (by simp))
    clear hw2
    go_wp2_with fail
    refine (number_any 1 1 (w.heap.size + 1) _ _ (by omega) (by omega) hw3 (by simp [numTo_length])).mono ?_
    rintro e w4 ⟨rfl, hw4, hb4⟩
    have hq4 := hq3.trans hb4
    obtain ⟨c0, c1, c2, c3, c4⟩ := five_new w _ _ _ _ _ _ _ (w1 := w4) (hq4.mono (by simp))
    clear hw3
    go_wp2_with fail
    refine (number_any a 4 (w.heap.size + 1) _ _ (by omega) (by omega) hw4 (by simp [numTo_length])).mono ?_
    rintro e w5 ⟨rfl, hw5, hb5⟩
    have hq5 := hq4.trans hb5
    obtain ⟨c0, c1, c2, c3, c4⟩ := five_new w _ _ _ _ _ _ _ (w1 := w5) (hq5.mono (by simp))
    clear hw4
    have hbz := hb0.trans (hq5.mono (Nat.le_succ _))
    have s5 := hq5.size
    clear c0 c1 c2 c3 c4 hb1 hb2 hb3 hb4 hb5 hq0 hq1 hq2 hq3 hq4 hq5 hb0
    obtain ⟨A, c, hc, hf, hown⟩ := hw5
    generalize (numTo g 4 4 ++ numTo m 4 4 ++ numTo s 8 8 ++ numTo 1 1 1 ++ numTo a 4 4).length = n5 at hc hown
    have Hown := Lib.hid hown
    clear hown hf
    go_wp2
    go_ret
    exact ⟨A, n5, c, rfl, own_base Hown.out (by omega), hbz⟩
end Go.Proofs.YtedoajiapicpnaaDoor
