import Derived.Test.YtinaecmpigenoaaGaj
import Derived.Test.YtinaecmpigenoaaGaf
import Derived.Test.YtinaecmpigenoaaGaa
import Derived.Test.YtinaecmpigenoaaGag
/-
  Layer 13: the reference's Tell of all, where the sum is one of 64 bits.
-/
namespace Go.Proofs.Ytinaecmpigenoaa
open Go.RowKit
attribute [local go_sem ↓] Go.wp_at_zero Go.wp_at_succ
set_option linter.unusedVariables false

def RTellP (w : World) (c k1 x1 k2 x2 i y : Int) (e : Ending) (w' : World) : Prop :=
  ∃ gk gs, e = .returned (.tuple #[.agg #[.int .i64 6, .int .i64 0, .string ⟨#[]⟩, .slice (some ⟨gk, 0, none⟩) 5 5, .slice (some ⟨gs, 0, none⟩) 5 5], .bool true]) ∧ Shows w' w'.heap.size 5 (some ⟨gk, 0, none⟩) 5 (statKids c k1 x1 k2 x2 i y) ∧ Shows w' w'.heap.size 1 (some ⟨gs, 0, none⟩) 5 statKeys ∧ Below w.heap.size w w'
theorem bval_info : ∃ i, Try.prog.info? 42 = some i ∧ i.zero = some (.agg #[.int .i64 0, .int .i64 0, .string ⟨#[]⟩, .slice none 0 0, .slice none 0 0]) ∧ i.size = 5 ∧ i.bytes = 80 := ⟨Try.t42, by kernel_rfl, by kernel_rfl, by kernel_rfl, by kernel_rfl⟩
theorem fillB5 (v0 v1 v2 v3 v4 x0 x1 x2 x3 x4 y0 y1 y2 y3 y4 z0 z1 z2 z3 z4 u0 u1 u2 u3 u4 : Value) (hv : (Value.agg #[v0, v1, v2, v3, v4]).cells = #[v0, v1, v2, v3, v4]) (hx : (Value.agg #[x0, x1, x2, x3, x4]).cells = #[x0, x1, x2, x3, x4]) (hy : (Value.agg #[y0, y1, y2, y3, y4]).cells = #[y0, y1, y2, y3, y4]) (hz : (Value.agg #[z0, z1, z2, z3, z4]).cells = #[z0, z1, z2, z3, z4]) (hu : (Value.agg #[u0, u1, u2, u3, u4]).cells = #[u0, u1, u2, u3, u4]) :
    Instr.fill (fun q => some (q * 5, 5)) ((Array.range (5 * 5)).map ((Value.agg #[.int .i64 0, .int .i64 0, .string ⟨#[]⟩, .slice none 0 0, .slice none 0 0]).cells[· % (Value.agg #[.int .i64 0, .int .i64 0, .string ⟨#[]⟩, .slice none 0 0, .slice none 0 0]).cells.size]!)) [(0, .agg #[v0, v1, v2, v3, v4]), (1, .agg #[x0, x1, x2, x3, x4]), (2, .agg #[y0, y1, y2, y3, y4]), (3, .agg #[z0, z1, z2, z3, z4]), (4, .agg #[u0, u1, u2, u3, u4])] = some #[v0, v1, v2, v3, v4, x0, x1, x2, x3, x4, y0, y1, y2, y3, y4, z0, z1, z2, z3, z4, u0, u1, u2, u3, u4] := by
  have e : Array.range (5 * 5) = #[0, 1, 2, 3, 4, 5, 6, 7, 8, 9, 10, 11, 12, 13, 14, 15, 16, 17, 18, 19, 20, 21, 22, 23, 24] := by first | rfl | decide
  rw [e]
  simp [Instr.fill, hv, hx, hy, hz, hu]
set_option maxRecDepth 20000 in
set_option maxHeartbeats 4000000 in
theorem refTell_5_none (c i v le mo : Int) (w : World) (hi : i = 0) (hv : R128 v) (y : Int) (hy : IntKind.i64.wrap (loI v) = y) (ho : v = y) :
    Calls Try.prog 20 #[.int .i64 5, .agg #[.int .i64 c, .int .i64 i, .int .i64 (hiI v), .int .u64 (loI v), .int .i64 le, .int .i64 mo]] w (RTellP w c 1 0 1 0 i y) := by
  have hf := fun W => mfits_any v W hv
  rw [decide_eq_true (by rw [hy]; exact ho)] at hf
  have hy2 : wrap64 (loI v) = y := by
    have h1 := hy
    rw [IntKind.wrap_i64] at h1
    unfold wrap64
    omega
  have HY := Lib.hid hy2
  clear hy2
  have HI := Lib.hid hy
  clear ho hy
  have Hf := Lib.hid hf
  clear hf
  obtain ⟨h6, h51, h52, h53, hb0, hsz⟩ := vars4 w c i v le mo
  obtain ⟨W1, hW1⟩ : ∃ W1, (((w.alloc (.cells #[.int .i64 c, .int .i64 i, .int .i64 (hiI v), .int .u64 (loI v), .int .i64 le, .int .i64 mo] 24)).alloc (.cells #[.int .i64 0, .int .i64 0, .string ⟨#[]⟩, .slice none 0 0, .slice none 0 0] 42)).alloc (.cells #[.int .i64 1, .int .i64 0, .string ⟨#[]⟩, .slice none 0 0, .slice none 0 0] 42)).alloc (.cells #[.int .i64 1, .int .i64 0, .string ⟨#[]⟩, .slice none 0 0, .slice none 0 0] 42) = W1 := ⟨_, rfl⟩
  rw [hW1] at h6 h51 h52 h53 hb0 hsz
  have hz1 : w.heap.size + 4 ≤ W1.heap.size := by omega
  have HW1 := Lib.hid hW1
  have H6 := Lib.hid h6
  have H51 := Lib.hid h51
  have H52 := Lib.hid h52
  have H53 := Lib.hid h53
  clear hW1 hsz
  have hd : decide (0 < i) = false := by rw [hi]; rfl
  clear hi
  obtain ⟨⟨r0, r1, r2, r3, r4, r5⟩, -⟩ := h6
  obtain ⟨⟨d0, d1, d2, d3, d4⟩, f0, f1, f2, f3, f4⟩ := h51
  obtain ⟨⟨m0, m1, m2, m3, m4⟩, -⟩ := h52
  obtain ⟨⟨n0, n1, n2, n3, n4⟩, -⟩ := h53
  go_enter Try.func20, Try.ntmps20
  go_upto_region 3 with fail
  rw [HW1.out]
  clear HW1
  go_wp2_with fail
  refine (whole_any c i v le mo _).mono ?_
  rintro e w8 ⟨rfl, hb8⟩
  go_wp2_with fail
  refine (Hf.out _).mono ?_
  rintro e w9 ⟨rfl, hb9⟩
  have hb89 := hb8.trans (hb9.mono hb8.size)
  have P1 := Lib.hid (H51.out.below hb89 rfl)
  have P6 := Lib.hid (H6.out.below hb89 rfl)
  have P2 := Lib.hid (H52.out.below hb89 rfl)
  have P3 := Lib.hid (H53.out.below hb89 rfl)
  have hbX := hb0.trans (hb89.mono hb0.size)
  clear r0 r1 r2 r3 r4 r5 d0 d1 d2 d3 d4 f0 f1 f2 f3 f4 m0 m1 m2 m3 m4 n0 n1 n2 n3 n4 H6 H51 H52 H53 hb8 hb9 hb89
  obtain ⟨iV, jiV, jzV, jsV, jbV⟩ := bval_info
  go_upto_region 17 with fail
  have hyI := HI.out
  have hy3 := HY.out
  have pa0 : ∀ W, Below w9.heap.size w9 W → W.cell? ⟨w.heap.size, 0, none⟩ = some (.int .i64 c) := fun W h => (P6.out.below h rfl).1.1
  have pa1 : ∀ W, Below w9.heap.size w9 W → W.cell? ⟨w.heap.size, 1, none⟩ = some (.int .i64 i) := fun W h => (P6.out.below h rfl).1.2.1
  have pa3 : ∀ W, Below w9.heap.size w9 W → W.cell? ⟨w.heap.size, 3, none⟩ = some (.int .u64 (loI v)) := fun W h => (P6.out.below h rfl).1.2.2.2.1
  have pb0 : ∀ W, Below w9.heap.size w9 W → W.cell? ⟨w.heap.size + 3, 0, none⟩ = some (.int .i64 1) := fun W h => (P3.out.below h rfl).1.1
  have pb1 : ∀ W, Below w9.heap.size w9 W → W.cell? ⟨w.heap.size + 3, 1, none⟩ = some (.int .i64 0) := fun W h => (P3.out.below h rfl).1.2.1
  have pb2 : ∀ W, Below w9.heap.size w9 W → W.cell? ⟨w.heap.size + 3, 2, none⟩ = some (.string ⟨#[]⟩) := fun W h => (P3.out.below h rfl).1.2.2.1
  have pb3 : ∀ W, Below w9.heap.size w9 W → W.cell? ⟨w.heap.size + 3, 3, none⟩ = some (.slice none 0 0) := fun W h => (P3.out.below h rfl).1.2.2.2.1
  have pb4 : ∀ W, Below w9.heap.size w9 W → W.cell? ⟨w.heap.size + 3, 4, none⟩ = some (.slice none 0 0) := fun W h => (P3.out.below h rfl).1.2.2.2.2
  have pc0 : ∀ W, Below w9.heap.size w9 W → W.cell? ⟨w.heap.size + 2, 0, none⟩ = some (.int .i64 1) := fun W h => (P2.out.below h rfl).1.1
  have pc1 : ∀ W, Below w9.heap.size w9 W → W.cell? ⟨w.heap.size + 2, 1, none⟩ = some (.int .i64 0) := fun W h => (P2.out.below h rfl).1.2.1
  have pc2 : ∀ W, Below w9.heap.size w9 W → W.cell? ⟨w.heap.size + 2, 2, none⟩ = some (.string ⟨#[]⟩) := fun W h => (P2.out.below h rfl).1.2.2.1
  have pc3 : ∀ W, Below w9.heap.size w9 W → W.cell? ⟨w.heap.size + 2, 3, none⟩ = some (.slice none 0 0) := fun W h => (P2.out.below h rfl).1.2.2.2.1
  have pc4 : ∀ W, Below w9.heap.size w9 W → W.cell? ⟨w.heap.size + 2, 4, none⟩ = some (.slice none 0 0) := fun W h => (P2.out.below h rfl).1.2.2.2.2
  refine wp_region_held_drew (S := fun W => Below w9.heap.size w9 W) (by kernel_rfl) (below_drewN (Below.refl _ _) 1) (fun hHeld => ?_)
  refine rg_in 0 rfl (by kernel_rfl) (by kernel_rfl) (by kernel_rfl) (by rfl) (v := ?_) (fun _ _ _ h => h) hHeld (fun w hSw => ?_) ?_
  rotate_left
  · (try dsimp only at hSw); go_simp <;> (with_reducible rfl)
  (try simp only [Act.put, List.setIfInBounds_toArray, List.set_cons_zero, List.set_cons_succ])
  refine rg_in 1 rfl (by kernel_rfl) (by kernel_rfl) (by kernel_rfl) (by rfl) (v := ?_) (fun _ _ _ h => h) hHeld (fun w hSw => ?_) ?_
  rotate_left
  · (try dsimp only at hSw); go_simp <;> (with_reducible rfl)
  (try simp only [Act.put, List.setIfInBounds_toArray, List.set_cons_zero, List.set_cons_succ])
  refine rg_in 3 rfl (by kernel_rfl) (by kernel_rfl) (by kernel_rfl) (by rfl) (v := ?_) (fun _ _ _ h => h) hHeld (fun w hSw => ?_) ?_
  rotate_left
  · (try dsimp only at hSw); go_simp <;> (with_reducible rfl)
  (try simp only [Act.put, List.setIfInBounds_toArray, List.set_cons_zero, List.set_cons_succ])
  refine rg_in 4 rfl (by kernel_rfl) (by kernel_rfl) (by kernel_rfl) (by rfl) (v := ?_) (fun _ _ _ h => h) hHeld (fun w hSw => ?_) ?_
  rotate_left
  · (try dsimp only at hSw); go_simp <;> (with_reducible rfl)
  (try simp only [Act.put, List.setIfInBounds_toArray, List.set_cons_zero, List.set_cons_succ])
  refine rg_in 5 rfl (by kernel_rfl) (by kernel_rfl) (by kernel_rfl) (by rfl) (v := ?_) (fun _ _ _ h => h) hHeld (fun w hSw => ?_) ?_
  rotate_left
  · (try dsimp only at hSw); go_simp <;> (with_reducible rfl)
  (try simp only [Act.put, List.setIfInBounds_toArray, List.set_cons_zero, List.set_cons_succ])
  refine rg_in 6 rfl (by kernel_rfl) (by kernel_rfl) (by kernel_rfl) (by rfl) (v := ?_) (fun _ _ _ h => h) hHeld (fun w hSw => ?_) ?_
  rotate_left
  · (try dsimp only at hSw); go_simp <;> (with_reducible rfl)
  (try simp only [Act.put, List.setIfInBounds_toArray, List.set_cons_zero, List.set_cons_succ])
  refine rg_in 8 rfl (by kernel_rfl) (by kernel_rfl) (by kernel_rfl) (by rfl) (v := ?_) (fun _ _ _ h => h) hHeld (fun w hSw => ?_) ?_
  rotate_left
  · (try dsimp only at hSw); go_simp <;> (with_reducible rfl)
  (try simp only [Act.put, List.setIfInBounds_toArray, List.set_cons_zero, List.set_cons_succ])
  refine rg_in 9 rfl (by kernel_rfl) (by kernel_rfl) (by kernel_rfl) (by rfl) (v := ?_) (fun _ _ _ h => h) hHeld (fun w hSw => ?_) ?_
  rotate_left
  · (try dsimp only at hSw); go_simp <;> (with_reducible rfl)
  (try simp only [Act.put, List.setIfInBounds_toArray, List.set_cons_zero, List.set_cons_succ])
  refine rg_in 10 rfl (by kernel_rfl) (by kernel_rfl) (by kernel_rfl) (by rfl) (v := ?_) (fun _ _ _ h => h) hHeld (fun w hSw => ?_) ?_
  rotate_left
  · (try dsimp only at hSw); go_simp <;> (with_reducible rfl)
  (try simp only [Act.put, List.setIfInBounds_toArray, List.set_cons_zero, List.set_cons_succ])
  refine rg_do 2 rfl (by kernel_rfl) (by rfl) (fun K hK => ?_)
  go_simp
  (go_at_call 37; (with_reducible refine (in_any c _).mono ?_); (rintro e w102 ⟨rfl, hb2⟩))
  refine hK.out _ _ (mS_call hb2 hHeld rfl) (fun hHeld => ?_)
  clear hK K
  (try simp only [Act.put, List.setIfInBounds_toArray, List.set_cons_zero, List.set_cons_succ])
  refine rg_do 7 rfl (by kernel_rfl) (by rfl) (fun K hK => ?_)
  go_simp
  (go_at_call 37; (with_reducible refine (in_any i _).mono ?_); (rintro e w107 ⟨rfl, hb7⟩))
  refine hK.out _ _ (mS_call hb7 hHeld rfl) (fun hHeld => ?_)
  clear hK K
  (try simp only [Act.put, List.setIfInBounds_toArray, List.set_cons_zero, List.set_cons_succ])
  refine rg_do 11 rfl (by kernel_rfl) (by rfl) (fun K hK => ?_)
  go_simp
  (go_at_call 37; (with_reducible refine (in_any y _).mono ?_); (rintro e w111 ⟨rfl, hb11⟩))
  refine hK.out _ _ (mS_call hb11 hHeld rfl) (fun hHeld => ?_)
  clear hK K
  (try simp only [Act.put, List.setIfInBounds_toArray, List.set_cons_zero, List.set_cons_succ])
  refine rg_do 12 rfl (by kernel_rfl) (by rfl) (fun K hK => ?_)
  refine step_rows 39 42 5 _ rfl 5 iV _ Try.underlying39 jiV jzV jsV #[.int .i64 3, .int .i64 c, .string ⟨#[]⟩, .slice none 0 0, .slice none 0 0, .int .i64 1, .int .i64 0, .string ⟨#[]⟩, .slice none 0 0, .slice none 0 0, .int .i64 1, .int .i64 0, .string ⟨#[]⟩, .slice none 0 0, .slice none 0 0, .int .i64 3, .int .i64 i, .string ⟨#[]⟩, .slice none 0 0, .slice none 0 0, .int .i64 3, .int .i64 y, .string ⟨#[]⟩, .slice none 0 0, .slice none 0 0] (fillB5 _ _ _ _ _ _ _ _ _ _ _ _ _ _ _ _ _ _ _ _ _ _ _ _ _ rfl rfl rfl rfl rfl) rfl (by decide) (by decide) ?_
  intro g112 w112 hge112 sh112 hl112 hb12
  refine hK.out _ _ (mS_call hb12 hHeld rfl) (fun hHeld => ?_)
  clear hK K
  (try simp only [Act.put, List.setIfInBounds_toArray, List.set_cons_zero, List.set_cons_succ])
  refine rg_in 13 rfl (by kernel_rfl) (by kernel_rfl) (by kernel_rfl) (by rfl) (v := ?_) (fun _ _ _ h => h) hHeld (fun w hSw => ?_) ?_
  rotate_left
  · (try dsimp only at hSw); go_simp <;> (with_reducible rfl)
  (try simp only [Act.put, List.setIfInBounds_toArray, List.set_cons_zero, List.set_cons_succ])
  refine wpAnyH_done (by kernel_rfl) ?_ _
  have hz9 : w.heap.size + 1 < w9.heap.size := World.block_lt_of_cell? _ _ P1.out.1.1
  have hz12 : w9.heap.size ≤ w112.heap.size := hHeld.size
  have y2 : w9.heap.size ≤ w102.heap.size := hb2.size
  have y7 := hb7.size
  have y11 := hb11.size
  obtain ⟨⟨d0, d1, d2, d3, d4⟩, f0, f1, f2, f3, f4⟩ := (P1.out.below hHeld rfl).alloc (.cells #[.string ⟨#[99, 111, 117, 110, 116]⟩, .string ⟨#[109, 97, 120]⟩, .string ⟨#[109, 105, 110]⟩, .string ⟨#[110, 117, 109, 98, 101, 114, 115]⟩, .string ⟨#[115, 117, 109]⟩] 9)
  have hbZ := below_set5 ((hbX.trans (hHeld.mono hbX.size)).alloc (by have := hbX.size; omega) (.cells #[.string ⟨#[99, 111, 117, 110, 116]⟩, .string ⟨#[109, 97, 120]⟩, .string ⟨#[109, 105, 110]⟩, .string ⟨#[110, 117, 109, 98, 101, 114, 115]⟩, .string ⟨#[115, 117, 109]⟩] 9)) (Nat.le_succ _) (a := .int .i64 6) (b := .int .i64 0) (c := .string ⟨#[]⟩) (d := .slice (some ⟨g112, 0, none⟩) 5 5) (e := .slice (some ⟨w112.heap.size, 0, none⟩) 5 5)
  have hS1 := (sh112.alloc hl112 (.cells #[.string ⟨#[99, 111, 117, 110, 116]⟩, .string ⟨#[109, 97, 120]⟩, .string ⟨#[109, 105, 110]⟩, .string ⟨#[110, 117, 109, 98, 101, 114, 115]⟩, .string ⟨#[115, 117, 109]⟩] 9)).far5 (show w.heap.size + 1 ≠ g112 by omega) (.int .i64 6) (.int .i64 0) (.string ⟨#[]⟩) (.slice (some ⟨g112, 0, none⟩) 5 5) (.slice (some ⟨w112.heap.size, 0, none⟩) 5 5)
  have hS2 := (shows_lit w112 #[.string ⟨#[99, 111, 117, 110, 116]⟩, .string ⟨#[109, 97, 120]⟩, .string ⟨#[109, 105, 110]⟩, .string ⟨#[110, 117, 109, 98, 101, 114, 115]⟩, .string ⟨#[115, 117, 109]⟩] 9 5 1 w112.heap.size rfl rfl).far5 (show w.heap.size + 1 ≠ w112.heap.size by omega) (.int .i64 6) (.int .i64 0) (.string ⟨#[]⟩) (.slice (some ⟨g112, 0, none⟩) 5 5) (.slice (some ⟨w112.heap.size, 0, none⟩) 5 5)
  have hzz : Array.size (World.heap ((((((w112.alloc (.cells #[.string ⟨#[99, 111, 117, 110, 116]⟩, .string ⟨#[109, 97, 120]⟩, .string ⟨#[109, 105, 110]⟩, .string ⟨#[110, 117, 109, 98, 101, 114, 115]⟩, .string ⟨#[115, 117, 109]⟩] 9)).setCell ⟨w.heap.size + 1, 0, none⟩ (.int .i64 6)).setCell ⟨w.heap.size + 1, 1, none⟩ (.int .i64 0)).setCell ⟨w.heap.size + 1, 2, none⟩ (.string ⟨#[]⟩)).setCell ⟨w.heap.size + 1, 3, none⟩ (.slice (some ⟨g112, 0, none⟩) 5 5)).setCell ⟨w.heap.size + 1, 4, none⟩ (.slice (some ⟨w112.heap.size, 0, none⟩) 5 5))) = w112.heap.size + 1 := by rw [set5_size, World.size_alloc]
  clear pa0 pa1 pa3 pb0 pb1 pb2 pb3 pb4 pc0 pc1 pc2 pc3 pc4
  go_wp2
  refine bodyPost_ret (v := .tuple #[.agg #[.int .i64 6, .int .i64 0, .string ⟨#[]⟩, .slice (some ⟨g112, 0, none⟩) 5 5, .slice (some ⟨w112.heap.size, 0, none⟩) 5 5], .bool true]) ?_ rfl ⟨g112, w112.heap.size, rfl, hS1.more (by rw [hzz]; omega), hS2.more (by rw [hzz]; exact Nat.le_refl _), hbZ⟩
  simp [results, Try.results20, go_sem, *]
set_option maxRecDepth 20000 in
set_option maxHeartbeats 4000000 in
theorem refTell_5_some (c i v le mo : Int) (w : World) (hi : 0 < i) (hv : R128 v) (y : Int) (hy : IntKind.i64.wrap (loI v) = y) (ho : v = y) :
    Calls Try.prog 20 #[.int .i64 5, .agg #[.int .i64 c, .int .i64 i, .int .i64 (hiI v), .int .u64 (loI v), .int .i64 le, .int .i64 mo]] w (RTellP w c 3 mo 3 le i y) := by
  have hf := fun W => mfits_any v W hv
  rw [decide_eq_true (by rw [hy]; exact ho)] at hf
  have hy2 : wrap64 (loI v) = y := by
    have h1 := hy
    rw [IntKind.wrap_i64] at h1
    unfold wrap64
    omega
  have HY := Lib.hid hy2
  clear hy2
  have HI := Lib.hid hy
  clear ho hy
  have Hf := Lib.hid hf
  clear hf
  obtain ⟨h6, h51, h52, h53, hb0, hsz⟩ := vars4 w c i v le mo
  obtain ⟨W1, hW1⟩ : ∃ W1, (((w.alloc (.cells #[.int .i64 c, .int .i64 i, .int .i64 (hiI v), .int .u64 (loI v), .int .i64 le, .int .i64 mo] 24)).alloc (.cells #[.int .i64 0, .int .i64 0, .string ⟨#[]⟩, .slice none 0 0, .slice none 0 0] 42)).alloc (.cells #[.int .i64 1, .int .i64 0, .string ⟨#[]⟩, .slice none 0 0, .slice none 0 0] 42)).alloc (.cells #[.int .i64 1, .int .i64 0, .string ⟨#[]⟩, .slice none 0 0, .slice none 0 0] 42) = W1 := ⟨_, rfl⟩
  rw [hW1] at h6 h51 h52 h53 hb0 hsz
  have hz1 : w.heap.size + 4 ≤ W1.heap.size := by omega
  have HW1 := Lib.hid hW1
  have H6 := Lib.hid h6
  have H51 := Lib.hid h51
  have H52 := Lib.hid h52
  have H53 := Lib.hid h53
  clear hW1 hsz
  have hd : decide (0 < i) = true := decide_eq_true hi
  obtain ⟨⟨r0, r1, r2, r3, r4, r5⟩, -⟩ := h6
  clear h51 h52 h53
  go_enter Try.func20, Try.ntmps20
  go_upto_region 3 with fail
  rw [HW1.out]
  clear HW1
  go_wp2_with fail
  refine (in_any le _).mono ?_
  rintro e w1 ⟨rfl, hb1⟩
  have J6 := Lib.hid (H6.out.below hb1 rfl)
  have J1 := Lib.hid (H51.out.below hb1 rfl)
  have J2 := Lib.hid (H52.out.below hb1 rfl)
  have J3 := Lib.hid (H53.out.below hb1 rfl)
  have hb2 := hb0.trans (hb1.mono hb0.size)
  have hz2 : w.heap.size + 4 ≤ w1.heap.size := by have := hb1.size; omega
  clear r0 r1 r2 r3 r4 r5 H6 H51 H52 H53 hb0 hb1 hz1
  obtain ⟨⟨d0, d1, d2, d3, d4⟩, f0, f1, f2, f3, f4⟩ := J2.out
  obtain ⟨⟨r0, r1, r2, r3, r4, r5⟩, -⟩ := J6.out
  go_upto_region 5 with fail
  obtain ⟨W2, hW2⟩ : ∃ W2, set5 w1 (w.heap.size + 2) (.int .i64 3) (.int .i64 le) (.string ⟨#[]⟩) (.slice none 0 0) (.slice none 0 0) = W2 := ⟨_, rfl⟩
  have K6 := Lib.hid (show Six W2 w.heap.size _ _ _ _ _ _ by rw [← hW2]; exact J6.out.off (by omega) _ _ _ _ _)
  have K1 := Lib.hid (show Five W2 (w.heap.size + 1) _ _ _ _ _ by rw [← hW2]; exact J1.out.off (by omega) _ _ _ _ _)
  have K2 := Lib.hid (show Five W2 (w.heap.size + 2) (.int .i64 3) (.int .i64 le) (.string ⟨#[]⟩) (.slice none 0 0) (.slice none 0 0) by rw [← hW2]; exact J2.out.set _ _ _ _ _)
  have K3 := Lib.hid (show Five W2 (w.heap.size + 3) _ _ _ _ _ by rw [← hW2]; exact J3.out.off (by omega) _ _ _ _ _)
  have hb3 : Below w.heap.size w W2 := by rw [← hW2]; exact below_set5 hb2 (by omega)
  have HW2 := Lib.hid hW2
  have hz3 : w.heap.size + 4 ≤ W2.heap.size := by rw [← hW2]; unfold set5; rw [set5_size]; exact hz2
  have hgoal := HW2.out
  unfold set5 at hgoal
  rw [hgoal]
  clear hgoal HW2 hW2 hb2 hz2 J6 J1 J2 J3 d0 d1 d2 d3 d4 f0 f1 f2 f3 f4 r0 r1 r2 r3 r4 r5
  obtain ⟨⟨r0, r1, r2, r3, r4, r5⟩, -⟩ := K6.out
  go_wp2_with fail
  refine (in_any mo _).mono ?_
  rintro e w2 ⟨rfl, hb4⟩
  have J6 := Lib.hid (K6.out.below hb4 rfl)
  have J1 := Lib.hid (K1.out.below hb4 rfl)
  have J2 := Lib.hid (K2.out.below hb4 rfl)
  have J3 := Lib.hid (K3.out.below hb4 rfl)
  have hb5 := hb3.trans (hb4.mono hb3.size)
  have hz4 : w.heap.size + 4 ≤ w2.heap.size := by have := hb4.size; omega
  clear r0 r1 r2 r3 r4 r5 K6 K1 K2 K3 hb3 hb4 hz3
  obtain ⟨⟨d0, d1, d2, d3, d4⟩, f0, f1, f2, f3, f4⟩ := J3.out
  go_upto_region 6 with fail
  obtain ⟨W4, hW4⟩ : ∃ W4, set5 w2 (w.heap.size + 3) (.int .i64 3) (.int .i64 mo) (.string ⟨#[]⟩) (.slice none 0 0) (.slice none 0 0) = W4 := ⟨_, rfl⟩
  have K6 := Lib.hid (show Six W4 w.heap.size _ _ _ _ _ _ by rw [← hW4]; exact J6.out.off (by omega) _ _ _ _ _)
  have K1 := Lib.hid (show Five W4 (w.heap.size + 1) _ _ _ _ _ by rw [← hW4]; exact J1.out.off (by omega) _ _ _ _ _)
  have K2 := Lib.hid (show Five W4 (w.heap.size + 2) _ _ _ _ _ by rw [← hW4]; exact J2.out.off (by omega) _ _ _ _ _)
  have K3 := Lib.hid (show Five W4 (w.heap.size + 3) (.int .i64 3) (.int .i64 mo) (.string ⟨#[]⟩) (.slice none 0 0) (.slice none 0 0) by rw [← hW4]; exact J3.out.set _ _ _ _ _)
  have hb6 : Below w.heap.size w W4 := by rw [← hW4]; exact below_set5 hb5 (by omega)
  have HW4 := Lib.hid hW4
  have hgoal := HW4.out
  unfold set5 at hgoal
  rw [hgoal]
  clear hgoal HW4 hW4 hb5 hz4 J6 J1 J2 J3 d0 d1 d2 d3 d4 f0 f1 f2 f3 f4
  obtain ⟨⟨r0, r1, r2, r3, r4, r5⟩, -⟩ := K6.out
  obtain ⟨⟨d0, d1, d2, d3, d4⟩, f0, f1, f2, f3, f4⟩ := K1.out
  obtain ⟨⟨m0, m1, m2, m3, m4⟩, -⟩ := K2.out
  obtain ⟨⟨n0, n1, n2, n3, n4⟩, -⟩ := K3.out
  go_wp2_with fail
  refine (whole_any c i v le mo _).mono ?_
  rintro e w8 ⟨rfl, hb8⟩
  go_wp2_with fail
  refine (Hf.out _).mono ?_
  rintro e w9 ⟨rfl, hb9⟩
  have hb89 := hb8.trans (hb9.mono hb8.size)
  have P1 := Lib.hid (K1.out.below hb89 rfl)
  have P6 := Lib.hid (K6.out.below hb89 rfl)
  have P2 := Lib.hid (K2.out.below hb89 rfl)
  have P3 := Lib.hid (K3.out.below hb89 rfl)
  have hbX := hb6.trans (hb89.mono hb6.size)
  clear r0 r1 r2 r3 r4 r5 d0 d1 d2 d3 d4 f0 f1 f2 f3 f4 m0 m1 m2 m3 m4 n0 n1 n2 n3 n4 K6 K1 K2 K3 hb8 hb9 hb89
  obtain ⟨iV, jiV, jzV, jsV, jbV⟩ := bval_info
  go_upto_region 17 with fail
  have hyI := HI.out
  have hy3 := HY.out
  have pa0 : ∀ W, Below w9.heap.size w9 W → W.cell? ⟨w.heap.size, 0, none⟩ = some (.int .i64 c) := fun W h => (P6.out.below h rfl).1.1
  have pa1 : ∀ W, Below w9.heap.size w9 W → W.cell? ⟨w.heap.size, 1, none⟩ = some (.int .i64 i) := fun W h => (P6.out.below h rfl).1.2.1
  have pa3 : ∀ W, Below w9.heap.size w9 W → W.cell? ⟨w.heap.size, 3, none⟩ = some (.int .u64 (loI v)) := fun W h => (P6.out.below h rfl).1.2.2.2.1
  have pb0 : ∀ W, Below w9.heap.size w9 W → W.cell? ⟨w.heap.size + 3, 0, none⟩ = some (.int .i64 3) := fun W h => (P3.out.below h rfl).1.1
  have pb1 : ∀ W, Below w9.heap.size w9 W → W.cell? ⟨w.heap.size + 3, 1, none⟩ = some (.int .i64 mo) := fun W h => (P3.out.below h rfl).1.2.1
  have pb2 : ∀ W, Below w9.heap.size w9 W → W.cell? ⟨w.heap.size + 3, 2, none⟩ = some (.string ⟨#[]⟩) := fun W h => (P3.out.below h rfl).1.2.2.1
  have pb3 : ∀ W, Below w9.heap.size w9 W → W.cell? ⟨w.heap.size + 3, 3, none⟩ = some (.slice none 0 0) := fun W h => (P3.out.below h rfl).1.2.2.2.1
  have pb4 : ∀ W, Below w9.heap.size w9 W → W.cell? ⟨w.heap.size + 3, 4, none⟩ = some (.slice none 0 0) := fun W h => (P3.out.below h rfl).1.2.2.2.2
  have pc0 : ∀ W, Below w9.heap.size w9 W → W.cell? ⟨w.heap.size + 2, 0, none⟩ = some (.int .i64 3) := fun W h => (P2.out.below h rfl).1.1
  have pc1 : ∀ W, Below w9.heap.size w9 W → W.cell? ⟨w.heap.size + 2, 1, none⟩ = some (.int .i64 le) := fun W h => (P2.out.below h rfl).1.2.1
  have pc2 : ∀ W, Below w9.heap.size w9 W → W.cell? ⟨w.heap.size + 2, 2, none⟩ = some (.string ⟨#[]⟩) := fun W h => (P2.out.below h rfl).1.2.2.1
  have pc3 : ∀ W, Below w9.heap.size w9 W → W.cell? ⟨w.heap.size + 2, 3, none⟩ = some (.slice none 0 0) := fun W h => (P2.out.below h rfl).1.2.2.2.1
  have pc4 : ∀ W, Below w9.heap.size w9 W → W.cell? ⟨w.heap.size + 2, 4, none⟩ = some (.slice none 0 0) := fun W h => (P2.out.below h rfl).1.2.2.2.2
  refine wp_region_held_drew (S := fun W => Below w9.heap.size w9 W) (by kernel_rfl) (below_drewN (Below.refl _ _) 1) (fun hHeld => ?_)
  refine rg_in 0 rfl (by kernel_rfl) (by kernel_rfl) (by kernel_rfl) (by rfl) (v := ?_) (fun _ _ _ h => h) hHeld (fun w hSw => ?_) ?_
  rotate_left
  · (try dsimp only at hSw); go_simp <;> (with_reducible rfl)
  (try simp only [Act.put, List.setIfInBounds_toArray, List.set_cons_zero, List.set_cons_succ])
  refine rg_in 1 rfl (by kernel_rfl) (by kernel_rfl) (by kernel_rfl) (by rfl) (v := ?_) (fun _ _ _ h => h) hHeld (fun w hSw => ?_) ?_
  rotate_left
  · (try dsimp only at hSw); go_simp <;> (with_reducible rfl)
  (try simp only [Act.put, List.setIfInBounds_toArray, List.set_cons_zero, List.set_cons_succ])
  refine rg_in 3 rfl (by kernel_rfl) (by kernel_rfl) (by kernel_rfl) (by rfl) (v := ?_) (fun _ _ _ h => h) hHeld (fun w hSw => ?_) ?_
  rotate_left
  · (try dsimp only at hSw); go_simp <;> (with_reducible rfl)
  (try simp only [Act.put, List.setIfInBounds_toArray, List.set_cons_zero, List.set_cons_succ])
  refine rg_in 4 rfl (by kernel_rfl) (by kernel_rfl) (by kernel_rfl) (by rfl) (v := ?_) (fun _ _ _ h => h) hHeld (fun w hSw => ?_) ?_
  rotate_left
  · (try dsimp only at hSw); go_simp <;> (with_reducible rfl)
  (try simp only [Act.put, List.setIfInBounds_toArray, List.set_cons_zero, List.set_cons_succ])
  refine rg_in 5 rfl (by kernel_rfl) (by kernel_rfl) (by kernel_rfl) (by rfl) (v := ?_) (fun _ _ _ h => h) hHeld (fun w hSw => ?_) ?_
  rotate_left
  · (try dsimp only at hSw); go_simp <;> (with_reducible rfl)
  (try simp only [Act.put, List.setIfInBounds_toArray, List.set_cons_zero, List.set_cons_succ])
  refine rg_in 6 rfl (by kernel_rfl) (by kernel_rfl) (by kernel_rfl) (by rfl) (v := ?_) (fun _ _ _ h => h) hHeld (fun w hSw => ?_) ?_
  rotate_left
  · (try dsimp only at hSw); go_simp <;> (with_reducible rfl)
  (try simp only [Act.put, List.setIfInBounds_toArray, List.set_cons_zero, List.set_cons_succ])
  refine rg_in 8 rfl (by kernel_rfl) (by kernel_rfl) (by kernel_rfl) (by rfl) (v := ?_) (fun _ _ _ h => h) hHeld (fun w hSw => ?_) ?_
  rotate_left
  · (try dsimp only at hSw); go_simp <;> (with_reducible rfl)
  (try simp only [Act.put, List.setIfInBounds_toArray, List.set_cons_zero, List.set_cons_succ])
  refine rg_in 9 rfl (by kernel_rfl) (by kernel_rfl) (by kernel_rfl) (by rfl) (v := ?_) (fun _ _ _ h => h) hHeld (fun w hSw => ?_) ?_
  rotate_left
  · (try dsimp only at hSw); go_simp <;> (with_reducible rfl)
  (try simp only [Act.put, List.setIfInBounds_toArray, List.set_cons_zero, List.set_cons_succ])
  refine rg_in 10 rfl (by kernel_rfl) (by kernel_rfl) (by kernel_rfl) (by rfl) (v := ?_) (fun _ _ _ h => h) hHeld (fun w hSw => ?_) ?_
  rotate_left
  · (try dsimp only at hSw); go_simp <;> (with_reducible rfl)
  (try simp only [Act.put, List.setIfInBounds_toArray, List.set_cons_zero, List.set_cons_succ])
  refine rg_do 2 rfl (by kernel_rfl) (by rfl) (fun K hK => ?_)
  go_simp
  (go_at_call 37; (with_reducible refine (in_any c _).mono ?_); (rintro e w102 ⟨rfl, hb2⟩))
  refine hK.out _ _ (mS_call hb2 hHeld rfl) (fun hHeld => ?_)
  clear hK K
  (try simp only [Act.put, List.setIfInBounds_toArray, List.set_cons_zero, List.set_cons_succ])
  refine rg_do 7 rfl (by kernel_rfl) (by rfl) (fun K hK => ?_)
  go_simp
  (go_at_call 37; (with_reducible refine (in_any i _).mono ?_); (rintro e w107 ⟨rfl, hb7⟩))
  refine hK.out _ _ (mS_call hb7 hHeld rfl) (fun hHeld => ?_)
  clear hK K
  (try simp only [Act.put, List.setIfInBounds_toArray, List.set_cons_zero, List.set_cons_succ])
  refine rg_do 11 rfl (by kernel_rfl) (by rfl) (fun K hK => ?_)
  go_simp
  (go_at_call 37; (with_reducible refine (in_any y _).mono ?_); (rintro e w111 ⟨rfl, hb11⟩))
  refine hK.out _ _ (mS_call hb11 hHeld rfl) (fun hHeld => ?_)
  clear hK K
  (try simp only [Act.put, List.setIfInBounds_toArray, List.set_cons_zero, List.set_cons_succ])
  refine rg_do 12 rfl (by kernel_rfl) (by rfl) (fun K hK => ?_)
  refine step_rows 39 42 5 _ rfl 5 iV _ Try.underlying39 jiV jzV jsV #[.int .i64 3, .int .i64 c, .string ⟨#[]⟩, .slice none 0 0, .slice none 0 0, .int .i64 3, .int .i64 mo, .string ⟨#[]⟩, .slice none 0 0, .slice none 0 0, .int .i64 3, .int .i64 le, .string ⟨#[]⟩, .slice none 0 0, .slice none 0 0, .int .i64 3, .int .i64 i, .string ⟨#[]⟩, .slice none 0 0, .slice none 0 0, .int .i64 3, .int .i64 y, .string ⟨#[]⟩, .slice none 0 0, .slice none 0 0] (fillB5 _ _ _ _ _ _ _ _ _ _ _ _ _ _ _ _ _ _ _ _ _ _ _ _ _ rfl rfl rfl rfl rfl) rfl (by decide) (by decide) ?_
  intro g112 w112 hge112 sh112 hl112 hb12
  refine hK.out _ _ (mS_call hb12 hHeld rfl) (fun hHeld => ?_)
  clear hK K
  (try simp only [Act.put, List.setIfInBounds_toArray, List.set_cons_zero, List.set_cons_succ])
  refine rg_in 13 rfl (by kernel_rfl) (by kernel_rfl) (by kernel_rfl) (by rfl) (v := ?_) (fun _ _ _ h => h) hHeld (fun w hSw => ?_) ?_
  rotate_left
  · (try dsimp only at hSw); go_simp <;> (with_reducible rfl)
  (try simp only [Act.put, List.setIfInBounds_toArray, List.set_cons_zero, List.set_cons_succ])
  refine wpAnyH_done (by kernel_rfl) ?_ _
  have hz9 : w.heap.size + 1 < w9.heap.size := World.block_lt_of_cell? _ _ P1.out.1.1
  have hz12 : w9.heap.size ≤ w112.heap.size := hHeld.size
  have y2 : w9.heap.size ≤ w102.heap.size := hb2.size
  have y7 := hb7.size
  have y11 := hb11.size
  obtain ⟨⟨d0, d1, d2, d3, d4⟩, f0, f1, f2, f3, f4⟩ := (P1.out.below hHeld rfl).alloc (.cells #[.string ⟨#[99, 111, 117, 110, 116]⟩, .string ⟨#[109, 97, 120]⟩, .string ⟨#[109, 105, 110]⟩, .string ⟨#[110, 117, 109, 98, 101, 114, 115]⟩, .string ⟨#[115, 117, 109]⟩] 9)
  have hbZ := below_set5 ((hbX.trans (hHeld.mono hbX.size)).alloc (by have := hbX.size; omega) (.cells #[.string ⟨#[99, 111, 117, 110, 116]⟩, .string ⟨#[109, 97, 120]⟩, .string ⟨#[109, 105, 110]⟩, .string ⟨#[110, 117, 109, 98, 101, 114, 115]⟩, .string ⟨#[115, 117, 109]⟩] 9)) (Nat.le_succ _) (a := .int .i64 6) (b := .int .i64 0) (c := .string ⟨#[]⟩) (d := .slice (some ⟨g112, 0, none⟩) 5 5) (e := .slice (some ⟨w112.heap.size, 0, none⟩) 5 5)
  have hS1 := (sh112.alloc hl112 (.cells #[.string ⟨#[99, 111, 117, 110, 116]⟩, .string ⟨#[109, 97, 120]⟩, .string ⟨#[109, 105, 110]⟩, .string ⟨#[110, 117, 109, 98, 101, 114, 115]⟩, .string ⟨#[115, 117, 109]⟩] 9)).far5 (show w.heap.size + 1 ≠ g112 by omega) (.int .i64 6) (.int .i64 0) (.string ⟨#[]⟩) (.slice (some ⟨g112, 0, none⟩) 5 5) (.slice (some ⟨w112.heap.size, 0, none⟩) 5 5)
  have hS2 := (shows_lit w112 #[.string ⟨#[99, 111, 117, 110, 116]⟩, .string ⟨#[109, 97, 120]⟩, .string ⟨#[109, 105, 110]⟩, .string ⟨#[110, 117, 109, 98, 101, 114, 115]⟩, .string ⟨#[115, 117, 109]⟩] 9 5 1 w112.heap.size rfl rfl).far5 (show w.heap.size + 1 ≠ w112.heap.size by omega) (.int .i64 6) (.int .i64 0) (.string ⟨#[]⟩) (.slice (some ⟨g112, 0, none⟩) 5 5) (.slice (some ⟨w112.heap.size, 0, none⟩) 5 5)
  have hzz : Array.size (World.heap ((((((w112.alloc (.cells #[.string ⟨#[99, 111, 117, 110, 116]⟩, .string ⟨#[109, 97, 120]⟩, .string ⟨#[109, 105, 110]⟩, .string ⟨#[110, 117, 109, 98, 101, 114, 115]⟩, .string ⟨#[115, 117, 109]⟩] 9)).setCell ⟨w.heap.size + 1, 0, none⟩ (.int .i64 6)).setCell ⟨w.heap.size + 1, 1, none⟩ (.int .i64 0)).setCell ⟨w.heap.size + 1, 2, none⟩ (.string ⟨#[]⟩)).setCell ⟨w.heap.size + 1, 3, none⟩ (.slice (some ⟨g112, 0, none⟩) 5 5)).setCell ⟨w.heap.size + 1, 4, none⟩ (.slice (some ⟨w112.heap.size, 0, none⟩) 5 5))) = w112.heap.size + 1 := by rw [set5_size, World.size_alloc]
  clear pa0 pa1 pa3 pb0 pb1 pb2 pb3 pb4 pc0 pc1 pc2 pc3 pc4
  go_wp2
  refine bodyPost_ret (v := .tuple #[.agg #[.int .i64 6, .int .i64 0, .string ⟨#[]⟩, .slice (some ⟨g112, 0, none⟩) 5 5, .slice (some ⟨w112.heap.size, 0, none⟩) 5 5], .bool true]) ?_ rfl ⟨g112, w112.heap.size, rfl, hS1.more (by rw [hzz]; omega), hS2.more (by rw [hzz]; exact Nat.le_refl _), hbZ⟩
  simp [results, Try.results20, go_sem, *]
end Go.Proofs.Ytinaecmpigenoaa
/-
  make and copy on rows of the call's own. No program in sight.
-/
namespace Go.Proofs.Ytinaecmpigenoaa
open Go.RowKit

section
variable {w : World} {base : Nat} {e : TypeId} {size : Nat}
theorem own_made (w : World) (cs : Array Value) (n cap : Nat) (hb : base ≤ w.heap.size) (hn : n ≤ cap) (hm : cap ≤ maxLen) (hs : cs.size = cap * size) :
    (w.alloc (.cells cs e)).ownsRow base e size (.slice (some ⟨w.heap.size, 0, none⟩) n cap) n (cs.toList.take (n * size)) :=
  ⟨by rw [List.length_take, Array.length_toList, hs]; exact Nat.min_eq_left (Nat.mul_le_mul_right _ hn), .inr ⟨w.heap.size, cap, cs, rfl, hb, heap_alloc_new w _, hn, hm, hs, rfl⟩⟩
theorem own_zeros (w : World) (z : Value) (n cap : Nat) (hb : base ≤ w.heap.size) (hn : n ≤ cap) (hm : cap ≤ maxLen) :
    (w.alloc (.cells (madeCells #[z] cap) e)).ownsRow base e 1 (.slice (some ⟨w.heap.size, 0, none⟩) n cap) n (List.replicate n z) := by
  have h := own_made (base := base) (e := e) (size := 1) w (madeCells #[z] cap) n cap hb hn hm (by rw [size_madeCells, Nat.mul_one])
  rw [toList_madeCells_one, List.take_replicate, Nat.mul_one, Nat.min_eq_left hn] at h
  exact h
end

section
variable {P : Program} {w : World}
/-- 'make' of a slice of elements of one cell. -/
theorem run_make_one {t e : TypeId} {i : TypeInfo} {z : Value} (ht : P.underlying t = some (.slice e)) (hi : P.info? e = some i) (hz : i.zero = some z) (hz1 : z.cells = #[z]) (h1 : i.size = 1)
    (kl kc : IntKind) (l c : Int) (h0 : 0 ≤ l) (hlc : l ≤ c) (hbytes : (i.bytes : Int) * c ≤ 281474976710656) (h63 : c ≤ 9223372036854775807) (w : World) :
    (Instr.makeSlice t (.int kl l) (.int kc c)).run P w = .ok (.slice (some ⟨w.heap.size, 0, none⟩) l.toNat c.toNat) (w.alloc (.cells (madeCells #[z] c.toNat) e)) := by
  have h := run_make (P := P) w t e i z ht hi hz kl kc l c h0 hlc hbytes h63
  rw [hz1, h1, Nat.mul_one] at h
  exact h

theorem splice_take {α : Type} (L cs : List α) (off n : Nat) (h : off + cs.length ≤ n) (hn : n ≤ L.length) : (splice L off cs).take n = splice (L.take n) off cs := by
  unfold splice
  rw [List.take_append, List.take_append, List.length_take, Nat.min_eq_left (by omega), List.take_of_length_le (l := L.take off) (by rw [List.length_take]; omega), List.take_of_length_le (l := cs) (by omega), List.take_take, Nat.min_eq_left (by omega), List.drop_take]
  congr 3
  omega

/-- 'copy' into a row of the call's own. -/
theorem wp_copy_shows {o : Oper} {a : Act} {K : Act → World → Prop} {Q : Exit → Act → World → Prop} (d s : Operand) (dT sT : TypeId)
    (ho : o.op = .call { callee := .builtin .copy, args := #[d, s], argTypes := #[dT, sT] }) (elem : TypeId) (hu : P.underlying dT = some (.slice elem)) (hsz : (P.info? elem).map (·.size) = some 1)
    (base : Nat) (e : TypeId) (g n cap : Nat) (xs : List Value) (hown : w.ownsRow base e 1 (.slice (some ⟨g, 0, none⟩) n cap) n xs)
    (off : Nat) (dp : Option Addr) (dLen dCap : Nat) (hd : a.eval d = .slice dp dLen dCap) (hdp : 0 < dLen → dp = some ⟨g, off, none⟩) (hfit : off + dLen ≤ n)
    (B : Nat) (sp : Option Addr) (sLen sCap : Nat) (news : List Value) (hs : a.eval s = .slice sp sLen sCap) (hr : Shows w B 1 sp sLen news) (h1 : ∀ v ∈ news, v.oneCell' = true)
    (h : ∀ w', w'.ownsRow base e 1 (.slice (some ⟨g, 0, none⟩) n cap) n (splice xs off (news.take dLen)) → w.grownBy w' (some g) → Below base w w' → K (a.put o.dst (goInt ((min sLen dLen : Nat) : Int))) w') :
    o.wp P a w K Q := by
  obtain ⟨hlen, hform⟩ := hown
  rcases hform with ⟨h', _⟩ | ⟨g', cap', cur, h', hbg, hg, hnc, hcm, hcs, htake⟩
  · simp at h'
  · simp only [Value.slice.injEq, Option.some.injEq, Addr.mk.injEq, and_true, true_and] at h'
    obtain ⟨rfl, rfl⟩ := h'
    have hl : (news.take dLen).length = Nat.min sLen dLen := by
      rw [List.length_take, hr.1, Nat.mul_one]
      exact Nat.min_comm _ _
    have hle : (news.take dLen).length ≤ dLen := by rw [hl]; exact Nat.min_le_right _ _
    have hcl : cur.toList.length = cap := by rw [Array.length_toList, hcs, Nat.mul_one]
    have e0 : (goInt ((news.take dLen).length : Nat)) = goInt ((min sLen dLen : Nat) : Int) := by rw [hl]
    by_cases hz : (news.take dLen).length = 0
    · have hrun := run_copy_none (P := P) w dT sT o.type elem dp sp dLen dCap sLen sCap hu hsz (by rw [← hl]; exact hz)
      have hnil : news.take dLen = [] := List.eq_nil_of_length_eq_zero hz
      have hm0 : min sLen dLen = 0 := by rw [hl] at hz; exact hz
      unfold Oper.wp
      simp [execOp, ho, resolve, invoke, builtin, hd, hs, hrun, Result.andThen]
      have hx := h w ⟨by rw [hnil]; simpa [splice] using hlen, .inr ⟨g, cap, cur, rfl, hbg, hg, hnc, hcm, hcs, by rw [hnil]; simpa [splice] using htake⟩⟩ (World.grownBy.refl w _) (Below.refl _ _)
      rw [hm0] at hx
      exact hx
    · have hpos : 0 < Nat.min sLen dLen := by omega
      have hs0 : 0 < sLen := Nat.lt_of_lt_of_le hpos (Nat.min_le_left _ _)
      have hd0 : 0 < dLen := Nat.lt_of_lt_of_le hpos (Nat.min_le_right _ _)
      obtain rfl := hdp hd0
      obtain ⟨b, so, rfl, _, hc⟩ := hr.2 hs0
      have hrun := run_copy_row (P := P) w dT sT o.type elem g off dLen dCap ⟨b, so, none⟩ sLen sCap cur e (news.take dLen) hu hsz hg hl
        (fun j v hj => by
          rw [addr_add]
          rw [List.getElem?_take] at hj
          split at hj
          · exact hc j v hj
          · cases hj) (by rw [hcs]; omega) (fun v hv => h1 v (List.mem_of_mem_take hv))
      unfold Oper.wp
      simp only [execOp, ho, resolve, invoke, builtin, hd, hs, hrun, Sem.run_bind, Sem.run_pure, Result.andThen_ok, List.map_toArray, List.map_cons, List.map_nil]
      rw [e0]
      refine (h _ ⟨?_, .inr ⟨g, cap, _, rfl, hbg, setRow_heap w g cur _ e _ hg, hnc, hcm, ?_, ?_⟩⟩ ?_ ?_)
      · rw [length_splice _ _ _ (by omega), hlen]
      · have := length_splice cur.toList off (news.take dLen) (by omega)
        unfold splice at this
        rw [← List.append_assoc] at this
        simp only [List.size_toArray]
        omega
      · have := splice_take cur.toList (news.take dLen) off (n * 1) (by omega) (by omega)
        rw [htake] at this
        unfold splice at this ⊢
        rw [← List.append_assoc] at this
        exact this
      · exact ⟨rfl, rfl, rfl, by simp [World.setRow], fun k _ hk => setRow_other w g k _ (fun e => hk (by simp [e]))⟩
      · exact below_setRow (Below.refl _ _) hbg _

theorem wpList_copy_shows {ops : Array Oper} {rest : List Oper} {o : Oper} {a : Act} {Q : Exit → Act → World → Prop} (hgd : o.guard = none) (d s : Operand) (dT sT : TypeId)
    (ho : o.op = .call { callee := .builtin .copy, args := #[d, s], argTypes := #[dT, sT] }) (elem : TypeId) (hu : P.underlying dT = some (.slice elem)) (hsz : (P.info? elem).map (·.size) = some 1)
    (base : Nat) (e : TypeId) (g n cap : Nat) (xs : List Value) (hown : w.ownsRow base e 1 (.slice (some ⟨g, 0, none⟩) n cap) n xs)
    (off : Nat) (dp : Option Addr) (dLen dCap : Nat) (hd : a.eval d = .slice dp dLen dCap) (hdp : 0 < dLen → dp = some ⟨g, off, none⟩) (hfit : off + dLen ≤ n)
    (B : Nat) (sp : Option Addr) (sLen sCap : Nat) (news : List Value) (hs : a.eval s = .slice sp sLen sCap) (hr : Shows w B 1 sp sLen news) (h1 : ∀ v ∈ news, v.oneCell' = true)
    (h : ∀ w', w'.ownsRow base e 1 (.slice (some ⟨g, 0, none⟩) n cap) n (splice xs off (news.take dLen)) → w.grownBy w' (some g) → Below base w w' → wpList P ops Q rest (a.put o.dst (goInt ((min sLen dLen : Nat) : Int))) w') :
    wpList P ops Q (o :: rest) a w :=
  wpList_plain hgd fun _ hK => wp_copy_shows d s dT sT ho elem hu hsz base e g n cap xs hown off dp dLen dCap hd hdp hfit B sp sLen sCap news hs hr h1 fun w' h2 h3 h4 => hK _ _ (h w' h2 h3 h4)

theorem step_copy_shows {ops : Array Oper} {o : Oper} {a : Act} {K : Act → World → Prop} {Q : Exit → Act → World → Prop} {E : Prop} (hgd : o.guard = none) (d s : Operand) (dT sT : TypeId)
    (ho : o.op = .call { callee := .builtin .copy, args := #[d, s], argTypes := #[dT, sT] }) (elem : TypeId) (hu : P.underlying dT = some (.slice elem)) (hsz : (P.info? elem).map (·.size) = some 1)
    (base : Nat) (e : TypeId) (g n cap : Nat) (xs : List Value) (hown : w.ownsRow base e 1 (.slice (some ⟨g, 0, none⟩) n cap) n xs)
    (off : Nat) (dp : Option Addr) (dLen dCap : Nat) (hd : a.eval d = .slice dp dLen dCap) (hdp : 0 < dLen → dp = some ⟨g, off, none⟩) (hfit : off + dLen ≤ n)
    (B : Nat) (sp : Option Addr) (sLen sCap : Nat) (news : List Value) (hs : a.eval s = .slice sp sLen sCap) (hr : Shows w B 1 sp sLen news) (h1 : ∀ v ∈ news, v.oneCell' = true)
    (h : ∀ w', w'.ownsRow base e 1 (.slice (some ⟨g, 0, none⟩) n cap) n (splice xs off (news.take dLen)) → w.grownBy w' (some g) → Below base w w' → K (a.put o.dst (goInt ((min sLen dLen : Nat) : Int))) w') :
    if Region.wanted o (yielded ops a.tmps) = true then Oper.wp P o a w K Q else E := by
  have hw : Region.wanted o (yielded ops a.tmps) = true := by simp [Region.wanted, hgd]
  rw [if_pos hw]
  exact wp_copy_shows d s dT sT ho elem hu hsz base e g n cap xs hown off dp dLen dCap hd hdp hfit B sp sLen sCap news hs hr h1 h
end
end Go.Proofs.Ytinaecmpigenoaa
/-
  Layer 1, the reference: Is, Bytes, Starts.
-/
namespace Go.Proofs.Ytinaecmpigenoaa
open Go.RowKit

set_option maxRecDepth 20000 in
theorem is_any (n : Int) (w : World) : Calls Try.prog 59 #[.int .i64 n] w fun e w' => e = .returned (.bool (isCp n)) ∧ w' = w := by
  by_cases h0 : 0 ≤ n
  · by_cases h1 : n ≤ 1114111
    · by_cases h2 : 55296 ≤ n
      · by_cases h3 : n ≤ 57343
        · have h : isCp n = false := by unfold isCp; simp; omega
          rw [h]
          go_enter Try.func59, Try.ntmps59
          go_wp2
          go_ret
          exact ⟨rfl, rfl⟩
        · have h : isCp n = true := by unfold isCp; simp; omega
          rw [h]
          go_enter Try.func59, Try.ntmps59
          go_wp2
          go_ret
          exact ⟨rfl, rfl⟩
      · have h : isCp n = true := by unfold isCp; simp; omega
        rw [h]
        go_enter Try.func59, Try.ntmps59
        go_wp2
        go_ret
        exact ⟨rfl, rfl⟩
    · have h : isCp n = false := by unfold isCp; simp; omega
      rw [h]
      go_enter Try.func59, Try.ntmps59
      go_wp2
      go_ret
      exact ⟨rfl, rfl⟩
  · have h : isCp n = false := by unfold isCp; simp; omega
    rw [h]
    go_enter Try.func59, Try.ntmps59
    go_wp2
    go_ret
    exact ⟨rfl, rfl⟩

theorem gives_new (w : World) (l : List UInt8) (C : Array Value) (hC : C.toList = l.map bv) (hl : l.length ≤ 1000) :
    (w.alloc (.cells C 5)).ownsRow w.heap.size 5 1 (.slice (some ⟨w.heap.size, 0, none⟩) l.length l.length) l.length (l.map bv) := by
  have hs : C.size = l.length := by rw [← Array.length_toList, hC]; simp
  have h := own_made (base := w.heap.size) (e := 5) (size := 1) w C l.length l.length (Nat.le_refl _) (Nat.le_refl _) (by unfold maxLen; omega) (by rw [hs, Nat.mul_one])
  rw [hC, List.take_of_length_le (by simp)] at h
  exact h
theorem bv_b8 (n : Nat) (h : n < 256) : bv (b8 n) = .int .u8 (n : Int) := by unfold bv; rw [b8_toNat n h]
set_option maxRecDepth 20000 in
set_option maxHeartbeats 1000000 in
theorem bytes_any (c : Nat) (hc : c ≤ 1114111) (w : World) : Calls Try.prog 60 #[.int .i64 (c : Int)] w (GivesBytes 5 (encL c) w) := by
  rcases (show c < 128 ∨ (128 ≤ c ∧ c < 2048) ∨ (2048 ≤ c ∧ c < 65536) ∨ 65536 ≤ c by omega) with h1 | ⟨h1, h2⟩ | ⟨h1, h2⟩ | h1
  · have e : (encL c).map bv = [.int .u8 ((c : Nat) : Int)] := by
      have e0 : encL c = [b8 (c)] := by unfold encL; rw [if_pos h1]
      rw [e0]
      show [bv (b8 (c))] = _
      rw [bv_b8 (c) (by omega)]
    have hn : (encL c).length = 1 := by have := congrArg List.length e; simpa using this
    have g := gives_new w (encL c) #[.int .u8 ((c : Nat) : Int)] (by rw [e]) (by omega)
    rw [hn] at g
    have k0 : (c : Int) < 128 := by omega
    have n0 : (0 : Int) ≤ (c : Int) := by omega
    have n1 : (c : Int) ≤ 1114111 := by omega
    have G := Lib.hid g
    clear e g hn h1 hc
    generalize (c : Int) = n at *
    go_enter Try.func60, Try.ntmps60
    go_wp2
    go_ret
    exact ⟨_, _, _, rfl, G.out, (Below.refl _ _).alloc (Nat.le_refl _) _⟩
  · have e : (encL c).map bv = [.int .u8 ((192 + c / 64 : Nat) : Int), .int .u8 ((128 + c % 64 : Nat) : Int)] := by
      have e0 : encL c = [b8 (192 + c / 64), b8 (128 + c % 64)] := by unfold encL; rw [if_neg (by omega), if_pos h2]
      rw [e0]
      show [bv (b8 (192 + c / 64)), bv (b8 (128 + c % 64))] = _
      rw [bv_b8 (192 + c / 64) (by omega), bv_b8 (128 + c % 64) (by omega)]
    have hn : (encL c).length = 2 := by have := congrArg List.length e; simpa using this
    have g := gives_new w (encL c) #[.int .u8 ((192 + c / 64 : Nat) : Int), .int .u8 ((128 + c % 64 : Nat) : Int)] (by rw [e]) (by omega)
    rw [hn] at g
    rw [show ((192 + c / 64 : Nat) : Int) = 192 + (c : Int) / 64 from by omega, show ((128 + c % 64 : Nat) : Int) = 128 + (c : Int) % 64 from by omega] at g
    have k0 : ¬ (c : Int) < 128 := by omega
    have k1 : (c : Int) < 2048 := by omega
    have n0 : (0 : Int) ≤ (c : Int) := by omega
    have n1 : (c : Int) ≤ 1114111 := by omega
    have G := Lib.hid g
    clear e g hn h1 hc h2
    generalize (c : Int) = n at *
    go_enter Try.func60, Try.ntmps60
    go_wp2
    go_ret
    exact ⟨_, _, _, rfl, G.out, (Below.refl _ _).alloc (Nat.le_refl _) _⟩
  · have e : (encL c).map bv = [.int .u8 ((224 + c / 4096 : Nat) : Int), .int .u8 ((128 + c / 64 % 64 : Nat) : Int), .int .u8 ((128 + c % 64 : Nat) : Int)] := by
      have e0 : encL c = [b8 (224 + c / 4096), b8 (128 + c / 64 % 64), b8 (128 + c % 64)] := by unfold encL; rw [if_neg (by omega), if_neg (by omega), if_pos h2]
      rw [e0]
      show [bv (b8 (224 + c / 4096)), bv (b8 (128 + c / 64 % 64)), bv (b8 (128 + c % 64))] = _
      rw [bv_b8 (224 + c / 4096) (by omega), bv_b8 (128 + c / 64 % 64) (by omega), bv_b8 (128 + c % 64) (by omega)]
    have hn : (encL c).length = 3 := by have := congrArg List.length e; simpa using this
    have g := gives_new w (encL c) #[.int .u8 ((224 + c / 4096 : Nat) : Int), .int .u8 ((128 + c / 64 % 64 : Nat) : Int), .int .u8 ((128 + c % 64 : Nat) : Int)] (by rw [e]) (by omega)
    rw [hn] at g
    rw [show ((224 + c / 4096 : Nat) : Int) = 224 + (c : Int) / 4096 from by omega, show ((128 + c / 64 % 64 : Nat) : Int) = 128 + (c : Int) / 64 % 64 from by omega, show ((128 + c % 64 : Nat) : Int) = 128 + (c : Int) % 64 from by omega] at g
    have k0 : ¬ (c : Int) < 128 := by omega
    have k1 : ¬ (c : Int) < 2048 := by omega
    have k2 : (c : Int) < 65536 := by omega
    have n0 : (0 : Int) ≤ (c : Int) := by omega
    have n1 : (c : Int) ≤ 1114111 := by omega
    have G := Lib.hid g
    clear e g hn h1 hc h2
    generalize (c : Int) = n at *
    go_enter Try.func60, Try.ntmps60
    go_wp2
    go_ret
    exact ⟨_, _, _, rfl, G.out, (Below.refl _ _).alloc (Nat.le_refl _) _⟩
  · have e : (encL c).map bv = [.int .u8 ((240 + c / 262144 : Nat) : Int), .int .u8 ((128 + c / 4096 % 64 : Nat) : Int), .int .u8 ((128 + c / 64 % 64 : Nat) : Int), .int .u8 ((128 + c % 64 : Nat) : Int)] := by
      have e0 : encL c = [b8 (240 + c / 262144), b8 (128 + c / 4096 % 64), b8 (128 + c / 64 % 64), b8 (128 + c % 64)] := by unfold encL; rw [if_neg (by omega), if_neg (by omega), if_neg (by omega)]
      rw [e0]
      show [bv (b8 (240 + c / 262144)), bv (b8 (128 + c / 4096 % 64)), bv (b8 (128 + c / 64 % 64)), bv (b8 (128 + c % 64))] = _
      rw [bv_b8 (240 + c / 262144) (by omega), bv_b8 (128 + c / 4096 % 64) (by omega), bv_b8 (128 + c / 64 % 64) (by omega), bv_b8 (128 + c % 64) (by omega)]
    have hn : (encL c).length = 4 := by have := congrArg List.length e; simpa using this
    have g := gives_new w (encL c) #[.int .u8 ((240 + c / 262144 : Nat) : Int), .int .u8 ((128 + c / 4096 % 64 : Nat) : Int), .int .u8 ((128 + c / 64 % 64 : Nat) : Int), .int .u8 ((128 + c % 64 : Nat) : Int)] (by rw [e]) (by omega)
    rw [hn] at g
    rw [show ((240 + c / 262144 : Nat) : Int) = 240 + (c : Int) / 262144 from by omega, show ((128 + c / 4096 % 64 : Nat) : Int) = 128 + (c : Int) / 4096 % 64 from by omega, show ((128 + c / 64 % 64 : Nat) : Int) = 128 + (c : Int) / 64 % 64 from by omega, show ((128 + c % 64 : Nat) : Int) = 128 + (c : Int) % 64 from by omega] at g
    have k0 : ¬ (c : Int) < 128 := by omega
    have k1 : ¬ (c : Int) < 2048 := by omega
    have k2 : ¬ (c : Int) < 65536 := by omega
    have n0 : (0 : Int) ≤ (c : Int) := by omega
    have n1 : (c : Int) ≤ 1114111 := by omega
    have G := Lib.hid g
    clear e g hn h1 hc
    generalize (c : Int) = n at *
    go_enter Try.func60, Try.ntmps60
    go_wp2
    go_ret
    exact ⟨_, _, _, rfl, G.out, (Below.refl _ _).alloc (Nat.le_refl _) _⟩
end Go.Proofs.Ytinaecmpigenoaa
/-
  Layer 1, the reference: Starts; what Begin makes of k bytes, plain.
-/
namespace Go.Proofs.Ytinaecmpigenoaa
open Go.RowKit

def startsL (l pre : List UInt8) : Bool := decide (pre = l.take pre.length)
set_option maxRecDepth 20000 in
set_option maxHeartbeats 1000000 in
theorem refStarts_any (A1 A2 : Option Addr) (n1 c1 n2 c2 : Nat) (l1 l2 : List UInt8) (B1 B2 : Nat) (w : World) (h1 : Bytes w B1 A1 n1 l1) (h2 : Bytes w B2 A2 n2 l2) (hm1 : n1 ≤ maxLen) :
    Calls Try.prog 61 #[.slice A1 n1 c1, .slice A2 n2 c2] w fun e w' => e = .returned (.bool (startsL l1 l2)) ∧ ∃ k, w' = w.drewN k := by
  unfold maxLen at hm1
  by_cases hn : n2 ≤ n1
  · have hn' : ¬ (n1 : Int) < (n2 : Int) := by omega
    have hn2 : (n2 : Int) ≤ (n1 : Int) := by omega
    go_enter Try.func61, Try.ntmps61
    go_wp2
    go_loopw [5] (fun i wr => ∃ k : Nat, k ≤ n2 ∧ i = .int .i64 k ∧ l1.take k = l2.take k ∧ ∃ m, wr = w.drewN m) (fun i _ => n2 - (intOf i).toNat)
    case atStart => exact ⟨0, Nat.zero_le _, rfl, rfl, 0, rfl⟩
    case round =>
      obtain ⟨k, hk, rfl, ht, m, rfl⟩ := hrel
      by_cases hlt : k < n2
      · obtain ⟨b1, o1, rfl, _, hc1⟩ := h1.cell (k := k) (by omega)
        obtain ⟨b2, o2, rfl, _, hc2⟩ := h2.cell hlt
        have hl1 : k < l1.length := by have := h1.len; omega
        have hl2 : k < l2.length := by have := h2.len; omega
        have t1 : l1.take (k + 1) = l1.take k ++ [l1.getD k 0] := take_snoc l1 k hl1
        have t2 : l2.take (k + 1) = l2.take k ++ [l2.getD k 0] := take_snoc l2 k hl2
        have g1 := at8_lo l1 k
        have g2 := at8_hi l1 k
        have g3 := at8_lo l2 k
        have g4 := at8_hi l2 k
        have hk1 : (k : Int) < (n1 : Int) := by omega
        have hk2 : (k : Int) < (n2 : Int) := by omega
        by_cases hx : at8 l1 k = at8 l2 k
        · have hb : (at8 l1 k != at8 l2 k) = false := by rw [hx]; simp
          have ht' := Lib.hid (show l1.take (k + 1) = l2.take (k + 1) by rw [t1, t2, ht, at8_inj hx])
          clear ht hx t1 t2
          go_wp2
          go_quiet (fail)
          go_wp2
          go_roundw
          case rel => exact ⟨k + 1, by omega, by go_num, ht'.out, _, rfl⟩
          case measure => simp [intOf]; omega
        · have hb : (at8 l1 k != at8 l2 k) = true := bne_iff_ne.2 hx
          have hs := Lib.hid (show startsL l1 l2 = false by
            unfold startsL
            apply decide_eq_false
            intro h
            apply hx
            have h' : l2.getD k 0 = l1.getD k 0 := by
              have h0 : l2.getD k 0 = (l1.take l2.length).getD k 0 := by rw [← h]
              rw [h0, List.getD_eq_getElem?_getD, List.getElem?_take, if_pos (by omega), ← List.getD_eq_getElem?_getD]
            unfold at8
            rw [h'])
          clear ht hx t1 t2
          go_wp2
          go_quiet (fail)
          go_wp2
          go_ret
          exact ⟨by rw [hs.out]; rfl, _, World.drewN_drewN _ _ _⟩
      · have hk' : k = n2 := by omega
        have hs := Lib.hid (show startsL l1 l2 = true by
          unfold startsL
          apply decide_eq_true
          have e2 := h2.len
          rw [hk', List.take_of_length_le (l := l2) (by omega)] at ht
          rw [e2]
          exact ht.symm)
        clear hk' ht
        go_wp2
        go_ret
        exact ⟨by rw [hs.out]; rfl, _, rfl⟩
  · have hn' : (n1 : Int) < (n2 : Int) := by omega
    have hs : startsL l1 l2 = false := by
      unfold startsL
      apply decide_eq_false
      intro h
      have := congrArg List.length h
      have e1 := h1.len
      have e2 := h2.len
      rw [List.length_take] at this
      omega
    rw [hs]
    go_enter Try.func61, Try.ntmps61
    go_wp2
    go_ret
    exact ⟨rfl, 0, rfl⟩

/-- The modulus of the first of k bytes. -/
def mod1 : Nat → Nat | 2 => 32 | 3 => 16 | 4 => 8 | _ => 1000
/-- The number that j of k bytes give. -/
def partB (l : List UInt8) (k : Nat) : Nat → Nat
  | 0 => 0
  | 1 => if k = 1 then (l.getD 0 0).toNat else (l.getD 0 0).toNat % mod1 k
  | j + 2 => partB l k (j + 1) * 64 + (l.getD (j + 1) 0).toNat % 64
theorem partB_succ (l : List UInt8) (k j : Nat) (h : 1 ≤ j) : partB l k (j + 1) = partB l k j * 64 + (l.getD j 0).toNat % 64 := by
  match j, h with
  | j + 1, _ => rfl
theorem partB_lt (l : List UInt8) (k j : Nat) (hj : j ≤ 4) : partB l k j < 300000000 := by
  have p0 : partB l k 0 = 0 := rfl
  have p1 : partB l k 1 < 1000 := by
    have h := (l.getD 0 0).toNat_lt
    show (if k = 1 then (l.getD 0 0).toNat else (l.getD 0 0).toNat % mod1 k) < 1000
    split
    · omega
    · have := Nat.mod_le (l.getD 0 0).toNat (mod1 k)
      omega
  have p2 := partB_succ l k 1 (by omega)
  have p3 := partB_succ l k 2 (by omega)
  have p4 := partB_succ l k 3 (by omega)
  rcases (show j = 0 ∨ j = 1 ∨ j = 2 ∨ j = 3 ∨ j = 4 by omega) with rfl | rfl | rfl | rfl | rfl
  · omega
  · omega
  · simp only [Nat.reduceAdd] at p2; omega
  · simp only [Nat.reduceAdd] at p2 p3; omega
  · simp only [Nat.reduceAdd] at p2 p3 p4; omega
/-- Do k bytes begin with a code point of theirs? -/
def okK (l : List UInt8) (k : Nat) : Prop := isCp (partB l k k) = true ∧ (encL (partB l k k)).length = k ∧ startsL l (encL (partB l k k)) = true
theorem okK_dec {l : List UInt8} {k : Nat} (h : okK l k) : decL l = (partB l k k, k) := by
  obtain ⟨h1, h2, h3⟩ := h
  have h4 := of_decide_eq_true h3
  have h5 : l = encL (partB l k k) ++ l.drop k := by
    rw [h2] at h4
    conv => lhs; rw [← List.take_append_drop k l]
    rw [← h4]
  generalize partB l k k = c at *
  have := dec_enc c h1 (l.drop k)
  rw [← h5, h2] at this
  exact this
theorem dec_okK {l : List UInt8} {k : Nat} (h : (decL l).2 = k) (hk : k ≠ 0) : okK l k := by
  obtain ⟨hc, r, e, hn⟩ := enc_dec (l := l) (c := (decL l).1) (n := k) (by rw [← h]) hk
  generalize (decL l).1 = c at *
  have hcp := (isCp_iff _).1 hc
  have key : partB l k k = c := by
    rw [encL_len] at hn
    by_cases h1 : c < 128
    · rw [if_pos h1] at hn
      subst hn
      rw [e]
      unfold encL
      rw [if_pos h1]
      show (b8 c).toNat = c
      exact b8_toNat c (by omega)
    · rw [if_neg h1] at hn
      by_cases h2 : c < 2048
      · rw [if_pos h2] at hn
        subst hn
        rw [e]
        unfold encL
        rw [if_neg h1, if_pos h2]
        show (b8 _).toNat % 32 * 64 + (b8 _).toNat % 64 = c
        rw [b8_toNat (192 + c / 64) (by omega), b8_toNat (128 + c % 64) (by omega)]
        omega
      · rw [if_neg h2] at hn
        by_cases h3 : c < 65536
        · rw [if_pos h3] at hn
          subst hn
          rw [e]
          unfold encL
          rw [if_neg h1, if_neg h2, if_pos h3]
          show ((b8 _).toNat % 16 * 64 + (b8 _).toNat % 64) * 64 + (b8 _).toNat % 64 = c
          rw [b8_toNat (224 + c / 4096) (by omega), b8_toNat (128 + c / 64 % 64) (by omega), b8_toNat (128 + c % 64) (by omega)]
          omega
        · rw [if_neg h3] at hn
          subst hn
          rw [e]
          unfold encL
          rw [if_neg h1, if_neg h2, if_neg h3]
          show (((b8 _).toNat % 8 * 64 + (b8 _).toNat % 64) * 64 + (b8 _).toNat % 64) * 64 + (b8 _).toNat % 64 = c
          rw [b8_toNat (240 + c / 262144) (by omega), b8_toNat (128 + c / 4096 % 64) (by omega), b8_toNat (128 + c / 64 % 64) (by omega), b8_toNat (128 + c % 64) (by omega)]
          omega
  refine ⟨by rw [key]; exact hc, by rw [key]; exact hn.symm, ?_⟩
  rw [key]
  exact decide_eq_true (by rw [e]; simp)
end Go.Proofs.Ytinaecmpigenoaa
