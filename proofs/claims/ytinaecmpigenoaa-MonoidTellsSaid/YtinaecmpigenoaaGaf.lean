import Derived.Test.YtinaecmpigenoaaGae
import Derived.Deep.RegionHeld3
import Derived.Test.YtinaecmpigenoaaGaa
/-
  Package monoid: stats.
-/
namespace Go.Proofs.Ytinaecmpigenoaa
open Go.RowKit
attribute [local go_sem ↓] Go.wp_at_zero Go.wp_at_succ

theorem five_at {B : Nat} {w w1 : World} {a b c d e : Value} {t : TypeId} (hb : Below B (w.alloc (.cells #[a, b, c, d, e] t)) w1) (hB : B = (w.alloc (.cells #[a, b, c, d, e] t)).heap.size) : Five w1 w.heap.size a b c d e := by
  subst hB
  exact (Five.new w a b c d e t _ rfl).below hb rfl
/-- The names of stats' parts. -/
def statKeys : List Value := [.string ⟨#[99, 111, 117, 110, 116]⟩, .string ⟨#[109, 97, 120]⟩, .string ⟨#[109, 105, 110]⟩, .string ⟨#[110, 117, 109, 98, 101, 114, 115]⟩, .string ⟨#[115, 117, 109]⟩]
/-- The parts of stats: count, greatest, least, numbers, sum. -/
def statKids (c k1 x1 k2 x2 i y : Int) : List Value := [.int .i64 3, .int .i64 c, .string ⟨#[]⟩, .slice none 0 0, .slice none 0 0, .int .i64 k1, .int .i64 x1, .string ⟨#[]⟩, .slice none 0 0, .slice none 0 0, .int .i64 k2, .int .i64 x2, .string ⟨#[]⟩, .slice none 0 0, .slice none 0 0, .int .i64 3, .int .i64 i, .string ⟨#[]⟩, .slice none 0 0, .slice none 0 0, .int .i64 3, .int .i64 y, .string ⟨#[]⟩, .slice none 0 0, .slice none 0 0]
theorem shows_lit (X : World) (C : Array Value) (t : TypeId) (n size g : Nat) (hC : C.size = n * size) (hg : X.heap.size = g) : Shows (X.alloc (.cells C t)) (X.heap.size + 1) size (some ⟨g, 0, none⟩) n C.toList := by
  subst hg
  refine ⟨by simpa using hC, fun _ => ⟨X.heap.size, 0, rfl, by omega, fun j u hu => ?_⟩⟩
  rw [Nat.zero_add]
  refine (World.cell?_alloc_new X C t j).trans ?_
  simpa using hu
theorem Shows.far {w : World} {B size n b off : Nat} {xs : List Value} (h : Shows w B size (some ⟨b, off, none⟩) n xs) {p : Addr} (hp : p.block ≠ b) (u : Value) : Shows (w.setCell p u) B size (some ⟨b, off, none⟩) n xs := by
  refine ⟨h.1, fun hn => ?_⟩
  obtain ⟨b', off', e, hb, hc⟩ := h.2 hn
  injection e with e
  injection e with e1 e2
  subst e1 e2
  exact ⟨b, off, rfl, hb, fun j u' hu => (World.cell?_setCell_other w p _ u (fun e => hp (by rw [e]))).trans (hc j u' hu)⟩
theorem Shows.far5 {w : World} {B size n b off g : Nat} {xs : List Value} (h : Shows w B size (some ⟨b, off, none⟩) n xs) (hp : g ≠ b) (u0 u1 u2 u3 u4 : Value) :
    Shows (((((w.setCell ⟨g, 0, none⟩ u0).setCell ⟨g, 1, none⟩ u1).setCell ⟨g, 2, none⟩ u2).setCell ⟨g, 3, none⟩ u3).setCell ⟨g, 4, none⟩ u4) B size (some ⟨b, off, none⟩) n xs :=
  ((((h.far (p := ⟨g, 0, none⟩) hp u0).far (p := ⟨g, 1, none⟩) hp u1).far (p := ⟨g, 2, none⟩) hp u2).far (p := ⟨g, 3, none⟩) hp u3).far (p := ⟨g, 4, none⟩) hp u4
theorem five_shows {w : World} {g : Nat} {a b c d e : Value} (h : Five w g a b c d e) : Shows w w.heap.size 1 (some ⟨g, 0, none⟩) 5 [a, b, c, d, e] := by
  obtain ⟨⟨r0, r1, r2, r3, r4⟩, -⟩ := h
  refine ⟨rfl, fun _ => ⟨g, 0, rfl, World.block_lt_of_cell? w _ r0, fun j u hu => ?_⟩⟩
  match j, hu with
  | 0, hu => simp at hu; subst hu; exact r0
  | 1, hu => simp at hu; subst hu; exact r1
  | 2, hu => simp at hu; subst hu; exact r2
  | 3, hu => simp at hu; subst hu; exact r3
  | 4, hu => simp at hu; subst hu; exact r4
  | j + 5, hu => simp at hu
theorem T_alloc {W0 w1 : World} {g : Nat} {o : Obj} (hg : g ≤ W0.heap.size) (h : Below g W0 w1) : Below g W0 (w1.alloc o) := h.alloc (Nat.le_trans hg h.size) _
theorem T_call {W0 w1 w2 : World} {B g : Nat} (hg : g ≤ W0.heap.size) (hb : Below B w1 w2) (h : Below g W0 w1) (hB : B = w1.heap.size) : Below g W0 w2 := h.trans (hb.mono (by rw [hB]; exact Nat.le_trans hg h.size))
/-- What stats hands back: an object of five parts. -/
def StatsP (w : World) (c k1 x1 k2 x2 i y : Int) (e : Ending) (w' : World) : Prop :=
  ∃ gk gs, e = .returned (.agg #[.int .i64 6, .int .i64 0, .string ⟨#[]⟩, .slice (some ⟨gk, 0, none⟩) 5 5, .slice (some ⟨gs, 0, none⟩) 5 5]) ∧ Shows w' w'.heap.size 5 (some ⟨gk, 0, none⟩) 5 (statKids c k1 x1 k2 x2 i y) ∧ Shows w' w'.heap.size 1 (some ⟨gs, 0, none⟩) 5 statKeys ∧ Below w.heap.size w w' ∧ w.heap.size + 1 < gk ∧ w.heap.size + 1 < gs

theorem set5_size (w : World) (g : Nat) (u0 u1 u2 u3 u4 : Value) : (((((w.setCell ⟨g, 0, none⟩ u0).setCell ⟨g, 1, none⟩ u1).setCell ⟨g, 2, none⟩ u2).setCell ⟨g, 3, none⟩ u3).setCell ⟨g, 4, none⟩ u4).heap.size = w.heap.size := by
  rw [size_set, size_set, size_set, size_set, size_set]
theorem stats_p1 {w W1 X : World} {gs gk : Nat} (c k1 x1 k2 x2 i y : Int) (t : TypeId) (hb : Below w.heap.size w W1) (hX : Below W1.heap.size W1 X) (hz : w.heap.size + 2 ≤ W1.heap.size) (kk : Five X gs (.string ⟨#[99, 111, 117, 110, 116]⟩) (.string ⟨#[109, 97, 120]⟩) (.string ⟨#[109, 105, 110]⟩) (.string ⟨#[110, 117, 109, 98, 101, 114, 115]⟩) (.string ⟨#[115, 117, 109]⟩)) (hgs : w.heap.size + 1 < gs) (hgk : X.heap.size = gk) :
    StatsP w c k1 x1 k2 x2 i y (.returned (.agg #[.int .i64 6, .int .i64 0, .string ⟨#[]⟩, .slice (some ⟨gk, 0, none⟩) 5 5, .slice (some ⟨gs, 0, none⟩) 5 5]))
      ((((((X.alloc (.cells #[.int .i64 3, .int .i64 c, .string ⟨#[]⟩, .slice none 0 0, .slice none 0 0, .int .i64 k1, .int .i64 x1, .string ⟨#[]⟩, .slice none 0 0, .slice none 0 0, .int .i64 k2, .int .i64 x2, .string ⟨#[]⟩, .slice none 0 0, .slice none 0 0, .int .i64 3, .int .i64 i, .string ⟨#[]⟩, .slice none 0 0, .slice none 0 0, .int .i64 3, .int .i64 y, .string ⟨#[]⟩, .slice none 0 0, .slice none 0 0] t)).setCell ⟨w.heap.size + 1, 0, none⟩ (.int .i64 6)).setCell ⟨w.heap.size + 1, 1, none⟩ (.int .i64 0)).setCell ⟨w.heap.size + 1, 2, none⟩ (.string ⟨#[]⟩)).setCell ⟨w.heap.size + 1, 3, none⟩ (.slice (some ⟨gk, 0, none⟩) 5 5)).setCell ⟨w.heap.size + 1, 4, none⟩ (.slice (some ⟨gs, 0, none⟩) 5 5)) := by
  have hs := hX.size
  have hbb := hb.trans (hX.mono hb.size)
  refine ⟨gk, gs, rfl, ?_, ?_, ?_, by omega, by omega⟩
  · refine Shows.far5 ?_ (by omega) _ _ _ _ _
    rw [set5_size]
    exact (shows_lit X #[.int .i64 3, .int .i64 c, .string ⟨#[]⟩, .slice none 0 0, .slice none 0 0, .int .i64 k1, .int .i64 x1, .string ⟨#[]⟩, .slice none 0 0, .slice none 0 0, .int .i64 k2, .int .i64 x2, .string ⟨#[]⟩, .slice none 0 0, .slice none 0 0, .int .i64 3, .int .i64 i, .string ⟨#[]⟩, .slice none 0 0, .slice none 0 0, .int .i64 3, .int .i64 y, .string ⟨#[]⟩, .slice none 0 0, .slice none 0 0] t 5 5 gk rfl hgk).more (by simp)
  · refine Shows.far5 ?_ (by omega) _ _ _ _ _
    rw [set5_size]
    exact ((five_shows kk).alloc (Nat.le_refl _) _).more (by simp)
  · exact below_set5 (hbb.alloc hbb.size _) (Nat.le_succ _)
theorem stats_p3 {w W1 X : World} {gs gk : Nat} (c k1 x1 k2 x2 i y : Int) (t t2 : TypeId) (hb : Below w.heap.size w W1) (hX : Below W1.heap.size W1 X) (hz : w.heap.size + 2 ≤ W1.heap.size) (hgk : X.heap.size = gk) (hgs : X.heap.size + 1 = gs) :
    StatsP w c k1 x1 k2 x2 i y (.returned (.agg #[.int .i64 6, .int .i64 0, .string ⟨#[]⟩, .slice (some ⟨gk, 0, none⟩) 5 5, .slice (some ⟨gs, 0, none⟩) 5 5]))
      (((((((X.alloc (.cells #[.int .i64 3, .int .i64 c, .string ⟨#[]⟩, .slice none 0 0, .slice none 0 0, .int .i64 k1, .int .i64 x1, .string ⟨#[]⟩, .slice none 0 0, .slice none 0 0, .int .i64 k2, .int .i64 x2, .string ⟨#[]⟩, .slice none 0 0, .slice none 0 0, .int .i64 3, .int .i64 i, .string ⟨#[]⟩, .slice none 0 0, .slice none 0 0, .int .i64 3, .int .i64 y, .string ⟨#[]⟩, .slice none 0 0, .slice none 0 0] t)).alloc (.cells #[.string ⟨#[99, 111, 117, 110, 116]⟩, .string ⟨#[109, 97, 120]⟩, .string ⟨#[109, 105, 110]⟩, .string ⟨#[110, 117, 109, 98, 101, 114, 115]⟩, .string ⟨#[115, 117, 109]⟩] t2)).setCell ⟨w.heap.size + 1, 0, none⟩ (.int .i64 6)).setCell ⟨w.heap.size + 1, 1, none⟩ (.int .i64 0)).setCell ⟨w.heap.size + 1, 2, none⟩ (.string ⟨#[]⟩)).setCell ⟨w.heap.size + 1, 3, none⟩ (.slice (some ⟨gk, 0, none⟩) 5 5)).setCell ⟨w.heap.size + 1, 4, none⟩ (.slice (some ⟨gs, 0, none⟩) 5 5)) := by
  have hs := hX.size
  have hbb := hb.trans (hX.mono hb.size)
  refine ⟨gk, gs, rfl, ?_, ?_, ?_, by omega, by omega⟩
  · refine Shows.far5 ?_ (by omega) _ _ _ _ _
    rw [set5_size]
    exact (((shows_lit X #[.int .i64 3, .int .i64 c, .string ⟨#[]⟩, .slice none 0 0, .slice none 0 0, .int .i64 k1, .int .i64 x1, .string ⟨#[]⟩, .slice none 0 0, .slice none 0 0, .int .i64 k2, .int .i64 x2, .string ⟨#[]⟩, .slice none 0 0, .slice none 0 0, .int .i64 3, .int .i64 i, .string ⟨#[]⟩, .slice none 0 0, .slice none 0 0, .int .i64 3, .int .i64 y, .string ⟨#[]⟩, .slice none 0 0, .slice none 0 0] t 5 5 gk rfl hgk).more (by simp)).alloc (Nat.le_refl _) _).more (by simp)
  · refine Shows.far5 ?_ (by omega) _ _ _ _ _
    rw [set5_size]
    exact (five_shows (Five.new (X.alloc (.cells #[.int .i64 3, .int .i64 c, .string ⟨#[]⟩, .slice none 0 0, .slice none 0 0, .int .i64 k1, .int .i64 x1, .string ⟨#[]⟩, .slice none 0 0, .slice none 0 0, .int .i64 k2, .int .i64 x2, .string ⟨#[]⟩, .slice none 0 0, .slice none 0 0, .int .i64 3, .int .i64 i, .string ⟨#[]⟩, .slice none 0 0, .slice none 0 0, .int .i64 3, .int .i64 y, .string ⟨#[]⟩, .slice none 0 0, .slice none 0 0] t)) (.string ⟨#[99, 111, 117, 110, 116]⟩) (.string ⟨#[109, 97, 120]⟩) (.string ⟨#[109, 105, 110]⟩) (.string ⟨#[110, 117, 109, 98, 101, 114, 115]⟩) (.string ⟨#[115, 117, 109]⟩) t2 gs (by simp; omega)))
  · exact below_set5 ((hbb.alloc hbb.size _).alloc (by simp; have := hbb.size; omega) _) (Nat.le_succ _)

set_option maxRecDepth 20000 in
set_option maxHeartbeats 8000000 in
theorem stats_any (c i v le mo k1 x1 k2 x2 y : Int) (w : World) (h1 : extV i mo = .agg #[.int .i64 k1, .int .i64 x1, .string ⟨#[]⟩, .slice none 0 0, .slice none 0 0]) (h2 : extV i le = .agg #[.int .i64 k2, .int .i64 x2, .string ⟨#[]⟩, .slice none 0 0, .slice none 0 0]) (hy : IntKind.i64.wrap (loI v) = y) :
    Calls Try.prog 49 #[.agg #[.int .i64 c, .int .i64 i, .int .i64 (hiI v), .int .u64 (loI v), .int .i64 le, .int .i64 mo]] w (StatsP w c k1 x1 k2 x2 i y) := by
  obtain ⟨hb0, h5⟩ := red_box w c i v le mo
  have e1 := fun W => extreme_any c i v le mo mo W
  have e2 := fun W => extreme_any c i v le mo le W
  rw [h1] at e1
  rw [h2] at e2
  have E1 := Lib.hid e1
  have E2 := Lib.hid e2
  have hn : ∀ (n : Int) (W : World), Calls Try.prog 44 #[.int .i64 n] W fun e w' => e = .returned (.agg #[.int .i64 3, .int .i64 n, .string ⟨#[]⟩, .slice none 0 0, .slice none 0 0]) ∧ Below W.heap.size W w' := fun n W => number_any n W
  have HN := Lib.hid hn
  have hsx := (Six.new w (.int .i64 c) (.int .i64 i) (.int .i64 (hiI v)) (.int .u64 (loI v)) (.int .i64 le) (.int .i64 mo) 24).alloc (.cells #[.int .i64 0, .int .i64 0, .string ⟨#[]⟩, .slice none 0 0, .slice none 0 0] 42)
  obtain ⟨W1, hW1⟩ : ∃ W1, (w.alloc (.cells #[.int .i64 c, .int .i64 i, .int .i64 (hiI v), .int .u64 (loI v), .int .i64 le, .int .i64 mo] 24)).alloc (.cells #[.int .i64 0, .int .i64 0, .string ⟨#[]⟩, .slice none 0 0, .slice none 0 0] 42) = W1 := ⟨_, rfl⟩
  rw [hW1] at hb0 h5 hsx
  have hz1 : w.heap.size + 2 ≤ W1.heap.size := by rw [← hW1]; simp
  have hle1 : w.heap.size ≤ w.heap.size + 1 := Nat.le_succ _
  have HW1 := Lib.hid hW1
  have HY := Lib.hid hy
  clear e1 e2 h1 h2 hn hW1 hy
  obtain ⟨⟨r0, r1, r2, r3, r4, r5⟩, -⟩ := hsx
  obtain ⟨⟨s0, s1, s2, s3, s4⟩, g0, g1, g2, g3, g4⟩ := h5
  have c0 : ∀ W, Below (w.heap.size + 1) W1 W → W.cell? ⟨w.heap.size, 0, none⟩ = some (.int .i64 c) := fun W h => (h.cell (p := ⟨w.heap.size, 0, none⟩) (Nat.lt_succ_self _)).trans r0
  have c1 : ∀ W, Below (w.heap.size + 1) W1 W → W.cell? ⟨w.heap.size, 1, none⟩ = some (.int .i64 i) := fun W h => (h.cell (p := ⟨w.heap.size, 1, none⟩) (Nat.lt_succ_self _)).trans r1
  have c2 : ∀ W, Below (w.heap.size + 1) W1 W → W.cell? ⟨w.heap.size, 2, none⟩ = some (.int .i64 (hiI v)) := fun W h => (h.cell (p := ⟨w.heap.size, 2, none⟩) (Nat.lt_succ_self _)).trans r2
  have c3 : ∀ W, Below (w.heap.size + 1) W1 W → W.cell? ⟨w.heap.size, 3, none⟩ = some (.int .u64 (loI v)) := fun W h => (h.cell (p := ⟨w.heap.size, 3, none⟩) (Nat.lt_succ_self _)).trans r3
  have c4 : ∀ W, Below (w.heap.size + 1) W1 W → W.cell? ⟨w.heap.size, 4, none⟩ = some (.int .i64 le) := fun W h => (h.cell (p := ⟨w.heap.size, 4, none⟩) (Nat.lt_succ_self _)).trans r4
  have c5 : ∀ W, Below (w.heap.size + 1) W1 W → W.cell? ⟨w.heap.size, 5, none⟩ = some (.int .i64 mo) := fun W h => (h.cell (p := ⟨w.heap.size, 5, none⟩) (Nat.lt_succ_self _)).trans r5
  have d0 : ∀ W, Below W1.heap.size W1 W → W.cell? ⟨w.heap.size + 1, 0, none⟩ = some (.int .i64 0) := fun W h => mkept_later h s0
  have d1 : ∀ W, Below W1.heap.size W1 W → W.cell? ⟨w.heap.size + 1, 1, none⟩ = some (.int .i64 0) := fun W h => mkept_later h s1
  have d2 : ∀ W, Below W1.heap.size W1 W → W.cell? ⟨w.heap.size + 1, 2, none⟩ = some (.string ⟨#[]⟩) := fun W h => mkept_later h s2
  have d3 : ∀ W, Below W1.heap.size W1 W → W.cell? ⟨w.heap.size + 1, 3, none⟩ = some (.slice none 0 0) := fun W h => mkept_later h s3
  have d4 : ∀ W, Below W1.heap.size W1 W → W.cell? ⟨w.heap.size + 1, 4, none⟩ = some (.slice none 0 0) := fun W h => mkept_later h s4
  have f0 : ∀ W, Below W1.heap.size W1 W → W.frozen? ⟨w.heap.size + 1, 0, none⟩ = false := fun W h => (h.frozen (p := ⟨w.heap.size + 1, 0, none⟩) (by show w.heap.size + 1 < _; omega)).trans g0
  have f1 : ∀ W, Below W1.heap.size W1 W → W.frozen? ⟨w.heap.size + 1, 1, none⟩ = false := fun W h => (h.frozen (p := ⟨w.heap.size + 1, 1, none⟩) (by show w.heap.size + 1 < _; omega)).trans g1
  have f2 : ∀ W, Below W1.heap.size W1 W → W.frozen? ⟨w.heap.size + 1, 2, none⟩ = false := fun W h => (h.frozen (p := ⟨w.heap.size + 1, 2, none⟩) (by show w.heap.size + 1 < _; omega)).trans g2
  have f3 : ∀ W, Below W1.heap.size W1 W → W.frozen? ⟨w.heap.size + 1, 3, none⟩ = false := fun W h => (h.frozen (p := ⟨w.heap.size + 1, 3, none⟩) (by show w.heap.size + 1 < _; omega)).trans g3
  have f4 : ∀ W, Below W1.heap.size W1 W → W.frozen? ⟨w.heap.size + 1, 4, none⟩ = false := fun W h => (h.frozen (p := ⟨w.heap.size + 1, 4, none⟩) (by show w.heap.size + 1 < _; omega)).trans g4
  clear r0 r1 r2 r3 r4 r5 s0 s1 s2 s3 s4 g0 g1 g2 g3 g4
  have hg1 : w.heap.size + 1 ≤ W1.heap.size := by omega
  have hS0 : Below W1.heap.size W1 W1.drew := (Below.refl _ _).drew
  have hS1 : ∀ o, Below W1.heap.size W1 (W1.alloc o).drew := fun o => ((Below.refl _ _).alloc (Nat.le_refl _) o).drew
  go_enter Try.func49, Try.ntmps49
  go_upto_region 1 with fail
  rw [HW1.out]
  clear HW1
  go_region_held3 (fun w' => Below (w.heap.size + 1) W1 w') (first | with_reducible assumption | with_reducible exact (Below.refl _ _).drew | with_reducible exact ((Below.refl _ _).alloc hg1 _).drew | ((with_reducible refine T_alloc hg1 ?_); with_reducible assumption) | ((with_reducible refine Below.mono (B := W1.heap.size) ?_ hg1); with_reducible assumption) | ((with_reducible refine below_set5 ?_ (Nat.le_refl _)); with_reducible assumption)) (first
    | (go_at_call 44; (with_reducible refine (HN.out _ _).mono ?_); rintro e wA ⟨rfl, hbA⟩; have hSA := mS_call (W0 := W1) hbA (by first | with_reducible assumption | with_reducible exact hS0 | with_reducible exact hS1 _ | ((with_reducible refine mS_alloc ?_); with_reducible assumption)) rfl; have hzA := hSA.size; have hSA1 := fun o => mS_alloc (o := o) hSA; have hSA2 := fun o o' => mS_alloc (o := o') (hSA1 o); (first | ((with_reducible have kk := Five.below kk hbA (by with_unfolding_all rfl)); obtain ⟨⟨q0, q1, q2, q3, q4⟩, -⟩ := id kk) | ((with_reducible have kk := five_at hbA (by with_unfolding_all rfl)); (try simp at kk); obtain ⟨⟨q0, q1, q2, q3, q4⟩, -⟩ := id kk) | ((with_reducible have kk := five_at (below_undrew hbA) (by with_unfolding_all rfl)); (try simp at kk); obtain ⟨⟨q0, q1, q2, q3, q4⟩, -⟩ := id kk) | skip))
    | (go_at_call 47; (with_reducible refine (E1.out _).mono ?_); rintro e wB ⟨rfl, hbB⟩; have hSB := mS_call (W0 := W1) hbB (by first | with_reducible assumption | with_reducible exact hS0 | with_reducible exact hS1 _ | ((with_reducible refine mS_alloc ?_); with_reducible assumption)) rfl; have hzB := hSB.size; have hSB1 := fun o => mS_alloc (o := o) hSB; have hSB2 := fun o o' => mS_alloc (o := o') (hSB1 o); (first | ((with_reducible have kk := Five.below kk hbB (by with_unfolding_all rfl)); obtain ⟨⟨q0, q1, q2, q3, q4⟩, -⟩ := id kk) | ((with_reducible have kk := five_at hbB (by with_unfolding_all rfl)); (try simp at kk); obtain ⟨⟨q0, q1, q2, q3, q4⟩, -⟩ := id kk) | ((with_reducible have kk := five_at (below_undrew hbB) (by with_unfolding_all rfl)); (try simp at kk); obtain ⟨⟨q0, q1, q2, q3, q4⟩, -⟩ := id kk) | skip))
    | (go_at_call 47; (with_reducible refine (E2.out _).mono ?_); rintro e wC ⟨rfl, hbC⟩; have hSC := mS_call (W0 := W1) hbC (by first | with_reducible assumption | with_reducible exact hS0 | with_reducible exact hS1 _ | ((with_reducible refine mS_alloc ?_); with_reducible assumption)) rfl; have hzC := hSC.size; have hSC1 := fun o => mS_alloc (o := o) hSC; have hSC2 := fun o o' => mS_alloc (o := o') (hSC1 o); (first | ((with_reducible have kk := Five.below kk hbC (by with_unfolding_all rfl)); obtain ⟨⟨q0, q1, q2, q3, q4⟩, -⟩ := id kk) | ((with_reducible have kk := five_at hbC (by with_unfolding_all rfl)); (try simp at kk); obtain ⟨⟨q0, q1, q2, q3, q4⟩, -⟩ := id kk) | ((with_reducible have kk := five_at (below_undrew hbC) (by with_unfolding_all rfl)); (try simp at kk); obtain ⟨⟨q0, q1, q2, q3, q4⟩, -⟩ := id kk) | skip)))
  all_goals
    go_wp2_with fail
    rw [HY.out]
    refine (fun v h p => bodyPost_ret (v := v) h rfl p) ?_ ?_ ?_
    rotate_left 1
    · simp [results, Try.results49, go_sem, *]
      rfl
    · first
        | with_reducible exact stats_p1 c k1 x1 k2 x2 i y _ hb0 hSA hz1 kk (by omega) rfl
        | with_reducible exact stats_p1 (X := wA.alloc _) c k1 x1 k2 x2 i y _ hb0 (hSA1 _) hz1 (Five.new _ _ _ _ _ _ _ _ (by with_unfolding_all rfl)) (by omega) (by simp)
        | with_reducible exact stats_p3 (X := wA) c k1 x1 k2 x2 i y _ _ hb0 hSA hz1 (by with_unfolding_all rfl) (by with_unfolding_all rfl)
end Go.Proofs.Ytinaecmpigenoaa
/-
  Package monoid: Tell, of all.
-/
namespace Go.Proofs.Ytinaecmpigenoaa
open Go.RowKit
attribute [local go_sem ↓] Go.wp_at_zero Go.wp_at_succ

/-- What Tell hands back of all: an object of five parts. -/
def TellP (w : World) (c k1 x1 k2 x2 i y : Int) (e : Ending) (w' : World) : Prop :=
  ∃ gk gs, e = .returned (.tuple #[.agg #[.int .i64 6, .int .i64 0, .string ⟨#[]⟩, .slice (some ⟨gk, 0, none⟩) 5 5, .slice (some ⟨gs, 0, none⟩) 5 5], .int .i64 0]) ∧ Shows w' w'.heap.size 5 (some ⟨gk, 0, none⟩) 5 (statKids c k1 x1 k2 x2 i y) ∧ Shows w' w'.heap.size 1 (some ⟨gs, 0, none⟩) 5 statKeys ∧ Below w.heap.size w w'
set_option maxRecDepth 20000 in
set_option maxHeartbeats 2000000 in
theorem tell_5 (c i v le mo : Int) (w : World) (hv : R128 v) (hle : R64 le) (hmo : R64 mo) (hval : validB c i v le mo = true) (k1 x1 k2 x2 y : Int) (h1 : extV i mo = .agg #[.int .i64 k1, .int .i64 x1, .string ⟨#[]⟩, .slice none 0 0, .slice none 0 0]) (h2 : extV i le = .agg #[.int .i64 k2, .int .i64 x2, .string ⟨#[]⟩, .slice none 0 0, .slice none 0 0]) (hy : IntKind.i64.wrap (loI v) = y) (ho : v = y) :
    Calls Try.prog 15 #[.int .i64 5, .agg #[.int .i64 c, .int .i64 i, .int .i64 (hiI v), .int .u64 (loI v), .int .i64 le, .int .i64 mo]] w (TellP w c k1 x1 k2 x2 i y) := by
  have hc := fun W => mvalid_any c i v le mo W hv hle hmo
  unfold redV at hc
  rw [hval] at hc
  obtain ⟨x0, Hsm⟩ : ∃ x0 : Int, Hid (smallV v = .tuple #[.int .i64 x0, .bool true]) := ⟨_, Lib.hid (by unfold smallV; rw [decide_eq_true (by rw [hy]; exact ho)])⟩
  have htl := fun W => stats_any c i v le mo k1 x1 k2 x2 y W h1 h2 hy
  have Htl := Lib.hid htl
  have Hc := Lib.hid hc
  obtain ⟨hbw, h5⟩ := red_box w c i v le mo
  have H5 := Lib.hid h5
  have hle1 : w.heap.size ≤ w.heap.size + 1 := Nat.le_succ _
  clear hval hc htl h5 h1 h2 hy ho
  go_enter Try.func15, Try.ntmps15
  go_wp2_with fail
  refine (Hc.out _).mono ?_
  rintro e w1 ⟨rfl, hb1⟩
  go_wp2_with fail
  refine (known_any 5 _).mono ?_
  rintro e w2 ⟨rfl, hb2⟩
  rw [show knownB 5 = true by decide]
  go_wp2_with fail
  refine (kinds_any _).mono ?_
  rintro e w3 ⟨rfl, hb3⟩
  have ik := kinds_at5 w3
  have hb03 := (hb1.trans (hb2.mono hb1.size)).trans (hb3.mono (Nat.le_trans hb1.size hb2.size))
  have hb3w : Below w.heap.size w w3 := hbw.trans (hb03.mono hbw.size)
  have hs4 : Six (w3.alloc (.cells #[.string ⟨#[95, 115, 116, 97, 116, 115]⟩, .bool true, .func (.func 49) #[] #[]] 80)) w.heap.size (.int .i64 c) (.int .i64 i) (.int .i64 (hiI v)) (.int .u64 (loI v)) (.int .i64 le) (.int .i64 mo) := (((Six.new w _ _ _ _ _ _ _).alloc _).below hb03 rfl).alloc _
  have H54 := Lib.hid ((H5.out.below hb03 rfl).alloc (.cells #[.string ⟨#[95, 115, 116, 97, 116, 115]⟩, .bool true, .func (.func 49) #[] #[]] 80))
  have Hs4 := Lib.hid hs4
  obtain ⟨⟨r0, r1, r2, r3, r4, r5⟩, -⟩ := hs4
  clear hbw hb1 hb2 hb3 H5
  go_wp2_with fail
  refine (total_agg c i v le mo _).mono ?_
  rintro e w5 ⟨rfl, hb5⟩
  go_wp2_with fail
  refine (small_any v _ hv).mono ?_
  rintro e w6 ⟨rfl, hb6⟩
  rw [Hsm.out]
  have hb56 := hb5.trans (hb6.mono hb5.size)
  have k1 : w6.cell? ⟨w3.heap.size, 1, none⟩ = some (.bool true) := mnew_later hb56 1 rfl
  have k2 : w6.cell? ⟨w3.heap.size, 2, none⟩ = some (.func (.func 49) #[] #[]) := mnew_later hb56 2 rfl
  have hs6 := Hs4.out.below hb56 rfl
  have H56 := Lib.hid (H54.out.below hb56 rfl)
  clear r0 r1 r2 r3 r4 r5 ik H54
  obtain ⟨⟨r0, r1, r2, r3, r4, r5⟩, -⟩ := hs6
  have hb6w : Below w.heap.size w w6 := (hb3w.alloc hb3w.size _).trans (hb56.mono (by simp; have := hb3w.size; omega))
  have sb6 := hb6w.size
  go_wp2_with fail
  refine (Htl.out _).mono ?_
  rintro e w7 ⟨gk, gs, rfl, hk, hs, hb7, hgk, hgs⟩
  obtain ⟨⟨e0, e1, e2, e3, e4⟩, f0, f1, f2, f3, f4⟩ := H56.out.below hb7 rfl
  have hb7w : Below w.heap.size w w7 := hb6w.trans (hb7.mono sb6)
  clear r0 r1 r2 r3 r4 r5 k1 k2 hb5 hb6 hb7 hb56 hb03 hb3w
  have Hk := Lib.hid hk
  have Hs := Lib.hid hs
  clear hk hs
  go_wp2
  refine bodyPost_ret (v := .tuple #[.agg #[.int .i64 6, .int .i64 0, .string ⟨#[]⟩, .slice (some ⟨gk, 0, none⟩) 5 5, .slice (some ⟨gs, 0, none⟩) 5 5], .int .i64 0]) ?_ rfl ⟨gk, gs, rfl, ?_, ?_, below_set5 hb7w hle1⟩
  · simp [results, Try.results15, go_sem, *]
  · refine Shows.far5 ?_ (by omega) _ _ _ _ _
    rw [set5_size]
    exact Hk.out
  · refine Shows.far5 ?_ (by omega) _ _ _ _ _
    rw [set5_size]
    exact Hs.out
set_option maxRecDepth 20000 in
set_option maxHeartbeats 2000000 in
theorem tell5_over (c i v le mo : Int) (w : World) (hv : R128 v) (hle : R64 le) (hmo : R64 mo) (hval : validB c i v le mo = true) (ho : ¬ v = IntKind.i64.wrap (loI v)) :
    Calls Try.prog 15 #[.int .i64 5, .agg #[.int .i64 c, .int .i64 i, .int .i64 (hiI v), .int .u64 (loI v), .int .i64 le, .int .i64 mo]] w fun e w' => e = .returned (.tuple #[.agg #[.int .i64 0, .int .i64 0, .string ⟨#[]⟩, .slice none 0 0, .slice none 0 0], .int .i64 5]) ∧ Below w.heap.size w w' := by
  have hc := fun W => mvalid_any c i v le mo W hv hle hmo
  unfold redV at hc
  rw [hval] at hc
  have hsm : smallV v = .tuple #[.int .i64 (IntKind.i64.wrap (loI v)), .bool false] := by unfold smallV; rw [decide_eq_false ho]
  have Hsm := Lib.hid hsm
  have Hc := Lib.hid hc
  clear hsm ho hval hc
  go_enter Try.func15, Try.ntmps15
  go_wp2_with fail
  refine (Hc.out _).mono ?_
  rintro e w1 ⟨rfl, hb1⟩
  go_wp2_with fail
  refine (known_any 5 _).mono ?_
  rintro e w2 ⟨rfl, hb2⟩
  rw [show knownB 5 = true by decide]
  go_wp2_with fail
  refine (kinds_any _).mono ?_
  rintro e w3 ⟨rfl, hb3⟩
  have i2 := kinds_at5 w3
  have hsz : (w.alloc (.cells #[.int .i64 c, .int .i64 i, .int .i64 (hiI v), .int .u64 (loI v), .int .i64 le, .int .i64 mo] 24)).heap.size = w.heap.size + 1 := by simp
  have hbw : Below w.heap.size w ((w.alloc (.cells #[.int .i64 c, .int .i64 i, .int .i64 (hiI v), .int .u64 (loI v), .int .i64 le, .int .i64 mo] 24)).alloc (.cells #[.int .i64 0, .int .i64 0, .string ⟨#[]⟩, .slice none 0 0, .slice none 0 0] 42)) := ((Below.refl _ _).alloc (Nat.le_refl _) _).alloc (by simp) _
  have hb03 := (hb1.trans (hb2.mono hb1.size)).trans (hb3.mono (Nat.le_trans hb1.size hb2.size))
  have hb3w : Below w.heap.size w w3 := hbw.trans (hb03.mono hbw.size)
  have hs4 : Six (w3.alloc (.cells #[.string ⟨#[95, 115, 116, 97, 116, 115]⟩, .bool true, .func (.func 49) #[] #[]] 80)) w.heap.size (.int .i64 c) (.int .i64 i) (.int .i64 (hiI v)) (.int .u64 (loI v)) (.int .i64 le) (.int .i64 mo) := (((Six.new w _ _ _ _ _ _ _).alloc _).below hb03 rfl).alloc _
  obtain ⟨⟨r0, r1, r2, r3, r4, r5⟩, -⟩ := hs4
  have hle1 : w.heap.size ≤ w.heap.size + 1 := Nat.le_succ _
  clear hbw hb1 hb2 hb3
  go_wp2_with fail
  refine (total_agg c i v le mo _).mono ?_
  rintro e w5 ⟨rfl, hb5⟩
  go_wp2_with fail
  refine (small_any v _ hv).mono ?_
  rintro e w6 ⟨rfl, hb6⟩
  rw [Hsm.out]
  have hb56 := hb5.trans (hb6.mono hb5.size)
  have k1 : w6.cell? ⟨w3.heap.size, 1, none⟩ = some (.bool true) := mnew_later hb56 1 rfl
  have e0 : w6.cell? ⟨w.heap.size + 1, 0, none⟩ = some (.int .i64 0) := by rw [← hsz]; exact (old_cell hb03 hb56 0 rfl).1
  have e1 : w6.cell? ⟨w.heap.size + 1, 1, none⟩ = some (.int .i64 0) := by rw [← hsz]; exact (old_cell hb03 hb56 1 rfl).1
  have e2 : w6.cell? ⟨w.heap.size + 1, 2, none⟩ = some (.string ⟨#[]⟩) := by rw [← hsz]; exact (old_cell hb03 hb56 2 rfl).1
  have e3 : w6.cell? ⟨w.heap.size + 1, 3, none⟩ = some (.slice none 0 0) := by rw [← hsz]; exact (old_cell hb03 hb56 3 rfl).1
  have e4 : w6.cell? ⟨w.heap.size + 1, 4, none⟩ = some (.slice none 0 0) := by rw [← hsz]; exact (old_cell hb03 hb56 4 rfl).1
  have f0 : w6.frozen? ⟨w.heap.size + 1, 0, none⟩ = false := by rw [← hsz]; exact (old_cell hb03 hb56 0 rfl).2
  have f1 : w6.frozen? ⟨w.heap.size + 1, 1, none⟩ = false := by rw [← hsz]; exact (old_cell hb03 hb56 1 rfl).2
  have f2 : w6.frozen? ⟨w.heap.size + 1, 2, none⟩ = false := by rw [← hsz]; exact (old_cell hb03 hb56 2 rfl).2
  have f3 : w6.frozen? ⟨w.heap.size + 1, 3, none⟩ = false := by rw [← hsz]; exact (old_cell hb03 hb56 3 rfl).2
  have f4 : w6.frozen? ⟨w.heap.size + 1, 4, none⟩ = false := by rw [← hsz]; exact (old_cell hb03 hb56 4 rfl).2
  have hb6w : Below w.heap.size w w6 := (hb3w.alloc hb3w.size _).trans (hb56.mono (by simp; have := hb3w.size; omega))
  clear r0 r1 r2 r3 r4 r5 hb5 hb6 hb56 hb03 hb3w hsz i2
  go_wp2
  refine bodyPost_ret (v := .tuple #[.agg #[.int .i64 0, .int .i64 0, .string ⟨#[]⟩, .slice none 0 0, .slice none 0 0], .int .i64 5]) ?_ rfl ⟨rfl, ((((hb6w.setCell hle1 _).setCell hle1 _).setCell hle1 _).setCell hle1 _).setCell hle1 _⟩
  simp [results, Try.results15, go_sem, *]

end Go.Proofs.Ytinaecmpigenoaa
/-
  Layer 1, plain: code points, their bytes, and the reading of them. No program in sight.
-/
namespace Go.Proofs.Ytinaecmpigenoaa

/-- Is a number a code point? -/
def isCp (n : Int) : Bool := decide (0 ≤ n) && decide (n ≤ 1114111) && !(decide (55296 ≤ n) && decide (n ≤ 57343))
theorem isCp_iff (n : Int) : isCp n = true ↔ (0 ≤ n ∧ n ≤ 1114111) ∧ (n < 55296 ∨ 57343 < n) := by
  unfold isCp; simp
def b8 (n : Nat) : UInt8 := UInt8.ofNat n
theorem b8_toNat (n : Nat) (h : n < 256) : (b8 n).toNat = n := by unfold b8; rw [UInt8.toNat_ofNat']; omega
theorem b8_of (x : UInt8) : b8 x.toNat = x := by unfold b8; simp
/-- A code point's bytes. -/
def encL (c : Nat) : List UInt8 :=
  if c < 128 then [b8 c]
  else if c < 2048 then [b8 (192 + c / 64), b8 (128 + c % 64)]
  else if c < 65536 then [b8 (224 + c / 4096), b8 (128 + c / 64 % 64), b8 (128 + c % 64)]
  else [b8 (240 + c / 262144), b8 (128 + c / 4096 % 64), b8 (128 + c / 64 % 64), b8 (128 + c % 64)]
/-- Is a byte one that goes on? -/
def cont (x : UInt8) : Bool := decide (128 ≤ x.toNat) && decide (x.toNat < 192)
theorem cont_iff (x : UInt8) : cont x = true ↔ 128 ≤ x.toNat ∧ x.toNat < 192 := by unfold cont; simp
def okIf (b : Bool) (c n : Nat) : Nat × Nat := if b then (c, n) else (0, 0)
/-- The code point whose bytes begin a row, and how many they are; (0, 0): none's do. -/
def decL (l : List UInt8) : Nat × Nat :=
  match l with
  | [] => (0, 0)
  | a :: r =>
    if a.toNat < 128 then (a.toNat, 1)
    else if a.toNat < 192 then (0, 0)
    else if a.toNat < 224 then
      match r with
      | b :: _ => let c := (a.toNat - 192) * 64 + (b.toNat - 128); okIf (cont b && decide (128 ≤ c)) c 2
      | _ => (0, 0)
    else if a.toNat < 240 then
      match r with
      | b :: d :: _ => let c := ((a.toNat - 224) * 64 + (b.toNat - 128)) * 64 + (d.toNat - 128); okIf (cont b && cont d && decide (2048 ≤ c) && isCp c) c 3
      | _ => (0, 0)
    else if a.toNat < 248 then
      match r with
      | b :: d :: e :: _ => let c := (((a.toNat - 240) * 64 + (b.toNat - 128)) * 64 + (d.toNat - 128)) * 64 + (e.toNat - 128); okIf (cont b && cont d && cont e && decide (65536 ≤ c) && isCp c) c 4
      | _ => (0, 0)
    else (0, 0)

theorem encL_len (c : Nat) : (encL c).length = if c < 128 then 1 else if c < 2048 then 2 else if c < 65536 then 3 else 4 := by
  unfold encL; split
  · rfl
  · split
    · rfl
    · split <;> rfl
theorem encL_len_pos (c : Nat) : 1 ≤ (encL c).length ∧ (encL c).length ≤ 4 := by rw [encL_len]; split <;> (try split) <;> (try split) <;> omega

theorem okIf_yes {b : Bool} {c n c' n' : Nat} (h : okIf b c n = (c', n')) (h0 : n' ≠ 0) : b = true ∧ c = c' ∧ n = n' := by
  unfold okIf at h
  cases b
  · rw [if_neg (by simp)] at h; injection h with h1 h2; omega
  · rw [if_pos rfl] at h; injection h with h1 h2; exact ⟨rfl, h1, h2⟩
theorem okIf_true (c n : Nat) : okIf true c n = (c, n) := rfl
theorem okIf_zero {b : Bool} {c n : Nat} (h : (okIf b c n).2 = 0) (hn : n ≠ 0) : okIf b c n = (0, 0) := by
  cases b
  · rfl
  · rw [okIf_true] at h; exact absurd h hn

/-- The bytes of a code point, whatever stands behind them, are read as it. -/
theorem dec_enc (c : Nat) (h : isCp c = true) (r : List UInt8) : decL (encL c ++ r) = (c, (encL c).length) := by
  have hc := (isCp_iff _).1 h
  rw [encL_len]
  unfold encL
  by_cases h1 : c < 128
  · rw [if_pos h1, if_pos h1]
    show decL (b8 c :: r) = _
    simp only [decL]
    rw [b8_toNat _ (by omega), if_pos h1]
  · rw [if_neg h1, if_neg h1]
    by_cases h2 : c < 2048
    · rw [if_pos h2, if_pos h2]
      show decL (b8 _ :: b8 _ :: r) = _
      simp only [decL]
      simp only [b8_toNat (192 + c / 64) (by omega), b8_toNat (128 + c % 64) (by omega), cont]
      rw [if_neg (by omega), if_neg (by omega), if_pos (by omega)]
      have e : (192 + c / 64 - 192) * 64 + (128 + c % 64 - 128) = c := by omega
      rw [e]
      simp only [okIf]
      rw [if_pos (by simp; omega)]
    · rw [if_neg h2, if_neg h2]
      by_cases h3 : c < 65536
      · rw [if_pos h3, if_pos h3]
        show decL (b8 _ :: b8 _ :: b8 _ :: r) = _
        simp only [decL]
        simp only [b8_toNat (224 + c / 4096) (by omega), b8_toNat (128 + c % 64) (by omega), b8_toNat (128 + c / 64 % 64) (by omega), cont]
        rw [if_neg (by omega), if_neg (by omega), if_neg (by omega), if_pos (by omega)]
        have e : ((224 + c / 4096 - 224) * 64 + (128 + c / 64 % 64 - 128)) * 64 + (128 + c % 64 - 128) = c := by omega
        rw [e, h]
        simp only [okIf]
        rw [if_pos (by simp; omega)]
      · rw [if_neg h3, if_neg h3]
        show decL (b8 _ :: b8 _ :: b8 _ :: b8 _ :: r) = _
        simp only [decL]
        simp only [b8_toNat (240 + c / 262144) (by omega), b8_toNat (128 + c % 64) (by omega), b8_toNat (128 + c / 64 % 64) (by omega), b8_toNat (128 + c / 4096 % 64) (by omega), cont]
        rw [if_neg (by omega), if_neg (by omega), if_neg (by omega), if_neg (by omega), if_pos (by omega)]
        have e : (((240 + c / 262144 - 240) * 64 + (128 + c / 4096 % 64 - 128)) * 64 + (128 + c / 64 % 64 - 128)) * 64 + (128 + c % 64 - 128) = c := by omega
        rw [e, h]
        simp only [okIf]
        rw [if_pos (by simp; omega)]

theorem b8_eq {x : UInt8} {n : Nat} (h : x.toNat = n) : x = b8 n := by rw [← h, b8_of]
/-- What is read is a code point, and what it was read from are its bytes. -/
theorem enc_dec {l : List UInt8} {c n : Nat} (h : decL l = (c, n)) (hn : n ≠ 0) : isCp c = true ∧ ∃ r, l = encL c ++ r ∧ n = (encL c).length := by
  rcases l with _ | ⟨a, r⟩
  · injection h with _ h2; omega
  simp only [decL] at h
  have ha := a.toNat_lt
  by_cases h1 : a.toNat < 128
  · rw [if_pos h1] at h
    injection h with h2 h3
    subst h2
    refine ⟨by rw [isCp_iff]; omega, r, ?_, by rw [encL_len, if_pos h1]; omega⟩
    unfold encL
    rw [if_pos h1, b8_of]
    rfl
  · rw [if_neg h1] at h
    by_cases h2 : a.toNat < 192
    · rw [if_pos h2] at h; injection h with _ h3; omega
    rw [if_neg h2] at h
    by_cases h3 : a.toNat < 224
    · rw [if_pos h3] at h
      rcases r with _ | ⟨b, r⟩
      · injection h with _ h4; omega
      obtain ⟨k, e, e2⟩ := okIf_yes h hn
      simp only [Bool.and_eq_true, cont_iff, decide_eq_true_eq] at k
      have hc : c < 2048 := by omega
      have hc0 : ¬ c < 128 := by omega
      refine ⟨by rw [isCp_iff]; omega, r, ?_, by rw [encL_len, if_neg hc0, if_pos hc]; omega⟩
      unfold encL
      rw [if_neg hc0, if_pos hc, b8_eq (x := a) (n := 192 + c / 64) (by omega), b8_eq (x := b) (n := 128 + c % 64) (by omega)]
      rfl
    · rw [if_neg h3] at h
      by_cases h4 : a.toNat < 240
      · rw [if_pos h4] at h
        rcases r with _ | ⟨b, _ | ⟨d, r⟩⟩
        · injection h with _ h4; omega
        · injection h with _ h4; omega
        obtain ⟨k, e, e2⟩ := okIf_yes h hn
        simp only [Bool.and_eq_true, cont_iff, decide_eq_true_eq] at k
        rw [e] at k
        have hc : c < 65536 := by omega
        have hc0 : ¬ c < 2048 := by omega
        refine ⟨k.2, r, ?_, by rw [encL_len, if_neg (by omega), if_neg hc0, if_pos hc]; omega⟩
        unfold encL
        rw [if_neg (by omega), if_neg hc0, if_pos hc, b8_eq (x := a) (n := 224 + c / 4096) (by omega), b8_eq (x := b) (n := 128 + c / 64 % 64) (by omega), b8_eq (x := d) (n := 128 + c % 64) (by omega)]
        rfl
      · rw [if_neg h4] at h
        by_cases h5 : a.toNat < 248
        · rw [if_pos h5] at h
          rcases r with _ | ⟨b, _ | ⟨d, _ | ⟨e, r⟩⟩⟩
          · injection h with _ h4; omega
          · injection h with _ h4; omega
          · injection h with _ h4; omega
          obtain ⟨k, e1, e2⟩ := okIf_yes h hn
          simp only [Bool.and_eq_true, cont_iff, decide_eq_true_eq] at k
          rw [e1] at k
          have hc0 : ¬ c < 65536 := by omega
          have hcp := (isCp_iff _).1 k.2
          refine ⟨k.2, r, ?_, by rw [encL_len, if_neg (by omega), if_neg (by omega), if_neg hc0]; omega⟩
          unfold encL
          rw [if_neg (by omega), if_neg (by omega), if_neg hc0, b8_eq (x := a) (n := 240 + c / 262144) (by omega), b8_eq (x := b) (n := 128 + c / 4096 % 64) (by omega), b8_eq (x := d) (n := 128 + c / 64 % 64) (by omega), b8_eq (x := e) (n := 128 + c % 64) (by omega)]
          rfl
        · rw [if_neg h5] at h; injection h with _ h6; omega

theorem dec_zero {l : List UInt8} (h : (decL l).2 = 0) : decL l = (0, 0) := by
  rcases l with _ | ⟨a, r⟩
  · rfl
  simp only [decL] at h ⊢
  by_cases h1 : a.toNat < 128
  · rw [if_pos h1] at h; simp at h
  · rw [if_neg h1] at h ⊢
    by_cases h2 : a.toNat < 192
    · rw [if_pos h2]
    rw [if_neg h2] at h ⊢
    by_cases h3 : a.toNat < 224
    · rw [if_pos h3] at h ⊢
      rcases r with _ | ⟨b, r⟩
      · rfl
      exact okIf_zero h (by omega)
    · rw [if_neg h3] at h ⊢
      by_cases h4 : a.toNat < 240
      · rw [if_pos h4] at h ⊢
        rcases r with _ | ⟨b, _ | ⟨d, r⟩⟩
        · rfl
        · rfl
        exact okIf_zero h (by omega)
      · rw [if_neg h4] at h ⊢
        by_cases h5 : a.toNat < 248
        · rw [if_pos h5] at h ⊢
          rcases r with _ | ⟨b, _ | ⟨d, _ | ⟨e, r⟩⟩⟩
          · rfl
          · rfl
          · rfl
          exact okIf_zero h (by omega)
        · rw [if_neg h5]
theorem dec_nil : decL [] = (0, 0) := rfl
theorem dec_le (l : List UInt8) : (decL l).2 ≤ l.length := by
  by_cases h : (decL l).2 = 0
  · omega
  · obtain ⟨_, r, e, e2⟩ := enc_dec (l := l) (c := (decL l).1) (n := (decL l).2) rfl h
    rw [e2]
    have : l.length = (encL (decL l).1).length + r.length := by rw [← List.length_append, ← e]
    omega
theorem dec_le4 (l : List UInt8) : (decL l).2 ≤ 4 := by
  by_cases h : (decL l).2 = 0
  · omega
  · obtain ⟨_, r, _, e2⟩ := enc_dec (l := l) (c := (decL l).1) (n := (decL l).2) rfl h
    have := encL_len_pos (decL l).1
    omega

/-- The code points of a row, as far as it is right, and how many bytes they take. -/
def ptsL (l : List UInt8) : List Nat × Nat :=
  if (decL l).2 = 0 then ([], 0)
  else ((decL l).1 :: (ptsL (l.drop (decL l).2)).1, (decL l).2 + (ptsL (l.drop (decL l).2)).2)
termination_by l.length
decreasing_by
  all_goals
    have := dec_le l
    rw [List.length_drop]
    omega
theorem pts_zero {l : List UInt8} (h : (decL l).2 = 0) : ptsL l = ([], 0) := by rw [ptsL, if_pos h]
theorem pts_step {l : List UInt8} (h : (decL l).2 ≠ 0) : ptsL l = ((decL l).1 :: (ptsL (l.drop (decL l).2)).1, (decL l).2 + (ptsL (l.drop (decL l).2)).2) := by rw [ptsL, if_neg h]
def textL (cps : List Nat) : List UInt8 := (cps.map encL).flatten
theorem textL_nil : textL [] = [] := rfl
theorem textL_cons (c : Nat) (l : List Nat) : textL (c :: l) = encL c ++ textL l := by simp [textL]
theorem textL_append (l m : List Nat) : textL (l ++ m) = textL l ++ textL m := by simp [textL]
theorem textL_one (c : Nat) : textL [c] = encL c := by simp [textL]
def allCp (l : List Nat) : Prop := ∀ c ∈ l, isCp c = true

theorem pts_text : ∀ (cps : List Nat) (r : List UInt8), allCp cps → ptsL (textL cps ++ r) = (cps ++ (ptsL r).1, (textL cps).length + (ptsL r).2)
  | [], r, _ => by simp [textL_nil]
  | c :: cps, r, h => by
    have hc := h c (by simp)
    have hp := encL_len_pos c
    have hd := dec_enc c hc (textL cps ++ r)
    rw [textL_cons, List.append_assoc, pts_step (by rw [hd]; simp only; omega), hd]
    simp only [List.drop_left]
    rw [pts_text cps r (fun x hx => h x (by simp [hx]))]
    simp only [List.cons_append, List.length_append]
    rw [Nat.add_assoc]
/-- What was read: a text, and behind it nothing that begins one. -/
theorem pts_is : ∀ (n : Nat) (l : List UInt8), l.length ≤ n → allCp (ptsL l).1 ∧ l = textL (ptsL l).1 ++ l.drop (ptsL l).2 ∧ (ptsL l).2 = (textL (ptsL l).1).length ∧ (decL (l.drop (ptsL l).2)).2 = 0
  | n, l, hl => by
    by_cases h : (decL l).2 = 0
    · rw [pts_zero h]
      exact ⟨fun _ hx => by simp at hx, by simp [textL_nil], by simp [textL_nil], by simpa using h⟩
    · obtain ⟨hc, r, e, e2⟩ := enc_dec (l := l) (c := (decL l).1) (n := (decL l).2) rfl h
      have hle := dec_le l
      match n, hl with
      | 0, hl => omega
      | n + 1, hl =>
        obtain ⟨i1, i2, i3, i4⟩ := pts_is n (l.drop (decL l).2) (by rw [List.length_drop]; omega)
        have hd : l.drop (decL l).2 = r := by
          generalize hk : (decL l).2 = k at e2
          generalize (decL l).1 = c at e e2
          rw [e2, e]
          exact List.drop_left
        rw [pts_step h]
        simp only
        refine ⟨?_, ?_, ?_, ?_⟩
        · intro x hx
          rcases List.mem_cons.1 hx with rfl | hx
          · exact hc
          · exact i1 x hx
        · rw [textL_cons, ← List.drop_drop, List.append_assoc, ← i2, hd, ← e]
        · rw [textL_cons, List.length_append, ← i3, ← e2]
        · rw [← List.drop_drop]; exact i4
theorem pts_le (l : List UInt8) : (ptsL l).2 ≤ l.length := by
  obtain ⟨_, h, h2, _⟩ := pts_is l.length l (Nat.le_refl _)
  have := congrArg List.length h
  rw [List.length_append] at this
  omega
theorem enc_inj {c d : Nat} (hc : isCp c = true) (hd : isCp d = true) (h : encL c = encL d) : c = d := by
  have h1 := dec_enc c hc []
  have h2 := dec_enc d hd []
  rw [h] at h1
  rw [h1] at h2
  injection h2
theorem text_inj {l m : List Nat} (hl : allCp l) (hm : allCp m) (h : textL l = textL m) : l = m := by
  have h1 := pts_text l [] hl
  have h2 := pts_text m [] hm
  rw [h] at h1
  rw [h1] at h2
  simp only [pts_zero (l := []) rfl, List.append_nil] at h2
  injection h2
end Go.Proofs.Ytinaecmpigenoaa
/-
  Layer 4, plain: values as trees, with the heads of their slices; which may be; how deep and how many.
-/
namespace Go.Proofs.Ytinaecmpigenoaa
open Go.RowKit
set_option linter.unusedVariables false

/-- A value: kind, number, text, the head of its kids' slice, the head of its keys' slice, the keys, the kids. -/
inductive VT where
  | mk (k n : Int) (s : ByteArray) (cA : Option Addr) (cn cc : Nat) (kA : Option Addr) (kn kc : Nat) (keys : List ByteArray) (kids : List VT)
def VT.k : VT → Int | .mk k .. => k
def VT.n : VT → Int | .mk _ n .. => n
def VT.s : VT → ByteArray | .mk _ _ s .. => s
def VT.keys : VT → List ByteArray | .mk _ _ _ _ _ _ _ _ _ keys _ => keys
def VT.kids : VT → List VT | .mk _ _ _ _ _ _ _ _ _ _ kids => kids
def VT.cells : VT → List Value | .mk k n s cA cn cc kA kn kc _ _ => [.int .i64 k, .int .i64 n, .string s, .slice cA cn cc, .slice kA kn kc]
theorem VT.cells_len (T : VT) : T.cells.length = 5 := by cases T; rfl
def VT.hold (T : VT) : Bool := T.k == 5 || T.k == 6
theorem attach_map {α β : Type} (l : List α) (f : α → β) : (l.attach.map fun x => f x.1) = l.map f := by
  have := congrArg (List.map f) (List.attach_map_subtype_val l)
  rwa [List.map_map] at this
/-- How many nodes, how deep, in Lean's own recursion. -/
def VT.cnt : VT → Nat | .mk _ _ _ _ _ _ _ _ _ _ kids => 1 + (kids.attach.map fun x => x.1.cnt).sum
decreasing_by
  have := List.sizeOf_lt_of_mem x.2
  simp only [VT.mk.sizeOf_spec]
  omega
theorem cnt_mk (k n : Int) (s : ByteArray) (cA : Option Addr) (cn cc : Nat) (kA : Option Addr) (kn kc : Nat) (keys : List ByteArray) (kids : List VT) : (VT.mk k n s cA cn cc kA kn kc keys kids).cnt = 1 + (kids.map VT.cnt).sum := by
  rw [VT.cnt]
  congr 2
  exact attach_map kids VT.cnt
def maxL : List Nat → Nat := fun l => l.foldr max 0
def hN (b : Bool) : Nat := if b then 1 else 0
def VT.dep : VT → Nat | .mk k n s cA cn cc kA kn kc keys kids => hN (k == 5 || k == 6) + maxL (kids.attach.map fun x => x.1.dep)
decreasing_by
  have := List.sizeOf_lt_of_mem x.2
  simp only [VT.mk.sizeOf_spec]
  omega
theorem dep_mk (k n : Int) (s : ByteArray) (cA : Option Addr) (cn cc : Nat) (kA : Option Addr) (kn kc : Nat) (keys : List ByteArray) (kids : List VT) : (VT.mk k n s cA cn cc kA kn kc keys kids).dep = hN (k == 5 || k == 6) + maxL (kids.map VT.dep) := by
  rw [VT.dep]
  congr 2
  exact attach_map kids VT.dep
/-- Induction over the tree. -/
theorem VT.ind {P : VT → Prop} (h : ∀ k n s cA cn cc kA kn kc keys kids, (∀ x ∈ kids, P x) → P (.mk k n s cA cn cc kA kn kc keys kids)) : ∀ T, P T
  | .mk k n s cA cn cc kA kn kc keys kids => h k n s cA cn cc kA kn kc keys kids fun x hx => VT.ind h x
termination_by T => SizeOf.sizeOf T
decreasing_by
  have := List.sizeOf_lt_of_mem hx
  simp only [VT.mk.sizeOf_spec]
  omega
/-- Is a text in UTF-8? -/
def validS (s : ByteArray) : Bool := decide ((ptsL s.data.toList).2 = s.data.toList.length)
/-- Is the key with an index right, among keys? -/
def keyOK (l : List ByteArray) (i : Nat) : Bool := validS (l.getD i ⟨#[]⟩) && (i == 0 || Op.bytesLess (l.getD (i - 1) ⟨#[]⟩).toList (l.getD i ⟨#[]⟩).toList)
def keysB (l : List ByteArray) : Bool := (List.range l.length).all fun i => keyOK l i
theorem keysB_iff (l : List ByteArray) : keysB l = true ↔ ∀ i, i < l.length → keyOK l i = true := by
  unfold keysB; simp [List.all_eq_true]
/-- The shapes. -/
def shKnown (k : Int) : Bool := decide (1 ≤ k) && decide (k ≤ 6)
def shWide (k : Int) : Bool := k == 3
def shTop (k : Int) : Int := if k = 2 then 1 else 0
def shText (k : Int) : Bool := k == 4
def shKeys (k : Int) : Bool := k == 6
def shKids (k : Int) : Bool := k == 5 || k == 6
def numQ (wi : Bool) (top n : Int) : Bool := wi || (decide (0 ≤ n) && decide (n ≤ top))
def strQ (te : Bool) (s : ByteArray) : Bool := s.toList.isEmpty || (te && validS s)
def eleQ (ki : Bool) (cn : Nat) : Bool := cn == 0 || ki
def memQ (ke : Bool) (cn kn : Nat) (keys : List ByteArray) : Bool := if ke then kn == cn && keysB keys else kn == 0
def numB (k n : Int) : Bool := numQ (shWide k) (shTop k) n
def strB (k : Int) (s : ByteArray) : Bool := strQ (shText k) s
def eleB (k : Int) (cn : Nat) : Bool := eleQ (shKids k) cn
def memB (k : Int) (cn kn : Nat) (keys : List ByteArray) : Bool := memQ (shKeys k) cn kn keys
/-- Is a value right for its kind, apart from its kids? -/
def VT.fit : VT → Bool | .mk k n s _ cn _ _ kn _ keys _ => shKnown k && (numB k n && (strB k s && (eleB k cn && memB k cn kn keys)))
def VT.all : VT → Bool | .mk k n s cA cn cc kA kn kc keys kids => (VT.mk k n s cA cn cc kA kn kc keys kids).fit && (kids.attach.map fun x => x.1.all).all id
decreasing_by
  have := List.sizeOf_lt_of_mem x.2
  simp only [VT.mk.sizeOf_spec]
  omega
theorem all_mk (k n : Int) (s : ByteArray) (cA : Option Addr) (cn cc : Nat) (kA : Option Addr) (kn kc : Nat) (keys : List ByteArray) (kids : List VT) : (VT.mk k n s cA cn cc kA kn kc keys kids).all = ((VT.mk k n s cA cn cc kA kn kc keys kids).fit && kids.all VT.all) := by
  rw [VT.all]
  congr 1
  rw [attach_map kids VT.all, List.all_map]
  rfl
/-- May a value be? -/
def VT.ok (T : VT) : Bool := decide (T.dep ≤ 8) && (decide (T.cnt ≤ 256) && T.all)

/-- The nodes from the outside in, each with its depth. -/
def VT.nodesL : VT → Nat → List (Nat × VT) | .mk k n s cA cn cc kA kn kc keys kids, o => (o + hN (k == 5 || k == 6), .mk k n s cA cn cc kA kn kc keys kids) :: (kids.attach.map fun x => x.1.nodesL (o + hN (k == 5 || k == 6))).flatten
termination_by T => SizeOf.sizeOf T
decreasing_by
  have := List.sizeOf_lt_of_mem x.2
  simp only [VT.mk.sizeOf_spec]
  omega
theorem nodes_mk (k n : Int) (s : ByteArray) (cA : Option Addr) (cn cc : Nat) (kA : Option Addr) (kn kc : Nat) (keys : List ByteArray) (kids : List VT) (o : Nat) :
    (VT.mk k n s cA cn cc kA kn kc keys kids).nodesL o = (o + hN (k == 5 || k == 6), .mk k n s cA cn cc kA kn kc keys kids) :: kids.flatMap fun x => x.nodesL (o + hN (k == 5 || k == 6)) := by
  rw [VT.nodesL]
  congr 1
  rw [attach_map kids (fun x => x.nodesL (o + hN (k == 5 || k == 6))), List.flatMap_def]
/-- The greatest depth of some. -/
def mdL (L : List (Nat × VT)) : Nat := maxL (L.map (·.1))
/-- Do the nodes that came let the next one be? -/
def stepOK (L : List (Nat × VT)) (x : Nat × VT) : Bool := decide (mdL (L ++ [x]) ≤ 8) && (decide (L.length + 1 ≤ 256) && x.2.fit)
def passes : List (Nat × VT) → List (Nat × VT) → Bool
  | _, [] => true
  | L, x :: r => stepOK L x && passes (L ++ [x]) r
theorem passes_append : ∀ (a b L : List (Nat × VT)), passes L (a ++ b) = (passes L a && passes (L ++ a) b)
  | [], b, L => by simp [passes]
  | x :: a, b, L => by
    rw [List.cons_append, passes, passes, passes_append a b (L ++ [x]), Bool.and_assoc]
    simp
theorem maxL_append (a b : List Nat) : maxL (a ++ b) = max (maxL a) (maxL b) := by
  unfold maxL
  induction a with
  | nil => simp
  | cons x a ih => simp only [List.cons_append, List.foldr_cons, ih]; omega
theorem maxL_cons (x : Nat) (l : List Nat) : maxL (x :: l) = max x (maxL l) := rfl
theorem mdL_append (a b : List (Nat × VT)) : mdL (a ++ b) = max (mdL a) (mdL b) := by
  unfold mdL; rw [List.map_append, maxL_append]
theorem mdL_snoc (a : List (Nat × VT)) (x : Nat × VT) : mdL (a ++ [x]) = max (mdL a) x.1 := by
  rw [mdL_append]; unfold mdL maxL; simp
theorem passes_iff : ∀ (r L : List (Nat × VT)), r ≠ [] → (passes L r = true ↔ mdL (L ++ r) ≤ 8 ∧ (L ++ r).length ≤ 256 ∧ ∀ x ∈ r, x.2.fit = true)
  | [], _, h => absurd rfl h
  | [x], L, _ => by
    simp only [passes, stepOK, Bool.and_true, Bool.and_eq_true, decide_eq_true_eq, List.length_append, List.length_cons, List.length_nil, List.mem_singleton, forall_eq]
  | x :: y :: r, L, _ => by
    have ih := passes_iff (y :: r) (L ++ [x]) (by simp)
    rw [passes, Bool.and_eq_true, ih]
    simp only [stepOK, Bool.and_eq_true, decide_eq_true_eq, List.append_assoc, List.singleton_append, List.mem_cons]
    constructor
    · rintro ⟨⟨a, b, c⟩, d, e, f⟩
      exact ⟨d, e, fun z hz => by rcases hz with rfl | hz; exact c; exact f z hz⟩
    · rintro ⟨d, e, f⟩
      refine ⟨⟨?_, ?_, f x (.inl rfl)⟩, d, e, fun z hz => f z (.inr hz)⟩
      · rw [mdL_append] at d ⊢
        have : mdL (x :: y :: r) = max x.1 (mdL (y :: r)) := rfl
        have h2 : mdL [x] = x.1 := by simp [mdL, maxL]
        omega
      · simp only [List.length_append, List.length_cons] at e; omega
theorem nodes_ne (T : VT) (o : Nat) : T.nodesL o ≠ [] := by cases T; rw [nodes_mk]; simp
theorem nodes_len : ∀ (T : VT) (o : Nat), (T.nodesL o).length = T.cnt := by
  intro T
  induction T using VT.ind with
  | h k n s cA cn cc kA kn kc keys kids ih =>
    intro o
    rw [nodes_mk, cnt_mk, List.length_cons, List.length_flatMap]
    have : kids.map (fun x => (x.nodesL (o + hN (k == 5 || k == 6))).length) = kids.map VT.cnt := List.map_congr_left fun x hx => ih x hx _
    rw [this]
    omega
theorem maxL_add : ∀ (l : List Nat) (o : Nat), l ≠ [] → maxL (l.map fun x => o + x) = o + maxL l
  | [], _, h => absurd rfl h
  | [x], o, _ => by simp [maxL]
  | x :: y :: l, o, _ => by
    have := maxL_add (y :: l) o (by simp)
    have e2 : maxL (x :: y :: l) = max x (maxL (y :: l)) := rfl
    rw [List.map_cons, maxL_cons, this, e2]
    omega
theorem mdL_flat {α : Type} (f : α → List (Nat × VT)) : ∀ l : List α, mdL (l.flatMap f) = maxL (l.map fun x => mdL (f x))
  | [] => rfl
  | x :: l => by rw [List.flatMap_cons, mdL_append, mdL_flat f l]; rfl
theorem nodes_dep : ∀ (T : VT) (o : Nat), mdL (T.nodesL o) = o + T.dep := by
  intro T
  induction T using VT.ind with
  | h k n s cA cn cc kA kn kc keys kids ih =>
    intro o
    rw [nodes_mk, dep_mk]
    have e : mdL ((o + hN (k == 5 || k == 6), VT.mk k n s cA cn cc kA kn kc keys kids) :: kids.flatMap fun x => x.nodesL (o + hN (k == 5 || k == 6))) = max (o + hN (k == 5 || k == 6)) (mdL (kids.flatMap fun x => x.nodesL (o + hN (k == 5 || k == 6)))) := rfl
    rw [e, mdL_flat]
    have : kids.map (fun x => mdL (x.nodesL (o + hN (k == 5 || k == 6)))) = (kids.map VT.dep).map fun d => (o + hN (k == 5 || k == 6)) + d := by
      rw [List.map_map]
      exact List.map_congr_left fun x hx => ih x hx _
    rw [this]
    by_cases hk : kids = []
    · subst hk; simp [maxL]
    · rw [maxL_add _ _ (by simpa using hk)]
      omega
theorem nodes_fit : ∀ (T : VT) (o : Nat), (∀ x ∈ T.nodesL o, x.2.fit = true) ↔ T.all = true := by
  intro T
  induction T using VT.ind with
  | h k n s cA cn cc kA kn kc keys kids ih =>
    intro o
    rw [nodes_mk, all_mk, Bool.and_eq_true, List.all_eq_true]
    simp only [List.mem_cons, List.mem_flatMap]
    constructor
    · intro h
      exact ⟨h _ (.inl rfl), fun x hx => (ih x hx (o + hN (k == 5 || k == 6))).1 fun y hy => h y (.inr ⟨x, hx, hy⟩)⟩
    · rintro ⟨h1, h2⟩ y (rfl | ⟨x, hx, hy⟩)
      · exact h1
      · exact (ih x hx _).2 (h2 x hx) y hy
theorem passes_ok (T : VT) : passes [] (T.nodesL 0) = T.ok := by
  rw [Bool.eq_iff_iff, passes_iff _ _ (nodes_ne T 0), List.nil_append, nodes_dep, nodes_len, nodes_fit]
  unfold VT.ok
  simp
end Go.Proofs.Ytinaecmpigenoaa
/-
  Cells of new blocks in later worlds; the steps of 'nothing below has turned'. No program in sight.
-/
namespace Go.Proofs.Ytinaecmpigenoaa
open Go.RowKit
theorem new_later {w w1 : World} {C : Array Value} {t : TypeId} (hb : Below (w.alloc (.cells C t)).heap.size (w.alloc (.cells C t)) w1) (k : Nat) {v : Value} (hk : C[k]? = some v) : w1.cell? ⟨w.heap.size, k, none⟩ = some v :=
  (hb.cell (p := ⟨w.heap.size, k, none⟩) (by simp)).trans ((World.cell?_alloc_new w C t k).trans hk)
theorem kept_later {w w1 : World} (hb : Below w.heap.size w w1) {p : Addr} {v : Value} (h : w.cell? p = some v) : w1.cell? p = some v :=
  (hb.cell (p := p) (World.block_lt_of_cell? w _ h)).trans h
theorem froz_later {w w1 : World} (hb : Below w.heap.size w w1) {p : Addr} {v : Value} (h : w.cell? p = some v) {b : Bool} (hf : w.frozen? p = b) : w1.frozen? p = b :=
  (hb.frozen (World.block_lt_of_cell? w _ h)).trans hf
theorem S_call {W0 w1 w2 : World} {B : Nat} (hb : Below B w1 w2) (h : Below W0.heap.size W0 w1) (hB : B = w1.heap.size) : Below W0.heap.size W0 w2 := h.trans (hb.mono (by rw [hB]; exact h.size))
theorem S_alloc {W0 w1 : World} {o : Obj} (h : Below W0.heap.size W0 w1) : Below W0.heap.size W0 (w1.alloc o) := h.alloc h.size _
theorem bel_next {a b c : World} (h : Below a.heap.size a b) (k : Below b.heap.size b c) : Below a.heap.size a c := h.trans (k.mono h.size)
theorem bel_alloc {a b : World} (h : Below a.heap.size a b) (o : Obj) : Below a.heap.size a (b.alloc o) := h.alloc h.size o

/-- Block b holds these cells, and they may be written. -/
def Box (W : World) (b : Nat) (C : List Value) : Prop := ∀ k v, C[k]? = some v → W.cell? ⟨b, k, none⟩ = some v ∧ W.frozen? ⟨b, k, none⟩ = false
theorem Box.new (w : World) (C : Array Value) (t : TypeId) : Box (w.alloc (.cells C t)) w.heap.size C.toList := fun k v h => by
  refine ⟨(World.cell?_alloc_new w C t k).trans (by simpa using h), ?_⟩
  go_simp
theorem Box.new' (w : World) (C : Array Value) (t : TypeId) {b : Nat} (hb : b = w.heap.size) : Box (w.alloc (.cells C t)) b C.toList := by subst hb; exact Box.new w C t
theorem Box.later {W W' : World} {b : Nat} {C : List Value} (h : Box W b C) (hb : Below W.heap.size W W') : Box W' b C := fun k v hk =>
  ⟨kept_later hb (h k v hk).1, froz_later hb (h k v hk).1 (h k v hk).2⟩
theorem Box.alloc {W : World} {b : Nat} {C : List Value} (h : Box W b C) (o : Obj) : Box (W.alloc o) b C := h.later ((Below.refl _ _).alloc (Nat.le_refl _) o)
theorem Box.drewN {W : World} {b : Nat} {C : List Value} (h : Box W b C) (n : Nat) : Box (W.drewN n) b C := h
theorem Box.lt {W : World} {b : Nat} {C : List Value} (h : Box W b C) (hC : 0 < C.length) : b < W.heap.size :=
  World.block_lt_of_cell? W _ (h 0 (C[0]) (List.getElem?_eq_getElem hC)).1
/-- A store into another block. -/
theorem Box.setCell {W : World} {b : Nat} {C : List Value} (h : Box W b C) {p : Addr} (hp : p.block ≠ b) (u : Value) : Box (W.setCell p u) b C := fun k v hk =>
  ⟨(World.cell?_setCell_other W p ⟨b, k, none⟩ u (fun e => hp (by rw [e]))).trans (h k v hk).1, by rw [World.frozen?_setCell]; exact (h k v hk).2⟩
/-- Four stores, cell by cell. -/
def set4 (W : World) (b : Nat) (x0 x1 x2 x3 : Value) : World := (((W.setCell ⟨b, 0, none⟩ x0).setCell ⟨b, 1, none⟩ x1).setCell ⟨b, 2, none⟩ x2).setCell ⟨b, 3, none⟩ x3
theorem Box.set4 {W : World} {b : Nat} {y0 y1 y2 y3 : Value} (h : Box W b [y0, y1, y2, y3]) (x0 x1 x2 x3 : Value) : Box (set4 W b x0 x1 x2 x3) b [x0, x1, x2, x3] := by
  have h0 := h 0 _ rfl
  have h1 := h 1 _ rfl
  have h2 := h 2 _ rfl
  have h3 := h 3 _ rfl
  have ne : ∀ i j : Nat, i ≠ j → (⟨b, i, none⟩ : Addr) ≠ ⟨b, j, none⟩ := fun i j e h => e (by injection h)
  intro k v hk
  unfold Proofs.Ytinaecmpigenoaa.set4
  simp only [World.frozen?_setCell]
  match k, hk with
  | 0, hk =>
    cases hk
    refine ⟨?_, h0.2⟩
    rw [World.cell?_setCell_other _ _ _ _ (ne _ _ (by omega)), World.cell?_setCell_other _ _ _ _ (ne _ _ (by omega)), World.cell?_setCell_other _ _ _ _ (ne _ _ (by omega))]
    exact cell_set h0.1 _
  | 1, hk =>
    cases hk
    refine ⟨?_, h1.2⟩
    rw [World.cell?_setCell_other _ _ _ _ (ne _ _ (by omega)), World.cell?_setCell_other _ _ _ _ (ne _ _ (by omega))]
    exact cell_set ((World.cell?_setCell_other _ _ _ _ (ne _ _ (by omega))).trans h1.1) _
  | 2, hk =>
    cases hk
    refine ⟨?_, h2.2⟩
    rw [World.cell?_setCell_other _ _ _ _ (ne _ _ (by omega))]
    exact cell_set ((World.cell?_setCell_other _ _ _ _ (ne _ _ (by omega))).trans ((World.cell?_setCell_other _ _ _ _ (ne _ _ (by omega))).trans h2.1)) _
  | 3, hk =>
    cases hk
    refine ⟨?_, h3.2⟩
    exact cell_set ((World.cell?_setCell_other _ _ _ _ (ne _ _ (by omega))).trans ((World.cell?_setCell_other _ _ _ _ (ne _ _ (by omega))).trans ((World.cell?_setCell_other _ _ _ _ (ne _ _ (by omega))).trans h3.1))) _
theorem Box.far4 {W : World} {b g : Nat} {C : List Value} (h : Box W b C) (x0 x1 x2 x3 : Value) (hg : g ≠ b) : Box (Proofs.Ytinaecmpigenoaa.set4 W g x0 x1 x2 x3) b C :=
  (((h.setCell (p := ⟨g, 0, none⟩) hg x0).setCell (p := ⟨g, 1, none⟩) hg x1).setCell (p := ⟨g, 2, none⟩) hg x2).setCell (p := ⟨g, 3, none⟩) hg x3
theorem below_set4 {a W : World} {B b : Nat} (h : Below B a W) (hb : B ≤ b) (x0 x1 x2 x3 : Value) : Below B a (set4 W b x0 x1 x2 x3) :=
  (((h.setCell (p := ⟨b, 0, none⟩) hb x0).setCell (p := ⟨b, 1, none⟩) hb x1).setCell (p := ⟨b, 2, none⟩) hb x2).setCell (p := ⟨b, 3, none⟩) hb x3
end Go.Proofs.Ytinaecmpigenoaa
