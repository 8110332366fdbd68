/-
  Package doc: the successor of a revision.
-/
import Derived.Test.YtedoajiapicpnaaDoorDocT
import Derived.Test.YtedoajiapicpnaaDoorCrcR
namespace Go.Proofs.YtedoajiapicpnaaDoor
open Go.RowKit
attribute [local go_sem ↓] Go.wp_at_zero Go.wp_at_succ

/-- The mark of the successor. -/
def nextM (m : Nat) (l : List UInt8) : Nat := Crc.more (Crc.more 0 (Crc.laid m)) l
theorem nextM_lt (m : Nat) (l : List UInt8) : nextM m l < 4294967296 := Crc.more_lt _ _
def nextV (g m : Nat) (l : List UInt8) : Value := if g = 4294967295 ∨ possB g m = false then revV 0 0 else revV (g + 1) (nextM m l)
def nextE (g m : Nat) : Int := if possB g m = false then 291 else if g = 4294967295 then 5 else 0

/-- Two new variables of two cells, in a later world. -/
theorem two_new (w : World) (a b c d : Value) (t1 t2 : TypeId) {w1 : World} (hb : Below ((w.alloc (.cells #[a, b] t1)).alloc (.cells #[c, d] t2)).heap.size ((w.alloc (.cells #[a, b] t1)).alloc (.cells #[c, d] t2)) w1) :
    (w1.cell? ⟨w.heap.size, 0, none⟩ = some a ∧ w1.cell? ⟨w.heap.size, 1, none⟩ = some b) ∧ (w1.cell? ⟨w.heap.size + 1, 0, none⟩ = some c ∧ w1.cell? ⟨w.heap.size + 1, 1, none⟩ = some d) ∧ w1.frozen? ⟨w.heap.size + 1, 0, none⟩ = false ∧ w1.frozen? ⟨w.heap.size + 1, 1, none⟩ = false := by
  refine ⟨⟨?_, ?_⟩, ⟨?_, ?_⟩, ?_, ?_⟩
  · rw [hb.cell (p := ⟨w.heap.size, 0, none⟩) (by simp; omega)]; go_simp
  · rw [hb.cell (p := ⟨w.heap.size, 1, none⟩) (by simp; omega)]; go_simp
  · rw [hb.cell (p := ⟨w.heap.size + 1, 0, none⟩) (by simp)]; go_simp
  · rw [hb.cell (p := ⟨w.heap.size + 1, 1, none⟩) (by simp)]; go_simp
  · rw [hb.frozen (p := ⟨w.heap.size + 1, 0, none⟩) (by simp)]; go_simp
  · rw [hb.frozen (p := ⟨w.heap.size + 1, 1, none⟩) (by simp)]; go_simp

set_option maxHeartbeats 1000000 in
theorem next_any (g m : Nat) (A : Option Addr) (n c B : Nat) (l : List UInt8) (w : World) (htab : Tab w) (hg : g < 4294967296) (hm : m < 4294967296) (h : Bytes w B A n l) (hB : B ≤ w.heap.size) (hn : n ≤ maxLen) :
    Calls Tryd.prog 15 #[revV g m, .slice A n c] w fun e w' => e = .returned (.tuple #[nextV g m l, .int .i64 (nextE g m)]) ∧ Below w.heap.size w w' := by
  have hb0 := ((Below.refl w.heap.size w).alloc (Nat.le_refl _) (.cells #[.int .u32 (g : Int), .int .u32 (m : Int)] 28)).alloc (by simp) (.cells #[.int .u32 0, .int .u32 0] 28)
  by_cases hp : possB g m = true
  · have Hp := Lib.hid hp
    clear hp
    have hv : revV g m = .agg #[.int .u32 (g : Int), .int .u32 (m : Int)] := rfl
    by_cases hmax : g = 4294967295
    · have Hv := Lib.hid (show nextV g m l = revV 0 0 by unfold nextV; rw [if_pos (.inl hmax)])
      have He := Lib.hid (show nextE g m = 5 by unfold nextE; rw [if_neg (by rw [Hp.out]; decide), if_pos hmax])
      have hge : ((g : Int) == 4294967295) = true := by rw [hmax]; rfl
      clear hmax
      go_enter Tryd.func15, Tryd.ntmps15
      rw [hv]
      go_wp2_with fail
      refine (possible_any g m _).mono ?_
      rintro e w1 ⟨rfl, hb1⟩
      rw [Hp.out]
      have hb2 := hb0.trans (hb1.mono (by simp; omega))
      obtain ⟨⟨c0, c1⟩, ⟨c2, c3⟩, f2, f3⟩ := two_new w _ _ _ _ _ _ hb1
      clear hb1 hb0
      go_wp2
      refine bodyPost_ret (v := .tuple #[.agg #[.int .u32 0, .int .u32 0], .int .i64 5]) ?_ rfl ⟨?_, (hb2.setCell (by show w.heap.size ≤ w.heap.size + 1; omega) _).setCell (by show w.heap.size ≤ w.heap.size + 1; omega) _⟩
      · simp [results, Tryd.results15, go_sem, *]
      · rw [Hv.out, He.out]
        rfl
    · have Hv := Lib.hid (show nextV g m l = revV (g + 1) (nextM m l) by unfold nextV; rw [if_neg (by rw [Hp.out]; simp; exact hmax)])
      have He := Lib.hid (show nextE g m = 0 by unfold nextE; rw [if_neg (by rw [Hp.out]; decide), if_neg hmax])
      have hge : ((g : Int) == 4294967295) = false := beq_eq_false_iff_ne.2 (by omega)
      have hglt : g < 4294967295 := by omega
      clear hmax
      go_enter Tryd.func15, Tryd.ntmps15
      rw [hv]
      go_wp2_with fail
      refine (possible_any g m _).mono ?_
      rintro e w1 ⟨rfl, hb1⟩
      rw [Hp.out]
      have hb2 := hb0.trans (hb1.mono (by simp; omega))
      obtain ⟨⟨c0, c1⟩, ⟨c2, c3⟩, f2, f3⟩ := two_new w _ _ _ _ _ _ hb1
      have s1 := hb1.size
      simp at s1
      clear hb1 hb0
      have t1 := htab.below hb2 htab.lt
      have Hh := Lib.hid (h.below (hb2.mono hB))
      clear htab h
      go_wp2_with fail
      refine (sum_any _ 4 4 (w1.heap.size + 1) (Crc.laid m) _ (t1.alloc _) (by exact bytes_new w1 (Crc.laid m) _ _ _ (laid_cells m hm)) (by simp) (by unfold maxLen; omega)).mono ?_
      rintro e w3 ⟨rfl, hb3⟩
      have hb4 : Below w1.heap.size w1 w3 := ((Below.refl _ _).alloc (Nat.le_refl _) _).trans (hb3.mono (by simp))
      have hb5 := hb2.trans (hb4.mono (by omega))
      have d0 := (hb4.cell (p := ⟨w.heap.size, 0, none⟩) (by show w.heap.size < _; omega)).trans c0
      have d2 := (hb4.cell (p := ⟨w.heap.size + 1, 0, none⟩) (by show w.heap.size + 1 < _; omega)).trans c2
      have d3 := (hb4.cell (p := ⟨w.heap.size + 1, 1, none⟩) (by show w.heap.size + 1 < _; omega)).trans c3
      have k2 := (hb4.frozen (p := ⟨w.heap.size + 1, 0, none⟩) (by show w.heap.size + 1 < _; omega)).trans f2
      have k3 := (hb4.frozen (p := ⟨w.heap.size + 1, 1, none⟩) (by show w.heap.size + 1 < _; omega)).trans f3
      have s3 := hb4.size
      have t3 := t1.below hb4 t1.lt
      have Hh3 := Lib.hid (Hh.out.below (hb4.mono (by omega : B ≤ w1.heap.size)))
      clear hb3 c0 c1 c2 c3 f2 f3 t1 Hh hb2 hb4
      go_wp2
      go_region_held3 (fun w' => w'.cell? ⟨w.heap.size, 0, none⟩ = some (.int .u32 (g : Int))) ((first | assumption | (go_simp; done) | go_keep)) ((go_at_call 34; refine (more_any A n c B l _ _ t3.drew Hh3.out.drew (by show B ≤ w3.heap.size; omega) (Crc.more_lt _ _) hn).mono ?_; rintro e w5 ⟨rfl, hb6⟩; have hb7 : Below w3.heap.size w3 w5 := below_undrew hb6; have e0 := (hb7.cell (p := ⟨w.heap.size, 0, none⟩) (by show w.heap.size < _; omega)).trans d0; have e2 := (hb7.cell (p := ⟨w.heap.size + 1, 0, none⟩) (by show w.heap.size + 1 < _; omega)).trans d2; have e3 := (hb7.cell (p := ⟨w.heap.size + 1, 1, none⟩) (by show w.heap.size + 1 < _; omega)).trans d3; have m2 := (hb7.frozen (p := ⟨w.heap.size + 1, 0, none⟩) (by show w.heap.size + 1 < _; omega)).trans k2; have m3 := (hb7.frozen (p := ⟨w.heap.size + 1, 1, none⟩) (by show w.heap.size + 1 < _; omega)).trans k3))
      have hbz := hb5.trans (hb7.mono (by omega))
      go_wp2
      refine bodyPost_ret (v := .tuple #[.agg #[.int .u32 ((g : Int) + 1), .int .u32 (nextM m l : Int)], .int .i64 0]) ?_ rfl ⟨?_, (hbz.setCell (by show w.heap.size ≤ w.heap.size + 1; omega) _).setCell (by show w.heap.size ≤ w.heap.size + 1; omega) _⟩
      · simp [results, Tryd.results15, go_sem, *]
        exact ⟨by rw [IntKind.wrap_u32]; omega, rfl⟩
      · rw [Hv.out, He.out]
        unfold revV
        rw [show ((g + 1 : Nat) : Int) = (g : Int) + 1 by omega]
  · have hp2 : possB g m = false := by simpa using hp
    have Hv := Lib.hid (show nextV g m l = revV 0 0 by unfold nextV; rw [if_pos (.inr hp2)])
    have He := Lib.hid (show nextE g m = 291 by unfold nextE; rw [if_pos hp2])
    have Hp := Lib.hid hp2
    clear hp hp2
    go_enter Tryd.func15, Tryd.ntmps15
    have hv : revV g m = .agg #[.int .u32 (g : Int), .int .u32 (m : Int)] := rfl
    rw [hv]
    go_wp2_with fail
    refine (possible_any g m _).mono ?_
    rintro e w1 ⟨rfl, hb1⟩
    rw [Hp.out]
    have hb2 := hb0.trans (hb1.mono (by simp; omega))
    obtain ⟨⟨c0, c1⟩, ⟨c2, c3⟩, f2, f3⟩ := two_new w _ _ _ _ _ _ hb1
    clear hb1 hb0
    go_wp2
    refine bodyPost_ret (v := .tuple #[.agg #[.int .u32 0, .int .u32 0], .int .i64 291]) ?_ rfl ⟨?_, (hb2.setCell (by show w.heap.size ≤ w.heap.size + 1; omega) _).setCell (by show w.heap.size ≤ w.heap.size + 1; omega) _⟩
    · simp [results, Tryd.results15, go_sem, *]
    · rw [Hv.out, He.out]
      rfl
end Go.Proofs.YtedoajiapicpnaaDoor
