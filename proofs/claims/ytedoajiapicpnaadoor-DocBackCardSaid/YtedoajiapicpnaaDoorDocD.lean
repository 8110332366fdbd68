/-
  Package doc: Decode.
-/
import Derived.Test.YtedoajiapicpnaaDoorDocG
namespace Go.Proofs.YtedoajiapicpnaaDoor
open Go.RowKit
attribute [local go_sem ↓] Go.wp_at_zero Go.wp_at_succ

def dG (l : List UInt8) : Nat := valN (l.take 4)
def dM (l : List UInt8) : Nat := valN ((l.drop 4).take 4)
def dS (l : List UInt8) : Nat := valN ((l.drop 8).take 8)
def dD (l : List UInt8) : Bool := decide (at8 l 16 = 1)
def dA (l : List UInt8) : Nat := valN ((l.drop 17).take 4)
/-- The bytes are metadata's. -/
def decB (l : List UInt8) : Bool := decide (l.length = 21) && decide (at8 l 16 ≤ 1) && validB (dG l) (dS l) (dD l) (dA l : Int)
def decV (l : List UInt8) : Value := if decB l = true then infoV (dG l) (dM l) (dS l) (dD l) (dA l : Int) else infoV 0 0 0 false 0
def decE (l : List UInt8) : Int := if decB l = true then 0 else if l.length < 21 then 6 else 292

set_option maxHeartbeats 1000000 in
theorem decode_early (A : Option Addr) (n c B : Nat) (l : List UInt8) (w : World) (h : Bytes w B A n l) (hn : n ≠ 21 ∨ 1 < at8 l 16) :
    Calls Tryd.prog 26 #[.slice A n c] w fun e w' => e = .returned (.tuple #[decV l, .int .i64 (decE l)]) ∧ Below w.heap.size w w' := by
  have hl := h.len
  have hd : decB l = false := by
    unfold decB
    rcases hn with hn | hn
    · rw [decide_eq_false (by omega : ¬ l.length = 21)]; rfl
    · rw [decide_eq_false (by omega : ¬ at8 l 16 ≤ 1)]; simp
  have Hv := Lib.hid (show decV l = infoV 0 0 0 false 0 by unfold decV; rw [hd]; rfl)
  have hb0 := (Below.refl w.heap.size w).alloc (Nat.le_refl _) (.cells #[.int .u32 0, .int .u32 0, .int .u64 0, .bool false, .int .i64 0] 46)
  by_cases h21 : n < 21
  · have He := Lib.hid (show decE l = 6 by unfold decE; rw [hd, if_neg (by decide), if_pos (by omega)])
    clear hd hn hl h
    go_enter Tryd.func26, Tryd.ntmps26
    go_wp2
    refine bodyPost_ret (v := .tuple #[.agg #[.int .u32 0, .int .u32 0, .int .u64 0, .bool false, .int .i64 0], .int .i64 6]) ?_ rfl ⟨?_, ?_⟩
    · simp [results, Tryd.results26, go_sem, *]
    · rw [Hv.out, He.out]
      rfl
    · exact hb0
  · have He := Lib.hid (show decE l = 292 by unfold decE; rw [hd, if_neg (by decide), if_neg (by omega)])
    by_cases h22 : 21 < n
    · clear hd hn hl h
      go_enter Tryd.func26, Tryd.ntmps26
      go_wp2
      refine bodyPost_ret (v := .tuple #[.agg #[.int .u32 0, .int .u32 0, .int .u64 0, .bool false, .int .i64 0], .int .i64 292]) ?_ rfl ⟨?_, hb0⟩
      · simp [results, Tryd.results26, go_sem, *]
      · rw [Hv.out, He.out]
        rfl
    · have hx : 1 < at8 l 16 := by omega
      obtain rfl : n = 21 := by omega
      obtain ⟨b, off, rfl, hb, hc⟩ := h.cell (k := 16) (by omega)
      have hc2 := cell_keep hc (.cells #[.int .u32 0, .int .u32 0, .int .u64 0, .bool false, .int .i64 0] 46)
      have g1 := at8_lo l 16
      have g2 := at8_hi l 16
      clear hd hn hl h
      go_enter Tryd.func26, Tryd.ntmps26
      go_wp2
      refine bodyPost_ret (v := .tuple #[.agg #[.int .u32 0, .int .u32 0, .int .u64 0, .bool false, .int .i64 0], .int .i64 292]) ?_ rfl ⟨?_, hb0⟩
      · simp [results, Tryd.results26, go_sem, *]
      · rw [Hv.out, He.out]
        rfl

/-- Two new variables of five cells, in a later world. -/
theorem two_five (w : World) (a0 a1 a2 a3 a4 b0 b1 b2 b3 b4 : Value) (t1 t2 : TypeId) {w1 : World} (hb : Below ((w.alloc (.cells #[a0, a1, a2, a3, a4] t1)).alloc (.cells #[b0, b1, b2, b3, b4] t2)).heap.size ((w.alloc (.cells #[a0, a1, a2, a3, a4] t1)).alloc (.cells #[b0, b1, b2, b3, b4] t2)).drew w1) :
    w1.cell? ⟨w.heap.size, 0, none⟩ = some a0 ∧ w1.cell? ⟨w.heap.size, 1, none⟩ = some a1 ∧ w1.cell? ⟨w.heap.size, 2, none⟩ = some a2 ∧ w1.cell? ⟨w.heap.size, 3, none⟩ = some a3 ∧ w1.cell? ⟨w.heap.size, 4, none⟩ = some a4 ∧ w1.cell? ⟨w.heap.size + 1, 0, none⟩ = some b0 ∧ w1.cell? ⟨w.heap.size + 1, 1, none⟩ = some b1 ∧ w1.cell? ⟨w.heap.size + 1, 2, none⟩ = some b2 ∧ w1.cell? ⟨w.heap.size + 1, 3, none⟩ = some b3 ∧ w1.cell? ⟨w.heap.size + 1, 4, none⟩ = some b4 ∧ w1.frozen? ⟨w.heap.size, 0, none⟩ = false ∧ w1.frozen? ⟨w.heap.size, 1, none⟩ = false ∧ w1.frozen? ⟨w.heap.size, 2, none⟩ = false ∧ w1.frozen? ⟨w.heap.size, 3, none⟩ = false ∧ w1.frozen? ⟨w.heap.size, 4, none⟩ = false := by
  refine ⟨?_, ?_, ?_, ?_, ?_, ?_, ?_, ?_, ?_, ?_, ?_, ?_, ?_, ?_, ?_⟩
  · rw [hb.cell (p := ⟨w.heap.size, 0, none⟩) (by simp; omega)]; go_simp
  · rw [hb.cell (p := ⟨w.heap.size, 1, none⟩) (by simp; omega)]; go_simp
  · rw [hb.cell (p := ⟨w.heap.size, 2, none⟩) (by simp; omega)]; go_simp
  · rw [hb.cell (p := ⟨w.heap.size, 3, none⟩) (by simp; omega)]; go_simp
  · rw [hb.cell (p := ⟨w.heap.size, 4, none⟩) (by simp; omega)]; go_simp
  · rw [hb.cell (p := ⟨w.heap.size + 1, 0, none⟩) (by simp)]; go_simp
  · rw [hb.cell (p := ⟨w.heap.size + 1, 1, none⟩) (by simp)]; go_simp
  · rw [hb.cell (p := ⟨w.heap.size + 1, 2, none⟩) (by simp)]; go_simp
  · rw [hb.cell (p := ⟨w.heap.size + 1, 3, none⟩) (by simp)]; go_simp
  · rw [hb.cell (p := ⟨w.heap.size + 1, 4, none⟩) (by simp)]; go_simp
  · rw [hb.frozen (p := ⟨w.heap.size, 0, none⟩) (by simp; omega)]; go_simp
  · rw [hb.frozen (p := ⟨w.heap.size, 1, none⟩) (by simp; omega)]; go_simp
  · rw [hb.frozen (p := ⟨w.heap.size, 2, none⟩) (by simp; omega)]; go_simp
  · rw [hb.frozen (p := ⟨w.heap.size, 3, none⟩) (by simp; omega)]; go_simp
  · rw [hb.frozen (p := ⟨w.heap.size, 4, none⟩) (by simp; omega)]; go_simp

theorem wrap_small {l : List UInt8} (h : l.length = 4) : valN l < 4294967296 := valN_lt 4 l h

set_option maxRecDepth 20000 in
set_option maxHeartbeats 4000000 in
theorem decode_late (b off c B : Nat) (l : List UInt8) (w : World) (h : Bytes w B (some ⟨b, off, none⟩) 21 l) (hB : B ≤ w.heap.size) (hcc : 21 ≤ c) (hcm : c ≤ maxLen) (hx : at8 l 16 ≤ 1) :
    Calls Tryd.prog 26 #[.slice (some ⟨b, off, none⟩) 21 c] w fun e w' => e = .returned (.tuple #[decV l, .int .i64 (decE l)]) ∧ Below w.heap.size w w' := by
  have hl := h.len
  have hb0 := (Below.refl w.heap.size w).alloc (Nat.le_refl _) (.cells #[.int .u32 0, .int .u32 0, .int .u64 0, .bool false, .int .i64 0] 46)
  obtain ⟨b2, off2, e1, hb, hc⟩ := h.cell (k := 16) (by omega)
  injection e1 with e1
  injection e1 with e1 e2
  subst e1
  subst e2
  have hc2 := cell_keep hc (.cells #[.int .u32 0, .int .u32 0, .int .u64 0, .bool false, .int .i64 0] 46)
  have g1 := at8_lo l 16
  have h2 := Lib.hid (h.alloc hB (.cells #[.int .u32 0, .int .u32 0, .int .u64 0, .bool false, .int .i64 0] 46))
  unfold maxLen at hcm
  have hcz : (21 : Int) ≤ (c : Int) := by omega
  have hc4 : (4 : Int) ≤ (c : Int) := by omega
  have hc8 : (8 : Int) ≤ (c : Int) := by omega
  have hc16 : (16 : Int) ≤ (c : Int) := by omega
  have hc17 : (17 : Int) ≤ (c : Int) := by omega
  have n4 : ¬ c = 4 := by omega
  have n8 : ¬ c = 8 := by omega
  have n17 : ¬ c = 17 := by omega
  have hk : ∀ k m, k < 21 → k + m ≤ 21 → Bytes (w.alloc (.cells #[.int .u32 0, .int .u32 0, .int .u64 0, .bool false, .int .i64 0] 46)) B (some ⟨b, off + k, none⟩) m ((l.drop k).take m) := by
    intro k m hk21 hkm
    have h3 := (h2.out.cut (k := k) (cap := c) (by omega) (by omega)).first (k := m) (by omega)
    rw [if_neg (by omega), Option.map_some, addr_add] at h3
    exact h3
  have K0 := Lib.hid ((h2.out.first (k := 4) (by omega)))
  have K4 := Lib.hid ((hk 4 4 (by omega) (by omega)))
  have K8 := Lib.hid ((hk 8 8 (by omega) (by omega)))
  have K17 := Lib.hid ((hk 17 4 (by omega) (by omega)))
  have hBa : B ≤ (w.alloc (.cells #[.int .u32 0, .int .u32 0, .int .u64 0, .bool false, .int .i64 0] 46)).heap.size := by simp; omega
  obtain ⟨g, eg, hgl, Hg⟩ : ∃ g, valN (l.take 4) = g ∧ g < 4294967296 ∧ Hid (dG l = g) := ⟨_, rfl, wrap_small (by rw [List.length_take, hl]; rfl), Lib.hid rfl⟩
  obtain ⟨m, em, hml, Hm⟩ : ∃ g, valN ((l.drop 4).take 4) = g ∧ g < 4294967296 ∧ Hid (dM l = g) := ⟨_, rfl, wrap_small (by rw [List.length_take, List.length_drop, hl]; rfl), Lib.hid rfl⟩
  obtain ⟨s, es, Hs⟩ : ∃ g, valN ((l.drop 8).take 8) = g ∧ Hid (dS l = g) := ⟨_, rfl, Lib.hid rfl⟩
  obtain ⟨a, ea, hal, Ha⟩ : ∃ g, valN ((l.drop 17).take 4) = g ∧ g < 4294967296 ∧ Hid (dA l = g) := ⟨_, rfl, wrap_small (by rw [List.length_take, List.length_drop, hl]; rfl), Lib.hid rfl⟩
  obtain ⟨d, ed, Hd⟩ : ∃ d, (at8 l 16 == 1) = d ∧ Hid (dD l = d) := ⟨_, rfl, Lib.hid (by unfold dD; rw [Bool.eq_iff_iff]; simp)⟩
  have Hl := Lib.hid hl
  clear hk h hc h2 hl
  go_enter Tryd.func26, Tryd.ntmps26
  go_wp2
  go_region_held3 (fun w' => w'.cell? ⟨b, off + 16, none⟩ = some (.int .u8 (at8 l 16))) ((first | assumption | (go_simp; done) | go_keep)) ((go_at_call 46; first
    | (with_reducible (show Calls _ _ #[.slice (some ⟨b, off, none⟩) 4 c] _ _); refine (docNumber_any (some ⟨b, off, none⟩) 4 c B (l.take 4) _ (by first | exact K0.out.drew | exact (K0.out.alloc hBa _).drew) (by omega)).mono ?_; rintro e wx ⟨rfl, rfl⟩)
    | (with_reducible (show Calls _ _ #[.slice (some ⟨b, off + 4, none⟩) 4 (c - 4)] _ _); refine (docNumber_any (some ⟨b, off + 4, none⟩) 4 (c - 4) B ((l.drop 4).take 4) _ (by first | exact K4.out.drew | exact (K4.out.alloc hBa _).drew) (by omega)).mono ?_; rintro e wx ⟨rfl, rfl⟩)
    | (with_reducible (show Calls _ _ #[.slice (some ⟨b, off + 8, none⟩) 8 (c - 8)] _ _); refine (docNumber_any (some ⟨b, off + 8, none⟩) 8 (c - 8) B ((l.drop 8).take 8) _ (by first | exact K8.out.drew | exact (K8.out.alloc hBa _).drew) (by omega)).mono ?_; rintro e wx ⟨rfl, rfl⟩)
    | (with_reducible (show Calls _ _ #[.slice (some ⟨b, off + 17, none⟩) 4 (c - 17)] _ _); refine (docNumber_any (some ⟨b, off + 17, none⟩) 4 (c - 17) B ((l.drop 17).take 4) _ (by first | exact K17.out.drew | exact (K17.out.alloc hBa _).drew) (by omega)).mono ?_; rintro e wx ⟨rfl, rfl⟩)))
  all_goals go_wp2_with fail
  all_goals refine (valid_any g m s d (a : Int) _).mono ?_
  all_goals rintro e w9 ⟨rfl, hb9⟩
  all_goals obtain ⟨p0, p1, p2, p3, p4, q0, q1, q2, q3, q4, f0, f1, f2, f3, f4⟩ := two_five w _ _ _ _ _ _ _ _ _ _ _ _ hb9
  all_goals
    have hbz : Below w.heap.size w w9 := ((hb0.alloc (by simp) (.cells #[.int .u32 (g : Int), .int .u32 (m : Int), .int .u64 (s : Int), .bool d, .int .i64 (a : Int)] 46)).drew).trans (hb9.mono (by simp; omega))
    have hdec : Hid (decB l = validB g s d (a : Int)) := Lib.hid (by
      unfold decB
      rw [Hl.out, Hg.out, Hs.out, Hd.out, Ha.out, decide_eq_true (by omega : at8 l 16 ≤ 1)]
      rfl)
    have hvl : Hid (infoV (dG l) (dM l) (dS l) (dD l) (dA l : Int) = infoV g m s d (a : Int)) := Lib.hid (by rw [Hg.out, Hm.out, Hs.out, Hd.out, Ha.out])
    clear hb9 hc2 eg em es ea ed K0 K4 K8 K17 hb0 hBa
    cases hvd : validB g s d (a : Int)
    · have Hv := Lib.hid (show decV l = infoV 0 0 0 false 0 by unfold decV; rw [hdec.out, hvd]; rfl)
      have He := Lib.hid (show decE l = 292 by unfold decE; rw [hdec.out, hvd, if_neg (by decide), Hl.out]; rfl)
      clear hvd
      go_wp2
      refine bodyPost_ret (v := .tuple #[.agg #[.int .u32 0, .int .u32 0, .int .u64 0, .bool false, .int .i64 0], .int .i64 292]) ?_ rfl ⟨?_, ?_⟩
      · simp [results, Tryd.results26, go_sem, *]
      · rw [Hv.out, He.out]
        rfl
      · exact ((((hbz.setCell (by exact Nat.le_refl _) _).setCell (by exact Nat.le_refl _) _).setCell (by exact Nat.le_refl _) _).setCell (by exact Nat.le_refl _) _).setCell (by exact Nat.le_refl _) _
    · have Hv := Lib.hid (show decV l = infoV g m s d (a : Int) by unfold decV; rw [hdec.out, hvd, if_pos rfl, hvl.out])
      have He := Lib.hid (show decE l = 0 by unfold decE; rw [hdec.out, hvd, if_pos rfl])
      clear hvd
      go_wp2
      refine bodyPost_ret (v := .tuple #[.agg #[.int .u32 (g : Int), .int .u32 (m : Int), .int .u64 (s : Int), .bool d, .int .i64 (a : Int)], .int .i64 0]) ?_ rfl ⟨?_, ?_⟩
      · simp [results, Tryd.results26, go_sem, *]
      · rw [Hv.out, He.out]
        rfl
      · exact ((((hbz.setCell (by exact Nat.le_refl _) _).setCell (by exact Nat.le_refl _) _).setCell (by exact Nat.le_refl _) _).setCell (by exact Nat.le_refl _) _).setCell (by exact Nat.le_refl _) _
end Go.Proofs.YtedoajiapicpnaaDoor
