import Derived.Test.YtnfohlabmidliaaVNodRo
/-
  The reference's Read of any bytes.
-/
namespace Go.Proofs.Ytnfohlabmidliaa
open Go.RowKit
set_option linter.unusedVariables false
set_option linter.unusedSimpArgs false

set_option maxRecDepth 20000 in
set_option maxHeartbeats 4000000 in
theorem rRead_short (A : Option Addr) (n c : Nat) (l : List UInt8) (w : World) (h : n < 2) (hno : ∀ Z : NoT, ¬ Hyp l Z) :
    Calls Try.prog 26 #[.slice A n c] w (ReaP ⟨A, n, c, l⟩ w) := by
  have hn2 : (n : Int) < 2 := by omega
  have hb1 := bel_alloc (Below.refl w.heap.size w) (.cells #[.bool false, .slice none 0 0, .slice none 0 0] 25)
  have hX2 := heap_alloc_new w (.cells #[.bool false, .slice none 0 0, .slice none 0 0] 25)
  obtain ⟨⟨z0, z1, z2⟩, y0, y1, y2⟩ := nbox_blk hX2
  clear hX2
  go_enter Try.func26, Try.ntmps26
  go_wp2
  refine bodyPost_ret (v := .tuple #[.agg #[.bool false, .slice none 0 0, .slice none 0 0], .bool false]) ?_ rfl ⟨hb1, .inl ⟨rfl, hno⟩⟩
  simp [results, Try.results26, go_sem, *]
set_option maxRecDepth 20000 in
set_option maxHeartbeats 4000000 in
theorem rRead_many (b off n c : Nat) (l : List UInt8) (w : World) (hn : 2 ≤ n) (hbw : b < w.heap.size) (N : Nat) (y1 : w.cell? ⟨b, off + 1, none⟩ = some (.int .u8 (N : Nat))) (h : 6 < N) (hno : ∀ Z : NoT, ¬ Hyp l Z) :
    Calls Try.prog 26 #[.slice (some ⟨b, off, none⟩) n c] w (ReaP ⟨some ⟨b, off, none⟩, n, c, l⟩ w) := by
  have hn2 : ¬ (n : Int) < 2 := by omega
  have hi1 : (1 : Int) < (n : Int) := by omega
  have hN6 : (6 : Int) < (N : Int) := by omega
  have hb1 := bel_alloc (Below.refl w.heap.size w) (.cells #[.bool false, .slice none 0 0, .slice none 0 0] 25)
  have hX2 := heap_alloc_new w (.cells #[.bool false, .slice none 0 0, .slice none 0 0] 25)
  have v1 := (hb1.cell (show b < w.heap.size from hbw)).trans y1
  obtain ⟨⟨z0, z1, z2⟩, e0, e1, e2⟩ := nbox_blk hX2
  clear hX2 y1
  go_enter Try.func26, Try.ntmps26
  go_wp2
  refine bodyPost_ret (v := .tuple #[.agg #[.bool false, .slice none 0 0, .slice none 0 0], .bool false]) ?_ rfl ⟨hb1, .inl ⟨rfl, hno⟩⟩
  simp [results, Try.results26, go_sem, *]
theorem rRead14_any (p : PcT) (B : Nat) (w : World) (hp : p.Ok w B) (hB : B ≤ w.heap.size) :
    Calls Try.prog 26 #[.slice p.A p.n p.c] w (ReaP p w) := by
  obtain ⟨A, n, c, l⟩ := p
  have hlen := hp.len
  simp only at hlen
  by_cases h2 : n < 2
  · exact rRead_short A n c l w h2 (fun Z hZ => by have := (hyp_head hZ).1; omega)
  · obtain ⟨b, off, hbe, hbB, hcl⟩ := hp.here.2 (show 0 < n by omega)
    obtain rfl : A = some ⟨b, off, none⟩ := hbe
    obtain ⟨x0, h0⟩ : ∃ x, l[0]? = some x := ⟨_, List.getElem?_eq_getElem (by omega)⟩
    obtain ⟨x1, h1⟩ : ∃ x, l[1]? = some x := ⟨_, List.getElem?_eq_getElem (by omega)⟩
    by_cases h6 : 6 < x1.toNat
    · have y1 : w.cell? ⟨b, off + 1, none⟩ = some (.int .u8 (x1.toNat : Nat)) := hcl 1 (bv x1) (by rw [List.getElem?_map, h1]; rfl)
      refine rRead_many b off n c l w (by omega) (by omega) _ y1 h6 (fun Z hZ => ?_)
      obtain ⟨-, -, a1, a6, -⟩ := hyp_head hZ
      rw [a1] at h1
      injection h1 with h1
      rw [← h1, UInt8.toNat_ofNat'] at h6
      omega
    · cases hlf : (((x0.toNat : Nat) : Int) == 1)
      · exact rRead_inner b off n c l B w hp hB (by omega) x0 x1 h0 h1 (by omega) hlf
      · exact rRead_leaf b off n c l B w hp hB (by omega) x0 x1 h0 h1 (by omega) hlf
end Go.Proofs.Ytnfohlabmidliaa
