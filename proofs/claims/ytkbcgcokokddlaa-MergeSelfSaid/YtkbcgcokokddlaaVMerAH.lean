import Derived.Test.YtkbcgcokokddlaaVMergeSteps
import Derived.Test.YtkbcgcokokddlaaGad
/-
  Layer 15: slices.IndexFunc at items, with the function literal of MergeSelf.
-/
namespace Go.Proofs.Ytkbcgcokokddlaa
open Go.RowKit
set_option linter.unusedVariables false
set_option linter.unusedSimpArgs false

theorem cellB {w w' : World} {B : Nat} (hb : Below B w w') {p : Addr} {v : Value} (hp : p.block < B) (h : w.cell? p = some v) : w'.cell? p = some v := (hb.cell hp).trans h
set_option maxRecDepth 20000 in
set_option maxHeartbeats 1000000 in
theorem keyis_any (x : ItT) (p : PcT) (gb B : Nat) (w : World) (hx : x.Ok w B) (hp : p.Ok w B) (hB : B ≤ w.heap.size) (hgb : gb < w.heap.size) (hc : w.cell? ⟨gb, 0, none⟩ = some (.slice p.A p.n p.c)) (z : Bool) (hz : sameB x.k.l p.l = z) :
    Calls Try.prog 29 #[.agg #[.slice x.k.A x.k.n x.k.c, .slice x.v.A x.v.n x.v.c, .bool x.b, .int .i64 x.n], .pointer (some ⟨gb, 0, none⟩)] w fun e w' => e = .returned (.bool z) ∧ Below w.heap.size w w' := by
  have hb := bel_alloc (Below.refl w.heap.size w) (.cells #[.slice x.k.A x.k.n x.k.c, .slice x.v.A x.v.n x.v.c, .bool x.b, .int .i64 x.n] 54)
  have hv := equal_any x.k.A p.A x.k.n x.k.c p.n p.c x.k.l p.l B B _ (hx.key.here.below (hb.mono hB)) (hp.here.below (hb.mono hB)) (Nat.le_trans hx.key.fits hx.key.most) (Nat.le_trans hp.fits hp.most)
  obtain ⟨c0, c1, c2, c3⟩ := four_blk (heap_alloc_new w (.cells #[.slice x.k.A x.k.n x.k.c, .slice x.v.A x.v.n x.v.c, .bool x.b, .int .i64 x.n] 54))
  have c4 := cellB hb (p := ⟨gb, 0, none⟩) hgb hc
  rw [hz] at hv
  clear hz hx hp hc
  go_enter Try.func29, Try.ntmps29
  go_wp2_with fail
  generalize w.alloc (.cells #[.slice x.k.A x.k.n x.k.c, .slice x.v.A x.v.n x.v.c, .bool x.b, .int .i64 x.n] 54) = W1 at *
  refine hv.mono ?_
  rintro e w1 ⟨rfl, k, rfl⟩
  have hb2 := hb.trans ((below_drewN (Below.refl _ W1) k).mono hb.size)
  clear hv c0 c1 c2 c3 c4 hb
  go_wp2
  go_ret
  exact ⟨rfl, hb2⟩
/-- The place of the first item of a key. -/
def IxP (L : List ItS) (k : List UInt8) (W : World) (e : Ending) (w' : World) : Prop := Below W.heap.size W w' ∧ ((e = .returned (.int .i64 (-1)) ∧ ∀ x ∈ L, x.k ≠ k) ∨ ∃ i : Nat, e = .returned (.int .i64 i) ∧ ∃ x, L[i]? = some x ∧ x.k = k)
set_option maxRecDepth 20000 in
set_option maxHeartbeats 1000000 in
theorem idxI_any (X : IsT) (p : PcT) (gb B : Nat) (w : World) (hX : X.Lie w B) (hp : p.Ok w B) (hB : B ≤ w.heap.size) (hgb : gb < w.heap.size) (hc : w.cell? ⟨gb, 0, none⟩ = some (.slice p.A p.n p.c)) :
    Calls Try.prog 28 #[.slice X.A X.n X.c, .func (.func 29) #[] #[.pointer (some ⟨gb, 0, none⟩)]] w (IxP X.s p.l w) := by
  obtain ⟨XA, n, Xc, E⟩ := X
  have hlen := hX.len
  have hmax := Nat.le_trans hX.fit hX.most
  have HX := Lib.hid hX
  have HP0 := Lib.hid hp
  have HB := Lib.hid hB
  have HGb := Lib.hid hgb
  have HC := Lib.hid hc
  simp only at hlen hmax
  unfold maxLen at hmax
  have HL := Lib.hid hlen
  clear hX hB hlen hp hgb hc
  show Calls _ _ #[.slice XA n Xc, _] _ _
  go_enter Try.func28, Try.ntmps28
  go_wp2_with fail
  go_loopw [8] (fun s wr => ∃ i : Nat, s = .int .i64 i ∧ i ≤ n ∧ Hid (∀ x ∈ E.take i, x.s.k ≠ p.l) ∧ Below w.heap.size w wr) (fun s _ => n - (intOf s).toNat)
  case atStart => exact ⟨0, rfl, Nat.zero_le _, Lib.hid nofun, Below.refl _ _⟩
  case round =>
    obtain ⟨i, rfl, hi, HD, hbr⟩ := hrel
    by_cases hin : i < n
    · have hlie := HX.out.later (hbr.mono HB.out)
      have hBr := Nat.le_trans HB.out hbr.size
      obtain ⟨b, off, x, hA, hbb, hx, x0, x1, x2, x3⟩ := it_at hlie.row (i := i) hin
      have hxo := hlie.all x (List.mem_of_getElem? hx)
      simp only at hA
      obtain ⟨z, hz⟩ : ∃ z, sameB x.k.l p.l = z := ⟨_, rfl⟩
      have hc := keyis_any x p gb B wr hxo (HP0.out.later (hbr.mono HB.out)) hBr (Nat.lt_of_lt_of_le HGb.out hbr.size) (cellB hbr HGb.out HC.out) z hz
      have hin' : (i : Int) < (n : Int) := by omega
      have w3 : wrap64 ((i : Int) + 1) = ((i + 1 : Nat) : Int) := by unfold wrap64; omega
      have HZ : Hid (z = true ↔ x.s.k = p.l) := Lib.hid (by rw [← hz]; unfold sameB; exact decide_eq_true_iff)
      have HXX := Lib.hid (show E[i]? = some x from hx)
      subst hA
      clear hz hlie hBr hbb hx hxo hi
      go_wp2_with fail
      refine hc.mono ?_
      rintro e w1 ⟨rfl, hb1⟩
      have hb2 := hbr.trans (hb1.mono hbr.size)
      clear hc x0 x1 x2 x3 hb1
      cases z
      · have HD2 : Hid (∀ y ∈ E.take (i + 1), y.s.k ≠ p.l) := Lib.hid (fun y hy => by
          rw [List.take_add_one, HXX.out] at hy
          rcases List.mem_append.1 hy with hy | hy
          · exact HD.out y hy
          · rw [List.mem_singleton.1 hy]
            exact fun h => Bool.noConfusion (HZ.out.2 h))
        go_wp2_with fail
        go_roundw
        case rel => exact ⟨i + 1, by first | rfl | go_num, by omega, HD2, hb2⟩
        case measure => simp [intOf]; omega
      · have HP : Hid (IxP (E.map ItT.s) p.l w (.returned (.int .i64 i)) w1) := Lib.hid ⟨hb2, .inr ⟨i, rfl, x.s, by rw [List.getElem?_map, HXX.out]; rfl, HZ.out.1 (by first | trivial | rfl)⟩⟩
        go_wp2
        go_ret
        exact HP.out
    · have e : i = n := by omega
      subst e
      have HP : Hid (IxP (E.map ItT.s) p.l w (.returned (.int .i64 (-1))) wr) := Lib.hid ⟨hbr, .inl ⟨rfl, fun y hy => by
        obtain ⟨x, hx, rfl⟩ := List.mem_map.1 hy
        exact HD.out x (by rw [List.take_of_length_le (Nat.le_of_eq HL.out)]; exact hx)⟩⟩
      have hin' : ¬ (i : Int) < (i : Int) := by omega
      clear hin hi hbr
      go_wp2
      go_ret
      exact HP.out
end Go.Proofs.Ytkbcgcokokddlaa
