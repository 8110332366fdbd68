import Derived.Test.YtlknmpnjhbdlhaaDoorGap
/-
  Layer 12: the reference's Says.
-/
namespace Go.Proofs.YtlknmpnjhbdlhaaDoor
open Go.RowKit
set_option linter.unusedVariables false

theorem HBox.set0 {w : World} {h g : Nat} {a : Int} (hb : HBox w h g a) (g' : Nat) : HBox (w.setCell ⟨h, 0, none⟩ (.int .u64 (g' : Int))) h g' a := by
  unfold HBox at hb
  rw [setCell_eq_setRow w h 0 _ _ _ _ hb]
  exact setRow_heap w h _ _ _ _ hb
theorem HBox.set1 {w : World} {h g : Nat} {a : Int} (hb : HBox w h g a) (a' : Int) : HBox (w.setCell ⟨h, 1, none⟩ (.int .i64 a')) h g a' := by
  unfold HBox at hb
  rw [setCell_eq_setRow w h 1 _ _ _ _ hb]
  exact setRow_heap w h _ _ _ _ hb
theorem OnlyB.set {g : Nat} {w w' : World} (h : OnlyB g w w') (i : Nat) (x : Value) : OnlyB g w (w'.setCell ⟨g, i, none⟩ x) :=
  ⟨by rw [size_set]; exact h.size, fun k hk => (Below.heap_setCell _ _ _ _ hk).trans (h.other k hk), fun B hB => (h.below B hB).setCell hB x⟩
theorem OnlyB.thenDrew {g : Nat} {w w' : World} (h : OnlyB g w w') : OnlyB g w w'.drew := ⟨h.size, h.other, fun B hB => below_drewN (h.below B hB) 1⟩
theorem part_next (l : List UInt8) (o k i : Nat) (hi : o ≤ i) (hk : i - o < k) (hl : i < l.length) : Hdr.rdN (((l.drop o).take k).take (i + 1 - o)) = Hdr.rdN (((l.drop o).take k).take (i - o)) * 256 + (l.getD i 0).toNat := by
  have h := rd_take (l := (l.drop o).take k) (k := i - o) (by simp; omega)
  rw [show i + 1 - o = i - o + 1 by omega, h]
  have e : ((l.drop o).take k).getD (i - o) 0 = l.getD i 0 := by
    rw [List.getD_eq_getElem?_getD, List.getElem?_take_of_lt hk, List.getElem?_drop, show o + (i - o) = i by omega, ← List.getD_eq_getElem?_getD]
  rw [e]
theorem part_lt (l : List UInt8) (o k j : Nat) (hj : j ≤ k) : Hdr.rdN (((l.drop o).take k).take j) < 256 ^ k := by
  refine Nat.lt_of_lt_of_le (rd_lt _) (Nat.pow_le_pow_right (by decide) ?_)
  rw [List.length_take]
  omega
theorem i64_mid (x : Int) (h : 0 ≤ x ∧ x ≤ 1099511627776) : IntKind.i64.wrap x = x := by rw [IntKind.wrap_i64]; omega
theorem w64_mid (x : Int) (h : 0 ≤ x ∧ x ≤ 1099511627776) : RowKit.wrap64 x = x := by unfold RowKit.wrap64; omega
theorem five_wraps (G x : Nat) (h : G * 256 + x < 4294967296) : RowKit.wrap64 ((G : Int) * 256) = (G : Int) * 256 ∧ RowKit.wrap64 ((G : Int) * 256 + (x : Int)) = (G : Int) * 256 + (x : Int) ∧ IntKind.i64.wrap ((G : Int) * 256) = (G : Int) * 256 ∧ IntKind.i64.wrap ((G : Int) * 256 + (x : Int)) = (G : Int) * 256 + (x : Int) ∧ IntKind.i64.wrap (x : Int) = (x : Int) :=
  ⟨w64_mid _ (by omega), w64_mid _ (by omega), i64_mid _ (by omega), i64_mid _ (by omega), i64_mid _ (by omega)⟩
theorem u64_small (x : Nat) (h : x < 18446744073709551616) : IntKind.u64.wrap (x : Int) = (x : Int) := by
  have : IntKind.u64.wrap (x : Int) = (x : Int) % 18446744073709551616 := by simp [IntKind.wrap, IntKind.bits, IntKind.signed]
  rw [this]; omega
set_option maxRecDepth 20000 in
set_option maxHeartbeats 4000000 in
theorem refSaysH_any (l : List UInt8) (hl : l.length = 64) (w : World) :
    Calls Tryd.prog 14 #[arrV l] w fun e w' => e = .returned (.tuple #[.agg #[.int .u64 (sayG l : Nat), .int .i64 (sayA l : Nat)], .bool (Hdr.saysL l).isSome]) ∧ Below w.heap.size w w' := by
  obtain ⟨i8, hi8, -⟩ := u8_info
  obtain ⟨g0, hg0⟩ : ∃ g0, Hdr.rdN ((l.drop 1).take 8) = g0 := ⟨_, rfl⟩
  obtain ⟨a0, ha0⟩ : ∃ a0, Hdr.rdN ((l.drop 9).take 4) = a0 := ⟨_, rfl⟩
  have hgl : g0 < 18446744073709551616 := by
    have h := rd_lt ((l.drop 1).take 8)
    rw [hg0, show ((l.drop 1).take 8).length = 8 by simp; omega] at h
    exact h
  have hal : a0 < 4294967296 := by
    have h := rd_lt ((l.drop 9).take 4)
    rw [ha0, show ((l.drop 9).take 4).length = 4 by simp; omega] at h
    exact h
  have HSay := Lib.hid (show Hdr.saysL l = if 1 ≤ g0 ∧ a0 < 524288 ∧ Hdr.blockL g0 a0 = l then some (g0, a0) else none by
    unfold Hdr.saysL
    rw [hg0, ha0])
  have HG0 := Lib.hid hg0
  have HA0 := Lib.hid ha0
  have HL := Lib.hid hl
  have HGL := Lib.hid hgl
  clear hl hg0 ha0 hgl
  unfold arrV
  go_enter Tryd.func14, Tryd.ntmps14
  go_upto_region 2 with fail
  obtain ⟨W1, hW1⟩ : ∃ W1, ((w.alloc (.cells ⟨l.map bv⟩ 25)).alloc (.cells #[.int .u64 0, .int .i64 0] 24)).alloc (.cells #[.int .u64 0, .int .i64 0] 24) = W1 := ⟨_, rfl⟩
  have hs1 : W1.heap.size = w.heap.size + 1 + 1 + 1 := by rw [← hW1]; simp
  have hb1 : Below w.heap.size w W1 := by rw [← hW1]; exact bel_alloc (bel_alloc (bel_alloc (Below.refl _ _) _) _) _
  have hA1 : Arr W1 w.heap.size 25 l := by rw [← hW1]; exact ((Arr.new w 25 l).alloc _).alloc _
  have hR1 : HBox W1 (w.heap.size + 1) 0 0 := by
    have h : HBox ((w.alloc (.cells ⟨l.map bv⟩ 25)).alloc (.cells #[.int .u64 0, .int .i64 0] 24)) (w.alloc (.cells ⟨l.map bv⟩ 25)).heap.size 0 0 := heap_alloc_new _ _
    rw [World.size_alloc] at h
    rw [← hW1]
    exact h.later (bel_alloc (Below.refl _ _) _)
  have hH1 : HBox W1 (w.heap.size + 1 + 1) 0 0 := by
    have h : HBox (((w.alloc (.cells ⟨l.map bv⟩ 25)).alloc (.cells #[.int .u64 0, .int .i64 0] 24)).alloc (.cells #[.int .u64 0, .int .i64 0] 24)) ((w.alloc (.cells ⟨l.map bv⟩ 25)).alloc (.cells #[.int .u64 0, .int .i64 0] 24)).heap.size 0 0 := heap_alloc_new _ _
    rw [World.size_alloc, World.size_alloc] at h
    rw [← hW1]
    exact h
  rw [hW1]
  clear hW1
  have HA1 := Lib.hid hA1
  have HR1 := Lib.hid hR1
  have HB1 := Lib.hid hb1
  have HH1 := Lib.hid hH1
  clear hA1 hR1 hb1 hH1
  go_wp2_with fail
  go_loopw [5] (fun iv wr => ∃ i : Nat, 1 ≤ i ∧ i ≤ 9 ∧ iv = .int .i64 (i : Nat) ∧ Hid (HBox wr (w.heap.size + 1 + 1) (Hdr.rdN (((l.drop 1).take 8).take (i - 1))) 0) ∧ Hid (OnlyB (w.heap.size + 1 + 1) W1 wr)) (fun iv _ => 9 - (intOf iv).toNat)
  case atStart => exact ⟨1, by omega, by omega, rfl, HH1, Lib.hid (OnlyB.drewN _ _ 0)⟩
  case round =>
    obtain ⟨i, hi1, hi9, rfl, HH, HO⟩ := hrel
    clear HH1
    by_cases hlt : i < 9
    · have hlt' : ((i : Int) < 9) = True := eq_true (by omega)
      obtain ⟨G, hG⟩ : ∃ G, Hdr.rdN (((l.drop 1).take 8).take (i - 1)) = G := ⟨_, rfl⟩
      obtain ⟨x, hx⟩ : ∃ x, (l.getD i 0).toNat = x := ⟨_, rfl⟩
      have hxl : x < 256 := by rw [← hx]; exact (l.getD i 0).toNat_lt
      have hnx := part_next l 1 8 i hi1 (by omega) (by rw [HL.out]; omega)
      have hpl := part_lt l 1 8 (i + 1 - 1) (by omega)
      rw [hG, hx] at hnx
      rw [hnx] at hpl
      have hpl' : G * 256 + x < 18446744073709551616 := hpl
      have hh := HH.out
      rw [hG] at hh
      have y0 := hh.c0
      have k0 := hh.soft 0
      have ha := HO.out.arr HA1.out (by omega)
      have z0 : wr.cell? ⟨w.heap.size, i, none⟩ = some (.int .u8 (x : Nat)) := by
        rw [ha.cell (by rw [HL.out]; omega)]
        unfold at8
        rw [hx]
      have w1 : IntKind.u64.wrap ((G : Int) * 256) = (G : Int) * 256 := by have h := u64_small (G * 256) (by omega); rw [show ((G * 256 : Nat) : Int) = (G : Int) * 256 by omega] at h; exact h
      have w2 : IntKind.u64.wrap ((G : Int) * 256 + (x : Int)) = (G : Int) * 256 + (x : Int) := by have h := u64_small (G * 256 + x) hpl'; rw [show ((G * 256 + x : Nat) : Int) = (G : Int) * 256 + (x : Int) by omega] at h; exact h
      have hi64 : i < 64 := by omega
      have hst := Lib.hid (hh.set0 (G * 256 + x))
      have HNX := Lib.hid hnx
      have HO2 := Lib.hid (HO.out.set 0 (.int .u64 ((G * 256 + x : Nat) : Int))).thenDrew
      clear hx hG hnx hpl hpl' hh ha HH HO
      go_upto_region 5 with fail
      go_region
      have HST2 := Lib.hid (show HBox ((wr.setCell ⟨w.heap.size + 1 + 1, 0, none⟩ (.int .u64 ((G : Int) * 256 + (x : Int)))).drew) (w.heap.size + 1 + 1) (G * 256 + x) 0 by
        have h := hst.out
        rw [show ((G * 256 + x : Nat) : Int) = (G : Int) * 256 + (x : Int) by omega] at h
        exact h)
      have HO3 := Lib.hid (show OnlyB (w.heap.size + 1 + 1) W1 ((wr.setCell ⟨w.heap.size + 1 + 1, 0, none⟩ (.int .u64 ((G : Int) * 256 + (x : Int)))).drew) by
        have h := HO2.out
        rw [show ((G * 256 + x : Nat) : Int) = (G : Int) * 256 + (x : Int) by omega] at h
        exact h)
      generalize (wr.setCell ⟨w.heap.size + 1 + 1, 0, none⟩ (.int .u64 ((G : Int) * 256 + (x : Int)))).drew = w5 at *
      clear hst HO2 y0 k0 z0 w1 w2
      go_wp2
      go_roundw
      case rel => exact ⟨i + 1, by omega, by omega, by go_num, Lib.hid (by rw [HNX.out]; exact HST2.out), HO3⟩
      case measure => simp [intOf]; omega
    · obtain rfl : i = 9 := by omega
      have hlt' : ((((9 : Nat) : Int)) < 9) = False := eq_false (by omega)
      have HH2 := Lib.hid (show HBox wr (w.heap.size + 1 + 1) g0 0 by
        have h := HH.out
        rw [show 9 - 1 = 8 from rfl, List.take_of_length_le (l := (l.drop 1).take 8) (by rw [List.length_take]; omega), HG0.out] at h
        exact h)
      clear HH hlt
      go_wp2_with fail
      have HO9 := HO
      clear HO
      go_loopw [6] (fun iv wr => ∃ i : Nat, 9 ≤ i ∧ i ≤ 13 ∧ iv = .int .i64 (i : Nat) ∧ Hid (HBox wr (w.heap.size + 1 + 1) g0 ((Hdr.rdN (((l.drop 9).take 4).take (i - 9)) : Nat) : Int)) ∧ Hid (OnlyB (w.heap.size + 1 + 1) W1 wr)) (fun iv _ => 13 - (intOf iv).toNat)
      case atStart => exact ⟨9, by omega, by omega, rfl, HH2, HO9⟩
      case round =>
        obtain ⟨i, hi1, hi9, rfl, HH, HO⟩ := hrel
        clear HH2 HO9
        by_cases hlt : i < 13
        · have hlt' : ((i : Int) < 13) = True := eq_true (by omega)
          obtain ⟨G, hG⟩ : ∃ G, Hdr.rdN (((l.drop 9).take 4).take (i - 9)) = G := ⟨_, rfl⟩
          obtain ⟨x, hx⟩ : ∃ x, (l.getD i 0).toNat = x := ⟨_, rfl⟩
          have hxl : x < 256 := by rw [← hx]; exact (l.getD i 0).toNat_lt
          have hnx := part_next l 9 4 i hi1 (by omega) (by rw [HL.out]; omega)
          have hpl := part_lt l 9 4 (i + 1 - 9) (by omega)
          rw [hG, hx] at hnx
          rw [hnx] at hpl
          have hpl' : G * 256 + x < 4294967296 := hpl
          have hh := HH.out
          rw [hG] at hh
          have y0 := hh.c1
          have k0 := hh.soft 1
          have ha := HO.out.arr HA1.out (by omega)
          have z0 : wr.cell? ⟨w.heap.size, i, none⟩ = some (.int .u8 (x : Nat)) := by
            rw [ha.cell (by rw [HL.out]; omega)]
            unfold at8
            rw [hx]
          clear hpl
          have hi64 : i < 64 := by omega
          have hst := Lib.hid (hh.set1 ((G : Int) * 256 + (x : Int)))
          have HNX := Lib.hid hnx
          have HO2 := Lib.hid (HO.out.set 1 (.int .i64 ((G : Int) * 256 + (x : Int)))).thenDrew
          obtain ⟨w1, w2, w3, w4, w5⟩ := five_wraps G x hpl'
          clear hx hG hnx hpl' hh ha HH HO
          go_upto_region 9 with fail
          go_region
          have HST2 := Lib.hid (show HBox ((wr.setCell ⟨w.heap.size + 1 + 1, 1, none⟩ (.int .i64 ((G : Int) * 256 + (x : Int)))).drew) (w.heap.size + 1 + 1) g0 ((G : Int) * 256 + (x : Int)) from hst.out)
          generalize (wr.setCell ⟨w.heap.size + 1 + 1, 1, none⟩ (.int .i64 ((G : Int) * 256 + (x : Int)))).drew = w6 at *
          clear hst y0 k0 z0 w1 w2 w3 w4 w5
          go_wp2
          go_roundw
          case rel => exact ⟨i + 1, by omega, by omega, by go_num, Lib.hid (by rw [HNX.out, show ((G * 256 + x : Nat) : Int) = (G : Int) * 256 + (x : Int) by omega]; exact HST2.out), HO2⟩
          case measure => simp [intOf]; omega
        · obtain rfl : i = 13 := by omega
          have hlt' : ((((13 : Nat) : Int)) < 13) = False := eq_false (by omega)
          have hh : HBox wr (w.heap.size + 1 + 1) g0 (a0 : Nat) := by
            have h := HH.out
            rw [show 13 - 9 = 4 from rfl, List.take_of_length_le (l := (l.drop 9).take 4) (by rw [List.length_take]; omega), HA0.out] at h
            exact h
          have HAR := Lib.hid (fun W (h : Below wr.heap.size wr W) => (HO.out.arr HA1.out (by omega)).later h)
          have x0 : ∀ W, Below wr.heap.size wr W → W.cell? ⟨w.heap.size + 1 + 1, 0, none⟩ = some (.int .u64 (g0 : Int)) := fun W hw => (hh.later hw).c0
          have x1 : ∀ W, Below wr.heap.size wr W → W.cell? ⟨w.heap.size + 1 + 1, 1, none⟩ = some (.int .i64 (a0 : Nat)) := fun W hw => (hh.later hw).c1
          have hrs : HBox wr (w.heap.size + 1) 0 0 := (HO.out.other _ (by omega)).trans HR1.out
          have HR2 := Lib.hid hrs
          have HSZ := Lib.hid HO.out.size
          have HB2 := Lib.hid (HB1.out.trans (HO.out.below w.heap.size (by omega)))
          obtain ⟨b0, hb0⟩ : ∃ b0, (l.getD 0 0).toNat = b0 := ⟨_, rfl⟩
          obtain ⟨b63, hb63⟩ : ∃ b63, (l.getD 63 0).toNat = b63 := ⟨_, rfl⟩
          have z0 : ∀ W, Below wr.heap.size wr W → W.cell? ⟨w.heap.size, 0, none⟩ = some (.int .u8 (b0 : Nat)) := fun W hw => by
            rw [(HAR.out W hw).cell (by rw [HL.out]; omega)]
            unfold at8
            rw [hb0]
          have z1 : ∀ W, Below wr.heap.size wr W → W.cell? ⟨w.heap.size, 63, none⟩ = some (.int .u8 (b63 : Nat)) := fun W hw => by
            rw [(HAR.out W hw).cell (by rw [HL.out]; omega)]
            unfold at8
            rw [hb63]
          have HN0 := Lib.hid (show b0 ≠ 1 → Hdr.saysL l = none from fun h => Hdr.says_first (fun e => h (by rw [← hb0, e]; rfl)))
          have HN63 := Lib.hid (show b63 ≠ 165 → Hdr.saysL l = none from fun h => Hdr.says_last (fun e => h (by rw [← hb63, e]; rfl)))
          clear HH HO hlt hh hrs hb0 hb63 HA1 HR1 HB1
          have hs13 : W1.heap.size ≤ wr.heap.size := by rw [HSZ.out]; exact Nat.le_refl _
          have hch := fun W => refRightH_any g0 (a0 : Nat) W
          by_cases hb1 : b0 = 1
          · subst hb1
            by_cases hb2 : b63 = 165
            · subst hb2
              clear HN0 HN63
              by_cases hok : okH g0 (a0 : Nat) = true
              · obtain ⟨k1, -, k2⟩ := okH_iff.1 hok
                have k3 : a0 < 524288 := by omega
                have HBK := Lib.hid (fun W => refBlockH_any g0 a0 W HGL.out k3)
                rw [hok] at hch
                by_cases heq : Hdr.blockL g0 a0 = l
                · have hsome : Hdr.saysL l = some (g0, a0) := by rw [HSay.out, if_pos ⟨k1, k3, heq⟩]
                  have HSG := Lib.hid (say_some hsome).1
                  have HSA := Lib.hid (say_some hsome).2.1
                  have HSB := Lib.hid (say_some hsome).2.2
                  have HNE := Lib.hid (show (!decide (Hdr.blockL g0 a0 = l)) = false by rw [decide_eq_true heq]; rfl)
                  clear hsome heq hok k1 k2 k3 HSay
                  go_upto_region 10 with fail
                  refine wp_region_held_drew (S := fun W => Below wr.heap.size wr W) (by kernel_rfl) (below_drewN (Below.refl _ _) 1) (fun hHeld => ?_)
                  refine rg_in 0 rfl (by kernel_rfl) (by kernel_rfl) (by kernel_rfl) (by rfl) (v := ?_) (fun _ _ _ h => h) hHeld (fun w hSw => ?_) ?_
                  rotate_left
                  · (try dsimp only at hSw); go_simp <;> (with_reducible rfl)
                  (try simp only [Act.put, List.setIfInBounds_toArray, List.set_cons_zero, List.set_cons_succ])
                  refine rg_in 1 rfl (by kernel_rfl) (by kernel_rfl) (by kernel_rfl) (by rfl) (v := ?_) (fun _ _ _ h => h) hHeld (fun w hSw => ?_) ?_
                  rotate_left
                  · (try dsimp only at hSw); go_simp <;> (with_reducible rfl)
                  (try simp only [Act.put, List.setIfInBounds_toArray, List.set_cons_zero, List.set_cons_succ])
                  refine rg_in 2 rfl (by kernel_rfl) (by kernel_rfl) (by kernel_rfl) (by rfl) (v := ?_) (fun _ _ _ h => h) hHeld (fun w hSw => ?_) ?_
                  rotate_left
                  · (try dsimp only at hSw); go_simp <;> (with_reducible rfl)
                  (try simp only [Act.put, List.setIfInBounds_toArray, List.set_cons_zero, List.set_cons_succ])
                  refine rg_in 3 rfl (by kernel_rfl) (by kernel_rfl) (by kernel_rfl) (by rfl) (v := ?_) (fun _ _ _ h => h) hHeld (fun w hSw => ?_) ?_
                  rotate_left
                  · (try dsimp only at hSw); go_simp <;> (with_reducible rfl)
                  (try simp only [Act.put, List.setIfInBounds_toArray, List.set_cons_zero, List.set_cons_succ])
                  refine rg_in 4 rfl (by kernel_rfl) (by kernel_rfl) (by kernel_rfl) (by rfl) (v := ?_) (fun _ _ _ h => h) hHeld (fun w hSw => ?_) ?_
                  rotate_left
                  · (try dsimp only at hSw); go_simp <;> (with_reducible rfl)
                  (try simp only [Act.put, List.setIfInBounds_toArray, List.set_cons_zero, List.set_cons_succ])
                  refine rg_in 5 rfl (by kernel_rfl) (by kernel_rfl) (by kernel_rfl) (by rfl) (v := ?_) (fun _ _ _ h => h) hHeld (fun w hSw => ?_) ?_
                  rotate_left
                  · (try dsimp only at hSw); go_simp <;> (with_reducible rfl)
                  (try simp only [Act.put, List.setIfInBounds_toArray, List.set_cons_zero, List.set_cons_succ])
                  refine rg_in 6 rfl (by kernel_rfl) (by kernel_rfl) (by kernel_rfl) (by rfl) (v := ?_) (fun _ _ _ h => h) hHeld (fun w hSw => ?_) ?_
                  rotate_left
                  · (try dsimp only at hSw); go_simp <;> (with_reducible rfl)
                  (try simp only [Act.put, List.setIfInBounds_toArray, List.set_cons_zero, List.set_cons_succ])
                  refine rg_in 7 rfl (by kernel_rfl) (by kernel_rfl) (by kernel_rfl) (by rfl) (v := ?_) (fun _ _ _ h => h) hHeld (fun w hSw => ?_) ?_
                  rotate_left
                  · (try dsimp only at hSw); go_simp <;> (with_reducible rfl)
                  (try simp only [Act.put, List.setIfInBounds_toArray, List.set_cons_zero, List.set_cons_succ])
                  refine rg_in 8 rfl (by kernel_rfl) (by kernel_rfl) (by kernel_rfl) (by rfl) (v := ?_) (fun _ _ _ h => h) hHeld (fun w hSw => ?_) ?_
                  rotate_left
                  · (try dsimp only at hSw); go_simp <;> (with_reducible rfl)
                  (try simp only [Act.put, List.setIfInBounds_toArray, List.set_cons_zero, List.set_cons_succ])
                  refine rg_in 9 rfl (by kernel_rfl) (by kernel_rfl) (by kernel_rfl) (by rfl) (v := ?_) (fun _ _ _ h => h) hHeld (fun w hSw => ?_) ?_
                  rotate_left
                  · (try dsimp only at hSw); go_simp <;> (with_reducible rfl)
                  (try simp only [Act.put, List.setIfInBounds_toArray, List.set_cons_zero, List.set_cons_succ])
                  refine rg_do 10 rfl (by kernel_rfl) (by rfl) (fun K hK => ?_)
                  go_simp
                  (go_at_call 10; (with_reducible refine (hch _).mono ?_); (rintro e w110 ⟨rfl, hb10⟩))
                  refine hK.out _ _ (S_call hb10 hHeld rfl) (fun hHeld => ?_)
                  clear hK K
                  (try simp only [Act.put, List.setIfInBounds_toArray, List.set_cons_zero, List.set_cons_succ])
                  refine rg_in 11 rfl (by kernel_rfl) (by kernel_rfl) (by kernel_rfl) (by rfl) (v := ?_) (fun _ _ _ h => h) hHeld (fun w hSw => ?_) ?_
                  rotate_left
                  · (try dsimp only at hSw); go_simp <;> (with_reducible rfl)
                  (try simp only [Act.put, List.setIfInBounds_toArray, List.set_cons_zero, List.set_cons_succ])
                  refine rg_in 12 rfl (by kernel_rfl) (by kernel_rfl) (by kernel_rfl) (by rfl) (v := ?_) (fun _ _ _ h => h) hHeld (fun w hSw => ?_) ?_
                  rotate_left
                  · (try dsimp only at hSw); go_simp <;> (with_reducible rfl)
                  (try simp only [Act.put, List.setIfInBounds_toArray, List.set_cons_zero, List.set_cons_succ])
                  refine rg_in 13 rfl (by kernel_rfl) (by kernel_rfl) (by kernel_rfl) (by rfl) (v := ?_) (fun _ _ _ h => h) hHeld (fun w hSw => ?_) ?_
                  rotate_left
                  · (try dsimp only at hSw); go_simp <;> (with_reducible rfl)
                  (try simp only [Act.put, List.setIfInBounds_toArray, List.set_cons_zero, List.set_cons_succ])
                  refine rg_in 14 rfl (by kernel_rfl) (by kernel_rfl) (by kernel_rfl) (by rfl) (v := ?_) (fun _ _ _ h => h) hHeld (fun w hSw => ?_) ?_
                  rotate_left
                  · (try dsimp only at hSw); go_simp <;> (with_reducible rfl)
                  (try simp only [Act.put, List.setIfInBounds_toArray, List.set_cons_zero, List.set_cons_succ])
                  refine wpAnyH_ready (rs := [15, 16]) (by kernel_rfl) (by simp) ?_
                  refine rg_cons rfl (by rfl) (fun K hK => ?_) ?_
                  · go_simp
                    (go_at_call 12; (with_reducible refine (HBK.out _).mono ?_); (rintro e w115 ⟨rfl, hb15⟩))
                    refine hK.out _ _ (S_call hb15 hHeld rfl) (fun hHeld => ?_)
                    clear hK K
                    (try simp only [Act.put, List.setIfInBounds_toArray, List.set_cons_zero, List.set_cons_succ])
                    refine rg_do 16 rfl (by kernel_rfl) (by rfl) (fun K hK => ?_)
                    refine wp_loadArr (.tmp 1) rfl rfl (HAR.out _ hHeld) Tryd.underlying25 (info64 HL.out) ?_
                    refine hK.out _ _ hHeld (fun hHeld => ?_)
                    clear hK K
                    (try simp only [Act.put, List.setIfInBounds_toArray, List.set_cons_zero, List.set_cons_succ])
                    refine rg_do 17 rfl (by kernel_rfl) (by rfl) (fun K hK => ?_)
                    refine wp_neqArr (.tmp 49) (.tmp 50) _ rfl rfl rfl Tryd.underlying25 Tryd.underlying5 hi8 ce8 (Hdr.block_len g0 a0) HL.out eqg64 ?_
                    rw [HNE.out]
                    refine hK.out _ _ hHeld (fun hHeld => ?_)
                    clear hK K
                    (try simp only [Act.put, List.setIfInBounds_toArray, List.set_cons_zero, List.set_cons_succ])
                    refine rg_in 18 rfl (by kernel_rfl) (by kernel_rfl) (by kernel_rfl) (by rfl) (v := ?_) (fun _ _ _ h => h) hHeld (fun w hSw => ?_) ?_
                    rotate_left
                    · (try dsimp only at hSw); go_simp <;> (with_reducible rfl)
                    (try simp only [Act.put, List.setIfInBounds_toArray, List.set_cons_zero, List.set_cons_succ])
                    refine wpAnyH_done (by kernel_rfl) ?_ _
                    have hr3 := HR2.out.later hHeld
                    have hb3 := HB2.out.trans (hHeld.mono HB2.out.size)
                    have q0 := hr3.c0
                    have q1 := hr3.c1
                    have p0 := hr3.soft 0
                    have p1 := hr3.soft 1
                    have hb4 := below_set2 (h := w.heap.size + 1) (x := .int .u64 (g0 : Nat)) (y := .int .i64 (a0 : Nat)) hb3 (by omega)
                    have e0 := x0 _ hHeld
                    have e1 := x1 _ hHeld
                    clear x0 x1 hch z0 z1 hr3 hHeld
                    go_wp2
                    refine bodyPost_ret (v := .tuple #[.agg #[.int .u64 (g0 : Nat), .int .i64 (a0 : Nat)], .bool true]) (by simp [results, Tryd.results14, go_sem, *]) rfl ⟨?_, hb4⟩
                    rw [HSG.out, HSA.out, HSB.out] <;> rfl
                  refine rg_cons rfl (by rfl) (fun K hK => ?_) ?_
                  · refine wp_loadArr (.tmp 1) rfl rfl (HAR.out _ hHeld) Tryd.underlying25 (info64 HL.out) ?_
                    refine hK.out _ _ hHeld (fun hHeld => ?_)
                    clear hK K
                    (try simp only [Act.put, List.setIfInBounds_toArray, List.set_cons_zero, List.set_cons_succ])
                    refine rg_do 15 rfl (by kernel_rfl) (by rfl) (fun K hK => ?_)
                    go_simp
                    (go_at_call 12; (with_reducible refine (HBK.out _).mono ?_); (rintro e w115 ⟨rfl, hb15⟩))
                    refine hK.out _ _ (S_call hb15 hHeld rfl) (fun hHeld => ?_)
                    clear hK K
                    (try simp only [Act.put, List.setIfInBounds_toArray, List.set_cons_zero, List.set_cons_succ])
                    refine rg_do 17 rfl (by kernel_rfl) (by rfl) (fun K hK => ?_)
                    refine wp_neqArr (.tmp 49) (.tmp 50) _ rfl rfl rfl Tryd.underlying25 Tryd.underlying5 hi8 ce8 (Hdr.block_len g0 a0) HL.out eqg64 ?_
                    rw [HNE.out]
                    refine hK.out _ _ hHeld (fun hHeld => ?_)
                    clear hK K
                    (try simp only [Act.put, List.setIfInBounds_toArray, List.set_cons_zero, List.set_cons_succ])
                    refine rg_in 18 rfl (by kernel_rfl) (by kernel_rfl) (by kernel_rfl) (by rfl) (v := ?_) (fun _ _ _ h => h) hHeld (fun w hSw => ?_) ?_
                    rotate_left
                    · (try dsimp only at hSw); go_simp <;> (with_reducible rfl)
                    (try simp only [Act.put, List.setIfInBounds_toArray, List.set_cons_zero, List.set_cons_succ])
                    refine wpAnyH_done (by kernel_rfl) ?_ _
                    have hr3 := HR2.out.later hHeld
                    have hb3 := HB2.out.trans (hHeld.mono HB2.out.size)
                    have q0 := hr3.c0
                    have q1 := hr3.c1
                    have p0 := hr3.soft 0
                    have p1 := hr3.soft 1
                    have hb4 := below_set2 (h := w.heap.size + 1) (x := .int .u64 (g0 : Nat)) (y := .int .i64 (a0 : Nat)) hb3 (by omega)
                    have e0 := x0 _ hHeld
                    have e1 := x1 _ hHeld
                    clear x0 x1 hch z0 z1 hr3 hHeld
                    go_wp2
                    refine bodyPost_ret (v := .tuple #[.agg #[.int .u64 (g0 : Nat), .int .i64 (a0 : Nat)], .bool true]) (by simp [results, Tryd.results14, go_sem, *]) rfl ⟨?_, hb4⟩
                    rw [HSG.out, HSA.out, HSB.out] <;> rfl
                  exact AllReadyH.nil
                · have hnone : Hdr.saysL l = none := by rw [HSay.out, if_neg (fun h => heq h.2.2)]
                  have HSG := Lib.hid (say_none hnone).1
                  have HSA := Lib.hid (say_none hnone).2.1
                  have HSB := Lib.hid (say_none hnone).2.2
                  have HNE := Lib.hid (show (!decide (Hdr.blockL g0 a0 = l)) = true by rw [decide_eq_false heq]; rfl)
                  clear hnone heq hok k1 k2 k3 HSay
                  go_upto_region 10 with fail
                  refine wp_region_held_drew (S := fun W => Below wr.heap.size wr W) (by kernel_rfl) (below_drewN (Below.refl _ _) 1) (fun hHeld => ?_)
                  refine rg_in 0 rfl (by kernel_rfl) (by kernel_rfl) (by kernel_rfl) (by rfl) (v := ?_) (fun _ _ _ h => h) hHeld (fun w hSw => ?_) ?_
                  rotate_left
                  · (try dsimp only at hSw); go_simp <;> (with_reducible rfl)
                  (try simp only [Act.put, List.setIfInBounds_toArray, List.set_cons_zero, List.set_cons_succ])
                  refine rg_in 1 rfl (by kernel_rfl) (by kernel_rfl) (by kernel_rfl) (by rfl) (v := ?_) (fun _ _ _ h => h) hHeld (fun w hSw => ?_) ?_
                  rotate_left
                  · (try dsimp only at hSw); go_simp <;> (with_reducible rfl)
                  (try simp only [Act.put, List.setIfInBounds_toArray, List.set_cons_zero, List.set_cons_succ])
                  refine rg_in 2 rfl (by kernel_rfl) (by kernel_rfl) (by kernel_rfl) (by rfl) (v := ?_) (fun _ _ _ h => h) hHeld (fun w hSw => ?_) ?_
                  rotate_left
                  · (try dsimp only at hSw); go_simp <;> (with_reducible rfl)
                  (try simp only [Act.put, List.setIfInBounds_toArray, List.set_cons_zero, List.set_cons_succ])
                  refine rg_in 3 rfl (by kernel_rfl) (by kernel_rfl) (by kernel_rfl) (by rfl) (v := ?_) (fun _ _ _ h => h) hHeld (fun w hSw => ?_) ?_
                  rotate_left
                  · (try dsimp only at hSw); go_simp <;> (with_reducible rfl)
                  (try simp only [Act.put, List.setIfInBounds_toArray, List.set_cons_zero, List.set_cons_succ])
                  refine rg_in 4 rfl (by kernel_rfl) (by kernel_rfl) (by kernel_rfl) (by rfl) (v := ?_) (fun _ _ _ h => h) hHeld (fun w hSw => ?_) ?_
                  rotate_left
                  · (try dsimp only at hSw); go_simp <;> (with_reducible rfl)
                  (try simp only [Act.put, List.setIfInBounds_toArray, List.set_cons_zero, List.set_cons_succ])
                  refine rg_in 5 rfl (by kernel_rfl) (by kernel_rfl) (by kernel_rfl) (by rfl) (v := ?_) (fun _ _ _ h => h) hHeld (fun w hSw => ?_) ?_
                  rotate_left
                  · (try dsimp only at hSw); go_simp <;> (with_reducible rfl)
                  (try simp only [Act.put, List.setIfInBounds_toArray, List.set_cons_zero, List.set_cons_succ])
                  refine rg_in 6 rfl (by kernel_rfl) (by kernel_rfl) (by kernel_rfl) (by rfl) (v := ?_) (fun _ _ _ h => h) hHeld (fun w hSw => ?_) ?_
                  rotate_left
                  · (try dsimp only at hSw); go_simp <;> (with_reducible rfl)
                  (try simp only [Act.put, List.setIfInBounds_toArray, List.set_cons_zero, List.set_cons_succ])
                  refine rg_in 7 rfl (by kernel_rfl) (by kernel_rfl) (by kernel_rfl) (by rfl) (v := ?_) (fun _ _ _ h => h) hHeld (fun w hSw => ?_) ?_
                  rotate_left
                  · (try dsimp only at hSw); go_simp <;> (with_reducible rfl)
                  (try simp only [Act.put, List.setIfInBounds_toArray, List.set_cons_zero, List.set_cons_succ])
                  refine rg_in 8 rfl (by kernel_rfl) (by kernel_rfl) (by kernel_rfl) (by rfl) (v := ?_) (fun _ _ _ h => h) hHeld (fun w hSw => ?_) ?_
                  rotate_left
                  · (try dsimp only at hSw); go_simp <;> (with_reducible rfl)
                  (try simp only [Act.put, List.setIfInBounds_toArray, List.set_cons_zero, List.set_cons_succ])
                  refine rg_in 9 rfl (by kernel_rfl) (by kernel_rfl) (by kernel_rfl) (by rfl) (v := ?_) (fun _ _ _ h => h) hHeld (fun w hSw => ?_) ?_
                  rotate_left
                  · (try dsimp only at hSw); go_simp <;> (with_reducible rfl)
                  (try simp only [Act.put, List.setIfInBounds_toArray, List.set_cons_zero, List.set_cons_succ])
                  refine rg_do 10 rfl (by kernel_rfl) (by rfl) (fun K hK => ?_)
                  go_simp
                  (go_at_call 10; (with_reducible refine (hch _).mono ?_); (rintro e w110 ⟨rfl, hb10⟩))
                  refine hK.out _ _ (S_call hb10 hHeld rfl) (fun hHeld => ?_)
                  clear hK K
                  (try simp only [Act.put, List.setIfInBounds_toArray, List.set_cons_zero, List.set_cons_succ])
                  refine rg_in 11 rfl (by kernel_rfl) (by kernel_rfl) (by kernel_rfl) (by rfl) (v := ?_) (fun _ _ _ h => h) hHeld (fun w hSw => ?_) ?_
                  rotate_left
                  · (try dsimp only at hSw); go_simp <;> (with_reducible rfl)
                  (try simp only [Act.put, List.setIfInBounds_toArray, List.set_cons_zero, List.set_cons_succ])
                  refine rg_in 12 rfl (by kernel_rfl) (by kernel_rfl) (by kernel_rfl) (by rfl) (v := ?_) (fun _ _ _ h => h) hHeld (fun w hSw => ?_) ?_
                  rotate_left
                  · (try dsimp only at hSw); go_simp <;> (with_reducible rfl)
                  (try simp only [Act.put, List.setIfInBounds_toArray, List.set_cons_zero, List.set_cons_succ])
                  refine rg_in 13 rfl (by kernel_rfl) (by kernel_rfl) (by kernel_rfl) (by rfl) (v := ?_) (fun _ _ _ h => h) hHeld (fun w hSw => ?_) ?_
                  rotate_left
                  · (try dsimp only at hSw); go_simp <;> (with_reducible rfl)
                  (try simp only [Act.put, List.setIfInBounds_toArray, List.set_cons_zero, List.set_cons_succ])
                  refine rg_in 14 rfl (by kernel_rfl) (by kernel_rfl) (by kernel_rfl) (by rfl) (v := ?_) (fun _ _ _ h => h) hHeld (fun w hSw => ?_) ?_
                  rotate_left
                  · (try dsimp only at hSw); go_simp <;> (with_reducible rfl)
                  (try simp only [Act.put, List.setIfInBounds_toArray, List.set_cons_zero, List.set_cons_succ])
                  refine wpAnyH_ready (rs := [15, 16]) (by kernel_rfl) (by simp) ?_
                  refine rg_cons rfl (by rfl) (fun K hK => ?_) ?_
                  · go_simp
                    (go_at_call 12; (with_reducible refine (HBK.out _).mono ?_); (rintro e w115 ⟨rfl, hb15⟩))
                    refine hK.out _ _ (S_call hb15 hHeld rfl) (fun hHeld => ?_)
                    clear hK K
                    (try simp only [Act.put, List.setIfInBounds_toArray, List.set_cons_zero, List.set_cons_succ])
                    refine rg_do 16 rfl (by kernel_rfl) (by rfl) (fun K hK => ?_)
                    refine wp_loadArr (.tmp 1) rfl rfl (HAR.out _ hHeld) Tryd.underlying25 (info64 HL.out) ?_
                    refine hK.out _ _ hHeld (fun hHeld => ?_)
                    clear hK K
                    (try simp only [Act.put, List.setIfInBounds_toArray, List.set_cons_zero, List.set_cons_succ])
                    refine rg_do 17 rfl (by kernel_rfl) (by rfl) (fun K hK => ?_)
                    refine wp_neqArr (.tmp 49) (.tmp 50) _ rfl rfl rfl Tryd.underlying25 Tryd.underlying5 hi8 ce8 (Hdr.block_len g0 a0) HL.out eqg64 ?_
                    rw [HNE.out]
                    refine hK.out _ _ hHeld (fun hHeld => ?_)
                    clear hK K
                    (try simp only [Act.put, List.setIfInBounds_toArray, List.set_cons_zero, List.set_cons_succ])
                    refine rg_in 18 rfl (by kernel_rfl) (by kernel_rfl) (by kernel_rfl) (by rfl) (v := ?_) (fun _ _ _ h => h) hHeld (fun w hSw => ?_) ?_
                    rotate_left
                    · (try dsimp only at hSw); go_simp <;> (with_reducible rfl)
                    (try simp only [Act.put, List.setIfInBounds_toArray, List.set_cons_zero, List.set_cons_succ])
                    refine wpAnyH_done (by kernel_rfl) ?_ _
                    have hr3 := HR2.out.later hHeld
                    have hb3 := HB2.out.trans (hHeld.mono HB2.out.size)
                    have q0 := hr3.c0
                    have q1 := hr3.c1
                    have p0 := hr3.soft 0
                    have p1 := hr3.soft 1
                    have hb4 := below_set2 (h := w.heap.size + 1) (x := .int .u64 0) (y := .int .i64 0) hb3 (by omega)
                    have e0 := x0 _ hHeld
                    have e1 := x1 _ hHeld
                    clear x0 x1 hch z0 z1 hr3 hHeld
                    go_wp2
                    refine bodyPost_ret (v := .tuple #[.agg #[.int .u64 0, .int .i64 0], .bool false]) (by simp [results, Tryd.results14, go_sem, *]) rfl ⟨?_, hb4⟩
                    rw [HSG.out, HSA.out, HSB.out] <;> rfl
                  refine rg_cons rfl (by rfl) (fun K hK => ?_) ?_
                  · refine wp_loadArr (.tmp 1) rfl rfl (HAR.out _ hHeld) Tryd.underlying25 (info64 HL.out) ?_
                    refine hK.out _ _ hHeld (fun hHeld => ?_)
                    clear hK K
                    (try simp only [Act.put, List.setIfInBounds_toArray, List.set_cons_zero, List.set_cons_succ])
                    refine rg_do 15 rfl (by kernel_rfl) (by rfl) (fun K hK => ?_)
                    go_simp
                    (go_at_call 12; (with_reducible refine (HBK.out _).mono ?_); (rintro e w115 ⟨rfl, hb15⟩))
                    refine hK.out _ _ (S_call hb15 hHeld rfl) (fun hHeld => ?_)
                    clear hK K
                    (try simp only [Act.put, List.setIfInBounds_toArray, List.set_cons_zero, List.set_cons_succ])
                    refine rg_do 17 rfl (by kernel_rfl) (by rfl) (fun K hK => ?_)
                    refine wp_neqArr (.tmp 49) (.tmp 50) _ rfl rfl rfl Tryd.underlying25 Tryd.underlying5 hi8 ce8 (Hdr.block_len g0 a0) HL.out eqg64 ?_
                    rw [HNE.out]
                    refine hK.out _ _ hHeld (fun hHeld => ?_)
                    clear hK K
                    (try simp only [Act.put, List.setIfInBounds_toArray, List.set_cons_zero, List.set_cons_succ])
                    refine rg_in 18 rfl (by kernel_rfl) (by kernel_rfl) (by kernel_rfl) (by rfl) (v := ?_) (fun _ _ _ h => h) hHeld (fun w hSw => ?_) ?_
                    rotate_left
                    · (try dsimp only at hSw); go_simp <;> (with_reducible rfl)
                    (try simp only [Act.put, List.setIfInBounds_toArray, List.set_cons_zero, List.set_cons_succ])
                    refine wpAnyH_done (by kernel_rfl) ?_ _
                    have hr3 := HR2.out.later hHeld
                    have hb3 := HB2.out.trans (hHeld.mono HB2.out.size)
                    have q0 := hr3.c0
                    have q1 := hr3.c1
                    have p0 := hr3.soft 0
                    have p1 := hr3.soft 1
                    have hb4 := below_set2 (h := w.heap.size + 1) (x := .int .u64 0) (y := .int .i64 0) hb3 (by omega)
                    have e0 := x0 _ hHeld
                    have e1 := x1 _ hHeld
                    clear x0 x1 hch z0 z1 hr3 hHeld
                    go_wp2
                    refine bodyPost_ret (v := .tuple #[.agg #[.int .u64 0, .int .i64 0], .bool false]) (by simp [results, Tryd.results14, go_sem, *]) rfl ⟨?_, hb4⟩
                    rw [HSG.out, HSA.out, HSB.out] <;> rfl
                  exact AllReadyH.nil
              · have hok' : okH g0 (a0 : Nat) = false := by simpa using hok
                have hnone : Hdr.saysL l = none := by rw [HSay.out, if_neg (fun h => hok (okH_iff.2 ⟨h.1, by omega, by omega⟩))]
                rw [hok'] at hch
                have HSG := Lib.hid (say_none hnone).1
                have HSA := Lib.hid (say_none hnone).2.1
                have HSB := Lib.hid (say_none hnone).2.2
                clear hnone hok hok' HSay
                go_upto_region 10 with fail
                refine wp_region_held_drew (S := fun W => Below wr.heap.size wr W) (by kernel_rfl) (below_drewN (Below.refl _ _) 1) (fun hHeld => ?_)
                refine rg_in 0 rfl (by kernel_rfl) (by kernel_rfl) (by kernel_rfl) (by rfl) (v := ?_) (fun _ _ _ h => h) hHeld (fun w hSw => ?_) ?_
                rotate_left
                · (try dsimp only at hSw); go_simp <;> (with_reducible rfl)
                (try simp only [Act.put, List.setIfInBounds_toArray, List.set_cons_zero, List.set_cons_succ])
                refine rg_in 1 rfl (by kernel_rfl) (by kernel_rfl) (by kernel_rfl) (by rfl) (v := ?_) (fun _ _ _ h => h) hHeld (fun w hSw => ?_) ?_
                rotate_left
                · (try dsimp only at hSw); go_simp <;> (with_reducible rfl)
                (try simp only [Act.put, List.setIfInBounds_toArray, List.set_cons_zero, List.set_cons_succ])
                refine rg_in 2 rfl (by kernel_rfl) (by kernel_rfl) (by kernel_rfl) (by rfl) (v := ?_) (fun _ _ _ h => h) hHeld (fun w hSw => ?_) ?_
                rotate_left
                · (try dsimp only at hSw); go_simp <;> (with_reducible rfl)
                (try simp only [Act.put, List.setIfInBounds_toArray, List.set_cons_zero, List.set_cons_succ])
                refine rg_in 3 rfl (by kernel_rfl) (by kernel_rfl) (by kernel_rfl) (by rfl) (v := ?_) (fun _ _ _ h => h) hHeld (fun w hSw => ?_) ?_
                rotate_left
                · (try dsimp only at hSw); go_simp <;> (with_reducible rfl)
                (try simp only [Act.put, List.setIfInBounds_toArray, List.set_cons_zero, List.set_cons_succ])
                refine rg_in 4 rfl (by kernel_rfl) (by kernel_rfl) (by kernel_rfl) (by rfl) (v := ?_) (fun _ _ _ h => h) hHeld (fun w hSw => ?_) ?_
                rotate_left
                · (try dsimp only at hSw); go_simp <;> (with_reducible rfl)
                (try simp only [Act.put, List.setIfInBounds_toArray, List.set_cons_zero, List.set_cons_succ])
                refine rg_in 5 rfl (by kernel_rfl) (by kernel_rfl) (by kernel_rfl) (by rfl) (v := ?_) (fun _ _ _ h => h) hHeld (fun w hSw => ?_) ?_
                rotate_left
                · (try dsimp only at hSw); go_simp <;> (with_reducible rfl)
                (try simp only [Act.put, List.setIfInBounds_toArray, List.set_cons_zero, List.set_cons_succ])
                refine rg_in 6 rfl (by kernel_rfl) (by kernel_rfl) (by kernel_rfl) (by rfl) (v := ?_) (fun _ _ _ h => h) hHeld (fun w hSw => ?_) ?_
                rotate_left
                · (try dsimp only at hSw); go_simp <;> (with_reducible rfl)
                (try simp only [Act.put, List.setIfInBounds_toArray, List.set_cons_zero, List.set_cons_succ])
                refine rg_in 7 rfl (by kernel_rfl) (by kernel_rfl) (by kernel_rfl) (by rfl) (v := ?_) (fun _ _ _ h => h) hHeld (fun w hSw => ?_) ?_
                rotate_left
                · (try dsimp only at hSw); go_simp <;> (with_reducible rfl)
                (try simp only [Act.put, List.setIfInBounds_toArray, List.set_cons_zero, List.set_cons_succ])
                refine rg_in 8 rfl (by kernel_rfl) (by kernel_rfl) (by kernel_rfl) (by rfl) (v := ?_) (fun _ _ _ h => h) hHeld (fun w hSw => ?_) ?_
                rotate_left
                · (try dsimp only at hSw); go_simp <;> (with_reducible rfl)
                (try simp only [Act.put, List.setIfInBounds_toArray, List.set_cons_zero, List.set_cons_succ])
                refine rg_in 9 rfl (by kernel_rfl) (by kernel_rfl) (by kernel_rfl) (by rfl) (v := ?_) (fun _ _ _ h => h) hHeld (fun w hSw => ?_) ?_
                rotate_left
                · (try dsimp only at hSw); go_simp <;> (with_reducible rfl)
                (try simp only [Act.put, List.setIfInBounds_toArray, List.set_cons_zero, List.set_cons_succ])
                refine rg_do 10 rfl (by kernel_rfl) (by rfl) (fun K hK => ?_)
                go_simp
                (go_at_call 10; (with_reducible refine (hch _).mono ?_); (rintro e w110 ⟨rfl, hb10⟩))
                refine hK.out _ _ (S_call hb10 hHeld rfl) (fun hHeld => ?_)
                clear hK K
                (try simp only [Act.put, List.setIfInBounds_toArray, List.set_cons_zero, List.set_cons_succ])
                refine rg_in 11 rfl (by kernel_rfl) (by kernel_rfl) (by kernel_rfl) (by rfl) (v := ?_) (fun _ _ _ h => h) hHeld (fun w hSw => ?_) ?_
                rotate_left
                · (try dsimp only at hSw); go_simp <;> (with_reducible rfl)
                (try simp only [Act.put, List.setIfInBounds_toArray, List.set_cons_zero, List.set_cons_succ])
                refine rg_in 12 rfl (by kernel_rfl) (by kernel_rfl) (by kernel_rfl) (by rfl) (v := ?_) (fun _ _ _ h => h) hHeld (fun w hSw => ?_) ?_
                rotate_left
                · (try dsimp only at hSw); go_simp <;> (with_reducible rfl)
                (try simp only [Act.put, List.setIfInBounds_toArray, List.set_cons_zero, List.set_cons_succ])
                refine rg_in 13 rfl (by kernel_rfl) (by kernel_rfl) (by kernel_rfl) (by rfl) (v := ?_) (fun _ _ _ h => h) hHeld (fun w hSw => ?_) ?_
                rotate_left
                · (try dsimp only at hSw); go_simp <;> (with_reducible rfl)
                (try simp only [Act.put, List.setIfInBounds_toArray, List.set_cons_zero, List.set_cons_succ])
                refine rg_off 14 rfl (by kernel_rfl) (by kernel_rfl) (by kernel_rfl) (by rfl) (fun _ _ _ h => h) hHeld ?_
                (try simp only [Act.put, List.setIfInBounds_toArray, List.set_cons_zero, List.set_cons_succ])
                refine rg_off 15 rfl (by kernel_rfl) (by kernel_rfl) (by kernel_rfl) (by rfl) (fun _ _ _ h => h) hHeld ?_
                (try simp only [Act.put, List.setIfInBounds_toArray, List.set_cons_zero, List.set_cons_succ])
                refine rg_off 16 rfl (by kernel_rfl) (by kernel_rfl) (by kernel_rfl) (by rfl) (fun _ _ _ h => h) hHeld ?_
                (try simp only [Act.put, List.setIfInBounds_toArray, List.set_cons_zero, List.set_cons_succ])
                refine rg_off 17 rfl (by kernel_rfl) (by kernel_rfl) (by kernel_rfl) (by rfl) (fun _ _ _ h => h) hHeld ?_
                (try simp only [Act.put, List.setIfInBounds_toArray, List.set_cons_zero, List.set_cons_succ])
                refine rg_in 18 rfl (by kernel_rfl) (by kernel_rfl) (by kernel_rfl) (by rfl) (v := ?_) (fun _ _ _ h => h) hHeld (fun w hSw => ?_) ?_
                rotate_left
                · (try dsimp only at hSw); go_simp <;> (with_reducible rfl)
                (try simp only [Act.put, List.setIfInBounds_toArray, List.set_cons_zero, List.set_cons_succ])
                refine wpAnyH_done (by kernel_rfl) ?_ _
                have hr3 := HR2.out.later hHeld
                have hb3 := HB2.out.trans (hHeld.mono HB2.out.size)
                have q0 := hr3.c0
                have q1 := hr3.c1
                have p0 := hr3.soft 0
                have p1 := hr3.soft 1
                have hb4 := below_set2 (h := w.heap.size + 1) (x := .int .u64 0) (y := .int .i64 0) hb3 (by omega)
                have e0 := x0 _ hHeld
                have e1 := x1 _ hHeld
                clear x0 x1 hch z0 z1 hr3 hHeld
                go_wp2
                refine bodyPost_ret (v := .tuple #[.agg #[.int .u64 0, .int .i64 0], .bool false]) (by simp [results, Tryd.results14, go_sem, *]) rfl ⟨?_, hb4⟩
                rw [HSG.out, HSA.out, HSB.out] <;> rfl
            · have hnone := HN63.out hb2
              have hbn : ((b63 : Int) != 165) = true := by rw [bne_iff_ne]; omega
              have HSG := Lib.hid (say_none hnone).1
              have HSA := Lib.hid (say_none hnone).2.1
              have HSB := Lib.hid (say_none hnone).2.2
              clear hnone HSay HN0 HN63 hb2
              go_upto_region 10 with fail
              refine wp_region_held_drew (S := fun W => Below wr.heap.size wr W) (by kernel_rfl) (below_drewN (Below.refl _ _) 1) (fun hHeld => ?_)
              refine rg_in 0 rfl (by kernel_rfl) (by kernel_rfl) (by kernel_rfl) (by rfl) (v := ?_) (fun _ _ _ h => h) hHeld (fun w hSw => ?_) ?_
              rotate_left
              · (try dsimp only at hSw); go_simp <;> (with_reducible rfl)
              (try simp only [Act.put, List.setIfInBounds_toArray, List.set_cons_zero, List.set_cons_succ])
              refine rg_in 1 rfl (by kernel_rfl) (by kernel_rfl) (by kernel_rfl) (by rfl) (v := ?_) (fun _ _ _ h => h) hHeld (fun w hSw => ?_) ?_
              rotate_left
              · (try dsimp only at hSw); go_simp <;> (with_reducible rfl)
              (try simp only [Act.put, List.setIfInBounds_toArray, List.set_cons_zero, List.set_cons_succ])
              refine rg_in 2 rfl (by kernel_rfl) (by kernel_rfl) (by kernel_rfl) (by rfl) (v := ?_) (fun _ _ _ h => h) hHeld (fun w hSw => ?_) ?_
              rotate_left
              · (try dsimp only at hSw); go_simp <;> (with_reducible rfl)
              (try simp only [Act.put, List.setIfInBounds_toArray, List.set_cons_zero, List.set_cons_succ])
              refine rg_in 3 rfl (by kernel_rfl) (by kernel_rfl) (by kernel_rfl) (by rfl) (v := ?_) (fun _ _ _ h => h) hHeld (fun w hSw => ?_) ?_
              rotate_left
              · (try dsimp only at hSw); go_simp <;> (with_reducible rfl)
              (try simp only [Act.put, List.setIfInBounds_toArray, List.set_cons_zero, List.set_cons_succ])
              refine rg_in 4 rfl (by kernel_rfl) (by kernel_rfl) (by kernel_rfl) (by rfl) (v := ?_) (fun _ _ _ h => h) hHeld (fun w hSw => ?_) ?_
              rotate_left
              · (try dsimp only at hSw); go_simp <;> (with_reducible rfl)
              (try simp only [Act.put, List.setIfInBounds_toArray, List.set_cons_zero, List.set_cons_succ])
              refine rg_in 5 rfl (by kernel_rfl) (by kernel_rfl) (by kernel_rfl) (by rfl) (v := ?_) (fun _ _ _ h => h) hHeld (fun w hSw => ?_) ?_
              rotate_left
              · (try dsimp only at hSw); go_simp <;> (with_reducible rfl)
              (try simp only [Act.put, List.setIfInBounds_toArray, List.set_cons_zero, List.set_cons_succ])
              refine rg_in 6 rfl (by kernel_rfl) (by kernel_rfl) (by kernel_rfl) (by rfl) (v := ?_) (fun _ _ _ h => h) hHeld (fun w hSw => ?_) ?_
              rotate_left
              · (try dsimp only at hSw); go_simp <;> (with_reducible rfl)
              (try simp only [Act.put, List.setIfInBounds_toArray, List.set_cons_zero, List.set_cons_succ])
              refine rg_in 7 rfl (by kernel_rfl) (by kernel_rfl) (by kernel_rfl) (by rfl) (v := ?_) (fun _ _ _ h => h) hHeld (fun w hSw => ?_) ?_
              rotate_left
              · (try dsimp only at hSw); go_simp <;> (with_reducible rfl)
              (try simp only [Act.put, List.setIfInBounds_toArray, List.set_cons_zero, List.set_cons_succ])
              refine rg_in 8 rfl (by kernel_rfl) (by kernel_rfl) (by kernel_rfl) (by rfl) (v := ?_) (fun _ _ _ h => h) hHeld (fun w hSw => ?_) ?_
              rotate_left
              · (try dsimp only at hSw); go_simp <;> (with_reducible rfl)
              (try simp only [Act.put, List.setIfInBounds_toArray, List.set_cons_zero, List.set_cons_succ])
              refine rg_off 9 rfl (by kernel_rfl) (by kernel_rfl) (by kernel_rfl) (by rfl) (fun _ _ _ h => h) hHeld ?_
              (try simp only [Act.put, List.setIfInBounds_toArray, List.set_cons_zero, List.set_cons_succ])
              refine rg_off 10 rfl (by kernel_rfl) (by kernel_rfl) (by kernel_rfl) (by rfl) (fun _ _ _ h => h) hHeld ?_
              (try simp only [Act.put, List.setIfInBounds_toArray, List.set_cons_zero, List.set_cons_succ])
              refine rg_off 11 rfl (by kernel_rfl) (by kernel_rfl) (by kernel_rfl) (by rfl) (fun _ _ _ h => h) hHeld ?_
              (try simp only [Act.put, List.setIfInBounds_toArray, List.set_cons_zero, List.set_cons_succ])
              refine rg_in 12 rfl (by kernel_rfl) (by kernel_rfl) (by kernel_rfl) (by rfl) (v := ?_) (fun _ _ _ h => h) hHeld (fun w hSw => ?_) ?_
              rotate_left
              · (try dsimp only at hSw); go_simp <;> (with_reducible rfl)
              (try simp only [Act.put, List.setIfInBounds_toArray, List.set_cons_zero, List.set_cons_succ])
              refine rg_in 13 rfl (by kernel_rfl) (by kernel_rfl) (by kernel_rfl) (by rfl) (v := ?_) (fun _ _ _ h => h) hHeld (fun w hSw => ?_) ?_
              rotate_left
              · (try dsimp only at hSw); go_simp <;> (with_reducible rfl)
              (try simp only [Act.put, List.setIfInBounds_toArray, List.set_cons_zero, List.set_cons_succ])
              refine rg_off 14 rfl (by kernel_rfl) (by kernel_rfl) (by kernel_rfl) (by rfl) (fun _ _ _ h => h) hHeld ?_
              (try simp only [Act.put, List.setIfInBounds_toArray, List.set_cons_zero, List.set_cons_succ])
              refine rg_off 15 rfl (by kernel_rfl) (by kernel_rfl) (by kernel_rfl) (by rfl) (fun _ _ _ h => h) hHeld ?_
              (try simp only [Act.put, List.setIfInBounds_toArray, List.set_cons_zero, List.set_cons_succ])
              refine rg_off 16 rfl (by kernel_rfl) (by kernel_rfl) (by kernel_rfl) (by rfl) (fun _ _ _ h => h) hHeld ?_
              (try simp only [Act.put, List.setIfInBounds_toArray, List.set_cons_zero, List.set_cons_succ])
              refine rg_off 17 rfl (by kernel_rfl) (by kernel_rfl) (by kernel_rfl) (by rfl) (fun _ _ _ h => h) hHeld ?_
              (try simp only [Act.put, List.setIfInBounds_toArray, List.set_cons_zero, List.set_cons_succ])
              refine rg_in 18 rfl (by kernel_rfl) (by kernel_rfl) (by kernel_rfl) (by rfl) (v := ?_) (fun _ _ _ h => h) hHeld (fun w hSw => ?_) ?_
              rotate_left
              · (try dsimp only at hSw); go_simp <;> (with_reducible rfl)
              (try simp only [Act.put, List.setIfInBounds_toArray, List.set_cons_zero, List.set_cons_succ])
              refine wpAnyH_done (by kernel_rfl) ?_ _
              have hr3 : HBox wr (w.heap.size + 1) 0 0 := HR2.out
              have hb3 := HB2.out.trans (hHeld.mono HB2.out.size)
              have q0 := hr3.c0
              have q1 := hr3.c1
              have p0 := hr3.soft 0
              have p1 := hr3.soft 1
              have hb4 := below_set2 (h := w.heap.size + 1) (x := .int .u64 0) (y := .int .i64 0) hb3 (by omega)
              have e0 := x0 wr (Below.refl _ _)
              have e1 := x1 wr (Below.refl _ _)
              clear x0 x1 hch z0 z1 hr3 hHeld
              go_wp2
              refine bodyPost_ret (v := .tuple #[.agg #[.int .u64 0, .int .i64 0], .bool false]) (by simp [results, Tryd.results14, go_sem, *]) rfl ⟨?_, hb4⟩
              rw [HSG.out, HSA.out, HSB.out] <;> rfl
          · have hnone := HN0.out hb1
            have hbn : ((b0 : Int) != 1) = true := by rw [bne_iff_ne]; omega
            have HSG := Lib.hid (say_none hnone).1
            have HSA := Lib.hid (say_none hnone).2.1
            have HSB := Lib.hid (say_none hnone).2.2
            clear hnone HSay HN0 HN63 hb1
            go_upto_region 10 with fail
            refine wp_region_held_drew (S := fun W => Below wr.heap.size wr W) (by kernel_rfl) (below_drewN (Below.refl _ _) 1) (fun hHeld => ?_)
            refine rg_in 0 rfl (by kernel_rfl) (by kernel_rfl) (by kernel_rfl) (by rfl) (v := ?_) (fun _ _ _ h => h) hHeld (fun w hSw => ?_) ?_
            rotate_left
            · (try dsimp only at hSw); go_simp <;> (with_reducible rfl)
            (try simp only [Act.put, List.setIfInBounds_toArray, List.set_cons_zero, List.set_cons_succ])
            refine rg_in 1 rfl (by kernel_rfl) (by kernel_rfl) (by kernel_rfl) (by rfl) (v := ?_) (fun _ _ _ h => h) hHeld (fun w hSw => ?_) ?_
            rotate_left
            · (try dsimp only at hSw); go_simp <;> (with_reducible rfl)
            (try simp only [Act.put, List.setIfInBounds_toArray, List.set_cons_zero, List.set_cons_succ])
            refine rg_in 2 rfl (by kernel_rfl) (by kernel_rfl) (by kernel_rfl) (by rfl) (v := ?_) (fun _ _ _ h => h) hHeld (fun w hSw => ?_) ?_
            rotate_left
            · (try dsimp only at hSw); go_simp <;> (with_reducible rfl)
            (try simp only [Act.put, List.setIfInBounds_toArray, List.set_cons_zero, List.set_cons_succ])
            refine rg_in 3 rfl (by kernel_rfl) (by kernel_rfl) (by kernel_rfl) (by rfl) (v := ?_) (fun _ _ _ h => h) hHeld (fun w hSw => ?_) ?_
            rotate_left
            · (try dsimp only at hSw); go_simp <;> (with_reducible rfl)
            (try simp only [Act.put, List.setIfInBounds_toArray, List.set_cons_zero, List.set_cons_succ])
            refine rg_off 4 rfl (by kernel_rfl) (by kernel_rfl) (by kernel_rfl) (by rfl) (fun _ _ _ h => h) hHeld ?_
            (try simp only [Act.put, List.setIfInBounds_toArray, List.set_cons_zero, List.set_cons_succ])
            refine rg_off 5 rfl (by kernel_rfl) (by kernel_rfl) (by kernel_rfl) (by rfl) (fun _ _ _ h => h) hHeld ?_
            (try simp only [Act.put, List.setIfInBounds_toArray, List.set_cons_zero, List.set_cons_succ])
            refine rg_off 6 rfl (by kernel_rfl) (by kernel_rfl) (by kernel_rfl) (by rfl) (fun _ _ _ h => h) hHeld ?_
            (try simp only [Act.put, List.setIfInBounds_toArray, List.set_cons_zero, List.set_cons_succ])
            refine rg_in 7 rfl (by kernel_rfl) (by kernel_rfl) (by kernel_rfl) (by rfl) (v := ?_) (fun _ _ _ h => h) hHeld (fun w hSw => ?_) ?_
            rotate_left
            · (try dsimp only at hSw); go_simp <;> (with_reducible rfl)
            (try simp only [Act.put, List.setIfInBounds_toArray, List.set_cons_zero, List.set_cons_succ])
            refine rg_in 8 rfl (by kernel_rfl) (by kernel_rfl) (by kernel_rfl) (by rfl) (v := ?_) (fun _ _ _ h => h) hHeld (fun w hSw => ?_) ?_
            rotate_left
            · (try dsimp only at hSw); go_simp <;> (with_reducible rfl)
            (try simp only [Act.put, List.setIfInBounds_toArray, List.set_cons_zero, List.set_cons_succ])
            refine rg_off 9 rfl (by kernel_rfl) (by kernel_rfl) (by kernel_rfl) (by rfl) (fun _ _ _ h => h) hHeld ?_
            (try simp only [Act.put, List.setIfInBounds_toArray, List.set_cons_zero, List.set_cons_succ])
            refine rg_off 10 rfl (by kernel_rfl) (by kernel_rfl) (by kernel_rfl) (by rfl) (fun _ _ _ h => h) hHeld ?_
            (try simp only [Act.put, List.setIfInBounds_toArray, List.set_cons_zero, List.set_cons_succ])
            refine rg_off 11 rfl (by kernel_rfl) (by kernel_rfl) (by kernel_rfl) (by rfl) (fun _ _ _ h => h) hHeld ?_
            (try simp only [Act.put, List.setIfInBounds_toArray, List.set_cons_zero, List.set_cons_succ])
            refine rg_in 12 rfl (by kernel_rfl) (by kernel_rfl) (by kernel_rfl) (by rfl) (v := ?_) (fun _ _ _ h => h) hHeld (fun w hSw => ?_) ?_
            rotate_left
            · (try dsimp only at hSw); go_simp <;> (with_reducible rfl)
            (try simp only [Act.put, List.setIfInBounds_toArray, List.set_cons_zero, List.set_cons_succ])
            refine rg_in 13 rfl (by kernel_rfl) (by kernel_rfl) (by kernel_rfl) (by rfl) (v := ?_) (fun _ _ _ h => h) hHeld (fun w hSw => ?_) ?_
            rotate_left
            · (try dsimp only at hSw); go_simp <;> (with_reducible rfl)
            (try simp only [Act.put, List.setIfInBounds_toArray, List.set_cons_zero, List.set_cons_succ])
            refine rg_off 14 rfl (by kernel_rfl) (by kernel_rfl) (by kernel_rfl) (by rfl) (fun _ _ _ h => h) hHeld ?_
            (try simp only [Act.put, List.setIfInBounds_toArray, List.set_cons_zero, List.set_cons_succ])
            refine rg_off 15 rfl (by kernel_rfl) (by kernel_rfl) (by kernel_rfl) (by rfl) (fun _ _ _ h => h) hHeld ?_
            (try simp only [Act.put, List.setIfInBounds_toArray, List.set_cons_zero, List.set_cons_succ])
            refine rg_off 16 rfl (by kernel_rfl) (by kernel_rfl) (by kernel_rfl) (by rfl) (fun _ _ _ h => h) hHeld ?_
            (try simp only [Act.put, List.setIfInBounds_toArray, List.set_cons_zero, List.set_cons_succ])
            refine rg_off 17 rfl (by kernel_rfl) (by kernel_rfl) (by kernel_rfl) (by rfl) (fun _ _ _ h => h) hHeld ?_
            (try simp only [Act.put, List.setIfInBounds_toArray, List.set_cons_zero, List.set_cons_succ])
            refine rg_in 18 rfl (by kernel_rfl) (by kernel_rfl) (by kernel_rfl) (by rfl) (v := ?_) (fun _ _ _ h => h) hHeld (fun w hSw => ?_) ?_
            rotate_left
            · (try dsimp only at hSw); go_simp <;> (with_reducible rfl)
            (try simp only [Act.put, List.setIfInBounds_toArray, List.set_cons_zero, List.set_cons_succ])
            refine wpAnyH_done (by kernel_rfl) ?_ _
            have hr3 : HBox wr (w.heap.size + 1) 0 0 := HR2.out
            have hb3 := HB2.out.trans (hHeld.mono HB2.out.size)
            have q0 := hr3.c0
            have q1 := hr3.c1
            have p0 := hr3.soft 0
            have p1 := hr3.soft 1
            have hb4 := below_set2 (h := w.heap.size + 1) (x := .int .u64 0) (y := .int .i64 0) hb3 (by omega)
            have e0 := x0 wr (Below.refl _ _)
            have e1 := x1 wr (Below.refl _ _)
            clear x0 x1 hch z0 z1 hr3 hHeld
            go_wp2
            refine bodyPost_ret (v := .tuple #[.agg #[.int .u64 0, .int .i64 0], .bool false]) (by simp [results, Tryd.results14, go_sem, *]) rfl ⟨?_, hb4⟩
            rw [HSG.out, HSA.out, HSB.out] <;> rfl
end Go.Proofs.YtlknmpnjhbdlhaaDoor
