/-
  Layer 2: the table of escapes; escaped.
-/
import Derived.Test.YtgnialemiefeeaaDoorQuoA
namespace Go.Proofs.YtgnialemiefeeaaDoor
open Go.RowKit

def el : Nat → Nat | 0 => 34 | 1 => 92 | 2 => 47 | 3 => 98 | 4 => 102 | 5 => 110 | 6 => 114 | 7 => 116 | _ => 0
def ec : Nat → Nat | 0 => 34 | 1 => 92 | 2 => 47 | 3 => 8 | 4 => 12 | 5 => 10 | 6 => 13 | 7 => 9 | _ => 0
def ef : Nat → Bool | 2 => true | _ => false
def etab : List Value := [.int .u8 34, .int .i64 34, .bool false, .int .u8 92, .int .i64 92, .bool false, .int .u8 47, .int .i64 47, .bool true, .int .u8 98, .int .i64 8, .bool false, .int .u8 102, .int .i64 12, .bool false, .int .u8 110, .int .i64 10, .bool false, .int .u8 114, .int .i64 13, .bool false, .int .u8 116, .int .i64 9, .bool false]
/-- The escapes as the program lays them. -/
def ETab (w : World) : Prop := w.rangeAt 0 0 etab
theorem ETab.lt {w : World} (h : ETab w) : 0 < w.heap.size := World.block_lt_of_cell? w _ (h 0 _ rfl)
theorem ETab.below {w w' : World} {B : Nat} (h : ETab w) (hb : Below B w w') (hB : 0 < B) : ETab w' := fun i v hi => (hb.cell (p := ⟨0, 0 + i, none⟩) hB).trans (h i v hi)
theorem ETab.drew {w : World} (h : ETab w) : ETab w.drew := h
theorem ETab.drewN {w : World} (h : ETab w) (k : Nat) : ETab (w.drewN k) := h
theorem ETab.alloc {w : World} (h : ETab w) (o : Obj) : ETab (w.alloc o) := h.below ((Below.refl _ _).alloc (Nat.le_refl _) o) h.lt
set_option maxRecDepth 20000 in
theorem index_esc (k : Nat) (hk : k < 8) : ∀ w, (Instr.index 85 (.agg etab.toArray) (.int .i64 (k : Int))).run Tryd.prog w = .ok (.agg #[.int .u8 (el k), .int .i64 (ec k), .bool (ef k)]) w := by
  rcases (show k = 0 ∨ k = 1 ∨ k = 2 ∨ k = 3 ∨ k = 4 ∨ k = 5 ∨ k = 6 ∨ k = 7 by omega) with rfl | rfl | rfl | rfl | rfl | rfl | rfl | rfl
  all_goals exact fun _ => by kernel_rfl
set_option maxRecDepth 20000 in
theorem info_etab : (Tryd.prog.info? 85).map (·.size) = some etab.length := by kernel_rfl
theorem el_yes {k : Nat} (hk : k < 8) : letL (el k) = some (ec k) := by
  rcases (show k = 0 ∨ k = 1 ∨ k = 2 ∨ k = 3 ∨ k = 4 ∨ k = 5 ∨ k = 6 ∨ k = 7 by omega) with rfl | rfl | rfl | rfl | rfl | rfl | rfl | rfl <;> rfl
theorem el_no {x : Nat} (h : ∀ k, k < 8 → el k ≠ x) : letL x = none := by
  have h0 := h 0 (by omega)
  have h1 := h 1 (by omega)
  have h2 := h 2 (by omega)
  have h3 := h 3 (by omega)
  have h4 := h 4 (by omega)
  have h5 := h 5 (by omega)
  have h6 := h 6 (by omega)
  have h7 := h 7 (by omega)
  simp only [el] at h0 h1 h2 h3 h4 h5 h6 h7
  unfold letL
  rw [if_neg (by omega), if_neg (by omega), if_neg (by omega), if_neg (by omega), if_neg (by omega), if_neg (by omega), if_neg (by omega), if_neg (by omega)]
theorem el_lt (k : Nat) : el k < 256 := by unfold el; split <;> omega
def pairV (d : Nat × Nat) : Value := .tuple #[.int .i64 (d.1 : Int), .int .i64 (d.2 : Int)]

set_option maxRecDepth 100000 in
set_option maxHeartbeats 1000000 in
theorem escaped_any (A : Option Addr) (m c0 B : Nat) (l : List UInt8) (w : World) (htab : ETab w) (hl : Bytes w B A m l) (hB : B ≤ w.heap.size) (hm : m ≤ maxLen) (hmc : m ≤ c0) :
    Calls Tryd.prog 31 #[.slice A m c0] w fun e w' => e = .returned (pairV (escL l)) ∧ Below w.heap.size w w' := by
  unfold maxLen at hm
  by_cases h2 : m < 2
  · have HR := Lib.hid (show escL l = (0, 0) from if_pos (by rw [hl.len]; exact h2))
    have h2' : (m : Int) < 2 := by omega
    go_enter Tryd.func31, Tryd.ntmps31
    go_wp2
    refine bodyPost_ret (v := .tuple #[.int .i64 0, .int .i64 0]) (by simp [results, Tryd.results31, go_sem]) rfl ⟨by rw [HR.out]; rfl, Below.refl _ _⟩
  · have h2' : ¬ (m : Int) < 2 := by omega
    have hlen := Lib.hid hl.len
    have hnum := fun (W : World) (hb : Below w.heap.size w W) => number_any A m c0 B l W (hl.below (hb.mono hB)) (by unfold maxLen; omega) hmc
    have hcut := fun (h6 : 6 ≤ m) (W : World) (hb : Below w.heap.size w W) => number_any _ (m - 6) (c0 - 6) B (l.drop 6) W ((hl.below (hb.mono hB)).cut (k := 6) h6 hmc) (by unfold maxLen; omega) (by omega)
    obtain ⟨b, off, rfl, hbB, hc0⟩ := hl.cell (k := 1) (by omega)
    have hcell : ∀ (W : World), Below w.heap.size w W → W.cell? ⟨b, off + 1, none⟩ = some (.int .u8 (at0 l 1 : Nat)) := fun W h => ((h.mono hB).cell (p := ⟨b, off + 1, none⟩) hbB).trans hc0
    have Hnum := Lib.hid hnum
    have Hcut := Lib.hid hcut
    have hx := at0_lt l 1
    clear hl hc0 hnum hcut
    go_enter Tryd.func31, Tryd.ntmps31
    go_wp2_with (refine wpList_load_mid rfl 85 _ rfl 0 0 rfl etab _ htab Tryd.underlying85 rfl info_etab ?_)
    go_loopw [12] (fun i wr => ∃ k : Nat, k ≤ 8 ∧ i = .int .i64 k ∧ (∀ j, j < k → el j ≠ at0 l 1) ∧ Below w.heap.size w wr) (fun i _ => 8 - (intOf i).toNat)
    case atStart => exact ⟨0, by omega, rfl, fun j hj => by omega, Below.refl _ _⟩
    case round =>
      obtain ⟨k, hk, rfl, hP, hbw⟩ := hrel
      by_cases hlt : k < 8
      · have hk4 : (k : Int) < 8 := by omega
        have hk0 : (0 : Int) ≤ k := by omega
        have hidx := index_esc k hlt
        have hel := el_lt k
        have hcl := hcell (wr.alloc (.cells #[.int .u8 (el k), .int .i64 (ec k), .bool (ef k)] 84)) (bel_alloc hbw _)
        have hbn := bel_alloc hbw (.cells #[.int .u8 (el k), .int .i64 (ec k), .bool (ef k)] 84)
        have bx := Box.new wr #[.int .u8 (el k), .int .i64 (ec k), .bool (ef k)] 84
        have d0 := (bx 0 _ rfl).1
        have d1 := (bx 1 _ rfl).1
        by_cases hq : el k = at0 l 1
        · have HR := Lib.hid (show escL l = (ec k, 2) by
            have := el_yes hlt
            unfold escL
            rw [if_neg (by rw [hlen.out]; exact h2), ← hq, this])
          have hq' : ((el k : Int) == (at0 l 1 : Nat)) = true := by rw [hq]; simp
          clear hP hq hlt
          generalize el k = x0 at *
          generalize ec k = x1 at *
          generalize ef k = x2 at *
          generalize at0 l 1 = y at *
          go_wp2
          go_quiet (fail)
          go_wp2
          go_ret2
          exact ⟨by rw [HR.out]; rfl, below_drewN hbn _⟩
        · have HP := Lib.hid (show ∀ j, j < k + 1 → el j ≠ at0 l 1 from fun j hj => if e : j = k then e ▸ hq else hP j (by omega))
          have hq' : ((el k : Int) == (at0 l 1 : Nat)) = false := by rw [beq_eq_false_iff_ne]; omega
          clear hP hq hlt
          generalize el k = x0 at *
          generalize ec k = x1 at *
          generalize ef k = x2 at *
          generalize at0 l 1 = y at *
          go_wp2
          go_quiet (fail)
          go_wp2
          go_roundw
          case rel => exact ⟨k + 1, by omega, by go_num, HP.out, below_drewN hbn _⟩
          case measure => simp [intOf]; omega
      · have HN := Lib.hid (el_no (x := at0 l 1) (fun j hj => hP j (by omega)))
        have hk8 : k = 8 := by omega
        subst hk8
        have hn1 := Hnum.out wr hbw
        have hmc' : (m : Int) ≤ c0 := by omega
        clear hP hlt hcell hx hbB
        cases h4 : fourL l with
        | none =>
          have HR := Lib.hid (show escL l = (0, 0) by unfold escL; rw [if_neg (by rw [hlen.out]; exact h2), HN.out, h4])
          rw [h4] at hn1
          simp only [optI] at hn1
          clear h4
          go_wp2_with fail
          refine hn1.mono ?_
          rintro e w1 ⟨rfl, rfl⟩
          go_wp2
          go_ret2
          exact ⟨by rw [HR.out]; rfl, hbw⟩
        | some n =>
          have hn := fourL_lt h4
          have h6 := fourL_len h4
          rw [hlen.out] at h6
          have hn0 : ¬ (n : Int) < 0 := by omega
          have Hesc := Lib.hid (show escL l = if n < 55296 ∨ 57343 < n then (n, 6) else if 56320 ≤ n then (0, 0) else (match fourL (l.drop 6) with | none => (0, 0) | some m => if 56320 ≤ m ∧ m ≤ 57343 then (65536 + (n - 55296) * 1024 + (m - 56320), 12) else (0, 0)) by
            unfold escL; rw [if_neg (by rw [hlen.out]; exact h2), HN.out, h4]; rfl)
          rw [h4] at hn1
          simp only [optI] at hn1
          clear h4
          by_cases c1 : n < 55296
          · have HR := Lib.hid (Hesc.out.trans (if_pos (.inl c1)))
            have k1 : ((56320 : Int) ≤ n) = False := by simp; omega
            have k2 : ((n : Int) < 55296) = True := by simp; omega
            clear c1 hn Hesc Hcut Hnum h6
            go_wp2_with fail
            refine hn1.mono ?_
            rintro e w1 ⟨rfl, rfl⟩
            go_wp2
            go_ret2
            exact ⟨by rw [HR.out]; rfl, hbw⟩
          · by_cases c2 : 57343 < n
            · have HR := Lib.hid (Hesc.out.trans (if_pos (.inr c2)))
              have k1 : (56320 : Int) ≤ n := by omega
              have k2 : ¬ (n : Int) < 55296 := by omega
              have k3 : ¬ (n : Int) ≤ 57343 := by omega
              have k4 : (57343 : Int) < n := by omega
              clear c1 c2 hn Hesc Hcut Hnum h6
              go_wp2_with fail
              refine hn1.mono ?_
              rintro e w1 ⟨rfl, rfl⟩
              go_wp2
              go_ret2
              exact ⟨by rw [HR.out]; rfl, hbw⟩
            · by_cases c3 : 56320 ≤ n
              · have HR := Lib.hid (Hesc.out.trans ((if_neg (by omega)).trans (if_pos c3)))
                have k1 : (56320 : Int) ≤ n := by omega
                have k3 : (n : Int) ≤ 57343 := by omega
                clear c1 c2 c3 hn Hesc Hcut Hnum h6
                go_wp2_with fail
                refine hn1.mono ?_
                rintro e w1 ⟨rfl, rfl⟩
                go_wp2
                go_ret2
                exact ⟨by rw [HR.out]; rfl, hbw⟩
              · have hE := Hesc.out.trans ((if_neg (by omega)).trans (if_neg c3))
                have k1 : ((56320 : Int) ≤ n) = False := by simp; omega
                have k2 : ((n : Int) < 55296) = False := by simp; omega
                have k4 : ((57343 : Int) < n) = False := by simp; omega
                have Hk := Lib.hid (show 55296 ≤ n ∧ n < 56320 by omega)
                have hm6 : (6 : Int) ≤ m := by omega
                have hn2 := Hcut.out h6 wr hbw
                rw [Option.map_some, addr_add] at hn2
                clear c1 c2 c3 hn Hesc Hcut
                cases h5 : fourL (l.drop 6) with
                | none =>
                  have HR := Lib.hid (show escL l = (0, 0) by rw [hE, h5])
                  rw [h5] at hn2
                  simp only [optI] at hn2
                  clear h5 hE
                  by_cases hk : c0 = 6
                  · subst hk
                    obtain rfl : m = 6 := by omega
                    rw [if_pos rfl] at hn2
                    clear h6 hm6 hmc' h2' h2 hmc hm
                    go_wp2_with fail
                    refine hn1.mono ?_
                    rintro e w1 ⟨rfl, rfl⟩
                    go_wp2_with fail
                    refine hn2.mono ?_
                    rintro e w2 ⟨rfl, rfl⟩
                    go_wp2
                    go_ret2
                    exact ⟨by rw [HR.out]; rfl, hbw⟩
                  · rw [if_neg hk] at hn2
                    have hk' : ¬ (c0 : Int) = 6 := by omega
                    have hk2 : (6 : Int) ≤ c0 := by omega
                    go_wp2_with fail
                    refine hn1.mono ?_
                    rintro e w1 ⟨rfl, rfl⟩
                    go_wp2_with fail
                    refine hn2.mono ?_
                    rintro e w2 ⟨rfl, rfl⟩
                    go_wp2
                    go_ret2
                    exact ⟨by rw [HR.out]; rfl, hbw⟩
                | some q =>
                  have hq := fourL_lt h5
                  have h7 := fourL_len h5
                  rw [List.length_drop, hlen.out] at h7
                  rw [h5] at hE hn2
                  simp only [optI] at hn2
                  rw [if_neg (by omega)] at hn2
                  have hk' : ¬ (c0 : Int) = 6 := by omega
                  have hk2 : (6 : Int) ≤ c0 := by omega
                  clear h5
                  by_cases c4 : q < 56320
                  · have HR := Lib.hid (show escL l = (0, 0) by rw [hE]; exact if_neg (by omega))
                    have j1 : ((q : Int) < 56320) = True := by simp; omega
                    clear c4 hq h7 hE
                    go_wp2_with fail
                    refine hn1.mono ?_
                    rintro e w1 ⟨rfl, rfl⟩
                    go_wp2_with fail
                    refine hn2.mono ?_
                    rintro e w2 ⟨rfl, rfl⟩
                    go_wp2
                    go_ret2
                    exact ⟨by rw [HR.out]; rfl, hbw⟩
                  · by_cases c5 : 57343 < q
                    · have HR := Lib.hid (show escL l = (0, 0) by rw [hE]; exact if_neg (by omega))
                      have j1 : ((q : Int) < 56320) = False := by simp; omega
                      have j2 : ((57343 : Int) < q) = True := by simp; omega
                      clear c4 c5 hq h7 hE
                      go_wp2_with fail
                      refine hn1.mono ?_
                      rintro e w1 ⟨rfl, rfl⟩
                      go_wp2_with fail
                      refine hn2.mono ?_
                      rintro e w2 ⟨rfl, rfl⟩
                      go_wp2
                      go_ret2
                      exact ⟨by rw [HR.out]; rfl, hbw⟩
                    · have HR := Lib.hid (show escL l = (65536 + (n - 55296) * 1024 + (q - 56320), 12) by rw [hE]; exact if_pos (by omega))
                      have j1 : ((q : Int) < 56320) = False := by simp; omega
                      have j2 : ((57343 : Int) < q) = False := by simp; omega
                      have Hq := Lib.hid (show 56320 ≤ q ∧ q ≤ 57343 by omega)
                      clear c4 c5 hq h7 hE
                      go_wp2_with fail
                      refine hn1.mono ?_
                      rintro e w1 ⟨rfl, rfl⟩
                      go_wp2_with fail
                      refine hn2.mono ?_
                      rintro e w2 ⟨rfl, rfl⟩
                      go_wp2
                      go_ret2
                      refine ⟨?_, hbw⟩
                      rw [HR.out]
                      unfold pairV
                      have hk1 := Hk.out
                      simp
                      have hk2 := Hq.out
                      rw [IntWalk.wrap64_in ((n : Int) - 55296) ⟨by omega, by omega⟩, IntWalk.wrap64_in (((n : Int) - 55296) * 1024) ⟨by omega, by omega⟩, IntWalk.wrap64_in (65536 + ((n : Int) - 55296) * 1024) ⟨by omega, by omega⟩,
                        IntWalk.wrap64_in (65536 + ((n : Int) - 55296) * 1024 + (q : Int)) ⟨by omega, by omega⟩, IntWalk.wrap64_in (65536 + ((n : Int) - 55296) * 1024 + (q : Int) - 56320) ⟨by omega, by omega⟩]
                      omega
end Go.Proofs.YtgnialemiefeeaaDoor
