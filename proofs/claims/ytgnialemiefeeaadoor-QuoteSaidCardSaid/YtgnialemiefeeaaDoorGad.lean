import Derived.Test.YtgnialemiefeeaaDoorGac
import Derived.Test.YtgnialemiefeeaaDoorGaa
/-
  Layer 2: the table of escapes; escaped.
-/
namespace Go.Proofs.YtgnialemiefeeaaDoor
open Go.RowKit

def el : Nat → Nat | 0 => 34 | 1 => 92 | 2 => 47 | 3 => 98 | 4 => 102 | 5 => 110 | 6 => 114 | 7 => 116 | _ => 0
def ec : Nat → Nat | 0 => 34 | 1 => 92 | 2 => 47 | 3 => 8 | 4 => 12 | 5 => 10 | 6 => 13 | 7 => 9 | _ => 0
def ef : Nat → Bool | 2 => true | _ => false
def etab : List Value := [.int .u8 34, .int .i64 34, .bool false, .int .u8 92, .int .i64 92, .bool false, .int .u8 47, .int .i64 47, .bool true, .int .u8 98, .int .i64 8, .bool false, .int .u8 102, .int .i64 12, .bool false, .int .u8 110, .int .i64 10, .bool false, .int .u8 114, .int .i64 13, .bool false, .int .u8 116, .int .i64 9, .bool false]
/-- The escapes as the program lays them. -/
def ETab (w : World) : Prop := w.rangeAt 0 0 etab
theorem ETab.lt {w : World} (h : ETab w) : 0 < w.heap.size := World.block_lt_of_cell? w _ (h 0 _ rfl)
theorem ETab.below {w w' : World} {B : Nat} (h : ETab w) (hb : Below B w w') (hB : 0 < B) : ETab w' := fun i v hi => (hb.cell (p := ⟨0, 0 + i, none⟩) hB).trans (h i v hi)
theorem ETab.drew {w : World} (h : ETab w) : ETab w.drew := h
theorem ETab.drewN {w : World} (h : ETab w) (k : Nat) : ETab (w.drewN k) := h
theorem ETab.alloc {w : World} (h : ETab w) (o : Obj) : ETab (w.alloc o) := h.below ((Below.refl _ _).alloc (Nat.le_refl _) o) h.lt
set_option maxRecDepth 20000 in
theorem index_esc (k : Nat) (hk : k < 8) : ∀ w, (Instr.index 85 (.agg etab.toArray) (.int .i64 (k : Int))).run Tryd.prog w = .ok (.agg #[.int .u8 (el k), .int .i64 (ec k), .bool (ef k)]) w := by
  rcases (show k = 0 ∨ k = 1 ∨ k = 2 ∨ k = 3 ∨ k = 4 ∨ k = 5 ∨ k = 6 ∨ k = 7 by omega) with rfl | rfl | rfl | rfl | rfl | rfl | rfl | rfl
  all_goals exact fun _ => by kernel_rfl
set_option maxRecDepth 20000 in
theorem info_etab : (Tryd.prog.info? 85).map (·.size) = some etab.length := by kernel_rfl
theorem el_yes {k : Nat} (hk : k < 8) : letL (el k) = some (ec k) := by
  rcases (show k = 0 ∨ k = 1 ∨ k = 2 ∨ k = 3 ∨ k = 4 ∨ k = 5 ∨ k = 6 ∨ k = 7 by omega) with rfl | rfl | rfl | rfl | rfl | rfl | rfl | rfl <;> rfl
theorem el_no {x : Nat} (h : ∀ k, k < 8 → el k ≠ x) : letL x = none := by
  have h0 := h 0 (by omega)
  have h1 := h 1 (by omega)
  have h2 := h 2 (by omega)
  have h3 := h 3 (by omega)
  have h4 := h 4 (by omega)
  have h5 := h 5 (by omega)
  have h6 := h 6 (by omega)
  have h7 := h 7 (by omega)
  simp only [el] at h0 h1 h2 h3 h4 h5 h6 h7
  unfold letL
  rw [if_neg (by omega), if_neg (by omega), if_neg (by omega), if_neg (by omega), if_neg (by omega), if_neg (by omega), if_neg (by omega), if_neg (by omega)]
theorem el_lt (k : Nat) : el k < 256 := by unfold el; split <;> omega
def pairV (d : Nat × Nat) : Value := .tuple #[.int .i64 (d.1 : Int), .int .i64 (d.2 : Int)]

set_option maxRecDepth 100000 in
set_option maxHeartbeats 1000000 in
theorem escaped_any (A : Option Addr) (m c0 B : Nat) (l : List UInt8) (w : World) (htab : ETab w) (hl : Bytes w B A m l) (hB : B ≤ w.heap.size) (hm : m ≤ maxLen) (hmc : m ≤ c0) :
    Calls Tryd.prog 31 #[.slice A m c0] w fun e w' => e = .returned (pairV (escL l)) ∧ Below w.heap.size w w' := by
  unfold maxLen at hm
  by_cases h2 : m < 2
  · have HR := Lib.hid (show escL l = (0, 0) from if_pos (by rw [hl.len]; exact h2))
    have h2' : (m : Int) < 2 := by omega
    go_enter Tryd.func31, Tryd.ntmps31
    go_wp2
    refine bodyPost_ret (v := .tuple #[.int .i64 0, .int .i64 0]) (by simp [results, Tryd.results31, go_sem]) rfl ⟨by rw [HR.out]; rfl, Below.refl _ _⟩
  · have h2' : ¬ (m : Int) < 2 := by omega
    have hlen := Lib.hid hl.len
    have hnum := fun (W : World) (hb : Below w.heap.size w W) => number_any A m c0 B l W (hl.below (hb.mono hB)) (by unfold maxLen; omega) hmc
    have hcut := fun (h6 : 6 ≤ m) (W : World) (hb : Below w.heap.size w W) => number_any _ (m - 6) (c0 - 6) B (l.drop 6) W ((hl.below (hb.mono hB)).cut (k := 6) h6 hmc) (by unfold maxLen; omega) (by omega)
    obtain ⟨b, off, rfl, hbB, hc0⟩ := hl.cell (k := 1) (by omega)
    have hcell : ∀ (W : World), Below w.heap.size w W → W.cell? ⟨b, off + 1, none⟩ = some (.int .u8 (at0 l 1 : Nat)) := fun W h => ((h.mono hB).cell (p := ⟨b, off + 1, none⟩) hbB).trans hc0
    have Hnum := Lib.hid hnum
    have Hcut := Lib.hid hcut
    have hx := at0_lt l 1
    clear hl hc0 hnum hcut
    go_enter Tryd.func31, Tryd.ntmps31
    go_wp2_with (refine wpList_load_mid rfl 85 _ rfl 0 0 rfl etab _ htab Tryd.underlying85 rfl info_etab ?_)
    go_loopw [12] (fun i wr => ∃ k : Nat, k ≤ 8 ∧ i = .int .i64 k ∧ (∀ j, j < k → el j ≠ at0 l 1) ∧ Below w.heap.size w wr) (fun i _ => 8 - (intOf i).toNat)
    case atStart => exact ⟨0, by omega, rfl, fun j hj => by omega, Below.refl _ _⟩
    case round =>
      obtain ⟨k, hk, rfl, hP, hbw⟩ := hrel
      by_cases hlt : k < 8
      · have hk4 : (k : Int) < 8 := by omega
        have hk0 : (0 : Int) ≤ k := by omega
        have hidx := index_esc k hlt
        have hel := el_lt k
        have hcl := hcell (wr.alloc (.cells #[.int .u8 (el k), .int .i64 (ec k), .bool (ef k)] 84)) (bel_alloc hbw _)
        have hbn := bel_alloc hbw (.cells #[.int .u8 (el k), .int .i64 (ec k), .bool (ef k)] 84)
        have bx := Box.new wr #[.int .u8 (el k), .int .i64 (ec k), .bool (ef k)] 84
        have d0 := (bx 0 _ rfl).1
        have d1 := (bx 1 _ rfl).1
        by_cases hq : el k = at0 l 1
        · have HR := Lib.hid (show escL l = (ec k, 2) by
            have := el_yes hlt
            unfold escL
            rw [if_neg (by rw [hlen.out]; exact h2), ← hq, this])
          have hq' : ((el k : Int) == (at0 l 1 : Nat)) = true := by rw [hq]; simp
          clear hP hq hlt
          generalize el k = x0 at *
          generalize ec k = x1 at *
          generalize ef k = x2 at *
          generalize at0 l 1 = y at *
          go_wp2
          go_quiet (fail)
          go_wp2
          go_ret2
          exact ⟨by rw [HR.out]; rfl, below_drewN hbn _⟩
        · have HP := Lib.hid (show ∀ j, j < k + 1 → el j ≠ at0 l 1 from fun j hj => if e : j = k then e ▸ hq else hP j (by omega))
          have hq' : ((el k : Int) == (at0 l 1 : Nat)) = false := by rw [beq_eq_false_iff_ne]; omega
          clear hP hq hlt
          generalize el k = x0 at *
          generalize ec k = x1 at *
          generalize ef k = x2 at *
          generalize at0 l 1 = y at *
          go_wp2
          go_quiet (fail)
          go_wp2
          go_roundw
          case rel => exact ⟨k + 1, by omega, by go_num, HP.out, below_drewN hbn _⟩
          case measure => simp [intOf]; omega
      · have HN := Lib.hid (el_no (x := at0 l 1) (fun j hj => hP j (by omega)))
        have hk8 : k = 8 := by omega
        subst hk8
        have hn1 := Hnum.out wr hbw
        have hmc' : (m : Int) ≤ c0 := by omega
        clear hP hlt hcell hx hbB
        cases h4 : fourL l with
        | none =>
          have HR := Lib.hid (show escL l = (0, 0) by unfold escL; rw [if_neg (by rw [hlen.out]; exact h2), HN.out, h4])
          rw [h4] at hn1
          simp only [optI] at hn1
          clear h4
          go_wp2_with fail
          refine hn1.mono ?_
          rintro e w1 ⟨rfl, rfl⟩
          go_wp2
          go_ret2
          exact ⟨by rw [HR.out]; rfl, hbw⟩
        | some n =>
          have hn := fourL_lt h4
          have h6 := fourL_len h4
          rw [hlen.out] at h6
          have hn0 : ¬ (n : Int) < 0 := by omega
          have Hesc := Lib.hid (show escL l = if n < 55296 ∨ 57343 < n then (n, 6) else if 56320 ≤ n then (0, 0) else (match fourL (l.drop 6) with | none => (0, 0) | some m => if 56320 ≤ m ∧ m ≤ 57343 then (65536 + (n - 55296) * 1024 + (m - 56320), 12) else (0, 0)) by
            unfold escL; rw [if_neg (by rw [hlen.out]; exact h2), HN.out, h4]; rfl)
          rw [h4] at hn1
          simp only [optI] at hn1
          clear h4
          by_cases c1 : n < 55296
          · have HR := Lib.hid (Hesc.out.trans (if_pos (.inl c1)))
            have k1 : ((56320 : Int) ≤ n) = False := by simp; omega
            have k2 : ((n : Int) < 55296) = True := by simp; omega
            clear c1 hn Hesc Hcut Hnum h6
            go_wp2_with fail
            refine hn1.mono ?_
            rintro e w1 ⟨rfl, rfl⟩
            go_wp2
            go_ret2
            exact ⟨by rw [HR.out]; rfl, hbw⟩
          · by_cases c2 : 57343 < n
            · have HR := Lib.hid (Hesc.out.trans (if_pos (.inr c2)))
              have k1 : (56320 : Int) ≤ n := by omega
              have k2 : ¬ (n : Int) < 55296 := by omega
              have k3 : ¬ (n : Int) ≤ 57343 := by omega
              have k4 : (57343 : Int) < n := by omega
              clear c1 c2 hn Hesc Hcut Hnum h6
              go_wp2_with fail
              refine hn1.mono ?_
              rintro e w1 ⟨rfl, rfl⟩
              go_wp2
              go_ret2
              exact ⟨by rw [HR.out]; rfl, hbw⟩
            · by_cases c3 : 56320 ≤ n
              · have HR := Lib.hid (Hesc.out.trans ((if_neg (by omega)).trans (if_pos c3)))
                have k1 : (56320 : Int) ≤ n := by omega
                have k3 : (n : Int) ≤ 57343 := by omega
                clear c1 c2 c3 hn Hesc Hcut Hnum h6
                go_wp2_with fail
                refine hn1.mono ?_
                rintro e w1 ⟨rfl, rfl⟩
                go_wp2
                go_ret2
                exact ⟨by rw [HR.out]; rfl, hbw⟩
              · have hE := Hesc.out.trans ((if_neg (by omega)).trans (if_neg c3))
                have k1 : ((56320 : Int) ≤ n) = False := by simp; omega
                have k2 : ((n : Int) < 55296) = False := by simp; omega
                have k4 : ((57343 : Int) < n) = False := by simp; omega
                have Hk := Lib.hid (show 55296 ≤ n ∧ n < 56320 by omega)
                have hm6 : (6 : Int) ≤ m := by omega
                have hn2 := Hcut.out h6 wr hbw
                rw [Option.map_some, addr_add] at hn2
                clear c1 c2 c3 hn Hesc Hcut
                cases h5 : fourL (l.drop 6) with
                | none =>
                  have HR := Lib.hid (show escL l = (0, 0) by rw [hE, h5])
                  rw [h5] at hn2
                  simp only [optI] at hn2
                  clear h5 hE
                  by_cases hk : c0 = 6
                  · subst hk
                    obtain rfl : m = 6 := by omega
                    rw [if_pos rfl] at hn2
                    clear h6 hm6 hmc' h2' h2 hmc hm
                    go_wp2_with fail
                    refine hn1.mono ?_
                    rintro e w1 ⟨rfl, rfl⟩
                    go_wp2_with fail
                    refine hn2.mono ?_
                    rintro e w2 ⟨rfl, rfl⟩
                    go_wp2
                    go_ret2
                    exact ⟨by rw [HR.out]; rfl, hbw⟩
                  · rw [if_neg hk] at hn2
                    have hk' : ¬ (c0 : Int) = 6 := by omega
                    have hk2 : (6 : Int) ≤ c0 := by omega
                    go_wp2_with fail
                    refine hn1.mono ?_
                    rintro e w1 ⟨rfl, rfl⟩
                    go_wp2_with fail
                    refine hn2.mono ?_
                    rintro e w2 ⟨rfl, rfl⟩
                    go_wp2
                    go_ret2
                    exact ⟨by rw [HR.out]; rfl, hbw⟩
                | some q =>
                  have hq := fourL_lt h5
                  have h7 := fourL_len h5
                  rw [List.length_drop, hlen.out] at h7
                  rw [h5] at hE hn2
                  simp only [optI] at hn2
                  rw [if_neg (by omega)] at hn2
                  have hk' : ¬ (c0 : Int) = 6 := by omega
                  have hk2 : (6 : Int) ≤ c0 := by omega
                  clear h5
                  by_cases c4 : q < 56320
                  · have HR := Lib.hid (show escL l = (0, 0) by rw [hE]; exact if_neg (by omega))
                    have j1 : ((q : Int) < 56320) = True := by simp; omega
                    clear c4 hq h7 hE
                    go_wp2_with fail
                    refine hn1.mono ?_
                    rintro e w1 ⟨rfl, rfl⟩
                    go_wp2_with fail
                    refine hn2.mono ?_
                    rintro e w2 ⟨rfl, rfl⟩
                    go_wp2
                    go_ret2
                    exact ⟨by rw [HR.out]; rfl, hbw⟩
                  · by_cases c5 : 57343 < q
                    · have HR := Lib.hid (show escL l = (0, 0) by rw [hE]; exact if_neg (by omega))
                      have j1 : ((q : Int) < 56320) = False := by simp; omega
                      have j2 : ((57343 : Int) < q) = True := by simp; omega
                      clear c4 c5 hq h7 hE
                      go_wp2_with fail
                      refine hn1.mono ?_
                      rintro e w1 ⟨rfl, rfl⟩
                      go_wp2_with fail
                      refine hn2.mono ?_
                      rintro e w2 ⟨rfl, rfl⟩
                      go_wp2
                      go_ret2
                      exact ⟨by rw [HR.out]; rfl, hbw⟩
                    · have HR := Lib.hid (show escL l = (65536 + (n - 55296) * 1024 + (q - 56320), 12) by rw [hE]; exact if_pos (by omega))
                      have j1 : ((q : Int) < 56320) = False := by simp; omega
                      have j2 : ((57343 : Int) < q) = False := by simp; omega
                      have Hq := Lib.hid (show 56320 ≤ q ∧ q ≤ 57343 by omega)
                      clear c4 c5 hq h7 hE
                      go_wp2_with fail
                      refine hn1.mono ?_
                      rintro e w1 ⟨rfl, rfl⟩
                      go_wp2_with fail
                      refine hn2.mono ?_
                      rintro e w2 ⟨rfl, rfl⟩
                      go_wp2
                      go_ret2
                      refine ⟨?_, hbw⟩
                      rw [HR.out]
                      unfold pairV
                      have hk1 := Hk.out
                      simp
                      have hk2 := Hq.out
                      rw [IntWalk.wrap64_in ((n : Int) - 55296) ⟨by omega, by omega⟩, IntWalk.wrap64_in (((n : Int) - 55296) * 1024) ⟨by omega, by omega⟩, IntWalk.wrap64_in (65536 + ((n : Int) - 55296) * 1024) ⟨by omega, by omega⟩,
                        IntWalk.wrap64_in (65536 + ((n : Int) - 55296) * 1024 + (q : Int)) ⟨by omega, by omega⟩, IntWalk.wrap64_in (65536 + ((n : Int) - 55296) * 1024 + (q : Int) - 56320) ⟨by omega, by omega⟩]
                      omega
end Go.Proofs.YtgnialemiefeeaaDoor
/-
  Layer 2, plain: how a code point is written, and that it is read again.
-/
namespace Go.Proofs.YtgnialemiefeeaaDoor

/-- A digit to the base 16, in great letters or small ones. -/
def digC (g : Bool) (d : Nat) : Nat := if d < 10 then 48 + d else if g then 55 + d else 87 + d
theorem digC_lt (g : Bool) (d : Nat) (h : d < 16) : digC g d < 128 := by unfold digC; split <;> (try split) <;> omega
theorem hexD_digC (g : Bool) (d : Nat) (h : d < 16) : hexD (digC g d) = d := by
  unfold hexD digC
  cases g <;> by_cases h1 : d < 10 <;> simp only [h1, if_true, if_false, Bool.false_eq_true]
  all_goals (repeat' split) <;> omega
/-- Backslash, u and four digits. -/
def fourT (g : Bool) (n : Nat) : List UInt8 := [b8 92, b8 117, b8 (digC g (n / 4096 % 16)), b8 (digC g (n / 256 % 16)), b8 (digC g (n / 16 % 16)), b8 (digC g (n % 16))]
theorem fourT_len (g : Bool) (n : Nat) : (fourT g n).length = 6 := rfl
theorem hex_at (g : Bool) (d : Nat) (h : d < 16) : hexD (b8 (digC g d)).toNat = d := by
  have := digC_lt g d h
  rw [b8_toNat _ (by omega), hexD_digC g d h]
theorem fourL_fourT (g : Bool) (n : Nat) (h : n ≤ 65535) (r : List UInt8) : fourL (fourT g n ++ r) = some n := by
  have e0 : at0 (fourT g n ++ r) 0 = 92 := rfl
  have e1 : at0 (fourT g n ++ r) 1 = 117 := rfl
  have d0 : hexD (at0 ((fourT g n ++ r).drop 2) 0) = n / 4096 % 16 := hex_at g _ (by omega)
  have d1 : hexD (at0 ((fourT g n ++ r).drop 2) 1) = n / 256 % 16 := hex_at g _ (by omega)
  have d2 : hexD (at0 ((fourT g n ++ r).drop 2) 2) = n / 16 % 16 := hex_at g _ (by omega)
  have d3 : hexD (at0 ((fourT g n ++ r).drop 2) 3) = n % 16 := hex_at g _ (by omega)
  have hl : (fourT g n ++ r).length = 6 + r.length := by rw [List.length_append, fourT_len]
  unfold fourL hexL
  rw [if_pos ⟨by omega, e0, e1⟩, d0, d1, d2, d3, if_pos ⟨by rw [List.length_drop]; omega, by omega, by omega, by omega, by omega⟩]
  congr 1
  omega
theorem fourL_more {l : List UInt8} {n : Nat} (h : fourL l = some n) (r : List UInt8) : fourL (l ++ r) = some n := by
  have hl := fourL_len h
  have e : ∀ k, k < 6 → at0 (l ++ r) k = at0 l k := fun k hk => at0_app l r k (by omega)
  rw [← h]
  unfold fourL hexL
  simp only [at0_drop, e 0 (by omega), e 1 (by omega), e (2 + 0) (by omega), e (2 + 1) (by omega), e (2 + 2) (by omega), e (2 + 3) (by omega), List.length_append, List.length_drop,
    show (2 ≤ l.length + r.length) = True from by simp; omega, show (2 ≤ l.length) = True from by simp; omega, show (4 ≤ l.length + r.length - 2) = True from by simp; omega, show (4 ≤ l.length - 2) = True from by simp; omega]
/-- The letter behind a backslash that writes a code point, where there is one. -/
def shortL (c : Nat) : Option Nat :=
  if c = 34 then some 34 else if c = 92 then some 92 else if c = 8 then some 98 else if c = 12 then some 102
  else if c = 10 then some 110 else if c = 13 then some 114 else if c = 9 then some 116 else none
theorem shortL_let {c x : Nat} (h : shortL c = some x) : letL x = some c ∧ x < 128 := by
  unfold shortL at h
  repeat' split at h
  all_goals first | (injection h with h; subst h; subst_vars; exact ⟨rfl, by decide⟩) | cases h
theorem shortL_cases {c x : Nat} (h : shortL c = some x) : c = 34 ∨ c = 92 ∨ c < 32 := by
  unfold shortL at h
  repeat' split at h
  all_goals first | omega | cases h
theorem shortL_none {c : Nat} (h : shortL c = none) : c ≠ 34 ∧ c ≠ 92 := by
  constructor <;> (rintro rfl; cases h)
/-- How a code point is written. -/
def spellL (c : Nat) : List UInt8 := match shortL c with | some x => [b8 92, b8 x] | none => if c < 32 then fourT false c else encL c
theorem spell_short {c x : Nat} (h : shortL c = some x) : spellL c = [b8 92, b8 x] := by unfold spellL; rw [h]
theorem spell_low {c : Nat} (h : shortL c = none) (h2 : c < 32) : spellL c = fourT false c := by unfold spellL; rw [h]; exact if_pos h2
theorem spell_own {c : Nat} (h : shortL c = none) (h2 : ¬ c < 32) : spellL c = encL c := by unfold spellL; rw [h]; exact if_neg h2
theorem spell_len (c : Nat) : 1 ≤ (spellL c).length ∧ (spellL c).length ≤ 6 := by
  cases h : shortL c with
  | some x => rw [spell_short h]; simp
  | none =>
    by_cases h2 : c < 32
    · rw [spell_low h h2, fourT_len]; omega
    · rw [spell_own h h2]; have := encL_len_pos c; omega

theorem esc_letter {l : List UInt8} {c : Nat} (h : 2 ≤ l.length) (h2 : letL (at0 l 1) = some c) : escL l = (c, 2) := by
  unfold escL; rw [if_neg (by omega), h2]
theorem esc_four {l : List UInt8} {n : Nat} (h : letL (at0 l 1) = none) (h2 : fourL l = some n) (h3 : n < 55296 ∨ 57343 < n) : escL l = (n, 6) := by
  have := fourL_len h2
  unfold escL; rw [if_neg (by omega), h, h2]; exact if_pos h3
theorem esc_pair {l : List UInt8} {n m : Nat} (h : letL (at0 l 1) = none) (h2 : fourL l = some n) (h3 : fourL (l.drop 6) = some m) (h4 : 55296 ≤ n) (h5 : n < 56320) (h6 : 56320 ≤ m) (h7 : m ≤ 57343) :
    escL l = (65536 + (n - 55296) * 1024 + (m - 56320), 12) := by
  have := fourL_len h2
  unfold escL; rw [if_neg (by omega), h, h2]; simp only
  rw [if_neg (by omega), if_neg (by omega), h3]; exact if_pos ⟨h6, h7⟩
/-- The front byte of a code point's own bytes. -/
theorem enc_at0 (c : Nat) (h : isCp c = true) (r : List UInt8) : at0 (encL c ++ r) 0 = c ∧ c < 128 ∨ 128 ≤ at0 (encL c ++ r) 0 ∧ 128 ≤ c := by
  have hc := (isCp_iff c).1 h
  unfold encL at0
  split
  · left; exact ⟨b8_toNat c (by omega), by assumption⟩
  · right
    split
    · exact ⟨by show 128 ≤ (b8 (192 + c / 64)).toNat; rw [b8_toNat _ (by omega)]; omega, by omega⟩
    · split
      · exact ⟨by show 128 ≤ (b8 (224 + c / 4096)).toNat; rw [b8_toNat _ (by omega)]; omega, by omega⟩
      · exact ⟨by show 128 ≤ (b8 (240 + c / 262144)).toNat; rw [b8_toNat _ (by omega)]; omega, by omega⟩
/-- A sign that is a code point's own bytes. -/
theorem beg_own (c : Nat) (h : isCp c = true) (h1 : 32 ≤ c) (h2 : c ≠ 34) (h3 : c ≠ 92) (r : List UInt8) : begL (encL c ++ r) = (c, (encL c).length) := by
  rw [beg_dec (by rcases enc_at0 c h r with e | e <;> omega) (by rcases enc_at0 c h r with e | e <;> omega) (by rcases enc_at0 c h r with e | e <;> omega), dec_enc c h r]
theorem beg_four (g : Bool) (n : Nat) (h : n ≤ 65535) (h2 : n < 55296 ∨ 57343 < n) (r : List UInt8) : begL (fourT g n ++ r) = (n, 6) := by
  rw [beg_esc rfl, esc_four rfl (fourL_fourT g n h r) h2]
theorem beg_pair (g g2 : Bool) (n m : Nat) (h1 : 55296 ≤ n) (h2 : n < 56320) (h3 : 56320 ≤ m) (h4 : m ≤ 57343) (r : List UInt8) :
    begL (fourT g n ++ (fourT g2 m ++ r)) = (65536 + (n - 55296) * 1024 + (m - 56320), 12) := by
  rw [beg_esc rfl, esc_pair (l := fourT g n ++ (fourT g2 m ++ r)) rfl (fourL_fourT g n (by omega) _) (fourL_fourT g2 m (by omega) r) h1 h2 h3 h4]
theorem beg_spell (c : Nat) (h : isCp c = true) (r : List UInt8) : begL (spellL c ++ r) = (c, (spellL c).length) := by
  have hc := (isCp_iff c).1 h
  cases h1 : shortL c with
  | some x =>
    obtain ⟨e, hx⟩ := shortL_let h1
    rw [spell_short h1, beg_esc rfl, esc_letter (c := c) (by simp) (by show letL (b8 x).toNat = some c; rw [b8_toNat x (by omega)]; exact e)]
    rfl
  | none =>
    obtain ⟨h3, h4⟩ := shortL_none h1
    by_cases h2 : c < 32
    · rw [spell_low h1 h2, fourT_len]; exact beg_four false c (by omega) (by omega) r
    · rw [spell_own h1 h2]; exact beg_own c h (by omega) h3 h4 r
/-- What is said is said whatever follows. -/
theorem beg_more (l r : List UInt8) (h : (begL l).2 ≠ 0) : begL (l ++ r) = begL l := by
  have hle := beg_le l
  have e0 : at0 (l ++ r) 0 = at0 l 0 := at0_app l r 0 (by omega)
  by_cases h1 : at0 l 0 = 92
  · rw [beg_esc h1] at h hle ⊢
    rw [beg_esc (e0.trans h1)]
    rcases esc_cases l with e | ⟨h2, e, e2⟩ | ⟨h2, e, e3, e2⟩ | ⟨h2, n, m, e1, e2, h3, h4, h5, h6, e⟩
    · rw [e] at h; exact absurd rfl h
    · rw [esc_letter (c := (escL l).1) (by rw [List.length_append]; omega) (by rw [at0_app l r 1 (by omega)]; exact e), ← e2]
    · have := fourL_len e
      rw [esc_four (n := (escL l).1) (by rw [at0_app l r 1 (by omega)]; exact h2) (fourL_more e r) e3, ← e2]
    · have := fourL_len e1
      have h7 := fourL_len e2
      rw [List.length_drop] at h7
      rw [e, esc_pair (n := n) (m := m) (by rw [at0_app l r 1 (by omega)]; exact h2) (fourL_more e1 r) (by rw [List.drop_append_of_le_length (by omega)]; exact fourL_more e2 r) h3 h4 h5 h6]
  · by_cases h2 : at0 l 0 < 32 ∨ at0 l 0 = 34
    · rw [beg_bad h2] at h; exact absurd rfl h
    · rw [beg_dec h1 (by omega) (by omega)] at h ⊢
      rw [beg_dec (by omega) (by omega) (by omega)]
      obtain ⟨hc, q, e, e2⟩ := enc_dec (l := l) (c := (decL l).1) (n := (decL l).2) rfl h
      generalize hd : decL l = d at hc e e2 h ⊢
      obtain ⟨c, n⟩ := d
      simp only at hc e e2 h
      rw [e, List.append_assoc, dec_enc c hc, ← e2]
/-- No sign is shorter than its canonical way. -/
theorem beg_least (l : List UInt8) (h : (begL l).2 ≠ 0) : (spellL (begL l).1).length ≤ (begL l).2 := by
  by_cases h1 : at0 l 0 = 92
  · rw [beg_esc h1] at h ⊢
    rcases esc_cases l with e | ⟨h2, e, e2⟩ | ⟨h2, e, e3, e2⟩ | ⟨h2, n, m, e1, e2, h3, h4, h5, h6, e⟩
    · rw [e] at h; exact absurd rfl h
    · rw [e2]
      generalize (escL l).1 = c at e ⊢
      rcases letL_cases e with rfl | rfl | rfl | rfl | rfl | rfl | rfl | rfl <;> decide
    · have := spell_len (escL l).1; omega
    · rw [e]; have := spell_len (65536 + (n - 55296) * 1024 + (m - 56320)); simp only; omega
  · by_cases h2 : at0 l 0 < 32 ∨ at0 l 0 = 34
    · rw [beg_bad h2] at h; exact absurd rfl h
    · rw [beg_dec h1 (by omega) (by omega)] at h ⊢
      obtain ⟨hc, q, e, e2⟩ := enc_dec (l := l) (c := (decL l).1) (n := (decL l).2) rfl h
      have h3 := enc_at0 (decL l).1 hc q
      rw [← e] at h3
      generalize decL l = d at hc e e2 h h3 ⊢
      obtain ⟨c, n⟩ := d
      simp only at hc e e2 h h3 ⊢
      rw [e2]
      cases hs : shortL c with
      | none => rw [spell_own hs (by omega)]; exact Nat.le_refl _
      | some x =>
        have := shortL_cases hs
        omega
/-- Code points, quoted. -/
def spellsL (cps : List Nat) : List UInt8 := (cps.map spellL).flatten
def quoteL (cps : List Nat) : List UInt8 := b8 34 :: (spellsL cps ++ [b8 34])
theorem spells_nil : spellsL [] = [] := rfl
theorem spells_cons (c : Nat) (l : List Nat) : spellsL (c :: l) = spellL c ++ spellsL l := by simp [spellsL]
theorem spells_append (l m : List Nat) : spellsL (l ++ m) = spellsL l ++ spellsL m := by simp [spellsL]
theorem spells_one (c : Nat) : spellsL [c] = spellL c := by simp [spellsL]
theorem quote_len (cps : List Nat) : (quoteL cps).length = (spellsL cps).length + 2 := by simp [quoteL]
theorem sgs_spells : ∀ (cps : List Nat) (r : List UInt8), allCp cps → sgsL (spellsL cps ++ r) = (cps ++ (sgsL r).1, (spellsL cps).length + (sgsL r).2)
  | [], r, _ => by simp [spells_nil]
  | c :: cps, r, h => by
    have hp := spell_len c
    have hd := beg_spell c (h c (by simp)) (spellsL cps ++ r)
    rw [spells_cons, List.append_assoc, sgs_step (by rw [hd]; simp only; omega), hd]
    simp only [List.drop_left]
    rw [sgs_spells cps r (fun x hx => h x (by simp [hx]))]
    simp only [List.cons_append, List.length_append]
    rw [Nat.add_assoc]
theorem sgs_mark (r : List UInt8) : sgsL (b8 34 :: r) = ([], 0) := sgs_zero (by rw [beg_bad (.inr rfl)])
theorem sgs_quote (cps : List Nat) (r : List UInt8) (h : allCp cps) : sgsL (spellsL cps ++ (b8 34 :: r)) = (cps, (spellsL cps).length) := by
  rw [sgs_spells cps _ h, sgs_mark, List.append_nil, Nat.add_zero]
/-- What is read up to a closing mark is read whatever follows. -/
theorem sgs_more : ∀ (n : Nat) (l r : List UInt8), l.length ≤ n → (sgsL l).2 < l.length → at0 l (sgsL l).2 = 34 → sgsL (l ++ r) = sgsL l
  | n, l, r, hl, h1, h2 => by
    by_cases h : (begL l).2 = 0
    · rw [sgs_zero h] at h1 h2 ⊢
      exact sgs_zero (by rw [beg_bad (.inr (by rw [at0_app l r 0 h1]; exact h2))])
    · have hle := beg_le l
      match n, hl with
      | 0, hl => omega
      | n + 1, hl =>
        rw [sgs_step h] at h1 h2
        simp only at h1 h2
        have i := sgs_more n (l.drop (begL l).2) r (by rw [List.length_drop]; omega) (by rw [List.length_drop]; omega) (by rw [at0_drop]; exact h2)
        rw [sgs_step (by rw [beg_more l r h]; exact h), beg_more l r h, List.drop_append_of_le_length hle, i, sgs_step h]
/-- No text's signs are shorter than its canonical way. -/
theorem sgs_least : ∀ (n : Nat) (l : List UInt8), l.length ≤ n → (spellsL (sgsL l).1).length ≤ (sgsL l).2
  | n, l, hl => by
    by_cases h : (begL l).2 = 0
    · rw [sgs_zero h]; exact Nat.le_refl _
    · have hle := beg_le l
      match n, hl with
      | 0, hl => omega
      | n + 1, hl =>
        have i := sgs_least n (l.drop (begL l).2) (by rw [List.length_drop]; omega)
        have := beg_least l h
        rw [sgs_step h]
        simp only
        rw [spells_cons, List.length_append]
        omega
end Go.Proofs.YtgnialemiefeeaaDoor
