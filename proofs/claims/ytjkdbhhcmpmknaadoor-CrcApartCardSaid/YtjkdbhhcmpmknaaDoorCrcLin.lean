/-
  Layer 9: the walk of CrcLinear.
-/
import Derived.Test.YtjkdbhhcmpmknaaDoorCrcLays
import Derived.Test.YtjkdbhhcmpmknaaDoorCrcBoth
namespace Go.Proofs.YtjkdbhhcmpmknaaDoor
open Go.RowKit
attribute [local go_sem ↓] Go.wp_at_zero Go.wp_at_succ

/-- The exclusive or of two rows, up to a place; zeros behind it. -/
def xrow (a b : List UInt8) (q k : Nat) : List UInt8 := (List.range q).map fun i => if i < k then a.getD i 0 ^^^ b.getD i 0 else 0
theorem xrow_len (a b : List UInt8) (q k : Nat) : (xrow a b q k).length = q := by simp [xrow]
theorem xrow_zero (a b : List UInt8) (q : Nat) : xrow a b q 0 = List.replicate q 0 := by
  unfold xrow
  simp only [Nat.not_lt_zero, if_false]
  rw [List.map_const', List.length_range]
theorem xrow_set (a b : List UInt8) (q k : Nat) (hk : k < q) : (xrow a b q k).set k (a.getD k 0 ^^^ b.getD k 0) = xrow a b q (k + 1) := by
  apply List.ext_getElem?
  intro i
  unfold xrow
  rw [List.getElem?_set]
  by_cases hik : k = i
  · subst hik
    simp [hk]
  · rw [if_neg hik]
    by_cases hi : i < q
    · simp only [List.getElem?_map, List.getElem?_range hi, Option.map_some]
      by_cases h2 : i < k
      · rw [if_pos h2, if_pos (by omega)]
      · rw [if_neg h2, if_neg (by omega)]
    · simp [hi]
theorem xrow_full : ∀ (a b : List UInt8) (q : Nat), a.length = q → b.length = q → xrow a b q q = List.zipWith (· ^^^ ·) a b := by
  intro a b q ha hb
  apply List.ext_getElem?
  intro i
  unfold xrow
  by_cases hi : i < q
  · simp only [List.getElem?_map, List.getElem?_range hi, Option.map_some, if_pos hi]
    rw [List.getElem?_zipWith, List.getD_eq_getElem?_getD, List.getD_eq_getElem?_getD, List.getElem?_eq_getElem (by omega), List.getElem?_eq_getElem (by omega)]
    rfl
  · rw [List.getElem?_eq_none (by simp; omega), List.getElem?_eq_none (by simp; omega)]
theorem xor_at (a b : List UInt8) (k : Nat) : bits .xor .u8 (at8 a k) (at8 b k) = ((a.getD k 0 ^^^ b.getD k 0).toNat : Int) := by
  unfold at8
  rw [u8_xor_nat _ _ (a.getD k 0).toNat_lt (b.getD k 0).toNat_lt, UInt8.toNat_xor]

theorem eat_xor (s t : Nat) (a b : UInt8) : Crc.eat s a ^^^ Crc.eat t b = Crc.eat (s ^^^ t) (a ^^^ b) := by
  unfold Crc.eat
  rw [← Crc.stN_xor, Crc.xor_swap, UInt8.toNat_xor]
theorem take_xor : ∀ (a b : List UInt8) (s t : Nat), a.length = b.length → Crc.take s a ^^^ Crc.take t b = Crc.take (s ^^^ t) (List.zipWith (· ^^^ ·) a b) := by
  intro a
  induction a with
  | nil =>
    intro b s t h
    have : b = [] := List.eq_nil_of_length_eq_zero (by simpa using h.symm)
    subst this
    rfl
  | cons x a ih =>
    intro b s t h
    cases b with
    | nil => simp at h
    | cons y b =>
      show Crc.take (Crc.eat s x) a ^^^ Crc.take (Crc.eat t y) b = Crc.take (Crc.eat (s ^^^ t) (x ^^^ y)) _
      rw [← eat_xor]
      exact ih b _ _ (by simpa using h)
theorem zip_self (a : List UInt8) : List.zipWith (· ^^^ ·) a a = List.replicate a.length 0 := by
  induction a with
  | nil => rfl
  | cons x a ih =>
    show (x ^^^ x) :: List.zipWith (· ^^^ ·) a a = _
    rw [UInt8.xor_self, ih]
    rfl
theorem more_comp (l : List UInt8) : Crc.more 0 l = 4294967295 ^^^ Crc.take 4294967295 l := by
  unfold Crc.more
  exact Crc.comp _ (Crc.take_lt l (by decide))
theorem linear (a b : List UInt8) (q : Nat) (ha : a.length = q) (hb : b.length = q) : (Crc.more 0 a ^^^ Crc.more 0 b) ^^^ Crc.more 0 (List.zipWith (· ^^^ ·) a b) = Crc.more 0 (List.replicate q 0) := by
  have hz : (List.zipWith (· ^^^ ·) a b).length = q := by simp; omega
  have h1 := take_xor a b 4294967295 4294967295 (by omega)
  rw [Nat.xor_self] at h1
  have h2 := take_xor (List.zipWith (· ^^^ ·) a b) (List.zipWith (· ^^^ ·) a b) 0 4294967295 rfl
  rw [zip_self, hz, Nat.zero_xor, ← h1] at h2
  have key : ∀ F A B C : Nat, ((F ^^^ A) ^^^ (F ^^^ B)) ^^^ (F ^^^ C) = F ^^^ ((A ^^^ B) ^^^ C) := by
    intro F A B C
    rw [Crc.xor_swap F A F B, Nat.xor_self, Nat.zero_xor, ← Nat.xor_assoc, Nat.xor_comm (A ^^^ B) F, Nat.xor_assoc]
  rw [more_comp, more_comp, more_comp, more_comp, ← h2]
  exact key _ _ _ _

theorem Bytes.up {w w' : World} {A : Option Addr} {n : Nat} {l : List UInt8} (h : Bytes w w.heap.size A n l) (hb : Below w.heap.size w w') : Bytes w' w'.heap.size A n l := (h.below hb).more hb.size
theorem Bytes.upd {w w' : World} {A : Option Addr} {n : Nat} {l : List UInt8} (h : Bytes w w.heap.size A n l) (hb : Below w.drew.heap.size w.drew w') : Bytes w' w'.heap.size A n l := Bytes.up (w := w.drew) h hb
theorem sum_top (A : Option Addr) (n c : Nat) (l : List UInt8) (w : World) (htab : Tab w) (h : Bytes w w.heap.size A n l) (hn : n ≤ maxLen) :
    Calls Tryd.prog 11 #[.slice A n c] w fun e w' => e = .returned (.int .u32 (Crc.more 0 l : Int)) ∧ Below w.heap.size w w' := sum_any A n c w.heap.size l w htab h (Nat.le_refl _) hn
theorem zeros_top (w : World) (q : Nat) (t : TypeId) : Bytes (w.alloc (.cells (madeCells #[.int .u8 0] q) t)) (w.alloc (.cells (madeCells #[.int .u8 0] q) t)).heap.size (some ⟨w.heap.size, 0, none⟩) q (List.replicate q 0) :=
  (bytes_zeros w q t).more (by simp)

set_option maxRecDepth 100000 in
set_option maxHeartbeats 2000000 in
theorem crcLinear_walk (w : World) (A : Option Addr) (n c : Nat) (l : List UInt8) (h : Bytes w w.heap.size A n l) (hA : A = none → c = 0) (hn : n ≤ c) (hc : c ≤ maxLen)
    (A' : Option Addr) (n' c' : Nat) (l' : List UInt8) (h' : Bytes w w.heap.size A' n' l') (hA' : A' = none → c' = 0) (hn' : n' ≤ c') (hc' : c' ≤ maxLen) (htab : Tab w) :
    Calls Tryd.prog 8 #[.slice A n c, .slice A' n' c'] w fun e w' => e = .returned (.bool true) ∧ Below w.heap.size w w' := by
  obtain ⟨i0, hi, hz0, hz1, hz2⟩ := u8_info
  go_enter Tryd.func8, Tryd.ntmps8
  go_wp2_with fail
  refine (wakes_any w htab).mono ?_
  rintro e w1 ⟨rfl, hb1⟩
  have s1 := hb1.size
  go_wp2_with fail
  refine (few_any A n c w.heap.size l _ (h.below hb1) hA s1 hn hc).mono ?_
  rintro e w2 ⟨A2, n2, c2, rfl, hown2, hb2⟩
  have s2 := hb2.size
  have h12 := hb1.trans (hb2.mono s1)
  have hl2 : Bytes w2 w2.heap.size A2 n2 (l.take 400) := Bytes.own hown2
  obtain ⟨hlen2, hn2, hc2⟩ := gives_len hown2
  have hle2 : n2 ≤ 400 := by rw [hlen2, List.length_take]; omega
  clear hown2 hlen2
  go_wp2_with fail
  refine (few_any A' n' c' w.heap.size l' _ (h'.below h12) hA' (by omega) hn' hc').mono ?_
  rintro e w3 ⟨A3, n3, c3, rfl, hown3, hb3⟩
  have s3 := hb3.size
  have h13 := h12.trans (hb3.mono (by omega))
  have hl3 : Bytes w3 w3.heap.size A3 n3 (l'.take 400) := Bytes.own hown3
  obtain ⟨hlen3, hn3, hc3⟩ := gives_len hown3
  have hle3 : n3 ≤ 400 := by rw [hlen3, List.length_take]; omega
  clear hown3 hlen3
  obtain ⟨q, Hq⟩ : ∃ q, Hid (q = min n2 n3) := ⟨_, Lib.hid rfl⟩
  have hmin : min (n2 : Int) (n3 : Int) = (q : Int) := by rw [Hq.out]; omega
  have hq2 : q ≤ n2 := by rw [Hq.out]; omega
  have hq3 : q ≤ n3 := by rw [Hq.out]; omega
  have i1 : (0 : Int) ≤ (q : Int) := by omega
  have i2 : (q : Int) ≤ (c2 : Int) := by omega
  have i3 : (q : Int) ≤ (c3 : Int) := by omega
  have ha := (hl2.below hb3).first hq2
  have hb := hl3.first hq3
  have ha_len := ha.len
  have hb_len := hb.len
  obtain ⟨a, Ha⟩ : ∃ a, Hid (a = (l.take 400).take q) := ⟨_, Lib.hid rfl⟩
  obtain ⟨b, Hb⟩ : ∃ b, Hid (b = (l'.take 400).take q) := ⟨_, Lib.hid rfl⟩
  rw [← Ha.out] at ha ha_len
  rw [← Hb.out] at hb hb_len
  have HaL := Lib.hid ha_len
  have HbL := Lib.hid hb_len
  clear ha_len hb_len
  have hmk := fun W => run_make_one (P := Tryd.prog) Tryd.underlying23 hi hz0 rfl hz1 .i64 .i64 (q : Int) (q : Int) (by omega) (by omega) (by rw [hz2]; omega) (by omega) W
  rw [Int.toNat_natCast] at hmk
  have hcase : (q = n3 ∧ n3 < n2) ∨ (q = n2 ∧ n2 ≤ n3) := by have := Hq.out; omega
  clear hmin Hq
  rcases hcase with ⟨rfl, hlt⟩ | ⟨rfl, hlt⟩
  · skip
    go_wp2_with fail
    go_region_held3 (fun w' => True) (trivial) (fail)
    go_wp2
    go_loopw [31] (fun i wr => ∃ k : Nat, k ≤ q ∧ i = .int .i64 k ∧ wr.ownsRow w3.heap.size 5 1 (.slice (some ⟨w3.heap.size, 0, none⟩) q q) q ((xrow a b q k).map bv) ∧ Below w3.heap.size w3 wr) (fun i _ => q - (intOf i).toNat)
    case atStart =>
      refine ⟨0, Nat.zero_le _, rfl, ?_, ?_⟩
      · rw [xrow_zero, List.map_replicate]
        exact own_zeros _ _ q q (Nat.le_refl _) (Nat.le_refl _) (by unfold maxLen; omega)
      · exact ((below_drewN (Below.refl _ _) _).alloc (Nat.le_refl _) _)
    case round =>
      obtain ⟨k, hk, rfl, hown, hbel⟩ := hrel
      by_cases hkq : k < q
      · obtain ⟨b1, o1, rfl, hlt1, hc1⟩ := (ha.below (hbel.mono s3)).cell hkq
        obtain ⟨b2, o2, rfl, hlt2, hc2⟩ := (hb.below hbel).cell hkq
        have hc3 := (hown.cellAt k (by omega)).trans (at8_bv (by rw [xrow_len]; exact hkq))
        have hf3 := hown.frozenAt k
        have j1 : (0 : Int) ≤ (k : Int) := by omega
        have j2 : (k : Int) < (q : Int) := by omega
        have g1 := at8_lo a k
        have g2 := at8_hi a k
        have g3 := at8_lo b k
        have g4 := at8_hi b k
        go_wp2
        go_region
        go_wp2
        go_roundw
        case rel =>
          refine ⟨k + 1, by omega, by go_num, ?_, (hbel.setCell (p := ⟨w3.heap.size, k, none⟩) (Nat.le_refl _) _).drew⟩
          rw [xor_at, ← xrow_set a b q k hkq, List.map_set]
          exact (hown.stored k (bv (a.getD k 0 ^^^ b.getD k 0))).1
        case measure => simp [intOf]; omega
      · have hk' : k = q := by omega
        have hown2 := hown
        rw [hk', xrow_full a b q HaL.out HbL.out] at hown2
        have hsz := hbel.size
        have haW : Bytes wr wr.heap.size A2 q a := (ha.below (hbel.mono s3)).more (by omega)
        have hbW : Bytes wr wr.heap.size A3 q b := (hb.below hbel).more hsz
        have hcW : Bytes wr wr.heap.size (some ⟨w3.heap.size, 0, none⟩) q (List.zipWith (· ^^^ ·) a b) := Bytes.own hown2
        have htW := htab.below (h13.trans (hbel.mono (by omega))) htab.lt
        have hqm : q ≤ maxLen := by unfold maxLen; omega
        have hx1 : bits .xor .u32 (Crc.more 0 a : Int) (Crc.more 0 b : Int) = ((Crc.more 0 a ^^^ Crc.more 0 b : Nat) : Int) := u32_xor_nat _ _ (Crc.more_lt _ _) (Crc.more_lt _ _)
        have hx2 : bits .xor .u32 ((Crc.more 0 a ^^^ Crc.more 0 b : Nat) : Int) (Crc.more 0 (List.zipWith (· ^^^ ·) a b) : Int) = (Crc.more 0 (List.replicate q 0) : Int) := by
          rw [u32_xor_nat _ _ (Nat.xor_lt_two_pow (n := 32) (Crc.more_lt _ _) (Crc.more_lt _ _)) (Crc.more_lt _ _), linear a b q HaL.out HbL.out]
        clear hown hown2 hk' ha hb
        go_wp2_with fail
        go_region_held3 (fun w' => Below wr.heap.size wr w') (first | exact (Below.refl _ _).drew | exact Below.trans (by assumption) (Below.mono (by assumption) (Below.size (by assumption))) | exact Below.alloc (by assumption) (Below.size (by assumption)) _) (first
          | (go_at_call 11; with_reducible refine (sum_top A2 q c2 a _ (by exact htW.below (by assumption) htW.lt) (by exact haW.up (by assumption)) hqm).mono ?_; rintro e wA ⟨rfl, hbA⟩)
          | (go_at_call 11; with_reducible refine (sum_top A3 q c3 b _ (by exact htW.below (by assumption) htW.lt) (by exact hbW.up (by assumption)) hqm).mono ?_; rintro e wB ⟨rfl, hbB⟩)
          | (go_at_call 11; with_reducible refine (sum_top (some ⟨w3.heap.size, 0, none⟩) q q (List.zipWith (· ^^^ ·) a b) _ (by exact htW.below (by assumption) htW.lt) (by exact hcW.up (by assumption)) hqm).mono ?_; rintro e wC ⟨rfl, hbC⟩)
          | (go_at_call 11; with_reducible refine (sum_top _ q q (List.replicate q 0) _ (by exact htW.below (by assumption) htW.lt) (by first | exact zeros_top _ _ _ | exact (zeros_top _ _ _).up hbC | exact ((zeros_top _ _ _).up hbB).up hbC | exact (((zeros_top wr q 5).upd hbA).up hbB).up hbC) hqm).mono ?_; rintro e wD ⟨rfl, hbD⟩))
        all_goals
          go_wp2
          go_ret
          exact ⟨rfl, h13.trans ((hbel.mono (show w.heap.size ≤ w3.heap.size by omega)).trans (Below.mono (B := wr.heap.size) (by assumption) (by omega)))⟩
  · skip
    go_wp2_with fail
    go_region_held3 (fun w' => True) (trivial) (fail)
    go_wp2
    go_loopw [31] (fun i wr => ∃ k : Nat, k ≤ q ∧ i = .int .i64 k ∧ wr.ownsRow w3.heap.size 5 1 (.slice (some ⟨w3.heap.size, 0, none⟩) q q) q ((xrow a b q k).map bv) ∧ Below w3.heap.size w3 wr) (fun i _ => q - (intOf i).toNat)
    case atStart =>
      refine ⟨0, Nat.zero_le _, rfl, ?_, ?_⟩
      · rw [xrow_zero, List.map_replicate]
        exact own_zeros _ _ q q (Nat.le_refl _) (Nat.le_refl _) (by unfold maxLen; omega)
      · exact ((below_drewN (Below.refl _ _) _).alloc (Nat.le_refl _) _)
    case round =>
      obtain ⟨k, hk, rfl, hown, hbel⟩ := hrel
      by_cases hkq : k < q
      · obtain ⟨b1, o1, rfl, hlt1, hc1⟩ := (ha.below (hbel.mono s3)).cell hkq
        obtain ⟨b2, o2, rfl, hlt2, hc2⟩ := (hb.below hbel).cell hkq
        have hc3 := (hown.cellAt k (by omega)).trans (at8_bv (by rw [xrow_len]; exact hkq))
        have hf3 := hown.frozenAt k
        have j1 : (0 : Int) ≤ (k : Int) := by omega
        have j2 : (k : Int) < (q : Int) := by omega
        have g1 := at8_lo a k
        have g2 := at8_hi a k
        have g3 := at8_lo b k
        have g4 := at8_hi b k
        go_wp2
        go_region
        go_wp2
        go_roundw
        case rel =>
          refine ⟨k + 1, by omega, by go_num, ?_, (hbel.setCell (p := ⟨w3.heap.size, k, none⟩) (Nat.le_refl _) _).drew⟩
          rw [xor_at, ← xrow_set a b q k hkq, List.map_set]
          exact (hown.stored k (bv (a.getD k 0 ^^^ b.getD k 0))).1
        case measure => simp [intOf]; omega
      · have hk' : k = q := by omega
        have hown2 := hown
        rw [hk', xrow_full a b q HaL.out HbL.out] at hown2
        have hsz := hbel.size
        have haW : Bytes wr wr.heap.size A2 q a := (ha.below (hbel.mono s3)).more (by omega)
        have hbW : Bytes wr wr.heap.size A3 q b := (hb.below hbel).more hsz
        have hcW : Bytes wr wr.heap.size (some ⟨w3.heap.size, 0, none⟩) q (List.zipWith (· ^^^ ·) a b) := Bytes.own hown2
        have htW := htab.below (h13.trans (hbel.mono (by omega))) htab.lt
        have hqm : q ≤ maxLen := by unfold maxLen; omega
        have hx1 : bits .xor .u32 (Crc.more 0 a : Int) (Crc.more 0 b : Int) = ((Crc.more 0 a ^^^ Crc.more 0 b : Nat) : Int) := u32_xor_nat _ _ (Crc.more_lt _ _) (Crc.more_lt _ _)
        have hx2 : bits .xor .u32 ((Crc.more 0 a ^^^ Crc.more 0 b : Nat) : Int) (Crc.more 0 (List.zipWith (· ^^^ ·) a b) : Int) = (Crc.more 0 (List.replicate q 0) : Int) := by
          rw [u32_xor_nat _ _ (Nat.xor_lt_two_pow (n := 32) (Crc.more_lt _ _) (Crc.more_lt _ _)) (Crc.more_lt _ _), linear a b q HaL.out HbL.out]
        clear hown hown2 hk' ha hb
        go_wp2_with fail
        go_region_held3 (fun w' => Below wr.heap.size wr w') (first | exact (Below.refl _ _).drew | exact Below.trans (by assumption) (Below.mono (by assumption) (Below.size (by assumption))) | exact Below.alloc (by assumption) (Below.size (by assumption)) _) (first
          | (go_at_call 11; with_reducible refine (sum_top A2 q c2 a _ (by exact htW.below (by assumption) htW.lt) (by exact haW.up (by assumption)) hqm).mono ?_; rintro e wA ⟨rfl, hbA⟩)
          | (go_at_call 11; with_reducible refine (sum_top A3 q c3 b _ (by exact htW.below (by assumption) htW.lt) (by exact hbW.up (by assumption)) hqm).mono ?_; rintro e wB ⟨rfl, hbB⟩)
          | (go_at_call 11; with_reducible refine (sum_top (some ⟨w3.heap.size, 0, none⟩) q q (List.zipWith (· ^^^ ·) a b) _ (by exact htW.below (by assumption) htW.lt) (by exact hcW.up (by assumption)) hqm).mono ?_; rintro e wC ⟨rfl, hbC⟩)
          | (go_at_call 11; with_reducible refine (sum_top _ q q (List.replicate q 0) _ (by exact htW.below (by assumption) htW.lt) (by first | exact zeros_top _ _ _ | exact (zeros_top _ _ _).up hbC | exact ((zeros_top _ _ _).up hbB).up hbC | exact (((zeros_top wr q 5).upd hbA).up hbB).up hbC) hqm).mono ?_; rintro e wD ⟨rfl, hbD⟩))
        all_goals
          go_wp2
          go_ret
          exact ⟨rfl, h13.trans ((hbel.mono (show w.heap.size ≤ w3.heap.size by omega)).trans (Below.mono (B := wr.heap.size) (by assumption) (by omega)))⟩
end Go.Proofs.YtjkdbhhcmpmknaaDoor
