/-
  The reference of layer 9, function by function.
-/
import Derived.Test.YtedoajiapicpnaaDoorCrcW
namespace Go.Proofs.YtedoajiapicpnaaDoor
open Go.RowKit

set_option maxHeartbeats 1000000 in
theorem take_any (A : Option Addr) (n c B : Nat) (l : List UInt8) (s : Nat) (w : World) (h : Bytes w B A n l) (hs : s < 4294967296) (hn : n ≤ maxLen) :
    Calls Tryd.prog 55 #[.int .u32 (s : Int), .slice A n c] w fun e w' => e = .returned (.int .u32 (Crc.take s l : Int)) ∧ w = w' := by
  unfold maxLen at hn
  have H0 := Lib.hid h
  clear h
  go_enter Tryd.func55, Tryd.ntmps55
  go_wp2
  go_loop [0, 5] (fun x i => ∃ k t : Nat, k ≤ n ∧ i = .int .i64 k ∧ x = .int .u32 t ∧ Hid (t = Crc.take s (l.take k)) ∧ t < 4294967296) (fun _ i => n - (intOf i).toNat)
  case atStart => exact ⟨0, s, Nat.zero_le _, rfl, rfl, Lib.hid rfl, hs⟩
  case round =>
    obtain ⟨k, t, hk, rfl, rfl, Ht, htl⟩ := hrel
    by_cases hlt : k < n
    · obtain ⟨b1, o1, rfl, hb1, hc1⟩ := H0.out.cell hlt
      have g1 := at8_lo l k
      have g2 := at8_hi l k
      go_wp2
      go_loop [0, 6, 7] (fun x y z => ∃ j t' c' : Nat, j ≤ 8 ∧ z = .int .i64 j ∧ x = .int .u32 t' ∧ y = .int .u32 c' ∧ t' < 4294967296 ∧ c' < 256 ∧ Hid (t' ^^^ c' = Crc.stN j (t ^^^ (l.getD k 0).toNat)) ∧ Hid (c' = (l.getD k 0).toNat / 2 ^ j)) (fun _ _ z => 8 - (intOf z).toNat)
      case atStart => exact ⟨0, t, (l.getD k 0).toNat, by omega, rfl, rfl, rfl, htl, (l.getD k 0).toNat_lt, Lib.hid rfl, Lib.hid (by simp)⟩
      case round =>
        obtain ⟨j, t', c', hj, rfl, rfl, rfl, ht', hc', H1, H2⟩ := hrel
        by_cases hlt2 : j < 8
        · go_wp2_with fail
          rw [show ((c' : Int) % 2) = ((c' % 2 : Nat) : Int) by omega]
          refine (bit_any t' (c' % 2) _ ht').mono ?_
          rintro e w1 ⟨rfl, rfl⟩
          go_wp2
          go_round
          case rel =>
            refine ⟨j + 1, _, c' / 2, by omega, by go_num, rfl, by go_num, Crc.bit_lt _ ht', by omega, Lib.hid ?_, Lib.hid ?_⟩
            · rw [Crc.bit_st, H1.out, ← Crc.stN_succ]
            · rw [H2.out, Nat.div_div_eq_div_mul, Nat.pow_succ]
          case measure => simp [intOf]; omega
        · have hj8 : j = 8 := by omega
          have hfin : t' = Crc.take s (l.take (k + 1)) := by
            have e1 := H1.out
            have e2 := H2.out
            have hx := (l.getD k 0).toNat_lt
            rw [hj8] at e1 e2
            have e3 : c' = 0 := by rw [e2]; omega
            rw [e3, Nat.xor_zero] at e1
            rw [take_snoc l k (by have := H0.out.len; omega), Crc.take_append, ← Ht.out, Crc.take_one, e1]
            rfl
          have Hfin := Lib.hid hfin
          clear hfin hj8
          go_wp2
          go_round
          case rel => exact ⟨k + 1, t', by omega, by go_num, rfl, Hfin, ht'⟩
          case measure => simp [intOf]; omega
    · have hk' : k = n := by omega
      have hr : t = Crc.take s l := by
        have hl := H0.out.len
        rw [Ht.out, List.take_of_length_le (by omega)]
      have Hr := Lib.hid hr
      clear hk' hr
      go_wp2
      go_ret
      exact ⟨by rw [← Hr.out]; rfl, rfl⟩

theorem laid_cells (s : Nat) (hs : s < 4294967296) : [Value.int .u8 ((s : Int) % 256), .int .u8 ((s : Int) / 256 % 256), .int .u8 ((s : Int) / 65536 % 256), .int .u8 ((s : Int) / 16777216)] = (Crc.laid s).map bv := by
  have h : ∀ x : Nat, bv (UInt8.ofNat x) = .int .u8 ((x : Int) % 256) := fun x => by
    unfold bv
    rw [UInt8.toNat_ofNat']
    simp
  unfold Crc.laid
  simp only [List.map_cons, List.map_nil, h]
  rw [show ((s / 256 : Nat) : Int) % 256 = (s : Int) / 256 % 256 by omega, show ((s / 65536 : Nat) : Int) % 256 = (s : Int) / 65536 % 256 by omega, show ((s / 16777216 : Nat) : Int) % 256 = (s : Int) / 16777216 by omega]
theorem laid_gives (s : Nat) (w : World) (hs : s < 4294967296) {e : Ending} (he : e = .returned (.slice (some ⟨w.heap.size, 0, none⟩) 4 4)) :
    GivesBytes 5 (Crc.laid s) w e (w.alloc (.cells #[.int .u8 ((s : Int) % 256), .int .u8 ((s : Int) / 256 % 256), .int .u8 ((s : Int) / 65536 % 256), .int .u8 ((s : Int) / 16777216)] 5)) := by
  refine ⟨_, 4, 4, he, ?_, (Below.refl _ _).alloc (Nat.le_refl _) _⟩
  rw [← laid_cells s hs]
  exact World.ownsRow_lit (size := 1) w #[.int .u8 ((s : Int) % 256), .int .u8 ((s : Int) / 256 % 256), .int .u8 ((s : Int) / 65536 % 256), .int .u8 ((s : Int) / 16777216)] 4 (Nat.le_refl _) (by unfold maxLen; omega) rfl

set_option maxHeartbeats 1000000 in
theorem laid_any (s : Nat) (w : World) (hs : s < 4294967296) :
    Calls Tryd.prog 35 #[.int .u32 (s : Int)] w (GivesBytes 5 (Crc.laid s) w) := by
  go_enter Tryd.func35, Tryd.ntmps35
  go_wp2
  go_ret
  exact laid_gives s w hs rfl

set_option maxHeartbeats 1000000 in
theorem refmore_any (A : Option Addr) (n c B : Nat) (l : List UInt8) (s : Nat) (w : World) (h : Bytes w B A n l) (hs : s < 4294967296) (hn : n ≤ maxLen) :
    Calls Tryd.prog 36 #[.int .u32 (s : Int), .slice A n c] w fun e w' => e = .returned (.int .u32 (Crc.more s l : Int)) ∧ w = w' := by
  have hu : 4294967295 - s < 4294967296 := by omega
  have ht := Crc.take_lt l hu
  have hr : (4294967295 : Int) - (Crc.take (4294967295 - s) l : Int) = (Crc.more s l : Int) := by unfold Crc.more; omega
  have Hr := Lib.hid hr
  clear hr
  go_enter Tryd.func36, Tryd.ntmps36
  go_wp2_with fail
  rw [show ((4294967295 : Int) - (s : Int)) = ((4294967295 - s : Nat) : Int) by omega]
  refine (take_any A n c B l _ w h hu hn).mono ?_
  rintro e w1 ⟨rfl, rfl⟩
  go_wp2
  go_ret
  exact ⟨by rw [← Hr.out]; rfl, rfl⟩
end Go.Proofs.YtedoajiapicpnaaDoor
