/-
  Package crc and its reference, function by function: the register.
-/
import Derived.Test.YtedoajiapicpnaaDoorRows
import Derived.Test.YtedoajiapicpnaaDoorW
import Derived.Test.YtedoajiapicpnaaDoorCrcM
import Derived.Deep.QuietTactic
import Derived.BigQuiet
import Derived.BigRegion
import Derived.Lib.Hide
namespace Go.Proofs.YtedoajiapicpnaaDoor
open Go.RowKit

/-- The table lies in its variable. -/
def Tab (w : World) : Prop := ∀ i, i < 16 → w.cell? ⟨1, i, none⟩ = some (.int .u32 (Crc.tb i : Int))
theorem Tab.lt {w : World} (h : Tab w) : 1 < w.heap.size := World.block_lt_of_cell? w _ (h 0 (by decide))
theorem Tab.below {w w' : World} {B : Nat} (h : Tab w) (hb : Below B w w') (hB : 1 < B) : Tab w' := fun i hi => (hb.cell (p := ⟨1, i, none⟩) hB).trans (h i hi)
theorem Tab.drew {w : World} (h : Tab w) : Tab w.drew := h
theorem Tab.drewN {w : World} (h : Tab w) (k : Nat) : Tab (w.drewN k) := h
theorem Tab.alloc {w : World} (h : Tab w) (o : Obj) : Tab (w.alloc o) := h.below ((Below.refl _ _).alloc (Nat.le_refl _) o) h.lt
theorem Tab.setCell {w : World} (h : Tab w) {p : Addr} (hp : 1 < p.block) (v : Value) : Tab (w.setCell p v) := h.below ((Below.refl _ _).setCell (Nat.le_refl p.block) v) hp

set_option maxHeartbeats 1000000 in
theorem quarter_any (b x s : Nat) (w : World) (htab : Tab w) (hc : w.cell? ⟨b, 0, none⟩ = some (.int .u32 (s : Int))) (hf : w.frozen? ⟨b, 0, none⟩ = false) (hs : s < 4294967296) (hx : x < 256) :
    Calls Tryd.prog 66 #[.pointer (some ⟨b, 0, none⟩), .int .u8 (x : Int)] w fun e w' => e = .returned (.tuple #[]) ∧ (w.setCell ⟨b, 0, none⟩ (.int .u32 (Crc.quarter s x : Int))).drew = w' := by
  have hsx : s ^^^ x < 4294967296 := Nat.xor_lt_two_pow (n := 32) hs (by omega)
  have e1 : bits .xor .u32 (s : Int) (x : Int) = ((s ^^^ x : Nat) : Int) := u32_xor_nat _ _ hs (by omega)
  have e2 : bits .and .u32 ((s ^^^ x : Nat) : Int) 15 = (((s ^^^ x) % 16 : Nat) : Int) := by
    have := u32_and_nat (s ^^^ x) 15 hsx (by decide)
    rw [nat_mask4] at this
    exact this
  have hi : (s ^^^ x) % 16 < 16 := Nat.mod_lt _ (by decide)
  have ht := htab _ hi
  have hv := Crc.tb_lt _ hi
  have e3 : bits .xor .u32 ((s : Int) / 16) ((Crc.tb ((s ^^^ x) % 16) : Nat) : Int) = ((Crc.quarter s x : Nat) : Int) := by
    rw [show ((s : Int) / 16) = ((s / 16 : Nat) : Int) by omega]
    exact u32_xor_nat _ _ (by omega) hv
  clear htab
  generalize Crc.quarter s x = q at *
  generalize Crc.tb ((s ^^^ x) % 16) = v at *
  generalize (s ^^^ x) % 16 = i at *
  generalize (s ^^^ x) = j at *
  go_enter Tryd.func66, Tryd.ntmps66
  go_wp2
  go_region
  go_end0
  exact ⟨rfl, rfl⟩

set_option maxHeartbeats 1000000 in
theorem consume_any (b s : Nat) (c : UInt8) (w : World) (htab : Tab w) (hc : w.cell? ⟨b, 0, none⟩ = some (.int .u32 (s : Int))) (hf : w.frozen? ⟨b, 0, none⟩ = false) (hs : s < 4294967296) (hb : 1 < b) :
    Calls Tryd.prog 54 #[.pointer (some ⟨b, 0, none⟩), .int .u8 (c.toNat : Int)] w fun e w' => e = .returned (.tuple #[]) ∧ Below b w w' ∧ w'.cell? ⟨b, 0, none⟩ = some (.int .u32 (Crc.eat s c : Int)) ∧ w'.frozen? ⟨b, 0, none⟩ = false ∧ w'.heap.size = w.heap.size := by
  have hx := c.toNat_lt
  go_enter Tryd.func54, Tryd.ntmps54
  go_wp2_with fail
  refine (quarter_any b c.toNat s w htab hc hf hs hx).mono ?_
  rintro e w1 ⟨rfl, rfl⟩
  go_wp2_with fail
  have hc2 := cell_set hc (.int .u32 (Crc.quarter s c.toNat : Int))
  have hf2 := (frozen_set w ⟨b, 0, none⟩ ⟨b, 0, none⟩ (.int .u32 (Crc.quarter s c.toNat : Int))).trans hf
  rw [show ((c.toNat : Int) / 16) = ((c.toNat / 16 : Nat) : Int) by omega]
  refine (quarter_any b (c.toNat / 16) _ _ ((htab.setCell hb _).drew) hc2 hf2 (Crc.quarter_lt _ hs) (by omega)).mono ?_
  rintro e w1 ⟨rfl, rfl⟩
  go_wp2
  go_end0
  refine ⟨rfl, (((Below.refl b w).setCell (p := ⟨b, 0, none⟩) (Nat.le_refl b) _).setCell (p := ⟨b, 0, none⟩) (Nat.le_refl b) _).drew.drew, ?_, ?_, ?_⟩
  · rw [← Crc.quarters]
    exact cell_set hc2 _
  · exact (frozen_set _ _ _ _).trans hf2
  · exact (size_set _ _ _).trans (size_set _ _ _)

set_option maxHeartbeats 1000000 in
theorem bit_any (s x : Nat) (w : World) (hs : s < 4294967296) :
    Calls Tryd.prog 67 #[.int .u32 (s : Int), .int .u32 (x : Int)] w fun e w' => e = .returned (.int .u32 (Crc.bit s x : Int)) ∧ w = w' := by
  by_cases h : s % 2 = x
  · have hb : ((s : Int) % 2 != (x : Int)) = false := by simp; omega
    have hr : Crc.bit s x = s / 2 := if_pos h
    have Hr := Lib.hid hr
    clear hr h
    go_enter Tryd.func67, Tryd.ntmps67
    go_wp2
    go_ret
    exact ⟨by rw [Hr.out]; simp, rfl⟩
  · have hb : ((s : Int) % 2 != (x : Int)) = true := by rw [bne_iff_ne]; omega
    have hr : Crc.bit s x = s / 2 ^^^ 2197175160 := if_neg h
    have e1 : bits .xor .u32 ((s : Int) / 2) 2197175160 = ((s / 2 ^^^ 2197175160 : Nat) : Int) := by
      rw [show ((s : Int) / 2) = ((s / 2 : Nat) : Int) by omega]
      exact u32_xor_nat _ _ (by omega) (by decide)
    rw [← hr] at e1
    clear hr h
    go_enter Tryd.func67, Tryd.ntmps67
    go_wp2
    go_ret
    exact ⟨rfl, rfl⟩
theorem not32 (s : Nat) (hs : s < 4294967296) : bits .xor .u32 IntKind.u32.max (s : Int) = ((4294967295 - s : Nat) : Int) := by
  rw [Crc.comp s hs]
  exact u32_xor_nat 4294967295 s (by decide) hs

set_option maxHeartbeats 1000000 in
theorem more_any (A : Option Addr) (n c B : Nat) (l : List UInt8) (s : Nat) (w : World) (htab : Tab w) (h : Bytes w B A n l) (hB : B ≤ w.heap.size) (hs : s < 4294967296) (hn : n ≤ maxLen) :
    Calls Tryd.prog 34 #[.int .u32 (s : Int), .slice A n c] w fun e w' => e = .returned (.int .u32 (Crc.more s l : Int)) ∧ Below w.heap.size w w' := by
  unfold maxLen at hn
  have hmf : ∀ (fn : Fn) (first cap : Array Value) (w : World), (Instr.makeFunc fn first cap).run Tryd.prog w = .ok (.func fn first cap) w := fun _ _ _ _ => rfl
  have hsg : IntKind.u32.signed = false := rfl
  have hnot := not32 s hs
  have hlt0 := htab.lt
  have H0 := Lib.hid h
  have Htab := Lib.hid htab
  clear h htab
  have hu : 4294967295 - s < 4294967296 := by omega
  obtain ⟨u, Hu, hu2⟩ : ∃ u, Hid (u = 4294967295 - s) ∧ u < 4294967296 := ⟨_, Lib.hid rfl, hu⟩
  rw [← Hu.out] at hnot
  clear hu
  go_enter Tryd.func34, Tryd.ntmps34
  go_wp2
  go_loopw [18] (fun i wr => ∃ k t : Nat, k ≤ n ∧ i = .int .i64 k ∧ Hid (t = Crc.take u (l.take k)) ∧ t < 4294967296 ∧ Below w.heap.size w wr ∧ wr.cell? ⟨w.heap.size, 0, none⟩ = some (.int .u32 (t : Int)) ∧ wr.frozen? ⟨w.heap.size, 0, none⟩ = false) (fun i _ => n - (intOf i).toNat)
  case atStart => exact ⟨0, u, Nat.zero_le _, rfl, Lib.hid rfl, hu2, (Below.refl _ _).alloc (Nat.le_refl _) _, by go_simp, by go_simp⟩
  case round =>
    obtain ⟨k, t, hk, rfl, Ht, htl, hbel, hc, hf⟩ := hrel
    by_cases hlt : k < n
    · obtain ⟨b1, o1, rfl, hb1, hc1⟩ := H0.out.cell hlt
      have hc1' := (hbel.cell (p := ⟨b1, o1 + k, none⟩) (by show b1 < _; omega)).trans hc1
      have g1 := at8_lo l k
      have g2 := at8_hi l k
      go_wp2_with fail
      refine (consume_any w.heap.size t (l.getD k 0) _ (Htab.out.below hbel hlt0) hc hf htl hlt0).mono ?_
      rintro e w2 ⟨rfl, hb2, hc2, hf2, _⟩
      go_wp2
      go_roundw
      case rel =>
        refine ⟨k + 1, _, by omega, by go_num, Lib.hid ?_, Crc.eat_lt _ htl, hbel.trans hb2, hc2, hf2⟩
        rw [take_snoc l k (by have := H0.out.len; omega), Crc.take_append, Ht.out, Crc.take_one]
      case measure => simp [intOf]; omega
    · have hk' : k = n := by omega
      have hr : Crc.more s l = 4294967295 - t := by
        have hl := H0.out.len
        rw [Ht.out, Hu.out, List.take_of_length_le (by omega)]
        rfl
      have Hr := Lib.hid hr
      have hnot2 := not32 t htl
      clear hk' hr hnot
      go_wp2
      go_ret
      exact ⟨by rw [Hr.out]; rfl, hbel⟩

set_option maxHeartbeats 1000000 in
theorem sum_any (A : Option Addr) (n c B : Nat) (l : List UInt8) (w : World) (htab : Tab w) (h : Bytes w B A n l) (hB : B ≤ w.heap.size) (hn : n ≤ maxLen) :
    Calls Tryd.prog 33 #[.slice A n c] w fun e w' => e = .returned (.int .u32 (Crc.more 0 l : Int)) ∧ Below w.heap.size w w' := by
  go_enter Tryd.func33, Tryd.ntmps33
  go_wp2_with fail
  refine (more_any A n c B l 0 w htab h hB (by decide) hn).mono ?_
  rintro e w1 ⟨rfl, hb⟩
  go_wp2
  go_ret
  exact ⟨rfl, hb⟩
end Go.Proofs.YtedoajiapicpnaaDoor
