/-
  Package doc: the writer.
-/
import Derived.Test.YtedoajiapicpnaaDoorAp
import Derived.Test.YtedoajiapicpnaaDoorClone
import Derived.BigRegion
import Derived.BigQuiet
import Derived.Deep.QuietTactic
import Derived.Deep.RegionHeld3
import Derived.Deep.DrawnRows
import Derived.Lib.Hide
namespace Go.Proofs.YtedoajiapicpnaaDoor
open Go.RowKit
attribute [local go_sem ↓] Go.wp_at_zero Go.wp_at_succ

/-- A digit's byte. -/
def hx (k : Nat) : UInt8 := if k < 10 then UInt8.ofNat (48 + k) else UInt8.ofNat (87 + k)
/-- The digits to the base ten, with so many steps at most. -/
def decF : Nat → Nat → List UInt8
  | 0, n => [hx (n % 10)]
  | f + 1, n => if n < 10 then [hx (n % 10)] else decF f (n / 10) ++ [hx (n % 10)]
theorem decF_length : ∀ (f n : Nat), (decF f n).length ≤ f + 1
  | 0, n => by simp [decF]
  | f + 1, n => by
    have := decF_length f (n / 10)
    unfold decF
    split
    · simp
    · simp; omega

/-- The writer in block b has written l. -/
def Wr (w : World) (b : Nat) (l : List UInt8) : Prop :=
  ∃ A c, w.cell? ⟨b, 0, none⟩ = some (.slice A l.length c) ∧ w.frozen? ⟨b, 0, none⟩ = false ∧ w.ownsRow (b + 1) 5 1 (.slice A l.length c) l.length (l.map bv)
theorem Wr.drew {w : World} {b : Nat} {l : List UInt8} (h : Wr w b l) : Wr w.drew b l := h
theorem Wr.lt {w : World} {b : Nat} {l : List UInt8} (h : Wr w b l) : b < w.heap.size := by
  obtain ⟨A, c, h, _⟩ := h
  exact World.block_lt_of_cell? w _ h
/-- Behind an append and a store. -/
theorem Wr.stored {w : World} {b : Nat} {l : List UInt8} {v : Value} {A : Option Addr} {n c : Nat} (hn : n = l.length) (hc : w.cell? ⟨b, 0, none⟩ = some v) (hf : w.frozen? ⟨b, 0, none⟩ = false) (hown : w.ownsRow (b + 1) 5 1 (.slice A n c) n (l.map bv)) :
    Wr (w.setCell ⟨b, 0, none⟩ (.slice A n c)) b l := by
  subst hn
  exact ⟨A, c, cell_set hc _, (frozen_set _ _ _ _).trans hf, ownsRow_setCell_below hown (by show b < b + 1; omega) _⟩

/-- The index into the digits. -/
theorem run_digit (k : Nat) (hk : k < 16) (w : World) : (Instr.index 9 (.string ⟨#[48, 49, 50, 51, 52, 53, 54, 55, 56, 57, 97, 98, 99, 100, 101, 102]⟩) (.int .u32 (k : Int))).run Tryd.prog w = .ok (.int .u8 ((hx k).toNat : Int)) w := by
  have h : ∀ k : Fin 16, (⟨#[48, 49, 50, 51, 52, 53, 54, 55, 56, 57, 97, 98, 99, 100, 101, 102]⟩ : ByteArray)[k.1]? = some (hx k.1) := by decide
  have h2 := h ⟨k, hk⟩
  have h0 : (0 : Int) ≤ (k : Int) := by omega
  simp [Instr.index, asIntOf, h0, h2]

/-- What has been proved when an append and its store are done. -/
theorem wr_done {w w2 : World} {b n : Nat} {l : List UInt8} {x : UInt8} {o : Obj} {A A2 : Option Addr} {c c2 : Nat} (hn : n = l.length) (hbs : b < w.heap.size)
    (hb2 : Below (b + 1) (w.drew.alloc o) w2) (hc2 : w2.cell? ⟨b, 0, none⟩ = some (.slice A n c)) (hf2 : w2.frozen? ⟨b, 0, none⟩ = false) (hown2 : w2.ownsRow (b + 1) 5 1 (.slice A2 (n + 1) c2) (n + 1) (l.map bv ++ [bv x])) :
    Wr (w2.setCell ⟨b, 0, none⟩ (.slice A2 (n + 1) c2)) b (l ++ [x]) ∧ Below b w (w2.setCell ⟨b, 0, none⟩ (.slice A2 (n + 1) c2)) := by
  have h1 : Below (b + 1) w w2 := (((Below.refl (b + 1) w).drew).alloc (by exact hbs) o).trans hb2
  refine ⟨Wr.stored (by simp [hn]) hc2 hf2 (by simpa using hown2), (h1.mono (Nat.le_succ b)).setCell (Nat.le_refl b) _⟩

set_option maxRecDepth 20000 in
set_option maxHeartbeats 1000000 in
theorem decimal_last (n b : Nat) (l : List UInt8) (w : World) (h10 : n < 10) (hw : Wr w b l) (hl : l.length ≤ 1000) :
    Calls Tryd.prog 56 #[.pointer (some ⟨b, 0, none⟩), .int .u32 (n : Int)] w fun e w' => e = .returned (.tuple #[]) ∧ Wr w' b (l ++ [hx n]) ∧ Below b w w' := by
  obtain ⟨A, c, hc, hf, hown⟩ := hw
  have hm : (n : Int).tmod 10 = (n : Int) := by rw [Int.tmod_eq_emod_of_nonneg (by omega)]; omega
  have hbs : b < w.heap.size := World.block_lt_of_cell? w _ hc
  have hnew := World.new_ne w _ hc
  have hbs' : b + 1 ≤ (w.drew.alloc (.cells #[.int .u8 ((hx n).toNat : Int)] 5)).heap.size := by simp; omega
  have hdig := run_digit n (by omega)
  obtain ⟨i0, hi, hz0, hz1, hz2⟩ := u8_info
  go_enter Tryd.func56, Tryd.ntmps56
  go_wp2
  go_region_law (
    (refine step_append_shows _ (by rfl) _ _ _ (by rfl) (b + 1) 5 i0 (.int .u8 0) 1 1 Tryd.underlying29 hi hz0 hz1 hz2 rfl (by decide) _ _ _ (by rfl) (by exact hown.alloc _) (w.heap.size + 1) _ 1 1 [bv (hx n)] (by rfl) (by exact bytes_new w.drew [hx n] _ _ _ rfl) (bv_one [hx n]) (by unfold maxLen; omega) (by omega) (by exact hbs') ?_; intro A2 c2 w2 hown2 _ hb2; have hc2 : w2.cell? ⟨b, 0, none⟩ = some (.slice A l.length c) := (hb2.cell (p := ⟨b, 0, none⟩) (by show b < b + 1; omega)).trans (cell_keep (w := w.drew) hc _); have hf2 : w2.frozen? ⟨b, 0, none⟩ = false := (hb2.frozen (p := ⟨b, 0, none⟩) (by show b < b + 1; omega)).trans ((frozen_keep (w := w.drew) hc _).trans hf)))
  all_goals
    go_wp2
    go_end0
    exact ⟨rfl, wr_done rfl hbs hb2 hc2 hf2 hown2⟩

theorem decF_small (f n : Nat) (h : n < 10) : decF f n = [hx n] := by
  cases f with
  | zero => simp [decF, Nat.mod_eq_of_lt h]
  | succ f => simp [decF, Nat.mod_eq_of_lt h, h]

set_option maxRecDepth 20000 in
set_option maxHeartbeats 1000000 in
theorem decimal_any : ∀ (f n b : Nat) (l : List UInt8) (w : World), n < 10 ^ (f + 1) → n < 4294967296 → Wr w b l → l.length + f ≤ 900 →
    Calls Tryd.prog 56 #[.pointer (some ⟨b, 0, none⟩), .int .u32 (n : Int)] w fun e w' => e = .returned (.tuple #[]) ∧ Wr w' b (l ++ decF f n) ∧ Below b w w' := by
  intro f
  induction f with
  | zero =>
    intro n b l w hf10 hn hw hl
    rw [decF_small 0 n (by simpa using hf10)]
    exact decimal_last n b l w (by simpa using hf10) hw (by omega)
  | succ f ih =>
    intro n b l w hf10 hn hw hl
    by_cases h10 : n < 10
    · rw [decF_small _ n h10]
      exact decimal_last n b l w h10 hw (by omega)
    · have hr : decF (f + 1) n = decF f (n / 10) ++ [hx (n % 10)] := by rw [decF, if_neg h10]
      rw [hr, ← List.append_assoc]
      have hlt : n / 10 < 10 ^ (f + 1) := by rw [Nat.div_lt_iff_lt_mul (by omega), ← Nat.pow_succ]; exact hf10
      have h2 := ih (n / 10) b l
      clear ih hr
      have hml : (l ++ decF f (n / 10)).length ≤ 1000 := by
        have := decF_length f (n / 10)
        rw [List.length_append]
        omega
      generalize l ++ decF f (n / 10) = m at *
      have Hlt := Lib.hid hlt
      clear hlt hf10
      go_enter Tryd.func56, Tryd.ntmps56
      go_wp2_with fail
      rw [show (n : Int) / 10 = ((n / 10 : Nat) : Int) by omega]
      refine (h2 _ Hlt.out (by omega) hw (by omega)).mono ?_
      rintro e w1 ⟨rfl, hw1, hb1⟩
      clear hw h2
      clear Hlt hl
      obtain ⟨k, hm, hk, Hk⟩ : ∃ k : Nat, (n : Int).tmod 10 = (k : Int) ∧ k < 16 ∧ Hid (n % 10 = k) := ⟨n % 10, by rw [Int.tmod_eq_emod_of_nonneg (by omega)]; omega, by omega, Lib.hid rfl⟩
      obtain ⟨A, c, hc, hf, hown⟩ := hw1
      have hbs : b < w1.heap.size := World.block_lt_of_cell? w1 _ hc
      have hnew := World.new_ne w1 _ hc
      have hbs' : b + 1 ≤ (w1.drew.alloc (.cells #[.int .u8 ((hx k).toNat : Int)] 5)).heap.size := by simp; omega
      have hdig := run_digit k hk
      obtain ⟨i0, hi, hz0, hz1, hz2⟩ := u8_info
      go_wp2
      go_region_law (
        (refine step_append_shows _ (by rfl) _ _ _ (by rfl) (b + 1) 5 i0 (.int .u8 0) 1 1 Tryd.underlying29 hi hz0 hz1 hz2 rfl (by decide) _ _ _ (by rfl) (by exact hown.alloc _) (w1.heap.size + 1) _ 1 1 [bv (hx k)] (by rfl) (by exact bytes_new w1.drew [hx k] _ _ _ rfl) (bv_one [hx k]) (by unfold maxLen; omega) (by omega) (by exact hbs') ?_; intro A2 c2 w2 hown2 _ hb2; have hc2 : w2.cell? ⟨b, 0, none⟩ = some (.slice A m.length c) := (hb2.cell (p := ⟨b, 0, none⟩) (by show b < b + 1; omega)).trans (cell_keep (w := w1.drew) hc _); have hf2 : w2.frozen? ⟨b, 0, none⟩ = false := (hb2.frozen (p := ⟨b, 0, none⟩) (by show b < b + 1; omega)).trans ((frozen_keep (w := w1.drew) hc _).trans hf)))
      all_goals
        go_wp2
        go_end0
        rw [Hk.out]
        have hdone := wr_done rfl hbs hb2 hc2 hf2 hown2
        exact ⟨rfl, hdone.1, hb1.trans hdone.2⟩
end Go.Proofs.YtedoajiapicpnaaDoor
