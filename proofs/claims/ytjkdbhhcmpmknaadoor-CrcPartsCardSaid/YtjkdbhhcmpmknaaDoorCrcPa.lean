/-
  Layer 9: the walk of CrcParts.
-/
import Derived.Test.YtjkdbhhcmpmknaaDoorCrcP
namespace Go.Proofs.YtjkdbhhcmpmknaaDoor
open Go.RowKit
attribute [local go_sem ↓] Go.wp_at_zero Go.wp_at_succ

theorem take_split (s : Nat) (b : List UInt8) : Crc.take s b = Crc.stN (8 * b.length) s ^^^ Crc.take 0 b := by
  have h := take_xor (List.replicate b.length 0) b s 0 (by simp)
  rw [take_zeros, Nat.xor_zero] at h
  have hz : ∀ l : List UInt8, List.zipWith (· ^^^ ·) (List.replicate l.length 0) l = l := by
    intro l
    induction l with
    | nil => rfl
    | cons x l ih =>
      show (0 ^^^ x) :: List.zipWith (· ^^^ ·) (List.replicate l.length 0) l = _
      rw [ih, UInt8.zero_xor]
  rw [hz] at h
  exact h.symm
theorem more_parts (a b : List UInt8) : Crc.more (Crc.more 0 a) b = Crc.more 0 (a ++ b) := by
  unfold Crc.more
  rw [Crc.take_append]
  have h := Crc.take_lt a (s := 4294967295 - 0) (by decide)
  rw [show 4294967295 - (4294967295 - Crc.take (4294967295 - 0) a) = Crc.take (4294967295 - 0) a by omega]
theorem both_parts (a b : List UInt8) : Crc.stN (8 * b.length) (Crc.more 0 a) ^^^ Crc.more 0 b = Crc.more 0 (a ++ b) := by
  rw [more_comp, more_comp, more_comp, Crc.take_append, take_split (Crc.take 4294967295 a) b, take_split 4294967295 b, Crc.stN_xor]
  have key : ∀ F S T U : Nat, (S ^^^ T) ^^^ (F ^^^ (S ^^^ U)) = F ^^^ (T ^^^ U) := by
    intro F S T U
    rw [Nat.xor_comm F (S ^^^ U), ← Nat.xor_assoc, Crc.xor_swap, Nat.xor_self, Nat.zero_xor, Nat.xor_comm _ F]
  exact key _ _ _ _
theorem halves (N s : Nat) : (Crc.stN (8 * (N - N / 2)) (Crc.stN (8 * (N / 2)) s) ^^^ 0) = (Crc.stN (8 * N) s ^^^ 0) := by
  rw [Nat.xor_zero, Nat.xor_zero, ← Crc.stN_add]
  congr 1
  omega

theorem half64 (N : Nat) (h : N < 9223372036854775808) : wrap64 ((N : Int) / 2) = ((N / 2 : Nat) : Int) := by
  unfold wrap64
  omega
theorem rest64 (N : Nat) (h : N < 9223372036854775808) : wrap64 ((N : Int) - (N : Int) / 2) = ((N - N / 2 : Nat) : Int) := by
  unfold wrap64
  omega

set_option maxRecDepth 100000 in
set_option maxHeartbeats 2000000 in
theorem crcParts_walk (w : World) (A : Option Addr) (n c : Nat) (l : List UInt8) (h : Bytes w w.heap.size A n l) (hA : A = none → c = 0) (hn : n ≤ c) (hc : c ≤ maxLen)
    (A' : Option Addr) (n' c' : Nat) (l' : List UInt8) (h' : Bytes w w.heap.size A' n' l') (hA' : A' = none → c' = 0) (hn' : n' ≤ c') (hc' : c' ≤ maxLen)
    (k : Int) (wk : (Lit.int .i64 k).wf = true) (htab : Tab w) :
    Calls Tryd.prog 6 #[.slice A n c, .slice A' n' c', .int .i64 k] w fun e w' => e = .returned (.bool true) ∧ Below w.heap.size w w' := by
  obtain ⟨k0, k1⟩ := wf_i64 wk
  have Hk1 := Lib.hid k1
  clear k0 k1 wk
  go_enter Tryd.func6, Tryd.ntmps6
  go_wp2_with fail
  refine (wakes_any w htab).mono ?_
  rintro e w1 ⟨rfl, hb1⟩
  have s1 := hb1.size
  go_wp2_with fail
  refine (few_any A n c w.heap.size l _ (h.below hb1) hA s1 hn hc).mono ?_
  rintro e w2 ⟨A2, n2, c2, rfl, hown2, hb2⟩
  have s2 := hb2.size
  have h12 := hb1.trans (hb2.mono s1)
  have hl2 : Bytes w2 w2.heap.size A2 n2 (l.take 400) := Bytes.own hown2
  obtain ⟨hlen2, hn2, hc2⟩ := gives_len hown2
  have hle2 : n2 ≤ 400 := by rw [hlen2, List.length_take]; omega
  clear hown2 hlen2
  go_wp2_with fail
  refine (few_any A' n' c' w.heap.size l' _ (h'.below h12) hA' (by omega) hn' hc').mono ?_
  rintro e w3 ⟨A3, n3, c3, rfl, hown3, hb3⟩
  have s3 := hb3.size
  have h13 := h12.trans (hb3.mono (by omega))
  have hlb : Bytes w3 w3.heap.size A3 n3 (l'.take 400) := Bytes.own hown3
  obtain ⟨hlen3, hn3, hc3⟩ := gives_len hown3
  have hle3 : n3 ≤ 400 := by rw [hlen3, List.length_take]; omega
  have hla := hl2.up hb3
  clear hown3 hlen3
  obtain ⟨a, Ha⟩ : ∃ a, Hid (a = l.take 400) := ⟨_, Lib.hid rfl⟩
  obtain ⟨b, Hb⟩ : ∃ b, Hid (b = l'.take 400) := ⟨_, Lib.hid rfl⟩
  rw [← Ha.out] at hla
  rw [← Hb.out] at hlb
  have HbL := Lib.hid hlb.len
  have hm2 : n2 ≤ maxLen := by omega
  have hm3 : n3 ≤ maxLen := by omega
  have t3 := htab.below h13 htab.lt
  clear hl2
  go_wp2_with fail
  have hbc := (Below.refl w3.heap.size w3).alloc (Nat.le_refl _) (.cells #[.slice A2 n2 c2, .slice A3 n3 c3] 23)
  have hg0 : (w3.alloc (.cells #[.slice A2 n2 c2, .slice A3 n3 c3] 23)).cell? ⟨w3.heap.size, 0, none⟩ = some (.slice A2 n2 c2) := by rw [cell_of_row _ _ _ _ _ _ (heap_alloc_new w3 _)]; rfl
  have hg1 : (w3.alloc (.cells #[.slice A2 n2 c2, .slice A3 n3 c3] 23)).cell? ⟨w3.heap.size, 1, none⟩ = some (.slice A3 n3 c3) := by rw [cell_of_row _ _ _ _ _ _ (heap_alloc_new w3 _)]; rfl
  refine (concat_any w3.heap.size A2 A3 n2 n3 c2 c3 a b _ (hla.up hbc) (hlb.up hbc) hle2 hle3 hg0 hg1).mono ?_
  rintro e w4 ⟨A4, n4, c4, rfl, hown4, hb4'⟩
  have hb4 : Below w3.heap.size w3 w4 := hbc.trans (hb4'.mono hbc.size)
  have s4 := hb4.size
  have hl4 : Bytes w4 w4.heap.size A4 n4 (a ++ b) := Bytes.own hown4
  obtain ⟨hlen4, hn4, hc4⟩ := gives_len hown4
  clear hown4 hlen4 hg0 hg1 hbc hb4'
  go_wp2_with fail
  refine (sum_top A4 n4 c4 (a ++ b) _ (t3.below hb4 t3.lt) hl4 (by omega)).mono ?_
  rintro e w5 ⟨rfl, hb5'⟩
  have hb5 := hb4.trans (hb5'.mono s4)
  obtain ⟨all, Hall, hall⟩ : ∃ all, Hid (all = Crc.more 0 (a ++ b)) ∧ all < 4294967296 := ⟨_, Lib.hid rfl, Crc.more_lt _ _⟩
  rw [← Hall.out]
  have s5 := hb5.size
  go_wp2_with fail
  refine (sum_top A2 n2 c2 a _ (t3.below hb5 t3.lt) (hla.up hb5) hm2).mono ?_
  rintro e w6 ⟨rfl, hb6'⟩
  have hb6 := hb5.trans (hb6'.mono s5)
  have s6 := hb6.size
  go_wp2_with fail
  refine (more_any A3 n3 c3 w3.heap.size b (Crc.more 0 a) _ (t3.below hb6 t3.lt) (hlb.below hb6) s6 (Crc.more_lt _ _) hm3).mono ?_
  rintro e w7 ⟨rfl, hb7'⟩
  rw [more_parts, ← Hall.out]
  have hb7 := hb6.trans (hb7'.mono s6)
  have s7 := hb7.size
  have hne : ((all : Int) != (all : Int)) = false := by simp
  go_wp2_with fail
  refine (sum_top A2 n2 c2 a _ (t3.below hb7 t3.lt) (hla.up hb7) hm2).mono ?_
  rintro e w8 ⟨rfl, hb8'⟩
  have hb8 := hb7.trans (hb8'.mono s7)
  have s8 := hb8.size
  go_wp2_with fail
  refine (sum_top A3 n3 c3 b _ (t3.below hb8 t3.lt) (hlb.up hb8) hm3).mono ?_
  rintro e w9 ⟨rfl, hb9'⟩
  have hb9 := hb8.trans (hb9'.mono s8)
  have s9 := hb9.size
  go_wp2_with fail
  refine (both_any (Crc.more 0 a) (Crc.more 0 b) n3 _ (Crc.more_lt _ _) (Crc.more_lt _ _) (by omega)).mono ?_
  rintro e w10 ⟨rfl, hb10'⟩
  rw [← HbL.out, both_parts, ← Hall.out]
  have hb10 := hb9.trans (hb10'.mono s9)
  have s10 := hb10.size
  by_cases hk : 0 ≤ k
  · obtain ⟨N, rfl⟩ := Int.eq_ofNat_of_zero_le hk
    have hNlt : Hid (N < 9223372036854775808) := Lib.hid (by have := Hk1.out; omega)
    clear Hk1
    go_wp2_with fail
    rw [half64 N hNlt.out]
    refine (both_any all 0 (N / 2) _ hall (by decide) (by have := hNlt.out; omega)).mono ?_
    rintro e w11 ⟨rfl, hb11'⟩
    have hb11 := hb10.trans (hb11'.mono s10)
    have s11 := hb11.size
    have hx1 := Crc.stN_lt (8 * (N / 2)) hall
    go_wp2_with fail
    rw [rest64 N hNlt.out]
    refine (both_any _ 0 (N - N / 2) _ hx1 (by decide) (by have := hNlt.out; omega)).mono ?_
    rintro e w12 ⟨rfl, hb12'⟩
    rw [halves]
    have hb12 := hb11.trans (hb12'.mono s11)
    have s12 := hb12.size
    go_wp2_with fail
    refine (both_any all 0 N _ hall (by decide) hNlt.out).mono ?_
    rintro e w13 ⟨rfl, hb13'⟩
    have hb13 := hb12.trans (hb13'.mono s12)
    have s13 := hb13.size
    go_wp2_with fail
    refine (both_any all 0 0 _ hall (by decide) (by decide)).mono ?_
    rintro e w14 ⟨rfl, hb14'⟩
    rw [show (Crc.stN (8 * 0) all ^^^ 0) = all from Nat.xor_zero all]
    go_wp2
    go_ret
    exact ⟨rfl, (h13.trans (hb13.mono (by omega))).trans (hb14'.mono (by omega))⟩
  · have hk2 : k < 0 := by omega
    clear Hk1 hk
    go_wp2_with fail
    refine (both_any all 0 0 _ hall (by decide) (by decide)).mono ?_
    rintro e w11 ⟨rfl, hb11'⟩
    rw [show (Crc.stN (8 * 0) all ^^^ 0) = all from Nat.xor_zero all]
    have hb11 := hb10.trans (hb11'.mono s10)
    have s11 := hb11.size
    go_wp2_with fail
    refine (both_any all 0 0 _ hall (by decide) (by decide)).mono ?_
    rintro e w12 ⟨rfl, hb12'⟩
    rw [show (Crc.stN (8 * 0) all ^^^ 0) = all from Nat.xor_zero all]
    have hb12 := hb11.trans (hb12'.mono s11)
    have s12 := hb12.size
    go_wp2_with fail
    refine (both_any all 0 0 _ hall (by decide) (by decide)).mono ?_
    rintro e w13 ⟨rfl, hb13'⟩
    rw [show (Crc.stN (8 * 0) all ^^^ 0) = all from Nat.xor_zero all]
    have hb13 := hb12.trans (hb13'.mono s12)
    have s13 := hb13.size
    go_wp2_with fail
    refine (both_any all 0 0 _ hall (by decide) (by decide)).mono ?_
    rintro e w14 ⟨rfl, hb14'⟩
    rw [show (Crc.stN (8 * 0) all ^^^ 0) = all from Nat.xor_zero all]
    go_wp2
    go_ret
    exact ⟨rfl, (h13.trans (hb13.mono (by omega))).trans (hb14'.mono (by omega))⟩
end Go.Proofs.YtjkdbhhcmpmknaaDoor
