/-
  Layer 1, the reference: Starts; what Begin makes of k bytes, plain.
-/
import Derived.Test.YtgnialemiefeeaaDoorUtfR
import Derived.Test.YtgnialemiefeeaaDoorEq
namespace Go.Proofs.YtgnialemiefeeaaDoor
open Go.RowKit

def startsL (l pre : List UInt8) : Bool := decide (pre = l.take pre.length)
set_option maxRecDepth 20000 in
set_option maxHeartbeats 1000000 in
theorem refStarts_any (A1 A2 : Option Addr) (n1 c1 n2 c2 : Nat) (l1 l2 : List UInt8) (B1 B2 : Nat) (w : World) (h1 : Bytes w B1 A1 n1 l1) (h2 : Bytes w B2 A2 n2 l2) (hm1 : n1 ≤ maxLen) :
    Calls Tryd.prog 55 #[.slice A1 n1 c1, .slice A2 n2 c2] w fun e w' => e = .returned (.bool (startsL l1 l2)) ∧ ∃ k, w' = w.drewN k := by
  unfold maxLen at hm1
  by_cases hn : n2 ≤ n1
  · have hn' : ¬ (n1 : Int) < (n2 : Int) := by omega
    have hn2 : (n2 : Int) ≤ (n1 : Int) := by omega
    go_enter Tryd.func55, Tryd.ntmps55
    go_wp2
    go_loopw [5] (fun i wr => ∃ k : Nat, k ≤ n2 ∧ i = .int .i64 k ∧ l1.take k = l2.take k ∧ ∃ m, wr = w.drewN m) (fun i _ => n2 - (intOf i).toNat)
    case atStart => exact ⟨0, Nat.zero_le _, rfl, rfl, 0, rfl⟩
    case round =>
      obtain ⟨k, hk, rfl, ht, m, rfl⟩ := hrel
      by_cases hlt : k < n2
      · obtain ⟨b1, o1, rfl, _, hc1⟩ := h1.cell (k := k) (by omega)
        obtain ⟨b2, o2, rfl, _, hc2⟩ := h2.cell hlt
        have hl1 : k < l1.length := by have := h1.len; omega
        have hl2 : k < l2.length := by have := h2.len; omega
        have t1 : l1.take (k + 1) = l1.take k ++ [l1.getD k 0] := take_snoc l1 k hl1
        have t2 : l2.take (k + 1) = l2.take k ++ [l2.getD k 0] := take_snoc l2 k hl2
        have g1 := at8_lo l1 k
        have g2 := at8_hi l1 k
        have g3 := at8_lo l2 k
        have g4 := at8_hi l2 k
        have hk1 : (k : Int) < (n1 : Int) := by omega
        have hk2 : (k : Int) < (n2 : Int) := by omega
        by_cases hx : at8 l1 k = at8 l2 k
        · have hb : (at8 l1 k != at8 l2 k) = false := by rw [hx]; simp
          have ht' := Lib.hid (show l1.take (k + 1) = l2.take (k + 1) by rw [t1, t2, ht, at8_inj hx])
          clear ht hx t1 t2
          go_wp2
          go_quiet (fail)
          go_wp2
          go_roundw
          case rel => exact ⟨k + 1, by omega, by go_num, ht'.out, _, rfl⟩
          case measure => simp [intOf]; omega
        · have hb : (at8 l1 k != at8 l2 k) = true := bne_iff_ne.2 hx
          have hs := Lib.hid (show startsL l1 l2 = false by
            unfold startsL
            apply decide_eq_false
            intro h
            apply hx
            have h' : l2.getD k 0 = l1.getD k 0 := by
              have h0 : l2.getD k 0 = (l1.take l2.length).getD k 0 := by rw [← h]
              rw [h0, List.getD_eq_getElem?_getD, List.getElem?_take, if_pos (by omega), ← List.getD_eq_getElem?_getD]
            unfold at8
            rw [h'])
          clear ht hx t1 t2
          go_wp2
          go_quiet (fail)
          go_wp2
          go_ret
          exact ⟨by rw [hs.out]; rfl, _, World.drewN_drewN _ _ _⟩
      · have hk' : k = n2 := by omega
        have hs := Lib.hid (show startsL l1 l2 = true by
          unfold startsL
          apply decide_eq_true
          have e2 := h2.len
          rw [hk', List.take_of_length_le (l := l2) (by omega)] at ht
          rw [e2]
          exact ht.symm)
        clear hk' ht
        go_wp2
        go_ret
        exact ⟨by rw [hs.out]; rfl, _, rfl⟩
  · have hn' : (n1 : Int) < (n2 : Int) := by omega
    have hs : startsL l1 l2 = false := by
      unfold startsL
      apply decide_eq_false
      intro h
      have := congrArg List.length h
      have e1 := h1.len
      have e2 := h2.len
      rw [List.length_take] at this
      omega
    rw [hs]
    go_enter Tryd.func55, Tryd.ntmps55
    go_wp2
    go_ret
    exact ⟨rfl, 0, rfl⟩

/-- The modulus of the first of k bytes. -/
def mod1 : Nat → Nat | 2 => 32 | 3 => 16 | 4 => 8 | _ => 1000
/-- The number that j of k bytes give. -/
def partB (l : List UInt8) (k : Nat) : Nat → Nat
  | 0 => 0
  | 1 => if k = 1 then (l.getD 0 0).toNat else (l.getD 0 0).toNat % mod1 k
  | j + 2 => partB l k (j + 1) * 64 + (l.getD (j + 1) 0).toNat % 64
theorem partB_succ (l : List UInt8) (k j : Nat) (h : 1 ≤ j) : partB l k (j + 1) = partB l k j * 64 + (l.getD j 0).toNat % 64 := by
  match j, h with
  | j + 1, _ => rfl
theorem partB_lt (l : List UInt8) (k j : Nat) (hj : j ≤ 4) : partB l k j < 300000000 := by
  have p0 : partB l k 0 = 0 := rfl
  have p1 : partB l k 1 < 1000 := by
    have h := (l.getD 0 0).toNat_lt
    show (if k = 1 then (l.getD 0 0).toNat else (l.getD 0 0).toNat % mod1 k) < 1000
    split
    · omega
    · have := Nat.mod_le (l.getD 0 0).toNat (mod1 k)
      omega
  have p2 := partB_succ l k 1 (by omega)
  have p3 := partB_succ l k 2 (by omega)
  have p4 := partB_succ l k 3 (by omega)
  rcases (show j = 0 ∨ j = 1 ∨ j = 2 ∨ j = 3 ∨ j = 4 by omega) with rfl | rfl | rfl | rfl | rfl
  · omega
  · omega
  · simp only [Nat.reduceAdd] at p2; omega
  · simp only [Nat.reduceAdd] at p2 p3; omega
  · simp only [Nat.reduceAdd] at p2 p3 p4; omega
/-- Do k bytes begin with a code point of theirs? -/
def okK (l : List UInt8) (k : Nat) : Prop := isCp (partB l k k) = true ∧ (encL (partB l k k)).length = k ∧ startsL l (encL (partB l k k)) = true
theorem okK_dec {l : List UInt8} {k : Nat} (h : okK l k) : decL l = (partB l k k, k) := by
  obtain ⟨h1, h2, h3⟩ := h
  have h4 := of_decide_eq_true h3
  have h5 : l = encL (partB l k k) ++ l.drop k := by
    rw [h2] at h4
    conv => lhs; rw [← List.take_append_drop k l]
    rw [← h4]
  generalize partB l k k = c at *
  have := dec_enc c h1 (l.drop k)
  rw [← h5, h2] at this
  exact this
theorem dec_okK {l : List UInt8} {k : Nat} (h : (decL l).2 = k) (hk : k ≠ 0) : okK l k := by
  obtain ⟨hc, r, e, hn⟩ := enc_dec (l := l) (c := (decL l).1) (n := k) (by rw [← h]) hk
  generalize (decL l).1 = c at *
  have hcp := (isCp_iff _).1 hc
  have key : partB l k k = c := by
    rw [encL_len] at hn
    by_cases h1 : c < 128
    · rw [if_pos h1] at hn
      subst hn
      rw [e]
      unfold encL
      rw [if_pos h1]
      show (b8 c).toNat = c
      exact b8_toNat c (by omega)
    · rw [if_neg h1] at hn
      by_cases h2 : c < 2048
      · rw [if_pos h2] at hn
        subst hn
        rw [e]
        unfold encL
        rw [if_neg h1, if_pos h2]
        show (b8 _).toNat % 32 * 64 + (b8 _).toNat % 64 = c
        rw [b8_toNat (192 + c / 64) (by omega), b8_toNat (128 + c % 64) (by omega)]
        omega
      · rw [if_neg h2] at hn
        by_cases h3 : c < 65536
        · rw [if_pos h3] at hn
          subst hn
          rw [e]
          unfold encL
          rw [if_neg h1, if_neg h2, if_pos h3]
          show ((b8 _).toNat % 16 * 64 + (b8 _).toNat % 64) * 64 + (b8 _).toNat % 64 = c
          rw [b8_toNat (224 + c / 4096) (by omega), b8_toNat (128 + c / 64 % 64) (by omega), b8_toNat (128 + c % 64) (by omega)]
          omega
        · rw [if_neg h3] at hn
          subst hn
          rw [e]
          unfold encL
          rw [if_neg h1, if_neg h2, if_neg h3]
          show (((b8 _).toNat % 8 * 64 + (b8 _).toNat % 64) * 64 + (b8 _).toNat % 64) * 64 + (b8 _).toNat % 64 = c
          rw [b8_toNat (240 + c / 262144) (by omega), b8_toNat (128 + c / 4096 % 64) (by omega), b8_toNat (128 + c / 64 % 64) (by omega), b8_toNat (128 + c % 64) (by omega)]
          omega
  refine ⟨by rw [key]; exact hc, by rw [key]; exact hn.symm, ?_⟩
  rw [key]
  exact decide_eq_true (by rw [e]; simp)
end Go.Proofs.YtgnialemiefeeaaDoor
