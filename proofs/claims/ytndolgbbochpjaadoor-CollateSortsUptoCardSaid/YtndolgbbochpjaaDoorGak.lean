import Derived.Test.YtndolgbbochpjaaDoorGaj
import Derived.Test.YtndolgbbochpjaaDoorGab
import Derived.BigRegion
import Derived.Test.YtndolgbbochpjaaDoorGae
import Derived.Test.YtndolgbbochpjaaDoorGaa
import Derived.Test.YtndolgbbochpjaaDoorGac
import Derived.Laws.IdiomStrings
import Derived.Test.YtndolgbbochpjaaDoorGai
import Derived.Test.YtndolgbbochpjaaDoorRows
import Derived.Deep.Modes
import Derived.Test.YtndolgbbochpjaaDoorGag
import Derived.Deep.QuietTactic
/-
  Layer 1, the reference: Starts; what Begin makes of k bytes, plain.
-/
namespace Go.Proofs.YtndolgbbochpjaaDoor
open Go.RowKit

def startsL (l pre : List UInt8) : Bool := decide (pre = l.take pre.length)
set_option maxRecDepth 20000 in
set_option maxHeartbeats 1000000 in
theorem refStarts_any (A1 A2 : Option Addr) (n1 c1 n2 c2 : Nat) (l1 l2 : List UInt8) (B1 B2 : Nat) (w : World) (h1 : Bytes w B1 A1 n1 l1) (h2 : Bytes w B2 A2 n2 l2) (hm1 : n1 ≤ maxLen) :
    Calls Tryd.prog 83 #[.slice A1 n1 c1, .slice A2 n2 c2] w fun e w' => e = .returned (.bool (startsL l1 l2)) ∧ ∃ k, w' = w.drewN k := by
  unfold maxLen at hm1
  by_cases hn : n2 ≤ n1
  · have hn' : ¬ (n1 : Int) < (n2 : Int) := by omega
    have hn2 : (n2 : Int) ≤ (n1 : Int) := by omega
    go_enter Tryd.func83, Tryd.ntmps83
    go_wp2
    go_loopw [5] (fun i wr => ∃ k : Nat, k ≤ n2 ∧ i = .int .i64 k ∧ l1.take k = l2.take k ∧ ∃ m, wr = w.drewN m) (fun i _ => n2 - (intOf i).toNat)
    case atStart => exact ⟨0, Nat.zero_le _, rfl, rfl, 0, rfl⟩
    case round =>
      obtain ⟨k, hk, rfl, ht, m, rfl⟩ := hrel
      by_cases hlt : k < n2
      · obtain ⟨b1, o1, rfl, _, hc1⟩ := h1.cell (k := k) (by omega)
        obtain ⟨b2, o2, rfl, _, hc2⟩ := h2.cell hlt
        have hl1 : k < l1.length := by have := h1.len; omega
        have hl2 : k < l2.length := by have := h2.len; omega
        have t1 : l1.take (k + 1) = l1.take k ++ [l1.getD k 0] := take_snoc l1 k hl1
        have t2 : l2.take (k + 1) = l2.take k ++ [l2.getD k 0] := take_snoc l2 k hl2
        have g1 := at8_lo l1 k
        have g2 := at8_hi l1 k
        have g3 := at8_lo l2 k
        have g4 := at8_hi l2 k
        have hk1 : (k : Int) < (n1 : Int) := by omega
        have hk2 : (k : Int) < (n2 : Int) := by omega
        by_cases hx : at8 l1 k = at8 l2 k
        · have hb : (at8 l1 k != at8 l2 k) = false := by rw [hx]; simp
          have ht' := Lib.hid (show l1.take (k + 1) = l2.take (k + 1) by rw [t1, t2, ht, at8_inj hx])
          clear ht hx t1 t2
          go_wp2
          go_quiet (fail)
          go_wp2
          go_roundw
          case rel => exact ⟨k + 1, by omega, by go_num, ht'.out, _, rfl⟩
          case measure => simp [intOf]; omega
        · have hb : (at8 l1 k != at8 l2 k) = true := bne_iff_ne.2 hx
          have hs := Lib.hid (show startsL l1 l2 = false by
            unfold startsL
            apply decide_eq_false
            intro h
            apply hx
            have h' : l2.getD k 0 = l1.getD k 0 := by
              have h0 : l2.getD k 0 = (l1.take l2.length).getD k 0 := by rw [← h]
              rw [h0, List.getD_eq_getElem?_getD, List.getElem?_take, if_pos (by omega), ← List.getD_eq_getElem?_getD]
            unfold at8
            rw [h'])
          clear ht hx t1 t2
          go_wp2
          go_quiet (fail)
          go_wp2
          go_ret
          exact ⟨by rw [hs.out]; rfl, _, World.drewN_drewN _ _ _⟩
      · have hk' : k = n2 := by omega
        have hs := Lib.hid (show startsL l1 l2 = true by
          unfold startsL
          apply decide_eq_true
          have e2 := h2.len
          rw [hk', List.take_of_length_le (l := l2) (by omega)] at ht
          rw [e2]
          exact ht.symm)
        clear hk' ht
        go_wp2
        go_ret
        exact ⟨by rw [hs.out]; rfl, _, rfl⟩
  · have hn' : (n1 : Int) < (n2 : Int) := by omega
    have hs : startsL l1 l2 = false := by
      unfold startsL
      apply decide_eq_false
      intro h
      have := congrArg List.length h
      have e1 := h1.len
      have e2 := h2.len
      rw [List.length_take] at this
      omega
    rw [hs]
    go_enter Tryd.func83, Tryd.ntmps83
    go_wp2
    go_ret
    exact ⟨rfl, 0, rfl⟩

/-- The modulus of the first of k bytes. -/
def mod1 : Nat → Nat | 2 => 32 | 3 => 16 | 4 => 8 | _ => 1000
/-- The number that j of k bytes give. -/
def partB (l : List UInt8) (k : Nat) : Nat → Nat
  | 0 => 0
  | 1 => if k = 1 then (l.getD 0 0).toNat else (l.getD 0 0).toNat % mod1 k
  | j + 2 => partB l k (j + 1) * 64 + (l.getD (j + 1) 0).toNat % 64
theorem partB_succ (l : List UInt8) (k j : Nat) (h : 1 ≤ j) : partB l k (j + 1) = partB l k j * 64 + (l.getD j 0).toNat % 64 := by
  match j, h with
  | j + 1, _ => rfl
theorem partB_lt (l : List UInt8) (k j : Nat) (hj : j ≤ 4) : partB l k j < 300000000 := by
  have p0 : partB l k 0 = 0 := rfl
  have p1 : partB l k 1 < 1000 := by
    have h := (l.getD 0 0).toNat_lt
    show (if k = 1 then (l.getD 0 0).toNat else (l.getD 0 0).toNat % mod1 k) < 1000
    split
    · omega
    · have := Nat.mod_le (l.getD 0 0).toNat (mod1 k)
      omega
  have p2 := partB_succ l k 1 (by omega)
  have p3 := partB_succ l k 2 (by omega)
  have p4 := partB_succ l k 3 (by omega)
  rcases (show j = 0 ∨ j = 1 ∨ j = 2 ∨ j = 3 ∨ j = 4 by omega) with rfl | rfl | rfl | rfl | rfl
  · omega
  · omega
  · simp only [Nat.reduceAdd] at p2; omega
  · simp only [Nat.reduceAdd] at p2 p3; omega
  · simp only [Nat.reduceAdd] at p2 p3 p4; omega
/-- Do k bytes begin with a code point of theirs? -/
def okK (l : List UInt8) (k : Nat) : Prop := isCp (partB l k k) = true ∧ (encL (partB l k k)).length = k ∧ startsL l (encL (partB l k k)) = true
theorem okK_dec {l : List UInt8} {k : Nat} (h : okK l k) : decL l = (partB l k k, k) := by
  obtain ⟨h1, h2, h3⟩ := h
  have h4 := of_decide_eq_true h3
  have h5 : l = encL (partB l k k) ++ l.drop k := by
    rw [h2] at h4
    conv => lhs; rw [← List.take_append_drop k l]
    rw [← h4]
  generalize partB l k k = c at *
  have := dec_enc c h1 (l.drop k)
  rw [← h5, h2] at this
  exact this
theorem dec_okK {l : List UInt8} {k : Nat} (h : (decL l).2 = k) (hk : k ≠ 0) : okK l k := by
  obtain ⟨hc, r, e, hn⟩ := enc_dec (l := l) (c := (decL l).1) (n := k) (by rw [← h]) hk
  generalize (decL l).1 = c at *
  have hcp := (isCp_iff _).1 hc
  have key : partB l k k = c := by
    rw [encL_len] at hn
    by_cases h1 : c < 128
    · rw [if_pos h1] at hn
      subst hn
      rw [e]
      unfold encL
      rw [if_pos h1]
      show (b8 c).toNat = c
      exact b8_toNat c (by omega)
    · rw [if_neg h1] at hn
      by_cases h2 : c < 2048
      · rw [if_pos h2] at hn
        subst hn
        rw [e]
        unfold encL
        rw [if_neg h1, if_pos h2]
        show (b8 _).toNat % 32 * 64 + (b8 _).toNat % 64 = c
        rw [b8_toNat (192 + c / 64) (by omega), b8_toNat (128 + c % 64) (by omega)]
        omega
      · rw [if_neg h2] at hn
        by_cases h3 : c < 65536
        · rw [if_pos h3] at hn
          subst hn
          rw [e]
          unfold encL
          rw [if_neg h1, if_neg h2, if_pos h3]
          show ((b8 _).toNat % 16 * 64 + (b8 _).toNat % 64) * 64 + (b8 _).toNat % 64 = c
          rw [b8_toNat (224 + c / 4096) (by omega), b8_toNat (128 + c / 64 % 64) (by omega), b8_toNat (128 + c % 64) (by omega)]
          omega
        · rw [if_neg h3] at hn
          subst hn
          rw [e]
          unfold encL
          rw [if_neg h1, if_neg h2, if_neg h3]
          show (((b8 _).toNat % 8 * 64 + (b8 _).toNat % 64) * 64 + (b8 _).toNat % 64) * 64 + (b8 _).toNat % 64 = c
          rw [b8_toNat (240 + c / 262144) (by omega), b8_toNat (128 + c / 4096 % 64) (by omega), b8_toNat (128 + c / 64 % 64) (by omega), b8_toNat (128 + c % 64) (by omega)]
          omega
  refine ⟨by rw [key]; exact hc, by rw [key]; exact hn.symm, ?_⟩
  rw [key]
  exact decide_eq_true (by rw [e]; simp)
end Go.Proofs.YtndolgbbochpjaaDoor
/-
  Layer 1, the reference: Begin.
-/
namespace Go.Proofs.YtndolgbbochpjaaDoor
open Go.RowKit

theorem rem64 (x : Nat) (h : x < 256) : Int.tmod (x : Int) 64 = ((x % 64 : Nat) : Int) := by
  rw [Int.tmod_eq_emod_of_nonneg (by omega)]; omega
set_option maxRecDepth 20000 in
set_option maxHeartbeats 4000000 in
theorem begin_any (A : Option Addr) (m c0 B : Nat) (l : List UInt8) (w : World) (hl : Bytes w B A m l) (hB : B ≤ w.heap.size) (hm : m ≤ maxLen) :
    Calls Tryd.prog 79 #[.slice A m c0] w fun e w' => e = .returned (.tuple #[.int .i64 ((decL l).1 : Int), .int .i64 ((decL l).2 : Int)]) ∧ Below w.heap.size w w' := by
  have Hlen := Lib.hid hl.len
  have Hm := Lib.hid hm
  unfold maxLen at hm
  go_enter Tryd.func79, Tryd.ntmps79
  go_wp2
  go_loopw [4] (fun i wr => ∃ (k : Nat) (x : Int), x = (k : Int) ∧ 1 ≤ k ∧ k ≤ 5 ∧ i = .int .i64 x ∧ (∀ q, 1 ≤ q → q < k → q ≤ m → ¬ okK l q) ∧ Below w.heap.size w wr) (fun i _ => 5 - (intOf i).toNat)
  case atStart => exact ⟨1, 1, by omega, by omega, by omega, rfl, fun q h1 h2 => by omega, Below.refl _ _⟩
  case round =>
    obtain ⟨k, x, hxk, hk1, hk5, rfl, hno, hbr⟩ := hrel
    by_cases hin : k ≤ 4 ∧ k ≤ m
    · obtain ⟨hk4, hkm⟩ := hin
      obtain ⟨b, off, rfl, hbB, -⟩ := hl.cell (k := 0) (by omega)
      have hcell : ∀ (W : World) (j : Nat), Below w.heap.size w W → j < m → W.cell? ⟨b, off + j, none⟩ = some (.int .u8 (at8 l j)) := fun W j h hj => by
        obtain ⟨b', off', e, _, hc⟩ := (hl.below (h.mono hB)).cell hj
        injection e with e
        injection e with e1 e2
        subst e1; subst e2
        exact hc
      have hkm' : x ≤ (m : Int) := by omega
      have hm0 : (0 : Int) < (m : Int) := by omega
      have g0 := at8_lo l 0
      have g1 := at8_hi l 0
      have Hno := Lib.hid hno
      have HP := Lib.hid (fun j (hj : j ≤ 4) => partB_lt l k j hj)
      have c0' : wr.cell? ⟨b, off, none⟩ = some (.int .u8 (at8 l 0)) := hcell wr 0 hbr (by omega)
      clear hno
      rcases (show k = 1 ∨ k = 2 ∨ k = 3 ∨ k = 4 by omega) with rfl | rfl | rfl | rfl
      · obtain rfl : x = 1 := by omega
        clear hxk
        have hm0' : 0 < m := by omega
        have ht : at8 l 0 = ((partB l 1 1 : Nat) : Int) := rfl
        rw [ht] at c0'
        go_wp2
        clear ht c0'
        go_loopw [5, 6] (fun c i wx => ∃ j : Nat, 1 ≤ j ∧ j ≤ 1 ∧ i = .int .i64 j ∧ c = .int .i64 (partB l 1 j : Nat) ∧ Below w.heap.size w wx) (fun c i _ => 8 - (intOf i).toNat)
        case atStart => exact ⟨1, by omega, by omega, rfl, rfl, hbr⟩
        case round =>
          obtain ⟨j, hj1, hjs, rfl, rfl, hbx⟩ := hrel
          by_cases hjl : j < 1
          · have hcj := hcell wr j hbx (by omega)
            have hjm : (j : Int) < (m : Int) := by omega
            have hjm' : j < m := by omega
            have hjl' : (j : Int) < 1 := by omega
            have hj0 : (0 : Int) ≤ (j : Int) := by omega
            have hP1 := HP.out j (by omega)
            have q0 := at8_lo l j
            have q1 := at8_hi l j
            have HQ := Lib.hid (show ((partB l 1 (j + 1) : Nat) : Int) = (partB l 1 j : Nat) * 64 + at8 l j % 64 by rw [partB_succ _ _ _ hj1]; unfold at8; omega)
            generalize partB l 1 j = p at *
            go_wp2
            go_roundw
            case rel => exact ⟨j + 1, by omega, by omega, by go_num, by rw [HQ.out], hbx⟩
            case measure => simp [intOf]; omega
          · obtain rfl : j = 1 := by omega
            clear hjl hj1 hjs
            have hok := Lib.hid (show okK l 1 ↔ (isCp (partB l 1 1) = true ∧ (encL (partB l 1 1)).length = 1 ∧ startsL l (encL (partB l 1 1)) = true) from Iff.rfl)
            have hdec := Lib.hid (fun h : okK l 1 => okK_dec h)
            have Hmore := Lib.hid (fun (h : ¬ okK l 1) (q : Nat) (h1 : 1 ≤ q) (h2 : q < 1 + 1) (h3 : q ≤ m) => if e : q = 1 then e ▸ h else Hno.out q h1 (by omega) h3)
            generalize partB l 1 1 = c at *
            cases hcp : isCp (c : Int)
            · have HN := Lib.hid (Hmore.out (fun h => by have := (hok.out.1 h).1; rw [hcp] at this; cases this))
              have hcall := is_any (c : Int) wr
              rw [hcp] at hcall
              clear hcp
              go_wp2_with fail
              refine hcall.mono ?_
              rintro e w1 ⟨rfl, hw1⟩
              subst hw1
              go_wp2
              go_roundw
              case rel => exact ⟨2, 2, by omega, by omega, by omega, rfl, HN.out, hbx⟩
              case measure => simp [intOf]
            · have hcall := is_any (c : Int) wr
              rw [hcp] at hcall
              have hc2 : c ≤ 1114111 := by have := (isCp_iff _).1 hcp; omega
              have HC := Lib.hid hcp
              clear hcp
              go_wp2_with fail
              refine hcall.mono ?_
              rintro e w1 ⟨rfl, hw1⟩
              subst hw1
              go_wp2_with fail
              refine (bytes_any c hc2 _).mono ?_
              rintro e w2 ⟨A2, n2, c2, rfl, hown2, hb2⟩
              have Hn2 := Lib.hid (show (encL c).length = n2 by have := hown2.1; simpa using this)
              have hb3 : Below w.heap.size w w2 := hbx.trans (hb2.mono hbx.size)
              by_cases hn : n2 = 1
              · subst hn
                have hst := refStarts_any (some ⟨b, off, none⟩) A2 m c0 1 c2 l (encL c) _ _ w2 (hl.below (hb3.mono hB)) (Bytes.own hown2) Hm.out
                cases hs : startsL l (encL c)
                · rw [hs] at hst
                  have HN := Lib.hid (Hmore.out (fun h => by have := (hok.out.1 h).2.2; rw [hs] at this; cases this))
                  clear hs hown2
                  go_wp2_with fail
                  refine hst.mono ?_
                  rintro e w3 ⟨rfl, q3, rfl⟩
                  go_wp2
                  go_roundw
                  case rel => exact ⟨2, 2, by omega, by omega, by omega, rfl, HN.out, below_drewN hb3 _⟩
                  case measure => simp [intOf]
                · rw [hs] at hst
                  have HD := Lib.hid (hdec.out (hok.out.2 ⟨HC.out, Hn2.out, hs⟩))
                  clear hs hown2
                  go_wp2_with fail
                  refine hst.mono ?_
                  rintro e w3 ⟨rfl, q3, rfl⟩
                  go_wp2
                  go_ret2
                  exact ⟨by rw [HD.out]; rfl, below_drewN hb3 _⟩
              · have HN := Lib.hid (Hmore.out (fun h => hn (by have := (hok.out.1 h).2.1; rw [Hn2.out] at this; exact this)))
                have hne : ((n2 : Int) == 1) = false := by rw [beq_eq_false_iff_ne]; omega
                clear hn hown2
                go_wp2
                go_roundw
                case rel => exact ⟨2, 2, by omega, by omega, by omega, rfl, HN.out, hb3⟩
                case measure => simp [intOf]
      · obtain rfl : x = 2 := by omega
        clear hxk
        have hm0' : 0 < m := by omega
        have ht : Int.tmod (at8 l 0) 32 = ((partB l 2 1 : Nat) : Int) := by
          rw [Int.tmod_eq_emod_of_nonneg g0]
          show _ = (((l.getD 0 0).toNat % 32 : Nat) : Int)
          unfold at8
          omega
        have c0b : (wr.alloc (.cells #[.int .i64 1, .int .i64 1, .int .i64 32, .int .i64 16, .int .i64 8] 3)).cell? ⟨b, off, none⟩ = some (.int .u8 (at8 l 0)) := hcell _ 0 (hbr.alloc hbr.size _) (by omega)
        go_wp2
        go_region
        go_wp2
        clear ht c0b c0'
        go_loopw [5, 6] (fun c i wx => ∃ j : Nat, 1 ≤ j ∧ j ≤ 2 ∧ i = .int .i64 j ∧ c = .int .i64 (partB l 2 j : Nat) ∧ Below w.heap.size w wx) (fun c i _ => 8 - (intOf i).toNat)
        case atStart => exact ⟨1, by omega, by omega, rfl, rfl, (hbr.alloc hbr.size _).drew⟩
        case round =>
          obtain ⟨j, hj1, hjs, rfl, rfl, hbx⟩ := hrel
          by_cases hjl : j < 2
          · have hcj := hcell wr j hbx (by omega)
            have hjm : (j : Int) < (m : Int) := by omega
            have hjm' : j < m := by omega
            have hjl' : (j : Int) < 2 := by omega
            have hj0 : (0 : Int) ≤ (j : Int) := by omega
            have hP1 := HP.out j (by omega)
            have q0 := at8_lo l j
            have q1 := at8_hi l j
            have HQ := Lib.hid (show ((partB l 2 (j + 1) : Nat) : Int) = (partB l 2 j : Nat) * 64 + at8 l j % 64 by rw [partB_succ _ _ _ hj1]; unfold at8; omega)
            generalize partB l 2 j = p at *
            go_wp2
            go_roundw
            case rel => exact ⟨j + 1, by omega, by omega, by go_num, by rw [HQ.out], hbx⟩
            case measure => simp [intOf]; omega
          · obtain rfl : j = 2 := by omega
            clear hjl hj1 hjs
            have hok := Lib.hid (show okK l 2 ↔ (isCp (partB l 2 2) = true ∧ (encL (partB l 2 2)).length = 2 ∧ startsL l (encL (partB l 2 2)) = true) from Iff.rfl)
            have hdec := Lib.hid (fun h : okK l 2 => okK_dec h)
            have Hmore := Lib.hid (fun (h : ¬ okK l 2) (q : Nat) (h1 : 1 ≤ q) (h2 : q < 2 + 1) (h3 : q ≤ m) => if e : q = 2 then e ▸ h else Hno.out q h1 (by omega) h3)
            generalize partB l 2 2 = c at *
            cases hcp : isCp (c : Int)
            · have HN := Lib.hid (Hmore.out (fun h => by have := (hok.out.1 h).1; rw [hcp] at this; cases this))
              have hcall := is_any (c : Int) wr
              rw [hcp] at hcall
              clear hcp
              go_wp2_with fail
              refine hcall.mono ?_
              rintro e w1 ⟨rfl, hw1⟩
              subst hw1
              go_wp2
              go_roundw
              case rel => exact ⟨3, 3, by omega, by omega, by omega, rfl, HN.out, hbx⟩
              case measure => simp [intOf]
            · have hcall := is_any (c : Int) wr
              rw [hcp] at hcall
              have hc2 : c ≤ 1114111 := by have := (isCp_iff _).1 hcp; omega
              have HC := Lib.hid hcp
              clear hcp
              go_wp2_with fail
              refine hcall.mono ?_
              rintro e w1 ⟨rfl, hw1⟩
              subst hw1
              go_wp2_with fail
              refine (bytes_any c hc2 _).mono ?_
              rintro e w2 ⟨A2, n2, c2, rfl, hown2, hb2⟩
              have Hn2 := Lib.hid (show (encL c).length = n2 by have := hown2.1; simpa using this)
              have hb3 : Below w.heap.size w w2 := hbx.trans (hb2.mono hbx.size)
              by_cases hn : n2 = 2
              · subst hn
                have hst := refStarts_any (some ⟨b, off, none⟩) A2 m c0 2 c2 l (encL c) _ _ w2 (hl.below (hb3.mono hB)) (Bytes.own hown2) Hm.out
                cases hs : startsL l (encL c)
                · rw [hs] at hst
                  have HN := Lib.hid (Hmore.out (fun h => by have := (hok.out.1 h).2.2; rw [hs] at this; cases this))
                  clear hs hown2
                  go_wp2_with fail
                  refine hst.mono ?_
                  rintro e w3 ⟨rfl, q3, rfl⟩
                  go_wp2
                  go_roundw
                  case rel => exact ⟨3, 3, by omega, by omega, by omega, rfl, HN.out, below_drewN hb3 _⟩
                  case measure => simp [intOf]
                · rw [hs] at hst
                  have HD := Lib.hid (hdec.out (hok.out.2 ⟨HC.out, Hn2.out, hs⟩))
                  clear hs hown2
                  go_wp2_with fail
                  refine hst.mono ?_
                  rintro e w3 ⟨rfl, q3, rfl⟩
                  go_wp2
                  go_ret2
                  exact ⟨by rw [HD.out]; rfl, below_drewN hb3 _⟩
              · have HN := Lib.hid (Hmore.out (fun h => hn (by have := (hok.out.1 h).2.1; rw [Hn2.out] at this; exact this)))
                have hne : ((n2 : Int) == 2) = false := by rw [beq_eq_false_iff_ne]; omega
                clear hn hown2
                go_wp2
                go_roundw
                case rel => exact ⟨3, 3, by omega, by omega, by omega, rfl, HN.out, hb3⟩
                case measure => simp [intOf]
      · obtain rfl : x = 3 := by omega
        clear hxk
        have hm0' : 0 < m := by omega
        have ht : Int.tmod (at8 l 0) 16 = ((partB l 3 1 : Nat) : Int) := by
          rw [Int.tmod_eq_emod_of_nonneg g0]
          show _ = (((l.getD 0 0).toNat % 16 : Nat) : Int)
          unfold at8
          omega
        have c0b : (wr.alloc (.cells #[.int .i64 1, .int .i64 1, .int .i64 32, .int .i64 16, .int .i64 8] 3)).cell? ⟨b, off, none⟩ = some (.int .u8 (at8 l 0)) := hcell _ 0 (hbr.alloc hbr.size _) (by omega)
        go_wp2
        go_region
        go_wp2
        clear ht c0b c0'
        go_loopw [5, 6] (fun c i wx => ∃ j : Nat, 1 ≤ j ∧ j ≤ 3 ∧ i = .int .i64 j ∧ c = .int .i64 (partB l 3 j : Nat) ∧ Below w.heap.size w wx) (fun c i _ => 8 - (intOf i).toNat)
        case atStart => exact ⟨1, by omega, by omega, rfl, rfl, (hbr.alloc hbr.size _).drew⟩
        case round =>
          obtain ⟨j, hj1, hjs, rfl, rfl, hbx⟩ := hrel
          by_cases hjl : j < 3
          · have hcj := hcell wr j hbx (by omega)
            have hjm : (j : Int) < (m : Int) := by omega
            have hjm' : j < m := by omega
            have hjl' : (j : Int) < 3 := by omega
            have hj0 : (0 : Int) ≤ (j : Int) := by omega
            have hP1 := HP.out j (by omega)
            have q0 := at8_lo l j
            have q1 := at8_hi l j
            have HQ := Lib.hid (show ((partB l 3 (j + 1) : Nat) : Int) = (partB l 3 j : Nat) * 64 + at8 l j % 64 by rw [partB_succ _ _ _ hj1]; unfold at8; omega)
            generalize partB l 3 j = p at *
            go_wp2
            go_roundw
            case rel => exact ⟨j + 1, by omega, by omega, by go_num, by rw [HQ.out], hbx⟩
            case measure => simp [intOf]; omega
          · obtain rfl : j = 3 := by omega
            clear hjl hj1 hjs
            have hok := Lib.hid (show okK l 3 ↔ (isCp (partB l 3 3) = true ∧ (encL (partB l 3 3)).length = 3 ∧ startsL l (encL (partB l 3 3)) = true) from Iff.rfl)
            have hdec := Lib.hid (fun h : okK l 3 => okK_dec h)
            have Hmore := Lib.hid (fun (h : ¬ okK l 3) (q : Nat) (h1 : 1 ≤ q) (h2 : q < 3 + 1) (h3 : q ≤ m) => if e : q = 3 then e ▸ h else Hno.out q h1 (by omega) h3)
            generalize partB l 3 3 = c at *
            cases hcp : isCp (c : Int)
            · have HN := Lib.hid (Hmore.out (fun h => by have := (hok.out.1 h).1; rw [hcp] at this; cases this))
              have hcall := is_any (c : Int) wr
              rw [hcp] at hcall
              clear hcp
              go_wp2_with fail
              refine hcall.mono ?_
              rintro e w1 ⟨rfl, hw1⟩
              subst hw1
              go_wp2
              go_roundw
              case rel => exact ⟨4, 4, by omega, by omega, by omega, rfl, HN.out, hbx⟩
              case measure => simp [intOf]
            · have hcall := is_any (c : Int) wr
              rw [hcp] at hcall
              have hc2 : c ≤ 1114111 := by have := (isCp_iff _).1 hcp; omega
              have HC := Lib.hid hcp
              clear hcp
              go_wp2_with fail
              refine hcall.mono ?_
              rintro e w1 ⟨rfl, hw1⟩
              subst hw1
              go_wp2_with fail
              refine (bytes_any c hc2 _).mono ?_
              rintro e w2 ⟨A2, n2, c2, rfl, hown2, hb2⟩
              have Hn2 := Lib.hid (show (encL c).length = n2 by have := hown2.1; simpa using this)
              have hb3 : Below w.heap.size w w2 := hbx.trans (hb2.mono hbx.size)
              by_cases hn : n2 = 3
              · subst hn
                have hst := refStarts_any (some ⟨b, off, none⟩) A2 m c0 3 c2 l (encL c) _ _ w2 (hl.below (hb3.mono hB)) (Bytes.own hown2) Hm.out
                cases hs : startsL l (encL c)
                · rw [hs] at hst
                  have HN := Lib.hid (Hmore.out (fun h => by have := (hok.out.1 h).2.2; rw [hs] at this; cases this))
                  clear hs hown2
                  go_wp2_with fail
                  refine hst.mono ?_
                  rintro e w3 ⟨rfl, q3, rfl⟩
                  go_wp2
                  go_roundw
                  case rel => exact ⟨4, 4, by omega, by omega, by omega, rfl, HN.out, below_drewN hb3 _⟩
                  case measure => simp [intOf]
                · rw [hs] at hst
                  have HD := Lib.hid (hdec.out (hok.out.2 ⟨HC.out, Hn2.out, hs⟩))
                  clear hs hown2
                  go_wp2_with fail
                  refine hst.mono ?_
                  rintro e w3 ⟨rfl, q3, rfl⟩
                  go_wp2
                  go_ret2
                  exact ⟨by rw [HD.out]; rfl, below_drewN hb3 _⟩
              · have HN := Lib.hid (Hmore.out (fun h => hn (by have := (hok.out.1 h).2.1; rw [Hn2.out] at this; exact this)))
                have hne : ((n2 : Int) == 3) = false := by rw [beq_eq_false_iff_ne]; omega
                clear hn hown2
                go_wp2
                go_roundw
                case rel => exact ⟨4, 4, by omega, by omega, by omega, rfl, HN.out, hb3⟩
                case measure => simp [intOf]
      · obtain rfl : x = 4 := by omega
        clear hxk
        have hm0' : 0 < m := by omega
        have ht : Int.tmod (at8 l 0) 8 = ((partB l 4 1 : Nat) : Int) := by
          rw [Int.tmod_eq_emod_of_nonneg g0]
          show _ = (((l.getD 0 0).toNat % 8 : Nat) : Int)
          unfold at8
          omega
        have c0b : (wr.alloc (.cells #[.int .i64 1, .int .i64 1, .int .i64 32, .int .i64 16, .int .i64 8] 3)).cell? ⟨b, off, none⟩ = some (.int .u8 (at8 l 0)) := hcell _ 0 (hbr.alloc hbr.size _) (by omega)
        go_wp2
        go_region
        go_wp2
        clear ht c0b c0'
        go_loopw [5, 6] (fun c i wx => ∃ j : Nat, 1 ≤ j ∧ j ≤ 4 ∧ i = .int .i64 j ∧ c = .int .i64 (partB l 4 j : Nat) ∧ Below w.heap.size w wx) (fun c i _ => 8 - (intOf i).toNat)
        case atStart => exact ⟨1, by omega, by omega, rfl, rfl, (hbr.alloc hbr.size _).drew⟩
        case round =>
          obtain ⟨j, hj1, hjs, rfl, rfl, hbx⟩ := hrel
          by_cases hjl : j < 4
          · have hcj := hcell wr j hbx (by omega)
            have hjm : (j : Int) < (m : Int) := by omega
            have hjm' : j < m := by omega
            have hjl' : (j : Int) < 4 := by omega
            have hj0 : (0 : Int) ≤ (j : Int) := by omega
            have hP1 := HP.out j (by omega)
            have q0 := at8_lo l j
            have q1 := at8_hi l j
            have HQ := Lib.hid (show ((partB l 4 (j + 1) : Nat) : Int) = (partB l 4 j : Nat) * 64 + at8 l j % 64 by rw [partB_succ _ _ _ hj1]; unfold at8; omega)
            generalize partB l 4 j = p at *
            go_wp2
            go_roundw
            case rel => exact ⟨j + 1, by omega, by omega, by go_num, by rw [HQ.out], hbx⟩
            case measure => simp [intOf]; omega
          · obtain rfl : j = 4 := by omega
            clear hjl hj1 hjs
            have hok := Lib.hid (show okK l 4 ↔ (isCp (partB l 4 4) = true ∧ (encL (partB l 4 4)).length = 4 ∧ startsL l (encL (partB l 4 4)) = true) from Iff.rfl)
            have hdec := Lib.hid (fun h : okK l 4 => okK_dec h)
            have Hmore := Lib.hid (fun (h : ¬ okK l 4) (q : Nat) (h1 : 1 ≤ q) (h2 : q < 4 + 1) (h3 : q ≤ m) => if e : q = 4 then e ▸ h else Hno.out q h1 (by omega) h3)
            generalize partB l 4 4 = c at *
            cases hcp : isCp (c : Int)
            · have HN := Lib.hid (Hmore.out (fun h => by have := (hok.out.1 h).1; rw [hcp] at this; cases this))
              have hcall := is_any (c : Int) wr
              rw [hcp] at hcall
              clear hcp
              go_wp2_with fail
              refine hcall.mono ?_
              rintro e w1 ⟨rfl, hw1⟩
              subst hw1
              go_wp2
              go_roundw
              case rel => exact ⟨5, 5, by omega, by omega, by omega, rfl, HN.out, hbx⟩
              case measure => simp [intOf]
            · have hcall := is_any (c : Int) wr
              rw [hcp] at hcall
              have hc2 : c ≤ 1114111 := by have := (isCp_iff _).1 hcp; omega
              have HC := Lib.hid hcp
              clear hcp
              go_wp2_with fail
              refine hcall.mono ?_
              rintro e w1 ⟨rfl, hw1⟩
              subst hw1
              go_wp2_with fail
              refine (bytes_any c hc2 _).mono ?_
              rintro e w2 ⟨A2, n2, c2, rfl, hown2, hb2⟩
              have Hn2 := Lib.hid (show (encL c).length = n2 by have := hown2.1; simpa using this)
              have hb3 : Below w.heap.size w w2 := hbx.trans (hb2.mono hbx.size)
              by_cases hn : n2 = 4
              · subst hn
                have hst := refStarts_any (some ⟨b, off, none⟩) A2 m c0 4 c2 l (encL c) _ _ w2 (hl.below (hb3.mono hB)) (Bytes.own hown2) Hm.out
                cases hs : startsL l (encL c)
                · rw [hs] at hst
                  have HN := Lib.hid (Hmore.out (fun h => by have := (hok.out.1 h).2.2; rw [hs] at this; cases this))
                  clear hs hown2
                  go_wp2_with fail
                  refine hst.mono ?_
                  rintro e w3 ⟨rfl, q3, rfl⟩
                  go_wp2
                  go_roundw
                  case rel => exact ⟨5, 5, by omega, by omega, by omega, rfl, HN.out, below_drewN hb3 _⟩
                  case measure => simp [intOf]
                · rw [hs] at hst
                  have HD := Lib.hid (hdec.out (hok.out.2 ⟨HC.out, Hn2.out, hs⟩))
                  clear hs hown2
                  go_wp2_with fail
                  refine hst.mono ?_
                  rintro e w3 ⟨rfl, q3, rfl⟩
                  go_wp2
                  go_ret2
                  exact ⟨by rw [HD.out]; rfl, below_drewN hb3 _⟩
              · have HN := Lib.hid (Hmore.out (fun h => hn (by have := (hok.out.1 h).2.1; rw [Hn2.out] at this; exact this)))
                have hne : ((n2 : Int) == 4) = false := by rw [beq_eq_false_iff_ne]; omega
                clear hn hown2
                go_wp2
                go_roundw
                case rel => exact ⟨5, 5, by omega, by omega, by omega, rfl, HN.out, hb3⟩
                case measure => simp [intOf]
    · have HZ := Lib.hid (show decL l = (0, 0) by
        by_cases h0 : (decL l).2 = 0
        · exact dec_zero h0
        · have h1 := dec_le l
          have h2 := dec_le4 l
          rw [Hlen.out] at h1
          exact absurd (dec_okK rfl h0) (hno _ (by omega) (by omega) h1))
      clear hno
      by_cases hk4 : k ≤ 4
      · have hx4 : x ≤ 4 := by omega
        have hxm : ¬ x ≤ (m : Int) := by omega
        go_wp2
        go_ret2
        exact ⟨by rw [HZ.out]; rfl, hbr⟩
      · have hx4 : ¬ x ≤ 4 := by omega
        go_wp2
        go_ret2
        exact ⟨by rw [HZ.out]; rfl, hbr⟩
end Go.Proofs.YtndolgbbochpjaaDoor
/-
  The reference's Points (layer 1).
-/
namespace Go.Proofs.YtndolgbbochpjaaDoor
open Go.RowKit

/-- What the reference's Points tells. -/
def GivesPts (l : List UInt8) (W : World) (e : Ending) (w' : World) : Prop :=
  ∃ A n c, w'.ownsRow W.heap.size 3 1 (.slice A n c) n ((if (ptsL l).2 = l.length then nats (ptsL l).1 else []).map iv) ∧ Below W.heap.size W w' ∧
    e = .returned (if (ptsL l).2 = l.length then .tuple #[.slice A n c, .int .i64 0, .bool true] else .tuple #[.slice A n c, .int .i64 ((ptsL l).2 : Int), .bool false])
set_option maxRecDepth 20000 in
set_option maxHeartbeats 2000000 in
theorem refPoints_any (A : Option Addr) (m c0 B : Nat) (l : List UInt8) (w : World) (hl : Bytes w B A m l) (hB : B ≤ w.heap.size) (hm : m ≤ 1048576) (hmc : m ≤ c0) (hc : c0 ≤ maxLen) :
    Calls Tryd.prog 70 #[.slice A m c0] w (GivesPts l w) := by
  obtain ⟨i0, hi, hz0, hz1, hz2⟩ := i64_info
  have Hlen := Lib.hid hl.len
  unfold maxLen at hc
  go_enter Tryd.func70, Tryd.ntmps70
  go_wp2
  go_loopw [5, 6] (fun o a wr => ∃ (p : Nat) (pre : List Nat) (A' : Option Addr) (n' c' : Nat), p ≤ m ∧ a = .int .i64 p ∧ o = .slice A' n' c' ∧ wr.ownsRow w.heap.size 3 1 (.slice A' n' c') n' ((nats pre).map iv) ∧ ptsL l = (pre ++ (ptsL (l.drop p)).1, p + (ptsL (l.drop p)).2) ∧ n' ≤ p ∧ Below w.heap.size w wr) (fun _ a _ => m - (intOf a).toNat)
  case atStart => exact ⟨0, [], none, 0, 0, by omega, rfl, rfl, World.ownsRow_nil _ _ _ _, by simp, by simp, Below.refl _ _⟩
  case round =>
    obtain ⟨p, pre, A', n', c', hp, rfl, rfl, hown, hP, hnp, hbr⟩ := hrel
    have HP := Lib.hid hP
    have hsw := hbr.size
    clear hP
    by_cases hlt : p < m
    · have hcut := (hl.below (hbr.mono hB)).cut (k := p) (cap := c0) (by omega) hmc
      have hne : ¬ c0 = p := by omega
      rw [if_neg hne] at hcut
      have i0' : (0 : Int) ≤ (p : Int) := by omega
      have i1 : (p : Int) ≤ (m : Int) := by omega
      have i2 : (m : Int) ≤ (c0 : Int) := by omega
      have i3 : (p : Int) < (m : Int) := by omega
      have hle := dec_le (l.drop p)
      rw [List.length_drop, Hlen.out] at hle
      have hbeg := begin_any (A.map (·.add p)) (m - p) (c0 - p) B (l.drop p) wr hcut (by omega) (by unfold maxLen; omega)
      rcases Nat.eq_zero_or_pos (decL (l.drop p)).2 with h | h
      · have HQ := Lib.hid (show ptsL l = (pre, p) by rw [HP.out, pts_zero h]; simp)
        rw [dec_zero h] at hbeg
        clear h
        go_wp2_with fail
        refine hbeg.mono ?_
        rintro e w1 ⟨rfl, hb1⟩
        go_wp2
        go_ret3
        have e1 := HQ.out
        have hne : (ptsL l).2 ≠ l.length := by rw [e1, Hlen.out]; simp only; omega
        refine ⟨none, 0, 0, ?_, bel_next hbr hb1, ?_⟩
        · rw [if_neg hne]; exact World.ownsRow_nil _ _ _ _
        · rw [if_neg hne, e1]; rfl
      · have HQ := Lib.hid (show ptsL l = ((pre ++ [(decL (l.drop p)).1]) ++ (ptsL (l.drop (p + (decL (l.drop p)).2))).1, (p + (decL (l.drop p)).2) + (ptsL (l.drop (p + (decL (l.drop p)).2))).2) by
          rw [HP.out, pts_step (l := l.drop p) (by omega), List.drop_drop]
          simp [Nat.add_assoc])
        generalize (decL (l.drop p)).1 = c at *
        generalize (decL (l.drop p)).2 = k at *
        have hk0 : ((k : Int) == 0) = false := by rw [beq_eq_false_iff_ne]; omega
        clear HP
        go_wp2_with fail
        refine hbeg.mono ?_
        rintro e w1 ⟨rfl, hb1⟩
        have hown1 := own_below hown hb1
        have hs1 := hb1.size
        have hnew : Shows (w1.alloc (.cells #[.int .i64 (c : Int)] 3)) (w1.heap.size + 1) 1 (some ⟨w1.heap.size, 0, none⟩) 1 [.int .i64 (c : Int)] := ints_new w1 [(c : Int)] _ _ _ rfl
        go_wp2_with (at_builtin; refine wpList_append_shows _ rfl _ _ 94 rfl w.heap.size 3 i0 (.int .i64 0) 1 8 Tryd.underlying94 hi hz0 hz1 hz2 rfl (by decide) _ _ _ rfl (hown1.alloc _) (w1.heap.size + 1) _ 1 1 [.int .i64 (c : Int)] rfl hnew (by simp [Value.oneCell']) (by unfold maxLen; omega) (by omega) (by simp; omega) ?_; intro A7 c7 w7 hown7 hgrow7 hb7)
        go_roundw
        case rel => exact ⟨p + k, pre ++ [c], A7, n' + 1, c7, by omega, by go_num, rfl, by rw [nats_snoc, List.map_append]; exact hown7, HQ.out, by omega, ((bel_next hbr hb1).alloc (by omega) _).trans hb7⟩
        case measure => simp [intOf]; omega
    · have hk : p = m := by omega
      have HQ := Lib.hid (show ptsL l = (pre, p) by rw [HP.out, List.drop_of_length_le (by rw [Hlen.out]; omega), pts_zero (l := []) rfl]; simp)
      have e2 := Lib.hid (show p = l.length by rw [Hlen.out]; exact hk)
      clear hk
      go_wp2
      go_ret3
      have e1 := HQ.out
      have he : (ptsL l).2 = l.length := by rw [e1]; exact e2.out
      refine ⟨A', n', c', ?_, hbr, ?_⟩
      · rw [if_pos he, e1]; exact hown
      · rw [if_pos he]; rfl

end Go.Proofs.YtndolgbbochpjaaDoor
/-
  '[]byte(s)': a row of the call's own that shows the string's bytes; a string's front. No program in sight.
-/
namespace Go.Proofs.YtndolgbbochpjaaDoor
open Go.RowKit

theorem below_draw_alloc (w : World) (o : Obj) : Below w.heap.size w (w.drew.alloc o) := below_undrew ((Below.refl w.heap.size w.drew).alloc (Nat.le_refl _) o)
theorem string_bytes {P : Program} {src dst e : TypeId} (hs : P.underlying src = some .string) (hd : P.underlying dst = some (.slice e)) (he : P.underlying e = some (.int .u8)) (s : ByteArray) (l : List UInt8) (hl : s.data.toList = l) (hm : s.size ≤ maxLen) (w : World) :
    ∃ c w', (convert src dst (.string s)).run P w = .ok (.slice (some ⟨w.heap.size, 0, none⟩) l.length c) w' ∧ Bytes w' w'.heap.size (some ⟨w.heap.size, 0, none⟩) l.length l ∧ l.length ≤ c ∧ c ≤ maxLen ∧ Below w.heap.size w w' := by
  have hsz : s.size = l.length := by rw [← hl, Array.length_toList]; rfl
  rw [hsz] at hm
  have hrun := run_bytes_of_string (P := P) w src dst e s hs hd he
  rw [hsz] at hrun
  have hge := grownCap_ge w l.length 0 e
  refine ⟨_, _, hrun, ?_, hge, grownCap_le_maxLen w l.length 0 e hm, below_draw_alloc w _⟩
  refine ⟨by simp, fun hn => ⟨w.heap.size, 0, rfl, by simp [World.alloc, World.drew, -World.alloc_eq, -World.drew_eq], fun j u hu => ?_⟩⟩
  have h2 := World.cell?_alloc_mark w.drew (bytesRow s (grownCap w l.length 0 e)) e ((bytesRow s (grownCap w l.length 0 e)).size, (bytesRow s (grownCap w l.length 0 e)).size + 1) j
  rw [Nat.zero_add]
  refine h2.trans ?_
  have hj : j < l.length := by
    have := (List.getElem?_eq_some_iff.1 hu).1
    simpa using this
  unfold bytesRow
  rw [Array.getElem?_append_left (by simp; rw [← hl] at hj; simpa using hj)]
  rw [List.getElem?_map] at hu
  rw [Array.getElem?_map, ← Array.getElem?_toList, hl, ← hu]
  rfl
/-- A string's front. -/
theorem front_str (s : ByteArray) (l : List UInt8) (k : Nat) (hl : s.data.toList = l) : (s.extract 0 k).data.toList = l.take k := by
  rw [← hl]
  simp [ByteArray.data_extract, Array.toList_extract, List.extract]
theorem str_size (s : ByteArray) (l : List UInt8) (hl : s.data.toList = l) : s.size = l.length := by rw [← hl, Array.length_toList]; rfl
end Go.Proofs.YtndolgbbochpjaaDoor
/-
  Layer 4, the reference: Valid (layer 1's), alone.
-/
namespace Go.Proofs.YtndolgbbochpjaaDoor
open Go.RowKit
set_option linter.unusedVariables false

/-- Each string in a value is at most so long. -/
inductive Sml (N : Nat) : VT → Prop
  | mk {k n s cA cn cc kA kn kc keys kids} (hs : s.size ≤ N) (hk : ∀ x ∈ keys, x.size ≤ N) (h : ∀ x ∈ kids, Sml N x) : Sml N (.mk k n s cA cn cc kA kn kc keys kids)
set_option maxRecDepth 20000 in
theorem rvalid_any (s : ByteArray) (w : World) (hs : s.size ≤ 1048576) :
    Calls Tryd.prog 63 #[.string s] w fun e w' => e = .returned (.bool (validS s)) ∧ Below w.heap.size w w' := by
  obtain ⟨c, w1, hrun, hby, h1, h2, hb1⟩ := string_bytes (P := Tryd.prog) Tryd.underlying9 Tryd.underlying97 Tryd.underlying5 s s.data.toList rfl (by unfold maxLen; omega) w
  have hsz : s.data.toList.length = s.size := by rw [Array.length_toList]; rfl
  have hp := refPoints_any _ _ c _ s.data.toList w1 hby (Nat.le_refl _) (by omega) h1 h2
  have hv : validS s = decide ((ptsL s.data.toList).2 = s.data.toList.length) := rfl
  have Hv := Lib.hid hv
  clear hv hby h1 h2 hsz
  go_enter Tryd.func63, Tryd.ntmps63
  go_wp2_with fail
  refine hp.mono ?_
  rintro e w2 ⟨A, n, c2, hown, hb2, rfl⟩
  have hb3 := bel_next hb1 hb2
  clear hp hrun hown
  by_cases h : (ptsL s.data.toList).2 = s.data.toList.length
  · rw [if_pos h]
    go_wp2
    go_ret
    exact ⟨by rw [Hv.out, decide_eq_true h]; rfl, hb3⟩
  · rw [if_neg h]
    go_wp2
    go_ret
    exact ⟨by rw [Hv.out, decide_eq_false h]; rfl, hb3⟩
end Go.Proofs.YtndolgbbochpjaaDoor
/-
  What the second form's bound gives: no part of a reading is greater than the whole. Rows of things that came in, each within the bound.
-/
namespace Go.Proofs.YtndolgbbochpjaaDoor
open Go.ChangeShapes Go.WideShapes Go.ChangeAt Go.RowKit Go.Deep
set_option linter.unusedVariables false

theorem blk_part {H : Type} {d : DataW H} : ∀ {l : List (DataW H)}, d ∈ l → Rows.uptoBulk d ≤ Rows.uptoBulkAll l
  | x :: r, h => by
    rw [Rows.uptoBulkAll]
    rcases List.mem_cons.1 h with rfl | h
    · omega
    · have := blk_part h; omega
theorem blk_agg {H : Type} {d : DataW H} {l : List (DataW H)} (h : d ∈ l) : Rows.uptoBulk d ≤ Rows.uptoBulk (.agg l) := by
  have := blk_part h
  rw [Rows.uptoBulk]
  omega
theorem blk_slice {H : Type} {d : DataW H} {l r : List (DataW H)} (h : d ∈ l) : Rows.uptoBulk d ≤ Rows.uptoBulk (.slice l r) := by
  have := blk_part h
  rw [Rows.uptoBulk]
  omega
theorem blk_str {H : Type} {s : ByteArray} {N : Nat} (h : Rows.uptoBulk (DataW.lit (H := H) (.string s.data.toList)) ≤ N) : s.size ≤ N := by
  rw [Rows.uptoBulk] at h
  have : s.data.toList.length = s.size := by rw [Array.length_toList]; rfl
  omega
theorem blk_all {H : Type} {l : List (DataW H)} (h : Rows.uptoSmall H l = true) {d : DataW H} (hd : d ∈ l) : Rows.uptoBulk d ≤ 1048576 := by
  have h1 := of_decide_eq_true h
  exact Nat.le_trans (blk_part hd) h1
section
variable {H : Type} {enc : TypeId × Value → H} {P : Program} {w W : World} {base : Nat} {spare : Nat → Bool} {held : Bool} {t e : TypeId} {N : Nat}
/-- A row of things that came in, one by one, each within the bound. -/
theorem open_rowsN {α : Type} (f : α → List Value) (z : α) (k : Nat) (hk : 0 < k) (hf : ∀ x, (f x).length = k) (Q : α → Prop) {fuel : Nat} {cs : List Value} {x : DataW H × List MemPlace} (ht : P.underlying t = some (.slice e)) (hC : P.cellsOf e = k)
    (hQ : ∀ n cs y, n < fuel → cs.length = k → DataW.trod enc P w base spare held n e cs = some y → Rows.uptoBulk y.1 ≤ N → ∃ x : α, cs = f x ∧ Q x)
    (h : DataW.trod enc P w base spare held fuel t cs = some x) (hN : Rows.uptoBulk x.1 ≤ N) : ∃ (A : Option Addr) (n c : Nat) (l : List α), cs = [.slice A n c] ∧ Shows w w.heap.size k A n (l.flatMap f) ∧ (∀ x ∈ l, Q x) ∧ (A = none → c = 0) ∧ n ≤ c ∧ c ≤ maxLen := by
  rcases DataW.trod_slice ht h with ⟨hcs, _⟩ | ⟨a, len, cap, elems, rest, n, hn, hcs, hx, _, hl, hm, hlen, hi, _, _⟩
  · exact ⟨none, 0, 0, [], hcs, ⟨by simp, fun h => absurd h (by decide)⟩, by simp, fun _ => rfl, Nat.le_refl _, Nat.zero_le _⟩
  · have hF : ∀ i, ∃ r : α, i < len → Q r ∧ ∀ j u, (f r)[j]? = some u → w.cell? (a.add (i * k + j)) = some u := by
      intro i
      by_cases hin : i < len
      · have h2 := hi i hin
        have hi' : i < elems.length := by rw [hlen]; exact hin
        rw [List.getElem?_eq_getElem hi'] at h2
        obtain ⟨cs', hc, htr⟩ := Option.bind_eq_some_iff.1 h2
        obtain ⟨_, hlen', hat⟩ := World.cells?_some hc
        rw [hC] at hlen' hat
        have hb : Rows.uptoBulk (elems[i]).1 ≤ N := by
          rw [hx] at hN
          exact Nat.le_trans (blk_slice (List.mem_map_of_mem (f := (·.1)) (List.getElem_mem hi'))) hN
        obtain ⟨r, rfl, hr⟩ := hQ n cs' _ (by omega) hlen' htr hb
        refine ⟨r, fun _ => ⟨hr, fun j u hu => ?_⟩⟩
        have hj : j < k := by have := (List.getElem?_eq_some_iff.1 hu).1; rw [hlen'] at this; exact this
        have := hat j hj
        rw [hu] at this
        rw [← this, ← Go.Deep.add_add]
      · exact ⟨z, fun h => absurd h hin⟩
    refine ⟨some a, len, cap, (List.range len).map fun i => Classical.choose (hF i), hcs, shows_rows f k hk hf _ fun i hi j u hu => (Classical.choose_spec (hF i) hi).2 j u hu, ?_, nofun, hl, hm⟩
    intro r hr
    obtain ⟨i, hi, rfl⟩ := List.mem_map.1 hr
    exact (Classical.choose_spec (hF i) (List.mem_range.1 hi)).1
theorem open_keysN {fuel : Nat} {cs : List Value} {x : DataW H × List MemPlace} (ht : P.underlying t = some (.slice e)) (hC : P.cellsOf e = 1) (he : P.underlying e = some .string) (h : DataW.trod enc P w base spare held fuel t cs = some x) (hN : Rows.uptoBulk x.1 ≤ N) :
    ∃ (A : Option Addr) (n c : Nat) (l : List ByteArray), cs = [.slice A n c] ∧ Shows w w.heap.size 1 A n (l.map Value.string) ∧ (∀ x ∈ l, x.size ≤ maxLen ∧ x.size ≤ N) ∧ (A = none → c = 0) ∧ n ≤ c ∧ c ≤ maxLen := by
  obtain ⟨A, n, c, l, h1, h2, h3⟩ := open_rowsN (fun s : ByteArray => [Value.string s]) ⟨#[]⟩ 1 (by decide) (fun _ => rfl) (fun s => s.size ≤ maxLen ∧ s.size ≤ N) ht hC (fun n cs y _ _ hy hb => by
    obtain ⟨s, e, hy1, hs⟩ := DataW.trod_string he hy
    rw [hy1] at hb
    exact ⟨s, e, hs, blk_str hb⟩) h hN
  have hfl : ∀ l : List ByteArray, l.flatMap (fun s => [Value.string s]) = l.map Value.string := by
    intro l
    induction l with
    | nil => rfl
    | cons x l ih => rw [List.flatMap_cons, ih]; rfl
  rw [hfl] at h2
  exact ⟨A, n, c, l, h1, h2, h3⟩
end
end Go.Proofs.YtndolgbbochpjaaDoor
/-
  Layer 4: a value that came in within the second form's bound: each string in it is short.
-/
namespace Go.Proofs.YtndolgbbochpjaaDoor
open Go.ChangeShapes Go.WideShapes Go.ChangeAt Go.RowKit Go.Deep
set_option linter.unusedVariables false

section
variable {H : Type} {enc : TypeId × Value → H} {P : Program} {w W : World} {base b0 : Nat} {spare : Nat → Bool} {held : Bool} {r : Reach} {t e : TypeId} {v : Value} {d : DataW H} {p : List MemPlace} {N : Nat} {f0 f1 f2 f3 f4 : Field} {ek : TypeId}
theorem trod_valueN (ht : P.underlying t = some (.struct #[f0, f1, f2, f3, f4])) (hone : oneCellFields P #[f0, f1, f2, f3, f4] = true) (hC : P.cellsOf t = 5)
    (k0 : P.underlying f0.type = some (.int .i64)) (k1 : P.underlying f1.type = some (.int .i64)) (k2 : P.underlying f2.type = some .string) (k3 : P.underlying f3.type = some (.slice t)) (k4 : P.underlying f4.type = some (.slice ek)) (k5 : P.underlying ek = some .string) (hk : P.cellsOf ek = 1) :
    ∀ (fuel : Nat) (cs : List Value) (x : DataW H × List MemPlace), cs.length = 5 → DataW.trod enc P w base spare held fuel t cs = some x → Rows.uptoBulk x.1 ≤ N → ∃ T : VT, cs = T.cells ∧ Lie w w.heap.size T ∧ Sml N T := by
  intro fuel
  induction fuel using Nat.strongRecOn with
  | ind fuel ih =>
    intro cs x hsz h hN
    match cs, hsz with
    | [c0, c1, c2, c3, c4], _ =>
      obtain ⟨xs, n, hn, hx, _, hlen, hg⟩ := DataW.trod_struct ht h
      obtain ⟨o0, q0⟩ := hone_of hone 0 f0 rfl
      obtain ⟨o1, q1⟩ := hone_of hone 1 f1 rfl
      obtain ⟨o2, q2⟩ := hone_of hone 2 f2 rfl
      obtain ⟨o3, q3⟩ := hone_of hone 3 f3 rfl
      obtain ⟨o4, q4⟩ := hone_of hone 4 f4 rfl
      match xs, hlen with
      | [y0, y1, y2, y3, y4], _ =>
        have hy0 : DataW.trod enc P w base spare held n f0.type [c0] = some y0 := by simpa [o0, q0] using hg 0 f0 rfl
        have hy1 : DataW.trod enc P w base spare held n f1.type [c1] = some y1 := by simpa [o1, q1] using hg 1 f1 rfl
        have hy2 : DataW.trod enc P w base spare held n f2.type [c2] = some y2 := by simpa [o2, q2] using hg 2 f2 rfl
        have hy3 : DataW.trod enc P w base spare held n f3.type [c3] = some y3 := by simpa [o3, q3] using hg 3 f3 rfl
        have hy4 : DataW.trod enc P w base spare held n f4.type [c4] = some y4 := by simpa [o4, q4] using hg 4 f4 rfl
        have hb : ∀ y ∈ [y0, y1, y2, y3, y4], Rows.uptoBulk y.1 ≤ N := fun y hy => by
          rw [hx] at hN
          exact Nat.le_trans (blk_agg (List.mem_map_of_mem (f := (·.1)) hy)) hN
        obtain ⟨z0, e0, _, w0⟩ := DataW.trod_int k0 hy0
        obtain ⟨z1, e1, _, w1⟩ := DataW.trod_int k1 hy1
        obtain ⟨s, e2, g2, hs⟩ := DataW.trod_string k2 hy2
        have hs2 : s.size ≤ N := by
          have := hb y2 (by simp)
          rw [g2] at this
          exact blk_str this
        obtain ⟨A3, n3, d3, l3, e3, hS3, hL3, a3, b3, m3⟩ := open_rowsN VT.cells (scV 0 0 ⟨#[]⟩) 5 (by decide) VT.cells_len (fun T => Lie w w.heap.size T ∧ Sml N T) k3 hC (fun n' cs' y hn' hl' hy' hb' => ih n' (by omega) cs' y hl' hy' hb') hy3 (hb y3 (by simp))
        obtain ⟨A4, n4, d4, l4, e4, hS4, hL4, a4, b4, m4⟩ := open_keysN k4 hk k5 hy4 (hb y4 (by simp))
        simp at e0 e1 e2 e3 e4
        subst e0 e1 e2 e3 e4
        exact ⟨.mk z0 z1 s A3 n3 d3 A4 n4 d4 l4 l3, rfl, .mk hS3 hS4 ⟨w0, w1, hs, b3, m3, a3, b4, m4, a4, fun x hx => (hL4 x hx).1⟩ (fun x hx => (hL3 x hx).1), .mk hs2 (fun x hx => (hL4 x hx).2) (fun x hx => (hL3 x hx).2)⟩
theorem came_valueN (ht : P.underlying t = some (.struct #[f0, f1, f2, f3, f4])) (hone : oneCellFields P #[f0, f1, f2, f3, f4] = true) (hC : P.cellsOf t = 5)
    (k0 : P.underlying f0.type = some (.int .i64)) (k1 : P.underlying f1.type = some (.int .i64)) (k2 : P.underlying f2.type = some .string) (k3 : P.underlying f3.type = some (.slice t)) (k4 : P.underlying f4.type = some (.slice ek)) (k5 : P.underlying ek = some .string) (hk : P.cellsOf ek = 1)
    (hv : Value.okWide P W r b0 t v) (h : DataW.Trod enc P w base spare held t v d p) (hN : Rows.uptoBulk d ≤ N) : ∃ T : VT, v = T.agg ∧ Lie w w.heap.size T ∧ Sml N T := by
  obtain ⟨cs, rfl, hsz⟩ := okWide_struct ht hv
  obtain ⟨fuel, hf⟩ := h
  obtain ⟨T, hT, hL⟩ := trod_valueN ht hone hC k0 k1 k2 k3 k4 k5 hk fuel cs.toList _ (by simpa using hsz.trans hC) (by simpa [Value.cells] using hf) hN
  refine ⟨T, ?_, hL⟩
  rw [← Array.toArray_toList (xs := cs), hT]
  cases T; rfl
theorem came_keysN {A : Option Addr} {n c : Nat} (hu : P.underlying t = some (.slice e)) (hC : P.cellsOf e = 1) (he : P.underlying e = some .string) (h : DataW.Trod enc P w base spare held t (.slice A n c) d p) (hN : Rows.uptoBulk d ≤ N) :
    ∃ l : List ByteArray, Shows w w.heap.size 1 A n (l.map Value.string) ∧ (∀ x ∈ l, x.size ≤ maxLen ∧ x.size ≤ N) ∧ (A = none → c = 0) ∧ n ≤ c ∧ c ≤ maxLen := by
  obtain ⟨fuel, hf⟩ := h
  obtain ⟨A', n', c', l, hcs, h2, h3, h4⟩ := open_keysN hu hC he hf hN
  simp [Value.cells] at hcs
  obtain ⟨rfl, rfl, rfl⟩ := hcs
  exact ⟨l, h2, h3, h4⟩
variable {tp : TypeId} {g0 g1 : Field}
theorem trod_pairN (hp : P.underlying tp = some (.struct #[g0, g1])) (o0 : g0.offset = 0) (o1 : g1.offset = 1) (c0 : P.cellsOf g0.type = 1) (c1 : P.cellsOf g1.type = 5) (q0 : P.underlying g0.type = some .string)
    (ht : P.underlying g1.type = some (.struct #[f0, f1, f2, f3, f4])) (hone : oneCellFields P #[f0, f1, f2, f3, f4] = true)
    (k0 : P.underlying f0.type = some (.int .i64)) (k1 : P.underlying f1.type = some (.int .i64)) (k2 : P.underlying f2.type = some .string) (k3 : P.underlying f3.type = some (.slice g1.type)) (k4 : P.underlying f4.type = some (.slice ek)) (k5 : P.underlying ek = some .string) (hk : P.cellsOf ek = 1) :
    ∀ (fuel : Nat) (cs : List Value) (x : DataW H × List MemPlace), cs.length = 6 → DataW.trod enc P w base spare held fuel tp cs = some x → Rows.uptoBulk x.1 ≤ N → ∃ p : PT, cs = pCells p ∧ (Lie w w.heap.size p.2 ∧ p.1.size ≤ maxLen) ∧ Sml N p.2 ∧ p.1.size ≤ N := by
  intro fuel cs x hsz h hN
  match cs, hsz with
  | [b0, b1, b2, b3, b4, b5], _ =>
    obtain ⟨xs, n, hn, hx, _, hlen, hg⟩ := DataW.trod_struct hp h
    match xs, hlen with
    | [y0, y1], _ =>
      have hy0 : DataW.trod enc P w base spare held n g0.type [b0] = some y0 := by simpa [o0, c0] using hg 0 g0 rfl
      have hy1 : DataW.trod enc P w base spare held n g1.type [b1, b2, b3, b4, b5] = some y1 := by simpa [o1, c1] using hg 1 g1 rfl
      have hb : ∀ y ∈ [y0, y1], Rows.uptoBulk y.1 ≤ N := fun y hy => by
        rw [hx] at hN
        exact Nat.le_trans (blk_agg (List.mem_map_of_mem (f := (·.1)) hy)) hN
      obtain ⟨s, e2, g2, hs⟩ := DataW.trod_string q0 hy0
      have hs2 : s.size ≤ N := by
        have := hb y0 (by simp)
        rw [g2] at this
        exact blk_str this
      obtain ⟨T, hT, hL, hM⟩ := trod_valueN ht hone c1 k0 k1 k2 k3 k4 k5 hk n _ _ rfl hy1 (hb y1 (by simp))
      simp at e2
      subst e2
      exact ⟨(s, T), by rw [hT]; rfl, ⟨hL, hs⟩, hM, hs2⟩
theorem came_pairsN {A : Option Addr} {n c : Nat} (hu : P.underlying e = some (.slice tp)) (hp : P.underlying tp = some (.struct #[g0, g1])) (hC : P.cellsOf tp = 6) (o0 : g0.offset = 0) (o1 : g1.offset = 1) (c0 : P.cellsOf g0.type = 1) (c1 : P.cellsOf g1.type = 5) (q0 : P.underlying g0.type = some .string)
    (ht : P.underlying g1.type = some (.struct #[f0, f1, f2, f3, f4])) (hone : oneCellFields P #[f0, f1, f2, f3, f4] = true)
    (k0 : P.underlying f0.type = some (.int .i64)) (k1 : P.underlying f1.type = some (.int .i64)) (k2 : P.underlying f2.type = some .string) (k3 : P.underlying f3.type = some (.slice g1.type)) (k4 : P.underlying f4.type = some (.slice ek)) (k5 : P.underlying ek = some .string) (hk : P.cellsOf ek = 1)
    (h : DataW.Trod enc P w base spare held e (.slice A n c) d p) (hN : Rows.uptoBulk d ≤ N) : ∃ l : List PT, Shows w w.heap.size 6 A n (l.flatMap pCells) ∧ (∀ p ∈ l, (Lie w w.heap.size p.2 ∧ p.1.size ≤ maxLen) ∧ Sml N p.2 ∧ p.1.size ≤ N) ∧ (A = none → c = 0) ∧ n ≤ c ∧ c ≤ maxLen := by
  obtain ⟨fuel, hf⟩ := h
  obtain ⟨A', n', c', l, hcs, h2, h3, h4⟩ := open_rowsN pCells (⟨#[]⟩, scV 0 0 ⟨#[]⟩) 6 (by decide) pCells_len (fun p : PT => (Lie w w.heap.size p.2 ∧ p.1.size ≤ maxLen) ∧ Sml N p.2 ∧ p.1.size ≤ N) hu hC (fun n' cs' y _ hl' hy' hb' => trod_pairN hp o0 o1 c0 c1 q0 ht hone k0 k1 k2 k3 k4 k5 hk n' cs' y hl' hy' hb') hf hN
  simp [Value.cells] at hcs
  obtain ⟨rfl, rfl, rfl⟩ := hcs
  exact ⟨l, h2, h3, h4⟩
end
end Go.Proofs.YtndolgbbochpjaaDoor
/-
  Layer 7, the reference: Ahead and kind.
-/
namespace Go.Proofs.YtndolgbbochpjaaDoor
open Go.RowKit
set_option linter.unusedVariables false

theorem sget (s : ByteArray) (k : Nat) (h : k < s.size) : s.data.toList[k]'(by simpa using h) = s[k]'h := rfl
theorem less_step {s t : ByteArray} {k : Nat} (h1 : k < s.size) (h2 : k < t.size) : Op.bytesLess (s.data.toList.drop k) (t.data.toList.drop k) = if (s[k]'h1).toNat < (t[k]'h2).toNat then true else if (s[k]'h1).toNat = (t[k]'h2).toNat then Op.bytesLess (s.data.toList.drop (k + 1)) (t.data.toList.drop (k + 1)) else false := by
  rw [List.drop_eq_getElem_cons (show k < s.data.toList.length by simpa using h1), List.drop_eq_getElem_cons (show k < t.data.toList.length by simpa using h2), less_cons]
  rfl
theorem less_end {s t : ByteArray} {k : Nat} (h1 : k ≤ s.size) (h2 : k ≤ t.size) (h3 : k = s.size ∨ k = t.size) : Op.bytesLess (s.data.toList.drop k) (t.data.toList.drop k) = decide (s.size < t.size) := by
  have a1 : (s.data.toList.drop k).length = s.size - k := by simp
  have a2 : (t.data.toList.drop k).length = t.size - k := by simp
  generalize s.data.toList.drop k = a at *
  generalize t.data.toList.drop k = b at *
  cases b with
  | nil => rw [less_nil]; simp at a2; symm; simp; omega
  | cons y b =>
    cases a with
    | nil => simp at a1 a2; show true = _; symm; simp; omega
    | cons x a => simp at a1 a2; omega
set_option maxRecDepth 20000 in
set_option maxHeartbeats 1000000 in
theorem ahead_any (s t : ByteArray) (w : World) (hs : s.size ≤ 1048576) : Calls Tryd.prog 43 #[.string s, .string t] w fun e w' => e = .returned (.bool (vless s t)) ∧ Fr w w' := by
  have H0 := Lib.hid (show vless s t = Op.bytesLess (s.data.toList.drop 0) (t.data.toList.drop 0) by unfold vless; rw [ByteArray.toList_eq, ByteArray.toList_eq]; rfl)
  generalize vless s t = r at *
  go_enter Tryd.func43, Tryd.ntmps43
  go_wp2
  go_loopw [5] (fun i wr => ∃ k : Nat, k ≤ s.size ∧ k ≤ t.size ∧ i = .int .i64 k ∧ Hid (r = Op.bytesLess (s.data.toList.drop k) (t.data.toList.drop k)) ∧ Fr w wr) (fun i _ => s.size - (intOf i).toNat)
  case atStart => exact ⟨0, Nat.zero_le _, Nat.zero_le _, rfl, H0, Fr.refl _⟩
  case round =>
    obtain ⟨k, hk1, hk2, rfl, HK, hbr⟩ := hrel
    by_cases h1 : k < s.size
    · have h1' : (k : Int) < (s.size : Int) := by omega
      have hk0 : (0 : Int) ≤ (k : Int) := by omega
      by_cases h2 : k < t.size
      · have h2' : (k : Int) < (t.size : Int) := by omega
        have Hst := Lib.hid (HK.out.trans (less_step h1 h2))
        generalize hx : (s[k]'h1).toNat = x at *
        generalize hy : (t[k]'h2).toNat = y at *
        clear HK
        by_cases hxy : x = y
        · subst hxy
          have Hn := Lib.hid (Hst.out.trans (by rw [if_neg (Nat.lt_irrefl _), if_pos rfl]))
          clear Hst
          go_wp2
          go_quiet (fail)
          go_wp2
          go_roundw
          case rel => exact ⟨k + 1, by omega, by omega, by go_num, Hn, hbr.drewN _⟩
          case measure => simp [intOf]; omega
        · have Hn := Lib.hid (show r = decide (x < y) from Hst.out.trans (by
            by_cases h : x < y
            · rw [if_pos h]; simp [h]
            · rw [if_neg h, if_neg hxy]; simp [h]))
          clear Hst
          go_wp2
          go_quiet (fail)
          go_wp2
          go_quiet (fail)
          go_wp2
          go_ret
          exact ⟨by rw [Hn.out]; simp, (hbr.drewN _).drewN _⟩
      · have Hn := Lib.hid (HK.out.trans (less_end hk1 hk2 (by omega)))
        have h2' : ¬ (k : Int) < (t.size : Int) := by omega
        clear HK
        go_wp2
        go_ret
        exact ⟨by rw [Hn.out]; simp, hbr⟩
    · have Hn := Lib.hid (HK.out.trans (less_end hk1 hk2 (by omega)))
      have h1' : ¬ (k : Int) < (s.size : Int) := by omega
      clear HK
      go_wp2
      go_ret
      exact ⟨by rw [Hn.out]; simp, hbr⟩
set_option maxRecDepth 20000 in
theorem kind_any (T : VT) (w : World) (hf : T.fit = true) : Calls Tryd.prog 42 #[T.agg] w fun e w' => e = .returned (.int .i64 (rankV T)) ∧ Fr w w' := by
  obtain ⟨h1, h2, h3⟩ := fit_kn hf
  clear hf
  obtain ⟨k, n, s, cA, cn, cc, kA, kn, kc, keys, kids⟩ := T
  have hb := (Fr.refl w).alloc (.cells #[.int .i64 k, .int .i64 n, .string s, .slice cA cn cc, .slice kA kn kc] 25)
  have HV := VFive.new w (.int .i64 k) (.int .i64 n) (.string s) (.slice cA cn cc) (.slice kA kn kc) 25 w.heap.size rfl
  simp only [VT.k, VT.n] at h1 h2 h3
  simp only [VT.agg]
  obtain ⟨⟨v0, v1, v2, v3, v4⟩, -⟩ := HV
  by_cases hk2 : k = 2
  · subst hk2
    rw [show rankV (.mk 2 n s cA cn cc kA kn kc keys kids) = 2 + n from if_pos rfl]
    have hw : IntKind.i64.wrap (2 + n) = 2 + n := by rw [IntKind.wrap_i64]; have := h3 rfl; omega
    have hw' : IntKind.i64.wrap n = n := by rw [IntKind.wrap_i64]; have := h3 rfl; omega
    clear h1 h2 h3
    go_enter Tryd.func42, Tryd.ntmps42
    go_wp2
    go_ret
    exact ⟨by first | rfl | simp [hw], hb⟩
  · rw [show rankV (.mk k n s cA cn cc kA kn kc keys kids) = (if 2 < k then k + 1 else k) from if_neg hk2]
    clear h3
    have hk : k = 1 ∨ k = 3 ∨ k = 4 ∨ k = 5 ∨ k = 6 := by omega
    rcases hk with rfl | rfl | rfl | rfl | rfl
    all_goals
      clear h1 h2 hk2
      go_enter Tryd.func42, Tryd.ntmps42
      go_wp2
      go_ret
      exact ⟨rfl, hb⟩
end Go.Proofs.YtndolgbbochpjaaDoor
