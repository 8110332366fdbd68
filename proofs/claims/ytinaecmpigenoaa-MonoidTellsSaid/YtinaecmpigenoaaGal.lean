import Derived.Test.YtinaecmpigenoaaGak
import Derived.Test.YtinaecmpigenoaaGag
import Derived.BigRegion
import Derived.Test.YtinaecmpigenoaaGah
import Derived.Laws.IdiomStrings
import Derived.Test.YtinaecmpigenoaaGai
/-
  Layer 1, the reference: Begin.
-/
namespace Go.Proofs.Ytinaecmpigenoaa
open Go.RowKit

theorem rem64 (x : Nat) (h : x < 256) : Int.tmod (x : Int) 64 = ((x % 64 : Nat) : Int) := by
  rw [Int.tmod_eq_emod_of_nonneg (by omega)]; omega
set_option maxRecDepth 20000 in
set_option maxHeartbeats 4000000 in
theorem begin_any (A : Option Addr) (m c0 B : Nat) (l : List UInt8) (w : World) (hl : Bytes w B A m l) (hB : B ≤ w.heap.size) (hm : m ≤ maxLen) :
    Calls Try.prog 58 #[.slice A m c0] w fun e w' => e = .returned (.tuple #[.int .i64 ((decL l).1 : Int), .int .i64 ((decL l).2 : Int)]) ∧ Below w.heap.size w w' := by
  have Hlen := Lib.hid hl.len
  have Hm := Lib.hid hm
  unfold maxLen at hm
  go_enter Try.func58, Try.ntmps58
  go_wp2
  go_loopw [4] (fun i wr => ∃ (k : Nat) (x : Int), x = (k : Int) ∧ 1 ≤ k ∧ k ≤ 5 ∧ i = .int .i64 x ∧ (∀ q, 1 ≤ q → q < k → q ≤ m → ¬ okK l q) ∧ Below w.heap.size w wr) (fun i _ => 5 - (intOf i).toNat)
  case atStart => exact ⟨1, 1, by omega, by omega, by omega, rfl, fun q h1 h2 => by omega, Below.refl _ _⟩
  case round =>
    obtain ⟨k, x, hxk, hk1, hk5, rfl, hno, hbr⟩ := hrel
    by_cases hin : k ≤ 4 ∧ k ≤ m
    · obtain ⟨hk4, hkm⟩ := hin
      obtain ⟨b, off, rfl, hbB, -⟩ := hl.cell (k := 0) (by omega)
      have hcell : ∀ (W : World) (j : Nat), Below w.heap.size w W → j < m → W.cell? ⟨b, off + j, none⟩ = some (.int .u8 (at8 l j)) := fun W j h hj => by
        obtain ⟨b', off', e, _, hc⟩ := (hl.below (h.mono hB)).cell hj
        injection e with e
        injection e with e1 e2
        subst e1; subst e2
        exact hc
      have hkm' : x ≤ (m : Int) := by omega
      have hm0 : (0 : Int) < (m : Int) := by omega
      have g0 := at8_lo l 0
      have g1 := at8_hi l 0
      have Hno := Lib.hid hno
      have HP := Lib.hid (fun j (hj : j ≤ 4) => partB_lt l k j hj)
      have c0' : wr.cell? ⟨b, off, none⟩ = some (.int .u8 (at8 l 0)) := hcell wr 0 hbr (by omega)
      clear hno
      rcases (show k = 1 ∨ k = 2 ∨ k = 3 ∨ k = 4 by omega) with rfl | rfl | rfl | rfl
      · obtain rfl : x = 1 := by omega
        clear hxk
        have hm0' : 0 < m := by omega
        have ht : at8 l 0 = ((partB l 1 1 : Nat) : Int) := rfl
        rw [ht] at c0'
        go_wp2
        clear ht c0'
        go_loopw [5, 6] (fun c i wx => ∃ j : Nat, 1 ≤ j ∧ j ≤ 1 ∧ i = .int .i64 j ∧ c = .int .i64 (partB l 1 j : Nat) ∧ Below w.heap.size w wx) (fun c i _ => 8 - (intOf i).toNat)
        case atStart => exact ⟨1, by omega, by omega, rfl, rfl, hbr⟩
        case round =>
          obtain ⟨j, hj1, hjs, rfl, rfl, hbx⟩ := hrel
          by_cases hjl : j < 1
          · have hcj := hcell wr j hbx (by omega)
            have hjm : (j : Int) < (m : Int) := by omega
            have hjm' : j < m := by omega
            have hjl' : (j : Int) < 1 := by omega
            have hj0 : (0 : Int) ≤ (j : Int) := by omega
            have hP1 := HP.out j (by omega)
            have q0 := at8_lo l j
            have q1 := at8_hi l j
            have HQ := Lib.hid (show ((partB l 1 (j + 1) : Nat) : Int) = (partB l 1 j : Nat) * 64 + at8 l j % 64 by rw [partB_succ _ _ _ hj1]; unfold at8; omega)
            generalize partB l 1 j = p at *
            go_wp2
            go_roundw
            case rel => exact ⟨j + 1, by omega, by omega, by go_num, by rw [HQ.out], hbx⟩
            case measure => simp [intOf]; omega
          · obtain rfl : j = 1 := by omega
            clear hjl hj1 hjs
            have hok := Lib.hid (show okK l 1 ↔ (isCp (partB l 1 1) = true ∧ (encL (partB l 1 1)).length = 1 ∧ startsL l (encL (partB l 1 1)) = true) from Iff.rfl)
            have hdec := Lib.hid (fun h : okK l 1 => okK_dec h)
            have Hmore := Lib.hid (fun (h : ¬ okK l 1) (q : Nat) (h1 : 1 ≤ q) (h2 : q < 1 + 1) (h3 : q ≤ m) => if e : q = 1 then e ▸ h else Hno.out q h1 (by omega) h3)
            generalize partB l 1 1 = c at *
            cases hcp : isCp (c : Int)
            · have HN := Lib.hid (Hmore.out (fun h => by have := (hok.out.1 h).1; rw [hcp] at this; cases this))
              have hcall := is_any (c : Int) wr
              rw [hcp] at hcall
              clear hcp
              go_wp2_with fail
              refine hcall.mono ?_
              rintro e w1 ⟨rfl, hw1⟩
              subst hw1
              go_wp2
              go_roundw
              case rel => exact ⟨2, 2, by omega, by omega, by omega, rfl, HN.out, hbx⟩
              case measure => simp [intOf]
            · have hcall := is_any (c : Int) wr
              rw [hcp] at hcall
              have hc2 : c ≤ 1114111 := by have := (isCp_iff _).1 hcp; omega
              have HC := Lib.hid hcp
              clear hcp
              go_wp2_with fail
              refine hcall.mono ?_
              rintro e w1 ⟨rfl, hw1⟩
              subst hw1
              go_wp2_with fail
              refine (bytes_any c hc2 _).mono ?_
              rintro e w2 ⟨A2, n2, c2, rfl, hown2, hb2⟩
              have Hn2 := Lib.hid (show (encL c).length = n2 by have := hown2.1; simpa using this)
              have hb3 : Below w.heap.size w w2 := hbx.trans (hb2.mono hbx.size)
              by_cases hn : n2 = 1
              · subst hn
                have hst := refStarts_any (some ⟨b, off, none⟩) A2 m c0 1 c2 l (encL c) _ _ w2 (hl.below (hb3.mono hB)) (Bytes.own hown2) Hm.out
                cases hs : startsL l (encL c)
                · rw [hs] at hst
                  have HN := Lib.hid (Hmore.out (fun h => by have := (hok.out.1 h).2.2; rw [hs] at this; cases this))
                  clear hs hown2
                  go_wp2_with fail
                  refine hst.mono ?_
                  rintro e w3 ⟨rfl, q3, rfl⟩
                  go_wp2
                  go_roundw
                  case rel => exact ⟨2, 2, by omega, by omega, by omega, rfl, HN.out, below_drewN hb3 _⟩
                  case measure => simp [intOf]
                · rw [hs] at hst
                  have HD := Lib.hid (hdec.out (hok.out.2 ⟨HC.out, Hn2.out, hs⟩))
                  clear hs hown2
                  go_wp2_with fail
                  refine hst.mono ?_
                  rintro e w3 ⟨rfl, q3, rfl⟩
                  go_wp2
                  go_ret2
                  exact ⟨by rw [HD.out]; rfl, below_drewN hb3 _⟩
              · have HN := Lib.hid (Hmore.out (fun h => hn (by have := (hok.out.1 h).2.1; rw [Hn2.out] at this; exact this)))
                have hne : ((n2 : Int) == 1) = false := by rw [beq_eq_false_iff_ne]; omega
                clear hn hown2
                go_wp2
                go_roundw
                case rel => exact ⟨2, 2, by omega, by omega, by omega, rfl, HN.out, hb3⟩
                case measure => simp [intOf]
      · obtain rfl : x = 2 := by omega
        clear hxk
        have hm0' : 0 < m := by omega
        have ht : Int.tmod (at8 l 0) 32 = ((partB l 2 1 : Nat) : Int) := by
          rw [Int.tmod_eq_emod_of_nonneg g0]
          show _ = (((l.getD 0 0).toNat % 32 : Nat) : Int)
          unfold at8
          omega
        have c0b : (wr.alloc (.cells #[.int .i64 1, .int .i64 1, .int .i64 32, .int .i64 16, .int .i64 8] 3)).cell? ⟨b, off, none⟩ = some (.int .u8 (at8 l 0)) := hcell _ 0 (hbr.alloc hbr.size _) (by omega)
        go_wp2
        go_region
        go_wp2
        clear ht c0b c0'
        go_loopw [5, 6] (fun c i wx => ∃ j : Nat, 1 ≤ j ∧ j ≤ 2 ∧ i = .int .i64 j ∧ c = .int .i64 (partB l 2 j : Nat) ∧ Below w.heap.size w wx) (fun c i _ => 8 - (intOf i).toNat)
        case atStart => exact ⟨1, by omega, by omega, rfl, rfl, (hbr.alloc hbr.size _).drew⟩
        case round =>
          obtain ⟨j, hj1, hjs, rfl, rfl, hbx⟩ := hrel
          by_cases hjl : j < 2
          · have hcj := hcell wr j hbx (by omega)
            have hjm : (j : Int) < (m : Int) := by omega
            have hjm' : j < m := by omega
            have hjl' : (j : Int) < 2 := by omega
            have hj0 : (0 : Int) ≤ (j : Int) := by omega
            have hP1 := HP.out j (by omega)
            have q0 := at8_lo l j
            have q1 := at8_hi l j
            have HQ := Lib.hid (show ((partB l 2 (j + 1) : Nat) : Int) = (partB l 2 j : Nat) * 64 + at8 l j % 64 by rw [partB_succ _ _ _ hj1]; unfold at8; omega)
            generalize partB l 2 j = p at *
            go_wp2
            go_roundw
            case rel => exact ⟨j + 1, by omega, by omega, by go_num, by rw [HQ.out], hbx⟩
            case measure => simp [intOf]; omega
          · obtain rfl : j = 2 := by omega
            clear hjl hj1 hjs
            have hok := Lib.hid (show okK l 2 ↔ (isCp (partB l 2 2) = true ∧ (encL (partB l 2 2)).length = 2 ∧ startsL l (encL (partB l 2 2)) = true) from Iff.rfl)
            have hdec := Lib.hid (fun h : okK l 2 => okK_dec h)
            have Hmore := Lib.hid (fun (h : ¬ okK l 2) (q : Nat) (h1 : 1 ≤ q) (h2 : q < 2 + 1) (h3 : q ≤ m) => if e : q = 2 then e ▸ h else Hno.out q h1 (by omega) h3)
            generalize partB l 2 2 = c at *
            cases hcp : isCp (c : Int)
            · have HN := Lib.hid (Hmore.out (fun h => by have := (hok.out.1 h).1; rw [hcp] at this; cases this))
              have hcall := is_any (c : Int) wr
              rw [hcp] at hcall
              clear hcp
              go_wp2_with fail
              refine hcall.mono ?_
              rintro e w1 ⟨rfl, hw1⟩
              subst hw1
              go_wp2
              go_roundw
              case rel => exact ⟨3, 3, by omega, by omega, by omega, rfl, HN.out, hbx⟩
              case measure => simp [intOf]
            · have hcall := is_any (c : Int) wr
              rw [hcp] at hcall
              have hc2 : c ≤ 1114111 := by have := (isCp_iff _).1 hcp; omega
              have HC := Lib.hid hcp
              clear hcp
              go_wp2_with fail
              refine hcall.mono ?_
              rintro e w1 ⟨rfl, hw1⟩
              subst hw1
              go_wp2_with fail
              refine (bytes_any c hc2 _).mono ?_
              rintro e w2 ⟨A2, n2, c2, rfl, hown2, hb2⟩
              have Hn2 := Lib.hid (show (encL c).length = n2 by have := hown2.1; simpa using this)
              have hb3 : Below w.heap.size w w2 := hbx.trans (hb2.mono hbx.size)
              by_cases hn : n2 = 2
              · subst hn
                have hst := refStarts_any (some ⟨b, off, none⟩) A2 m c0 2 c2 l (encL c) _ _ w2 (hl.below (hb3.mono hB)) (Bytes.own hown2) Hm.out
                cases hs : startsL l (encL c)
                · rw [hs] at hst
                  have HN := Lib.hid (Hmore.out (fun h => by have := (hok.out.1 h).2.2; rw [hs] at this; cases this))
                  clear hs hown2
                  go_wp2_with fail
                  refine hst.mono ?_
                  rintro e w3 ⟨rfl, q3, rfl⟩
                  go_wp2
                  go_roundw
                  case rel => exact ⟨3, 3, by omega, by omega, by omega, rfl, HN.out, below_drewN hb3 _⟩
                  case measure => simp [intOf]
                · rw [hs] at hst
                  have HD := Lib.hid (hdec.out (hok.out.2 ⟨HC.out, Hn2.out, hs⟩))
                  clear hs hown2
                  go_wp2_with fail
                  refine hst.mono ?_
                  rintro e w3 ⟨rfl, q3, rfl⟩
                  go_wp2
                  go_ret2
                  exact ⟨by rw [HD.out]; rfl, below_drewN hb3 _⟩
              · have HN := Lib.hid (Hmore.out (fun h => hn (by have := (hok.out.1 h).2.1; rw [Hn2.out] at this; exact this)))
                have hne : ((n2 : Int) == 2) = false := by rw [beq_eq_false_iff_ne]; omega
                clear hn hown2
                go_wp2
                go_roundw
                case rel => exact ⟨3, 3, by omega, by omega, by omega, rfl, HN.out, hb3⟩
                case measure => simp [intOf]
      · obtain rfl : x = 3 := by omega
        clear hxk
        have hm0' : 0 < m := by omega
        have ht : Int.tmod (at8 l 0) 16 = ((partB l 3 1 : Nat) : Int) := by
          rw [Int.tmod_eq_emod_of_nonneg g0]
          show _ = (((l.getD 0 0).toNat % 16 : Nat) : Int)
          unfold at8
          omega
        have c0b : (wr.alloc (.cells #[.int .i64 1, .int .i64 1, .int .i64 32, .int .i64 16, .int .i64 8] 3)).cell? ⟨b, off, none⟩ = some (.int .u8 (at8 l 0)) := hcell _ 0 (hbr.alloc hbr.size _) (by omega)
        go_wp2
        go_region
        go_wp2
        clear ht c0b c0'
        go_loopw [5, 6] (fun c i wx => ∃ j : Nat, 1 ≤ j ∧ j ≤ 3 ∧ i = .int .i64 j ∧ c = .int .i64 (partB l 3 j : Nat) ∧ Below w.heap.size w wx) (fun c i _ => 8 - (intOf i).toNat)
        case atStart => exact ⟨1, by omega, by omega, rfl, rfl, (hbr.alloc hbr.size _).drew⟩
        case round =>
          obtain ⟨j, hj1, hjs, rfl, rfl, hbx⟩ := hrel
          by_cases hjl : j < 3
          · have hcj := hcell wr j hbx (by omega)
            have hjm : (j : Int) < (m : Int) := by omega
            have hjm' : j < m := by omega
            have hjl' : (j : Int) < 3 := by omega
            have hj0 : (0 : Int) ≤ (j : Int) := by omega
            have hP1 := HP.out j (by omega)
            have q0 := at8_lo l j
            have q1 := at8_hi l j
            have HQ := Lib.hid (show ((partB l 3 (j + 1) : Nat) : Int) = (partB l 3 j : Nat) * 64 + at8 l j % 64 by rw [partB_succ _ _ _ hj1]; unfold at8; omega)
            generalize partB l 3 j = p at *
            go_wp2
            go_roundw
            case rel => exact ⟨j + 1, by omega, by omega, by go_num, by rw [HQ.out], hbx⟩
            case measure => simp [intOf]; omega
          · obtain rfl : j = 3 := by omega
            clear hjl hj1 hjs
            have hok := Lib.hid (show okK l 3 ↔ (isCp (partB l 3 3) = true ∧ (encL (partB l 3 3)).length = 3 ∧ startsL l (encL (partB l 3 3)) = true) from Iff.rfl)
            have hdec := Lib.hid (fun h : okK l 3 => okK_dec h)
            have Hmore := Lib.hid (fun (h : ¬ okK l 3) (q : Nat) (h1 : 1 ≤ q) (h2 : q < 3 + 1) (h3 : q ≤ m) => if e : q = 3 then e ▸ h else Hno.out q h1 (by omega) h3)
            generalize partB l 3 3 = c at *
            cases hcp : isCp (c : Int)
            · have HN := Lib.hid (Hmore.out (fun h => by have := (hok.out.1 h).1; rw [hcp] at this; cases this))
              have hcall := is_any (c : Int) wr
              rw [hcp] at hcall
              clear hcp
              go_wp2_with fail
              refine hcall.mono ?_
              rintro e w1 ⟨rfl, hw1⟩
              subst hw1
              go_wp2
              go_roundw
              case rel => exact ⟨4, 4, by omega, by omega, by omega, rfl, HN.out, hbx⟩
              case measure => simp [intOf]
            · have hcall := is_any (c : Int) wr
              rw [hcp] at hcall
              have hc2 : c ≤ 1114111 := by have := (isCp_iff _).1 hcp; omega
              have HC := Lib.hid hcp
              clear hcp
              go_wp2_with fail
              refine hcall.mono ?_
              rintro e w1 ⟨rfl, hw1⟩
              subst hw1
              go_wp2_with fail
              refine (bytes_any c hc2 _).mono ?_
              rintro e w2 ⟨A2, n2, c2, rfl, hown2, hb2⟩
              have Hn2 := Lib.hid (show (encL c).length = n2 by have := hown2.1; simpa using this)
              have hb3 : Below w.heap.size w w2 := hbx.trans (hb2.mono hbx.size)
              by_cases hn : n2 = 3
              · subst hn
                have hst := refStarts_any (some ⟨b, off, none⟩) A2 m c0 3 c2 l (encL c) _ _ w2 (hl.below (hb3.mono hB)) (Bytes.own hown2) Hm.out
                cases hs : startsL l (encL c)
                · rw [hs] at hst
                  have HN := Lib.hid (Hmore.out (fun h => by have := (hok.out.1 h).2.2; rw [hs] at this; cases this))
                  clear hs hown2
                  go_wp2_with fail
                  refine hst.mono ?_
                  rintro e w3 ⟨rfl, q3, rfl⟩
                  go_wp2
                  go_roundw
                  case rel => exact ⟨4, 4, by omega, by omega, by omega, rfl, HN.out, below_drewN hb3 _⟩
                  case measure => simp [intOf]
                · rw [hs] at hst
                  have HD := Lib.hid (hdec.out (hok.out.2 ⟨HC.out, Hn2.out, hs⟩))
                  clear hs hown2
                  go_wp2_with fail
                  refine hst.mono ?_
                  rintro e w3 ⟨rfl, q3, rfl⟩
                  go_wp2
                  go_ret2
                  exact ⟨by rw [HD.out]; rfl, below_drewN hb3 _⟩
              · have HN := Lib.hid (Hmore.out (fun h => hn (by have := (hok.out.1 h).2.1; rw [Hn2.out] at this; exact this)))
                have hne : ((n2 : Int) == 3) = false := by rw [beq_eq_false_iff_ne]; omega
                clear hn hown2
                go_wp2
                go_roundw
                case rel => exact ⟨4, 4, by omega, by omega, by omega, rfl, HN.out, hb3⟩
                case measure => simp [intOf]
      · obtain rfl : x = 4 := by omega
        clear hxk
        have hm0' : 0 < m := by omega
        have ht : Int.tmod (at8 l 0) 8 = ((partB l 4 1 : Nat) : Int) := by
          rw [Int.tmod_eq_emod_of_nonneg g0]
          show _ = (((l.getD 0 0).toNat % 8 : Nat) : Int)
          unfold at8
          omega
        have c0b : (wr.alloc (.cells #[.int .i64 1, .int .i64 1, .int .i64 32, .int .i64 16, .int .i64 8] 3)).cell? ⟨b, off, none⟩ = some (.int .u8 (at8 l 0)) := hcell _ 0 (hbr.alloc hbr.size _) (by omega)
        go_wp2
        go_region
        go_wp2
        clear ht c0b c0'
        go_loopw [5, 6] (fun c i wx => ∃ j : Nat, 1 ≤ j ∧ j ≤ 4 ∧ i = .int .i64 j ∧ c = .int .i64 (partB l 4 j : Nat) ∧ Below w.heap.size w wx) (fun c i _ => 8 - (intOf i).toNat)
        case atStart => exact ⟨1, by omega, by omega, rfl, rfl, (hbr.alloc hbr.size _).drew⟩
        case round =>
          obtain ⟨j, hj1, hjs, rfl, rfl, hbx⟩ := hrel
          by_cases hjl : j < 4
          · have hcj := hcell wr j hbx (by omega)
            have hjm : (j : Int) < (m : Int) := by omega
            have hjm' : j < m := by omega
            have hjl' : (j : Int) < 4 := by omega
            have hj0 : (0 : Int) ≤ (j : Int) := by omega
            have hP1 := HP.out j (by omega)
            have q0 := at8_lo l j
            have q1 := at8_hi l j
            have HQ := Lib.hid (show ((partB l 4 (j + 1) : Nat) : Int) = (partB l 4 j : Nat) * 64 + at8 l j % 64 by rw [partB_succ _ _ _ hj1]; unfold at8; omega)
            generalize partB l 4 j = p at *
            go_wp2
            go_roundw
            case rel => exact ⟨j + 1, by omega, by omega, by go_num, by rw [HQ.out], hbx⟩
            case measure => simp [intOf]; omega
          · obtain rfl : j = 4 := by omega
            clear hjl hj1 hjs
            have hok := Lib.hid (show okK l 4 ↔ (isCp (partB l 4 4) = true ∧ (encL (partB l 4 4)).length = 4 ∧ startsL l (encL (partB l 4 4)) = true) from Iff.rfl)
            have hdec := Lib.hid (fun h : okK l 4 => okK_dec h)
            have Hmore := Lib.hid (fun (h : ¬ okK l 4) (q : Nat) (h1 : 1 ≤ q) (h2 : q < 4 + 1) (h3 : q ≤ m) => if e : q = 4 then e ▸ h else Hno.out q h1 (by omega) h3)
            generalize partB l 4 4 = c at *
            cases hcp : isCp (c : Int)
            · have HN := Lib.hid (Hmore.out (fun h => by have := (hok.out.1 h).1; rw [hcp] at this; cases this))
              have hcall := is_any (c : Int) wr
              rw [hcp] at hcall
              clear hcp
              go_wp2_with fail
              refine hcall.mono ?_
              rintro e w1 ⟨rfl, hw1⟩
              subst hw1
              go_wp2
              go_roundw
              case rel => exact ⟨5, 5, by omega, by omega, by omega, rfl, HN.out, hbx⟩
              case measure => simp [intOf]
            · have hcall := is_any (c : Int) wr
              rw [hcp] at hcall
              have hc2 : c ≤ 1114111 := by have := (isCp_iff _).1 hcp; omega
              have HC := Lib.hid hcp
              clear hcp
              go_wp2_with fail
              refine hcall.mono ?_
              rintro e w1 ⟨rfl, hw1⟩
              subst hw1
              go_wp2_with fail
              refine (bytes_any c hc2 _).mono ?_
              rintro e w2 ⟨A2, n2, c2, rfl, hown2, hb2⟩
              have Hn2 := Lib.hid (show (encL c).length = n2 by have := hown2.1; simpa using this)
              have hb3 : Below w.heap.size w w2 := hbx.trans (hb2.mono hbx.size)
              by_cases hn : n2 = 4
              · subst hn
                have hst := refStarts_any (some ⟨b, off, none⟩) A2 m c0 4 c2 l (encL c) _ _ w2 (hl.below (hb3.mono hB)) (Bytes.own hown2) Hm.out
                cases hs : startsL l (encL c)
                · rw [hs] at hst
                  have HN := Lib.hid (Hmore.out (fun h => by have := (hok.out.1 h).2.2; rw [hs] at this; cases this))
                  clear hs hown2
                  go_wp2_with fail
                  refine hst.mono ?_
                  rintro e w3 ⟨rfl, q3, rfl⟩
                  go_wp2
                  go_roundw
                  case rel => exact ⟨5, 5, by omega, by omega, by omega, rfl, HN.out, below_drewN hb3 _⟩
                  case measure => simp [intOf]
                · rw [hs] at hst
                  have HD := Lib.hid (hdec.out (hok.out.2 ⟨HC.out, Hn2.out, hs⟩))
                  clear hs hown2
                  go_wp2_with fail
                  refine hst.mono ?_
                  rintro e w3 ⟨rfl, q3, rfl⟩
                  go_wp2
                  go_ret2
                  exact ⟨by rw [HD.out]; rfl, below_drewN hb3 _⟩
              · have HN := Lib.hid (Hmore.out (fun h => hn (by have := (hok.out.1 h).2.1; rw [Hn2.out] at this; exact this)))
                have hne : ((n2 : Int) == 4) = false := by rw [beq_eq_false_iff_ne]; omega
                clear hn hown2
                go_wp2
                go_roundw
                case rel => exact ⟨5, 5, by omega, by omega, by omega, rfl, HN.out, hb3⟩
                case measure => simp [intOf]
    · have HZ := Lib.hid (show decL l = (0, 0) by
        by_cases h0 : (decL l).2 = 0
        · exact dec_zero h0
        · have h1 := dec_le l
          have h2 := dec_le4 l
          rw [Hlen.out] at h1
          exact absurd (dec_okK rfl h0) (hno _ (by omega) (by omega) h1))
      clear hno
      by_cases hk4 : k ≤ 4
      · have hx4 : x ≤ 4 := by omega
        have hxm : ¬ x ≤ (m : Int) := by omega
        go_wp2
        go_ret2
        exact ⟨by rw [HZ.out]; rfl, hbr⟩
      · have hx4 : ¬ x ≤ 4 := by omega
        go_wp2
        go_ret2
        exact ⟨by rw [HZ.out]; rfl, hbr⟩
end Go.Proofs.Ytinaecmpigenoaa
/-
  The reference's Points (layer 1).
-/
namespace Go.Proofs.Ytinaecmpigenoaa
open Go.RowKit

/-- What the reference's Points tells. -/
def GivesPts (l : List UInt8) (W : World) (e : Ending) (w' : World) : Prop :=
  ∃ A n c, w'.ownsRow W.heap.size 3 1 (.slice A n c) n ((if (ptsL l).2 = l.length then nats (ptsL l).1 else []).map iv) ∧ Below W.heap.size W w' ∧
    e = .returned (if (ptsL l).2 = l.length then .tuple #[.slice A n c, .int .i64 0, .bool true] else .tuple #[.slice A n c, .int .i64 ((ptsL l).2 : Int), .bool false])
set_option maxRecDepth 20000 in
set_option maxHeartbeats 2000000 in
theorem refPoints_any (A : Option Addr) (m c0 B : Nat) (l : List UInt8) (w : World) (hl : Bytes w B A m l) (hB : B ≤ w.heap.size) (hm : m ≤ 1048576) (hmc : m ≤ c0) (hc : c0 ≤ maxLen) :
    Calls Try.prog 57 #[.slice A m c0] w (GivesPts l w) := by
  obtain ⟨i0, hi, hz0, hz1, hz2⟩ := i64_info
  have Hlen := Lib.hid hl.len
  unfold maxLen at hc
  go_enter Try.func57, Try.ntmps57
  go_wp2
  go_loopw [5, 6] (fun o a wr => ∃ (p : Nat) (pre : List Nat) (A' : Option Addr) (n' c' : Nat), p ≤ m ∧ a = .int .i64 p ∧ o = .slice A' n' c' ∧ wr.ownsRow w.heap.size 3 1 (.slice A' n' c') n' ((nats pre).map iv) ∧ ptsL l = (pre ++ (ptsL (l.drop p)).1, p + (ptsL (l.drop p)).2) ∧ n' ≤ p ∧ Below w.heap.size w wr) (fun _ a _ => m - (intOf a).toNat)
  case atStart => exact ⟨0, [], none, 0, 0, by omega, rfl, rfl, World.ownsRow_nil _ _ _ _, by simp, by simp, Below.refl _ _⟩
  case round =>
    obtain ⟨p, pre, A', n', c', hp, rfl, rfl, hown, hP, hnp, hbr⟩ := hrel
    have HP := Lib.hid hP
    have hsw := hbr.size
    clear hP
    by_cases hlt : p < m
    · have hcut := (hl.below (hbr.mono hB)).cut (k := p) (cap := c0) (by omega) hmc
      have hne : ¬ c0 = p := by omega
      rw [if_neg hne] at hcut
      have i0' : (0 : Int) ≤ (p : Int) := by omega
      have i1 : (p : Int) ≤ (m : Int) := by omega
      have i2 : (m : Int) ≤ (c0 : Int) := by omega
      have i3 : (p : Int) < (m : Int) := by omega
      have hle := dec_le (l.drop p)
      rw [List.length_drop, Hlen.out] at hle
      have hbeg := begin_any (A.map (·.add p)) (m - p) (c0 - p) B (l.drop p) wr hcut (by omega) (by unfold maxLen; omega)
      rcases Nat.eq_zero_or_pos (decL (l.drop p)).2 with h | h
      · have HQ := Lib.hid (show ptsL l = (pre, p) by rw [HP.out, pts_zero h]; simp)
        rw [dec_zero h] at hbeg
        clear h
        go_wp2_with fail
        refine hbeg.mono ?_
        rintro e w1 ⟨rfl, hb1⟩
        go_wp2
        go_ret3
        have e1 := HQ.out
        have hne : (ptsL l).2 ≠ l.length := by rw [e1, Hlen.out]; simp only; omega
        refine ⟨none, 0, 0, ?_, bel_next hbr hb1, ?_⟩
        · rw [if_neg hne]; exact World.ownsRow_nil _ _ _ _
        · rw [if_neg hne, e1]; rfl
      · have HQ := Lib.hid (show ptsL l = ((pre ++ [(decL (l.drop p)).1]) ++ (ptsL (l.drop (p + (decL (l.drop p)).2))).1, (p + (decL (l.drop p)).2) + (ptsL (l.drop (p + (decL (l.drop p)).2))).2) by
          rw [HP.out, pts_step (l := l.drop p) (by omega), List.drop_drop]
          simp [Nat.add_assoc])
        generalize (decL (l.drop p)).1 = c at *
        generalize (decL (l.drop p)).2 = k at *
        have hk0 : ((k : Int) == 0) = false := by rw [beq_eq_false_iff_ne]; omega
        clear HP
        go_wp2_with fail
        refine hbeg.mono ?_
        rintro e w1 ⟨rfl, hb1⟩
        have hown1 := own_below hown hb1
        have hs1 := hb1.size
        have hnew : Shows (w1.alloc (.cells #[.int .i64 (c : Int)] 3)) (w1.heap.size + 1) 1 (some ⟨w1.heap.size, 0, none⟩) 1 [.int .i64 (c : Int)] := ints_new w1 [(c : Int)] _ _ _ rfl
        go_wp2_with (at_builtin; refine wpList_append_shows _ rfl _ _ 56 rfl w.heap.size 3 i0 (.int .i64 0) 1 8 Try.underlying56 hi hz0 hz1 hz2 rfl (by decide) _ _ _ rfl (hown1.alloc _) (w1.heap.size + 1) _ 1 1 [.int .i64 (c : Int)] rfl hnew (by simp [Value.oneCell']) (by unfold maxLen; omega) (by omega) (by simp; omega) ?_; intro A7 c7 w7 hown7 hgrow7 hb7)
        go_roundw
        case rel => exact ⟨p + k, pre ++ [c], A7, n' + 1, c7, by omega, by go_num, rfl, by rw [nats_snoc, List.map_append]; exact hown7, HQ.out, by omega, ((bel_next hbr hb1).alloc (by omega) _).trans hb7⟩
        case measure => simp [intOf]; omega
    · have hk : p = m := by omega
      have HQ := Lib.hid (show ptsL l = (pre, p) by rw [HP.out, List.drop_of_length_le (by rw [Hlen.out]; omega), pts_zero (l := []) rfl]; simp)
      have e2 := Lib.hid (show p = l.length by rw [Hlen.out]; exact hk)
      clear hk
      go_wp2
      go_ret3
      have e1 := HQ.out
      have he : (ptsL l).2 = l.length := by rw [e1]; exact e2.out
      refine ⟨A', n', c', ?_, hbr, ?_⟩
      · rw [if_pos he, e1]; exact hown
      · rw [if_pos he]; rfl

end Go.Proofs.Ytinaecmpigenoaa
/-
  '[]byte(s)': a row of the call's own that shows the string's bytes; a string's front. No program in sight.
-/
namespace Go.Proofs.Ytinaecmpigenoaa
open Go.RowKit

theorem below_draw_alloc (w : World) (o : Obj) : Below w.heap.size w (w.drew.alloc o) := below_undrew ((Below.refl w.heap.size w.drew).alloc (Nat.le_refl _) o)
theorem string_bytes {P : Program} {src dst e : TypeId} (hs : P.underlying src = some .string) (hd : P.underlying dst = some (.slice e)) (he : P.underlying e = some (.int .u8)) (s : ByteArray) (l : List UInt8) (hl : s.data.toList = l) (hm : s.size ≤ maxLen) (w : World) :
    ∃ c w', (convert src dst (.string s)).run P w = .ok (.slice (some ⟨w.heap.size, 0, none⟩) l.length c) w' ∧ Bytes w' w'.heap.size (some ⟨w.heap.size, 0, none⟩) l.length l ∧ l.length ≤ c ∧ c ≤ maxLen ∧ Below w.heap.size w w' := by
  have hsz : s.size = l.length := by rw [← hl, Array.length_toList]; rfl
  rw [hsz] at hm
  have hrun := run_bytes_of_string (P := P) w src dst e s hs hd he
  rw [hsz] at hrun
  have hge := grownCap_ge w l.length 0 e
  refine ⟨_, _, hrun, ?_, hge, grownCap_le_maxLen w l.length 0 e hm, below_draw_alloc w _⟩
  refine ⟨by simp, fun hn => ⟨w.heap.size, 0, rfl, by simp [World.alloc, World.drew, -World.alloc_eq, -World.drew_eq], fun j u hu => ?_⟩⟩
  have h2 := World.cell?_alloc_mark w.drew (bytesRow s (grownCap w l.length 0 e)) e ((bytesRow s (grownCap w l.length 0 e)).size, (bytesRow s (grownCap w l.length 0 e)).size + 1) j
  rw [Nat.zero_add]
  refine h2.trans ?_
  have hj : j < l.length := by
    have := (List.getElem?_eq_some_iff.1 hu).1
    simpa using this
  unfold bytesRow
  rw [Array.getElem?_append_left (by simp; rw [← hl] at hj; simpa using hj)]
  rw [List.getElem?_map] at hu
  rw [Array.getElem?_map, ← Array.getElem?_toList, hl, ← hu]
  rfl
/-- A string's front. -/
theorem front_str (s : ByteArray) (l : List UInt8) (k : Nat) (hl : s.data.toList = l) : (s.extract 0 k).data.toList = l.take k := by
  rw [← hl]
  simp [ByteArray.data_extract, Array.toList_extract, List.extract]
theorem str_size (s : ByteArray) (l : List UInt8) (hl : s.data.toList = l) : s.size = l.length := by rw [← hl, Array.length_toList]; rfl
end Go.Proofs.Ytinaecmpigenoaa
/-
  Layer 4, the reference: Valid (layer 1's), alone.
-/
namespace Go.Proofs.Ytinaecmpigenoaa
open Go.RowKit
set_option linter.unusedVariables false

/-- Each string in a value is at most so long. -/
inductive Sml (N : Nat) : VT → Prop
  | mk {k n s cA cn cc kA kn kc keys kids} (hs : s.size ≤ N) (hk : ∀ x ∈ keys, x.size ≤ N) (h : ∀ x ∈ kids, Sml N x) : Sml N (.mk k n s cA cn cc kA kn kc keys kids)
set_option maxRecDepth 20000 in
theorem rvalid_any (s : ByteArray) (w : World) (hs : s.size ≤ 1048576) :
    Calls Try.prog 56 #[.string s] w fun e w' => e = .returned (.bool (validS s)) ∧ Below w.heap.size w w' := by
  obtain ⟨c, w1, hrun, hby, h1, h2, hb1⟩ := string_bytes (P := Try.prog) Try.underlying9 Try.underlying25 Try.underlying5 s s.data.toList rfl (by unfold maxLen; omega) w
  have hsz : s.data.toList.length = s.size := by rw [Array.length_toList]; rfl
  have hp := refPoints_any _ _ c _ s.data.toList w1 hby (Nat.le_refl _) (by omega) h1 h2
  have hv : validS s = decide ((ptsL s.data.toList).2 = s.data.toList.length) := rfl
  have Hv := Lib.hid hv
  clear hv hby h1 h2 hsz
  go_enter Try.func56, Try.ntmps56
  go_wp2_with fail
  refine hp.mono ?_
  rintro e w2 ⟨A, n, c2, hown, hb2, rfl⟩
  have hb3 := bel_next hb1 hb2
  clear hp hrun hown
  by_cases h : (ptsL s.data.toList).2 = s.data.toList.length
  · rw [if_pos h]
    go_wp2
    go_ret
    exact ⟨by rw [Hv.out, decide_eq_true h]; rfl, hb3⟩
  · rw [if_neg h]
    go_wp2
    go_ret
    exact ⟨by rw [Hv.out, decide_eq_false h]; rfl, hb3⟩
end Go.Proofs.Ytinaecmpigenoaa
