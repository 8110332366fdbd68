/-
  Layer 2, the reference: Letter, Four.
-/
import Derived.Test.YtgnialemiefeeaaDoorQuoT
namespace Go.Proofs.YtgnialemiefeeaaDoor
open Go.RowKit

set_option maxRecDepth 20000 in
theorem index_sig (k : Nat) (hk : k < 8) : ∀ w, (Instr.index 9 (.string ⟨#[34, 92, 47, 98, 102, 110, 114, 116]⟩) (.int .i64 (k : Int))).run Tryd.prog w = .ok (.int .u8 (el k)) w := by
  match k, hk with
  | 0, _ => exact fun _ => by kernel_rfl
  | 1, _ => exact fun _ => by kernel_rfl
  | 2, _ => exact fun _ => by kernel_rfl
  | 3, _ => exact fun _ => by kernel_rfl
  | 4, _ => exact fun _ => by kernel_rfl
  | 5, _ => exact fun _ => by kernel_rfl
  | 6, _ => exact fun _ => by kernel_rfl
  | 7, _ => exact fun _ => by kernel_rfl
def saysV : Array Value := #[.int .i64 34, .int .i64 92, .int .i64 47, .int .i64 8, .int .i64 12, .int .i64 10, .int .i64 13, .int .i64 9]
theorem says_at (k : Nat) (hk : k < 8) : saysV.toList[k]? = some (.int .i64 (ec k)) := by
  match k, hk with
  | 0, _ => rfl
  | 1, _ => rfl
  | 2, _ => rfl
  | 3, _ => rfl
  | 4, _ => rfl
  | 5, _ => rfl
  | 6, _ => rfl
  | 7, _ => rfl
set_option maxRecDepth 20000 in
set_option maxHeartbeats 1000000 in
theorem letter_any (c : Nat) (w : World) :
    Calls Tryd.prog 34 #[.int .u8 (c : Int)] w fun e w' => e = .returned (.int .i64 (optI (letL c))) ∧ Below w.heap.size w w' := by
  have hb := (Below.refl w.heap.size w).alloc (Nat.le_refl _) (.cells saysV 3)
  have hsv : ∀ k, k < 8 → (w.alloc (.cells saysV 3)).cell? ⟨w.heap.size, k, none⟩ = some (.int .i64 (ec k)) := fun k hk => (Box.new w saysV 3 k _ (says_at k hk)).1
  unfold saysV at hb hsv
  go_enter Tryd.func34, Tryd.ntmps34
  go_wp2
  go_loop [5] (fun i => ∃ k : Nat, k ≤ 8 ∧ i = .int .i64 k ∧ (∀ j, j < k → el j ≠ c)) (fun i => 8 - (intOf i).toNat)
  case atStart => exact ⟨0, by omega, rfl, fun j hj => by omega⟩
  case round =>
    obtain ⟨k, hk, rfl, hP⟩ := hrel
    by_cases hlt : k < 8
    · have hk4 : (k : Int) < 8 := by omega
      have hk0 : (0 : Int) ≤ k := by omega
      have hidx := index_sig k hlt
      have hcl := hsv k hlt
      by_cases hq : el k = c
      · have HR := Lib.hid (show letL c = some (ec k) by rw [← hq]; exact el_yes hlt)
        have hq' : ((el k : Int) == (c : Int)) = true := by rw [hq]; simp
        clear hP hq hlt hsv
        generalize el k = x0 at *
        generalize ec k = x1 at *
        go_wp2
        go_ret
        exact ⟨by rw [HR.out]; rfl, hb⟩
      · have HP := Lib.hid (show ∀ j, j < k + 1 → el j ≠ c from fun j hj => if e : j = k then e ▸ hq else hP j (by omega))
        have hq' : ((el k : Int) == (c : Int)) = false := by rw [beq_eq_false_iff_ne]; omega
        clear hP hq hlt hsv
        generalize el k = x0 at *
        generalize ec k = x1 at *
        go_wp2
        go_round
        case rel => exact ⟨k + 1, by omega, by go_num, HP.out⟩
        case measure => simp [intOf]; omega
    · have HR := Lib.hid (el_no (x := c) (fun j hj => hP j (by omega)))
      have hk8 : k = 8 := by omega
      subst hk8
      clear hP hlt hsv
      go_wp2
      go_ret
      exact ⟨by rw [HR.out]; rfl, hb⟩

theorem hx_step (l : List UInt8) (k : Nat) (h : 2 ≤ k) : hx (l.drop 2) (k + 1 - 2) = hx (l.drop 2) (k - 2) * 16 + hexD (at0 l k) := by
  obtain ⟨j, rfl⟩ : ∃ j, k = j + 2 := ⟨k - 2, by omega⟩
  rw [show j + 2 + 1 - 2 = j + 1 by omega, show j + 2 - 2 = j by omega]
  show hx (l.drop 2) j * 16 + hexD (at0 (l.drop 2) j) = _
  rw [at0_drop, Nat.add_comm 2 j]
set_option maxRecDepth 20000 in
set_option maxHeartbeats 1000000 in
theorem four_any (A : Option Addr) (m c0 B : Nat) (l : List UInt8) (w : World) (hl : Bytes w B A m l) (hm : m ≤ maxLen) :
    Calls Tryd.prog 35 #[.slice A m c0] w fun e w' => e = .returned (.int .i64 (optI (fourL l))) ∧ w' = w := by
  unfold maxLen at hm
  have hlen := Lib.hid hl.len
  by_cases h6 : m < 6
  · have HR := Lib.hid (show fourL l = none by
      unfold fourL
      split
      · exact hex_short (by rw [List.length_drop, hlen.out]; omega)
      · rfl)
    have h6' : (m : Int) < 6 := by omega
    clear hl
    go_enter Tryd.func35, Tryd.ntmps35
    go_wp2
    go_ret
    exact ⟨by rw [HR.out]; rfl, rfl⟩
  · have h6' : ((m : Int) < 6) = False := by simp; omega
    obtain ⟨b, off, rfl, hbB, _⟩ := hl.cell (k := 0) (by omega)
    have hcell : ∀ (j : Nat), j < m → w.cell? ⟨b, off + j, none⟩ = some (.int .u8 (at0 l j : Nat)) := fun j hj => by
      obtain ⟨b', off', e, _, hc⟩ := hl.cell hj
      injection e with e
      injection e with e1 e2
      subst e1; subst e2
      exact hc
    have hc0 := hcell 0 (by omega)
    have hc1 := hcell 1 (by omega)
    rw [Nat.add_zero] at hc0
    have hx0 := at0_lt l 0
    have hx1 := at0_lt l 1
    by_cases hc : at0 l 0 = 92 ∧ at0 l 1 = 117
    · have Hf := Lib.hid (show fourL l = hexL (l.drop 2) from if_pos ⟨by rw [hlen.out]; omega, hc⟩)
      have hdl : 4 ≤ (l.drop 2).length := by rw [List.length_drop, hlen.out]; omega
      rw [hc.1] at hc0
      rw [hc.2] at hc1
      have hm6 : (6 : Int) ≤ m := by omega
      clear hc hx0 hx1 hl hbB
      go_enter Tryd.func35, Tryd.ntmps35
      go_wp2
      clear hc0 hc1
      go_loop [3, 4] (fun n i => ∃ k : Nat, 2 ≤ k ∧ k ≤ 6 ∧ i = .int .i64 k ∧ n = .int .i64 (hx (l.drop 2) (k - 2) : Nat) ∧ (∀ q, q < k - 2 → hexD (at0 (l.drop 2) q) < 16)) (fun _ i => 8 - (intOf i).toNat)
      case atStart => exact ⟨2, by omega, by omega, rfl, rfl, fun q h => by omega⟩
      case round =>
        obtain ⟨k, hk2, hk, rfl, rfl, hq⟩ := hrel
        have Hlt := Lib.hid (hx_lt (l.drop 2) (k - 2) hq (by omega))
        by_cases hk6 : k < 6
        · have hk6' : (k : Int) < 6 := by omega
          have hk0 : (0 : Int) ≤ k := by omega
          have hkm : (k : Int) < m := by omega
          have hck := hcell k (by omega)
          have hxk := at0_lt l k
          have hcall := fun W => digit_any (at0 l k) hxk W
          have Hstep := Lib.hid (hx_step l k hk2)
          have hd2 : at0 (l.drop 2) (k - 2) = at0 l k := by rw [at0_drop]; congr 1; omega
          have Hin := Lib.hid (fun h : hexD (at0 l k) < 16 => show ∀ q, q < k + 1 - 2 → hexD (at0 (l.drop 2) q) < 16 from fun q h2 => if e : q = k - 2 then by rw [e, hd2]; exact h else hq q (by omega))
          have Hno := Lib.hid (fun h : hexD (at0 l k) = 16 => hex_no (l := l.drop 2) (k - 2) (by omega) (by rw [hd2]; exact h))
          have hle := hexD_le (at0 l k)
          clear hq hd2 hcell
          generalize hx (l.drop 2) (k - 2) = h at *
          by_cases c : hexD (at0 l k) < 16
          · have Hin' := Lib.hid (Hin.out c)
            rw [digI_yes c] at hcall
            have hlt := Hlt.out
            clear Hin Hno hle
            generalize hexD (at0 l k) = d at *
            generalize at0 l k = x at *
            have hd0 : ((d : Int) < 0) = False := by simp
            go_wp2_with fail
            refine (hcall _).mono ?_
            rintro e w1 ⟨rfl, rfl⟩
            go_wp2_with fail
            refine (hcall _).mono ?_
            rintro e w1 ⟨rfl, rfl⟩
            go_wp2
            go_round
            case rel => exact ⟨k + 1, by omega, by omega, by go_num, by rw [Hstep.out]; go_num, Hin'.out⟩
            case measure => simp [intOf]; omega
          · have c16 : hexD (at0 l k) = 16 := by omega
            have HR := Lib.hid (Hno.out c16)
            rw [digI_no c16] at hcall
            clear Hin Hno hle c c16 Hstep
            generalize at0 l k = x at *
            go_wp2_with fail
            refine (hcall _).mono ?_
            rintro e w1 ⟨rfl, rfl⟩
            go_wp2
            go_ret
            exact ⟨by rw [Hf.out, HR.out]; rfl, rfl⟩
        · have hjs' : k = 6 := by omega
          subst hjs'
          have HR := Lib.hid (hex_yes (l := l.drop 2) hdl hq)
          clear hq hcell
          go_wp2
          go_ret
          exact ⟨by rw [Hf.out, HR.out]; rfl, rfl⟩
    · have HR := Lib.hid (show fourL l = none from if_neg fun h => hc h.2)
      clear hl hbB hcell
      generalize at0 l 0 = x at *
      generalize at0 l 1 = y at *
      by_cases hx : x = 92
      · subst hx
        have hy : ((y : Int) == 117) = false := by rw [beq_eq_false_iff_ne]; omega
        clear hc
        go_enter Tryd.func35, Tryd.ntmps35
        go_wp2
        go_ret
        exact ⟨by rw [HR.out]; rfl, rfl⟩
      · have hy : ((x : Int) == 92) = false := by rw [beq_eq_false_iff_ne]; omega
        clear hc hx
        go_enter Tryd.func35, Tryd.ntmps35
        go_wp2
        go_ret
        exact ⟨by rw [HR.out]; rfl, rfl⟩
end Go.Proofs.YtgnialemiefeeaaDoor
