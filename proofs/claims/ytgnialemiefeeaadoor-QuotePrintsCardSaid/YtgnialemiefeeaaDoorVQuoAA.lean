import Derived.Test.YtgnialemiefeeaaDoorGai
import Derived.Test.YtgnialemiefeeaaDoorGad
import Derived.Test.YtgnialemiefeeaaDoorGab
import Derived.Test.YtgnialemiefeeaaDoorGae
import Derived.Test.YtgnialemiefeeaaDoorGak
import Derived.Test.YtgnialemiefeeaaDoorGaa
import Derived.Deep.CutBlock
import Derived.Deep.DeepCutAuto
import Derived.BigRegion
import Derived.Deep.DrawnRows
import Derived.IntWalk
import Derived.Deep.RegionHeld3
/-
  Layer 2, the reference: Print.
-/
namespace Go.Proofs.YtgnialemiefeeaaDoor
open Go.RowKit
attribute [local go_sem ↓] Go.wp_at_zero Go.wp_at_succ

/-- A code point's own bytes, or four digits; and how the reference writes it when the letters below k have been tried. -/
def baseL (c : Nat) : List UInt8 := if c < 32 then fourT false c else encL c
def ownL (c k : Nat) : List UInt8 := match shortL c with | some x => if x < k then [b8 92, b8 x] else baseL c | none => baseL c
theorem own_zero (c : Nat) : ownL c 0 = baseL c := by unfold ownL; split <;> rfl
theorem own_end (c : Nat) : ownL c 128 = spellL c := by
  unfold ownL
  cases h : shortL c with
  | some x => simp only; rw [if_pos (shortL_let h).2, spell_short h]
  | none =>
    simp only
    unfold baseL
    split
    · rw [spell_low h (by assumption)]
    · rw [spell_own h (by assumption)]
theorem let_short {k c : Nat} (h : letL k = some c) (hk : k ≠ 47) : shortL c = some k := by
  unfold letL at h
  repeat' split at h
  all_goals first | (injection h with h; subst h; subst_vars; first | rfl | exact absurd rfl hk) | cases h
theorem short_ne {c x : Nat} (h : shortL c = some x) : x ≠ 47 := by
  unfold shortL at h
  repeat' split at h
  all_goals first | (injection h; omega) | cases h
theorem own_yes {k c : Nat} (h : letL k = some c) (hk : k ≠ 47) : ownL c (k + 1) = [b8 92, b8 k] := by
  unfold ownL; rw [let_short h hk]; exact if_pos (by omega)
theorem own_no {k c : Nat} (h : ¬ (letL k = some c ∧ k ≠ 47)) : ownL c (k + 1) = ownL c k := by
  unfold ownL
  cases h1 : shortL c with
  | none => rfl
  | some x =>
    have : x ≠ k := fun e => h ⟨by rw [← e]; exact (shortL_let h1).1, by rw [← e]; exact short_ne h1⟩
    simp only
    by_cases h2 : x < k
    · rw [if_pos h2, if_pos (by omega)]
    · rw [if_neg h2, if_neg (by omega)]
theorem own_len (c k : Nat) : (ownL c k).length ≤ 6 := by
  have hb : (baseL c).length ≤ 6 := by
    unfold baseL
    split
    · rw [fourT_len]; omega
    · have := encL_len_pos c; omega
  unfold ownL
  split
  · split
    · simp
    · exact hb
  · exact hb
set_option maxRecDepth 20000 in
theorem index_dig (k : Nat) (hk : k < 16) : ∀ w, (Instr.index 9 (.string ⟨#[48, 49, 50, 51, 52, 53, 54, 55, 56, 57, 97, 98, 99, 100, 101, 102]⟩) (.int .i64 (k : Int))).run Tryd.prog w = .ok (.int .u8 ((digC false k : Nat) : Int)) w := by
  rcases (show k = 0 ∨ k = 1 ∨ k = 2 ∨ k = 3 ∨ k = 4 ∨ k = 5 ∨ k = 6 ∨ k = 7 ∨ k = 8 ∨ k = 9 ∨ k = 10 ∨ k = 11 ∨ k = 12 ∨ k = 13 ∨ k = 14 ∨ k = 15 by omega) with rfl | rfl | rfl | rfl | rfl | rfl | rfl | rfl | rfl | rfl | rfl | rfl | rfl | rfl | rfl | rfl
  all_goals exact fun _ => by kernel_rfl
theorem fourT_low {c : Nat} (h : c < 32) : (fourT false c).map bv = [.int .u8 92, .int .u8 117, .int .u8 48, .int .u8 48, .int .u8 ((digC false (c / 16) : Nat) : Int), .int .u8 ((digC false (c % 16) : Nat) : Int)] := by
  have h1 : c / 4096 % 16 = 0 := by omega
  have h2 : c / 256 % 16 = 0 := by omega
  have h3 : c / 16 % 16 = c / 16 := by omega
  unfold fourT
  rw [h1, h2, h3]
  have e1 := digC_lt false (c / 16) (by omega)
  have e2 := digC_lt false (c % 16) (by omega)
  simp only [List.map_cons, List.map_nil]
  rw [bv_b8 _ (by omega : 92 < 256), bv_b8 _ (by omega : 117 < 256), bv_b8 (digC false (c / 16)) (by omega), bv_b8 (digC false (c % 16)) (by omega)]
  rfl
theorem letter_at (k c : Nat) (hk : letL k = some c) (w : World) :
    Calls Tryd.prog 34 #[.int .u8 (k : Int)] w fun e w' => e = .returned (.int .i64 (c : Int)) ∧ Below w.heap.size w w' := by
  have := letter_any k w
  rw [hk] at this
  exact this

set_option maxRecDepth 20000 in
set_option maxHeartbeats 4000000 in
theorem refPrint_any (A : Option Addr) (m c0 B : Nat) (cps : List Nat) (w : World) (hl : Ints w B A m (nats cps)) (hB : B ≤ w.heap.size) (hm : m ≤ 100000) (hcp : allCp cps) :
    Calls Tryd.prog 22 #[.slice A m c0] w fun e w' => e = .returned (.string (ofL (quoteL cps))) ∧ Below w.heap.size w w' := by
  obtain ⟨i0, hi, hz0, hz1, hz2⟩ := u8_info
  have Hlen : Hid (cps.length = m) := Lib.hid (by have := hl.len; rwa [nats_len] at this)
  have r0 := World.ownsRow_lit (base := w.heap.size) (e := 5) (size := 1) w #[.int .u8 34] 1 (Nat.le_refl _) (by unfold maxLen; omega) rfl
  go_enter Tryd.func22, Tryd.ntmps22
  go_wp2
  go_loopw [3, 5] (fun o i wr => ∃ (j : Nat) (A' : Option Addr) (n' c' : Nat), j ≤ m ∧ i = .int .i64 j ∧ o = .slice A' n' c' ∧ wr.ownsRow w.heap.size 5 1 (.slice A' n' c') n' ((b8 34 :: spellsL (cps.take j)).map bv) ∧ n' ≤ 1 + 6 * j ∧ Below w.heap.size w wr) (fun _ i _ => m - (intOf i).toNat)
  case atStart => exact ⟨0, _, 1, 1, by omega, rfl, rfl, r0, by omega, (Below.refl _ _).alloc (Nat.le_refl _) _⟩
  case round =>
    obtain ⟨j, A', n', c', hj, rfl, rfl, hown, hn', hbr⟩ := hrel
    obtain ⟨wo, rfl⟩ : ∃ wo : World, wo = wr := ⟨_, rfl⟩
    have hso := hbr.size
    clear r0
    by_cases hlt : j < m
    · have hjl : j < cps.length := by rw [Hlen.out]; exact hlt
      have hlt' : (j : Int) < m := by omega
      have hj0 : (0 : Int) ≤ j := by omega
      obtain ⟨b, off, rfl, hbB, -⟩ := hl.cell (k := j) hlt
      have hcell : ∀ W : World, Below w.heap.size w W → W.cell? ⟨b, off + j, none⟩ = some (.int .i64 ((cps.getD j 0 : Nat) : Int)) := fun W hb => by
        obtain ⟨b', off', e, _, hc⟩ := (hl.below (hb.mono hB)).cell (k := j) hlt
        injection e with e
        injection e with e1 e2
        subst e1; subst e2
        rw [hc, nats, List.getD_eq_getElem?_getD, List.getElem?_map, List.getElem?_eq_getElem hjl, List.getD_eq_getElem?_getD, List.getElem?_eq_getElem hjl]
        rfl
      have hcpj : isCp ((cps.getD j 0 : Nat) : Int) = true := by
        rw [List.getD_eq_getElem?_getD, List.getElem?_eq_getElem hjl]
        exact hcp _ (List.getElem_mem hjl)
      have Hstep := Lib.hid (show spellsL (cps.take (j + 1)) = spellsL (cps.take j) ++ spellL (cps.getD j 0) by
        rw [List.take_succ_eq_append_getElem hjl, spells_append, spells_one, List.getD_eq_getElem?_getD, List.getElem?_eq_getElem hjl]; rfl)
      have hmax := ((isCp_iff _).1 hcpj).1.2
      have HC := Lib.hid hcpj
      have hkeep := Lib.hid hcell
      clear hl hcpj
      generalize cps.getD j 0 = cp at *
      have hc0 := hcell wo hbr
      have hby := bytes_any cp (by omega) wo
      clear hcell
      go_wp2_with fail
      refine hby.mono ?_
      rintro e w1 ⟨A1, n1, c1, rfl, hown1, hb1⟩
      have hb01 := bel_next hbr hb1
      have hl1 : Bytes w1 w1.heap.size A1 n1 (encL cp) := Bytes.own hown1
      have hown' := own_below hown hb1
      have hc1 := hkeep.out w1 hb01
      have hs1 := hb1.size
      clear hown1 hown hc0 hby
      go_upto_if 24 with fail
      go_cut [6] (fun s wx => ∃ A2 n2 c2, s = .slice A2 n2 c2 ∧ Bytes wx wx.heap.size A2 n2 (baseL cp) ∧ Below w1.heap.size w1 wx)
      case first =>
        by_cases h32 : cp < 32
        · have k1 : ((cp : Int) < 32) = True := by simp; omega
          have Hfm := Lib.hid (fourT_low h32)
          have Hfb := Lib.hid (show baseL cp = fourT false cp from if_pos h32)
          obtain ⟨q, hq⟩ : ∃ q, q = cp / 16 := ⟨_, rfl⟩
          obtain ⟨r, hr⟩ : ∃ r, r = cp % 16 := ⟨_, rfl⟩
          rw [← hq, ← hr] at Hfm
          have d1 : (cp : Int).tdiv 16 = (q : Int) := by rw [Int.tdiv_eq_ediv_of_nonneg (by omega)]; omega
          have d2 : (cp : Int).tmod 16 = (r : Int) := by rw [Int.tmod_eq_emod_of_nonneg (by omega)]; omega
          have d3 : IntKind.i64.wrap (q : Int) = (q : Int) := IntWalk.i64_in _ ⟨by omega, by omega⟩
          have d4 : IntKind.i64.wrap (r : Int) = (r : Int) := IntWalk.i64_in _ ⟨by omega, by omega⟩
          have x1 := index_dig q (by omega)
          have x2 := index_dig r (by omega)
          have e1 := digC_lt false q (by omega)
          have e2 := digC_lt false r (by omega)
          clear hq hr
          generalize digC false q = y1 at *
          generalize digC false r = y2 at *
          have hkW := fun (W : World) (hb : Below w1.heap.size w1 W) => hkeep.out W (bel_next hb01 hb)
          go_wp2
          go_region_held3 (fun w' => w'.cell? ⟨b, off + j, none⟩ = some (.int .i64 (cp : Int))) (go_keep) (fail)
          all_goals
            go_wp2
            go_meet
            case rel =>
              refine ⟨some ⟨w1.heap.size, 0, none⟩, 6, 6, rfl, ?_, ?_⟩
              · rw [Hfb.out]
                exact Bytes.more (Bytes.drew (bytes_new w1 (fourT false cp) _ _ _ (by rw [Hfm.out]))) (by simp)
              · exact ((Below.refl _ _).alloc (Nat.le_refl _) _).drew
        · have k1 : ((cp : Int) < 32) = False := by simp; omega
          have HB := Lib.hid (show baseL cp = encL cp from if_neg h32)
          go_wp2_with fail
          go_meet
          case rel => exact ⟨A1, n1, c1, rfl, by rw [HB.out]; exact hl1, Below.refl _ _⟩
      case rest =>
        obtain ⟨A2, n2, c2, rfl, hl2, hb2⟩ := hcut
        have hb02 := bel_next hb01 hb2
        have hown2 := own_below hown' hb2
        clear hl1 hown' hc1
        go_wp2_with fail
        go_loopw [6, 7] (fun s k wx => ∃ (c : Nat) (A3 : Option Addr) (n3 c3 : Nat), c ≤ 128 ∧ k = .int .u8 (c : Int) ∧ s = .slice A3 n3 c3 ∧ Bytes wx wx.heap.size A3 n3 (ownL cp c) ∧ Below wc.heap.size wc wx) (fun _ k _ => 128 - (intOf k).toNat)
        case atStart => exact ⟨0, A2, n2, c2, by omega, rfl, rfl, by rw [own_zero]; exact hl2, Below.refl _ _⟩
        case round =>
          obtain ⟨c, A3, n3, c3, hc128, rfl, rfl, hl3, hbx⟩ := hrel
          have hb03 := bel_next hb02 hbx
          have hown3 := own_below hown2 hbx
          by_cases hc : c < 128
          · have hkS : ∀ (W : World), Below wr.heap.size wr W → W.cell? ⟨b, off + j, none⟩ = some (.int .i64 (cp : Int)) := fun W hb => hkeep.out W (bel_next hb03 hb)
            have hr0 : Below wr.heap.size wr wr := Below.refl _ _
            have hc' : ((c : Int) < 128) = True := by simp; omega
            have hc255 : (c : Int) ≤ 255 := by omega
            by_cases hy : letL c = some cp
            · by_cases h47 : c = 47
              · have HN := Lib.hid (own_no (k := c) (c := cp) (fun h => h.2 h47))
                have hq : ((c : Int) != 47) = false := by rw [h47]; rfl
                have Hy := Lib.hid hy
                clear hy h47
                go_upto_region 12 with fail
                go_cut [54] (fun s wy => s = .bool false ∧ Below wr.heap.size wr wy)
                case first =>
                  go_region_held3 (fun W => Below wr.heap.size wr W) (first | (with_reducible assumption) | exact (Below.refl _ _).drew)
                    ((go_at_call 34; (with_reducible refine (letter_at c cp Hy.out _).mono ?_); (rintro e wA ⟨rfl, hbA⟩); (have hSA := S_call hbA (by first | (with_reducible assumption) | exact (Below.refl _ _).drew) rfl)))
                  all_goals
                    go_wp2
                    go_meet
                    case rel => exact ⟨rfl, by first | assumption | exact Below.drew (by assumption)⟩
                case rest =>
                  obtain ⟨rfl, hbc⟩ := hcut
                  go_wp2
                  go_roundw
                  case rel => exact ⟨c + 1, A3, n3, c3, by omega, by go_num, rfl, by rw [HN.out]; exact (hl3.below hbc).more hbc.size, bel_next hbx hbc⟩
                  case measure => simp [intOf]; omega
              · have HN := Lib.hid (own_yes hy h47)
                have hq : ((c : Int) != 47) = true := by rw [bne_iff_ne]; omega
                have Hy := Lib.hid hy
                clear hy h47
                go_upto_region 12 with fail
                go_cut [54] (fun s wy => s = .bool true ∧ Below wr.heap.size wr wy)
                case first =>
                  go_region_held3 (fun W => Below wr.heap.size wr W) (first | (with_reducible assumption) | exact (Below.refl _ _).drew)
                    ((go_at_call 34; (with_reducible refine (letter_at c cp Hy.out _).mono ?_); (rintro e wA ⟨rfl, hbA⟩); (have hSA := S_call hbA (by first | (with_reducible assumption) | exact (Below.refl _ _).drew) rfl)))
                  all_goals
                    go_wp2
                    go_meet
                    case rel => exact ⟨rfl, by first | assumption | exact Below.drew (by assumption)⟩
                case rest =>
                  obtain ⟨rfl, hbc⟩ := hcut
                  go_wp2
                  go_roundw
                  case rel => exact ⟨c + 1, _, 2, 2, by omega, by go_num, rfl, by rw [HN.out]; exact Bytes.more (bytes_new _ [b8 92, b8 c] _ _ _ (by simp only [List.map_cons, List.map_nil]; rw [bv_b8 92 (by omega), bv_b8 c (by omega)]; rfl)) (by simp), bel_next hbx (bel_alloc hbc _)⟩
                  case measure => simp [intOf]; omega
            · have HN := Lib.hid (own_no (k := c) (c := cp) (fun h => hy h.1))
              obtain ⟨z, hz, hlet⟩ : ∃ z : Int, z ≠ (cp : Int) ∧ ∀ W : World, Calls Tryd.prog 34 #[.int .u8 (c : Int)] W fun e w' => e = .returned (.int .i64 z) ∧ Below W.heap.size W w' := by
                refine ⟨optI (letL c), ?_, fun W => letter_any c W⟩
                cases h : letL c with
                | none => simp only [optI]; omega
                | some x =>
                  simp only [optI]
                  intro e
                  exact hy (by rw [h]; congr 1; omega)
              have hz' : (z == (cp : Int)) = false := by rw [beq_eq_false_iff_ne]; exact hz
              have Hlet := Lib.hid hlet
              clear hy hz hlet
              go_upto_region 12 with fail
              go_cut [54] (fun s wy => s = .bool false ∧ Below wr.heap.size wr wy)
              case first =>
                have hr1 : Below wr.heap.size wr wr.drew := (Below.refl _ _).drew
                first | go_region_with ((go_at_call 34; (with_reducible refine (Hlet.out _).mono ?_); (rintro e wA ⟨rfl, hbA⟩); (have hSA := S_call hbA (by assumption) rfl))) | fail
                all_goals
                  go_wp2
                  go_meet
                  case rel => exact ⟨rfl, by first | assumption | exact Below.drew (by assumption)⟩
              case rest =>
                obtain ⟨rfl, hbc⟩ := hcut
                go_wp2
                go_roundw
                case rel => exact ⟨c + 1, A3, n3, c3, by omega, by go_num, rfl, by rw [HN.out]; exact (hl3.below hbc).more hbc.size, bel_next hbx hbc⟩
                case measure => simp [intOf]; omega
          · obtain rfl : c = 128 := by omega
            have hln := own_len cp 128
            rw [hl3.len] at hln
            have Hll := Lib.hid hl3.len
            rw [own_end] at hl3
            go_wp2_with (at_builtin; refine wpList_append_shows _ rfl _ _ 22 rfl w.heap.size 5 i0 (.int .u8 0) 1 1 Tryd.underlying22 hi hz0 hz1 hz2 rfl (by decide) _ _ _ rfl hown3 wr.heap.size _ n3 c3 ((spellL cp).map bv) rfl hl3 (bv_one _) (by unfold maxLen; omega) (by omega) (by have := hb03.size; omega) ?_; intro A7 c7 w7 hown7 hgrow7 hb7)
            go_roundw
            case rel => exact ⟨j + 1, A7, n' + n3, c7, by omega, by go_num, rfl, by rw [Hstep.out, ← List.cons_append, List.map_append]; exact hown7, by omega, hb03.trans hb7⟩
            case measure => simp [intOf]; omega
    · have hjm : j = m := by omega
      have HT := Lib.hid (show cps.take j = cps by rw [hjm, ← Hlen.out]; exact List.take_of_length_le (Nat.le_refl _))
      rw [HT.out] at hown
      have HQ := Lib.hid (show quoteL cps = (b8 34 :: spellsL cps) ++ [b8 34] from rfl)
      clear hjm
      generalize b8 34 :: spellsL cps = Y at *
      have hnew : Shows (wo.alloc (.cells #[.int .u8 34] 5)) (wo.heap.size + 1) 1 (some ⟨wo.heap.size, 0, none⟩) 1 [.int .u8 34] := bytes_new wo [b8 34] _ _ _ rfl
      go_wp2_with (at_builtin; refine wpList_append_shows _ rfl _ _ 22 rfl w.heap.size 5 i0 (.int .u8 0) 1 1 Tryd.underlying22 hi hz0 hz1 hz2 rfl (by decide) _ _ _ rfl (hown.alloc _) (wo.heap.size + 1) _ 1 1 [.int .u8 34] rfl hnew (by simp [Value.oneCell']) (by unfold maxLen; omega) (by omega) (by simp; omega) ?_; intro A7 c7 w7 hown7 hgrow7 hb7; have hby : Bytes w7 w7.heap.size A7 (n' + 1) (Y ++ [b8 34]) := Bytes.own (by rw [List.map_append]; exact hown7); have hconv := run_bytes_string (P := Tryd.prog) Tryd.underlying22 Tryd.underlying5 Tryd.underlying9 w7 A7 _ c7 _ _ hby)
      go_ret
      exact ⟨by rw [HQ.out]; rfl, (bel_alloc hbr _).trans hb7⟩
end Go.Proofs.YtgnialemiefeeaaDoor
