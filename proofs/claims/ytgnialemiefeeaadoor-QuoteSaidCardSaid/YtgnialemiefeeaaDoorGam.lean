import Derived.Test.YtgnialemiefeeaaDoorGai
import Derived.Test.YtgnialemiefeeaaDoorGad
import Derived.Test.YtgnialemiefeeaaDoorGab
import Derived.Test.YtgnialemiefeeaaDoorGae
import Derived.Test.YtgnialemiefeeaaDoorGak
import Derived.Test.YtgnialemiefeeaaDoorGaa
import Derived.Deep.CutBlock
import Derived.Deep.DeepCutAuto
import Derived.BigRegion
import Derived.Deep.DrawnRows
import Derived.IntWalk
import Derived.Deep.RegionHeld3
import Derived.Test.YtgnialemiefeeaaDoorShelf
import Derived.Deep.RegionWith
import Derived.Test.YtgnialemiefeeaaDoorGal
import Derived.Test.YtgnialemiefeeaaDoorGag
/-
  Layer 2, the reference: Print.
-/
namespace Go.Proofs.YtgnialemiefeeaaDoor
open Go.RowKit
attribute [local go_sem ↓] Go.wp_at_zero Go.wp_at_succ

/-- A code point's own bytes, or four digits; and how the reference writes it when the letters below k have been tried. -/
def baseL (c : Nat) : List UInt8 := if c < 32 then fourT false c else encL c
def ownL (c k : Nat) : List UInt8 := match shortL c with | some x => if x < k then [b8 92, b8 x] else baseL c | none => baseL c
theorem own_zero (c : Nat) : ownL c 0 = baseL c := by unfold ownL; split <;> rfl
theorem own_end (c : Nat) : ownL c 128 = spellL c := by
  unfold ownL
  cases h : shortL c with
  | some x => simp only; rw [if_pos (shortL_let h).2, spell_short h]
  | none =>
    simp only
    unfold baseL
    split
    · rw [spell_low h (by assumption)]
    · rw [spell_own h (by assumption)]
theorem let_short {k c : Nat} (h : letL k = some c) (hk : k ≠ 47) : shortL c = some k := by
  unfold letL at h
  repeat' split at h
  all_goals first | (injection h with h; subst h; subst_vars; first | rfl | exact absurd rfl hk) | cases h
theorem short_ne {c x : Nat} (h : shortL c = some x) : x ≠ 47 := by
  unfold shortL at h
  repeat' split at h
  all_goals first | (injection h; omega) | cases h
theorem own_yes {k c : Nat} (h : letL k = some c) (hk : k ≠ 47) : ownL c (k + 1) = [b8 92, b8 k] := by
  unfold ownL; rw [let_short h hk]; exact if_pos (by omega)
theorem own_no {k c : Nat} (h : ¬ (letL k = some c ∧ k ≠ 47)) : ownL c (k + 1) = ownL c k := by
  unfold ownL
  cases h1 : shortL c with
  | none => rfl
  | some x =>
    have : x ≠ k := fun e => h ⟨by rw [← e]; exact (shortL_let h1).1, by rw [← e]; exact short_ne h1⟩
    simp only
    by_cases h2 : x < k
    · rw [if_pos h2, if_pos (by omega)]
    · rw [if_neg h2, if_neg (by omega)]
theorem own_len (c k : Nat) : (ownL c k).length ≤ 6 := by
  have hb : (baseL c).length ≤ 6 := by
    unfold baseL
    split
    · rw [fourT_len]; omega
    · have := encL_len_pos c; omega
  unfold ownL
  split
  · split
    · simp
    · exact hb
  · exact hb
set_option maxRecDepth 20000 in
theorem index_dig (k : Nat) (hk : k < 16) : ∀ w, (Instr.index 9 (.string ⟨#[48, 49, 50, 51, 52, 53, 54, 55, 56, 57, 97, 98, 99, 100, 101, 102]⟩) (.int .i64 (k : Int))).run Tryd.prog w = .ok (.int .u8 ((digC false k : Nat) : Int)) w := by
  rcases (show k = 0 ∨ k = 1 ∨ k = 2 ∨ k = 3 ∨ k = 4 ∨ k = 5 ∨ k = 6 ∨ k = 7 ∨ k = 8 ∨ k = 9 ∨ k = 10 ∨ k = 11 ∨ k = 12 ∨ k = 13 ∨ k = 14 ∨ k = 15 by omega) with rfl | rfl | rfl | rfl | rfl | rfl | rfl | rfl | rfl | rfl | rfl | rfl | rfl | rfl | rfl | rfl
  all_goals exact fun _ => by kernel_rfl
theorem fourT_low {c : Nat} (h : c < 32) : (fourT false c).map bv = [.int .u8 92, .int .u8 117, .int .u8 48, .int .u8 48, .int .u8 ((digC false (c / 16) : Nat) : Int), .int .u8 ((digC false (c % 16) : Nat) : Int)] := by
  have h1 : c / 4096 % 16 = 0 := by omega
  have h2 : c / 256 % 16 = 0 := by omega
  have h3 : c / 16 % 16 = c / 16 := by omega
  unfold fourT
  rw [h1, h2, h3]
  have e1 := digC_lt false (c / 16) (by omega)
  have e2 := digC_lt false (c % 16) (by omega)
  simp only [List.map_cons, List.map_nil]
  rw [bv_b8 _ (by omega : 92 < 256), bv_b8 _ (by omega : 117 < 256), bv_b8 (digC false (c / 16)) (by omega), bv_b8 (digC false (c % 16)) (by omega)]
  rfl
theorem letter_at (k c : Nat) (hk : letL k = some c) (w : World) :
    Calls Tryd.prog 34 #[.int .u8 (k : Int)] w fun e w' => e = .returned (.int .i64 (c : Int)) ∧ Below w.heap.size w w' := by
  have := letter_any k w
  rw [hk] at this
  exact this

set_option maxRecDepth 20000 in
set_option maxHeartbeats 4000000 in
theorem refPrint_any (A : Option Addr) (m c0 B : Nat) (cps : List Nat) (w : World) (hl : Ints w B A m (nats cps)) (hB : B ≤ w.heap.size) (hm : m ≤ 100000) (hcp : allCp cps) :
    Calls Tryd.prog 22 #[.slice A m c0] w fun e w' => e = .returned (.string (ofL (quoteL cps))) ∧ Below w.heap.size w w' := by
  obtain ⟨i0, hi, hz0, hz1, hz2⟩ := u8_info
  have Hlen : Hid (cps.length = m) := Lib.hid (by have := hl.len; rwa [nats_len] at this)
  have r0 := World.ownsRow_lit (base := w.heap.size) (e := 5) (size := 1) w #[.int .u8 34] 1 (Nat.le_refl _) (by unfold maxLen; omega) rfl
  go_enter Tryd.func22, Tryd.ntmps22
  go_wp2
  go_loopw [3, 5] (fun o i wr => ∃ (j : Nat) (A' : Option Addr) (n' c' : Nat), j ≤ m ∧ i = .int .i64 j ∧ o = .slice A' n' c' ∧ wr.ownsRow w.heap.size 5 1 (.slice A' n' c') n' ((b8 34 :: spellsL (cps.take j)).map bv) ∧ n' ≤ 1 + 6 * j ∧ Below w.heap.size w wr) (fun _ i _ => m - (intOf i).toNat)
  case atStart => exact ⟨0, _, 1, 1, by omega, rfl, rfl, r0, by omega, (Below.refl _ _).alloc (Nat.le_refl _) _⟩
  case round =>
    obtain ⟨j, A', n', c', hj, rfl, rfl, hown, hn', hbr⟩ := hrel
    obtain ⟨wo, rfl⟩ : ∃ wo : World, wo = wr := ⟨_, rfl⟩
    have hso := hbr.size
    clear r0
    by_cases hlt : j < m
    · have hjl : j < cps.length := by rw [Hlen.out]; exact hlt
      have hlt' : (j : Int) < m := by omega
      have hj0 : (0 : Int) ≤ j := by omega
      obtain ⟨b, off, rfl, hbB, -⟩ := hl.cell (k := j) hlt
      have hcell : ∀ W : World, Below w.heap.size w W → W.cell? ⟨b, off + j, none⟩ = some (.int .i64 ((cps.getD j 0 : Nat) : Int)) := fun W hb => by
        obtain ⟨b', off', e, _, hc⟩ := (hl.below (hb.mono hB)).cell (k := j) hlt
        injection e with e
        injection e with e1 e2
        subst e1; subst e2
        rw [hc, nats, List.getD_eq_getElem?_getD, List.getElem?_map, List.getElem?_eq_getElem hjl, List.getD_eq_getElem?_getD, List.getElem?_eq_getElem hjl]
        rfl
      have hcpj : isCp ((cps.getD j 0 : Nat) : Int) = true := by
        rw [List.getD_eq_getElem?_getD, List.getElem?_eq_getElem hjl]
        exact hcp _ (List.getElem_mem hjl)
      have Hstep := Lib.hid (show spellsL (cps.take (j + 1)) = spellsL (cps.take j) ++ spellL (cps.getD j 0) by
        rw [List.take_succ_eq_append_getElem hjl, spells_append, spells_one, List.getD_eq_getElem?_getD, List.getElem?_eq_getElem hjl]; rfl)
      have hmax := ((isCp_iff _).1 hcpj).1.2
      have HC := Lib.hid hcpj
      have hkeep := Lib.hid hcell
      clear hl hcpj
      generalize cps.getD j 0 = cp at *
      have hc0 := hcell wo hbr
      have hby := bytes_any cp (by omega) wo
      clear hcell
      go_wp2_with fail
      refine hby.mono ?_
      rintro e w1 ⟨A1, n1, c1, rfl, hown1, hb1⟩
      have hb01 := bel_next hbr hb1
      have hl1 : Bytes w1 w1.heap.size A1 n1 (encL cp) := Bytes.own hown1
      have hown' := own_below hown hb1
      have hc1 := hkeep.out w1 hb01
      have hs1 := hb1.size
      clear hown1 hown hc0 hby
      go_upto_if 24 with fail
      go_cut [6] (fun s wx => ∃ A2 n2 c2, s = .slice A2 n2 c2 ∧ Bytes wx wx.heap.size A2 n2 (baseL cp) ∧ Below w1.heap.size w1 wx)
      case first =>
        by_cases h32 : cp < 32
        · have k1 : ((cp : Int) < 32) = True := by simp; omega
          have Hfm := Lib.hid (fourT_low h32)
          have Hfb := Lib.hid (show baseL cp = fourT false cp from if_pos h32)
          obtain ⟨q, hq⟩ : ∃ q, q = cp / 16 := ⟨_, rfl⟩
          obtain ⟨r, hr⟩ : ∃ r, r = cp % 16 := ⟨_, rfl⟩
          rw [← hq, ← hr] at Hfm
          have d1 : (cp : Int).tdiv 16 = (q : Int) := by rw [Int.tdiv_eq_ediv_of_nonneg (by omega)]; omega
          have d2 : (cp : Int).tmod 16 = (r : Int) := by rw [Int.tmod_eq_emod_of_nonneg (by omega)]; omega
          have d3 : IntKind.i64.wrap (q : Int) = (q : Int) := IntWalk.i64_in _ ⟨by omega, by omega⟩
          have d4 : IntKind.i64.wrap (r : Int) = (r : Int) := IntWalk.i64_in _ ⟨by omega, by omega⟩
          have x1 := index_dig q (by omega)
          have x2 := index_dig r (by omega)
          have e1 := digC_lt false q (by omega)
          have e2 := digC_lt false r (by omega)
          clear hq hr
          generalize digC false q = y1 at *
          generalize digC false r = y2 at *
          have hkW := fun (W : World) (hb : Below w1.heap.size w1 W) => hkeep.out W (bel_next hb01 hb)
          go_wp2
          go_region_held3 (fun w' => w'.cell? ⟨b, off + j, none⟩ = some (.int .i64 (cp : Int))) (go_keep) (fail)
          all_goals
            go_wp2
            go_meet
            case rel =>
              refine ⟨some ⟨w1.heap.size, 0, none⟩, 6, 6, rfl, ?_, ?_⟩
              · rw [Hfb.out]
                exact Bytes.more (Bytes.drew (bytes_new w1 (fourT false cp) _ _ _ (by rw [Hfm.out]))) (by simp)
              · exact ((Below.refl _ _).alloc (Nat.le_refl _) _).drew
        · have k1 : ((cp : Int) < 32) = False := by simp; omega
          have HB := Lib.hid (show baseL cp = encL cp from if_neg h32)
          go_wp2_with fail
          go_meet
          case rel => exact ⟨A1, n1, c1, rfl, by rw [HB.out]; exact hl1, Below.refl _ _⟩
      case rest =>
        obtain ⟨A2, n2, c2, rfl, hl2, hb2⟩ := hcut
        have hb02 := bel_next hb01 hb2
        have hown2 := own_below hown' hb2
        clear hl1 hown' hc1
        go_wp2_with fail
        go_loopw [6, 7] (fun s k wx => ∃ (c : Nat) (A3 : Option Addr) (n3 c3 : Nat), c ≤ 128 ∧ k = .int .u8 (c : Int) ∧ s = .slice A3 n3 c3 ∧ Bytes wx wx.heap.size A3 n3 (ownL cp c) ∧ Below wc.heap.size wc wx) (fun _ k _ => 128 - (intOf k).toNat)
        case atStart => exact ⟨0, A2, n2, c2, by omega, rfl, rfl, by rw [own_zero]; exact hl2, Below.refl _ _⟩
        case round =>
          obtain ⟨c, A3, n3, c3, hc128, rfl, rfl, hl3, hbx⟩ := hrel
          have hb03 := bel_next hb02 hbx
          have hown3 := own_below hown2 hbx
          by_cases hc : c < 128
          · have hkS : ∀ (W : World), Below wr.heap.size wr W → W.cell? ⟨b, off + j, none⟩ = some (.int .i64 (cp : Int)) := fun W hb => hkeep.out W (bel_next hb03 hb)
            have hr0 : Below wr.heap.size wr wr := Below.refl _ _
            have hc' : ((c : Int) < 128) = True := by simp; omega
            have hc255 : (c : Int) ≤ 255 := by omega
            by_cases hy : letL c = some cp
            · by_cases h47 : c = 47
              · have HN := Lib.hid (own_no (k := c) (c := cp) (fun h => h.2 h47))
                have hq : ((c : Int) != 47) = false := by rw [h47]; rfl
                have Hy := Lib.hid hy
                clear hy h47
                go_upto_region 12 with fail
                go_cut [54] (fun s wy => s = .bool false ∧ Below wr.heap.size wr wy)
                case first =>
                  go_region_held3 (fun W => Below wr.heap.size wr W) (first | (with_reducible assumption) | exact (Below.refl _ _).drew)
                    ((go_at_call 34; (with_reducible refine (letter_at c cp Hy.out _).mono ?_); (rintro e wA ⟨rfl, hbA⟩); (have hSA := S_call hbA (by first | (with_reducible assumption) | exact (Below.refl _ _).drew) rfl)))
                  all_goals
                    go_wp2
                    go_meet
                    case rel => exact ⟨rfl, by first | assumption | exact Below.drew (by assumption)⟩
                case rest =>
                  obtain ⟨rfl, hbc⟩ := hcut
                  go_wp2
                  go_roundw
                  case rel => exact ⟨c + 1, A3, n3, c3, by omega, by go_num, rfl, by rw [HN.out]; exact (hl3.below hbc).more hbc.size, bel_next hbx hbc⟩
                  case measure => simp [intOf]; omega
              · have HN := Lib.hid (own_yes hy h47)
                have hq : ((c : Int) != 47) = true := by rw [bne_iff_ne]; omega
                have Hy := Lib.hid hy
                clear hy h47
                go_upto_region 12 with fail
                go_cut [54] (fun s wy => s = .bool true ∧ Below wr.heap.size wr wy)
                case first =>
                  go_region_held3 (fun W => Below wr.heap.size wr W) (first | (with_reducible assumption) | exact (Below.refl _ _).drew)
                    ((go_at_call 34; (with_reducible refine (letter_at c cp Hy.out _).mono ?_); (rintro e wA ⟨rfl, hbA⟩); (have hSA := S_call hbA (by first | (with_reducible assumption) | exact (Below.refl _ _).drew) rfl)))
                  all_goals
                    go_wp2
                    go_meet
                    case rel => exact ⟨rfl, by first | assumption | exact Below.drew (by assumption)⟩
                case rest =>
                  obtain ⟨rfl, hbc⟩ := hcut
                  go_wp2
                  go_roundw
                  case rel => exact ⟨c + 1, _, 2, 2, by omega, by go_num, rfl, by rw [HN.out]; exact Bytes.more (bytes_new _ [b8 92, b8 c] _ _ _ (by simp only [List.map_cons, List.map_nil]; rw [bv_b8 92 (by omega), bv_b8 c (by omega)]; rfl)) (by simp), bel_next hbx (bel_alloc hbc _)⟩
                  case measure => simp [intOf]; omega
            · have HN := Lib.hid (own_no (k := c) (c := cp) (fun h => hy h.1))
              obtain ⟨z, hz, hlet⟩ : ∃ z : Int, z ≠ (cp : Int) ∧ ∀ W : World, Calls Tryd.prog 34 #[.int .u8 (c : Int)] W fun e w' => e = .returned (.int .i64 z) ∧ Below W.heap.size W w' := by
                refine ⟨optI (letL c), ?_, fun W => letter_any c W⟩
                cases h : letL c with
                | none => simp only [optI]; omega
                | some x =>
                  simp only [optI]
                  intro e
                  exact hy (by rw [h]; congr 1; omega)
              have hz' : (z == (cp : Int)) = false := by rw [beq_eq_false_iff_ne]; exact hz
              have Hlet := Lib.hid hlet
              clear hy hz hlet
              go_upto_region 12 with fail
              go_cut [54] (fun s wy => s = .bool false ∧ Below wr.heap.size wr wy)
              case first =>
                have hr1 : Below wr.heap.size wr wr.drew := (Below.refl _ _).drew
                first | go_region_with ((go_at_call 34; (with_reducible refine (Hlet.out _).mono ?_); (rintro e wA ⟨rfl, hbA⟩); (have hSA := S_call hbA (by assumption) rfl))) | fail
                all_goals
                  go_wp2
                  go_meet
                  case rel => exact ⟨rfl, by first | assumption | exact Below.drew (by assumption)⟩
              case rest =>
                obtain ⟨rfl, hbc⟩ := hcut
                go_wp2
                go_roundw
                case rel => exact ⟨c + 1, A3, n3, c3, by omega, by go_num, rfl, by rw [HN.out]; exact (hl3.below hbc).more hbc.size, bel_next hbx hbc⟩
                case measure => simp [intOf]; omega
          · obtain rfl : c = 128 := by omega
            have hln := own_len cp 128
            rw [hl3.len] at hln
            have Hll := Lib.hid hl3.len
            rw [own_end] at hl3
            go_wp2_with (at_builtin; refine wpList_append_shows _ rfl _ _ 22 rfl w.heap.size 5 i0 (.int .u8 0) 1 1 Tryd.underlying22 hi hz0 hz1 hz2 rfl (by decide) _ _ _ rfl hown3 wr.heap.size _ n3 c3 ((spellL cp).map bv) rfl hl3 (bv_one _) (by unfold maxLen; omega) (by omega) (by have := hb03.size; omega) ?_; intro A7 c7 w7 hown7 hgrow7 hb7)
            go_roundw
            case rel => exact ⟨j + 1, A7, n' + n3, c7, by omega, by go_num, rfl, by rw [Hstep.out, ← List.cons_append, List.map_append]; exact hown7, by omega, hb03.trans hb7⟩
            case measure => simp [intOf]; omega
    · have hjm : j = m := by omega
      have HT := Lib.hid (show cps.take j = cps by rw [hjm, ← Hlen.out]; exact List.take_of_length_le (Nat.le_refl _))
      rw [HT.out] at hown
      have HQ := Lib.hid (show quoteL cps = (b8 34 :: spellsL cps) ++ [b8 34] from rfl)
      clear hjm
      generalize b8 34 :: spellsL cps = Y at *
      have hnew : Shows (wo.alloc (.cells #[.int .u8 34] 5)) (wo.heap.size + 1) 1 (some ⟨wo.heap.size, 0, none⟩) 1 [.int .u8 34] := bytes_new wo [b8 34] _ _ _ rfl
      go_wp2_with (at_builtin; refine wpList_append_shows _ rfl _ _ 22 rfl w.heap.size 5 i0 (.int .u8 0) 1 1 Tryd.underlying22 hi hz0 hz1 hz2 rfl (by decide) _ _ _ rfl (hown.alloc _) (wo.heap.size + 1) _ 1 1 [.int .u8 34] rfl hnew (by simp [Value.oneCell']) (by unfold maxLen; omega) (by omega) (by simp; omega) ?_; intro A7 c7 w7 hown7 hgrow7 hb7; have hby : Bytes w7 w7.heap.size A7 (n' + 1) (Y ++ [b8 34]) := Bytes.own (by rw [List.map_append]; exact hown7); have hconv := run_bytes_string (P := Tryd.prog) Tryd.underlying22 Tryd.underlying5 Tryd.underlying9 w7 A7 _ c7 _ _ hby)
      go_ret
      exact ⟨by rw [HQ.out]; rfl, (bel_alloc hbr _).trans hb7⟩
end Go.Proofs.YtgnialemiefeeaaDoor
/-
  Layer 2: four, of the law QuoteSaid.
-/
namespace Go.Proofs.YtgnialemiefeeaaDoor
open Go.RowKit
set_option linter.unusedVariables false

theorem and15 (x : Nat) (h : x < 9223372036854775808) : bits .and .i64 (x : Int) 15 = ((x % 16 : Nat) : Int) := by
  have h2 := i64_and_nat x 15 h (by omega)
  have e : x &&& 15 = x % 16 := by
    have := Nat.and_two_pow_sub_one_eq_mod x 4
    simpa using this
  rw [e] at h2
  exact h2
def digS (g : Bool) : ByteArray := if g then ⟨#[48, 49, 50, 51, 52, 53, 54, 55, 56, 57, 65, 66, 67, 68, 69, 70]⟩ else ⟨#[48, 49, 50, 51, 52, 53, 54, 55, 56, 57, 97, 98, 99, 100, 101, 102]⟩
set_option maxRecDepth 20000 in
theorem index_digG (g : Bool) (k : Nat) (hk : k < 16) : ∀ w, (Instr.index 9 (.string (digS g)) (.int .i64 (k : Int))).run Tryd.prog w = .ok (.int .u8 ((digC g k : Nat) : Int)) w := by
  cases g
  · exact index_dig k hk
  · rcases (show k = 0 ∨ k = 1 ∨ k = 2 ∨ k = 3 ∨ k = 4 ∨ k = 5 ∨ k = 6 ∨ k = 7 ∨ k = 8 ∨ k = 9 ∨ k = 10 ∨ k = 11 ∨ k = 12 ∨ k = 13 ∨ k = 14 ∨ k = 15 by omega) with rfl | rfl | rfl | rfl | rfl | rfl | rfl | rfl | rfl | rfl | rfl | rfl | rfl | rfl | rfl | rfl
    all_goals exact fun _ => by kernel_rfl
theorem upper_dig : Lib.toUpperA (⟨#[48, 49, 50, 51, 52, 53, 54, 55, 56, 57, 97, 98, 99, 100, 101, 102]⟩ : ByteArray).data.toList = [48, 49, 50, 51, 52, 53, 54, 55, 56, 57, 65, 66, 67, 68, 69, 70] := by decide +kernel
set_option maxRecDepth 20000 in
theorem toUpper_any (w : World) : Calls Tryd.prog 50 #[.string ⟨#[48, 49, 50, 51, 52, 53, 54, 55, 56, 57, 97, 98, 99, 100, 101, 102]⟩] w fun e w' => e = .returned (.string (digS true)) ∧ Below w.heap.size w w' := by
  have h := Tryd.strings_ToUpper_ascii ⟨#[48, 49, 50, 51, 52, 53, 54, 55, 56, 57, 97, 98, 99, 100, 101, 102]⟩ w (by decide) (fun j b h => (by decide +kernel : ∀ b ∈ ([48, 49, 50, 51, 52, 53, 54, 55, 56, 57, 97, 98, 99, 100, 101, 102] : List UInt8), b.toNat < 128) b (List.mem_of_getElem? h))
  rw [upper_dig] at h
  exact h

theorem ret_s {a b : ByteArray} (h : a = b) : Ending.returned (.string a) = .returned (.string b) := by rw [h]
theorem ofL_append (l m : List UInt8) : ofL l ++ ofL m = ofL (l ++ m) := by
  apply ByteArray.ext
  simp [ofL]
theorem bv_inj : ∀ {l m : List UInt8}, l.map bv = m.map bv → l = m
  | [], [], _ => rfl
  | [], _ :: _, h => by cases h
  | _ :: _, [], h => by cases h
  | a :: l, b :: m, h => by
    simp only [List.map_cons, List.cons.injEq] at h
    have e : a = b := by
      have := h.1
      unfold bv at this
      injection this with _ e
      exact UInt8.toNat_inj.1 (by omega)
    rw [e, bv_inj h.2]
set_option maxRecDepth 20000 in
set_option maxHeartbeats 4000000 in
theorem four_lay (n : Nat) (g : Bool) (hn : n ≤ 65535) (w : World) :
    Calls Tryd.prog 27 #[.int .i64 (n : Int), .bool g] w fun e w' => e = .returned (.string (ofL (fourT g n))) ∧ Below w.heap.size w w' := by
  go_enter Tryd.func27, Tryd.ntmps27
  go_upto_if 6 with fail
  go_cut [5] (fun s wx => s = .string (digS g) ∧ Below w.heap.size w wx)
  case first =>
    cases g
    · go_wp2_with fail
      go_meet
      case rel => exact ⟨rfl, Below.refl _ _⟩
    · go_wp2_with fail
      refine (toUpper_any _).mono ?_
      rintro e w1 ⟨rfl, hb1⟩
      go_wp2_with fail
      go_meet
      case rel => exact ⟨rfl, hb1⟩
  case rest =>
    obtain ⟨rfl, hb⟩ := hcut
    have Hm : Hid ((fourT g n).map bv = [.int .u8 92, .int .u8 117, .int .u8 ((digC g (n / 4096 % 16) : Nat) : Int), .int .u8 ((digC g (n / 256 % 16) : Nat) : Int), .int .u8 ((digC g (n / 16 % 16) : Nat) : Int), .int .u8 ((digC g (n % 16) : Nat) : Int)]) := Lib.hid (by
      unfold fourT
      simp only [List.map_cons, List.map_nil]
      rw [bv_b8 92 (by omega), bv_b8 117 (by omega), bv_b8 _ (Nat.lt_trans (digC_lt g (n / 4096 % 16) (by omega)) (by omega)), bv_b8 _ (Nat.lt_trans (digC_lt g (n / 256 % 16) (by omega)) (by omega)), bv_b8 _ (Nat.lt_trans (digC_lt g (n / 16 % 16) (by omega)) (by omega)), bv_b8 _ (Nat.lt_trans (digC_lt g (n % 16) (by omega)) (by omega))]
      rfl)
    have a0 := and15 (n / 4096) (by omega)
    have a1 := and15 (n / 256) (by omega)
    have a2 := and15 (n / 16) (by omega)
    have a3 := and15 n (by omega)
    rw [show ((n / 4096 : Nat) : Int) = (n : Int) / 4096 by omega] at a0
    rw [show ((n / 256 : Nat) : Int) = (n : Int) / 256 by omega] at a1
    rw [show ((n / 16 : Nat) : Int) = (n : Int) / 16 by omega] at a2
    have x0 := index_digG g (n / 4096 % 16) (by omega)
    have x1 := index_digG g (n / 256 % 16) (by omega)
    have x2 := index_digG g (n / 16 % 16) (by omega)
    have x3 := index_digG g (n % 16) (by omega)
    have l0 : n / 4096 % 16 < 16 := by omega
    have l1 : n / 256 % 16 < 16 := by omega
    have l2 : n / 16 % 16 < 16 := by omega
    have l3 : n % 16 < 16 := by omega
    generalize n / 4096 % 16 = q0 at *
    generalize n / 256 % 16 = q1 at *
    generalize n / 16 % 16 = q2 at *
    generalize n % 16 = q3 at *
    have d0 := digC_lt g q0 l0
    have d1 := digC_lt g q1 l1
    have d2 := digC_lt g q2 l2
    have d3 := digC_lt g q3 l3
    generalize digC g q0 = y0 at *
    generalize digC g q1 = y1 at *
    generalize digC g q2 = y2 at *
    generalize digC g q3 = y3 at *
    generalize digS g = D at *
    clear l0 l1 l2 l3
    have hby : Bytes (wc.alloc (.cells #[.int .u8 (y0 : Int), .int .u8 (y1 : Int), .int .u8 (y2 : Int), .int .u8 (y3 : Int)] 5)) (wc.heap.size + 1) (some ⟨wc.heap.size, 0, none⟩) 4 [b8 y0, b8 y1, b8 y2, b8 y3] := bytes_new wc [b8 y0, b8 y1, b8 y2, b8 y3] #[.int .u8 (y0 : Int), .int .u8 (y1 : Int), .int .u8 (y2 : Int), .int .u8 (y3 : Int)] 5 (0, 0) (by
      simp only [List.map_cons, List.map_nil]
      rw [bv_b8 y0 (by omega), bv_b8 y1 (by omega), bv_b8 y2 (by omega), bv_b8 y3 (by omega)])
    have hconv := run_bytes_string (P := Tryd.prog) Tryd.underlying22 Tryd.underlying5 Tryd.underlying9 _ _ _ 4 _ _ hby.drew
    have hconv2 := run_bytes_string (P := Tryd.prog) Tryd.underlying22 Tryd.underlying5 Tryd.underlying9 _ _ _ 4 _ _ hby
    have hsz : (ofL [b8 y0, b8 y1, b8 y2, b8 y3]).size = 4 := ofL_size _
    go_wp2
    go_region
    all_goals
      go_wp2
      go_ret
      exact ⟨ret_s (by
        show ofL [92, 117] ++ ofL [b8 y0, b8 y1, b8 y2, b8 y3] = ofL (fourT g n)
        rw [ofL_append]
        exact congrArg ofL (bv_inj (by rw [Hm.out]; simp only [List.map_append, List.map_cons, List.map_nil]; rw [bv_b8 y0 (by omega), bv_b8 y1 (by omega), bv_b8 y2 (by omega), bv_b8 y3 (by omega)]; rfl))), (bel_alloc hb _).drew⟩
end Go.Proofs.YtgnialemiefeeaaDoor
/-
  The walk of QuoteSaid.
-/
namespace Go.Proofs.YtgnialemiefeeaaDoor
open Go.RowKit
set_option linter.unusedVariables false

/-- What has been written says so much. -/
def SaysL (X : List UInt8) (cs : List Nat) : Prop := ∀ r, sgsL (X ++ r) = (cs ++ (sgsL r).1, X.length + (sgsL r).2)
theorem SaysL.start : SaysL [] [] := fun r => by simp
theorem SaysL.step {X t : List UInt8} {cs : List Nat} {c : Nat} (h : SaysL X cs) (ht : ∀ r, begL (t ++ r) = (c, t.length)) (hn : t.length ≠ 0) : SaysL (X ++ t) (cs ++ [c]) := fun r => by
  rw [List.append_assoc, h, sgs_step (l := t ++ r) (by rw [ht]; exact hn), ht]
  simp only [List.drop_left, List.length_append]
  refine Prod.ext ?_ ?_
  · simp
  · simp only; omega
theorem SaysL.done {X : List UInt8} {cs : List Nat} (h : SaysL X cs) : rdL (b8 34 :: (X ++ [b8 34])) 0 = (cs, X.length + 2, 0) := by
  have hs := h [b8 34]
  rw [sgs_mark, List.append_nil, Nat.add_zero] at hs
  have a1 : at0 (b8 34 :: (X ++ [b8 34])) (X.length + 1) = 34 := by
    unfold at0; simp [List.getD_eq_getElem?_getD]; rfl
  have hl : (b8 34 :: (X ++ [b8 34])).length = X.length + 2 := by simp
  rw [rd_is (q := X.length + 1) (cps := cs) (by rw [hl]; omega) rfl (by omega) (by show sgsL (X ++ [b8 34]) = _; rw [hs]; rfl), if_pos ⟨by rw [hl]; omega, a1⟩]
theorem and1023 (x : Nat) (h : x < 9223372036854775808) : bits .and .i64 (x : Int) 1023 = ((x % 1024 : Nat) : Int) := by
  have h2 := i64_and_nat x 1023 h (by omega)
  have e : x &&& 1023 = x % 1024 := by
    have := Nat.and_two_pow_sub_one_eq_mod x 10
    simpa using this
  rw [e] at h2
  exact h2
theorem snoc_cp {l : List Nat} {c : Nat} (h : allCp l) (hc : isCp c = true) : allCp (l ++ [c]) := by
  intro x hx
  rcases List.mem_append.1 hx with h1 | h1
  · exact h x h1
  · obtain rfl : x = c := by simpa using h1
    exact hc
/-- The string so far. -/
theorem str_step {S T : ByteArray} {X t : List UInt8} (hS : S = ofL (b8 34 :: X)) (hT : T = ofL t) : S ++ T = ofL (b8 34 :: (X ++ t)) := by rw [hS, hT, ofL_append]; rfl

set_option maxRecDepth 20000 in
set_option maxHeartbeats 8000000 in
theorem quoteSaid_walk (w : World) (A : Option Addr) (n c : Nat) (l : List Int) (h : Ints w w.heap.size A n l) (hl : ∀ z ∈ l, (Lit.int .i64 z).wf = true) (hA : A = none → c = 0) (hn : n ≤ c) (hc : c ≤ maxLen)
    (A' : Option Addr) (n' c' : Nat) (l' : List Int) (h' : Ints w w.heap.size A' n' l') (hl' : ∀ z ∈ l', (Lit.int .i64 z).wf = true) (hA' : A' = none → c' = 0) (hn' : n' ≤ c') (hc' : c' ≤ maxLen) (htab : UTab w) (hesc : ETab w) :
    Calls Tryd.prog 9 #[.slice A n c, .slice A' n' c'] w fun e w' => e = .returned (.bool true) ∧ Below w.heap.size w w' := by
  clear hl hl' hA hA'
  unfold maxLen at hc hc'
  obtain ⟨i0, hi, hz0, hz1, hz2⟩ := i64_info
  go_enter Tryd.func9, Tryd.ntmps9
  go_wp2_with fail
  refine (wakes_any w htab hesc).mono ?_
  rintro e w1 ⟨rfl, hb1⟩
  have r0 := World.ownsRow_lit (base := w1.heap.size) (e := 3) (size := 1) w1 #[] 0 (Nat.le_refl _) (by unfold maxLen; omega) rfl
  go_upto_region 4 with fail
  go_cut [25, 26, 27] (fun s25 s26 s27 wx => w1.alloc (.cells #[] 3) = wx ∧ ∃ mx : Nat, s25 = .slice A mx c ∧ s26 = .int .i64 mx ∧ s27 = .int .i64 0 ∧ mx ≤ n ∧ mx ≤ 60)
  case first =>
    by_cases h60 : 60 < n
    · have j1 : (60 : Int) < (n : Int) := by omega
      have j2 : (60 : Int) ≤ (c : Int) := by omega
      go_wp2_with fail
      go_meet
      case rel => exact ⟨rfl, 60, congrArg (fun m => Value.slice A m c) (by omega), congrArg (Value.int .i64) (by omega), rfl, by omega, by omega⟩
    · have j1 : ¬ (60 : Int) < (n : Int) := by omega
      have j2 : (n : Int) ≤ (c : Int) := by omega
      go_wp2_with fail
      go_meet
      case rel => exact ⟨rfl, n, congrArg (fun m => Value.slice A m c) (by omega), congrArg (Value.int .i64) (by omega), rfl, by omega, by omega⟩
  case rest =>
  obtain ⟨rfl, mx, rfl, rfl, rfl, hmx1, hmx2⟩ := hcut
  have hb0 : Below w1.heap.size w1 (w1.alloc (.cells #[] 3)) := (Below.refl _ _).alloc (Nat.le_refl _) _
  have Hsz := Lib.hid (fun (z : Int) (W : World) (hb : Below w1.heap.size w1 W) => size_any z W ((htab.below hb1 htab.lt).below hb (htab.below hb1 htab.lt).lt))
  have Hput := Lib.hid (fun (y : Nat) (hy : isCp y = true) (W : World) (hb : Below w1.heap.size w1 W) => put_yes none 0 0 0 [] y W ((htab.below hb1 htab.lt).below hb (htab.below hb1 htab.lt).lt) (Bytes.zero _) (Nat.zero_le _) (by omega) hy)
  generalize w1.alloc (.cells #[] 3) = w2 at *
  go_wp2_with fail
  go_loopw [5, 6, 27] (fun s5 s6 i wr => ∃ (k : Nat) (X : List UInt8) (cs : List Nat) (A6 : Option Addr) (n6 c6 : Nat) (S : ByteArray), i = .int .i64 k ∧ k ≤ mx ∧ s5 = .string S ∧ s6 = .slice A6 n6 c6 ∧ Hid (S = ofL (b8 34 :: X)) ∧ X.length ≤ 12 * k ∧ Hid (SaysL X cs) ∧ Hid (allCp cs) ∧ cs.length ≤ k ∧ wr.ownsRow w1.heap.size 3 1 (.slice A6 n6 c6) n6 ((nats cs).map iv) ∧ Below w1.heap.size w1 wr) (fun _ _ i _ => mx - (intOf i).toNat)
  case atStart => exact ⟨0, [], [], _, 0, 0, _, rfl, by omega, rfl, rfl, Lib.hid rfl, by simp, Lib.hid SaysL.start, Lib.hid (fun x hx => by cases hx), by simp, r0, hb0⟩
  case round =>
    obtain ⟨k, X, cs, A6, n6, c6, S, rfl, hk, rfl, rfl, HS, hX, HX, Hcp, hcs, hown, hbr⟩ := hrel
    have hb0r := bel_next hb1 hbr
    have hSz : S.size = X.length + 1 := by rw [HS.out, ofL_size]; rfl
    clear r0
    by_cases hlt : k < mx
    · have hlt' : (k : Int) < mx := by omega
      have hk0 : (0 : Int) ≤ k := by omega
      have hn6 : n6 ≤ 60 := by have := hown.1; rw [List.length_map, nats_len] at this; omega
      obtain ⟨b1, o1, rfl, hbk, hcell⟩ := (h.below hb0r).cell (Nat.lt_of_lt_of_le hlt hmx1)
      generalize l.getD k 0 = x at *
      cases hx : isCp x
      · have hsz := Hsz.out x wr hbr
        rw [hIdx_no x hx, show fs 4 = 0 from rfl] at hsz
        clear hx
        go_wp2_with fail
        refine hsz.mono ?_
        rintro e w3 ⟨rfl, hb3⟩
        go_wp2_with fail
        go_roundw
        case rel => exact ⟨k + 1, X, cs, A6, n6, c6, S, by go_num, by omega, rfl, rfl, HS, by omega, HX, Hcp, by omega, own_below hown hb3, bel_next hbr hb3⟩
        case measure => simp [intOf]; omega
      · obtain ⟨y, rfl⟩ : ∃ y : Nat, x = (y : Int) := ⟨x.toNat, by have := (isCp_iff _).1 hx; omega⟩
        have hsz := Hsz.out (y : Int) wr hbr
        rw [hIdx_len _ hx] at hsz
        have hlen := encL_len_pos y
        have hlen0 : (((encL y).length : Int) == 0) = false := by rw [beq_eq_false_iff_ne]; omega
        have hym := ((isCp_iff _).1 hx)
        have hput := Hput.out y hx
        rw [List.nil_append] at hput
        have Hx := Lib.hid hx
        clear hx
        go_wp2_with fail
        refine hsz.mono ?_
        rintro e w3 ⟨rfl, hb3⟩
        have hb13 := bel_next hbr hb3
        have hown3 := own_below hown hb3
        have h'3 := h'.below (bel_next hb1 hb13)
        clear hown hcell
        go_upto_if 38 with fail
        go_cut [9] (fun s wx => w3 = wx ∧ ∃ z : Int, s = .int .i64 z)
        case first =>
          by_cases hkn : k < n'
          · have hkn' : (k : Int) < n' := by omega
            obtain ⟨b2, o2, rfl, hbk2, hcell2⟩ := h'3.cell hkn
            generalize l'.getD k 0 = z at *
            go_wp2_with fail
            go_meet
            case rel => exact ⟨rfl, z, rfl⟩
          · have hkn' : ¬ (k : Int) < n' := by omega
            go_wp2_with fail
            go_meet
            case rel => exact ⟨rfl, 0, rfl⟩
        case rest =>
        obtain ⟨rfl, z, rfl⟩ := hcut
        clear h'3
        go_wp2_with fail
        refine (hput w3 hb13).mono ?_
        rintro e w4 ⟨A4, n4, c4, rfl, hown4, hb4⟩
        have hb14 := bel_next hb13 hb4
        have hown6 := own_below hown3 hb4
        have hby4 : Bytes w4 w4.heap.size A4 n4 (encL y) := Bytes.own hown4
        have hn4 : n4 = (encL y).length := hby4.len.symm
        have hconv := run_bytes_string (P := Tryd.prog) Tryd.underlying22 Tryd.underlying5 Tryd.underlying9 w4 A4 n4 c4 w4.heap.size (encL y) hby4
        have hT := ofL_size (encL y)
        have Hq4 := Lib.hid hn4
        clear hput hown3 hown4 hn4 hby4
        go_upto_region 13 with fail
        go_cut [67] (fun s wx => w4 = wx ∧ ((s = .bool true ∧ 32 ≤ y ∧ y ≠ 34 ∧ y ≠ 92) ∨ s = .bool false))
        case first =>
          cases c3 : (z.tmod 3 == 0)
          · go_wp2_with fail
            go_meet
            case rel => exact ⟨rfl, .inr rfl⟩
          · by_cases c32 : 32 ≤ y
            · have k32 : ((32 : Int) ≤ y) = True := by simp; omega
              by_cases c34 : y = 34
              · have k34 : ((y : Int) != 34) = false := by rw [c34]; rfl
                clear c34
                go_wp2_with fail
                go_meet
                case rel => exact ⟨rfl, .inr rfl⟩
              · have k34 : ((y : Int) != 34) = true := by rw [bne_iff_ne]; omega
                by_cases c92 : y = 92
                · have k92 : ((y : Int) != 92) = false := by rw [c92]; rfl
                  clear c92
                  go_wp2_with fail
                  go_meet
                  case rel => exact ⟨rfl, .inr rfl⟩
                · have k92 : ((y : Int) != 92) = true := by rw [bne_iff_ne]; omega
                  have Hc := Lib.hid (show 32 ≤ y ∧ y ≠ 34 ∧ y ≠ 92 from ⟨c32, c34, c92⟩)
                  clear c34 c92
                  go_wp2_with fail
                  go_meet
                  case rel => exact ⟨rfl, .inl ⟨rfl, Hc.out⟩⟩
            · have k32 : ((32 : Int) ≤ y) = False := by simp; omega
              go_wp2_with fail
              go_meet
              case rel => exact ⟨rfl, .inr rfl⟩
        case rest =>
        obtain ⟨rfl, hq⟩ := hcut
        rcases hq with ⟨rfl, c32, c34, c92⟩ | rfl
        · have hownW := hown6
          have hz4 : (encL y).length ≤ 4 := hlen.2
          have hz1' : 1 ≤ (encL y).length := hlen.1
          have hnew : Shows (w4.alloc (.cells #[.int .i64 (y : Int)] 3)) (w4.heap.size + 1) 1 (some ⟨w4.heap.size, 0, none⟩) 1 [.int .i64 (y : Int)] := ints_new w4 [(y : Int)] _ _ _ rfl
          have hszW := hb14.size
          go_wp2_with (at_builtin; refine wpList_append_shows _ rfl _ _ 35 rfl w1.heap.size 3 i0 (.int .i64 0) 1 8 Tryd.underlying35 hi hz0 hz1 hz2 rfl (by decide) _ _ _ rfl (hownW.alloc _) (w4.heap.size + 1) _ 1 1 [.int .i64 (y : Int)] rfl hnew (by simp [Value.oneCell']) (by unfold maxLen; omega) (by omega) (by simp; omega) ?_; intro A7 c7 w7 hown7 hgrow7 hb7)
          go_roundw
          case rel => exact ⟨k + 1, X ++ encL y, cs ++ [y], A7, n6 + 1, c7, _, by go_num, by omega, rfl, rfl, Lib.hid (str_step HS.out rfl), by rw [List.length_append]; omega, Lib.hid (HX.out.step (t := encL y) (fun r => beg_own y Hx.out c32 c34 c92 r) (by omega)), Lib.hid (snoc_cp Hcp.out Hx.out), by simp; omega, by rw [nats_snoc, List.map_append]; exact hown7, (bel_alloc hb14 _).trans hb7⟩
          case measure => simp [intOf]; omega
        · by_cases h16 : y < 65536
          · have k16 : ((y : Int) < 65536) = True := by simp; omega
            have hf := four_lay y (z.tmod 2 == 0) (by omega) w4
            have hTs := ofL_size (fourT (z.tmod 2 == 0) y)
            rw [fourT_len] at hTs
            clear hconv hT
            go_wp2_with fail
            refine hf.mono ?_
            rintro e w5 ⟨rfl, hb5⟩
            have hb15 := bel_next hb14 hb5
            have hownW := own_below hown6 hb5
            have hnew : Shows (w5.alloc (.cells #[.int .i64 (y : Int)] 3)) (w5.heap.size + 1) 1 (some ⟨w5.heap.size, 0, none⟩) 1 [.int .i64 (y : Int)] := ints_new w5 [(y : Int)] _ _ _ rfl
            have hszW := hb15.size
            go_wp2_with (at_builtin; refine wpList_append_shows _ rfl _ _ 35 rfl w1.heap.size 3 i0 (.int .i64 0) 1 8 Tryd.underlying35 hi hz0 hz1 hz2 rfl (by decide) _ _ _ rfl (hownW.alloc _) (w5.heap.size + 1) _ 1 1 [.int .i64 (y : Int)] rfl hnew (by simp [Value.oneCell']) (by unfold maxLen; omega) (by omega) (by simp; omega) ?_; intro A7 c7 w7 hown7 hgrow7 hb7)
            go_roundw
            case rel => exact ⟨k + 1, X ++ fourT (z.tmod 2 == 0) y, cs ++ [y], A7, n6 + 1, c7, _, by go_num, by omega, rfl, rfl, Lib.hid (str_step HS.out rfl), by rw [List.length_append]; rw [fourT_len]; omega, Lib.hid (HX.out.step (t := fourT (z.tmod 2 == 0) y) (fun r => beg_four _ y (by omega) (by omega) r) (by rw [fourT_len]; omega)), Lib.hid (snoc_cp Hcp.out Hx.out), by simp; omega, by rw [nats_snoc, List.map_append]; exact hown7, (bel_alloc hb15 _).trans hb7⟩
            case measure => simp [intOf]; omega
          · have k16 : ((y : Int) < 65536) = False := by simp; omega
            obtain ⟨q, hq0⟩ : ∃ q, q = (y - 65536) / 1024 := ⟨_, rfl⟩
            obtain ⟨r, hr0⟩ : ∃ r, r = (y - 65536) % 1024 := ⟨_, rfl⟩
            have Hqr := Lib.hid (show 65536 + (55296 + q - 55296) * 1024 + (56320 + r - 56320) = y ∧ q < 1024 ∧ r < 1024 by omega)
            have d0 : ((y : Int) - 65536) / 1024 = (q : Int) := by omega
            have d1 : bits .and .i64 ((y : Int) - 65536) 1023 = (r : Int) := by
              have := and1023 (y - 65536) (by omega)
              rw [show ((y - 65536 : Nat) : Int) = (y : Int) - 65536 by omega] at this
              rw [this, hr0]
            have q1 : q < 1024 := by omega
            have r1 : r < 1024 := by omega
            have y6 : (65536 : Int) ≤ y := by omega
            have hf := four_lay (55296 + q) (z.tmod 2 == 0) (by omega) w4
            have hf2 := fun (W : World) => four_lay (56320 + r) (z.tmod 5 == 0) (by omega) W
            have hTs := ofL_size (fourT (z.tmod 2 == 0) (55296 + q))
            have hTs2 := ofL_size (fourT (z.tmod 5 == 0) (56320 + r))
            rw [fourT_len] at hTs hTs2
            rw [show ((55296 + q : Nat) : Int) = 55296 + (q : Int) by omega] at hf
            rw [show ((56320 + r : Nat) : Int) = 56320 + (r : Int) by omega] at hf2
            clear hconv hT hq0 hr0
            go_wp2_with fail
            refine hf.mono ?_
            rintro e w5 ⟨rfl, hb5⟩
            go_wp2_with fail
            refine (hf2 _).mono ?_
            rintro e w6 ⟨rfl, hb6⟩
            have hb56 := bel_next hb5 hb6
            have hb16 := bel_next hb14 hb56
            have hownW := own_below hown6 hb56
            have hnew : Shows (w6.alloc (.cells #[.int .i64 (y : Int)] 3)) (w6.heap.size + 1) 1 (some ⟨w6.heap.size, 0, none⟩) 1 [.int .i64 (y : Int)] := ints_new w6 [(y : Int)] _ _ _ rfl
            have hszW := hb16.size
            go_wp2_with (at_builtin; refine wpList_append_shows _ rfl _ _ 35 rfl w1.heap.size 3 i0 (.int .i64 0) 1 8 Tryd.underlying35 hi hz0 hz1 hz2 rfl (by decide) _ _ _ rfl (hownW.alloc _) (w6.heap.size + 1) _ 1 1 [.int .i64 (y : Int)] rfl hnew (by simp [Value.oneCell']) (by unfold maxLen; omega) (by omega) (by simp; omega) ?_; intro A7 c7 w7 hown7 hgrow7 hb7)
            go_roundw
            case rel => exact ⟨k + 1, X ++ (fourT (z.tmod 2 == 0) (55296 + q) ++ fourT (z.tmod 5 == 0) (56320 + r)), cs ++ [y], A7, n6 + 1, c7, _, by go_num, by omega, rfl, rfl, Lib.hid (str_step HS.out (ofL_append _ _)), by rw [List.length_append]; rw [List.length_append, fourT_len, fourT_len]; omega, Lib.hid (HX.out.step (t := (fourT (z.tmod 2 == 0) (55296 + q) ++ fourT (z.tmod 5 == 0) (56320 + r))) (fun u => by rw [List.append_assoc, beg_pair _ _ _ _ (by omega) (by omega) (by omega) (by omega), Hqr.out.1]; rfl) (by rw [List.length_append, fourT_len]; omega)), Lib.hid (snoc_cp Hcp.out Hx.out), by simp; omega, by rw [nats_snoc, List.map_append]; exact hown7, (bel_alloc hb16 _).trans hb7⟩
            case measure => simp [intOf]; omega
    · have hkx : k = mx := by omega
      have hS2 : (S ++ ⟨#[34]⟩).data.toList = b8 34 :: (X ++ [b8 34]) := by
        rw [show S ++ ⟨#[34]⟩ = ofL (b8 34 :: (X ++ [b8 34])) from str_step (t := [b8 34]) (T := ⟨#[34]⟩) HS.out rfl, ofL_toList]
      have hl2 : (b8 34 :: (X ++ [b8 34])).length = X.length + 2 := by simp
      have t1 := htab.below hb1 htab.lt
      have e1 := hesc.below hb1 hesc.lt
      obtain ⟨c5, w5, hconv5, hl5, hc5a, hc5b, hb5⟩ := string_bytes (P := Tryd.prog) Tryd.underlying9 Tryd.underlying22 Tryd.underlying5 (S ++ ⟨#[34]⟩) _ hS2 (by rw [str_size _ _ hS2, hl2]; unfold maxLen; omega) wr
      have hb15 := bel_next hbr hb5
      have hrd := read_in (some ⟨wr.heap.size, 0, none⟩) _ c5 w5.heap.size 0 _ w5 (t1.below hb15 t1.lt) (e1.below hb15 e1.lt) hl5 (Nat.le_refl _) (by rw [hl2]; omega) hc5a (Nat.zero_le _)
      rw [readV_rd, HX.out.done] at hrd
      simp only at hrd
      have hpt := fun (W : World) (hb : Below w1.heap.size w1 W) => points_yes (ofL (textL cs)) (textL cs) (ofL_toList _) W (by rw [ofL_size]; have := textL_le4 cs; omega) (t1.below hb t1.lt) (by rw [pts_textL cs Hcp.out])
      simp only [pts_textL cs Hcp.out] at hpt
      have Hpt := Lib.hid hpt
      have Hown := Lib.hid (own_below hown hb5)
      have Hnl := Lib.hid (nats_len cs)
      rw [hl2] at hrd hconv5
      have hp2 : ((X.length + 2 : Nat) : Int) = (X.length : Int) + 2 := by omega
      rw [hp2] at hrd
      clear hpt hl5 hc5a hc5b hS2 hl2 hown hp2
      generalize ofL (textL cs) = T at *
      generalize X.length = p at *
      go_wp2_with fail
      refine hrd.mono ?_
      rintro e w6 ⟨rfl, hb6⟩
      have hb16 := bel_next hb15 hb6
      go_wp2_with fail
      refine (Hpt.out _ hb16).mono ?_
      rintro e w7 ⟨A7, n7, c7, rfl, hown7, hb7⟩
      have hb17 := bel_next hb16 hb7
      have hown6 := own_below (own_below Hown.out hb6) hb7
      have hn7 : n7 ≤ 60 := by have := hown7.1; rw [List.length_map, Hnl.out] at this; omega
      have heq := equalI_any A7 A6 n7 c7 n6 c6 (nats cs) (nats cs) w7.heap.size w7.heap.size w7 (Ints.own hown7) (Ints.own hown6) (by unfold maxLen; omega)
      rw [show sameI (nats cs) (nats cs) = true from decide_eq_true rfl] at heq
      clear hown7 hown6
      go_wp2_with fail
      refine heq.mono ?_
      rintro e w8 ⟨rfl, k8, rfl⟩
      go_wp2
      go_ret
      exact ⟨rfl, below_drewN (bel_next hb1 hb17) _⟩
end Go.Proofs.YtgnialemiefeeaaDoor
