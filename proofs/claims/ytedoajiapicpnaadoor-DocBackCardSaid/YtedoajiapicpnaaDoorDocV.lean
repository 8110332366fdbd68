/-
  Package doc: ParseRev.
-/
import Derived.Test.YtedoajiapicpnaaDoorDocU
import Derived.Test.YtedoajiapicpnaaDoorDocC
import Derived.Test.YtedoajiapicpnaaDoorDocN
import Derived.Deep.CutBlock
import Derived.Deep.DeepCutAuto
import Derived.Outline
namespace Go.Proofs.YtedoajiapicpnaaDoor
open Go.RowKit
attribute [local go_sem ↓] Go.wp_at_zero Go.wp_at_succ

theorem mark_step (m d : Nat) (hm : m < 4294967296) (hd : d < 16) : bits .or .u64 (bits .and .u64 ((m : Int) * 16) 4294967295) (d : Int) = (((m * 16) % 4294967296 + d : Nat) : Int) := by
  have h1 := u64_and_nat (m * 16) 4294967295 (by omega) (by decide)
  rw [show ((m * 16 : Nat) : Int) = (m : Int) * 16 by omega, show (((4294967295 : Nat)) : Int) = 4294967295 from rfl, show (4294967295 : Nat) = 2 ^ 32 - 1 from rfl, Nat.and_two_pow_sub_one_eq_mod] at h1
  rw [h1, u64_or_nat _ _ (by omega) (by omega)]
  have h2 := Nat.shiftLeft_add_eq_or_of_lt (i := 4) (b := d) hd (m % 268435456)
  rw [Nat.shiftLeft_eq] at h2
  rw [show m * 16 % 2 ^ 32 = m % 268435456 * 2 ^ 4 by omega, ← h2]

/-- What the loop leaves, and what is answered then. -/
def Out (l : List UInt8) (g m : Nat) : Prop :=
  (0 < g → g ≤ 4294967295 → textL g m = l → parV l = revV g m ∧ parE l = 0) ∧ ((g = 0 ∨ 4294967295 < g ∨ textL g m ≠ l) → parV l = revV 0 0 ∧ parE l = 291)
theorem out_end (l : List UInt8) (g m : Nat) (h : Bool) (hl : l ≠ []) (hs : scan l (0, 0, false) = some (g, m, h)) : Out l g m := by
  refine ⟨fun h0 h1 h2 => ?_, fun h0 => ?_⟩
  · have e : parseOk l = some (g, m) := by
      unfold parseOk
      rw [if_neg hl, hs]
      simp only
      rw [if_pos ⟨h0, h1, h2⟩]
    unfold parV parE
    rw [e]
    exact ⟨rfl, rfl⟩
  · have e : parseOk l = none := by
      unfold parseOk
      rw [if_neg hl, hs]
      simp only
      rw [if_neg]
      rintro ⟨a, b, c⟩
      rcases h0 with h0 | h0 | h0
      · omega
      · omega
      · exact h0 c
    unfold parV parE
    rw [e]
    exact ⟨rfl, rfl⟩
theorem out_break (l : List UInt8) (g m : Nat) (hl : l ≠ []) (hm : m < 4294967296) (hs : scan l (0, 0, false) = none) : Out l g m := by
  have e : parseOk l = none := by
    unfold parseOk
    rw [if_neg hl, hs]
  have e2 : parV l = revV 0 0 ∧ parE l = 291 := by
    unfold parV parE
    rw [e]
    exact ⟨rfl, rfl⟩
  refine ⟨fun h0 h1 h2 => ?_, fun _ => e2⟩
  have := scan_text g m (by omega) hm
  rw [h2, hs] at this
  cases this
theorem scan_stop (l : List UInt8) (k : Nat) (st : Nat × Nat × Bool) (hk : k < l.length) (h : scan (l.take k) (0, 0, false) = some st) (h1 : scan1 st (l.getD k 0) = none) : scan l (0, 0, false) = none := by
  have h2 : scan (l.take (k + 1)) (0, 0, false) = none := by
    rw [take_snoc l k hk, scan_snoc, h]
    exact h1
  have := scan_none (l.take (k + 1)) (l.drop (k + 1)) _ h2
  rwa [List.take_append_drop] at this

set_option maxRecDepth 20000 in
set_option maxHeartbeats 1000000 in
theorem parseRev_any (s : ByteArray) (w : World) (hs : s.size ≤ 1000) (h0 : 0 < s.size) :
    Calls Tryd.prog 21 #[.string s] w fun e w' => e = .returned (.tuple #[parV s.data.toList, .int .i64 (parE s.data.toList)]) ∧ Below w.heap.size w w' := by
  have hne := str_ne s h0
  have Hl := Lib.hid (str_len s)
  have hsz : (w.alloc (.cells #[.int .u32 0, .int .u32 0] 28)).heap.size = w.heap.size + 1 := by simp
  go_enter Tryd.func21, Tryd.ntmps21
  go_wp2
  go_step3
  go_wp2
  go_step3
  go_upto_block 0 with fail
  go_cut [4, 5] (fun x y wx => ∃ g m k : Nat, x = .int .u64 (g : Int) ∧ y = .int .u64 (m : Int) ∧ g ≤ 42949672959 ∧ m < 4294967296 ∧ Hid (Out s.data.toList g m) ∧ wx = (w.alloc (.cells #[.int .u32 0, .int .u32 0] 28)).iter s k)
  case first =>
    have Hne := Lib.hid (show s.data.toList ≠ [] by intro e; have := Hl.out; rw [e] at this; simp at this; omega)
    go_wp2_with fail
    go_loopw [4, 5, 6] (fun x y z wr => ∃ (k g m : Nat) (h : Bool), k ≤ s.size ∧ x = .int .u64 (g : Int) ∧ y = .int .u64 (m : Int) ∧ z = .bool h ∧ g ≤ 42949672959 ∧ m < 4294967296 ∧ Hid (scan (s.data.toList.take k) (0, 0, false) = some (g, m, h)) ∧ wr = (w.alloc (.cells #[.int .u32 0, .int .u32 0] 28)).iter s k) (fun _ _ _ wr => match wr.heap[w.heap.size + 1]? with | some (.stringIter _ p) => s.size - p | _ => 0)
    case atStart => exact ⟨0, 0, 0, false, Nat.zero_le _, rfl, rfl, rfl, by omega, by omega, Lib.hid rfl, rfl⟩
    case round =>
      obtain ⟨k, g, m, h, hk, rfl, rfl, rfl, hg, hm, Hsc, rfl⟩ := hrel
      by_cases hlt : k < s.size
      · by_cases ha : (s[k]'hlt).toNat < 128
        · have hnx := run_next_ascii (P := Tryd.prog) (w.alloc (.cells #[.int .u32 0, .int .u32 0] 28)) s k 0 hlt ha
          rw [hsz] at hnx
          go_wp2_with fail
          refine (digit_any (s[k]'hlt).toNat _ (by omega)).mono ?_
          rintro e w1 ⟨rfl, rfl⟩
          have hc : s[k]'hlt = s.data.toList.getD k 0 := str_get s k hlt
          have hstep := Lib.hid (show scan (s.data.toList.take (k + 1)) (0, 0, false) = scan1 (g, m, h) (s[k]'hlt) by
            rw [take_snoc _ k (by rw [Hl.out]; exact hlt), scan_snoc, Hsc.out, Option.bind_some, hc])
          have Hout : scan1 (g, m, h) (s[k]'hlt) = none → Out s.data.toList g m := fun e => out_break _ g m Hne.out hm (scan_stop _ k _ (by rw [Hl.out]; exact hlt) Hsc.out (by rw [← hc]; exact e))
          have hd16 : digN (s[k]'hlt).toNat ≤ 16 := by
            rcases digN_cases (s[k]'hlt).toNat with ⟨_, e⟩ | ⟨_, e⟩ | ⟨_, e⟩ | ⟨_, e⟩ | ⟨_, e⟩ <;> omega
          have hd45 : (s[k]'hlt).toNat = 45 → digN (s[k]'hlt).toNat = 16 := by
            intro e
            rw [e]
            rfl
          have Hs1 : Hid (∀ st, scan1 (g, m, h) (s[k]'hlt) = st → scan (s.data.toList.take (k + 1)) (0, 0, false) = st) := Lib.hid fun st e => hstep.out.trans e
          have Ho1 := Lib.hid Hout
          clear hnx hstep hc Hout
          generalize hcc : (s[k]'hlt).toNat = c at *
          have Hcc := Lib.hid hcc
          clear hcc
          cases h
          · by_cases hg1 : digN c < 10 ∧ g ≤ 4294967295
            · have Hn := Lib.hid (Hs1.out _ (show scan1 (g, m, false) (s[k]'hlt) = some (10 * g + digN c, m, false) by unfold scan1; simp only [Hcc.out]; rw [if_neg (by decide), if_pos hg1]))
              obtain ⟨hg1, hg2⟩ := hg1
              generalize digN c = d at *
              clear Hs1 hd45 Ho1
              go_wp2
              go_roundw
              case rel => exact ⟨k + 1, 10 * g + d, m, false, by omega, by go_num, rfl, rfl, by omega, hm, Hn, rfl⟩
              case measure =>
                have i1 := World.iter_heap (w.alloc (.cells #[.int .u32 0, .int .u32 0] 28)) s (k + 1)
                have i2 := World.iter_heap (w.alloc (.cells #[.int .u32 0, .int .u32 0] 28)) s k
                rw [hsz] at i1 i2
                rw [i1, i2]
                simp only
                omega
            · by_cases h45 : c = 45
              · have hd := hd45 h45
                have Hn := Lib.hid (Hs1.out _ (show scan1 (g, m, false) (s[k]'hlt) = some (g, m, true) by unfold scan1; simp only [Hcc.out]; rw [if_neg (by decide), if_neg hg1, if_pos h45]))
                rw [hd]
                subst h45
                clear Hs1 hd45 hg1 hd hd16 Ho1
                go_wp2
                go_roundw
                case rel => exact ⟨k + 1, g, m, true, by omega, rfl, rfl, rfl, hg, hm, Hn, rfl⟩
                case measure =>
                  have i1 := World.iter_heap (w.alloc (.cells #[.int .u32 0, .int .u32 0] 28)) s (k + 1)
                  have i2 := World.iter_heap (w.alloc (.cells #[.int .u32 0, .int .u32 0] 28)) s k
                  rw [hsz] at i1 i2
                  rw [i1, i2]
                  simp only
                  omega
              · have Hx := Lib.hid (Ho1.out (by unfold scan1; simp only [Hcc.out]; rw [if_neg (by decide), if_neg hg1, if_neg h45]))
                have hb45 : ((c : Int) == 45) = false := beq_eq_false_iff_ne.2 (by omega)
                clear Hs1 hd45 Ho1
                by_cases hd : digN c < 10
                · have hgg : 4294967295 < g := by omega
                  clear hg1 h45
                  go_wp2
                  go_meet
                  case rel => exact ⟨g, m, k + 1, rfl, rfl, hg, hm, Hx, rfl⟩
                · clear hg1 h45
                  go_wp2
                  go_meet
                  case rel => exact ⟨g, m, k + 1, rfl, rfl, hg, hm, Hx, rfl⟩
          · by_cases hd : digN c < 16
            · have Hn := Lib.hid (Hs1.out _ (show scan1 (g, m, true) (s[k]'hlt) = some (g, (m * 16) % 4294967296 + digN c, true) by unfold scan1; simp only [Hcc.out]; rw [if_pos trivial, if_pos hd]))
              generalize digN c = d at *
              clear Hs1 hd45 Ho1
              go_wp2
              go_roundw
              case rel => exact ⟨k + 1, g, _, true, by omega, rfl, by rw [mark_step m d hm hd], rfl, hg, by omega, Hn, rfl⟩
              case measure =>
                have i1 := World.iter_heap (w.alloc (.cells #[.int .u32 0, .int .u32 0] 28)) s (k + 1)
                have i2 := World.iter_heap (w.alloc (.cells #[.int .u32 0, .int .u32 0] 28)) s k
                rw [hsz] at i1 i2
                rw [i1, i2]
                simp only
                omega
            · have Hx := Lib.hid (Ho1.out (by unfold scan1; simp only [Hcc.out]; rw [if_pos trivial, if_neg hd]))
              clear Hs1 hd45 Ho1
              go_wp2
              go_meet
              case rel => exact ⟨g, m, k + 1, rfl, rfl, hg, hm, Hx, rfl⟩
        · have hnx := run_next_any (P := Tryd.prog) (w.alloc (.cells #[.int .u32 0, .int .u32 0] 28)) s k 0 hlt
          rw [hsz] at hnx
          obtain ⟨hr1, hr2, _⟩ := decode_high s k hlt (by omega)
          have hc : s[k]'hlt = s.data.toList.getD k 0 := str_get s k hlt
          have Hx : Out s.data.toList g m := out_break _ g m Hne.out hm (scan_stop _ k _ (by rw [Hl.out]; exact hlt) Hsc.out (by
            rw [← hc]
            have hd : digN (s[k]'hlt).toNat = 16 := by
              rcases digN_cases (s[k]'hlt).toNat with ⟨_, e⟩ | ⟨_, e⟩ | ⟨_, e⟩ | ⟨_, e⟩ | ⟨_, e⟩ <;> omega
            unfold scan1
            rw [hd]
            cases h
            · rw [if_neg (show ¬ false = true by decide), if_neg (by omega), if_neg (by omega)]
            · rw [if_pos (show true = true from rfl), if_neg (by omega)]))
          have Hx2 := Lib.hid Hx
          have hd : digN (Utf8.decode s k).1 = 16 := by
            rcases digN_cases (Utf8.decode s k).1 with ⟨_, e⟩ | ⟨_, e⟩ | ⟨_, e⟩ | ⟨_, e⟩ | ⟨_, e⟩ <;> omega
          have Hd := Lib.hid hd
          have Hc2 := Lib.hid (rfl : k + (Utf8.decode s k).2 = k + (Utf8.decode s k).2)
          clear hc Hx ha hd
          generalize (Utf8.decode s k).1 = r at *
          generalize k + (Utf8.decode s k).2 = k2 at *
          go_wp2_with fail
          refine (digit_any r _ (by omega)).mono ?_
          rintro e w1 ⟨rfl, rfl⟩
          rw [Hd.out]
          have hb45 : ((r : Int) == 45) = false := beq_eq_false_iff_ne.2 (by omega)
          clear hnx
          cases h
          · go_wp2
            go_meet
            case rel => exact ⟨g, m, k2, rfl, rfl, hg, hm, Hx2, rfl⟩
          · go_wp2
            go_meet
            case rel => exact ⟨g, m, k2, rfl, rfl, hg, hm, Hx2, rfl⟩
      · have hnx := run_next_end (P := Tryd.prog) (w.alloc (.cells #[.int .u32 0, .int .u32 0] 28)) s k 0 hlt
        rw [hsz] at hnx
        have Hx := Lib.hid (out_end _ g m h Hne.out (by have := Hsc.out; rwa [List.take_of_length_le (by rw [Hl.out]; omega)] at this))
        go_wp2
        go_meet
        case rel => exact ⟨g, m, k, rfl, rfl, hg, hm, Hx, rfl⟩
  case rest =>
    obtain ⟨g, m, k, rfl, rfl, hg, hm, Ho, rfl⟩ := hcut
    have hsz2 : ((w.alloc (.cells #[.int .u32 0, .int .u32 0] 28)).iter s k).heap.size = w.heap.size + 2 := by simp [World.iter]
    have c0 : ((w.alloc (.cells #[.int .u32 0, .int .u32 0] 28)).iter s k).cell? ⟨w.heap.size, 0, none⟩ = some (.int .u32 0) := by unfold World.iter; go_simp
    have c1 : ((w.alloc (.cells #[.int .u32 0, .int .u32 0] 28)).iter s k).cell? ⟨w.heap.size, 1, none⟩ = some (.int .u32 0) := by unfold World.iter; go_simp
    have f0 : ((w.alloc (.cells #[.int .u32 0, .int .u32 0] 28)).iter s k).frozen? ⟨w.heap.size, 0, none⟩ = false := by unfold World.iter; go_simp
    have f1 : ((w.alloc (.cells #[.int .u32 0, .int .u32 0] 28)).iter s k).frozen? ⟨w.heap.size, 1, none⟩ = false := by unfold World.iter; go_simp
    have hb : Below w.heap.size w ((w.alloc (.cells #[.int .u32 0, .int .u32 0] 28)).iter s k) := ((Below.refl _ _).alloc (Nat.le_refl _) _).alloc (by simp) _
    generalize (w.alloc (.cells #[.int .u32 0, .int .u32 0] 28)).iter s k = W at *
    by_cases g0 : g = 0
    · have Hv := Lib.hid (Ho.out.2 (.inl g0)).1
      have He := Lib.hid (Ho.out.2 (.inl g0)).2
      have hgz : ((g : Int) == 0) = true := by rw [g0]; rfl
      clear hg Ho hsz g0
      go_wp2
      rw [Exit.noGoto_ret]
      refine bodyPost_ret (v := .tuple #[.agg #[.int .u32 0, .int .u32 0], .int .i64 291]) ?_ rfl ⟨?_, ?_⟩
      · simp [results, Tryd.results21, go_sem, *]
      · rw [Hv.out, He.out]
        rfl
      · exact ((hb.setCell (p := ⟨w.heap.size, 0, none⟩) (Nat.le_refl _) _).setCell (p := ⟨w.heap.size, 1, none⟩) (Nat.le_refl _) _).alloc (by rw [size_set, size_set, hsz2]; omega) _
    · by_cases g1 : 4294967295 < g
      · have Hv := Lib.hid (Ho.out.2 (.inr (.inl g1))).1
        have He := Lib.hid (Ho.out.2 (.inr (.inl g1))).2
        have hgz : ((g : Int) == 0) = false := beq_eq_false_iff_ne.2 (by omega)
        clear hg Ho hsz g0
        go_wp2
        refine bodyPost_ret (v := .tuple #[.agg #[.int .u32 0, .int .u32 0], .int .i64 291]) ?_ rfl ⟨?_, ?_⟩
        · simp [results, Tryd.results21, go_sem, *]
        · rw [Hv.out, He.out]
          rfl
        · exact ((hb.setCell (p := ⟨w.heap.size, 0, none⟩) (Nat.le_refl _) _).setCell (p := ⟨w.heap.size, 1, none⟩) (Nat.le_refl _) _).alloc (by rw [size_set, size_set, hsz2]; omega) _
      · have hgz : ((g : Int) == 0) = false := beq_eq_false_iff_ne.2 (by omega)
        have hgp : 0 < g := by omega
        have hgm : g < 4294967296 := by omega
        clear hg hsz g0 g1
        go_wp2_with fail
        refine (text_any g m _ hgm hm).mono ?_
        rintro e w3 ⟨rfl, hb3⟩
        have d0 := (hb3.cell (p := ⟨w.heap.size, 0, none⟩) (by simp; omega)).trans (cell_keep c0 _)
        have d1 := (hb3.cell (p := ⟨w.heap.size, 1, none⟩) (by simp; omega)).trans (cell_keep c1 _)
        have k0 := (hb3.frozen (p := ⟨w.heap.size, 0, none⟩) (by simp; omega)).trans ((frozen_keep c0 _).trans f0)
        have k1 := (hb3.frozen (p := ⟨w.heap.size, 1, none⟩) (by simp; omega)).trans ((frozen_keep c1 _).trans f1)
        have d2 := (hb3.cell (p := ⟨W.heap.size, 0, none⟩) (by simp)).trans (World.cell?_alloc_new _ _ _ _)
        have d3 := (hb3.cell (p := ⟨W.heap.size, 1, none⟩) (by simp)).trans (World.cell?_alloc_new _ _ _ _)
        rw [hsz2] at d2 d3
        have hbb := hb.trans (((Below.refl _ _).alloc (by omega) (.cells #[.int .u32 (g : Int), .int .u32 (m : Int)] 28)).trans (hb3.mono (by simp; omega)))
        clear hb3 hb c0 c1 f0 f1
        by_cases ht : textL g m = s.data.toList
        · have Hv := Lib.hid (Ho.out.1 hgp (by omega) ht).1
          have He := Lib.hid (Ho.out.1 hgp (by omega) ht).2
          rw [show ofL (textL g m) = s by rw [ht]; exact ofL_of s]
          clear Ho ht
          go_wp2
          rw [Exit.noGoto_ret]
          refine bodyPost_ret (v := .tuple #[.agg #[.int .u32 (g : Int), .int .u32 (m : Int)], .int .i64 0]) ?_ rfl ⟨?_, ?_⟩
          · simp [results, Tryd.results21, go_sem, *]
          · rw [Hv.out, He.out]
            rfl
          · exact (hbb.setCell (p := ⟨w.heap.size, 0, none⟩) (Nat.le_refl _) _).setCell (p := ⟨w.heap.size, 1, none⟩) (Nat.le_refl _) _
        · have Hv := Lib.hid (Ho.out.2 (.inr (.inr ht))).1
          have He := Lib.hid (Ho.out.2 (.inr (.inr ht))).2
          have hne2 : (!((ofL (textL g m)).toList == s.toList)) = true := by
            rw [Bool.not_eq_true', beq_eq_false_iff_ne]
            intro e
            rw [ByteArray.toList_eq, ByteArray.toList_eq, ofL_toList] at e
            exact ht e
          clear Ho ht
          go_wp2
          rw [Exit.noGoto_ret]
          refine bodyPost_ret (v := .tuple #[.agg #[.int .u32 0, .int .u32 0], .int .i64 291]) ?_ rfl ⟨?_, ?_⟩
          · simp [results, Tryd.results21, go_sem, *]
          · rw [Hv.out, He.out]
            rfl
          · exact (hbb.setCell (p := ⟨w.heap.size, 0, none⟩) (Nat.le_refl _) _).setCell (p := ⟨w.heap.size, 1, none⟩) (Nat.le_refl _) _
end Go.Proofs.YtedoajiapicpnaaDoor
