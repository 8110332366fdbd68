/-
  Layer 19: the reference's Parse.
-/
import Derived.Test.YtedoajiapicpnaaDoorDocX
import Derived.Test.YtedoajiapicpnaaDoorDocC
namespace Go.Proofs.YtedoajiapicpnaaDoor
open Go.RowKit
attribute [local go_sem ↓] Go.wp_at_zero Go.wp_at_succ

theorem valD_lt : ∀ (k : Nat) (l : List UInt8), l.length ≤ k → digs 10 l → valD l < 10 ^ k
  | 0, l, hl, _ => by rw [List.eq_nil_of_length_eq_zero (Nat.le_zero.1 hl)]; decide
  | k + 1, l, hl, hd => by
    rcases snoc_cases l with rfl | ⟨m, c, rfl⟩
    · exact Nat.pow_pos (by decide)
    · have := valD_lt k m (by rw [List.length_append, List.length_singleton] at hl; omega) (digs_snoc hd).1
      have hc := (digs_snoc hd).2
      rw [valD_snoc, Nat.pow_succ]
      omega
theorem valH_lt2 : ∀ (k : Nat) (l : List UInt8), l.length ≤ k → digs 16 l → valH l < 16 ^ k
  | 0, l, hl, _ => by rw [List.eq_nil_of_length_eq_zero (Nat.le_zero.1 hl)]; decide
  | k + 1, l, hl, hd => by
    rcases snoc_cases l with rfl | ⟨m, c, rfl⟩
    · exact Nat.pow_pos (by decide)
    · have := valH_lt2 k m (by rw [List.length_append, List.length_singleton] at hl; omega) (digs_snoc hd).1
      have hc := (digs_snoc hd).2
      rw [valH_snoc, Nat.pow_succ]
      omega
/-- What the reference has read behind k bytes. -/
def RSt (l : List UInt8) (k g m : Nat) : Prop :=
  digs 10 (l.take (min k (l.length - 9))) ∧ digs 16 ((l.drop (l.length - 8)).take (k - (l.length - 8))) ∧ g = valD (l.take (min k (l.length - 9))) ∧ m = valH ((l.drop (l.length - 8)).take (k - (l.length - 8)))
theorem rst_zero (l : List UInt8) : RSt l 0 0 0 := by
  unfold RSt
  rw [Nat.zero_min, show 0 - (l.length - 8) = 0 by omega, List.take_zero, List.take_zero]
  exact ⟨fun c hc => by simp at hc, fun c hc => by simp at hc, rfl, rfl⟩
theorem rst_bound {l : List UInt8} {k g m : Nat} (h : RSt l k g m) (h1 : 10 ≤ l.length) (h2 : l.length ≤ 19) : g < 10000000000 ∧ m < 4294967296 := by
  obtain ⟨a, b, rfl, rfl⟩ := h
  refine ⟨?_, ?_⟩
  · have := valD_lt 10 _ (by rw [List.length_take]; omega) a
    simpa using this
  · have := valH_lt2 8 _ (by rw [List.length_take, List.length_drop]; omega) b
    simpa using this
theorem rst_dec {l : List UInt8} {k g m : Nat} (h : RSt l k g m) (h1 : 10 ≤ l.length) (hk : k < l.length - 9) (hd : digN (l.getD k 0).toNat < 10) : RSt l (k + 1) (10 * g + digN (l.getD k 0).toNat) m := by
  obtain ⟨a, b, rfl, rfl⟩ := h
  unfold RSt
  rw [Nat.min_eq_left (by omega)] at a ⊢
  rw [Nat.min_eq_left (by omega), show k - (l.length - 8) = 0 by omega] at *
  rw [show k + 1 - (l.length - 8) = 0 by omega, take_snoc l k (by omega)]
  exact ⟨digs_mk a hd, b, (valD_snoc _ _).symm, rfl⟩
theorem rst_mid {l : List UInt8} {k g m : Nat} (h : RSt l k g m) (h1 : 10 ≤ l.length) (hk : k = l.length - 9) : RSt l (k + 1) g m := by
  unfold RSt at *
  rw [Nat.min_eq_right (by omega), show k - (l.length - 8) = 0 by omega] at h
  rw [Nat.min_eq_right (by omega), show k + 1 - (l.length - 8) = 0 by omega]
  exact h
theorem rst_hex {l : List UInt8} {k g m : Nat} (h : RSt l k g m) (h1 : 10 ≤ l.length) (hk : l.length - 9 < k) (hk2 : k < l.length) (hd : digN (l.getD k 0).toNat < 16) : RSt l (k + 1) g (16 * m + digN (l.getD k 0).toNat) := by
  obtain ⟨a, b, rfl, rfl⟩ := h
  unfold RSt
  rw [Nat.min_eq_right (by omega)] at a ⊢
  rw [Nat.min_eq_right (by omega)] at *
  have e : (l.drop (l.length - 8)).getD (k - (l.length - 8)) 0 = l.getD k 0 := by
    rw [List.getD_eq_getElem?_getD, List.getD_eq_getElem?_getD, List.getElem?_drop, show l.length - 8 + (k - (l.length - 8)) = k by omega]
  rw [show k + 1 - (l.length - 8) = k - (l.length - 8) + 1 by omega, take_snoc (l.drop (l.length - 8)) (k - (l.length - 8)) (by rw [List.length_drop]; omega), e]
  exact ⟨a, digs_mk b hd, rfl, (valH_snoc _ _).symm⟩
theorem rst_end {l : List UInt8} {g m : Nat} (h : RSt l l.length g m) (h1 : 10 ≤ l.length) : digs 10 (l.take (l.length - 9)) ∧ digs 16 (l.drop (l.length - 8)) ∧ g = valD (l.take (l.length - 9)) ∧ m = valH (l.drop (l.length - 8)) := by
  unfold RSt at h
  have e : (l.drop (l.length - 8)).take (l.length - (l.length - 8)) = l.drop (l.length - 8) := List.take_of_length_le (by rw [List.length_drop]; exact Nat.le_refl _)
  rw [Nat.min_eq_right (by omega), e] at h
  exact h
theorem bad_dec {l : List UInt8} {k : Nat} (h1 : 10 ≤ l.length) (hk : k < l.length - 9) (hd : ¬ digN (l.getD k 0).toNat < 10) : ¬ goodP l := by
  rintro ⟨_, h, _⟩
  apply hd
  refine h _ (List.mem_iff_getElem?.2 ⟨k, ?_⟩)
  rw [List.getElem?_take, if_pos hk, List.getD_eq_getElem?_getD, List.getElem?_eq_getElem (by omega)]
  rfl
theorem bad_hex {l : List UInt8} {k : Nat} (h1 : 10 ≤ l.length) (hk : l.length - 9 < k) (hk2 : k < l.length) (hd : ¬ digN (l.getD k 0).toNat < 16) : ¬ goodP l := by
  rintro ⟨_, _, h, _⟩
  apply hd
  refine h _ (List.mem_iff_getElem?.2 ⟨k - (l.length - 8), ?_⟩)
  rw [List.getElem?_drop, show l.length - 8 + (k - (l.length - 8)) = k by omega, List.getD_eq_getElem?_getD, List.getElem?_eq_getElem (by omega)]
  rfl
def parB (l : List UInt8) : Bool := (parseOk l).isSome
theorem par_none (l : List UInt8) (hl : l ≠ []) (h : ¬ goodP l) : parV l = revV 0 0 ∧ parB l = false := by
  have e := parse_none l hl h
  unfold parV parB
  rw [e]
  exact ⟨rfl, rfl⟩
theorem par_some (l : List UInt8) (hl : l ≠ []) (h : goodP l) : parV l = revV (valD (l.take (l.length - 9))) (valH (l.drop (l.length - 8))) ∧ parB l = true := by
  have e := parse_some l hl h
  unfold parV parB
  rw [e]
  exact ⟨rfl, rfl⟩
theorem valI_yes (c b : Nat) (h : digN c < b) : valI c b = (digN c : Int) := by unfold valI; rw [if_pos h]
theorem valI_no (c b : Nat) (h : ¬ digN c < b) : valI c b = -1 := by unfold valI; rw [if_neg h]

set_option maxRecDepth 20000 in
set_option maxHeartbeats 1000000 in
theorem refParse_any (s : ByteArray) (w : World) (hs : s.size ≤ 1000) :
    Calls Tryd.prog 22 #[.string s] w fun e w' => e = .returned (.tuple #[parV s.data.toList, .bool (parB s.data.toList)]) ∧ Below w.heap.size w w' := by
  have hl := str_len s
  have hb0 := (Below.refl w.heap.size w).alloc (Nat.le_refl _) (.cells #[.int .u32 0, .int .u32 0] 28)
  by_cases h0 : s.size = 0
  · have Hr := Lib.hid (show parV s.data.toList = revV 0 0 ∧ parB s.data.toList = true by
      have e : s.data.toList = [] := List.eq_nil_of_length_eq_zero (by omega)
      rw [e]
      exact ⟨rfl, rfl⟩)
    have he : s.toList.isEmpty = true := by
      rw [ByteArray.toList_eq, List.isEmpty_iff]
      exact List.eq_nil_of_length_eq_zero (by omega)
    clear hl h0
    go_enter Tryd.func22, Tryd.ntmps22
    go_wp2
    refine bodyPost_ret (v := .tuple #[.agg #[.int .u32 0, .int .u32 0], .bool true]) (by simp [results, Tryd.results22, go_sem]) rfl ⟨?_, hb0⟩
    rw [Hr.out.1, Hr.out.2]
    rfl
  · have hne := str_ne s (by omega)
    have hnl : s.data.toList ≠ [] := by intro e; rw [e] at hl; simp at hl; omega
    by_cases hsh : shapeP s.data.toList
    · have hsh' := hsh
      obtain ⟨h1, h2, h3, h4⟩ := hsh'
      rw [hl] at h1 h2 h3
      have hp1 : s.size - 9 < s.size := by omega
      have hp2 : 0 < s.size := by omega
      have i1 := str_at s (s.size - 9) hp1
      have i2 := str_at s 0 hp2
      have b1 : (at8 s.data.toList (s.size - 9) == 45) = true := by
        unfold at8
        rw [h3]
        rfl
      have b1' : (at8 s.data.toList (s.size - 9) != 45) = false := by
        unfold at8
        rw [h3]
        rfl
      have b2 : (at8 s.data.toList 0 == 48) = false := by
        refine beq_eq_false_iff_ne.2 fun e => h4 ?_
        unfold at8 at e
        exact UInt8.toNat_inj.1 (by rw [show ((48 : UInt8)).toNat = 48 from rfl]; omega)
      have Hsh := Lib.hid hsh
      have Hnl := Lib.hid hnl
      have Hl := Lib.hid hl
      have H0 := Lib.hid (rst_zero s.data.toList)
      clear hl h3 h4 hsh hnl h0
      go_enter Tryd.func22, Tryd.ntmps22
      go_wp2
      go_loop [5, 6, 7] (fun x y z => ∃ k g m : Nat, k ≤ s.size ∧ x = .int .i64 (g : Int) ∧ y = .int .i64 (m : Int) ∧ z = .int .i64 (k : Int) ∧ Hid (RSt s.data.toList k g m)) (fun _ _ z => s.size - (intOf z).toNat)
      case atStart => exact ⟨0, 0, 0, Nat.zero_le _, rfl, rfl, rfl, H0⟩
      case round =>
        obtain ⟨k, g, m, hk, rfl, rfl, rfl, Hst⟩ := hrel
        clear i1 i2 b1 b1' b2
        obtain ⟨hg, hm⟩ := rst_bound Hst.out (by rw [Hl.out]; exact h1) (by rw [Hl.out]; exact h2)
        by_cases hlt : k < s.size
        · have e1 := str_at s k hlt
          rw [show at8 s.data.toList k = ((s.data.toList.getD k 0).toNat : Int) from rfl] at e1
          by_cases hka : k < s.size - 9
          · by_cases hd : digN (s.data.toList.getD k 0).toNat < 10
            · have Hn := Lib.hid (rst_dec Hst.out (by rw [Hl.out]; exact h1) (by rw [Hl.out]; exact hka) hd)
              have Hv := Lib.hid (valI_yes _ _ hd)
              generalize (s.data.toList.getD k 0).toNat = c at *
              go_wp2_with fail
              refine (value_any c 10 _ (by omega)).mono ?_
              rintro e w1 ⟨rfl, rfl⟩
              rw [Hv.out]
              clear Hv
              generalize digN c = d at *
              go_wp2
              go_round
              case rel => exact ⟨k + 1, 10 * g + d, m, by omega, by go_num, rfl, by go_num, Hn⟩
              case measure => simp [intOf]; omega
            · have Hr := Lib.hid (par_none _ Hnl.out (bad_dec (by rw [Hl.out]; exact h1) (by rw [Hl.out]; exact hka) hd))
              have Hv := Lib.hid (valI_no _ _ hd)
              generalize (s.data.toList.getD k 0).toNat = c at *
              go_wp2_with fail
              refine (value_any c 10 _ (by omega)).mono ?_
              rintro e w1 ⟨rfl, rfl⟩
              rw [Hv.out]
              go_wp2
              refine bodyPost_ret (v := .tuple #[.agg #[.int .u32 0, .int .u32 0], .bool false]) (by simp [results, Tryd.results22, go_sem]) rfl ⟨?_, hb0⟩
              rw [Hr.out.1, Hr.out.2]
              rfl
          · by_cases hkb : k = s.size - 9
            · have Hn := Lib.hid (rst_mid Hst.out (by rw [Hl.out]; exact h1) (by rw [Hl.out]; exact hkb))
              have q1 : s.size = k + 9 := by omega
              have Hq := Lib.hid q1
              have q2 : (s.size : Int) - 9 ≤ (k : Int) := by omega
              have q3 : (k : Int) ≤ (s.size : Int) - 9 := by omega
              clear hkb hka e1 q1
              go_wp2
              go_round
              case rel => exact ⟨k + 1, g, m, by omega, rfl, rfl, by go_num, Hn⟩
              case measure => simp [intOf]; omega
            · have hkc : s.size - 9 < k := by omega
              by_cases hd : digN (s.data.toList.getD k 0).toNat < 16
              · have Hn := Lib.hid (rst_hex Hst.out (by rw [Hl.out]; exact h1) (by rw [Hl.out]; exact hkc) (by rw [Hl.out]; exact hlt) hd)
                have Hv := Lib.hid (valI_yes _ _ hd)
                generalize (s.data.toList.getD k 0).toNat = c at *
                clear hka hkb
                go_wp2_with fail
                refine (value_any c 16 _ (by omega)).mono ?_
                rintro e w1 ⟨rfl, rfl⟩
                rw [Hv.out]
                clear Hv
                generalize digN c = d at *
                go_wp2
                go_round
                case rel => exact ⟨k + 1, g, 16 * m + d, by omega, rfl, by go_num, by go_num, Hn⟩
                case measure => simp [intOf]; omega
              · have Hr := Lib.hid (par_none _ Hnl.out (bad_hex (by rw [Hl.out]; exact h1) (by rw [Hl.out]; exact hkc) (by rw [Hl.out]; exact hlt) hd))
                have Hv := Lib.hid (valI_no _ _ hd)
                generalize (s.data.toList.getD k 0).toNat = c at *
                clear hka hkb
                go_wp2_with fail
                refine (value_any c 16 _ (by omega)).mono ?_
                rintro e w1 ⟨rfl, rfl⟩
                rw [Hv.out]
                go_wp2
                refine bodyPost_ret (v := .tuple #[.agg #[.int .u32 0, .int .u32 0], .bool false]) (by simp [results, Tryd.results22, go_sem]) rfl ⟨?_, hb0⟩
                rw [Hr.out.1, Hr.out.2]
                rfl
        · have hend := rst_end (show RSt s.data.toList s.data.toList.length g m by rw [Hl.out, show s.size = k by omega]; exact Hst.out) (by rw [Hl.out]; exact h1)
          obtain ⟨d1, d2, d3, d4⟩ := hend
          by_cases hgm : g ≤ 4294967295
          · have Hr := Lib.hid (par_some _ Hnl.out ⟨Hsh.out, d1, d2, by rw [← d3]; exact hgm⟩)
            rw [← d3, ← d4] at Hr
            clear d1 d2 d3 d4
            go_wp2
            refine bodyPost_ret (v := .tuple #[.agg #[.int .u32 (g : Int), .int .u32 (m : Int)], .bool true]) (by simp [results, Tryd.results22, go_sem]) rfl ⟨?_, (Below.refl w.heap.size w).alloc (Nat.le_refl _) _⟩
            rw [Hr.out.1, Hr.out.2]
            rfl
          · have Hr := Lib.hid (par_none _ Hnl.out (fun h => hgm (by rw [d3]; exact h.2.2.2)))
            clear d1 d2 d3 d4
            go_wp2
            refine bodyPost_ret (v := .tuple #[.agg #[.int .u32 0, .int .u32 0], .bool false]) (by simp [results, Tryd.results22, go_sem]) rfl ⟨?_, hb0⟩
            rw [Hr.out.1, Hr.out.2]
            rfl
    · have Hr := Lib.hid (par_none _ hnl (fun h => hsh h.1))
      by_cases ha : s.size < 10
      · clear hl h0 hsh hnl
        go_enter Tryd.func22, Tryd.ntmps22
        go_wp2
        refine bodyPost_ret (v := .tuple #[.agg #[.int .u32 0, .int .u32 0], .bool false]) (by simp [results, Tryd.results22, go_sem]) rfl ⟨?_, hb0⟩
        rw [Hr.out.1, Hr.out.2]
        rfl
      · by_cases hb : 19 < s.size
        · clear hl h0 hsh hnl
          go_enter Tryd.func22, Tryd.ntmps22
          go_wp2
          refine bodyPost_ret (v := .tuple #[.agg #[.int .u32 0, .int .u32 0], .bool false]) (by simp [results, Tryd.results22, go_sem]) rfl ⟨?_, hb0⟩
          rw [Hr.out.1, Hr.out.2]
          rfl
        · have hp1 : s.size - 9 < s.size := by omega
          have hp2 : 0 < s.size := by omega
          have i1 := str_at s (s.size - 9) hp1
          have i2 := str_at s 0 hp2
          by_cases hc : at8 s.data.toList (s.size - 9) = 45
          · have hz : at8 s.data.toList 0 = 48 := by
              by_cases hz : at8 s.data.toList 0 = 48
              · exact hz
              · exfalso
                apply hsh
                refine ⟨by omega, by omega, ?_, fun e => hz ?_⟩
                · rw [hl]
                  unfold at8 at hc
                  exact UInt8.toNat_inj.1 (by rw [show ((45 : UInt8)).toNat = 45 from rfl]; omega)
                · unfold at8
                  rw [e]
                  rfl
            rw [hc] at i1
            rw [hz] at i2
            clear hl h0 hsh hnl hc hz
            go_enter Tryd.func22, Tryd.ntmps22
            go_wp2
            refine bodyPost_ret (v := .tuple #[.agg #[.int .u32 0, .int .u32 0], .bool false]) (by simp [results, Tryd.results22, go_sem]) rfl ⟨?_, hb0⟩
            rw [Hr.out.1, Hr.out.2]
            rfl
          · have b1 : (at8 s.data.toList (s.size - 9) != 45) = true := bne_iff_ne.2 hc
            have b2 : (at8 s.data.toList (s.size - 9) == 45) = false := beq_eq_false_iff_ne.2 hc
            clear hl h0 hsh hnl hc
            go_enter Tryd.func22, Tryd.ntmps22
            go_wp2
            refine bodyPost_ret (v := .tuple #[.agg #[.int .u32 0, .int .u32 0], .bool false]) (by simp [results, Tryd.results22, go_sem]) rfl ⟨?_, hb0⟩
            rw [Hr.out.1, Hr.out.2]
            rfl
end Go.Proofs.YtedoajiapicpnaaDoor
