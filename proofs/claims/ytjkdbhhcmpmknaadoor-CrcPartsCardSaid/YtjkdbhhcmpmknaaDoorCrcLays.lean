/-
  Layer 9: the walk of CrcLays.
-/
import Derived.Test.YtjkdbhhcmpmknaaDoorCrcK
import Derived.Test.YtjkdbhhcmpmknaaDoorFr
import Derived.Deep.RegionHeld3
import Derived.Deep.DrawnRows
namespace Go.Proofs.YtjkdbhhcmpmknaaDoor
open Go.RowKit
attribute [local go_sem ↓] Go.wp_at_zero Go.wp_at_succ

theorem laid_len (s : Nat) : (Crc.laid s).length = 4 := rfl
theorem sealed_lay (m : List UInt8) : sealedB (m ++ Crc.laid (Crc.more 0 m)) = true := by
  unfold sealedB
  have h : (m ++ Crc.laid (Crc.more 0 m)).length - 4 = m.length := by rw [List.length_append, laid_len]; omega
  rw [h, List.drop_left, List.take_left, List.length_append, laid_len, decide_eq_true (by omega)]
  exact decide_eq_true rfl
theorem gives_len {e8 : TypeId} {W w' : World} {A : Option Addr} {n c : Nat} {l : List UInt8} (h : w'.ownsRow W.heap.size e8 1 (.slice A n c) n (l.map bv)) : n = l.length ∧ n ≤ c ∧ c ≤ maxLen := by
  obtain ⟨A', c', e, h1, h2⟩ := own_form h
  injection e with _ _ e
  subst e
  have := h.1
  simp at this
  exact ⟨this.symm, h1, h2⟩

set_option maxHeartbeats 2000000 in
theorem crcLays_walk (w : World) (A : Option Addr) (n c : Nat) (l : List UInt8) (h : Bytes w w.heap.size A n l) (hA : A = none → c = 0) (hn : n ≤ c) (hc : c ≤ maxLen) (htab : Tab w) :
    Calls Tryd.prog 4 #[.slice A n c] w fun e w' => e = .returned (.bool true) ∧ Below w.heap.size w w' := by
  obtain ⟨i0, hi, hz0, hz1, hz2⟩ := u8_info
  go_enter Tryd.func4, Tryd.ntmps4
  go_wp2_with fail
  refine (wakes_any w htab).mono ?_
  rintro e w1 ⟨rfl, hb1⟩
  have s1 := hb1.size
  go_wp2_with fail
  refine (few_any A n c w.heap.size l _ (h.below hb1) hA s1 hn hc).mono ?_
  rintro e w2 ⟨A2, n2, c2, rfl, hown, hb2⟩
  have s2 := hb2.size
  have h12 := hb1.trans (hb2.mono s1)
  have t2 := htab.below h12 htab.lt
  have hl2 : Bytes w2 w2.heap.size A2 n2 (l.take 400) := Bytes.own hown
  obtain ⟨hlen, hn2, hc2⟩ := gives_len hown
  have hle : n2 ≤ 400 := by rw [hlen, List.length_take]; omega
  clear hown
  have hm2 : n2 ≤ maxLen := by omega
  obtain ⟨m, Hm⟩ : ∃ m, Hid (m = l.take 400) := ⟨_, Lib.hid rfl⟩
  rw [← Hm.out] at hl2 hlen
  have Hlen := Lib.hid hlen
  clear hlen
  go_wp2_with fail
  refine (lay_full A2 n2 c2 w2.heap.size m _ t2 hl2 (Nat.le_refl _) (by omega)).mono ?_
  rintro e w3 ⟨A3, n3, c3, rfl, hown3, hb3⟩
  have s3 := hb3.size
  have hl3 : Bytes w3 w3.heap.size A3 n3 (m ++ Crc.laid (Crc.more 0 m)) := Bytes.own hown3
  obtain ⟨hlen3, hn3, hc3⟩ := gives_len hown3
  have hle3 : n3 ≤ 404 := by rw [hlen3, List.length_append, laid_len, ← Hlen.out]; omega
  clear hown3 hlen3
  have h13 := h12.trans (hb3.mono (by omega))
  go_wp2_with fail
  refine (few_any A n c w.heap.size l _ (h.below h13) hA (by omega) hn hc).mono ?_
  rintro e w4 ⟨A4, n4, c4, rfl, hown4, hb4⟩
  rw [← Hm.out] at hown4
  have s4 := hb4.size
  obtain ⟨hlen4, hn4, hc4⟩ := gives_len hown4
  have hle4 : n4 ≤ 400 := by rw [hlen4, ← Hlen.out]; omega
  clear hlen4
  have h24 := hb3.trans (hb4.mono s3)
  have h14 := h13.trans (hb4.mono (by omega))
  go_wp2_with fail
  refine (refmore_any A2 n2 c2 w2.heap.size m 0 _ (hl2.below h24) (by omega) hm2).mono ?_
  rintro e w4' ⟨rfl, rfl⟩
  go_wp2_with fail
  refine (laid_any _ _ (Crc.more_lt 0 m)).mono ?_
  rintro e w5 ⟨A5, n5, c5, rfl, hown5, hb5⟩
  have s5 := hb5.size
  have hs5 := Shows.own hown5
  obtain ⟨hlen5, hn5, hc5⟩ := gives_len hown5
  rw [laid_len] at hlen5
  subst hlen5
  have hown4' := own_below hown4 hb5
  clear hown4 hown5
  go_wp2_with (at_builtin; refine wpList_append_shows _ rfl _ _ _ rfl w3.heap.size 5 i0 (.int .u8 0) 1 1 Tryd.underlying23 hi hz0 hz1 hz2 rfl (by decide) _ _ _ rfl hown4' w5.heap.size _ _ _ ((Crc.laid (Crc.more 0 m)).map bv) rfl hs5 (bv_one _) ?d3 ?d4 ?d5 ?_)
  case d3 => unfold maxLen; omega
  case d4 => omega
  case d5 => omega
  intro A6 c6 w6 hown6 _ hb6
  rw [← List.map_append] at hown6
  have hl6 : Bytes w6 w6.heap.size A6 (n4 + 4) (m ++ Crc.laid (Crc.more 0 m)) := Bytes.own hown6
  clear hown6
  have s6 := hb6.size
  have h36 : Below w3.heap.size w3 w6 := (hb4.trans (hb5.mono s4)).trans hb6
  have h16 := h13.trans (h36.mono (by omega))
  go_wp2_with fail
  refine (equal_any A3 A6 n3 c3 (n4 + 4) c6 _ _ _ _ _ (hl3.below h36) hl6 (by unfold maxLen; omega) (by unfold maxLen; omega)).mono ?_
  rintro e w7 ⟨rfl, k7, rfl⟩
  rw [show sameB (m ++ Crc.laid (Crc.more 0 m)) (m ++ Crc.laid (Crc.more 0 m)) = true from decide_eq_true rfl]
  have h17 := below_drewN h16 k7
  go_wp2_with fail
  refine (few_any A n c w.heap.size l _ (h.below h17) hA (by show _ ≤ w6.heap.size; omega) hn hc).mono ?_
  rintro e w8 ⟨A8, n8, c8, rfl, hown8, hb8⟩
  rw [← Hm.out] at hown8
  have hb8' : Below w6.heap.size w6 w8 := below_undrewN hb8
  have s8 := hb8'.size
  have hl8 : Bytes w8 w8.heap.size A8 n8 m := Bytes.own hown8
  obtain ⟨hlen8, hn8, hc8⟩ := gives_len hown8
  have hle8 : n8 ≤ 400 := by rw [hlen8, ← Hlen.out]; omega
  clear hlen8 hown8 hb8
  have h38 := h36.trans (hb8'.mono (by omega))
  have h28 := hb3.trans (h38.mono s3)
  have h18 := h16.trans (hb8'.mono (by omega))
  go_wp2_with fail
  refine (equal_any A2 A8 n2 c2 n8 c8 m m _ _ _ (hl2.below h28) hl8 hm2 (by unfold maxLen; omega)).mono ?_
  rintro e w9 ⟨rfl, k9, rfl⟩
  rw [show sameB m m = true from decide_eq_true rfl]
  go_wp2_with fail
  have t9 := t2.below h28 t2.lt
  by_cases h4 : 4 ≤ n2
  · obtain ⟨q, rfl⟩ : ∃ q, n2 = q + 4 := ⟨n2 - 4, by omega⟩
    have hr : sealedB m = sameB (m.drop q) (Crc.laid (Crc.more 0 (m.take q))) := by
      unfold sealedB
      rw [← Hlen.out, decide_eq_true h4, Bool.true_and, show q + 4 - 4 = q by omega]
    have Hr := Lib.hid hr
    clear hr
    have hcm : ¬ c2 = q := by omega
    have hcut := (hl2.cut (k := q) (cap := c2) (by omega) hn2).below h28
    have hfst := (hl2.first (k := q) (by omega)).below h28
    rw [show q + 4 - q = 4 by omega, if_neg hcm] at hcut
    have i1 : (0 : Int) ≤ (q : Int) := by omega
    have i2 : (q : Int) ≤ (q : Int) + 4 := by omega
    have i3 : (q : Int) ≤ (c2 : Int) := by omega
    have i4 : (q : Int) + 4 ≤ (c2 : Int) := by omega
    have hmq : q ≤ maxLen := by omega
    go_region_held3 (fun w' => True) (trivial) (first
      | (go_at_call 12; refine (refmore_any A2 q c2 w2.heap.size (m.take q) 0 _ (by exact hfst) (by omega) (by exact hmq)).mono ?_; rintro e wa ⟨rfl, rfl⟩)
      | (go_at_call 16; refine (laid_any _ _ (Crc.more_lt 0 (m.take q))).mono ?_; rintro e wb ⟨Ab, nb, cb, rfl, hownb, hbb⟩)
      | (go_at_call 14; refine (equal_any _ _ 4 _ _ _ (m.drop q) (Crc.laid (Crc.more 0 (m.take q))) w2.heap.size _ _ (by exact hcut.below (Below.mono (B := w8.heap.size) (w := w8) (below_undrewN hbb) (by omega))) (by exact Bytes.own hownb) (by unfold maxLen; omega) (by have h1 := hownb.1; simp [Crc.laid] at h1; unfold maxLen; omega)).mono ?_; rintro e wc ⟨rfl, kc, rfl⟩))
    have hb10 : Below w8.heap.size w8 (wb.drewN kc) := below_drewN (below_undrewN hbb) kc
    have h110 := h18.trans (hb10.mono (by omega))
    have s10 : w8.heap.size ≤ wb.heap.size := hbb.size
    go_wp2_with fail
    refine (holds_any A2 (q + 4) c2 w2.heap.size m _ (t2.below (h28.trans (hb10.mono (by omega))) t2.lt) (hl2.below (h28.trans (hb10.mono (by omega)))) (by show _ ≤ wb.heap.size; omega) hn2 hc2).mono ?_
    rintro e wd ⟨rfl, hbd⟩
    rw [Hr.out]
    have hbd' : Below wb.heap.size wb wd := below_undrewN hbd
    have sd := hbd'.size
    generalize sameB (m.drop q) (Crc.laid (Crc.more 0 (m.take q))) = z
    go_wp2_with fail
    have h3d := (h38.trans (hb10.mono (by omega))).trans (hbd.mono (by show _ ≤ wb.heap.size; omega))
    refine (holds_any A3 n3 c3 w3.heap.size _ _ (t2.below (hb3.trans (h3d.mono s3)) t2.lt) (hl3.below h3d) (by omega) hn3 hc3).mono ?_
    rintro e we ⟨rfl, hbe⟩
    rw [sealed_lay]
    go_wp2
    go_ret
    exact ⟨rfl, (h110.trans (hbd.mono (by show _ ≤ wb.heap.size; omega))).trans (hbe.mono (by omega))⟩
  · have hr : sealedB m = false := by
      unfold sealedB
      rw [← Hlen.out, decide_eq_false h4, Bool.false_and]
    have Hr := Lib.hid hr
    clear hr
    have hd : decide ((0 : Int) ≤ (n2 : Int) - 4) = false := decide_eq_false (by omega)
    have hd2 : decide ((4 : Int) ≤ (n2 : Int)) = false := decide_eq_false (by omega)
    have hd3 : decide (4 ≤ n2) = false := decide_eq_false h4
    go_quiet (fail)
    go_wp2_with fail
    refine (holds_any A2 n2 c2 w2.heap.size m _ (by exact t9.drewN _) (by exact (hl2.below h28).drewN _) (by show _ ≤ w8.heap.size; omega) hn2 hc2).mono ?_
    rintro e wd ⟨rfl, hbd⟩
    rw [Hr.out]
    have hbd' : Below w8.heap.size w8 wd := below_undrewN hbd
    have sd := hbd'.size
    have h3d := h38.trans (hbd'.mono (by omega))
    go_wp2_with fail
    refine (holds_any A3 n3 c3 w3.heap.size _ _ (t2.below (hb3.trans (h3d.mono s3)) t2.lt) (hl3.below h3d) (by omega) hn3 hc3).mono ?_
    rintro e we ⟨rfl, hbe⟩
    rw [sealed_lay]
    go_wp2
    go_ret
    exact ⟨rfl, (h18.trans (hbd'.mono (by omega))).trans (hbe.mono (by omega))⟩
end Go.Proofs.YtjkdbhhcmpmknaaDoor
