/-
  The law MonoidJoins, walked.
-/
import Derived.Test.YtinaecmpigenoaaMonAA
import Derived.Test.YtinaecmpigenoaaMonB
import Derived.Test.YtinaecmpigenoaaMonD
import Derived.Test.YtinaecmpigenoaaAp
import Derived.Laws.OwnMore
namespace Go.Proofs.Ytinaecmpigenoaa
open Go.RowKit
attribute [local go_sem ↓] Go.wp_at_zero Go.wp_at_succ

theorem flat_take {α : Type} (f : α → List Value) (k : Nat) (hf : ∀ x, (f x).length = k) : ∀ (l : List α) (m : Nat), (l.flatMap f).take (m * k) = (l.take m).flatMap f
  | [], m => by simp
  | x :: l, 0 => by simp
  | x :: l, m + 1 => by
    rw [List.flatMap_cons, List.take_succ_cons, List.flatMap_cons, ← flat_take f k hf l m]
    have e : (m + 1) * k = (f x).length + m * k := by rw [hf, Nat.add_mul]; omega
    rw [e, List.take_append, List.take_of_length_le (by omega), Nat.add_sub_cancel_left]
theorem reds_first {w : World} {B n m : Nat} {A : Option Addr} {l : List RedT} (h : Reds w B A n l) (hm : m ≤ n) : Reds w B A m (l.take m) := by
  have := Shows.first h hm
  rw [flat_take RedT.cells 6 (fun _ => rfl)] at this
  exact this
theorem items_first {w : World} {B n m : Nat} {A : Option Addr} {l : List ItemT} (h : Items w B A n l) (hm : m ≤ n) : Items w B A m (l.take m) := by
  have := Shows.first h hm
  rw [flat_take ItemT.cells 4 (fun _ => rfl)] at this
  exact this
theorem reds_one (l : List RedT) : ∀ u ∈ l.flatMap RedT.cells, u.oneCell' = true := by
  intro u hu
  obtain ⟨x, _, hx⟩ := List.mem_flatMap.1 hu
  simp only [RedT.cells, List.mem_cons, List.not_mem_nil, or_false] at hx
  rcases hx with rfl | rfl | rfl | rfl | rfl | rfl <;> rfl
theorem both_agg (a r : RedT) (w : World) (h1 : 0 ≤ a.c ∧ a.c ≤ 1073741824) (h2 : 0 ≤ r.c ∧ r.c ≤ 1073741824) (h3 : 0 ≤ a.i ∧ a.i ≤ 1073741824) (h4 : 0 ≤ r.i ∧ r.i ≤ 1073741824) (hn : r.i = 0 → r.l = 0 ∧ r.m = 0) :
    Calls Try.prog 14 #[.agg #[.int .i64 a.c, .int .i64 a.i, .int .i64 (hiI a.v), .int .u64 (loI a.v), .int .i64 a.l, .int .i64 a.m], .agg #[.int .i64 r.c, .int .i64 r.i, .int .i64 (hiI r.v), .int .u64 (loI r.v), .int .i64 r.l, .int .i64 r.m]] w fun e w' => e = .returned (.agg #[.int .i64 (a.join r).c, .int .i64 (a.join r).i, .int .i64 (hiI (a.join r).v), .int .u64 (loI (a.join r).v), .int .i64 (a.join r).l, .int .i64 (a.join r).m]) ∧ Below w.heap.size w w' :=
  both_any a.c a.i a.v a.l a.m r.c r.i r.v r.l r.m w h1 h2 h3 h4 hn
theorem join_agg_all (A : Option Addr) (n c B : Nat) (l : List RedT) (w : World) (a : RedT) (e : Int) (hj : jall l = (a, e)) (h : Reds w B A n l) (hB : B ≤ w.heap.size) (hok : ∀ r ∈ l, r.ok) (hn : n ≤ 1000000) :
    Calls Try.prog 13 #[.slice A n c] w fun e' w' => e' = .returned (.tuple #[.agg #[.int .i64 a.c, .int .i64 a.i, .int .i64 (hiI a.v), .int .u64 (loI a.v), .int .i64 a.l, .int .i64 a.m], .int .i64 e]) ∧ Below w.heap.size w w' := by
  have := joinAll_any A n c B l w h hB hok hn
  rw [hj] at this
  exact this
theorem valid_none (r : RedT) (h : r.valid = true) : r.i = 0 → r.l = 0 ∧ r.m = 0 := by
  intro hi
  unfold RedT.valid at h
  rw [valid_iff] at h
  omega

theorem red_info : ∃ i, Try.prog.info? 24 = some i ∧ i.zero = some (.agg #[.int .i64 0, .int .i64 0, .int .i64 0, .int .u64 0, .int .i64 0, .int .i64 0]) ∧ i.size = 6 ∧ i.bytes = 48 := ⟨Try.t24, by kernel_rfl, by kernel_rfl, by kernel_rfl, by kernel_rfl⟩

/-- Where the second loop stands: over, or the reduction so far. -/
def RunJ (L : List RedT) (k : Nat) (ov : Bool) (y : RedT) : Prop := if ov = true then jrun (L.take k) RedT.zero = (RedT.zero, 5) else jrun (L.take k) RedT.zero = (y, 0)
theorem runJ_over {L : List RedT} {k : Nat} {y : RedT} (h : RunJ L k true y) (hk : k < L.length) : RunJ L (k + 1) true y := by
  unfold RunJ at *
  rw [if_pos rfl] at h ⊢
  rw [List.take_succ_eq_append_getElem hk, jrun_over _ _ _ (by rw [h]; decide), h]
theorem runJ_stop {L : List RedT} {k : Nat} {y r : RedT} (h : RunJ L k false y) (hr : L[k]? = some r) (hc : 1073741824 < y.c + r.c) : RunJ L (k + 1) true y := by
  unfold RunJ at *
  rw [if_neg Bool.false_ne_true] at h
  rw [if_pos rfl, take_next hr, jrun_go _ r y _ h, if_pos (by omega)]
theorem runJ_next {L : List RedT} {k : Nat} {y r : RedT} (h : RunJ L k false y) (hr : L[k]? = some r) (hc : ¬ 1073741824 < y.c + r.c) : RunJ L (k + 1) false (y.join r) := by
  unfold RunJ at *
  rw [if_neg Bool.false_ne_true] at h ⊢
  rw [take_next hr, jrun_go _ r y _ h, if_neg (by omega)]
theorem runJ_end {L : List RedT} {k : Nat} {ov : Bool} {y : RedT} (h : RunJ L k ov y) (hk : L.length ≤ k) (hv : L.all RedT.valid = true) : jall L = if ov = true then (RedT.zero, 5) else (y, 0) := by
  unfold RunJ at h
  rw [List.take_of_length_le hk] at h
  rw [jall_of L hv]
  cases ov <;> simpa using h

set_option maxRecDepth 100000 in
set_option maxHeartbeats 2000000 in
theorem joins_walk (A : Option Addr) (n c : Nat) (l : List RedT) (w : World) (h : Reds w w.heap.size A n l) (hok : ∀ r ∈ l, r.ok) (hn : n ≤ c) (hc : c ≤ maxLen) :
    Calls Try.prog 4 #[.slice A n c] w fun e w' => e = .returned (.bool true) ∧ Below w.heap.size w w' := by
  unfold maxLen at hc
  obtain ⟨i0, hi, hz0, hz1, hz2⟩ := red_info
  obtain ⟨m, hm, hmn, hm50⟩ : ∃ m : Nat, (if (50 : Int) < (n : Int) then (50 : Int) else (n : Int)) = (m : Int) ∧ m ≤ n ∧ m ≤ 50 := ⟨min n 50, by split <;> omega, by omega, by omega⟩
  have hM := reds_first h hmn
  have hokM : ∀ r ∈ l.take m, r.ok := fun r hr => hok r (List.mem_of_mem_take hr)
  generalize l.take m = L at *
  clear h hok
  have hmc : m ≤ c := by omega
  have HM := Lib.hid hM
  clear hM
  go_enter Try.func4, Try.ntmps4
  go_wp2_with fail
  refine (wakes_any _).mono ?_
  rintro e w1 ⟨rfl, hb1⟩
  have s1 := hb1.size
  go_wp2_with (at_builtin; refine wpList_append_shows _ rfl _ _ _ rfl w1.heap.size 24 i0 (.agg #[.int .i64 0, .int .i64 0, .int .i64 0, .int .u64 0, .int .i64 0, .int .i64 0]) 6 48 Try.underlying34 hi hz0 hz1 hz2 rfl (by decide) _ _ _ rfl (World.ownsRow_made (base := w1.heap.size) (e := 24) (size := 6) w1 #[] 0 (Nat.le_refl _) (Nat.zero_le _) rfl) w.heap.size A m c (L.flatMap RedT.cells) rfl ((Shows.below HM.out hb1).alloc s1 _) (reds_one L) ?d3 ?d4 ?d5 ?_)
  case d3 => unfold maxLen; omega
  case d4 => omega
  case d5 => simp
  intro A2 c2 w2 hown2 _ hb2
  clear hm hi hz0 hz1 hz2
  have hL2 : Reds w2 w2.heap.size A2 m L := Shows.own hown2
  have hlen := Lib.hid (reds_len hL2)
  have hb2 : Below w.heap.size w w2 := (hb1.alloc s1 _).trans (hb2.mono (by omega) |>.mono (by omega))
  clear hown2 hb1
  obtain ⟨a, ee, hJ⟩ : ∃ a ee, jall L = (a, ee) := ⟨(jall L).1, (jall L).2, rfl⟩
  have HJ := Lib.hid hJ
  clear hJ
  go_wp2_with fail
  refine (join_agg_all A2 m c2 w2.heap.size L _ a ee HJ.out hL2 (Nat.le_refl _) hokM (by omega)).mono ?_
  rintro e w3 ⟨rfl, hb3⟩
  have hL3 : Reds w3 w2.heap.size A2 m L := hL2.below hb3
  have s2 := hb2.size
  have s3 := hb3.size
  have hb3 := hb2.trans (hb3.mono s2)
  clear hL2 hb2
  obtain ⟨W4, hW4⟩ : ∃ W4, (w3.alloc (.cells #[.int .i64 a.c, .int .i64 a.i, .int .i64 (hiI a.v), .int .u64 (loI a.v), .int .i64 a.l, .int .i64 a.m] 24)).alloc (.cells #[.int .i64 0, .int .i64 0, .int .i64 0, .int .u64 0, .int .i64 0, .int .i64 0] 24) = W4 := ⟨_, rfl⟩
  have hb4 : Below w.heap.size w W4 := by rw [← hW4]; exact (hb3.alloc (by omega) _).alloc (by simp; omega) _
  have hz4 : w3.heap.size + 2 ≤ W4.heap.size := by rw [← hW4]; simp
  have hL4 : Reds W4 w2.heap.size A2 m L := by rw [← hW4]; exact (hL3.alloc (by omega) _).alloc (by simp; omega) _
  have hA4 : SixR W4 w3.heap.size a := by rw [← hW4]; exact (Six.new _ _ _ _ _ _ _ _).alloc _
  have hZ4 : SixR W4 (w3.heap.size + 1) RedT.zero := by
    have := Six.new (w3.alloc (.cells #[.int .i64 a.c, .int .i64 a.i, .int .i64 (hiI a.v), .int .u64 (loI a.v), .int .i64 a.l, .int .i64 a.m] 24)) (.int .i64 0) (.int .i64 0) (.int .i64 0) (.int .u64 0) (.int .i64 0) (.int .i64 0) 24
    rw [hW4] at this
    unfold SixR RedT.zero
    rw [hl_zero.1, hl_zero.2]
    simpa using this
  have HL4 := Lib.hid hL4
  have HA4 := Lib.hid hA4
  have HZ4 := Lib.hid hZ4
  have HW4 := Lib.hid hW4
  clear hL3 hL4 hA4 hZ4 hW4 hb3
  go_wp2_with fail
  rw [HW4.out]
  clear HW4
  go_loopw [29] (fun x wr => ∃ k : Nat, k ≤ m ∧ x = .int .i64 (k : Int) ∧ Below W4.heap.size W4 wr ∧ Hid ((L.take k).all RedT.valid = true)) (fun x _ => m - (intOf x).toNat)
  case atStart => exact ⟨0, Nat.zero_le _, rfl, Below.refl _ _, Lib.hid rfl⟩
  case round =>
    obtain ⟨k, hk, rfl, hbr, Hv⟩ := hrel
    have sbr := hbr.size
    by_cases hlt : k < m
    · obtain ⟨b, off, r, rfl, hbB, hr, x0, x1, x2, x3, x4, x5⟩ := reds_cell (HL4.out.below (hbr.mono (by omega))) hlt
      have hrok := Lib.hid (hokM r (List.mem_of_getElem? hr))
      have Hr := Lib.hid hr
      clear hr
      by_cases hv : r.valid = true
      · have Hn := Lib.hid (all_take Hv.out Hr.out hv)
        have HV := Lib.hid hv
        clear hv
        go_wp2_with fail
        refine (right_yes r.c r.i r.v r.l r.m _ hrok.out.2.2.1 hrok.out.2.2.2.1 hrok.out.2.2.2.2 HV.out).mono ?_
        rintro e w5 ⟨rfl, hb5⟩
        have hbn : Below W4.heap.size W4 w5 := (hbr.alloc sbr _).trans (hb5.mono (by simp; omega))
        clear x0 x1 x2 x3 x4 x5 hb5
        go_wp2_with fail
        go_roundw
        case rel => exact ⟨k + 1, by omega, by go_num, hbn, Hn⟩
        case measure => simp [intOf]; omega
      · have hv2 : r.valid = false := by simpa using hv
        have HV := Lib.hid hv2
        have hJ2 := HJ.out.symm.trans (all_bad Hr.out hv2)
        obtain ⟨rfl, rfl⟩ : a = RedT.zero ∧ ee = 230 := by simpa using hJ2
        clear hv hv2 hJ2
        go_wp2_with fail
        refine (right_no r.c r.i r.v r.l r.m _ hrok.out.2.2.1 hrok.out.2.2.2.1 hrok.out.2.2.2.2 HV.out).mono ?_
        rintro e w5 ⟨rfl, hb5⟩
        have hbn : Below W4.heap.size W4 w5 := (hbr.alloc sbr _).trans (hb5.mono (by simp; omega))
        have hs5 : SixR w5 w3.heap.size RedT.zero := Six.under HA4.out hbn (by omega)
        have hbw := hb4.trans (hbn.mono hb4.size)
        clear x0 x1 x2 x3 x4 x5 hb5 hbn hbr
        unfold SixR RedT.zero at hs5
        rw [hl_zero.1, hl_zero.2] at hs5
        obtain ⟨⟨r0, r1, r2, r3, r4, r5⟩, -⟩ := hs5
        go_wp2_with fail
        go_ret
        exact ⟨rfl, hbw⟩
    · have hkm : L.take k = L := List.take_of_length_le (by rw [hlen.out]; omega)
      rw [hkm] at Hv
      have hw4 := hb4.size
      have hb5 := hb4.trans (hbr.mono hb4.size)
      have HZ5 := Lib.hid (Six.under HZ4.out hbr (by omega))
      have HA5 := Lib.hid (Six.under HA4.out hbr (by omega))
      have HL5 := Lib.hid (HL4.out.below (hbr.mono (by omega)))
      have hz5 : w3.heap.size + 2 ≤ wr.heap.size := by omega
      clear hkm HL4 HA4 HZ4 hbr hb4 hz4 sbr
      go_wp2_with fail
      go_loopw [7, 46] (fun o x wr' => ∃ (k : Nat) (ov : Bool) (y : RedT), k ≤ m ∧ o = .bool ov ∧ x = .int .i64 (k : Int) ∧ Below (w3.heap.size + 1) wr wr' ∧ SixR wr' (w3.heap.size + 1) y ∧ Hid (RunJ L k ov y) ∧ 0 ≤ y.i ∧ y.i ≤ y.c ∧ y.c ≤ 1073741824) (fun _ x _ => m - (intOf x).toNat)
      case atStart => exact ⟨0, false, RedT.zero, Nat.zero_le _, rfl, rfl, Below.refl _ _, HZ5.out, Lib.hid rfl, by decide, by decide, by decide⟩
      case round =>
        obtain ⟨k, ov, y, hk, rfl, rfl, hbq, hsq, Hq, hy0, hy1, hy2⟩ := hrel
        have sbq := hbq.size
        by_cases hlt : k < m
        · obtain ⟨b, off, r, rfl, hbB, hr, x0, x1, x2, x3, x4, x5⟩ := reds_cell (HL5.out.below (hbq.mono (by omega))) hlt
          have hrv := List.all_eq_true.1 Hv.out r (List.mem_of_getElem? hr)
          obtain ⟨⟨v0, v1⟩, v2, v3⟩ := valid_bounds r hrv
          have hnone := Lib.hid (valid_none r hrv)
          have Hr := Lib.hid hr
          have hlk : k < L.length := by rw [hlen.out]; omega
          clear hr hrv
          obtain ⟨G6, hG6⟩ : ∃ G6, wr.heap.size = G6 := ⟨_, rfl⟩
          obtain ⟨W6, hW6⟩ : ∃ W6, wr.alloc (.cells #[.int .i64 r.c, .int .i64 r.i, .int .i64 (hiI r.v), .int .u64 (loI r.v), .int .i64 r.l, .int .i64 r.m] 24) = W6 := ⟨_, rfl⟩
          have hs6 : SixR W6 G6 r := by rw [← hW6, ← hG6]; exact Six.new _ _ _ _ _ _ _ _
          have hy6 : SixR W6 (w3.heap.size + 1) y := by rw [← hW6]; exact Six.alloc _ hsq
          have hb6 := hbq.alloc (by omega) (.cells #[.int .i64 r.c, .int .i64 r.i, .int .i64 (hiI r.v), .int .u64 (loI r.v), .int .i64 r.l, .int .i64 r.m] 24)
          rw [hW6] at hb6
          have HW6 := Lib.hid hW6
          have HG6 := Lib.hid hG6
          have HY6 := Lib.hid hy6
          clear hW6 hG6 hsq hbq
          go_upto_region 15 with fail
          rw [HG6.out, HW6.out]
          clear HW6 HG6 x0 x1 x2 x3 x4 x5
          obtain ⟨⟨r0, r1, r2, r3, r4, r5⟩, -⟩ := hs6
          obtain ⟨⟨q0, q1, q2, q3, q4, q5⟩, f0, f1, f2, f3, f4, f5⟩ := hy6
          cases ov
          · by_cases hov : 1073741824 < y.c + r.c
            · have Hn := Lib.hid (runJ_stop Hq.out Hr.out hov)
              have HY := Lib.hid HY6.out
              clear Hq
              go_wp2_with fail
              go_roundw
              case rel => exact ⟨k + 1, true, y, by omega, rfl, by go_num, hb6, HY.out, Hn, hy0, hy1, hy2⟩
              case measure => simp [intOf]; omega
            · have Hn := Lib.hid (runJ_next Hq.out Hr.out hov)
              have hov2 : y.c + r.c ≤ 1073741824 := by omega
              clear Hq
              go_wp2_with fail
              refine (both_agg y r _ ⟨by omega, hy2⟩ ⟨v0, v1⟩ ⟨hy0, by omega⟩ ⟨v2, by omega⟩ hnone.out).mono ?_
              rintro e w7 ⟨rfl, hb7⟩
              have HY7 := Lib.hid (Six.below HY6.out hb7 rfl)
              have hb8 := hb6.trans (hb7.mono hb6.size |>.mono (by omega))
              have hj1 : 0 ≤ (y.join r).i := by unfold RedT.join; simp only; omega
              have hj2 : (y.join r).i ≤ (y.join r).c := by unfold RedT.join; simp only; omega
              have hj3 : (y.join r).c ≤ 1073741824 := by unfold RedT.join; simp only; omega
              generalize y.join r = y' at *
              clear r0 r1 r2 r3 r4 r5 q0 q1 q2 q3 q4 q5 f0 f1 f2 f3 f4 f5 hb7 hb6 HY6
              obtain ⟨⟨p0, p1, p2, p3, p4, p5⟩, g0, g1, g2, g3, g4, g5⟩ := HY7.out
              go_wp2_with fail
              go_roundw
              case rel => exact ⟨k + 1, false, y', by omega, rfl, by go_num, below_set6 hb8 (Nat.le_refl _), ((((((HY7.out.s0 _).s1 _).s2 _).s3 _).s4 _).s5 _), Hn, hj1, hj2, hj3⟩
              case measure => simp [intOf]; omega
          · have Hn := Lib.hid (runJ_over Hq.out hlk)
            clear Hq
            go_wp2_with fail
            go_roundw
            case rel => exact ⟨k + 1, true, y, by omega, rfl, by go_num, hb6, HY6.out, Hn, hy0, hy1, hy2⟩
            case measure => simp [intOf]; omega
        · have hkm : L.length ≤ k := by rw [hlen.out]; omega
          have hend := runJ_end Hq.out hkm Hv.out
          have hA6 : SixR _ w3.heap.size a := Six.under HA5.out hbq (by omega)
          have hbw := hb5.trans (hbq.mono (by omega))
          clear hkm
          cases ov
          · rw [if_neg Bool.false_ne_true, HJ.out] at hend
            obtain ⟨rfl, rfl⟩ : a = y ∧ ee = 0 := by simpa using hend
            clear hend
            obtain ⟨⟨r0, r1, r2, r3, r4, r5⟩, -⟩ := hA6
            obtain ⟨⟨q0, q1, q2, q3, q4, q5⟩, -⟩ := hsq
            go_wp2_with fail
            go_ret
            exact ⟨rfl, hbw⟩
          · rw [if_pos rfl, HJ.out] at hend
            obtain ⟨rfl, rfl⟩ : a = RedT.zero ∧ ee = 5 := by simpa using hend
            clear hend
            unfold SixR RedT.zero at hA6
            rw [hl_zero.1, hl_zero.2] at hA6
            obtain ⟨⟨r0, r1, r2, r3, r4, r5⟩, -⟩ := hA6
            go_wp2_with fail
            go_ret
            exact ⟨rfl, hbw⟩
theorem monoidJoins_walk (w : World) (A : Option Addr) (n c : Nat) (l : List RedT) (h : Reds w w.heap.size A n l) (hok : ∀ r ∈ l, r.ok) (_ : A = none → c = 0) (hn : n ≤ c) (hc : c ≤ maxLen) :
    Calls Try.prog 4 #[.slice A n c] w fun e w' => e = .returned (.bool true) ∧ Below w.heap.size w w' := joins_walk A n c l w h hok hn hc
end Go.Proofs.Ytinaecmpigenoaa
