/-
  The law MonoidBounds, walked.
-/
import Derived.Test.YtinaecmpigenoaaMonAB
import Derived.Test.YtinaecmpigenoaaMonAC
import Derived.BigRegion
namespace Go.Proofs.Ytinaecmpigenoaa
open Go.RowKit
attribute [local go_sem ↓] Go.wp_at_zero Go.wp_at_succ

theorem six_at {B : Nat} {w w1 : World} {a b c d e f : Value} {t : TypeId} (hb : Below B (w.alloc (.cells #[a, b, c, d, e, f] t)) w1) (hB : B = (w.alloc (.cells #[a, b, c, d, e, f] t)).heap.size) : Six w1 w.heap.size a b c d e f := by
  subst hB
  exact six_go hb
theorem fewI_any (A : Option Addr) (n c m : Nat) (w : World) (hm : m = min n 60) (hn : n ≤ c) :
    Calls Try.prog 22 #[.slice A n c] w fun e w' => e = .returned (.slice A m c) ∧ w = w' := by
  have hm1 : (if (60 : Int) < (n : Int) then (60 : Int) else (n : Int)) = (m : Int) := by split <;> omega
  have hmc : m ≤ c := by omega
  clear hm
  go_enter Try.func22, Try.ntmps22
  go_wp2
  go_ret
  exact ⟨rfl, rfl⟩

set_option maxRecDepth 100000 in
set_option maxHeartbeats 8000000 in
theorem bounds_walk (A : Option Addr) (n c : Nat) (l : List ItemT) (w : World) (h : Items w w.heap.size A n l) (hx : ∀ x ∈ l, R64 x.n) (hn : n ≤ c) (hc : c ≤ maxLen) (y : ItemT) (hy : R64 y.n) :
    Calls Try.prog 7 #[.slice A n c, .agg #[.slice y.A1 y.n1 y.c1, .slice y.A2 y.n2 y.c2, .bool y.b, .int .i64 y.n]] w fun e w' => e = .returned (.bool true) ∧ Below w.heap.size w w' := by
  obtain ⟨m, hm, hmn, hm60⟩ : ∃ m : Nat, m = min n 60 ∧ m ≤ n ∧ m ≤ 60 := ⟨min n 60, rfl, by omega, by omega⟩
  have hM := items_first h hmn
  have hxM : ∀ x ∈ l.take m, R64 x.n := fun r hr => hx r (List.mem_of_mem_take hr)
  generalize l.take m = L at *
  clear h hx
  have hlen := Lib.hid (items_len hM)
  have Hm := Lib.hid hm
  have Hn := Lib.hid hn
  have Hc := Lib.hid hc
  clear hm hn hc
  have hl60 : L.length ≤ 60 := by rw [hlen.out]; exact hm60
  have hcnt := (allR_count L).2
  rw [hlen.out] at hcnt
  have hok := allOk L hxM (by omega)
  have hao := Lib.hid (hok.ok (by omega))
  have hav := Lib.hid hok.valid
  have hend := Lib.hid (ends L)
  have hib := (valid_bounds _ hok.valid).2
  clear hok hl60
  have b0 : Below w.heap.size w (w.alloc (.cells #[.slice y.A1 y.n1 y.c1, .slice y.A2 y.n2 y.c2, .bool y.b, .int .i64 y.n] 27)) := (Below.refl _ _).alloc (Nat.le_refl _) _
  have hM1 := hM.alloc (Nat.le_refl _) (.cells #[.slice y.A1 y.n1 y.c1, .slice y.A2 y.n2 y.c2, .bool y.b, .int .i64 y.n] 27)
  clear hM
  go_enter Try.func7, Try.ntmps7
  go_wp2_with fail
  refine (wakes_any _).mono ?_
  rintro e w1 ⟨rfl, hw1x⟩
  have i0 : w1.cell? ⟨w.heap.size, 0, none⟩ = some (.slice y.A1 y.n1 y.c1) := new_later hw1x 0 rfl
  have i1 : w1.cell? ⟨w.heap.size, 1, none⟩ = some (.slice y.A2 y.n2 y.c2) := new_later hw1x 1 rfl
  have i2 : w1.cell? ⟨w.heap.size, 2, none⟩ = some (.bool y.b) := new_later hw1x 2 rfl
  have i3 : w1.cell? ⟨w.heap.size, 3, none⟩ = some (.int .i64 y.n) := new_later hw1x 3 rfl
  have hM1y := hM1.below (hw1x.mono (by simp))
  have hw1 : w.heap.size + 1 ≤ w1.heap.size := by have := hw1x.size; simp at this; omega
  have hb1 : Below w.heap.size w w1 := b0.trans (hw1x.mono b0.size)
  clear b0 hw1x hM1
  have Hi0 := Lib.hid i0
  have Hi1 := Lib.hid i1
  have Hi2 := Lib.hid i2
  have Hi3 := Lib.hid i3
  clear i0 i1 i2 i3
  go_wp2_with fail
  refine (fewI_any A n c m _ Hm.out Hn.out).mono ?_
  rintro e w1' ⟨rfl, rfl⟩
  go_wp2_with fail
  refine (all_any A m c w.heap.size L _ hM1y (by omega) hxM hm60).mono ?_
  rintro e w2 ⟨rfl, hw2x⟩
  have j0 := Lib.hid (kept_later hw2x Hi0.out)
  have j1 := Lib.hid (kept_later hw2x Hi1.out)
  have j2 := Lib.hid (kept_later hw2x Hi2.out)
  have j3 := Lib.hid (kept_later hw2x Hi3.out)
  have hM2 := hM1y.below (hw2x.mono (by omega))
  have hw2 : w.heap.size + 1 ≤ w2.heap.size := by have := hw2x.size; omega
  have hb2 := hb1.trans (hw2x.mono (by omega))
  clear hw2x hb1 hM1y Hi0 Hi1 Hi2 Hi3 hw1
  obtain ⟨a, ha⟩ : ∃ a, allR L = a := ⟨_, rfl⟩
  rw [ha] at hcnt hao hav hend hib ⊢
  have Ha := Lib.hid ha
  have Hcnt := Lib.hid hcnt
  clear ha hcnt
  obtain ⟨W4, hW4⟩ : ∃ W4, (w2.alloc (.cells #[.int .i64 a.c, .int .i64 a.i, .int .i64 (hiI a.v), .int .u64 (loI a.v), .int .i64 a.l, .int .i64 a.m] 24)).alloc (.cells #[.bool false, .bool false] 62) = W4 := ⟨_, rfl⟩
  have hb4 : Below w.heap.size w W4 := by rw [← hW4]; exact (hb2.alloc (by omega) _).alloc (by simp; omega) _
  have hz4 : w2.heap.size + 2 ≤ W4.heap.size := by rw [← hW4]; simp
  have hA4 : SixR W4 w2.heap.size a := by rw [← hW4]; exact (Six.new _ _ _ _ _ _ _ _).alloc _
  have hM4 : Items W4 w.heap.size A m L := by rw [← hW4]; exact (hM2.alloc (by omega) _).alloc (by simp; omega) _
  have hT := new_two (w := (w2.alloc (.cells #[.int .i64 a.c, .int .i64 a.i, .int .i64 (hiI a.v), .int .u64 (loI a.v), .int .i64 a.l, .int .i64 a.m] 24))) (a := .bool false) (b := .bool false) (t := 62) (Below.refl _ _) rfl
  rw [hW4, show (w2.alloc (.cells #[.int .i64 a.c, .int .i64 a.i, .int .i64 (hiI a.v), .int .u64 (loI a.v), .int .i64 a.l, .int .i64 a.m] 24)).heap.size = w2.heap.size + 1 by simp] at hT
  have hj : ∀ W, Below (w.heap.size + 1) w2 W → W.cell? ⟨w.heap.size, 0, none⟩ = some (.slice y.A1 y.n1 y.c1) ∧ W.cell? ⟨w.heap.size, 1, none⟩ = some (.slice y.A2 y.n2 y.c2) ∧ W.cell? ⟨w.heap.size, 2, none⟩ = some (.bool y.b) ∧ W.cell? ⟨w.heap.size, 3, none⟩ = some (.int .i64 y.n) :=
    fun W hb => ⟨(hb.cell (p := ⟨w.heap.size, 0, none⟩) (Nat.lt_succ_self _)).trans j0.out, (hb.cell (p := ⟨w.heap.size, 1, none⟩) (Nat.lt_succ_self _)).trans j1.out, (hb.cell (p := ⟨w.heap.size, 2, none⟩) (Nat.lt_succ_self _)).trans j2.out, (hb.cell (p := ⟨w.heap.size, 3, none⟩) (Nat.lt_succ_self _)).trans j3.out⟩
  have hb24 : Below (w.heap.size + 1) w2 W4 := by rw [← hW4]; exact ((Below.refl _ _).alloc hw2 _).alloc (by simp; omega) _
  have HA4 := Lib.hid hA4
  have HM4 := Lib.hid hM4
  have HJ := Lib.hid hj
  have HT4 := Lib.hid hT
  have HW4 := Lib.hid hW4
  clear hA4 hM4 hj hT hW4 j0 j1 j2 j3 hM2
  go_wp2_with fail
  rw [HW4.out]
  clear HW4
  generalize (Value.tuple #[.agg #[.int .i64 a.c, .int .i64 a.i, .int .i64 (hiI a.v), .int .u64 (loI a.v), .int .i64 a.l, .int .i64 a.m], .bool true]) = V18
  generalize (Value.agg #[.int .i64 a.c, .int .i64 a.i, .int .i64 (hiI a.v), .int .u64 (loI a.v), .int .i64 a.l, .int .i64 a.m]) = V21
  generalize (Value.agg #[.bool false, .bool false]) = V25
  generalize (Value.agg #[.slice y.A1 y.n1 y.c1, .slice y.A2 y.n2 y.c2, .bool y.b, .int .i64 y.n]) = V1
  go_loopw [8, 28] (fun o x wr => ∃ (k : Nat) (i : Int) (p q : Bool), k ≤ m ∧ o = .int .i64 i ∧ 0 ≤ i ∧ i ≤ k ∧ x = .int .i64 (k : Int) ∧ Below (w2.heap.size + 1) W4 wr ∧ Hid (wr.cell? ⟨w2.heap.size + 1, 0, none⟩ = some (.bool p) ∧ wr.cell? ⟨w2.heap.size + 1, 1, none⟩ = some (.bool q) ∧ wr.frozen? ⟨w2.heap.size + 1, 0, none⟩ = false ∧ wr.frozen? ⟨w2.heap.size + 1, 1, none⟩ = false) ∧ Hid ((allR (L.take k)).i = i ∧ metB (L.take k) a.l = p ∧ metB (L.take k) a.m = q)) (fun _ x _ => m - (intOf x).toNat)
  case atStart => exact ⟨0, 0, false, false, Nat.zero_le _, rfl, by omega, by omega, rfl, Below.refl _ _, HT4, Lib.hid ⟨rfl, rfl, rfl⟩⟩
  case round =>
    obtain ⟨k, i, p, q, hk, rfl, hi0, hik, rfl, hbr, HT, HP⟩ := hrel
    have sbr := hbr.size
    by_cases hlt : k < m
    · obtain ⟨b, off, x, rfl, hbB, hx1, x0, x1, x2, x3⟩ := items_cell (HM4.out.below (hbr.mono (by omega))) hlt
      have Hx := Lib.hid hx1
      have hxm := List.mem_of_getElem? hx1
      have hsn := take_snocI hx1
      clear hx1
      obtain ⟨G6, hG6⟩ : ∃ G6, wr.heap.size = G6 := ⟨_, rfl⟩
      obtain ⟨W6, hW6⟩ : ∃ W6, wr.alloc (.cells #[.slice x.A1 x.n1 x.c1, .slice x.A2 x.n2 x.c2, .bool x.b, .int .i64 x.n] 27) = W6 := ⟨_, rfl⟩
      have hb6 : Below (w2.heap.size + 1) W4 W6 := by rw [← hW6]; exact hbr.alloc (by omega) _
      have e2 : W6.cell? ⟨G6, 2, none⟩ = some (.bool x.b) := by rw [← hW6, ← hG6]; exact World.cell?_alloc_new wr _ _ 2
      have e3 : W6.cell? ⟨G6, 3, none⟩ = some (.int .i64 x.n) := by rw [← hW6, ← hG6]; exact World.cell?_alloc_new wr _ _ 3
      have HT6 : Hid (W6.cell? ⟨w2.heap.size + 1, 0, none⟩ = some (.bool p) ∧ W6.cell? ⟨w2.heap.size + 1, 1, none⟩ = some (.bool q) ∧ W6.frozen? ⟨w2.heap.size + 1, 0, none⟩ = false ∧ W6.frozen? ⟨w2.heap.size + 1, 1, none⟩ = false) := by
        rw [← hW6]
        exact Lib.hid ⟨cell_keep HT.out.1 _, cell_keep HT.out.2.1 _, (frozen_keep HT.out.1 _).trans HT.out.2.2.1, (frozen_keep HT.out.2.1 _).trans HT.out.2.2.2⟩
      have hA6 : SixR W6 w2.heap.size a := Six.under HA4.out hb6 (by omega)
      have HW6 := Lib.hid hW6
      have HG6 := Lib.hid hG6
      clear hW6 hG6 hbr HT
      cases hxb : x.b
      · have HN : Hid ((allR (L.take (k + 1))).i = i ∧ metB (L.take (k + 1)) a.l = p ∧ metB (L.take (k + 1)) a.m = q) := by
          rw [hsn, allR_i_snoc, metB_snoc, metB_snoc, hxb, HP.out.1, HP.out.2.1, HP.out.2.2]
          exact Lib.hid ⟨by simp [o1], by simp, by simp⟩
        rw [hxb] at x2
        have hW6 := HW6.out
        rw [hxb] at hW6
        clear hsn HP hxb e2 e3 hA6 HW6
        subst hW6
        go_wp2_with fail
        go_roundw
        case rel => exact ⟨k + 1, i, p, q, by omega, rfl, hi0, by omega, by go_num, hb6, HT6, HN⟩
        case measure => simp [intOf]; omega
      · have HN : Hid ((allR (L.take (k + 1))).i = i + 1 ∧ metB (L.take (k + 1)) a.l = (p || (x.n == a.l)) ∧ metB (L.take (k + 1)) a.m = (q || (x.n == a.m))) := by
          rw [hsn, allR_i_snoc, metB_snoc, metB_snoc, hxb, HP.out.1, HP.out.2.1, HP.out.2.2]
          exact Lib.hid ⟨by simp [o1], by simp, by simp⟩
        obtain ⟨lo1, lo2⟩ := hend.out.low x hxm hxb
        rw [hxb] at x2 e2
        have hW6 := HW6.out
        rw [hxb] at hW6
        have HW7 := Lib.hid hW6
        clear hsn HP hxb HW6 hW6
        have hi1 : IntKind.i64.wrap (i + 1) = i + 1 := by rw [IntKind.wrap_i64]; omega
        go_upto_region 12 with fail
        rw [HG6.out, HW7.out]
        clear HG6 HW7 x0 x1 x2 x3
        obtain ⟨⟨r0, r1, r2, r3, r4, r5⟩, -⟩ := hA6
        obtain ⟨t0, t1, f0, f1⟩ := HT6.out
        have hl1 : p = true ∨ (p = false ∧ (x.n == a.l) = true) ∨ (p = false ∧ (x.n == a.l) = false) := by cases p <;> cases (x.n == a.l) <;> simp
        have hl2 : q = true ∨ (q = false ∧ (x.n == a.m) = true) ∨ (q = false ∧ (x.n == a.m) = false) := by cases q <;> cases (x.n == a.m) <;> simp
        rcases hl1 with rfl | ⟨rfl, hl1⟩ | ⟨rfl, hl1⟩ <;> rcases hl2 with rfl | ⟨rfl, hl2⟩ | ⟨rfl, hl2⟩
        all_goals
          (try rw [hl1] at HN)
          (try rw [hl2] at HN)
          go_wp2_with fail
          go_region
          all_goals
            go_wp2_with fail
            go_roundw
            case rel => exact ⟨k + 1, i + 1, _, _, by omega, rfl, by omega, by omega, by go_num, ((hb6.setCell (Nat.le_refl _) _).setCell (Nat.le_refl _) _).drew, Lib.hid ⟨by go_simp, by go_simp, by go_simp, by go_simp⟩, HN⟩
            case measure => simp [intOf]; omega
    · have hkm : L.take k = L := List.take_of_length_le (by rw [hlen.out]; omega)
      rw [hkm, Ha.out] at HP
      obtain ⟨rfl, hp, hq⟩ := HP.out
      have hw4 : w2.heap.size + 1 ≤ W4.heap.size := by omega
      have hA5 : SixR wr w2.heap.size a := Six.under HA4.out hbr (by omega)
      have hT5 := HT.out
      have hJ5 := HJ.out wr (hb24.trans (hbr.mono (by omega)))
      have hb5 := hb4.trans (hbr.mono (by omega))
      have s5 := hb5.size
      have hwr : w2.heap.size + 2 ≤ wr.heap.size := by omega
      have hc1 : (a.c != (m : Int)) = false := by rw [Hcnt.out]; simp
      have hc2 : (a.c == (m : Int)) = true := by rw [Hcnt.out]; simp
      have hac : a.c ≤ 60 := by rw [Hcnt.out]; omega
      have hac0 : 0 ≤ a.c := by rw [Hcnt.out]; omega
      have hends := hend.out
      have hjc := Lib.hid (show ((a.join y.one).c == a.c + 1) = true by simp [RedT.join, ItemT.one])
      have hji := Lib.hid (show ((a.join y.one).i == a.i + 1) = y.b by
        cases hyb : y.b
        · simp [RedT.join, ItemT.one, hyb, o1]; omega
        · simp [RedT.join, ItemT.one, hyb, o1])
      have hjn : ∀ (X : World) (g : Nat), Reds X X.heap.size (some ⟨g, 0, none⟩) 2 [a, y.one] → Calls Try.prog 13 #[.slice (some ⟨g, 0, none⟩) 2 2] X fun e w' => e = .returned (.tuple #[.agg #[.int .i64 (a.join y.one).c, .int .i64 (a.join y.one).i, .int .i64 (hiI (a.join y.one).v), .int .u64 (loI (a.join y.one).v), .int .i64 (a.join y.one).l, .int .i64 (a.join y.one).m], .int .i64 0]) ∧ Below X.heap.size X w' :=
        fun X g hr => join_two a y.one g X hav.out (one_is y) hao.out (one_ok y hy) (by simp [ItemT.one]; omega) hr
      have Hjn := Lib.hid hjn
      obtain ⟨W5, hW5⟩ : ∃ W5, wr = W5 := ⟨_, rfl⟩
      rw [hW5] at hA5 hT5 hJ5 hb5
      have HW5 := Lib.hid hW5
      have HA5 := Lib.hid hA5
      have HJ5 := Lib.hid hJ5
      have HB5 := Lib.hid hb5
      obtain ⟨t0, t1, -, -⟩ := hT5
      have hi : (a.i = 0 ∧ (a.i == 0) = true ∧ (hiI a.v == 0) = true ∧ (loI a.v == 0) = true ∧ (a.l == 0) = true ∧ (a.m == 0) = true) ∨ (0 < a.i ∧ p = true ∧ q = true) := by
        by_cases hi : a.i = 0
        · obtain ⟨k1, k2, k3, -⟩ := hends.none hi
          refine .inl ⟨hi, by simp [hi], ?_, ?_, by simp [k2], by simp [k3]⟩
          · rw [k1, hl_zero.1]; rfl
          · rw [k1, hl_zero.2]; rfl
        · have h0 : 0 < a.i := by omega
          exact .inr ⟨h0, by rw [← hp]; exact hends.least h0, by rw [← hq]; exact hends.most h0⟩
      clear hkm HA4 HT HJ hb24 hbr hb4 hz4 hends hA5 hJ5 hb5 hW5 hjn hp hq HP HM4 HT4 hend hb2
      obtain ⟨⟨r0, r1, r2, r3, r4, r5⟩, -⟩ := HA5.out
      have heq : ∀ W, Sem.run Try.prog (Op.equalIn 10000 62 (.agg #[.bool true, .bool true]) (.agg #[.bool true, .bool true])) W = .ok true W := fun W => by kernel_rfl
      rw [HW5.out]
      go_upto_region 18 with fail
      go_cut [100] (fun s100 wx => s100 = .bool false ∧ W5 = wx)
      case first =>
        rcases hi with ⟨hi, z1, z2, z3, z4, z5⟩ | ⟨hi, rfl, rfl⟩
        · have z6 : decide (0 < a.i) = false := by rw [hi]; rfl
          clear hi heq
          go_wp2_with fail
          go_meet
          case rel => exact ⟨rfl, rfl⟩
        · have z1 : (a.i == 0) = false := by rw [beq_eq_false_iff_ne]; omega
          go_wp2_with fail
          go_meet
          case rel => exact ⟨rfl, rfl⟩
      case rest =>
        obtain ⟨rfl, rfl⟩ := hcut
        clear hc1 hc2 heq hi
        go_wp2_with fail
        obtain ⟨s0, s1, s2, s3⟩ := HJ5.out
        have c0 : ∀ W, Below W5.heap.size W5 W → W.cell? ⟨w2.heap.size, 0, none⟩ = some (.int .i64 a.c) := fun W h => kept_later h r0
        have c1 : ∀ W, Below W5.heap.size W5 W → W.cell? ⟨w2.heap.size, 1, none⟩ = some (.int .i64 a.i) := fun W h => kept_later h r1
        have c2 : ∀ W, Below W5.heap.size W5 W → W.cell? ⟨w2.heap.size, 2, none⟩ = some (.int .i64 (hiI a.v)) := fun W h => kept_later h r2
        have c3 : ∀ W, Below W5.heap.size W5 W → W.cell? ⟨w2.heap.size, 3, none⟩ = some (.int .u64 (loI a.v)) := fun W h => kept_later h r3
        have c4 : ∀ W, Below W5.heap.size W5 W → W.cell? ⟨w2.heap.size, 4, none⟩ = some (.int .i64 a.l) := fun W h => kept_later h r4
        have c5 : ∀ W, Below W5.heap.size W5 W → W.cell? ⟨w2.heap.size, 5, none⟩ = some (.int .i64 a.m) := fun W h => kept_later h r5
        have d0 : ∀ W, Below W5.heap.size W5 W → W.cell? ⟨w.heap.size, 0, none⟩ = some (.slice y.A1 y.n1 y.c1) := fun W h => kept_later h s0
        have d1 : ∀ W, Below W5.heap.size W5 W → W.cell? ⟨w.heap.size, 1, none⟩ = some (.slice y.A2 y.n2 y.c2) := fun W h => kept_later h s1
        have d2 : ∀ W, Below W5.heap.size W5 W → W.cell? ⟨w.heap.size, 2, none⟩ = some (.bool y.b) := fun W h => kept_later h s2
        have d3 : ∀ W, Below W5.heap.size W5 W → W.cell? ⟨w.heap.size, 3, none⟩ = some (.int .i64 y.n) := fun W h => kept_later h s3
        have hz5 : w2.heap.size + 2 ≤ W5.heap.size := by rw [← HW5.out]; exact hwr
        clear r0 r1 r2 r3 r4 r5 s0 s1 s2 s3 t0 t1
        go_cut [12, 13] (fun s7 s8 wx => ∃ g : Nat, s7 = .pointer (some ⟨g, 0, none⟩) ∧ s8 = .int .i64 0 ∧ Below W5.heap.size W5 wx ∧ SixR wx g (a.join y.one))
        case first =>
          go_region_held3 (fun w' => Below W5.heap.size W5 w') (first | with_reducible assumption | with_reducible exact (Below.refl _ _).drew | with_reducible exact ((Below.refl _ _).alloc (Nat.le_refl _) _).drew | ((with_reducible refine S_alloc ?_); with_reducible assumption) | ((with_reducible refine S_call ?_ ?_ ?_); with_reducible assumption; with_reducible assumption; rfl) | ((with_reducible refine below_set6 ?_ ?_); with_reducible assumption; (first | with_reducible exact Nat.le_refl _ | with_reducible exact Below.size (by with_reducible assumption) | ((with_reducible refine Nat.le_succ_of_le ?_); exact Below.size (by with_reducible assumption))))) (first
            | (go_at_call 11; (with_reducible refine (one_agg y _ hy).mono ?_); rintro e wA ⟨rfl, hbA⟩; have hSA := S_call hbA (by with_reducible assumption) rfl; (first | ((with_reducible have kk := Six.below kk hbA (by with_unfolding_all rfl)); obtain ⟨⟨k0, k1, k2, k3, k4, k5⟩, f0, f1, f2, f3, f4, f5⟩ := id kk) | ((with_reducible have kk := Six.below (Six.alloc _ kk) hbA (by with_unfolding_all rfl)); obtain ⟨⟨k0, k1, k2, k3, k4, k5⟩, f0, f1, f2, f3, f4, f5⟩ := id kk) | ((with_reducible have kk := six_at hbA (by with_unfolding_all rfl)); (try simp at kk); obtain ⟨⟨k0, k1, k2, k3, k4, k5⟩, f0, f1, f2, f3, f4, f5⟩ := id kk) | ((with_reducible have kk := six_at (below_undrew hbA) (by with_unfolding_all rfl)); (try simp at kk); obtain ⟨⟨k0, k1, k2, k3, k4, k5⟩, f0, f1, f2, f3, f4, f5⟩ := id kk) | ((with_reducible have kk := Six.below (Six.alloc _ (Six.new _ _ _ _ _ _ _ _)) hbA (by with_unfolding_all rfl)); obtain ⟨⟨k0, k1, k2, k3, k4, k5⟩, f0, f1, f2, f3, f4, f5⟩ := id kk) | skip))
            | (go_at_call 13; (with_reducible refine (Hjn.out _ _ ?_).mono ?_); (first | exact reds_at _ _ a y.one _ (by simp) | exact reds_on _ _ _ a y.one _ (by simp)); rintro e wC ⟨rfl, hbC⟩; have hSC := S_call hbC (by with_reducible assumption) rfl; (first | ((with_reducible have kk := Six.below kk hbC (by with_unfolding_all rfl)); obtain ⟨⟨k0, k1, k2, k3, k4, k5⟩, f0, f1, f2, f3, f4, f5⟩ := id kk) | ((with_reducible have kk := Six.below (Six.alloc _ kk) hbC (by with_unfolding_all rfl)); obtain ⟨⟨k0, k1, k2, k3, k4, k5⟩, f0, f1, f2, f3, f4, f5⟩ := id kk) | ((with_reducible have kk := six_at hbC (by with_unfolding_all rfl)); (try simp at kk); obtain ⟨⟨k0, k1, k2, k3, k4, k5⟩, f0, f1, f2, f3, f4, f5⟩ := id kk) | ((with_reducible have kk := six_at (below_undrew hbC) (by with_unfolding_all rfl)); (try simp at kk); obtain ⟨⟨k0, k1, k2, k3, k4, k5⟩, f0, f1, f2, f3, f4, f5⟩ := id kk) | ((with_reducible have kk := Six.below (Six.alloc _ (Six.new _ _ _ _ _ _ _ _)) hbC (by with_unfolding_all rfl)); obtain ⟨⟨k0, k1, k2, k3, k4, k5⟩, f0, f1, f2, f3, f4, f5⟩ := id kk) | skip)))
          all_goals
            go_wp2_with fail
            go_meet
            case rel =>
              refine ⟨_, rfl, rfl, by with_reducible assumption, ?_⟩
              unfold SixR
              first | with_reducible exact Six.new _ _ _ _ _ _ _ _ | with_reducible exact ((((((kk.s0 _).s1 _).s2 _).s3 _).s4 _).s5 _)
        case rest =>
          obtain ⟨g, rfl, rfl, hbx, hsx⟩ := hcut
          have hA7 := Six.below HA5.out hbx rfl
          have h2 := d2 wc hbx
          have hbw := HB5.out.trans (hbx.mono HB5.out.size)
          have hjc' := hjc.out
          have hji' := hji.out
          obtain ⟨⟨r0, r1, r2, r3, r4, r5⟩, -⟩ := hA7
          obtain ⟨⟨q0, q1, q2, q3, q4, q5⟩, -⟩ := hsx
          clear c0 c1 c2 c3 c4 c5 d0 d1 d2 d3 Hjn hbx
          generalize a.join y.one = j at *
          go_wp2_with fail
          go_ret
          exact ⟨rfl, hbw⟩
end Go.Proofs.Ytinaecmpigenoaa
