/-
  Layer 13: all: the reduction of rows, one by one.
-/
import Derived.Test.YtinaecmpigenoaaMonZ
import Derived.Deep.RegionHeld3
namespace Go.Proofs.Ytinaecmpigenoaa
open Go.RowKit
attribute [local go_sem ↓] Go.wp_at_zero Go.wp_at_succ

theorem items_len {w : World} {B : Nat} {A : Option Addr} {n : Nat} {l : List ItemT} (h : Items w B A n l) : l.length = n := by
  have h1 := h.1
  rw [flat_len ItemT.cells 4 (fun _ => rfl)] at h1
  omega
theorem items_cell {w : World} {B : Nat} {A : Option Addr} {n : Nat} {l : List ItemT} (h : Items w B A n l) {k : Nat} (hk : k < n) : ∃ (b off : Nat) (x : ItemT), A = some ⟨b, off, none⟩ ∧ b < B ∧ l[k]? = some x ∧
    w.cell? ⟨b, off + k * 4, none⟩ = some (.slice x.A1 x.n1 x.c1) ∧ w.cell? ⟨b, off + k * 4 + 1, none⟩ = some (.slice x.A2 x.n2 x.c2) ∧ w.cell? ⟨b, off + k * 4 + 2, none⟩ = some (.bool x.b) ∧ w.cell? ⟨b, off + k * 4 + 3, none⟩ = some (.int .i64 x.n) := by
  have hl := items_len h
  obtain ⟨b, off, rfl, hb, hc⟩ := h.2 (by omega)
  have hk' : k < l.length := by omega
  have hg := fun j hj => flat_get ItemT.cells 4 (fun _ => rfl) l k j hk' hj
  exact ⟨b, off, l[k], rfl, hb, List.getElem?_eq_getElem hk', hc (k * 4 + 0) _ ((hg 0 (by omega)).trans rfl), hc (k * 4 + 1) _ ((hg 1 (by omega)).trans rfl), hc (k * 4 + 2) _ ((hg 2 (by omega)).trans rfl), hc (k * 4 + 3) _ ((hg 3 (by omega)).trans rfl)⟩
theorem Six.under {w w1 : World} {g B : Nat} {a b c d e f : Value} (h : Six w g a b c d e f) (hb : Below B w w1) (hg : g < B) : Six w1 g a b c d e f := by
  obtain ⟨⟨r0, r1, r2, r3, r4, r5⟩, f0, f1, f2, f3, f4, f5⟩ := h
  exact ⟨⟨(hb.cell (p := ⟨g, 0, none⟩) hg).trans r0, (hb.cell (p := ⟨g, 1, none⟩) hg).trans r1, (hb.cell (p := ⟨g, 2, none⟩) hg).trans r2, (hb.cell (p := ⟨g, 3, none⟩) hg).trans r3, (hb.cell (p := ⟨g, 4, none⟩) hg).trans r4, (hb.cell (p := ⟨g, 5, none⟩) hg).trans r5⟩,
    (hb.frozen (p := ⟨g, 0, none⟩) hg).trans f0, (hb.frozen (p := ⟨g, 1, none⟩) hg).trans f1, (hb.frozen (p := ⟨g, 2, none⟩) hg).trans f2, (hb.frozen (p := ⟨g, 3, none⟩) hg).trans f3, (hb.frozen (p := ⟨g, 4, none⟩) hg).trans f4, (hb.frozen (p := ⟨g, 5, none⟩) hg).trans f5⟩
/-- A reduction's six cells in a variable. -/
def SixR (w : World) (g : Nat) (a : RedT) : Prop := Six w g (.int .i64 a.c) (.int .i64 a.i) (.int .i64 (hiI a.v)) (.int .u64 (loI a.v)) (.int .i64 a.l) (.int .i64 a.m)
theorem join_two (a r : RedT) (g : Nat) (W : World) (ha : a.valid = true) (hr : r.valid = true) (hao : a.ok) (hro : r.ok) (hc : a.c + r.c ≤ 1073741824) (h : Reds W W.heap.size (some ⟨g, 0, none⟩) 2 [a, r]) :
    Calls Try.prog 13 #[.slice (some ⟨g, 0, none⟩) 2 2] W fun e w' => e = .returned (.tuple #[.agg #[.int .i64 (a.join r).c, .int .i64 (a.join r).i, .int .i64 (hiI (a.join r).v), .int .u64 (loI (a.join r).v), .int .i64 (a.join r).l, .int .i64 (a.join r).m], .int .i64 0]) ∧ Below W.heap.size W w' := by
  refine (joinAll_any _ 2 2 W.heap.size [a, r] W h (Nat.le_refl _) (by intro x hx; simp at hx; rcases hx with rfl | rfl <;> assumption) (by omega)).mono ?_
  rintro e w' ⟨rfl, hb⟩
  rw [jall_two a r ha hr hc]
  exact ⟨rfl, hb⟩
theorem reds_at (w : World) (g : Nat) (a r : RedT) (t : TypeId) (hg : w.heap.size = g) : Reds (w.alloc (.cells #[.int .i64 a.c, .int .i64 a.i, .int .i64 (hiI a.v), .int .u64 (loI a.v), .int .i64 a.l, .int .i64 a.m, .int .i64 r.c, .int .i64 r.i, .int .i64 (hiI r.v), .int .u64 (loI r.v), .int .i64 r.l, .int .i64 r.m] t)) (w.alloc (.cells #[.int .i64 a.c, .int .i64 a.i, .int .i64 (hiI a.v), .int .u64 (loI a.v), .int .i64 a.l, .int .i64 a.m, .int .i64 r.c, .int .i64 r.i, .int .i64 (hiI r.v), .int .u64 (loI r.v), .int .i64 r.l, .int .i64 r.m] t)).heap.size (some ⟨g, 0, none⟩) 2 [a, r] := by
  subst hg
  exact (reds_two w a r t).more (by simp)
theorem reds_on (w : World) (o : Obj) (g : Nat) (a r : RedT) (t : TypeId) (hg : w.heap.size = g) : Reds ((w.alloc (.cells #[.int .i64 a.c, .int .i64 a.i, .int .i64 (hiI a.v), .int .u64 (loI a.v), .int .i64 a.l, .int .i64 a.m, .int .i64 r.c, .int .i64 r.i, .int .i64 (hiI r.v), .int .u64 (loI r.v), .int .i64 r.l, .int .i64 r.m] t)).alloc o) ((w.alloc (.cells #[.int .i64 a.c, .int .i64 a.i, .int .i64 (hiI a.v), .int .u64 (loI a.v), .int .i64 a.l, .int .i64 a.m, .int .i64 r.c, .int .i64 r.i, .int .i64 (hiI r.v), .int .u64 (loI r.v), .int .i64 r.l, .int .i64 r.m] t)).alloc o).heap.size (some ⟨g, 0, none⟩) 2 [a, r] := by
  subst hg
  exact ((reds_two w a r t).alloc (by simp) o).more (by simp)
theorem six_go {w w1 : World} {a b c d e f : Value} {t : TypeId} (hb : Below (w.alloc (.cells #[a, b, c, d, e, f] t)).heap.size (w.alloc (.cells #[a, b, c, d, e, f] t)) w1) : Six w1 w.heap.size a b c d e f := six_new rfl hb

set_option maxRecDepth 100000 in
set_option maxHeartbeats 2000000 in
theorem all_any (A : Option Addr) (n c B : Nat) (l : List ItemT) (w : World) (h : Items w B A n l) (hB : B ≤ w.heap.size) (hx : ∀ x ∈ l, R64 x.n) (hn : n ≤ 60) :
    Calls Try.prog 23 #[.slice A n c] w fun e w' => e = .returned (.tuple #[.agg #[.int .i64 (allR l).c, .int .i64 (allR l).i, .int .i64 (hiI (allR l).v), .int .u64 (loI (allR l).v), .int .i64 (allR l).l, .int .i64 (allR l).m], .bool true]) ∧ Below w.heap.size w w' := by
  have hlen := Lib.hid (items_len h)
  go_enter Try.func23, Try.ntmps23
  go_wp2
  obtain ⟨W1, hW1⟩ : ∃ W1, (w.alloc (.cells #[.int .i64 0, .int .i64 0, .int .i64 0, .int .u64 0, .int .i64 0, .int .i64 0] 24)).alloc (.cells #[.int .i64 0, .int .i64 0, .int .i64 0, .int .u64 0, .int .i64 0, .int .i64 0] 24) = W1 := ⟨_, rfl⟩
  have hb1 : Below w.heap.size w W1 := by rw [← hW1]; exact ((Below.refl _ _).alloc (Nat.le_refl _) _).alloc (by simp) _
  have hz1 : W1.heap.size = w.heap.size + 2 := by rw [← hW1]; simp
  have hs1 : SixR W1 (w.heap.size + 1) RedT.zero := by
    have := Six.new (w.alloc (.cells #[.int .i64 0, .int .i64 0, .int .i64 0, .int .u64 0, .int .i64 0, .int .i64 0] 24)) (.int .i64 0) (.int .i64 0) (.int .i64 0) (.int .u64 0) (.int .i64 0) (.int .i64 0) 24
    rw [hW1] at this
    unfold SixR RedT.zero
    rw [hl_zero.1, hl_zero.2]
    simpa using this
  have hs0 : Six W1 w.heap.size (.int .i64 0) (.int .i64 0) (.int .i64 0) (.int .u64 0) (.int .i64 0) (.int .i64 0) := by rw [← hW1]; exact (Six.new _ _ _ _ _ _ _ _).alloc _
  have hl1 : Items W1 B A n l := by rw [← hW1]; exact (h.alloc hB _).alloc (by simp; omega) _
  rw [hW1]
  clear hW1 h
  have HS1 := Lib.hid hs1
  have HS0 := Lib.hid hs0
  have HL1 := Lib.hid hl1
  have hz2 : w.heap.size + 2 ≤ W1.heap.size := by omega
  clear hs1 hs0 hl1 hz1
  go_loopw [12] (fun x wr => ∃ k : Nat, k ≤ n ∧ x = .int .i64 (k : Int) ∧ Below (w.heap.size + 1) W1 wr ∧ SixR wr (w.heap.size + 1) (allR (l.take k))) (fun x _ => n - (intOf x).toNat)
  case atStart => exact ⟨0, Nat.zero_le _, rfl, Below.refl _ _, HS1.out⟩
  case round =>
    obtain ⟨k, hk, rfl, hbr, hsix⟩ := hrel
    have hszr := hbr.size
    by_cases hlt : k < n
    · obtain ⟨b, off, x, rfl, hbB, hx1, x0, x1, x2, x3⟩ := items_cell (HL1.out.below (hbr.mono (by omega))) hlt
      have hlk : k < l.length := by rw [hlen.out]; omega
      have h60 : l.length ≤ 60 := by rw [hlen.out]; omega
      have hok := allOk (l.take k) (fun y hy => hx y (List.mem_of_mem_take hy)) (by simp; omega)
      have hav := Lib.hid hok.valid
      have hao := Lib.hid (hok.ok (by simp; omega))
      have hac : (allR (l.take k)).c ≤ 60 := by rw [hok.cnt]; simp; omega
      have hxr := Lib.hid (hx x (List.mem_of_getElem? hx1))
      have hnext := Lib.hid (show allR (l.take (k + 1)) = (allR (l.take k)).join x.one by
        have e : l[k]'(by omega) = x := by
          have := List.getElem?_eq_getElem (l := l) (i := k) (by omega)
          rw [this] at hx1
          exact Option.some.inj hx1
        rw [List.take_succ_eq_append_getElem (by omega), allR_snoc, e])
      clear hok hx1 hlk h60
      generalize allR (l.take k) = a at *
      obtain ⟨G3, hG3⟩ : ∃ G3, wr.heap.size = G3 := ⟨_, rfl⟩
      obtain ⟨W3, hW3⟩ : ∃ W3, wr.alloc (.cells #[.slice x.A1 x.n1 x.c1, .slice x.A2 x.n2 x.c2, .bool x.b, .int .i64 x.n] 27) = W3 := ⟨_, rfl⟩
      have hb3 : Below (w.heap.size + 1) W1 W3 := by rw [← hW3]; exact hbr.alloc (by omega) _
      have ha3 : SixR W3 (w.heap.size + 1) a := by rw [← hW3]; exact Six.alloc _ hsix
      have i0 : W3.cell? ⟨G3, 0, none⟩ = some (.slice x.A1 x.n1 x.c1) := by rw [← hW3, ← hG3]; exact World.cell?_alloc_new wr _ _ 0
      have i1 : W3.cell? ⟨G3, 1, none⟩ = some (.slice x.A2 x.n2 x.c2) := by rw [← hW3, ← hG3]; exact World.cell?_alloc_new wr _ _ 1
      have i2 : W3.cell? ⟨G3, 2, none⟩ = some (.bool x.b) := by rw [← hW3, ← hG3]; exact World.cell?_alloc_new wr _ _ 2
      have i3 : W3.cell? ⟨G3, 3, none⟩ = some (.int .i64 x.n) := by rw [← hW3, ← hG3]; exact World.cell?_alloc_new wr _ _ 3
      have hz3 : w.heap.size + 2 ≤ W3.heap.size := by have := hb3.size; omega
      have HW3 := Lib.hid hW3
      have HG3 := Lib.hid hG3
      clear hW3 hG3
      go_upto_region 5 with fail
      rw [HG3.out, HW3.out]
      clear HG3 HW3 hbr x0 x1 x2 x3 hsix hszr
      have HA3 := Lib.hid ha3
      obtain ⟨⟨r0, r1, r2, r3, r4, r5⟩, -⟩ := ha3
      have c0 : ∀ W, Below W3.heap.size W3 W → W.cell? ⟨w.heap.size + 1, 0, none⟩ = some (.int .i64 a.c) := fun W h => kept_later h r0
      have c1 : ∀ W, Below W3.heap.size W3 W → W.cell? ⟨w.heap.size + 1, 1, none⟩ = some (.int .i64 a.i) := fun W h => kept_later h r1
      have c2 : ∀ W, Below W3.heap.size W3 W → W.cell? ⟨w.heap.size + 1, 2, none⟩ = some (.int .i64 (hiI a.v)) := fun W h => kept_later h r2
      have c3 : ∀ W, Below W3.heap.size W3 W → W.cell? ⟨w.heap.size + 1, 3, none⟩ = some (.int .u64 (loI a.v)) := fun W h => kept_later h r3
      have c4 : ∀ W, Below W3.heap.size W3 W → W.cell? ⟨w.heap.size + 1, 4, none⟩ = some (.int .i64 a.l) := fun W h => kept_later h r4
      have c5 : ∀ W, Below W3.heap.size W3 W → W.cell? ⟨w.heap.size + 1, 5, none⟩ = some (.int .i64 a.m) := fun W h => kept_later h r5
      have d0 : ∀ W, Below W3.heap.size W3 W → W.cell? ⟨G3, 0, none⟩ = some (.slice x.A1 x.n1 x.c1) := fun W h => kept_later h i0
      have d1 : ∀ W, Below W3.heap.size W3 W → W.cell? ⟨G3, 1, none⟩ = some (.slice x.A2 x.n2 x.c2) := fun W h => kept_later h i1
      have d2 : ∀ W, Below W3.heap.size W3 W → W.cell? ⟨G3, 2, none⟩ = some (.bool x.b) := fun W h => kept_later h i2
      have d3 : ∀ W, Below W3.heap.size W3 W → W.cell? ⟨G3, 3, none⟩ = some (.int .i64 x.n) := fun W h => kept_later h i3
      clear r0 r1 r2 r3 r4 r5 i0 i1 i2 i3
      have hjn : ∀ (X : World) (g : Nat), Reds X X.heap.size (some ⟨g, 0, none⟩) 2 [a, x.one] → Calls Try.prog 13 #[.slice (some ⟨g, 0, none⟩) 2 2] X fun e w' => e = .returned (.tuple #[.agg #[.int .i64 (a.join x.one).c, .int .i64 (a.join x.one).i, .int .i64 (hiI (a.join x.one).v), .int .u64 (loI (a.join x.one).v), .int .i64 (a.join x.one).l, .int .i64 (a.join x.one).m], .int .i64 0]) ∧ Below X.heap.size X w' :=
        fun X g hr => join_two a x.one g X hav.out (one_is x) hao.out (one_ok x hxr.out) (by simp [ItemT.one]; omega) hr
      have Hjn := Lib.hid hjn
      clear hjn
      go_cut [7, 8] (fun s7 s8 wx => ∃ g : Nat, s7 = .pointer (some ⟨g, 0, none⟩) ∧ s8 = .int .i64 0 ∧ Below W3.heap.size W3 wx ∧ SixR wx g (a.join x.one))
      case first =>
        go_region_held3 (fun w' => Below W3.heap.size W3 w') (first | with_reducible assumption | with_reducible exact (Below.refl _ _).drew | with_reducible exact ((Below.refl _ _).alloc (Nat.le_refl _) _).drew | ((with_reducible refine S_alloc ?_); assumption) | ((with_reducible refine S_call ?_ ?_ ?_); assumption; assumption; rfl) | ((with_reducible refine below_set6 ?_ ?_); assumption; (first | with_reducible exact Nat.le_refl _ | with_reducible exact Below.size (by assumption) | ((with_reducible refine Nat.le_succ_of_le ?_); exact Below.size (by assumption))))) (first
          | (go_at_call 11; (with_reducible refine (one_agg x _ hxr.out).mono ?_); rintro e wA ⟨rfl, hbA⟩; have hSA := S_call hbA (by assumption) rfl; (first | (have kk := kk.below hbA rfl; obtain ⟨⟨k0, k1, k2, k3, k4, k5⟩, f0, f1, f2, f3, f4, f5⟩ := id kk) | (have kk := six_go hbA; (try simp at kk); obtain ⟨⟨k0, k1, k2, k3, k4, k5⟩, f0, f1, f2, f3, f4, f5⟩ := id kk) | (have kk := six_go (below_undrew hbA); obtain ⟨⟨k0, k1, k2, k3, k4, k5⟩, f0, f1, f2, f3, f4, f5⟩ := id kk) | skip))
          | (go_at_call 13; (with_reducible refine (Hjn.out _ _ ?_).mono ?_); (first | exact reds_at _ _ a x.one _ (by simp) | exact reds_on _ _ _ a x.one _ (by simp)); rintro e wC ⟨rfl, hbC⟩; have hSC := S_call hbC (by assumption) rfl; (first | (have kk := kk.below hbC rfl; obtain ⟨⟨k0, k1, k2, k3, k4, k5⟩, f0, f1, f2, f3, f4, f5⟩ := id kk) | (have kk := (kk.alloc _).below hbC rfl; obtain ⟨⟨k0, k1, k2, k3, k4, k5⟩, f0, f1, f2, f3, f4, f5⟩ := id kk) | (have kk := six_go hbC; (try simp at kk); obtain ⟨⟨k0, k1, k2, k3, k4, k5⟩, f0, f1, f2, f3, f4, f5⟩ := id kk) | (have kk := ((Six.new _ _ _ _ _ _ _ _).alloc _).below hbC rfl; obtain ⟨⟨k0, k1, k2, k3, k4, k5⟩, f0, f1, f2, f3, f4, f5⟩ := id kk) | skip)))
        all_goals
          go_wp2_with fail
          go_meet
          case rel =>
            refine ⟨_, rfl, rfl, by with_reducible assumption, ?_⟩
            unfold SixR
            first | with_reducible exact Six.new _ _ _ _ _ _ _ _ | with_reducible exact ((((((kk.s0 _).s1 _).s2 _).s3 _).s4 _).s5 _)
      case rest =>
        obtain ⟨g, rfl, rfl, hbx, hsx⟩ := hcut
        have HA4 := Lib.hid (Six.below HA3.out hbx rfl)
        have hb4 : Below (w.heap.size + 1) W1 wc := hb3.trans (hbx.mono (by omega))
        rw [← hnext.out] at hsx
        clear HA3 c0 c1 c2 c3 c4 c5 d0 d1 d2 d3 Hjn hbx hnext hb3
        obtain ⟨a', ha'⟩ : ∃ a', allR (l.take (k + 1)) = a' := ⟨_, rfl⟩
        rw [ha'] at hsx
        have Ha' := Lib.hid ha'
        clear ha'
        obtain ⟨⟨r0, r1, r2, r3, r4, r5⟩, -⟩ := hsx
        obtain ⟨⟨q0, q1, q2, q3, q4, q5⟩, f0, f1, f2, f3, f4, f5⟩ := HA4.out
        go_wp2_with fail
        go_roundw
        case rel => exact ⟨k + 1, by omega, by go_num, below_set6 hb4 (Nat.le_refl _), by rw [Ha'.out]; exact ((((((HA4.out.s0 _).s1 _).s2 _).s3 _).s4 _).s5 _)⟩
        case measure => simp [intOf]; omega
    · have hkn : l.take k = l := List.take_of_length_le (by rw [hlen.out]; omega)
      rw [hkn] at hsix
      clear hkn
      have hs0 := HS0.out.under hbr (by omega)
      have hb2 : Below w.heap.size w wr := hb1.trans (hbr.mono (Nat.le_succ _))
      clear hbr
      obtain ⟨a, ha⟩ : ∃ a, allR l = a := ⟨_, rfl⟩
      rw [ha] at hsix
      have Ha := Lib.hid ha
      clear ha
      obtain ⟨⟨r0, r1, r2, r3, r4, r5⟩, -⟩ := hsix
      obtain ⟨⟨q0, q1, q2, q3, q4, q5⟩, f0, f1, f2, f3, f4, f5⟩ := hs0
      go_wp2_with fail
      refine bodyPost_ret (v := .tuple #[.agg #[.int .i64 a.c, .int .i64 a.i, .int .i64 (hiI a.v), .int .u64 (loI a.v), .int .i64 a.l, .int .i64 a.m], .bool true]) ?_ rfl ⟨by rw [Ha.out], below_set6 hb2 (Nat.le_refl _)⟩
      simp [results, Try.results23, go_sem, *]
end Go.Proofs.Ytinaecmpigenoaa
