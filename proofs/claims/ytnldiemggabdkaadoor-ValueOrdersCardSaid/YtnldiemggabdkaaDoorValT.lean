/-
  Layer 4: the comparison of pairs; sorting two.
-/
import Derived.Test.YtnldiemggabdkaaDoorValK
import Derived.Test.YtnldiemggabdkaaDoorShelf
import Derived.BigRegion
import Derived.Laws.EntriesVeiled
import Derived.Deep.WholeRow
import Derived.Deep.RegionHeld3
import Derived.Deep.CutBlock
import Derived.Deep.DeepCutAuto
namespace Go.Proofs.YtnldiemggabdkaaDoor
open Go.RowKit
set_option linter.unusedVariables false

theorem vnan_any (s : ByteArray) (w : World) : Calls Tryd.prog 63 #[.string s] w fun e w' => e = .returned (.bool false) ∧ w' = w := by
  have hb2 : (s.toList != s.toList) = false := by simp
  go_enter Tryd.func63, Tryd.ntmps63
  go_wp2
  go_ret
  exact ⟨rfl, rfl⟩
theorem vtri : ∀ x y : List UInt8, Op.bytesLess x y = false → Op.bytesLess y x = false → x = y
  | [], [], _, _ => rfl
  | [], _ :: _, h, _ => by cases h
  | _ :: _, [], _, h => by cases h
  | a :: x, b :: y, h, g => by
    rw [less_cons] at h g
    by_cases h1 : a.toNat < b.toNat
    · rw [if_pos h1] at h; cases h
    · rw [if_neg h1] at h
      by_cases h2 : b.toNat < a.toNat
      · rw [if_pos h2] at g; cases g
      · have e : a.toNat = b.toNat := by omega
        rw [if_neg h2, if_pos e.symm] at g
        rw [if_pos e] at h
        rw [vtri x y h g, UInt8.toNat_inj.1 e]
def vcmp (x y : ByteArray) : Int := if vless x y = true then -1 else if vless y x = true then 1 else 0
set_option maxRecDepth 20000 in
theorem vcompare_any (x y : ByteArray) (w : World) : Calls Tryd.prog 50 #[.string x, .string y] w fun e w' => e = .returned (.int .i64 (vcmp x y)) ∧ w' = w := by
  unfold vcmp vless
  cases h1 : Op.bytesLess x.toList y.toList
  · cases h2 : Op.bytesLess y.toList x.toList
    · have he : (x.toList == y.toList) = true := by rw [beq_iff_eq]; exact vtri _ _ h1 h2
      go_enter Tryd.func50, Tryd.ntmps50
      go_wp2_with fail
      refine (vnan_any _ _).mono ?_
      rintro e w1 ⟨rfl, rfl⟩
      go_wp2_with fail
      refine (vnan_any _ _).mono ?_
      rintro e w1 ⟨rfl, rfl⟩
      go_wp2
      go_ret
      exact ⟨rfl, rfl⟩
    · have he : (x.toList == y.toList) = false := by rw [beq_eq_false_iff_ne]; intro e; rw [e, less_same] at h2; cases h2
      go_enter Tryd.func50, Tryd.ntmps50
      go_wp2_with fail
      refine (vnan_any _ _).mono ?_
      rintro e w1 ⟨rfl, rfl⟩
      go_wp2_with fail
      refine (vnan_any _ _).mono ?_
      rintro e w1 ⟨rfl, rfl⟩
      go_wp2
      go_ret
      exact ⟨rfl, rfl⟩
  · go_enter Tryd.func50, Tryd.ntmps50
    go_wp2_with fail
    refine (vnan_any _ _).mono ?_
    rintro e w1 ⟨rfl, rfl⟩
    go_wp2_with fail
    refine (vnan_any _ _).mono ?_
    rintro e w1 ⟨rfl, rfl⟩
    go_wp2
    go_ret
    exact ⟨rfl, rfl⟩
set_option maxRecDepth 20000 in
theorem vpcmp_any (x y : ByteArray) (a1 a2 a3 a4 a5 b1 b2 b3 b4 b5 : Value) (w : World) :
    Calls Tryd.prog 49 #[.agg #[.string x, a1, a2, a3, a4, a5], .agg #[.string y, b1, b2, b3, b4, b5]] w fun e w' => e = .returned (.int .i64 (vcmp x y)) ∧ Below w.heap.size w w' := by
  have hb := bel_alloc (bel_alloc (Below.refl w.heap.size w) (.cells #[.string x, a1, a2, a3, a4, a5] 48)) (.cells #[.string y, b1, b2, b3, b4, b5] 48)
  have hc := fun W => vcompare_any x y W
  generalize vcmp x y = z at *
  go_enter Tryd.func49, Tryd.ntmps49
  go_wp2_with fail
  refine (hc _).mono ?_
  rintro e w1 ⟨rfl, rfl⟩
  go_wp2
  go_ret
  exact ⟨rfl, hb⟩

/-- Twelve cells of a row of one's own: two pairs. -/
structure VTwelve (w : World) (g : Nat) (a0 a1 a2 a3 a4 a5 b0 b1 b2 b3 b4 b5 : Value) : Prop where
  c : w.cell? ⟨g, 0, none⟩ = some a0 ∧ w.cell? ⟨g, 1, none⟩ = some a1 ∧ w.cell? ⟨g, 2, none⟩ = some a2 ∧ w.cell? ⟨g, 3, none⟩ = some a3 ∧ w.cell? ⟨g, 4, none⟩ = some a4 ∧ w.cell? ⟨g, 5, none⟩ = some a5 ∧
    w.cell? ⟨g, 6, none⟩ = some b0 ∧ w.cell? ⟨g, 7, none⟩ = some b1 ∧ w.cell? ⟨g, 8, none⟩ = some b2 ∧ w.cell? ⟨g, 9, none⟩ = some b3 ∧ w.cell? ⟨g, 10, none⟩ = some b4 ∧ w.cell? ⟨g, 11, none⟩ = some b5
  f : ∀ i, w.frozen? ⟨g, i, none⟩ = false
theorem VTwelve.later {w w1 : World} {g : Nat} {a0 a1 a2 a3 a4 a5 b0 b1 b2 b3 b4 b5 : Value} (h : VTwelve w g a0 a1 a2 a3 a4 a5 b0 b1 b2 b3 b4 b5) (hb : Below w.heap.size w w1) : VTwelve w1 g a0 a1 a2 a3 a4 a5 b0 b1 b2 b3 b4 b5 := by
  obtain ⟨⟨r0, r1, r2, r3, r4, r5, r6, r7, r8, r9, r10, r11⟩, hf⟩ := h
  have l := World.block_lt_of_cell? w _ r0
  exact ⟨⟨kept_later hb r0, kept_later hb r1, kept_later hb r2, kept_later hb r3, kept_later hb r4, kept_later hb r5, kept_later hb r6, kept_later hb r7, kept_later hb r8, kept_later hb r9, kept_later hb r10, kept_later hb r11⟩, fun i => (hb.frozen (p := ⟨g, i, none⟩) l).trans (hf i)⟩
theorem VTwelve.swap {w : World} {g : Nat} {x : ByteArray} {ak an : Int} {at' : ByteArray} {acA : Option Addr} {acn acc : Nat} {akA : Option Addr} {akn akc : Nat} {y : ByteArray} {bk bn : Int} {bt' : ByteArray} {bcA : Option Addr} {bcn bcc : Nat} {bkA : Option Addr} {bkn bkc : Nat} (h : VTwelve w g (.string x) (.int .i64 ak) (.int .i64 an) (.string at') (.slice acA acn acc) (.slice akA akn akc) (.string y) (.int .i64 bk) (.int .i64 bn) (.string bt') (.slice bcA bcn bcc) (.slice bkA bkn bkc)) :
    VTwelve ((((((((((((w.setCell ⟨g, 6, none⟩ (.string x)).setCell ⟨g, 7, none⟩ (.int .i64 ak)).setCell ⟨g, 8, none⟩ (.int .i64 an)).setCell ⟨g, 9, none⟩ (.string at')).setCell ⟨g, 10, none⟩ (.slice acA acn acc)).setCell ⟨g, 11, none⟩ (.slice akA akn akc)).setCell ⟨g, 0, none⟩ (.string y)).setCell ⟨g, 1, none⟩ (.int .i64 bk)).setCell ⟨g, 2, none⟩ (.int .i64 bn)).setCell ⟨g, 3, none⟩ (.string bt')).setCell ⟨g, 4, none⟩ (.slice bcA bcn bcc)).setCell ⟨g, 5, none⟩ (.slice bkA bkn bkc)).drew g (.string y) (.int .i64 bk) (.int .i64 bn) (.string bt') (.slice bcA bcn bcc) (.slice bkA bkn bkc) (.string x) (.int .i64 ak) (.int .i64 an) (.string at') (.slice acA acn acc) (.slice akA akn akc) := by
  obtain ⟨⟨r0, r1, r2, r3, r4, r5, r6, r7, r8, r9, r10, r11⟩, hf⟩ := h
  refine VTwelve.later ⟨⟨?_, ?_, ?_, ?_, ?_, ?_, ?_, ?_, ?_, ?_, ?_, ?_⟩, ?_⟩ (below_drewN (Below.refl _ _) 1)
  all_goals first | (intro i; simp [go_sem, hf]; done) | (simp [go_sem, *]; done)
theorem VTwelve.swap_below {w : World} {g n : Nat} (hn : n ≤ g) (x : ByteArray) (ak an : Int) (at' : ByteArray) (acA : Option Addr) (acn acc : Nat) (akA : Option Addr) (akn akc : Nat) (y : ByteArray) (bk bn : Int) (bt' : ByteArray) (bcA : Option Addr) (bcn bcc : Nat) (bkA : Option Addr) (bkn bkc : Nat) : Below n w ((((((((((((w.setCell ⟨g, 6, none⟩ (.string x)).setCell ⟨g, 7, none⟩ (.int .i64 ak)).setCell ⟨g, 8, none⟩ (.int .i64 an)).setCell ⟨g, 9, none⟩ (.string at')).setCell ⟨g, 10, none⟩ (.slice acA acn acc)).setCell ⟨g, 11, none⟩ (.slice akA akn akc)).setCell ⟨g, 0, none⟩ (.string y)).setCell ⟨g, 1, none⟩ (.int .i64 bk)).setCell ⟨g, 2, none⟩ (.int .i64 bn)).setCell ⟨g, 3, none⟩ (.string bt')).setCell ⟨g, 4, none⟩ (.slice bcA bcn bcc)).setCell ⟨g, 5, none⟩ (.slice bkA bkn bkc)).drew :=
  below_drewN (((((((((((((Below.refl n w).setCell hn (.string x)).setCell hn (.int .i64 ak)).setCell hn (.int .i64 an)).setCell hn (.string at')).setCell hn (.slice acA acn acc)).setCell hn (.slice akA akn akc)).setCell hn (.string y)).setCell hn (.int .i64 bk)).setCell hn (.int .i64 bn)).setCell hn (.string bt')).setCell hn (.slice bcA bcn bcc)).setCell hn (.slice bkA bkn bkc)) 1
set_option maxRecDepth 20000 in
set_option maxHeartbeats 1000000 in
/-- Two pairs in the wrong order. -/
theorem sort2_swap (g c : Nat) (x : ByteArray) (ak an : Int) (at' : ByteArray) (acA : Option Addr) (acn acc : Nat) (akA : Option Addr) (akn akc : Nat) (y : ByteArray) (bk bn : Int) (bt' : ByteArray) (bcA : Option Addr) (bcn bcc : Nat) (bkA : Option Addr) (bkn bkc : Nat) (w : World) (h : VTwelve w g (.string x) (.int .i64 ak) (.int .i64 an) (.string at') (.slice acA acn acc) (.slice akA akn akc) (.string y) (.int .i64 bk) (.int .i64 bn) (.string bt') (.slice bcA bcn bcc) (.slice bkA bkn bkc)) (hlt : vless y x = true) :
    Calls Tryd.prog 74 #[.slice (some ⟨g, 0, none⟩) 2 c, .int .i64 0, .int .i64 2, .func (.func 49) #[] #[]] w fun e w' => e = .returned (.tuple #[]) ∧ VTwelve w' g (.string y) (.int .i64 bk) (.int .i64 bn) (.string bt') (.slice bcA bcn bcc) (.slice bkA bkn bkc) (.string x) (.int .i64 ak) (.int .i64 an) (.string at') (.slice acA acn acc) (.slice akA akn akc) ∧ Below (min g w.heap.size) w w' := by
  have H := Lib.hid h
  have hz : vcmp y x = -1 := by unfold vcmp; rw [if_pos hlt]
  have hc := fun W => vpcmp_any y x (.int .i64 bk) (.int .i64 bn) (.string bt') (.slice bcA bcn bcc) (.slice bkA bkn bkc) (.int .i64 ak) (.int .i64 an) (.string at') (.slice acA acn acc) (.slice akA akn akc) W
  rw [hz] at hc
  have hgl := World.block_lt_of_cell? w _ h.c.1
  clear h hlt hz
  go_enter Tryd.func74, Tryd.ntmps74
  go_wp2
  go_loopw [8] (fun i wr => (i = .int .i64 1 ∧ wr = w) ∨ (i = .int .i64 2 ∧ VTwelve wr g (.string y) (.int .i64 bk) (.int .i64 bn) (.string bt') (.slice bcA bcn bcc) (.slice bkA bkn bkc) (.string x) (.int .i64 ak) (.int .i64 an) (.string at') (.slice acA acn acc) (.slice akA akn akc) ∧ Below (min g w.heap.size) w wr)) (fun i _ => 5 - (intOf i).toNat)
  case atStart => exact .inl ⟨rfl, rfl⟩
  case round =>
    rcases hrel with ⟨rfl, hwr⟩ | ⟨rfl, h1, h3⟩
    · have hwr := hwr.symm
      subst hwr
      go_wp2
      go_loopw [9] (fun j wr => (j = .int .i64 1 ∧ wr = w) ∨ (j = .int .i64 0 ∧ VTwelve wr g (.string y) (.int .i64 bk) (.int .i64 bn) (.string bt') (.slice bcA bcn bcc) (.slice bkA bkn bkc) (.string x) (.int .i64 ak) (.int .i64 an) (.string at') (.slice acA acn acc) (.slice akA akn akc) ∧ Below (min g w.heap.size) w wr)) (fun j _ => (intOf j).toNat)
      case atStart => exact .inl ⟨rfl, rfl⟩
      case round =>
        rcases hrel with ⟨rfl, hwr⟩ | ⟨rfl, h1, h3⟩
        · have hwr := hwr.symm
          subst hwr
          have p0 : ∀ W, Below w.heap.size w W → W.cell? ⟨g, 0, none⟩ = some (.string x) := fun W h => (H.out.later h).c.1
          have p1 : ∀ W, Below w.heap.size w W → W.cell? ⟨g, 1, none⟩ = some (.int .i64 ak) := fun W h => (H.out.later h).c.2.1
          have p2 : ∀ W, Below w.heap.size w W → W.cell? ⟨g, 2, none⟩ = some (.int .i64 an) := fun W h => (H.out.later h).c.2.2.1
          have p3 : ∀ W, Below w.heap.size w W → W.cell? ⟨g, 3, none⟩ = some (.string at') := fun W h => (H.out.later h).c.2.2.2.1
          have p4 : ∀ W, Below w.heap.size w W → W.cell? ⟨g, 4, none⟩ = some (.slice acA acn acc) := fun W h => (H.out.later h).c.2.2.2.2.1
          have p5 : ∀ W, Below w.heap.size w W → W.cell? ⟨g, 5, none⟩ = some (.slice akA akn akc) := fun W h => (H.out.later h).c.2.2.2.2.2.1
          have q0 : ∀ W, Below w.heap.size w W → W.cell? ⟨g, 6, none⟩ = some (.string y) := fun W h => (H.out.later h).c.2.2.2.2.2.2.1
          have q1 : ∀ W, Below w.heap.size w W → W.cell? ⟨g, 7, none⟩ = some (.int .i64 bk) := fun W h => (H.out.later h).c.2.2.2.2.2.2.2.1
          have q2 : ∀ W, Below w.heap.size w W → W.cell? ⟨g, 8, none⟩ = some (.int .i64 bn) := fun W h => (H.out.later h).c.2.2.2.2.2.2.2.2.1
          have q3 : ∀ W, Below w.heap.size w W → W.cell? ⟨g, 9, none⟩ = some (.string bt') := fun W h => (H.out.later h).c.2.2.2.2.2.2.2.2.2.1
          have q4 : ∀ W, Below w.heap.size w W → W.cell? ⟨g, 10, none⟩ = some (.slice bcA bcn bcc) := fun W h => (H.out.later h).c.2.2.2.2.2.2.2.2.2.2.1
          have q5 : ∀ W, Below w.heap.size w W → W.cell? ⟨g, 11, none⟩ = some (.slice bkA bkn bkc) := fun W h => (H.out.later h).c.2.2.2.2.2.2.2.2.2.2.2
          have hS0 : Below w.heap.size w w.drew := below_drewN (Below.refl _ _) 1
          have hw0 : IntKind.i64.wrap ((1 : Int) - 1) = 0 := by decide
          have hw1 : IntKind.i64.wrap (0 : Int) = 0 := by decide
          have hw2 : RowKit.wrap64 ((1 : Int) - 1) = 0 := by unfold RowKit.wrap64; omega
          have hw3 : RowKit.wrap64 (0 : Int) = 0 := by unfold RowKit.wrap64; omega
          go_upto_region 4 with fail
          go_region_held3 (fun W => Below w.heap.size w W) (first | (with_reducible assumption) | exact Below.drew (by with_reducible assumption))
            ((go_at_call 49; (with_reducible refine (hc _).mono ?_); (rintro e wA ⟨rfl, hbA⟩); (have hSA := S_call hbA (by first | (with_reducible assumption) | exact Below.drew (by with_reducible assumption)) rfl)))
          all_goals
            have hT := H.out.later (by with_reducible assumption)
            have hT' := Lib.hid hT
            obtain ⟨⟨p0, p1, p2, p3, p4, p5, q0, q1, q2, q3, q4, q5⟩, hf⟩ := hT
            have f0 := hf 0
            have f1 := hf 1
            have f2 := hf 2
            have f3 := hf 3
            have f4 := hf 4
            have f5 := hf 5
            have f6 := hf 6
            have f7 := hf 7
            have f8 := hf 8
            have f9 := hf 9
            have f10 := hf 10
            have f11 := hf 11
            go_upto_region 6 with fail
            go_region
            all_goals
              go_wp2
              exact ⟨.inr ⟨rfl, hT'.out.swap, (hSA.mono (Nat.min_le_right _ _)).trans ((VTwelve.swap_below (Nat.min_le_left g w.heap.size) x ak an at' acA acn acc akA akn akc y bk bn bt' bcA bcn bcc bkA bkn bkc))⟩, by simp [intOf]⟩
        · have hS0 : Below wr.heap.size wr wr.drew := below_drewN (Below.refl _ _) 1
          have h1' := Lib.hid (h1.later hS0)
          have h3' := Lib.hid (h3.trans (hS0.mono (Nat.le_trans (Nat.min_le_right _ _) h3.size)))
          go_upto_region 4 with fail
          go_region
          all_goals
            go_wp2
            exact ⟨.inr ⟨rfl, h1'.out, h3'.out⟩, by simp [intOf]⟩
    · go_wp2
      refine bodyPost_end (results_none rfl _ _ _) rfl ?_
      exact ⟨rfl, h1, h3⟩
end Go.Proofs.YtnldiemggabdkaaDoor
