import Derived.Test.YtnldiemggabdkaaDoorGae
import Derived.Test.YtnldiemggabdkaaDoorShelf
import Derived.BigRegion
import Derived.Laws.EntriesVeiled
import Derived.Deep.WholeRow
import Derived.Deep.RegionHeld3
import Derived.Deep.CutBlock
import Derived.Deep.DeepCutAuto
import Derived.Lib.OwnKind
import Derived.Lib.BufferWrite
import Derived.Test.YtnldiemggabdkaaDoorGab
import Derived.Test.YtnldiemggabdkaaDoorGac
import Derived.Test.YtnldiemggabdkaaDoorGaa
/-
  Layer 4: the comparison of pairs; sorting two.
-/
namespace Go.Proofs.YtnldiemggabdkaaDoor
open Go.RowKit
set_option linter.unusedVariables false

theorem vnan_any (s : ByteArray) (w : World) : Calls Tryd.prog 63 #[.string s] w fun e w' => e = .returned (.bool false) ∧ w' = w := by
  have hb2 : (s.toList != s.toList) = false := by simp
  go_enter Tryd.func63, Tryd.ntmps63
  go_wp2
  go_ret
  exact ⟨rfl, rfl⟩
theorem vtri : ∀ x y : List UInt8, Op.bytesLess x y = false → Op.bytesLess y x = false → x = y
  | [], [], _, _ => rfl
  | [], _ :: _, h, _ => by cases h
  | _ :: _, [], _, h => by cases h
  | a :: x, b :: y, h, g => by
    rw [less_cons] at h g
    by_cases h1 : a.toNat < b.toNat
    · rw [if_pos h1] at h; cases h
    · rw [if_neg h1] at h
      by_cases h2 : b.toNat < a.toNat
      · rw [if_pos h2] at g; cases g
      · have e : a.toNat = b.toNat := by omega
        rw [if_neg h2, if_pos e.symm] at g
        rw [if_pos e] at h
        rw [vtri x y h g, UInt8.toNat_inj.1 e]
def vcmp (x y : ByteArray) : Int := if vless x y = true then -1 else if vless y x = true then 1 else 0
set_option maxRecDepth 20000 in
theorem vcompare_any (x y : ByteArray) (w : World) : Calls Tryd.prog 50 #[.string x, .string y] w fun e w' => e = .returned (.int .i64 (vcmp x y)) ∧ w' = w := by
  unfold vcmp vless
  cases h1 : Op.bytesLess x.toList y.toList
  · cases h2 : Op.bytesLess y.toList x.toList
    · have he : (x.toList == y.toList) = true := by rw [beq_iff_eq]; exact vtri _ _ h1 h2
      go_enter Tryd.func50, Tryd.ntmps50
      go_wp2_with fail
      refine (vnan_any _ _).mono ?_
      rintro e w1 ⟨rfl, rfl⟩
      go_wp2_with fail
      refine (vnan_any _ _).mono ?_
      rintro e w1 ⟨rfl, rfl⟩
      go_wp2
      go_ret
      exact ⟨rfl, rfl⟩
    · have he : (x.toList == y.toList) = false := by rw [beq_eq_false_iff_ne]; intro e; rw [e, less_same] at h2; cases h2
      go_enter Tryd.func50, Tryd.ntmps50
      go_wp2_with fail
      refine (vnan_any _ _).mono ?_
      rintro e w1 ⟨rfl, rfl⟩
      go_wp2_with fail
      refine (vnan_any _ _).mono ?_
      rintro e w1 ⟨rfl, rfl⟩
      go_wp2
      go_ret
      exact ⟨rfl, rfl⟩
  · go_enter Tryd.func50, Tryd.ntmps50
    go_wp2_with fail
    refine (vnan_any _ _).mono ?_
    rintro e w1 ⟨rfl, rfl⟩
    go_wp2_with fail
    refine (vnan_any _ _).mono ?_
    rintro e w1 ⟨rfl, rfl⟩
    go_wp2
    go_ret
    exact ⟨rfl, rfl⟩
set_option maxRecDepth 20000 in
theorem vpcmp_any (x y : ByteArray) (a1 a2 a3 a4 a5 b1 b2 b3 b4 b5 : Value) (w : World) :
    Calls Tryd.prog 49 #[.agg #[.string x, a1, a2, a3, a4, a5], .agg #[.string y, b1, b2, b3, b4, b5]] w fun e w' => e = .returned (.int .i64 (vcmp x y)) ∧ Below w.heap.size w w' := by
  have hb := bel_alloc (bel_alloc (Below.refl w.heap.size w) (.cells #[.string x, a1, a2, a3, a4, a5] 48)) (.cells #[.string y, b1, b2, b3, b4, b5] 48)
  have hc := fun W => vcompare_any x y W
  generalize vcmp x y = z at *
  go_enter Tryd.func49, Tryd.ntmps49
  go_wp2_with fail
  refine (hc _).mono ?_
  rintro e w1 ⟨rfl, rfl⟩
  go_wp2
  go_ret
  exact ⟨rfl, hb⟩

/-- Twelve cells of a row of one's own: two pairs. -/
structure VTwelve (w : World) (g : Nat) (a0 a1 a2 a3 a4 a5 b0 b1 b2 b3 b4 b5 : Value) : Prop where
  c : w.cell? ⟨g, 0, none⟩ = some a0 ∧ w.cell? ⟨g, 1, none⟩ = some a1 ∧ w.cell? ⟨g, 2, none⟩ = some a2 ∧ w.cell? ⟨g, 3, none⟩ = some a3 ∧ w.cell? ⟨g, 4, none⟩ = some a4 ∧ w.cell? ⟨g, 5, none⟩ = some a5 ∧
    w.cell? ⟨g, 6, none⟩ = some b0 ∧ w.cell? ⟨g, 7, none⟩ = some b1 ∧ w.cell? ⟨g, 8, none⟩ = some b2 ∧ w.cell? ⟨g, 9, none⟩ = some b3 ∧ w.cell? ⟨g, 10, none⟩ = some b4 ∧ w.cell? ⟨g, 11, none⟩ = some b5
  f : ∀ i, w.frozen? ⟨g, i, none⟩ = false
theorem VTwelve.later {w w1 : World} {g : Nat} {a0 a1 a2 a3 a4 a5 b0 b1 b2 b3 b4 b5 : Value} (h : VTwelve w g a0 a1 a2 a3 a4 a5 b0 b1 b2 b3 b4 b5) (hb : Below w.heap.size w w1) : VTwelve w1 g a0 a1 a2 a3 a4 a5 b0 b1 b2 b3 b4 b5 := by
  obtain ⟨⟨r0, r1, r2, r3, r4, r5, r6, r7, r8, r9, r10, r11⟩, hf⟩ := h
  have l := World.block_lt_of_cell? w _ r0
  exact ⟨⟨kept_later hb r0, kept_later hb r1, kept_later hb r2, kept_later hb r3, kept_later hb r4, kept_later hb r5, kept_later hb r6, kept_later hb r7, kept_later hb r8, kept_later hb r9, kept_later hb r10, kept_later hb r11⟩, fun i => (hb.frozen (p := ⟨g, i, none⟩) l).trans (hf i)⟩
theorem VTwelve.swap {w : World} {g : Nat} {x : ByteArray} {ak an : Int} {at' : ByteArray} {acA : Option Addr} {acn acc : Nat} {akA : Option Addr} {akn akc : Nat} {y : ByteArray} {bk bn : Int} {bt' : ByteArray} {bcA : Option Addr} {bcn bcc : Nat} {bkA : Option Addr} {bkn bkc : Nat} (h : VTwelve w g (.string x) (.int .i64 ak) (.int .i64 an) (.string at') (.slice acA acn acc) (.slice akA akn akc) (.string y) (.int .i64 bk) (.int .i64 bn) (.string bt') (.slice bcA bcn bcc) (.slice bkA bkn bkc)) :
    VTwelve ((((((((((((w.setCell ⟨g, 6, none⟩ (.string x)).setCell ⟨g, 7, none⟩ (.int .i64 ak)).setCell ⟨g, 8, none⟩ (.int .i64 an)).setCell ⟨g, 9, none⟩ (.string at')).setCell ⟨g, 10, none⟩ (.slice acA acn acc)).setCell ⟨g, 11, none⟩ (.slice akA akn akc)).setCell ⟨g, 0, none⟩ (.string y)).setCell ⟨g, 1, none⟩ (.int .i64 bk)).setCell ⟨g, 2, none⟩ (.int .i64 bn)).setCell ⟨g, 3, none⟩ (.string bt')).setCell ⟨g, 4, none⟩ (.slice bcA bcn bcc)).setCell ⟨g, 5, none⟩ (.slice bkA bkn bkc)).drew g (.string y) (.int .i64 bk) (.int .i64 bn) (.string bt') (.slice bcA bcn bcc) (.slice bkA bkn bkc) (.string x) (.int .i64 ak) (.int .i64 an) (.string at') (.slice acA acn acc) (.slice akA akn akc) := by
  obtain ⟨⟨r0, r1, r2, r3, r4, r5, r6, r7, r8, r9, r10, r11⟩, hf⟩ := h
  refine VTwelve.later ⟨⟨?_, ?_, ?_, ?_, ?_, ?_, ?_, ?_, ?_, ?_, ?_, ?_⟩, ?_⟩ (below_drewN (Below.refl _ _) 1)
  all_goals first | (intro i; simp [go_sem, hf]; done) | (simp [go_sem, *]; done)
theorem VTwelve.swap_below {w : World} {g n : Nat} (hn : n ≤ g) (x : ByteArray) (ak an : Int) (at' : ByteArray) (acA : Option Addr) (acn acc : Nat) (akA : Option Addr) (akn akc : Nat) (y : ByteArray) (bk bn : Int) (bt' : ByteArray) (bcA : Option Addr) (bcn bcc : Nat) (bkA : Option Addr) (bkn bkc : Nat) : Below n w ((((((((((((w.setCell ⟨g, 6, none⟩ (.string x)).setCell ⟨g, 7, none⟩ (.int .i64 ak)).setCell ⟨g, 8, none⟩ (.int .i64 an)).setCell ⟨g, 9, none⟩ (.string at')).setCell ⟨g, 10, none⟩ (.slice acA acn acc)).setCell ⟨g, 11, none⟩ (.slice akA akn akc)).setCell ⟨g, 0, none⟩ (.string y)).setCell ⟨g, 1, none⟩ (.int .i64 bk)).setCell ⟨g, 2, none⟩ (.int .i64 bn)).setCell ⟨g, 3, none⟩ (.string bt')).setCell ⟨g, 4, none⟩ (.slice bcA bcn bcc)).setCell ⟨g, 5, none⟩ (.slice bkA bkn bkc)).drew :=
  below_drewN (((((((((((((Below.refl n w).setCell hn (.string x)).setCell hn (.int .i64 ak)).setCell hn (.int .i64 an)).setCell hn (.string at')).setCell hn (.slice acA acn acc)).setCell hn (.slice akA akn akc)).setCell hn (.string y)).setCell hn (.int .i64 bk)).setCell hn (.int .i64 bn)).setCell hn (.string bt')).setCell hn (.slice bcA bcn bcc)).setCell hn (.slice bkA bkn bkc)) 1
set_option maxRecDepth 20000 in
set_option maxHeartbeats 1000000 in
/-- Two pairs in the wrong order. -/
theorem sort2_swap (g c : Nat) (x : ByteArray) (ak an : Int) (at' : ByteArray) (acA : Option Addr) (acn acc : Nat) (akA : Option Addr) (akn akc : Nat) (y : ByteArray) (bk bn : Int) (bt' : ByteArray) (bcA : Option Addr) (bcn bcc : Nat) (bkA : Option Addr) (bkn bkc : Nat) (w : World) (h : VTwelve w g (.string x) (.int .i64 ak) (.int .i64 an) (.string at') (.slice acA acn acc) (.slice akA akn akc) (.string y) (.int .i64 bk) (.int .i64 bn) (.string bt') (.slice bcA bcn bcc) (.slice bkA bkn bkc)) (hlt : vless y x = true) :
    Calls Tryd.prog 74 #[.slice (some ⟨g, 0, none⟩) 2 c, .int .i64 0, .int .i64 2, .func (.func 49) #[] #[]] w fun e w' => e = .returned (.tuple #[]) ∧ VTwelve w' g (.string y) (.int .i64 bk) (.int .i64 bn) (.string bt') (.slice bcA bcn bcc) (.slice bkA bkn bkc) (.string x) (.int .i64 ak) (.int .i64 an) (.string at') (.slice acA acn acc) (.slice akA akn akc) ∧ Below (min g w.heap.size) w w' := by
  have H := Lib.hid h
  have hz : vcmp y x = -1 := by unfold vcmp; rw [if_pos hlt]
  have hc := fun W => vpcmp_any y x (.int .i64 bk) (.int .i64 bn) (.string bt') (.slice bcA bcn bcc) (.slice bkA bkn bkc) (.int .i64 ak) (.int .i64 an) (.string at') (.slice acA acn acc) (.slice akA akn akc) W
  rw [hz] at hc
  have hgl := World.block_lt_of_cell? w _ h.c.1
  clear h hlt hz
  go_enter Tryd.func74, Tryd.ntmps74
  go_wp2
  go_loopw [8] (fun i wr => (i = .int .i64 1 ∧ wr = w) ∨ (i = .int .i64 2 ∧ VTwelve wr g (.string y) (.int .i64 bk) (.int .i64 bn) (.string bt') (.slice bcA bcn bcc) (.slice bkA bkn bkc) (.string x) (.int .i64 ak) (.int .i64 an) (.string at') (.slice acA acn acc) (.slice akA akn akc) ∧ Below (min g w.heap.size) w wr)) (fun i _ => 5 - (intOf i).toNat)
  case atStart => exact .inl ⟨rfl, rfl⟩
  case round =>
    rcases hrel with ⟨rfl, hwr⟩ | ⟨rfl, h1, h3⟩
    · have hwr := hwr.symm
      subst hwr
      go_wp2
      go_loopw [9] (fun j wr => (j = .int .i64 1 ∧ wr = w) ∨ (j = .int .i64 0 ∧ VTwelve wr g (.string y) (.int .i64 bk) (.int .i64 bn) (.string bt') (.slice bcA bcn bcc) (.slice bkA bkn bkc) (.string x) (.int .i64 ak) (.int .i64 an) (.string at') (.slice acA acn acc) (.slice akA akn akc) ∧ Below (min g w.heap.size) w wr)) (fun j _ => (intOf j).toNat)
      case atStart => exact .inl ⟨rfl, rfl⟩
      case round =>
        rcases hrel with ⟨rfl, hwr⟩ | ⟨rfl, h1, h3⟩
        · have hwr := hwr.symm
          subst hwr
          have p0 : ∀ W, Below w.heap.size w W → W.cell? ⟨g, 0, none⟩ = some (.string x) := fun W h => (H.out.later h).c.1
          have p1 : ∀ W, Below w.heap.size w W → W.cell? ⟨g, 1, none⟩ = some (.int .i64 ak) := fun W h => (H.out.later h).c.2.1
          have p2 : ∀ W, Below w.heap.size w W → W.cell? ⟨g, 2, none⟩ = some (.int .i64 an) := fun W h => (H.out.later h).c.2.2.1
          have p3 : ∀ W, Below w.heap.size w W → W.cell? ⟨g, 3, none⟩ = some (.string at') := fun W h => (H.out.later h).c.2.2.2.1
          have p4 : ∀ W, Below w.heap.size w W → W.cell? ⟨g, 4, none⟩ = some (.slice acA acn acc) := fun W h => (H.out.later h).c.2.2.2.2.1
          have p5 : ∀ W, Below w.heap.size w W → W.cell? ⟨g, 5, none⟩ = some (.slice akA akn akc) := fun W h => (H.out.later h).c.2.2.2.2.2.1
          have q0 : ∀ W, Below w.heap.size w W → W.cell? ⟨g, 6, none⟩ = some (.string y) := fun W h => (H.out.later h).c.2.2.2.2.2.2.1
          have q1 : ∀ W, Below w.heap.size w W → W.cell? ⟨g, 7, none⟩ = some (.int .i64 bk) := fun W h => (H.out.later h).c.2.2.2.2.2.2.2.1
          have q2 : ∀ W, Below w.heap.size w W → W.cell? ⟨g, 8, none⟩ = some (.int .i64 bn) := fun W h => (H.out.later h).c.2.2.2.2.2.2.2.2.1
          have q3 : ∀ W, Below w.heap.size w W → W.cell? ⟨g, 9, none⟩ = some (.string bt') := fun W h => (H.out.later h).c.2.2.2.2.2.2.2.2.2.1
          have q4 : ∀ W, Below w.heap.size w W → W.cell? ⟨g, 10, none⟩ = some (.slice bcA bcn bcc) := fun W h => (H.out.later h).c.2.2.2.2.2.2.2.2.2.2.1
          have q5 : ∀ W, Below w.heap.size w W → W.cell? ⟨g, 11, none⟩ = some (.slice bkA bkn bkc) := fun W h => (H.out.later h).c.2.2.2.2.2.2.2.2.2.2.2
          have hS0 : Below w.heap.size w w.drew := below_drewN (Below.refl _ _) 1
          have hw0 : IntKind.i64.wrap ((1 : Int) - 1) = 0 := by decide
          have hw1 : IntKind.i64.wrap (0 : Int) = 0 := by decide
          have hw2 : RowKit.wrap64 ((1 : Int) - 1) = 0 := by unfold RowKit.wrap64; omega
          have hw3 : RowKit.wrap64 (0 : Int) = 0 := by unfold RowKit.wrap64; omega
          go_upto_region 4 with fail
          go_region_held3 (fun W => Below w.heap.size w W) (first | (with_reducible assumption) | exact Below.drew (by with_reducible assumption))
            ((go_at_call 49; (with_reducible refine (hc _).mono ?_); (rintro e wA ⟨rfl, hbA⟩); (have hSA := S_call hbA (by first | (with_reducible assumption) | exact Below.drew (by with_reducible assumption)) rfl)))
          all_goals
            have hT := H.out.later (by with_reducible assumption)
            have hT' := Lib.hid hT
            obtain ⟨⟨p0, p1, p2, p3, p4, p5, q0, q1, q2, q3, q4, q5⟩, hf⟩ := hT
            have f0 := hf 0
            have f1 := hf 1
            have f2 := hf 2
            have f3 := hf 3
            have f4 := hf 4
            have f5 := hf 5
            have f6 := hf 6
            have f7 := hf 7
            have f8 := hf 8
            have f9 := hf 9
            have f10 := hf 10
            have f11 := hf 11
            go_upto_region 6 with fail
            go_region
            all_goals
              go_wp2
              exact ⟨.inr ⟨rfl, hT'.out.swap, (hSA.mono (Nat.min_le_right _ _)).trans ((VTwelve.swap_below (Nat.min_le_left g w.heap.size) x ak an at' acA acn acc akA akn akc y bk bn bt' bcA bcn bcc bkA bkn bkc))⟩, by simp [intOf]⟩
        · have hS0 : Below wr.heap.size wr wr.drew := below_drewN (Below.refl _ _) 1
          have h1' := Lib.hid (h1.later hS0)
          have h3' := Lib.hid (h3.trans (hS0.mono (Nat.le_trans (Nat.min_le_right _ _) h3.size)))
          go_upto_region 4 with fail
          go_region
          all_goals
            go_wp2
            exact ⟨.inr ⟨rfl, h1'.out, h3'.out⟩, by simp [intOf]⟩
    · go_wp2
      refine bodyPost_end (results_none rfl _ _ _) rfl ?_
      exact ⟨rfl, h1, h3⟩
end Go.Proofs.YtnldiemggabdkaaDoor
/-
  Layer 4: sorting two pairs, as Object does.
-/
namespace Go.Proofs.YtnldiemggabdkaaDoor
open Go.RowKit
set_option linter.unusedVariables false

set_option maxRecDepth 20000 in
set_option maxHeartbeats 1000000 in
/-- Two pairs in no wrong order. -/
theorem sort2_keep (g c : Nat) (x : ByteArray) (ak an : Int) (at' : ByteArray) (acA : Option Addr) (acn acc : Nat) (akA : Option Addr) (akn akc : Nat) (y : ByteArray) (bk bn : Int) (bt' : ByteArray) (bcA : Option Addr) (bcn bcc : Nat) (bkA : Option Addr) (bkn bkc : Nat) (w : World) (h : VTwelve w g (.string x) (.int .i64 ak) (.int .i64 an) (.string at') (.slice acA acn acc) (.slice akA akn akc) (.string y) (.int .i64 bk) (.int .i64 bn) (.string bt') (.slice bcA bcn bcc) (.slice bkA bkn bkc)) (hlt : vless y x = false) :
    Calls Tryd.prog 74 #[.slice (some ⟨g, 0, none⟩) 2 c, .int .i64 0, .int .i64 2, .func (.func 49) #[] #[]] w fun e w' => e = .returned (.tuple #[]) ∧ Below w.heap.size w w' := by
  have H := Lib.hid h
  obtain ⟨z, hz0, hz⟩ : ∃ z : Nat, vcmp y x = (z : Int) ∧ z ≤ 1 := by
    unfold vcmp; rw [hlt, if_neg (by decide)]
    split
    · exact ⟨1, rfl, Nat.le_refl _⟩
    · exact ⟨0, rfl, by omega⟩
  have hc := fun W => vpcmp_any y x (.int .i64 bk) (.int .i64 bn) (.string bt') (.slice bcA bcn bcc) (.slice bkA bkn bkc) (.int .i64 ak) (.int .i64 an) (.string at') (.slice acA acn acc) (.slice akA akn akc) W
  rw [hz0] at hc
  have hzn : ((z : Int) < 0) = False := by simp
  clear h hlt hz hz0
  go_enter Tryd.func74, Tryd.ntmps74
  go_wp2
  go_loopw [8] (fun i wr => (i = .int .i64 1 ∧ wr = w) ∨ (i = .int .i64 2 ∧ Below w.heap.size w wr)) (fun i _ => 5 - (intOf i).toNat)
  case atStart => exact .inl ⟨rfl, rfl⟩
  case round =>
    rcases hrel with ⟨rfl, hwr⟩ | ⟨rfl, h3⟩
    · have hwr := hwr.symm
      subst hwr
      go_wp2
      go_loopw [9] (fun j wr => j = .int .i64 1 ∧ wr = w) (fun j _ => (intOf j).toNat)
      case atStart => exact ⟨rfl, rfl⟩
      case round =>
          obtain ⟨rfl, hwr⟩ := hrel
          have hwr := hwr.symm
          subst hwr
          have p0 : ∀ W, Below w.heap.size w W → W.cell? ⟨g, 0, none⟩ = some (.string x) := fun W h => (H.out.later h).c.1
          have p1 : ∀ W, Below w.heap.size w W → W.cell? ⟨g, 1, none⟩ = some (.int .i64 ak) := fun W h => (H.out.later h).c.2.1
          have p2 : ∀ W, Below w.heap.size w W → W.cell? ⟨g, 2, none⟩ = some (.int .i64 an) := fun W h => (H.out.later h).c.2.2.1
          have p3 : ∀ W, Below w.heap.size w W → W.cell? ⟨g, 3, none⟩ = some (.string at') := fun W h => (H.out.later h).c.2.2.2.1
          have p4 : ∀ W, Below w.heap.size w W → W.cell? ⟨g, 4, none⟩ = some (.slice acA acn acc) := fun W h => (H.out.later h).c.2.2.2.2.1
          have p5 : ∀ W, Below w.heap.size w W → W.cell? ⟨g, 5, none⟩ = some (.slice akA akn akc) := fun W h => (H.out.later h).c.2.2.2.2.2.1
          have q0 : ∀ W, Below w.heap.size w W → W.cell? ⟨g, 6, none⟩ = some (.string y) := fun W h => (H.out.later h).c.2.2.2.2.2.2.1
          have q1 : ∀ W, Below w.heap.size w W → W.cell? ⟨g, 7, none⟩ = some (.int .i64 bk) := fun W h => (H.out.later h).c.2.2.2.2.2.2.2.1
          have q2 : ∀ W, Below w.heap.size w W → W.cell? ⟨g, 8, none⟩ = some (.int .i64 bn) := fun W h => (H.out.later h).c.2.2.2.2.2.2.2.2.1
          have q3 : ∀ W, Below w.heap.size w W → W.cell? ⟨g, 9, none⟩ = some (.string bt') := fun W h => (H.out.later h).c.2.2.2.2.2.2.2.2.2.1
          have q4 : ∀ W, Below w.heap.size w W → W.cell? ⟨g, 10, none⟩ = some (.slice bcA bcn bcc) := fun W h => (H.out.later h).c.2.2.2.2.2.2.2.2.2.2.1
          have q5 : ∀ W, Below w.heap.size w W → W.cell? ⟨g, 11, none⟩ = some (.slice bkA bkn bkc) := fun W h => (H.out.later h).c.2.2.2.2.2.2.2.2.2.2.2
          have hS0 : Below w.heap.size w w.drew := below_drewN (Below.refl _ _) 1
          have hw0 : IntKind.i64.wrap ((1 : Int) - 1) = 0 := by decide
          have hw1 : IntKind.i64.wrap (0 : Int) = 0 := by decide
          have hw2 : RowKit.wrap64 ((1 : Int) - 1) = 0 := by unfold RowKit.wrap64; omega
          have hw3 : RowKit.wrap64 (0 : Int) = 0 := by unfold RowKit.wrap64; omega
          go_upto_region 4 with fail
          go_region_held3 (fun W => Below w.heap.size w W) (first | (with_reducible assumption) | exact Below.drew (by with_reducible assumption))
            ((go_at_call 49; (with_reducible refine (hc _).mono ?_); (rintro e wA ⟨rfl, hbA⟩); (have hSA := S_call hbA (by first | (with_reducible assumption) | exact Below.drew (by with_reducible assumption)) rfl)))
          all_goals
            have hSE : Below w.heap.size w wA := by with_reducible assumption
            go_wp2
            exact ⟨.inr ⟨rfl, hSE⟩, by simp [intOf]⟩
    · go_wp2
      refine bodyPost_end (results_none rfl _ _ _) rfl ?_
      exact ⟨rfl, h3⟩

/-- Two pairs sorted. -/
def Sorts (f : Nat) (args : Nat → Nat → Array Value) : Prop := ∀ (g c : Nat) (x : ByteArray) (ak an : Int) (at' : ByteArray) (acA : Option Addr) (acn acc : Nat) (akA : Option Addr) (akn akc : Nat) (y : ByteArray) (bk bn : Int) (bt' : ByteArray) (bcA : Option Addr) (bcn bcc : Nat) (bkA : Option Addr) (bkn bkc : Nat) (w : World), VTwelve w g (.string x) (.int .i64 ak) (.int .i64 an) (.string at') (.slice acA acn acc) (.slice akA akn akc) (.string y) (.int .i64 bk) (.int .i64 bn) (.string bt') (.slice bcA bcn bcc) (.slice bkA bkn bkc) →
    Calls Tryd.prog f (args g c) w fun e w' => e = .returned (.tuple #[]) ∧ Below (min g w.heap.size) w w' ∧ Hid ((vless y x = true → VTwelve w' g (.string y) (.int .i64 bk) (.int .i64 bn) (.string bt') (.slice bcA bcn bcc) (.slice bkA bkn bkc) (.string x) (.int .i64 ak) (.int .i64 an) (.string at') (.slice acA acn acc) (.slice akA akn akc)) ∧ (vless y x = false → VTwelve w' g (.string x) (.int .i64 ak) (.int .i64 an) (.string at') (.slice acA acn acc) (.slice akA akn akc) (.string y) (.int .i64 bk) (.int .i64 bn) (.string bt') (.slice bcA bcn bcc) (.slice bkA bkn bkc)))
theorem insertion2 : Sorts 74 fun g c => #[.slice (some ⟨g, 0, none⟩) 2 c, .int .i64 0, .int .i64 2, .func (.func 49) #[] #[]] := by
  intro g c x ak an at' acA acn acc akA akn akc y bk bn bt' bcA bcn bcc bkA bkn bkc w h
  by_cases hl : vless y x = true
  · refine (sort2_swap g c x ak an at' acA acn acc akA akn akc y bk bn bt' bcA bcn bcc bkA bkn bkc w h hl).mono ?_
    rintro e w' ⟨rfl, h1, h2⟩
    exact ⟨rfl, h2, Lib.hid ⟨fun _ => h1, fun h => (by rw [hl] at h; cases h)⟩⟩
  · refine (sort2_keep g c x ak an at' acA acn acc akA akn akc y bk bn bt' bcA bcn bcc bkA bkn bkc w h (by simpa using hl)).mono ?_
    rintro e w' ⟨rfl, h1⟩
    exact ⟨rfl, h1.mono (Nat.min_le_right _ _), Lib.hid ⟨fun h => absurd h hl, fun _ => h.later h1⟩⟩
set_option maxRecDepth 20000 in
set_option maxHeartbeats 1000000 in
theorem pdq2 (lim : Int) : Sorts 61 fun g c => #[.slice (some ⟨g, 0, none⟩) 2 c, .int .i64 0, .int .i64 2, .int .i64 lim, .func (.func 49) #[] #[]] := by
  intro g c x ak an at' acA acn acc akA akn akc y bk bn bt' bcA bcn bcc bkA bkn bkc w h
  have hi := Lib.hid (insertion2 g c x ak an at' acA acn acc akA akn akc y bk bn bt' bcA bcn bcc bkA bkn bkc w h)
  clear h
  go_enter Tryd.func61, Tryd.ntmps61
  go_wp2
  go_loopw [1, 2, 3, 10, 11] (fun a b l p q wr => a = .int .i64 0 ∧ b = .int .i64 2 ∧ l = .int .i64 lim ∧ p = .bool true ∧ q = .bool true ∧ wr = w) (fun a _ _ _ _ _ => (intOf a).toNat)
  case atStart => exact ⟨rfl, rfl, rfl, rfl, rfl, rfl⟩
  case round =>
    obtain ⟨rfl, rfl, rfl, rfl, rfl, hwr⟩ := hrel
    have hwr := hwr.symm
    subst hwr
    go_wp2_with fail
    refine hi.out.mono ?_
    rintro e w1 ⟨rfl, h1, h2⟩
    go_wp2
    refine bodyPost_ret (results_none rfl _ _ _) rfl ?_
    exact ⟨rfl, h1, h2⟩
set_option maxRecDepth 20000 in
set_option maxHeartbeats 1000000 in
theorem sortFunc2 : Sorts 48 fun g c => #[.slice (some ⟨g, 0, none⟩) 2 c, .func (.func 49) #[] #[]] := by
  intro g c x ak an at' acA acn acc akA akn akc y bk bn bt' bcA bcn bcc bkA bkn bkc w h
  have hi := fun lim => Lib.hid (pdq2 lim g c x ak an at' acA acn acc akA akn akc y bk bn bt' bcA bcn bcc bkA bkn bkc w h)
  clear h
  have hc : IntKind.u64.wrap (2 : Int) = 2 := by decide
  go_enter Tryd.func48, Tryd.ntmps48
  go_wp2_with fail
  refine (Tryd.bits_Len 2 _ (by omega) (by omega)).mono ?_
  rintro e w1 ⟨rfl, rfl⟩
  go_wp2_with fail
  refine (hi _).out.mono ?_
  rintro e w1 ⟨rfl, h1, h2⟩
  go_wp2
  refine bodyPost_end (results_none rfl _ _ _) rfl ?_
  exact ⟨rfl, h1, h2⟩
end Go.Proofs.YtnldiemggabdkaaDoor
/-
  Layer 4: Object, whatever sorts its pairs.
-/
namespace Go.Proofs.YtnldiemggabdkaaDoor
open Go.RowKit
set_option linter.unusedVariables false

theorem own_ne {W : World} {b1 b2 : Nat} {e1 e2 : TypeId} {s1 s2 n1 n2 : Nat} {v1 v2 : Value} {x1 x2 : List Value} (h1 : W.ownsRow b1 e1 s1 v1 n1 x1) (h2 : W.ownsRow b2 e2 s2 v2 n2 x2) (he : e1 ≠ e2) : v1.ownBlock = none ∨ v1.ownBlock ≠ v2.ownBlock := by
  cases h : v1.ownBlock with
  | none => exact .inl rfl
  | some g =>
    refine .inr fun e => ?_
    obtain ⟨c, fz, k1⟩ := Lib.ownsRow_kind h1 g h
    obtain ⟨c', fz', k2⟩ := Lib.ownsRow_kind h2 g e.symm
    rw [k1] at k2
    injection k2 with k2
    injection k2 with _ k2
    exact he k2
theorem pflat_len (l : List PT) : (l.flatMap pCells).length = l.length * 6 := by
  induction l with
  | nil => rfl
  | cons x l ih => rw [List.flatMap_cons, List.length_append, ih, pCells_len, List.length_cons]; omega
theorem pflat_get : ∀ (l : List PT) (i j : Nat) (hi : i < l.length) (_ : j < 6), (l.flatMap pCells)[i * 6 + j]? = (pCells (l[i]'hi))[j]?
  | x :: l, 0, j, _, hj => by
    rw [List.flatMap_cons, List.getElem?_append_left (by rw [pCells_len]; omega)]
    simp
  | x :: l, i + 1, j, hi, hj => by
    have e : (i + 1) * 6 + j = (pCells x).length + (i * 6 + j) := by rw [pCells_len]; omega
    rw [List.flatMap_cons, e, List.getElem?_append_right (by omega), Nat.add_sub_cancel_left, pflat_get l i j (by simpa using hi) hj]
    simp
/-- The six cells of a pair at an address. -/
def Cell6 (w : World) (b o : Nat) (x : ByteArray) : VT → Prop
  | .mk k n s cA cn cc kA kn kc _ _ =>
    w.cell? ⟨b, o, none⟩ = some (.string x) ∧ w.cell? ⟨b, o + 1, none⟩ = some (.int .i64 k) ∧ w.cell? ⟨b, o + 2, none⟩ = some (.int .i64 n) ∧ w.cell? ⟨b, o + 3, none⟩ = some (.string s) ∧ w.cell? ⟨b, o + 4, none⟩ = some (.slice cA cn cc) ∧ w.cell? ⟨b, o + 5, none⟩ = some (.slice kA kn kc)
theorem pair_at {w : World} {B : Nat} {A : Option Addr} {n : Nat} {l : List PT} (h : Shows w B 6 A n (l.flatMap pCells)) {i : Nat} (hi : i < n) :
    ∃ b off x T, A = some ⟨b, off, none⟩ ∧ b < B ∧ l[i]? = some (x, T) ∧ Cell6 w b (off + i * 6) x T := by
  obtain ⟨b, off, rfl, hb, hc⟩ := h.2 (by omega)
  have hl : i < l.length := by have := h.1; rw [pflat_len] at this; omega
  have hg := fun j (hj : j < 6) => pflat_get l i j hl hj
  refine ⟨b, off, l[i].1, l[i].2, rfl, hb, List.getElem?_eq_getElem hl, ?_⟩
  cases hx : l[i] with
  | mk x T =>
    cases T with
    | mk k n s cA cn cc kA kn kc keys kids =>
      rw [hx] at hg
      exact ⟨hc (i * 6 + 0) _ ((hg 0 (by omega)).trans rfl), hc (i * 6 + 1) _ ((hg 1 (by omega)).trans rfl), hc (i * 6 + 2) _ ((hg 2 (by omega)).trans rfl), hc (i * 6 + 3) _ ((hg 3 (by omega)).trans rfl), hc (i * 6 + 4) _ ((hg 4 (by omega)).trans rfl), hc (i * 6 + 5) _ ((hg 5 (by omega)).trans rfl)⟩
theorem pairs_len {w : World} {B : Nat} {A : Option Addr} {n : Nat} {l : List PT} (h : Shows w B 6 A n (l.flatMap pCells)) : l.length = n := by have := h.1; rw [pflat_len] at this; omega
theorem VFive.set4 {w : World} {g : Nat} {a b c d e e' : Value} (h : VFive w g a b c d e) : VFive (w.setCell ⟨g, 4, none⟩ e') g a b c d e' := by
  obtain ⟨⟨r0, r1, r2, r3, r4⟩, f0, f1, f2, f3, f4⟩ := h
  exact ⟨⟨by simp [go_sem, *], by simp [go_sem, *], by simp [go_sem, *], by simp [go_sem, *], by simp [go_sem, *]⟩, by simp [go_sem, *], by simp [go_sem, *], by simp [go_sem, *], by simp [go_sem, *], by simp [go_sem, *]⟩
theorem VFive.set3 {w : World} {g : Nat} {a b c d e d' : Value} (h : VFive w g a b c d e) : VFive (w.setCell ⟨g, 3, none⟩ d') g a b c d' e := by
  obtain ⟨⟨r0, r1, r2, r3, r4⟩, f0, f1, f2, f3, f4⟩ := h
  exact ⟨⟨by simp [go_sem, *], by simp [go_sem, *], by simp [go_sem, *], by simp [go_sem, *], by simp [go_sem, *]⟩, by simp [go_sem, *], by simp [go_sem, *], by simp [go_sem, *], by simp [go_sem, *], by simp [go_sem, *]⟩
theorem VFive.upto {w w1 : World} {g B : Nat} {a b c d e : Value} (h : VFive w g a b c d e) (hb : Below B w w1) (hg : g < B) (hB : B ≤ w.heap.size) : VFive w1 g a b c d e := by
  refine h.keep (hb.block g hg)
/-- Object half done. -/
structure ObjJ (W : World) (rb vb : Nat) (L : List PT) (j : Nat) (kA cA : Option Addr) (kc cc : Nat) : Prop where
  v : VFive W vb (.int .i64 6) (.int .i64 0) (.string ⟨#[]⟩) (.slice cA j cc) (.slice kA j kc)
  r : VFive W rb (.int .i64 0) (.int .i64 0) (.string ⟨#[]⟩) (.slice none 0 0) (.slice none 0 0)
  ks : W.ownsRow (vb + 1) 9 1 (.slice kA j kc) j ((L.take j).map fun p => Value.string p.1)
  cs : W.ownsRow (vb + 1) 25 5 (.slice cA j cc) j ((L.take j).flatMap fun p => p.2.cells)
theorem ObjJ.later {W W' : World} {rb vb : Nat} {L : List PT} {j : Nat} {kA cA : Option Addr} {kc cc : Nat} (h : ObjJ W rb vb L j kA cA kc cc) (hb : Below W.heap.size W W') : ObjJ W' rb vb L j kA cA kc cc :=
  ⟨h.v.later hb, h.r.later hb, own_below h.ks hb, own_below h.cs hb⟩
theorem VFive.lt {w : World} {g : Nat} {a b c d e : Value} (h : VFive w g a b c d e) : g < w.heap.size := World.block_lt_of_cell? w _ h.1.1
theorem own_set {W : World} {b vb i : Nat} {e : TypeId} {s n : Nat} {v u : Value} {x : List Value} (h : W.ownsRow b e s v n x) (hv : vb < b) : (W.setCell ⟨vb, i, none⟩ u).ownsRow b e s v n x :=
  h.kept (Lib.grownBy_setCell W vb i u) (by
    cases hq : v.ownBlock with
    | none => exact .inl rfl
    | some g => exact .inr fun e => by injection e with e; have := (h.lt g hq).1; omega)
/-- Has a list of pairs two keys in a row that are one? -/
def keyAt (L : List PT) (i : Nat) : ByteArray := (L.map Prod.fst).getD i ⟨#[]⟩
def dupJ (L : List PT) (j : Nat) : Bool := decide (0 < j) && ((keyAt L (j - 1)).toList == (keyAt L j).toList)
theorem keyAt_of {L : List PT} {i : Nat} {x : ByteArray} {T : VT} (h : L[i]? = some (x, T)) : keyAt L i = x := by
  unfold keyAt
  rw [List.getD_eq_getElem?_getD, List.getElem?_map, h]; rfl
theorem shows5_new (W : World) (a b c d e : Value) (t : TypeId) (g : Nat) (hg : W.heap.size = g) : Shows (W.alloc (.cells #[a, b, c, d, e] t)) (g + 1) 5 (some ⟨g, 0, none⟩) 1 [a, b, c, d, e] := by
  subst hg
  refine ⟨rfl, fun _ => ⟨W.heap.size, 0, rfl, Nat.lt_succ_self _, fun i v hv => ?_⟩⟩
  rw [Nat.zero_add]
  exact (Box.new W #[a, b, c, d, e] t i v (by simpa using hv)).1
theorem ptake_snoc {L : List PT} {j : Nat} {p : PT} (h : L[j]? = some p) : L.take (j + 1) = L.take j ++ [p] := by
  rw [List.take_add_one, h]; rfl
section
variable {W0 wc W7 W9 : World} {rb vb : Nat} {L : List PT} {j : Nat} {kA cA A7 A9 : Option Addr} {kc cc c7 c9 : Nat} {x : ByteArray} {T : VT}
/-- The pair's own box. -/
def PBox (W : World) (pb : Nat) (x : ByteArray) (T : VT) : Prop := W.heap[pb]? = some (.cells (.mk (pCells (x, T))) 48 (0, 0))
theorem obj_one (hJ : ObjJ wc rb vb L j kA cA kc cc) (hrb : rb < vb) (hvb : vb < wc.heap.size) {pb : Nat} (hp : PBox wc pb x T) {o : Obj}
    (hg7 : (wc.alloc o).grownBy W7 (Value.slice kA j kc).ownBlock) (hb7 : Below (vb + 1) (wc.alloc o) W7) (hown7 : W7.ownsRow (vb + 1) 9 1 (.slice A7 (j + 1) c7) (j + 1) ((L.take j).map (fun p => Value.string p.1) ++ [.string x])) (u : Value) :
    VFive W7 vb (.int .i64 6) (.int .i64 0) (.string ⟨#[]⟩) (.slice cA j cc) (.slice kA j kc) ∧ VFive W7 rb (.int .i64 0) (.int .i64 0) (.string ⟨#[]⟩) (.slice none 0 0) (.slice none 0 0) ∧ PBox W7 pb x T ∧
      (W7.setCell ⟨vb, 4, none⟩ u).ownsRow (vb + 1) 9 1 (.slice A7 (j + 1) c7) (j + 1) ((L.take j).map (fun p => Value.string p.1) ++ [.string x]) ∧
      (W7.setCell ⟨vb, 4, none⟩ u).ownsRow (vb + 1) 25 5 (.slice cA j cc) j ((L.take j).flatMap fun p => p.2.cells) := by
  have hs : (wc.alloc o).heap.size = wc.heap.size + 1 := World.size_alloc _ _
  have hpl : pb < wc.heap.size := (Array.getElem?_eq_some_iff.1 hp).1
  refine ⟨(hJ.v.alloc o).upto hb7 (Nat.lt_succ_self _) (by omega), (hJ.r.alloc o).upto hb7 (by omega) (by omega), ?_, own_set hown7 (Nat.lt_succ_self _), own_set ((hJ.cs.alloc o).kept hg7 (own_ne (hJ.cs.alloc o) (hJ.ks.alloc o) (by decide))) (Nat.lt_succ_self _)⟩
  show W7.heap[pb]? = _
  have hq : (wc.alloc o).heap[pb]? = some (.cells (.mk (pCells (x, T))) 48 (0, 0)) := (Below.heap_alloc wc o pb hpl).trans hp
  rw [hg7.block pb (by omega) (fun e => by
    obtain ⟨c, fz, k⟩ := Lib.ownsRow_kind (hJ.ks.alloc o) pb e.symm
    rw [hq] at k
    injection k with k
    injection k with _ k
    exact absurd k (by decide))]
  exact hq
theorem obj_two (hv7 : VFive W7 vb (.int .i64 6) (.int .i64 0) (.string ⟨#[]⟩) (.slice cA j cc) (.slice kA j kc)) (hr7 : VFive W7 rb (.int .i64 0) (.int .i64 0) (.string ⟨#[]⟩) (.slice none 0 0) (.slice none 0 0)) (hrb : rb < vb) (hp : L[j]? = some (x, T))
    (hk : (W7.setCell ⟨vb, 4, none⟩ (.slice A7 (j + 1) c7)).ownsRow (vb + 1) 9 1 (.slice A7 (j + 1) c7) (j + 1) ((L.take j).map (fun p => Value.string p.1) ++ [.string x]))
    (hc : (W7.setCell ⟨vb, 4, none⟩ (.slice A7 (j + 1) c7)).ownsRow (vb + 1) 25 5 (.slice cA j cc) j ((L.take j).flatMap fun p => p.2.cells)) {o : Obj}
    (hg9 : ((W7.setCell ⟨vb, 4, none⟩ (.slice A7 (j + 1) c7)).alloc o).grownBy W9 (Value.slice cA j cc).ownBlock) (hb9 : Below (vb + 1) ((W7.setCell ⟨vb, 4, none⟩ (.slice A7 (j + 1) c7)).alloc o) W9)
    (hown9 : W9.ownsRow (vb + 1) 25 5 (.slice A9 (j + 1) c9) (j + 1) ((L.take j).flatMap (fun p => p.2.cells) ++ T.cells)) :
    VFive W9 vb (.int .i64 6) (.int .i64 0) (.string ⟨#[]⟩) (.slice cA j cc) (.slice A7 (j + 1) c7) ∧ ObjJ (W9.setCell ⟨vb, 3, none⟩ (.slice A9 (j + 1) c9)) rb vb L (j + 1) A7 A9 c7 c9 := by
  have hv8 := (hv7.set4 (e' := .slice A7 (j + 1) c7)).alloc o
  have hr8 := (hr7.keep (Below.heap_setCell W7 ⟨vb, 4, none⟩ (.slice A7 (j + 1) c7) rb (by show rb ≠ vb; omega))).alloc o
  have hl8 := hv8.lt
  have hv9 := hv8.upto hb9 (Nat.lt_succ_self _) (by omega)
  have hr9 := hr8.upto hb9 (by omega) (by omega)
  refine ⟨hv9, hv9.set3, hr9.keep (Below.heap_setCell W9 ⟨vb, 3, none⟩ (.slice A9 (j + 1) c9) rb (by show rb ≠ vb; omega)), ?_, ?_⟩
  · rw [ptake_snoc hp, List.map_append]
    exact own_set ((hk.alloc o).kept hg9 (own_ne (hk.alloc o) (hc.alloc o) (by decide))) (Nat.lt_succ_self _)
  · rw [ptake_snoc hp, List.flatMap_append]
    exact own_set (by simpa using hown9) (Nat.lt_succ_self _)
theorem obj_bel {B0 : Nat} {o o' : Obj} {u u' : Value} (h : Below B0 W0 wc) (hv : B0 ≤ vb) (hs : B0 ≤ wc.heap.size) (hb7 : Below (vb + 1) (wc.alloc o) W7) (hb9 : Below (vb + 1) ((W7.setCell ⟨vb, 4, none⟩ u).alloc o') W9) : Below B0 W0 (W9.setCell ⟨vb, 3, none⟩ u') := by
  have h1 := h.alloc hs o
  have h2 := h1.trans (hb7.mono (by omega))
  have h3 := h2.setCell (p := ⟨vb, 4, none⟩) hv u
  have h4 := h3.alloc (by have := hb7.size; rw [World.size_alloc] at this; rw [size_set]; omega) o'
  exact (h4.trans (hb9.mono (by omega))).setCell hv u'
end
theorem own_set5 {W : World} {b g : Nat} {e : TypeId} {s n : Nat} {v a1 a2 a3 a4 a5 : Value} {x : List Value} (h : W.ownsRow b e s v n x) (hv : g < b) : (((((W.setCell ⟨g, 0, none⟩ a1).setCell ⟨g, 1, none⟩ a2).setCell ⟨g, 2, none⟩ a3).setCell ⟨g, 3, none⟩ a4).setCell ⟨g, 4, none⟩ a5).ownsRow b e s v n x :=
  own_set (own_set (own_set (own_set (own_set h hv) hv) hv) hv) hv
theorem flat_map {L : List PT} : L.flatMap (fun p => p.2.cells) = (L.map Prod.snd).flatMap VT.cells := by rw [List.flatMap_map]
theorem obj_lie {W : World} {b b' n kc cc : Nat} {kA cA : Option Addr} {L : List PT} (hk : W.ownsRow b 9 1 (.slice kA n kc) n (L.map fun p => Value.string p.1)) (hc : W.ownsRow b' 25 5 (.slice cA n cc) n (L.flatMap fun p => p.2.cells))
    (hL : ∀ p ∈ L, Lie W W.heap.size p.2 ∧ p.1.size ≤ maxLen) : Lie W W.heap.size (.mk 6 0 ⟨#[]⟩ cA n cc kA n kc (L.map Prod.fst) (L.map Prod.snd)) := by
  have hk1 : n ≤ kc ∧ kc ≤ maxLen ∧ (kA = none → kc = 0) := by
    rcases hk.2 with ⟨h, _⟩ | ⟨g, cap, cur, h, _, _, h1, h2, _⟩
    · injection h with h1 h2 h3; subst h1 h2 h3; exact ⟨Nat.le_refl _, Nat.zero_le _, fun _ => rfl⟩
    · injection h with e1 e2 e3; subst e1 e3; exact ⟨h1, h2, fun h => by cases h⟩
  have hc1 : n ≤ cc ∧ cc ≤ maxLen ∧ (cA = none → cc = 0) := by
    rcases hc.2 with ⟨h, _⟩ | ⟨g, cap, cur, h, _, _, h1, h2, _⟩
    · injection h with h1 h2 h3; subst h1 h2 h3; exact ⟨Nat.le_refl _, Nat.zero_le _, fun _ => rfl⟩
    · injection h with e1 e2 e3; subst e1 e3; exact ⟨h1, h2, fun h => by cases h⟩
  refine .mk (by rw [← flat_map]; exact Shows.own hc) (by rw [List.map_map]; exact Shows.own hk) ⟨by decide, by decide, by decide, hc1.1, hc1.2.1, hc1.2.2, hk1.1, hk1.2.1, hk1.2.2, ?_⟩ ?_
  · intro x hx
    obtain ⟨p, hp, rfl⟩ := List.mem_map.1 hx
    exact (hL p hp).2
  · intro x hx
    obtain ⟨p, hp, rfl⟩ := List.mem_map.1 hx
    exact (hL p hp).1
set_option maxRecDepth 20000 in
set_option maxHeartbeats 4000000 in
theorem object_any (A : Option Addr) (n c : Nat) (L L' : List PT) (B : Nat) (w : World) (h : Shows w B 6 A n (L.flatMap pCells)) (hA : A = none → c = 0) (hB : B ≤ w.heap.size) (hn : n ≤ 1000) (hl : L'.length = n)
    (hL : ∀ p ∈ L', Lie w B p.2 ∧ p.1.size ≤ maxLen) (htab : UTab w) (hst : STab w)
    (hsort : ∀ A c W base, W.ownsRow base 48 6 (.slice A n c) n (L.flatMap pCells) → base ≤ W.heap.size → Calls Tryd.prog 48 #[.slice A n c, .func (.func 49) #[] #[]] W fun e w' => e = .returned (.tuple #[]) ∧ Below base W w' ∧ Hid (Shows w' w'.heap.size 6 A n (L'.flatMap pCells))) :
    Calls Tryd.prog 30 #[.slice A n c] w fun e w' => Below w.heap.size w w' ∧
      (((∃ j, j < n ∧ dupJ L' j = true) ∧ e = .returned (.tuple #[zV, .int .i64 141])) ∨
       ((∀ j, j < n → dupJ L' j = false) ∧ ∃ kA kc cA cc, Lie w' w'.heap.size (.mk 6 0 ⟨#[]⟩ cA n cc kA n kc (L'.map Prod.fst) (L'.map Prod.snd)) ∧
        e = .returned (.tuple #[if VT.ok (.mk 6 0 ⟨#[]⟩ cA n cc kA n kc (L'.map Prod.fst) (L'.map Prod.snd)) = true then VT.agg (.mk 6 0 ⟨#[]⟩ cA n cc kA n kc (L'.map Prod.fst) (L'.map Prod.snd)) else zV, .int .i64 (if VT.ok (.mk 6 0 ⟨#[]⟩ cA n cc kA n kc (L'.map Prod.fst) (L'.map Prod.snd)) = true then 0 else 140)]))) := by
  have hb0 := bel_alloc (Below.refl w.heap.size w) (.cells #[.int .i64 0, .int .i64 0, .string ⟨#[]⟩, .slice none 0 0, .slice none 0 0] 25)
  have hr0 : VFive (w.alloc (.cells #[.int .i64 0, .int .i64 0, .string ⟨#[]⟩, .slice none 0 0, .slice none 0 0] 25)) w.heap.size (.int .i64 0) (.int .i64 0) (.string ⟨#[]⟩) (.slice none 0 0) (.slice none 0 0) := VFive.new _ _ _ _ _ _ _ _ rfl
  have hcl := cloneP_any A n c _ B _ (h.below (hb0.mono hB)) (pcells_one L) hA (Nat.le_trans hB hb0.size) hn
  unfold GivesRow at hcl
  have Hr0 := Lib.hid hr0
  have Hsort := Lib.hid hsort
  have HL := Lib.hid hL
  have Hl := Lib.hid hl
  obtain ⟨i1, hi1, hz1, hs1, hy1⟩ := vstr_info
  obtain ⟨i5, hi5, hz5, hs5, hy5⟩ := val_info
  clear hr0 hsort hL hl h
  go_enter Tryd.func30, Tryd.ntmps30
  go_wp2_with fail
  refine hcl.mono ?_
  rintro e w1 ⟨A1, c1, rfl, hown, hb1⟩
  have hb01 := bel_next hb0 hb1
  have hs1' := hb1.size
  have Hr1 := Lib.hid (Hr0.out.later hb1)
  go_wp2_with fail
  refine (Hsort.out A1 c1 w1 _ hown hs1').mono ?_
  rintro e w2 ⟨rfl, hb2, hS2⟩
  have Hr2 := Lib.hid (Hr1.out.upto hb2 (by simp) hs1')
  have hb02 : Below w.heap.size w w2 := hb01.trans (hb2.mono (by simp))
  have hsz2 := hb02.size
  have Hrlt := Hr2.out.lt
  clear hcl hown hb1 hb2 hs1' Hr0 Hr1 hb01
  have hJ0 : ObjJ (w2.alloc (.cells #[.int .i64 6, .int .i64 0, .string ⟨#[]⟩, .slice none 0 0, .slice none 0 0] 25)) w.heap.size w2.heap.size L' 0 none none 0 0 := ⟨VFive.new _ _ _ _ _ _ _ _ rfl, Hr2.out.alloc _, World.ownsRow_nil _ _ _ _, World.ownsRow_nil _ _ _ _⟩
  have hb3 := bel_alloc hb02 (.cells #[.int .i64 6, .int .i64 0, .string ⟨#[]⟩, .slice none 0 0, .slice none 0 0] 25)
  have hb23 := bel_alloc (Below.refl w2.heap.size w2) (.cells #[.int .i64 6, .int .i64 0, .string ⟨#[]⟩, .slice none 0 0, .slice none 0 0] 25)
  have HJ0 := Lib.hid hJ0
  clear hJ0
  go_wp2
  go_loopw [15] (fun i wr => ∃ (j : Nat) (kA cA : Option Addr) (kc cc : Nat), j ≤ n ∧ i = .int .i64 j ∧ Hid (∀ q, q < j → dupJ L' q = false) ∧ Hid (ObjJ wr w.heap.size w2.heap.size L' j kA cA kc cc) ∧ Below w.heap.size w wr ∧ Below w2.heap.size w2 wr) (fun i _ => n - (intOf i).toNat)
  case atStart => exact ⟨0, none, none, 0, 0, Nat.zero_le _, rfl, Lib.hid (fun q h => by omega), HJ0, hb3, hb23⟩
  case round =>
    obtain ⟨j, kA, cA, kc, cc, hj, rfl, HD, HJ, hbr, hb2r⟩ := hrel
    by_cases hlt : j < n
    · obtain ⟨b, off, x, T, rfl, hbb, hp, h6⟩ := pair_at (hS2.out.below hb2r) hlt
      have hlt' : (j : Int) < n := by omega
      have hj0 : (0 : Int) ≤ j := by omega
      obtain ⟨tk, tn, ts, tcA, tcn, tcc, tkA, tkn, tkc, tkeys, tkids⟩ := T
      obtain ⟨g0, g1, g2, g3, g4, g5⟩ := h6
      have Hp := Lib.hid hp
      clear hp
      go_wp2
      have hbp := bel_alloc (Below.refl wr.heap.size wr) (.cells #[.string x, .int .i64 tk, .int .i64 tn, .string ts, .slice tcA tcn tcc, .slice tkA tkn tkc] 48)
      have hpb : (wr.alloc (.cells #[.string x, .int .i64 tk, .int .i64 tn, .string ts, .slice tcA tcn tcc, .slice tkA tkn tkc] 48)).heap[wr.heap.size]? = some (.cells #[.string x, .int .i64 tk, .int .i64 tn, .string ts, .slice tcA tcn tcc, .slice tkA tkn tkc] 48 (0, 0)) := World.alloc_heap_new wr _
      have HJp := Lib.hid (HJ.out.later hbp)
      have hSp := Lib.hid ((hS2.out.below hb2r).below (hbp.mono hb2r.size))
      have hbrp := bel_next hbr hbp
      have hb2p := hb2r.trans (hbp.mono hb2r.size)
      have hszp : (wr.alloc (.cells #[.string x, .int .i64 tk, .int .i64 tn, .string ts, .slice tcA tcn tcc, .slice tkA tkn tkc] 48)).heap.size = wr.heap.size + 1 := World.size_alloc _ _
      have hprt : wr.heap.size < wr.heap.size + 1 := Nat.lt_succ_self _
      have hg2 := hb2r.size
      have hvl := HJ.out.v.lt
      generalize (wr.alloc (.cells #[.string x, .int .i64 tk, .int .i64 tn, .string ts, .slice tcA tcn tcc, .slice tkA tkn tkc] 48)) = Wp at *
      clear g0 g1 g2 g3 g4 g5 HJ hbr hb2r hbp
      go_cut [32] (fun s wx => s = .bool (dupJ L' j) ∧ Below Wp.heap.size Wp wx)
      case first =>
        have hk := keyAt_of Hp.out
        have c0 : Wp.cell? ⟨wr.heap.size, 0, none⟩ = some (.string x) := by simp [World.cell?, hpb]
        by_cases h0 : j = 0
        · subst h0
          have hd := Lib.hid (show dupJ L' 0 = false from rfl)
          go_quiet (fail)
          go_wp2
          go_meet
          case rel => exact ⟨by rw [hd.out], below_drewN (Below.refl _ _) _⟩
        · obtain ⟨b', off', x', T', e, _, hp', h6'⟩ := pair_at hSp.out (i := j - 1) (by omega)
          injection e with e
          injection e with e1 e2
          subst e1; subst e2
          obtain ⟨uk, un, us, ucA, ucn, ucc, ukA, ukn, ukc, ukeys, ukids⟩ := T'
          obtain ⟨p0, -⟩ := h6'
          have hd := Lib.hid (show dupJ L' j = (x'.toList == x.toList) by unfold dupJ; rw [hk, keyAt_of hp', decide_eq_true (by omega)]; rfl)
          have hjm : ((j : Int) - 1).toNat = j - 1 := by omega
          have hjp : (0 : Int) < j := by omega
          have hjn : 0 < j := by omega
          have hjw : RowKit.wrap64 ((j : Int) - 1) = (j : Int) - 1 := by unfold RowKit.wrap64; omega
          clear hp' hk
          go_quiet (fail)
          go_wp2
          go_meet
          case rel => exact ⟨by rw [hd.out], below_drewN (Below.refl _ _) _⟩
      case rest =>
        obtain ⟨rfl, hbc⟩ := hcut
        have HJc := Lib.hid (HJp.out.later hbc)
        have hpc : PBox wc wr.heap.size x (.mk tk tn ts tcA tcn tcc tkA tkn tkc tkeys tkids) := (hbc.block _ (by omega)).trans hpb
        have hbrc := bel_next hbrp hbc
        have hb2c := hb2p.trans (hbc.mono hb2p.size)
        have hszc := hbc.size
        have hszc2 := hbrc.size
        have hrb : w.heap.size < w2.heap.size := Hrlt
        clear hpb HJp hSp hbrp hb2p hbc
        cases hd : dupJ L' j
        · have hpb : wc.heap[wr.heap.size]? = some (.cells #[.string x, .int .i64 tk, .int .i64 tn, .string ts, .slice tcA tcn tcc, .slice tkA tkn tkc] 48 (0, 0)) := hpc
          have p0 : wc.cell? ⟨wr.heap.size, 0, none⟩ = some (.string x) := by simp [World.cell?, hpb]
          obtain ⟨⟨v0, v1, v2, v3, v4⟩, f0, f1, f2, f3, f4⟩ := HJc.out.v
          have HD' := Lib.hid (show ∀ q, q < j + 1 → dupJ L' q = false from fun q h => if e : q = j then e ▸ hd else HD.out q (by omega))
          clear hd hpb
          have hnew : Shows (wc.alloc (.cells #[.string x] 9)) (wc.heap.size + 1) 1 (some ⟨wc.heap.size, 0, none⟩) 1 [.string x] := ⟨rfl, fun _ => ⟨wc.heap.size, 0, rfl, Nat.lt_succ_self _, fun i v hv => by
            have hi : i < 1 := (List.getElem?_eq_some_iff.1 hv).1
            obtain rfl : i = 0 := by omega
            simp at hv; subst hv
            have := (Box.new wc #[.string x] 9 0 (.string x) (by simp)).1
            exact this⟩⟩
          go_wp2_with (first
            | (at_builtin; refine wpList_append_shows _ rfl _ _ 23 rfl (w2.heap.size + 1) 9 i1 (.string ⟨#[]⟩) 1 16 Tryd.underlying23 hi1 hz1 hs1 hy1 rfl (by decide) _ _ _ rfl (HJc.out.ks.alloc _) (wc.heap.size + 1) _ 1 1 [.string x] rfl hnew (by simp [Value.oneCell']) (by unfold maxLen; omega) (by omega) (by simp; omega) ?_; intro A7 c7 W7 hown7 hgrow7 hb7; obtain ⟨hv7, hr7, hp7, hk8, hc8⟩ := obj_one HJc.out hrb (by omega) hpc hgrow7 hb7 hown7 (.slice A7 (j + 1) c7); have hpb7 : W7.heap[wr.heap.size]? = some (.cells #[.string x, .int .i64 tk, .int .i64 tn, .string ts, .slice tcA tcn tcc, .slice tkA tkn tkc] 48 (0, 0)) := hp7; have q1 : W7.cell? ⟨wr.heap.size, 1, none⟩ = some (.int .i64 tk) := by { simp [World.cell?, hpb7] }; have q2 : W7.cell? ⟨wr.heap.size, 2, none⟩ = some (.int .i64 tn) := by { simp [World.cell?, hpb7] }; have q3 : W7.cell? ⟨wr.heap.size, 3, none⟩ = some (.string ts) := by { simp [World.cell?, hpb7] }; have q4 : W7.cell? ⟨wr.heap.size, 4, none⟩ = some (.slice tcA tcn tcc) := by { simp [World.cell?, hpb7] }; have q5 : W7.cell? ⟨wr.heap.size, 5, none⟩ = some (.slice tkA tkn tkc) := by { simp [World.cell?, hpb7] }; have Hv7 := Lib.hid hv7; obtain ⟨⟨a0, a1, a2, a3, a4⟩, b0, b1, b2, b3, b4⟩ := hv7; have n1 : (wr.heap.size = w2.heap.size) = False := by { simp; omega }; clear hpb7 hp7)
            | (at_builtin; have hnew5 : Shows ((W7.setCell ⟨w2.heap.size, 4, none⟩ (.slice A7 (j + 1) c7)).alloc (.cells #[.int .i64 tk, .int .i64 tn, .string ts, .slice tcA tcn tcc, .slice tkA tkn tkc] 25)) (W7.heap.size + 1) 5 (some ⟨W7.heap.size, 0, none⟩) 1 [.int .i64 tk, .int .i64 tn, .string ts, .slice tcA tcn tcc, .slice tkA tkn tkc] := shows5_new _ _ _ _ _ _ _ _ (by simp [World.setCell]); refine wpList_append_shows _ rfl _ _ 22 rfl (w2.heap.size + 1) 25 i5 (.agg #[.int .i64 0, .int .i64 0, .string ⟨#[]⟩, .slice none 0 0, .slice none 0 0]) 5 80 Tryd.underlying22 hi5 hz5 hs5 hy5 rfl (by decide) _ _ _ rfl (hc8.alloc _) (W7.heap.size + 1) _ 1 1 _ rfl hnew5 (by simp [Value.oneCell']) (by unfold maxLen; omega) (by omega) (by have := hb7.size; rw [World.size_alloc] at this; rw [World.size_alloc, size_set]; omega) ?_; intro A9 c9 W9 hown9 hgrow9 hb9; obtain ⟨hv9, hJ9⟩ := obj_two Hv7.out hr7 hrb Hp.out hk8 hc8 hgrow9 hb9 hown9; have HJ9 := Lib.hid hJ9; have hbA := Lib.hid (obj_bel (u' := .slice A9 (j + 1) c9) hbrc (Nat.le_of_lt hrb) (by omega) hb7 hb9); have hbB := Lib.hid (obj_bel (u' := .slice A9 (j + 1) c9) hb2c (Nat.le_refl _) (by omega) hb7 hb9); obtain ⟨⟨k0, k1, k2, k3, k4⟩, l0, l1, l2, l3, l4⟩ := hv9)
            | fail)
          go_roundw
          case rel => exact ⟨j + 1, A7, A9, c7, c9, by omega, by go_num, HD', HJ9, hbA.out, hbB.out⟩
          case measure => simp [intOf]; omega
        · have HDup := Lib.hid (show ∃ j, j < n ∧ dupJ L' j = true from ⟨j, hlt, hd⟩)
          obtain ⟨⟨e0, e1, e2, e3, e4⟩, f0, f1, f2, f3, f4⟩ := HJc.out.r
          have hle0 : w.heap.size ≤ w.heap.size := Nat.le_refl _
          clear hd
          go_wp2
          refine bodyPost_ret (v := .tuple #[.agg #[.int .i64 0, .int .i64 0, .string ⟨#[]⟩, .slice none 0 0, .slice none 0 0], .int .i64 141]) ?_ rfl ⟨vbelow_set5 hbrc hle0, .inl ⟨HDup.out, rfl⟩⟩
          simp [results, Tryd.results30, go_sem, *]
    · have hjn : j = n := by omega
      subst hjn
      have htk : L'.take j = L' := List.take_of_length_le (by rw [Hl.out]; exact Nat.le_refl _)
      have hJe := HJ.out
      have hks := hJe.ks
      have hcs := hJe.cs
      rw [htk] at hks hcs
      have hLie : Lie wr wr.heap.size (.mk 6 0 ⟨#[]⟩ cA j cc kA j kc (L'.map Prod.fst) (L'.map Prod.snd)) := obj_lie hks hcs (fun p hp => ⟨(HL.out p hp).1.later (hbr.mono hB) |>.more (Nat.le_trans hB hbr.size), (HL.out p hp).2⟩)
      have hch := checked_any wr.heap.size wr _ hLie (Nat.le_refl _) (htab.below hbr htab.lt) (hst.below hbr hst.lt)
      have HLie := Lib.hid hLie
      have HDn := Lib.hid HD.out
      simp only [VT.agg] at hch
      obtain ⟨⟨v0, v1, v2, v3, v4⟩, -⟩ := hJe.v
      have Hr := Lib.hid hJe.r
      have Hks := Lib.hid hks
      have Hcs := Lib.hid hcs
      have hle0 : w.heap.size ≤ w.heap.size := Nat.le_refl _
      have hrb : w.heap.size < w2.heap.size + 1 := Nat.lt_succ_of_lt Hrlt
      clear hJe hks hcs htk hLie
      cases hok : VT.ok (.mk 6 0 ⟨#[]⟩ cA j cc kA j kc (L'.map Prod.fst) (L'.map Prod.snd))
      · rw [hok] at hch
        simp only [Bool.false_eq_true, if_false, zV] at hch
        have Hok := Lib.hid hok
        clear hok
        go_wp2_with fail
        refine hch.mono ?_
        rintro e w5 ⟨rfl, hb5⟩
        obtain ⟨⟨e0, e1, e2, e3, e4⟩, f0, f1, f2, f3, f4⟩ := Hr.out.later hb5
        have hb6 := bel_next hbr hb5
        have hk5 := Lib.hid (own_below Hks.out hb5)
        have hc5 := Lib.hid (own_below Hcs.out hb5)
        clear v0 v1 v2 v3 v4
        go_wp2
        have hbf := vbelow_set5 (a := .int .i64 0) (b := .int .i64 0) (c := .string ⟨#[]⟩) (d := .slice none 0 0) (e := .slice none 0 0) hb6 hle0
        refine bodyPost_ret (v := .tuple #[.agg #[.int .i64 0, .int .i64 0, .string ⟨#[]⟩, .slice none 0 0, .slice none 0 0], .int .i64 140]) ?_ rfl ⟨hbf, .inr ⟨HDn.out, kA, kc, cA, cc, obj_lie (own_set5 hk5.out hrb) (own_set5 hc5.out hrb) (fun p hp => ⟨((HL.out p hp).1.later (hbf.mono hB)).more (Nat.le_trans hB hbf.size), (HL.out p hp).2⟩), by rw [Hok.out]; rfl⟩⟩
        simp [results, Tryd.results30, go_sem, *]
      · rw [hok] at hch
        simp only [if_true] at hch
        have Hok := Lib.hid hok
        clear hok
        go_wp2_with fail
        refine hch.mono ?_
        rintro e w5 ⟨rfl, hb5⟩
        obtain ⟨⟨e0, e1, e2, e3, e4⟩, f0, f1, f2, f3, f4⟩ := Hr.out.later hb5
        have hb6 := bel_next hbr hb5
        have hk5 := Lib.hid (own_below Hks.out hb5)
        have hc5 := Lib.hid (own_below Hcs.out hb5)
        clear v0 v1 v2 v3 v4
        go_wp2
        have hbf := vbelow_set5 (a := .int .i64 6) (b := .int .i64 0) (c := .string ⟨#[]⟩) (d := .slice cA j cc) (e := .slice kA j kc) hb6 hle0
        refine bodyPost_ret (v := .tuple #[.agg #[.int .i64 6, .int .i64 0, .string ⟨#[]⟩, .slice cA j cc, .slice kA j kc], .int .i64 0]) ?_ rfl ⟨hbf, .inr ⟨HDn.out, kA, kc, cA, cc, obj_lie (own_set5 hk5.out hrb) (own_set5 hc5.out hrb) (fun p hp => ⟨((HL.out p hp).1.later (hbf.mono hB)).more (Nat.le_trans hB hbf.size), (HL.out p hp).2⟩), by rw [Hok.out]; rfl⟩⟩
        simp [results, Tryd.results30, go_sem, *]
end Go.Proofs.YtnldiemggabdkaaDoor
/-
  Layer 1: Points.
-/
namespace Go.Proofs.YtnldiemggabdkaaDoor
open Go.RowKit Go.Shelf

set_option maxRecDepth 20000 in
theorem i64_info : ∃ i, Tryd.prog.info? 3 = some i ∧ i.zero = some (.int .i64 0) ∧ i.size = 1 ∧ i.bytes = 8 := ⟨Tryd.t3, by kernel_rfl, by kernel_rfl, by kernel_rfl, by kernel_rfl⟩
def OutIs (n₀ B : Nat) (pre : List Nat) (W : World) : Prop := ∃ v, Boxed W B 62 v ∧ W.ownsRow n₀ 3 1 v pre.length ((nats pre).map iv)
theorem OutIs.below {n₀ B : Nat} {pre : List Nat} {W W' : World} (h : OutIs n₀ B pre W) (hb : Below W.heap.size W W') : OutIs n₀ B pre W' := by
  obtain ⟨v, h1, h2⟩ := h
  exact ⟨v, boxed_below h1 hb, own_below h2 hb⟩
set_option maxRecDepth 20000 in
set_option maxHeartbeats 1000000 in
theorem visit_any (n₀ B : Nat) (pre : List Nat) (c : Nat) (W : World) (h : OutIs n₀ B pre W) (hB : n₀ ≤ B) (hn : pre.length ≤ 1048576) :
    Calls Tryd.prog 59 #[.int .i64 (c : Int), .pointer (some ⟨B, 0, none⟩)] W fun e W' => (∃ v, e = .returned v) ∧ OutIs n₀ B (pre ++ [c]) W' ∧ Below n₀ W W' := by
  obtain ⟨v, hv, hrow⟩ := h
  obtain ⟨i0, hi, hz0, hz1, hz2⟩ := i64_info
  have hc := hv.cell
  have hvl := hv.lt
  have hnew : Shows (W.alloc (.cells #[.int .i64 (c : Int)] 3)) (W.heap.size + 1) 1 (some ⟨W.heap.size, 0, none⟩) 1 [.int .i64 (c : Int)] := ints_new W [(c : Int)] _ _ _ rfl
  go_enter Tryd.func59, Tryd.ntmps59
  go_wp2_with (at_builtin; refine wpList_append_shows _ rfl _ _ 62 rfl n₀ 3 i0 (.int .i64 0) 1 8 Tryd.underlying62 hi hz0 hz1 hz2 rfl (by decide) _ _ _ rfl (hrow.alloc _) (W.heap.size + 1) _ 1 1 [.int .i64 (c : Int)] rfl hnew (by simp [Value.oneCell']) (by unfold maxLen; omega) (by omega) (by simp; omega) ?_; intro A' c' w7 hown' hgrow' _; obtain ⟨g', cap', hs'⟩ := ownsRow_succ hown'; obtain ⟨hv1, hv2, hr2, hk2, hb2⟩ := hv.appended (by decide) hrow (by omega) (by omega) hown' hgrow'; have hc1 := hv1.cell; have hf1 := hv1.frozen; clear hs')
  go_end0
  exact ⟨⟨_, rfl⟩, ⟨_, hv2, by rw [nats_snoc, List.length_append, List.map_append]; exact hr2⟩, hb2⟩

set_option maxRecDepth 20000 in
theorem points_walk (s : ByteArray) (l : List UInt8) (hs : s.data.toList = l) (w : World) (hm : s.size ≤ 1048576) (htab : UTab w) :
    Calls Tryd.prog 58 #[.string s, .func (.func 59) #[] #[.pointer (some ⟨w.heap.size, 0, none⟩)]] (w.alloc (.cells #[.slice none 0 0] 62)) fun e w' => e = .returned (walkR l) ∧ OutIs w.heap.size w.heap.size (ptsL l).1 w' ∧ UTab w' ∧ Below w.heap.size w w' :=
  walk_any s l hs 59 #[.pointer (some ⟨w.heap.size, 0, none⟩)] _ (by unfold maxLen; omega) (fun pre W => OutIs w.heap.size w.heap.size pre W ∧ UTab W ∧ Below w.heap.size w W) (fun _ _ h => h.2.1) (fun _ W W' h hb => ⟨h.1.below hb, h.2.1.below hb h.2.1.lt, bel_next h.2.2 hb⟩)
    ⟨⟨_, Boxed.new _ _ _, World.ownsRow_nil _ _ _ _⟩, htab.alloc _, (Below.refl _ _).alloc (Nat.le_refl _) _⟩ (enters_of Tryd.func59 (by kernel_rfl) rfl) (fun pre c W h hp =>
      (visit_any _ _ pre c W h.1 (Nat.le_refl _) (by omega)).mono fun e W' ⟨h1, h2, h3⟩ => ⟨h1, h2, h.2.1.below h3 htab.lt, h.2.2.trans h3⟩)

set_option maxRecDepth 20000 in
/-- What Points tells of a text. -/
theorem points_yes (s : ByteArray) (l : List UInt8) (hs : s.data.toList = l) (w : World) (hm : s.size ≤ 1048576) (htab : UTab w) (h : (ptsL l).2 = l.length) :
    Calls Tryd.prog 43 #[.string s] w fun e w' => ∃ A n c, e = .returned (.tuple #[.slice A n c, .int .i64 0, .int .i64 0]) ∧ w'.ownsRow w.heap.size 3 1 (.slice A n c) n ((nats (ptsL l).1).map iv) ∧ Below w.heap.size w w' := by
  have hw := points_walk s l hs w hm htab
  unfold walkR at hw
  rw [if_pos h] at hw
  clear h hs
  go_enter Tryd.func43, Tryd.ntmps43
  go_wp2_with fail
  refine hw.mono ?_
  rintro e w1 ⟨rfl, ⟨v, hv, hrow⟩, -, hb⟩
  have hc := hv.cell
  obtain ⟨A, c', rfl, -, -⟩ := own_form hrow
  go_wp2
  go_ret3
  exact ⟨A, _, c', rfl, hrow, hb⟩
set_option maxRecDepth 20000 in
theorem points_no (s : ByteArray) (l : List UInt8) (hs : s.data.toList = l) (w : World) (hm : s.size ≤ 1048576) (htab : UTab w) (h : (ptsL l).2 ≠ l.length) :
    Calls Tryd.prog 43 #[.string s] w fun e w' => e = .returned (.tuple #[.slice none 0 0, .int .i64 ((ptsL l).2 : Int), .int .i64 110]) ∧ Below w.heap.size w w' := by
  have hw := points_walk s l hs w hm htab
  unfold walkR at hw
  rw [if_neg h] at hw
  clear h hs
  generalize (((ptsL l).2 : Nat) : Int) = x at *
  go_enter Tryd.func43, Tryd.ntmps43
  go_wp2_with fail
  refine hw.mono ?_
  rintro e w1 ⟨rfl, -, -, hb⟩
  go_wp2
  go_ret3
  exact ⟨rfl, hb⟩
end Go.Proofs.YtnldiemggabdkaaDoor
