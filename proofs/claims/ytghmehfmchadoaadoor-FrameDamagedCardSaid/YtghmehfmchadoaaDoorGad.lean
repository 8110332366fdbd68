import Derived.Test.YtghmehfmchadoaaDoorGac
import Derived.Laws.EntriesVeiled
import Derived.Deep.WholeRow
import Derived.Great.BuildSlice
import Derived.Test.YtghmehfmchadoaaDoorGab
/-
  Layer 10: an operation's asking whether there is room.
-/
namespace Go.Proofs.YtghmehfmchadoaaDoor
open Go.RowKit
set_option linter.unusedVariables false

set_option maxRecDepth 20000 in
set_option maxHeartbeats 2000000 in
theorem full_any (X : FileT) (g gr B : Nat) (w : World) (h : FBox w g X) (h5 : w.cell? ⟨g, 5, none⟩ = some (.int .i64 (gr : Nat))) (hL : LieF w B X) (hB : B ≤ w.heap.size) (hN : ∀ p ∈ X.Q, p.n ≤ 1048576) (hl : X.long ≤ 524288) :
    Calls Tryd.prog 59 #[.pointer (some ⟨g, 0, none⟩)] w fun e w' => e = .returned (.int .i64 (if 524288 < X.long + gr then 8 else 0)) ∧ Below w.heap.size w w' := by
  have Hle := Lib.hid (fun W (h : Below w.heap.size w W) => length_any X B W (hL.later (h.mono hB)) (Nat.le_trans hB h.size) hN)
  simp only [FileT.agg, PcT.val] at Hle
  have x0 : ∀ W, Below w.heap.size w W → W.cell? ⟨g, 0, none⟩ = some (.slice X.F.A X.F.n X.F.c) := fun W hb => (h.later hb).1
  have x1 : ∀ W, Below w.heap.size w W → W.cell? ⟨g, 1, none⟩ = some (.slice X.lA X.ln X.lc) := fun W hb => (h.later hb).2.1
  have x2 : ∀ W, Below w.heap.size w W → W.cell? ⟨g, 2, none⟩ = some (.int .i64 X.fuse) := fun W hb => (h.later hb).2.2.1
  have x3 : ∀ W, Below w.heap.size w W → W.cell? ⟨g, 3, none⟩ = some (.int .i64 X.fault) := fun W hb => (h.later hb).2.2.2.1
  have x4 : ∀ W, Below w.heap.size w W → W.cell? ⟨g, 4, none⟩ = some (.bool X.off) := fun W hb => (h.later hb).2.2.2.2
  have x5 : ∀ W, Below w.heap.size w W → W.cell? ⟨g, 5, none⟩ = some (.int .i64 (gr : Nat)) := fun W hb => kept_later hb h5
  generalize X.long = lo at *
  have hs1 : IntKind.i64.wrap (524288 - (lo : Int)) = 524288 - (lo : Int) := by rw [IntKind.wrap_i64]; omega
  have hs2 : wrap64 (524288 - (lo : Int)) = 524288 - (lo : Int) := by unfold wrap64; omega
  clear h h5 hL hN
  by_cases hg : 524288 < lo + gr
  · have hg1 : (524288 - (lo : Int) < (gr : Int)) = True := by simp; omega
    rw [if_pos hg]
    clear hg hl
    go_enter Tryd.func59, Tryd.ntmps59
    go_upto_region 1 with fail
    refine wp_region_held_drew (S := fun W => Below w.heap.size w W) (by kernel_rfl) (below_drewN (Below.refl _ _) 1) (fun hHeld => ?_)
    refine rg_in 0 rfl (by kernel_rfl) (by kernel_rfl) (by kernel_rfl) (by rfl) (v := ?_) (fun _ _ _ h => h) hHeld (fun w hSw => ?_) ?_
    rotate_left
    · (try dsimp only at hSw); go_simp <;> (with_reducible rfl)
    (try simp only [Act.put, List.setIfInBounds_toArray, List.set_cons_zero, List.set_cons_succ])
    refine rg_in 1 rfl (by kernel_rfl) (by kernel_rfl) (by kernel_rfl) (by rfl) (v := ?_) (fun _ _ _ h => h) hHeld (fun w hSw => ?_) ?_
    rotate_left
    · (try dsimp only at hSw); go_simp <;> (with_reducible rfl)
    (try simp only [Act.put, List.setIfInBounds_toArray, List.set_cons_zero, List.set_cons_succ])
    refine rg_in 2 rfl (by kernel_rfl) (by kernel_rfl) (by kernel_rfl) (by rfl) (v := ?_) (fun _ _ _ h => h) hHeld (fun w hSw => ?_) ?_
    rotate_left
    · (try dsimp only at hSw); go_simp <;> (with_reducible rfl)
    (try simp only [Act.put, List.setIfInBounds_toArray, List.set_cons_zero, List.set_cons_succ])
    refine rg_in 3 rfl (by kernel_rfl) (by kernel_rfl) (by kernel_rfl) (by rfl) (v := ?_) (fun _ _ _ h => h) hHeld (fun w hSw => ?_) ?_
    rotate_left
    · (try dsimp only at hSw); go_simp <;> (with_reducible rfl)
    (try simp only [Act.put, List.setIfInBounds_toArray, List.set_cons_zero, List.set_cons_succ])
    refine rg_in 4 rfl (by kernel_rfl) (by kernel_rfl) (by kernel_rfl) (by rfl) (v := ?_) (fun _ _ _ h => h) hHeld (fun w hSw => ?_) ?_
    rotate_left
    · (try dsimp only at hSw); go_simp <;> (with_reducible rfl)
    (try simp only [Act.put, List.setIfInBounds_toArray, List.set_cons_zero, List.set_cons_succ])
    refine rg_in 5 rfl (by kernel_rfl) (by kernel_rfl) (by kernel_rfl) (by rfl) (v := ?_) (fun _ _ _ h => h) hHeld (fun w hSw => ?_) ?_
    rotate_left
    · (try dsimp only at hSw); go_simp <;> (with_reducible rfl)
    (try simp only [Act.put, List.setIfInBounds_toArray, List.set_cons_zero, List.set_cons_succ])
    refine rg_in 6 rfl (by kernel_rfl) (by kernel_rfl) (by kernel_rfl) (by rfl) (v := ?_) (fun _ _ _ h => h) hHeld (fun w hSw => ?_) ?_
    rotate_left
    · (try dsimp only at hSw); go_simp <;> (with_reducible rfl)
    (try simp only [Act.put, List.setIfInBounds_toArray, List.set_cons_zero, List.set_cons_succ])
    refine rg_in 7 rfl (by kernel_rfl) (by kernel_rfl) (by kernel_rfl) (by rfl) (v := ?_) (fun _ _ _ h => h) hHeld (fun w hSw => ?_) ?_
    rotate_left
    · (try dsimp only at hSw); go_simp <;> (with_reducible rfl)
    (try simp only [Act.put, List.setIfInBounds_toArray, List.set_cons_zero, List.set_cons_succ])
    refine rg_do 8 rfl (by kernel_rfl) (by rfl) (fun K hK => ?_)
    go_simp
    (go_at_call 35; (with_reducible refine (Hle.out _ hHeld).mono ?_); (rintro e w108 ⟨rfl, hb8⟩))
    refine hK.out _ _ (S_call hb8 hHeld rfl) (fun hHeld => ?_)
    clear hK K
    (try simp only [Act.put, List.setIfInBounds_toArray, List.set_cons_zero, List.set_cons_succ])
    refine rg_in 9 rfl (by kernel_rfl) (by kernel_rfl) (by kernel_rfl) (by rfl) (v := ?_) (fun _ _ _ h => h) hHeld (fun w hSw => ?_) ?_
    rotate_left
    · (try dsimp only at hSw); go_simp <;> (with_reducible rfl)
    (try simp only [Act.put, List.setIfInBounds_toArray, List.set_cons_zero, List.set_cons_succ])
    refine rg_in 10 rfl (by kernel_rfl) (by kernel_rfl) (by kernel_rfl) (by rfl) (v := ?_) (fun _ _ _ h => h) hHeld (fun w hSw => ?_) ?_
    rotate_left
    · (try dsimp only at hSw); go_simp <;> (with_reducible rfl)
    (try simp only [Act.put, List.setIfInBounds_toArray, List.set_cons_zero, List.set_cons_succ])
    refine wpAnyH_done (by kernel_rfl) ?_ _
    have hbe := hHeld
    clear x0 x1 x2 x3 x4 x5
    go_wp2
    all_goals
      go_ret
      exact ⟨rfl, hbe⟩
  · have hg1 : (524288 - (lo : Int) < (gr : Int)) = False := by simp; omega
    rw [if_neg hg]
    clear hg hl
    go_enter Tryd.func59, Tryd.ntmps59
    go_upto_region 1 with fail
    refine wp_region_held_drew (S := fun W => Below w.heap.size w W) (by kernel_rfl) (below_drewN (Below.refl _ _) 1) (fun hHeld => ?_)
    refine rg_in 0 rfl (by kernel_rfl) (by kernel_rfl) (by kernel_rfl) (by rfl) (v := ?_) (fun _ _ _ h => h) hHeld (fun w hSw => ?_) ?_
    rotate_left
    · (try dsimp only at hSw); go_simp <;> (with_reducible rfl)
    (try simp only [Act.put, List.setIfInBounds_toArray, List.set_cons_zero, List.set_cons_succ])
    refine rg_in 1 rfl (by kernel_rfl) (by kernel_rfl) (by kernel_rfl) (by rfl) (v := ?_) (fun _ _ _ h => h) hHeld (fun w hSw => ?_) ?_
    rotate_left
    · (try dsimp only at hSw); go_simp <;> (with_reducible rfl)
    (try simp only [Act.put, List.setIfInBounds_toArray, List.set_cons_zero, List.set_cons_succ])
    refine rg_in 2 rfl (by kernel_rfl) (by kernel_rfl) (by kernel_rfl) (by rfl) (v := ?_) (fun _ _ _ h => h) hHeld (fun w hSw => ?_) ?_
    rotate_left
    · (try dsimp only at hSw); go_simp <;> (with_reducible rfl)
    (try simp only [Act.put, List.setIfInBounds_toArray, List.set_cons_zero, List.set_cons_succ])
    refine rg_in 3 rfl (by kernel_rfl) (by kernel_rfl) (by kernel_rfl) (by rfl) (v := ?_) (fun _ _ _ h => h) hHeld (fun w hSw => ?_) ?_
    rotate_left
    · (try dsimp only at hSw); go_simp <;> (with_reducible rfl)
    (try simp only [Act.put, List.setIfInBounds_toArray, List.set_cons_zero, List.set_cons_succ])
    refine rg_in 4 rfl (by kernel_rfl) (by kernel_rfl) (by kernel_rfl) (by rfl) (v := ?_) (fun _ _ _ h => h) hHeld (fun w hSw => ?_) ?_
    rotate_left
    · (try dsimp only at hSw); go_simp <;> (with_reducible rfl)
    (try simp only [Act.put, List.setIfInBounds_toArray, List.set_cons_zero, List.set_cons_succ])
    refine rg_in 5 rfl (by kernel_rfl) (by kernel_rfl) (by kernel_rfl) (by rfl) (v := ?_) (fun _ _ _ h => h) hHeld (fun w hSw => ?_) ?_
    rotate_left
    · (try dsimp only at hSw); go_simp <;> (with_reducible rfl)
    (try simp only [Act.put, List.setIfInBounds_toArray, List.set_cons_zero, List.set_cons_succ])
    refine rg_in 6 rfl (by kernel_rfl) (by kernel_rfl) (by kernel_rfl) (by rfl) (v := ?_) (fun _ _ _ h => h) hHeld (fun w hSw => ?_) ?_
    rotate_left
    · (try dsimp only at hSw); go_simp <;> (with_reducible rfl)
    (try simp only [Act.put, List.setIfInBounds_toArray, List.set_cons_zero, List.set_cons_succ])
    refine rg_in 7 rfl (by kernel_rfl) (by kernel_rfl) (by kernel_rfl) (by rfl) (v := ?_) (fun _ _ _ h => h) hHeld (fun w hSw => ?_) ?_
    rotate_left
    · (try dsimp only at hSw); go_simp <;> (with_reducible rfl)
    (try simp only [Act.put, List.setIfInBounds_toArray, List.set_cons_zero, List.set_cons_succ])
    refine rg_do 8 rfl (by kernel_rfl) (by rfl) (fun K hK => ?_)
    go_simp
    (go_at_call 35; (with_reducible refine (Hle.out _ hHeld).mono ?_); (rintro e w108 ⟨rfl, hb8⟩))
    refine hK.out _ _ (S_call hb8 hHeld rfl) (fun hHeld => ?_)
    clear hK K
    (try simp only [Act.put, List.setIfInBounds_toArray, List.set_cons_zero, List.set_cons_succ])
    refine rg_in 9 rfl (by kernel_rfl) (by kernel_rfl) (by kernel_rfl) (by rfl) (v := ?_) (fun _ _ _ h => h) hHeld (fun w hSw => ?_) ?_
    rotate_left
    · (try dsimp only at hSw); go_simp <;> (with_reducible rfl)
    (try simp only [Act.put, List.setIfInBounds_toArray, List.set_cons_zero, List.set_cons_succ])
    refine rg_in 10 rfl (by kernel_rfl) (by kernel_rfl) (by kernel_rfl) (by rfl) (v := ?_) (fun _ _ _ h => h) hHeld (fun w hSw => ?_) ?_
    rotate_left
    · (try dsimp only at hSw); go_simp <;> (with_reducible rfl)
    (try simp only [Act.put, List.setIfInBounds_toArray, List.set_cons_zero, List.set_cons_succ])
    refine wpAnyH_done (by kernel_rfl) ?_ _
    have hbe := hHeld
    clear x0 x1 x2 x3 x4 x5
    go_wp2
    all_goals
      go_ret
      exact ⟨rfl, hbe⟩
end Go.Proofs.YtghmehfmchadoaaDoor
/-
  Layer 10: an operation's asking, the last: the count of refusals, and the power.
-/
namespace Go.Proofs.YtghmehfmchadoaaDoor
open Go.RowKit
set_option linter.unusedVariables false

theorem tick_wf {n : Int} (h : (Lit.int .i64 n).wf = true) : (Lit.int .i64 (tickN n)).wf = true := by
  have hb := wf_i64 h
  unfold tickN
  split
  · simp [Lit.wf, IntKind.min, IntKind.max, IntKind.bits, IntKind.signed]; omega
  · exact h
theorem lost_yes (g : Nat) (fault fuse : Int) (w : World) (hw3 : (Lit.int .i64 fault).wf = true) (hw2 : (Lit.int .i64 fuse).wf = true) (h3 : w.cell? ⟨g, 3, none⟩ = some (.int .i64 fault)) (f3 : w.frozen? ⟨g, 3, none⟩ = false) (h2 : w.cell? ⟨g, 2, none⟩ = some (.int .i64 fuse)) (f2 : w.frozen? ⟨g, 2, none⟩ = false) (hn : (fuse == 0) = false) :
    Calls Tryd.prog 61 #[.pointer (some ⟨g, 0, none⟩)] w fun e w' => e = .returned (.int .i64 0) ∧ (w.setCell ⟨g, 3, none⟩ (.int .i64 (tickN fault))).setCell ⟨g, 2, none⟩ (.int .i64 (tickN fuse)) = w' := by
  have T3 := Lib.hid (fun W => tick_any fault W hw3)
  have T2 := Lib.hid (fun W => tick_any fuse W hw2)
  generalize tickN fault = v3 at *
  generalize tickN fuse = v2 at *
  clear hw2 hw3
  go_enter Tryd.func61, Tryd.ntmps61
  go_wp2_with fail
  refine (T3.out _).mono ?_
  rintro e w1 ⟨rfl, rfl⟩
  go_wp2_with fail
  refine (T2.out _).mono ?_
  rintro e w1 ⟨rfl, rfl⟩
  go_wp2
  all_goals
    go_ret
    exact ⟨rfl, rfl⟩
theorem lost_no (g : Nat) (fault : Int) (b : Bool) (w : World) (hw3 : (Lit.int .i64 fault).wf = true) (h3 : w.cell? ⟨g, 3, none⟩ = some (.int .i64 fault)) (f3 : w.frozen? ⟨g, 3, none⟩ = false) (h2 : w.cell? ⟨g, 2, none⟩ = some (.int .i64 0)) (f2 : w.frozen? ⟨g, 2, none⟩ = false) (h4 : w.cell? ⟨g, 4, none⟩ = some (.bool b)) (f4 : w.frozen? ⟨g, 4, none⟩ = false) :
    Calls Tryd.prog 61 #[.pointer (some ⟨g, 0, none⟩)] w fun e w' => e = .returned (.int .i64 10) ∧ ((w.setCell ⟨g, 3, none⟩ (.int .i64 (tickN fault))).setCell ⟨g, 2, none⟩ (.int .i64 (-1))).setCell ⟨g, 4, none⟩ (.bool true) = w' := by
  have T3 := Lib.hid (fun W => tick_any fault W hw3)
  generalize tickN fault = v3 at *
  clear hw3
  go_enter Tryd.func61, Tryd.ntmps61
  go_wp2_with fail
  refine (T3.out _).mono ?_
  rintro e w1 ⟨rfl, rfl⟩
  go_wp2
  all_goals
    go_ret
    exact ⟨rfl, rfl⟩
end Go.Proofs.YtghmehfmchadoaaDoor
/-
  Layer 10: an operation run: its four askings in their order, then its work.
-/
namespace Go.Proofs.YtghmehfmchadoaaDoor
open Go.RowKit
set_option linter.unusedVariables false

theorem FVar.set3 {W : World} {g : Nat} {a b c d e : Value} (v : Value) (h : FVar W g a b c d e) : FVar (W.setCell ⟨g, 3, none⟩ v) g a b c v e := by
  obtain ⟨⟨h0, h1, h2, h3, h4⟩, k0, k1, k2, k3, k4⟩ := h
  refine ⟨⟨?_, ?_, ?_, ?_, ?_⟩, ?_, ?_, ?_, ?_, ?_⟩ <;> simp [go_sem, *]
theorem FVar.set2 {W : World} {g : Nat} {a b c d e : Value} (v : Value) (h : FVar W g a b c d e) : FVar (W.setCell ⟨g, 2, none⟩ v) g a b v d e := by
  obtain ⟨⟨h0, h1, h2, h3, h4⟩, k0, k1, k2, k3, k4⟩ := h
  refine ⟨⟨?_, ?_, ?_, ?_, ?_⟩, ?_, ?_, ?_, ?_, ?_⟩ <;> simp [go_sem, *]
theorem FVar.set4 {W : World} {g : Nat} {a b c d e : Value} (v : Value) (h : FVar W g a b c d e) : FVar (W.setCell ⟨g, 4, none⟩ v) g a b c d v := by
  obtain ⟨⟨h0, h1, h2, h3, h4⟩, k0, k1, k2, k3, k4⟩ := h
  refine ⟨⟨?_, ?_, ?_, ?_, ?_⟩, ?_, ?_, ?_, ?_, ?_⟩ <;> simp [go_sem, *]
theorem FVar.other {W : World} {g k i : Nat} {a b c d e : Value} (v : Value) (hk : k ≠ g) (h : FVar W k a b c d e) : FVar (W.setCell ⟨g, i, none⟩ v) k a b c d e := by
  obtain ⟨⟨h0, h1, h2, h3, h4⟩, k0, k1, k2, k3, k4⟩ := h
  refine ⟨⟨?_, ?_, ?_, ?_, ?_⟩, ?_, ?_, ?_, ?_, ?_⟩ <;> simp [go_sem, *]
/-- A file's store into a variable. -/
def set5F (W : World) (k : Nat) (a b c d e : Value) : World := ((((W.setCell ⟨k, 0, none⟩ a).setCell ⟨k, 1, none⟩ b).setCell ⟨k, 2, none⟩ c).setCell ⟨k, 3, none⟩ d).setCell ⟨k, 4, none⟩ e
/-- The variables other than one stay. -/
def KeepsF (g : Nat) (W W' : World) : Prop := ∀ k a b c d e, k ≠ g → k < W.heap.size → FVar W k a b c d e → FVar W' k a b c d e
/-- The blocks other than one are as they were. -/
def OnlyG (g : Nat) (w W : World) : Prop := ∀ k, k < w.heap.size → k ≠ g → W.heap[k]? = w.heap[k]?
theorem OnlyG.next {g : Nat} {w W W' : World} (h : OnlyG g w W) (hs : w.heap.size ≤ W.heap.size) (hb : Below W.heap.size W W') : OnlyG g w W' := fun k hk hne => (hb.block k (by omega)).trans (h k hk hne)
theorem OnlyG.set {g : Nat} {w W : World} (h : OnlyG g w W) (i : Nat) (v : Value) : OnlyG g w (W.setCell ⟨g, i, none⟩ v) := fun k hk hne => (Below.heap_setCell W _ v k hne).trans (h k hk hne)
def RunP (X : FileT) (gr B : Nat) (J : Value → Value → World → Prop) (w : World) (e : Ending) (w' : World) : Prop :=
  ∃ r : FileS × Int, X.s.asked X.long gr = r ∧ Below B w w' ∧
    (r.2 ≠ 0 ∧ e = .returned (.tuple #[.agg #[.slice X.F.A X.F.n X.F.c, .slice X.lA X.ln X.lc, .int .i64 r.1.fuse, .int .i64 r.1.fault, .bool r.1.off], .int .i64 r.2])
    ∨ r.2 = 0 ∧ ∃ v0 v1, J v0 v1 w' ∧ e = .returned (.tuple #[.agg #[v0, v1, .int .i64 r.1.fuse, .int .i64 r.1.fault, .bool r.1.off], .int .i64 0]))
def Var0 (X : FileT) (gr g : Nat) (W : World) : Prop := FVar W g (.slice X.F.A X.F.n X.F.c) (.slice X.lA X.ln X.lc) (.int .i64 X.fuse) (.int .i64 X.fault) (.bool X.off) ∧ W.cell? ⟨g, 5, none⟩ = some (.int .i64 (gr : Nat))
def Var4 (X : FileT) (g : Nat) (W : World) : Prop := FVar W g (.slice X.F.A X.F.n X.F.c) (.slice X.lA X.ln X.lc) (.int .i64 (tickN X.fuse)) (.int .i64 (tickN X.fault)) (.bool false)
def Phase (X : FileT) (gr g : Nat) (W : World) (k : Nat) : Prop :=
  k = 0 ∧ Var0 X gr g W ∨ k = 1 ∧ X.off = false ∧ Var0 X gr g W ∨ k = 2 ∧ X.off = false ∧ ¬ 524288 < X.long + gr ∧ Var0 X gr g W ∨
  k = 3 ∧ X.off = false ∧ ¬ 524288 < X.long + gr ∧ ¬ X.fault = 0 ∧ Var0 X gr g W ∨ k = 4 ∧ X.off = false ∧ ¬ 524288 < X.long + gr ∧ ¬ X.fault = 0 ∧ ¬ X.fuse = 0 ∧ Var4 X g W
theorem asked_1 {X : FileT} {gr : Nat} (h : X.off = true) : X.s.asked X.long gr = (⟨X.F.l, X.L.map (·.l), X.fuse, X.fault, X.off⟩, 10) := by
  unfold FileS.asked; exact if_pos h
theorem asked_2 {X : FileT} {gr : Nat} (h : X.off = false) (h2 : 524288 < X.long + gr) : X.s.asked X.long gr = (⟨X.F.l, X.L.map (·.l), X.fuse, X.fault, X.off⟩, 8) := by
  unfold FileS.asked; exact (if_neg (by show ¬ X.off = true; rw [h]; decide)).trans (if_pos h2)
theorem asked_3 {X : FileT} {gr : Nat} (h : X.off = false) (h2 : ¬ 524288 < X.long + gr) (h3 : X.fault = 0) : X.s.asked X.long gr = (⟨X.F.l, X.L.map (·.l), X.fuse, -1, X.off⟩, 9) := by
  unfold FileS.asked; exact (if_neg (by show ¬ X.off = true; rw [h]; decide)).trans ((if_neg h2).trans (if_pos h3))
theorem asked_4 {X : FileT} {gr : Nat} (h : X.off = false) (h2 : ¬ 524288 < X.long + gr) (h3 : ¬ X.fault = 0) (h4 : X.fuse = 0) : X.s.asked X.long gr = (⟨X.F.l, X.L.map (·.l), -1, tickN X.fault, true⟩, 10) := by
  unfold FileS.asked; exact (if_neg (by show ¬ X.off = true; rw [h]; decide)).trans ((if_neg h2).trans ((if_neg h3).trans (if_pos h4)))
theorem asked_5 {X : FileT} {gr : Nat} (h : X.off = false) (h2 : ¬ 524288 < X.long + gr) (h3 : ¬ X.fault = 0) (h4 : ¬ X.fuse = 0) : X.s.asked X.long gr = (⟨X.F.l, X.L.map (·.l), tickN X.fuse, tickN X.fault, false⟩, 0) := by
  unfold FileS.asked; exact (if_neg (by show ¬ X.off = true; rw [h]; decide)).trans ((if_neg h2).trans ((if_neg h3).trans ((if_neg h4).trans (by show ((⟨X.F.l, X.L.map (·.l), tickN X.fuse, tickN X.fault, X.off⟩, 0) : FileS × Int) = _; rw [h]))))
set_option maxRecDepth 20000 in
set_option maxHeartbeats 4000000 in
theorem run_any (X : FileT) (g gr B fw : Nat) (cap : Array Value) (J : Value → Value → World → Prop) (w : World) (h : FVar w g (.slice X.F.A X.F.n X.F.c) (.slice X.lA X.ln X.lc) (.int .i64 X.fuse) (.int .i64 X.fault) (.bool X.off)) (h5 : w.cell? ⟨g, 5, none⟩ = some (.int .i64 (gr : Nat))) (hL : LieF w B X) (hB : B ≤ g) (hg : g < w.heap.size) (hN : ∀ p ∈ X.Q, p.n ≤ 1048576) (hl : X.long ≤ 524288)
    (hcf : ∀ W, Sem.run Tryd.prog (callFunc fw cap) W = .ok (.enter fw cap) W)
    (hwork : ∀ W, FVar W g (.slice X.F.A X.F.n X.F.c) (.slice X.lA X.ln X.lc) (.int .i64 (tickN X.fuse)) (.int .i64 (tickN X.fault)) (.bool false) → Below B w W → w.heap.size + 2 ≤ W.heap.size → OnlyG g w W →
      Calls Tryd.prog fw cap W fun e W' => e = .returned (.tuple #[]) ∧ Below B W W' ∧ KeepsF g W W' ∧ ∃ A0 n0 c0 A1 n1 c1, FVar W' g (.slice A0 n0 c0) (.slice A1 n1 c1) (.int .i64 (tickN X.fuse)) (.int .i64 (tickN X.fault)) (.bool false) ∧ J (.slice A0 n0 c0) (.slice A1 n1 c1) W')
    (hJ : ∀ v0 v1 W a b c d e, J v0 v1 W → J v0 v1 (set5F W w.heap.size a b c d e)) :
    Calls Tryd.prog 39 #[.pointer (some ⟨g, 0, none⟩), .func (.func fw) #[] cap] w (RunP X gr B J w) := by
  have hmf : ∀ (fn : Fn) (first cap : Array Value) (w : World), (Instr.makeFunc fn first cap).run Tryd.prog w = .ok (.func fn first cap) w := fun _ _ _ _ => rfl
  go_enter Tryd.func39, Tryd.ntmps39
  go_upto_region 1 with fail
  go_step3
  go_upto_region 3 with fail
  have hb0 := ((Below.refl B w).alloc (by omega) (.cells #[.slice none 0 0, .slice none 0 0, .int .i64 0, .int .i64 0, .bool false] 25)).alloc (by simp; omega) (.cells #[.func (.func 58) #[.pointer (some ⟨g, 0, none⟩)] #[], .func (.func 59) #[.pointer (some ⟨g, 0, none⟩)] #[], .func (.func 60) #[.pointer (some ⟨g, 0, none⟩)] #[], .func (.func 61) #[.pointer (some ⟨g, 0, none⟩)] #[]] 90)
  have HX := bel_next (bel_alloc (Below.refl w.heap.size w) (.cells #[.slice none 0 0, .slice none 0 0, .int .i64 0, .int .i64 0, .bool false] 25)) (bel_alloc (Below.refl _ _) (.cells #[.func (.func 58) #[.pointer (some ⟨g, 0, none⟩)] #[], .func (.func 59) #[.pointer (some ⟨g, 0, none⟩)] #[], .func (.func 60) #[.pointer (some ⟨g, 0, none⟩)] #[], .func (.func 61) #[.pointer (some ⟨g, 0, none⟩)] #[]] 90))
  have HO0 := Lib.hid (show OnlyG g w ((w.alloc (.cells #[.slice none 0 0, .slice none 0 0, .int .i64 0, .int .i64 0, .bool false] 25)).alloc (.cells #[.func (.func 58) #[.pointer (some ⟨g, 0, none⟩)] #[], .func (.func 59) #[.pointer (some ⟨g, 0, none⟩)] #[], .func (.func 60) #[.pointer (some ⟨g, 0, none⟩)] #[], .func (.func 61) #[.pointer (some ⟨g, 0, none⟩)] #[]] 90)) from fun k hk _ => HX.block k hk)
  have hv0 : Var0 X gr g ((w.alloc (.cells #[.slice none 0 0, .slice none 0 0, .int .i64 0, .int .i64 0, .bool false] 25)).alloc (.cells #[.func (.func 58) #[.pointer (some ⟨g, 0, none⟩)] #[], .func (.func 59) #[.pointer (some ⟨g, 0, none⟩)] #[], .func (.func 60) #[.pointer (some ⟨g, 0, none⟩)] #[], .func (.func 61) #[.pointer (some ⟨g, 0, none⟩)] #[]] 90)) := ⟨h.later HX, kept_later HX h5⟩
  have hK0 : FVar ((w.alloc (.cells #[.slice none 0 0, .slice none 0 0, .int .i64 0, .int .i64 0, .bool false] 25)).alloc (.cells #[.func (.func 58) #[.pointer (some ⟨g, 0, none⟩)] #[], .func (.func 59) #[.pointer (some ⟨g, 0, none⟩)] #[], .func (.func 60) #[.pointer (some ⟨g, 0, none⟩)] #[], .func (.func 61) #[.pointer (some ⟨g, 0, none⟩)] #[]] 90)) w.heap.size (.slice none 0 0) (.slice none 0 0) (.int .i64 0) (.int .i64 0) (.bool false) := (FVar.new w _ _ _ _ _ _).later (bel_alloc (Below.refl _ _) _)
  have hs0 : w.heap.size + 2 ≤ ((w.alloc (.cells #[.slice none 0 0, .slice none 0 0, .int .i64 0, .int .i64 0, .bool false] 25)).alloc (.cells #[.func (.func 58) #[.pointer (some ⟨g, 0, none⟩)] #[], .func (.func 59) #[.pointer (some ⟨g, 0, none⟩)] #[], .func (.func 60) #[.pointer (some ⟨g, 0, none⟩)] #[], .func (.func 61) #[.pointer (some ⟨g, 0, none⟩)] #[]] 90)).heap.size := by simp
  have ix0 : ∀ W, (Instr.index 90 (.agg #[.func (.func 58) #[.pointer (some ⟨g, 0, none⟩)] #[], .func (.func 59) #[.pointer (some ⟨g, 0, none⟩)] #[], .func (.func 60) #[.pointer (some ⟨g, 0, none⟩)] #[], .func (.func 61) #[.pointer (some ⟨g, 0, none⟩)] #[]]) (.int .i64 0)).run Tryd.prog W = .ok (.func (.func 58) #[.pointer (some ⟨g, 0, none⟩)] #[]) W := fun _ => by kernel_rfl
  have ix1 : ∀ W, (Instr.index 90 (.agg #[.func (.func 58) #[.pointer (some ⟨g, 0, none⟩)] #[], .func (.func 59) #[.pointer (some ⟨g, 0, none⟩)] #[], .func (.func 60) #[.pointer (some ⟨g, 0, none⟩)] #[], .func (.func 61) #[.pointer (some ⟨g, 0, none⟩)] #[]]) (.int .i64 1)).run Tryd.prog W = .ok (.func (.func 59) #[.pointer (some ⟨g, 0, none⟩)] #[]) W := fun _ => by kernel_rfl
  have ix2 : ∀ W, (Instr.index 90 (.agg #[.func (.func 58) #[.pointer (some ⟨g, 0, none⟩)] #[], .func (.func 59) #[.pointer (some ⟨g, 0, none⟩)] #[], .func (.func 60) #[.pointer (some ⟨g, 0, none⟩)] #[], .func (.func 61) #[.pointer (some ⟨g, 0, none⟩)] #[]]) (.int .i64 2)).run Tryd.prog W = .ok (.func (.func 60) #[.pointer (some ⟨g, 0, none⟩)] #[]) W := fun _ => by kernel_rfl
  have ix3 : ∀ W, (Instr.index 90 (.agg #[.func (.func 58) #[.pointer (some ⟨g, 0, none⟩)] #[], .func (.func 59) #[.pointer (some ⟨g, 0, none⟩)] #[], .func (.func 60) #[.pointer (some ⟨g, 0, none⟩)] #[], .func (.func 61) #[.pointer (some ⟨g, 0, none⟩)] #[]]) (.int .i64 3)).run Tryd.prog W = .ok (.func (.func 61) #[.pointer (some ⟨g, 0, none⟩)] #[]) W := fun _ => by kernel_rfl
  go_step3
  go_wp2_with fail
  generalize (w.alloc (.cells #[.slice none 0 0, .slice none 0 0, .int .i64 0, .int .i64 0, .bool false] 25)).alloc (.cells #[.func (.func 58) #[.pointer (some ⟨g, 0, none⟩)] #[], .func (.func 59) #[.pointer (some ⟨g, 0, none⟩)] #[], .func (.func 60) #[.pointer (some ⟨g, 0, none⟩)] #[], .func (.func 61) #[.pointer (some ⟨g, 0, none⟩)] #[]] 90) = W0 at *
  clear h h5 HX
  have Hn := Lib.hid (Nat.ne_of_gt hg)
  have hBK : B ≤ w.heap.size := by omega
  have HL := Lib.hid hL
  have HN := Lib.hid hN
  have HW := Lib.hid hwork
  have HJ := Lib.hid hJ
  clear hL hN hwork hJ
  go_loopw [7, 9, 20] (fun er ck i wr => ∃ k : Nat, i = .int .i64 k ∧ k ≤ 4 ∧ er = .int .i64 0 ∧ Hid (Phase X gr g wr k) ∧ Below B w wr ∧ w.heap.size + 2 ≤ wr.heap.size ∧ Hid (FVar wr w.heap.size (.slice none 0 0) (.slice none 0 0) (.int .i64 0) (.int .i64 0) (.bool false)) ∧ Hid (OnlyG g w wr)) (fun _ _ i _ => 4 - (intOf i).toNat)
  case atStart => exact ⟨0, rfl, by omega, rfl, Lib.hid (.inl ⟨rfl, hv0⟩), hb0, hs0, Lib.hid hK0, HO0⟩
  case round =>
    obtain ⟨k, rfl, hk, rfl, HP, hb, hs, HK, HO⟩ := hrel
    rcases HP.out with ⟨rfl, hv⟩ | ⟨rfl, ho, hv⟩ | ⟨rfl, ho, hf, hv⟩ | ⟨rfl, ho, hf, hr, hv⟩ | ⟨rfl, ho, hf, hr, hu, hv⟩
    · by_cases ho : X.off = true
      · have hd := (dark_any g X.off wr hv.1.1.2.2.2.2).mono (R' := fun e w' => e = .returned (.int .i64 10) ∧ wr = w') (fun _ _ h => ⟨h.1.trans (by rw [if_pos ho]), h.2⟩)
        go_wp2_with fail
        refine hd.mono ?_
        rintro e w2 ⟨rfl, rfl⟩
        have HK2 := HK.out
        obtain ⟨⟨c0, c1, c2, c3, c4⟩, -⟩ := hv.1
        obtain ⟨⟨j0, j1, j2, j3, j4⟩, k0, k1, k2, k3, k4⟩ := HK2
        have hbe := fbelow_set5 (a := .slice X.F.A X.F.n X.F.c) (b := .slice X.lA X.ln X.lc) (c := .int .i64 X.fuse) (d := .int .i64 X.fault) (e := .bool X.off) hb hBK
        have hne : (10 : Int) ≠ 0 := by decide
        have hask := Lib.hid (asked_1 (gr := gr) ho)
        clear HP hv HK HW HJ HL HN hb0 hv0 hK0 ix0 ix1 ix2 ix3 hmf hb hs hs0 ho hd
        go_wp2
        rw [Exit.noGoto_ret]
        refine bodyPost_ret (v := .tuple #[.agg #[.slice X.F.A X.F.n X.F.c, .slice X.lA X.ln X.lc, .int .i64 X.fuse, .int .i64 X.fault, .bool X.off], .int .i64 10]) ?_ rfl ⟨_, hask.out, hbe, .inl ⟨hne, rfl⟩⟩
        simp [results, Tryd.results39, go_sem, *]
      · have ho' : X.off = false := by simpa using ho
        have hd := (dark_any g X.off wr hv.1.1.2.2.2.2).mono (R' := fun e w' => e = .returned (.int .i64 0) ∧ wr = w') (fun _ _ h => ⟨h.1.trans (by rw [if_neg ho]), h.2⟩)
        go_wp2_with fail
        refine hd.mono ?_
        rintro e w2 ⟨rfl, rfl⟩
        go_wp2_with fail
        go_roundw
        case rel => exact ⟨1, rfl, by omega, rfl, Lib.hid (.inr (.inl ⟨rfl, ho', hv⟩)), hb, hs, HK, HO⟩
        case measure => simp [intOf]
    · have hfl := full_any X g gr B wr hv.1.1 hv.2 (HL.out.later hb) (by omega) HN.out hl
      by_cases hf : 524288 < X.long + gr
      · have hd := hfl.mono (R' := fun e w' => e = .returned (.int .i64 8) ∧ Below wr.heap.size wr w') (fun _ _ h => ⟨h.1.trans (by rw [if_pos hf]), h.2⟩)
        clear hfl
        go_wp2_with fail
        refine hd.mono ?_
        rintro e w2 ⟨rfl, hb2⟩
        have HK2 := HK.out.later hb2
        have hv2 := hv.1.later hb2
        have hb3 := hb.trans (hb2.mono (by omega))
        obtain ⟨⟨c0, c1, c2, c3, c4⟩, -⟩ := hv2
        obtain ⟨⟨j0, j1, j2, j3, j4⟩, k0, k1, k2, k3, k4⟩ := HK2
        have hbe := fbelow_set5 (a := .slice X.F.A X.F.n X.F.c) (b := .slice X.lA X.ln X.lc) (c := .int .i64 X.fuse) (d := .int .i64 X.fault) (e := .bool X.off) hb3 hBK
        have hne : (8 : Int) ≠ 0 := by decide
        have hask := Lib.hid (asked_2 ho hf)
        clear HP hv HK HW HJ HL HN hb0 hv0 hK0 ix0 ix1 ix2 ix3 hmf hb hs hs0 ho hd hf
        go_wp2
        rw [Exit.noGoto_ret]
        refine bodyPost_ret (v := .tuple #[.agg #[.slice X.F.A X.F.n X.F.c, .slice X.lA X.ln X.lc, .int .i64 X.fuse, .int .i64 X.fault, .bool X.off], .int .i64 8]) ?_ rfl ⟨_, hask.out, hbe, .inl ⟨hne, rfl⟩⟩
        simp [results, Tryd.results39, go_sem, *]
      · have hd := hfl.mono (R' := fun e w' => e = .returned (.int .i64 0) ∧ Below wr.heap.size wr w') (fun _ _ h => ⟨h.1.trans (by rw [if_neg hf]), h.2⟩)
        clear hfl
        go_wp2_with fail
        refine hd.mono ?_
        rintro e w2 ⟨rfl, hb2⟩
        have HK2 := HK.out.later hb2
        have hv2 : Var0 X gr g w2 := ⟨hv.1.later hb2, kept_later hb2 hv.2⟩
        have hb3 := hb.trans (hb2.mono (by omega))
        have hs3 := Nat.le_trans hs hb2.size
        go_wp2_with fail
        go_roundw
        case rel => exact ⟨2, rfl, by omega, rfl, Lib.hid (.inr (.inr (.inl ⟨rfl, ho, hf, hv2⟩))), hb3, hs3, Lib.hid HK2, Lib.hid (HO.out.next (by omega) hb2)⟩
        case measure => simp [intOf]
    · by_cases hr : X.fault = 0
      · have hv1 := hv.1
        rw [hr] at hv1
        have hd := refused_no g wr hv1.1.2.2.2.1 hv1.2.2.2.2.1
        go_wp2_with fail
        refine hd.mono ?_
        rintro e w2 ⟨rfl, rfl⟩
        have HK2 := HK.out.other (g := g) (i := 3) (.int .i64 (-1)) Hn.out
        have hv2 := hv1.set3 (.int .i64 (-1))
        have hb3 := hb.setCell (p := ⟨g, 3, none⟩) hB (.int .i64 (-1))
        obtain ⟨⟨c0, c1, c2, c3, c4⟩, -⟩ := hv2
        obtain ⟨⟨j0, j1, j2, j3, j4⟩, k0, k1, k2, k3, k4⟩ := HK2
        have hbe := fbelow_set5 (a := .slice X.F.A X.F.n X.F.c) (b := .slice X.lA X.ln X.lc) (c := .int .i64 X.fuse) (d := .int .i64 (-1)) (e := .bool X.off) hb3 hBK
        have hne : (9 : Int) ≠ 0 := by decide
        have hask := Lib.hid (asked_3 ho hf hr)
        clear HP hv HK HW HJ HL HN hb0 hv0 hK0 ix0 ix1 ix2 ix3 hmf hb hs hs0 ho hd hf hr hv1
        go_wp2
        rw [Exit.noGoto_ret]
        refine bodyPost_ret (v := .tuple #[.agg #[.slice X.F.A X.F.n X.F.c, .slice X.lA X.ln X.lc, .int .i64 X.fuse, .int .i64 (-1), .bool X.off], .int .i64 9]) ?_ rfl ⟨_, hask.out, hbe, .inl ⟨hne, rfl⟩⟩
        simp [results, Tryd.results39, go_sem, *]
      · have hd := refused_yes g X.fault wr hv.1.1.2.2.2.1 (by simpa using hr)
        go_wp2_with fail
        refine hd.mono ?_
        rintro e w2 ⟨rfl, rfl⟩
        go_wp2_with fail
        go_roundw
        case rel => exact ⟨3, rfl, by omega, rfl, Lib.hid (.inr (.inr (.inr (.inl ⟨rfl, ho, hf, hr, hv⟩)))), hb, hs, HK, HO⟩
        case measure => simp [intOf]
    · by_cases hu : X.fuse = 0
      · have hv1 := hv.1
        rw [hu] at hv1
        have hd := lost_no g X.fault X.off wr HL.out.fault hv1.1.2.2.2.1 hv1.2.2.2.2.1 hv1.1.2.2.1 hv1.2.2.2.1 hv1.1.2.2.2.2 hv1.2.2.2.2.2
        go_wp2_with fail
        refine hd.mono ?_
        rintro e w2 ⟨rfl, rfl⟩
        have HK2 := ((HK.out.other (g := g) (i := 3) (.int .i64 (tickN X.fault)) Hn.out).other (g := g) (i := 2) (.int .i64 (-1)) Hn.out).other (g := g) (i := 4) (.bool true) Hn.out
        have hv2 := ((hv1.set3 (.int .i64 (tickN X.fault))).set2 (.int .i64 (-1))).set4 (.bool true)
        have hb3 := ((hb.setCell (p := ⟨g, 3, none⟩) hB (.int .i64 (tickN X.fault))).setCell (p := ⟨g, 2, none⟩) hB (.int .i64 (-1))).setCell (p := ⟨g, 4, none⟩) hB (.bool true)
        obtain ⟨⟨c0, c1, c2, c3, c4⟩, -⟩ := hv2
        obtain ⟨⟨j0, j1, j2, j3, j4⟩, k0, k1, k2, k3, k4⟩ := HK2
        have hbe := fbelow_set5 (a := .slice X.F.A X.F.n X.F.c) (b := .slice X.lA X.ln X.lc) (c := .int .i64 (-1)) (d := .int .i64 (tickN X.fault)) (e := .bool true) hb3 hBK
        have hne : (10 : Int) ≠ 0 := by decide
        have hask := Lib.hid (asked_4 ho hf hr hu)
        clear HP hv HK HW HJ HL HN hb0 hv0 hK0 ix0 ix1 ix2 ix3 hmf hb hs hs0 ho hd hf hr hu hv1
        go_wp2
        rw [Exit.noGoto_ret]
        refine bodyPost_ret (v := .tuple #[.agg #[.slice X.F.A X.F.n X.F.c, .slice X.lA X.ln X.lc, .int .i64 (-1), .int .i64 (tickN X.fault), .bool true], .int .i64 10]) ?_ rfl ⟨_, hask.out, hbe, .inl ⟨hne, rfl⟩⟩
        simp [results, Tryd.results39, go_sem, *]
      · have hd := lost_yes g X.fault X.fuse wr HL.out.fault HL.out.fuse hv.1.1.2.2.2.1 hv.1.2.2.2.2.1 hv.1.1.2.2.1 hv.1.2.2.2.1 (by simpa using hu)
        go_wp2_with fail
        refine hd.mono ?_
        rintro e w2 ⟨rfl, rfl⟩
        have HK2 := (HK.out.other (g := g) (i := 3) (.int .i64 (tickN X.fault)) Hn.out).other (g := g) (i := 2) (.int .i64 (tickN X.fuse)) Hn.out
        have hv2 : Var4 X g ((wr.setCell ⟨g, 3, none⟩ (.int .i64 (tickN X.fault))).setCell ⟨g, 2, none⟩ (.int .i64 (tickN X.fuse))) := by have := (hv.1.set3 (.int .i64 (tickN X.fault))).set2 (.int .i64 (tickN X.fuse)); rw [ho] at this; exact this
        have hb3 := (hb.setCell (p := ⟨g, 3, none⟩) hB (.int .i64 (tickN X.fault))).setCell (p := ⟨g, 2, none⟩) hB (.int .i64 (tickN X.fuse))
        have hs3 : w.heap.size + 2 ≤ ((wr.setCell ⟨g, 3, none⟩ (.int .i64 (tickN X.fault))).setCell ⟨g, 2, none⟩ (.int .i64 (tickN X.fuse))).heap.size := by simpa using hs
        clear hv
        go_wp2_with fail
        go_roundw
        case rel => exact ⟨4, rfl, by omega, rfl, Lib.hid (.inr (.inr (.inr (.inr ⟨rfl, ho, hf, hr, hu, hv2⟩)))), hb3, hs3, Lib.hid HK2, Lib.hid ((HO.out.set 3 (.int .i64 (tickN X.fault))).set 2 (.int .i64 (tickN X.fuse)))⟩
        case measure => simp [intOf]
    · have hd := HW.out wr hv hb hs HO.out
      go_wp2_with fail
      refine hd.mono ?_
      rintro e w2 ⟨rfl, hb2, hkp, A0, n0, q0, A1, n1, q1, hv2, hj⟩
      have HK2 := hkp _ _ _ _ _ _ Hn.out (by omega) HK.out
      have hb3 := hb.trans hb2
      have HJ2 := Lib.hid (HJ.out _ _ w2 (.slice A0 n0 q0) (.slice A1 n1 q1) (.int .i64 (tickN X.fuse)) (.int .i64 (tickN X.fault)) (.bool false) hj)
      clear hd hkp hj hb2
      obtain ⟨⟨c0, c1, c2, c3, c4⟩, -⟩ := hv2
      obtain ⟨⟨j0, j1, j2, j3, j4⟩, k0, k1, k2, k3, k4⟩ := HK2
      have hbe := fbelow_set5 (a := .slice A0 n0 q0) (b := .slice A1 n1 q1) (c := .int .i64 (tickN X.fuse)) (d := .int .i64 (tickN X.fault)) (e := .bool false) hb3 hBK
      have hask := Lib.hid (asked_5 (gr := gr) ho hf hr hu)
      clear HP hv HK HW HJ HL HN hb0 hv0 hK0 ix0 ix1 ix2 ix3 hmf hb hs hs0 ho hf hr hu
      go_wp2
      rw [Exit.noGoto_ret]
      refine bodyPost_ret (v := .tuple #[.agg #[.slice A0 n0 q0, .slice A1 n1 q1, .int .i64 (tickN X.fuse), .int .i64 (tickN X.fault), .bool false], .int .i64 0]) ?_ rfl ⟨_, hask.out, hbe, .inr ⟨rfl, _, _, HJ2.out, rfl⟩⟩
      simp [results, Tryd.results39, go_sem, *]
end Go.Proofs.YtghmehfmchadoaaDoor
/-
  Layer 10: the work of an Append: one piece more.
-/
namespace Go.Proofs.YtghmehfmchadoaaDoor
open Go.RowKit
set_option linter.unusedVariables false

section
variable {P : Program} {w : World} {o : Oper} {a : Act} {K : Act → World → Prop} {Q : Exit → Act → World → Prop}
theorem shows_new' (w : World) (C : Array Value) (t : TypeId) (m size : Nat) (hl : C.toList.length = m * size) : Shows (w.alloc (.cells C t)) (w.heap.size + 1) size (some ⟨w.heap.size, 0, none⟩) m C.toList :=
  ⟨hl, fun _ => ⟨w.heap.size, 0, rfl, by omega, fun j u hu => by rw [Nat.zero_add, World.cell?_alloc_new]; simpa using hu⟩⟩
/-- '[]T{x}'. -/
theorem step_row1' (t e : TypeId) (x : Operand) (ho : o.op = .buildSlice t 1 #[(0, x)]) (size : Nat) (i : TypeInfo) (z : Value) (ht : P.underlying t = some (.slice e)) (hi : P.info? e = some i) (hz : i.zero = some z) (hsize : i.size = size)
    (v : Value) (hx : a.eval x = v) (cells : Array Value) (hf : Instr.fill (fun q => some (q * size, size)) ((Array.range (1 * size)).map (z.cells[· % z.cells.size]!)) [(0, v)] = some cells) (hcs : cells.toList.length = 1 * size) (h0 : ¬ 1 * size = 0) (h24 : ¬ 1 * size > 2 ^ 24)
    (h : ∀ g w', w.heap.size ≤ g → Shows w' (g + 1) size (some ⟨g, 0, none⟩) 1 cells.toList → g + 1 ≤ w'.heap.size → Below w.heap.size w w' → K (a.put o.dst (.slice (some ⟨g, 0, none⟩) 1 1)) w') : o.wp P a w K Q := by
  refine wp_buildSlice t e 1 #[(0, x)] ho cells i z ht hi hz (by rw [hsize]; exact h24) (by rw [hsize]; exact h0) (by rw [hsize]; simpa [hx] using hf) ?_
  exact h w.heap.size (w.alloc (.cells cells e)) (Nat.le_refl _) (shows_new' w cells e 1 size hcs) (by rw [World.size_alloc]; exact Nat.le_refl _) ((Below.refl _ _).alloc (Nat.le_refl _) _)
/-- append of a row onto a slice that has no room: a new row. -/
theorem step_appF (s x : Operand) (t : TypeId) (ho : o.op = .call { callee := .builtin .append, args := #[s, x], argTypes := #[t, t] })
    (base : Nat) (e : TypeId) (i : TypeInfo) (z : Value) (size bytes : Nat) (ht : P.underlying t = some (.slice e)) (hi : P.info? e = some i) (hz : i.zero = some z)
    (hsize : i.size = size) (hby : i.bytes = bytes) (hzs : z.cells.size = size) (hsz : 0 < size)
    (B : Nat) (A : Option Addr) (n : Nat) (xs : List Value) (hs : a.eval s = .slice A n n) (hxs : Shows w B size A n xs)
    {B2 g m : Nat} {news : List Value} {c : Nat} (hr : Shows w B2 size (some ⟨g, 0, none⟩) (m + 1) news) (h1 : ∀ u ∈ news, u.oneCell' = true) (hx : a.eval x = .slice (some ⟨g, 0, none⟩) (m + 1) c)
    (h63 : n + (m + 1) ≤ maxLen) (hbytes : (n + (m + 1)) * bytes ≤ 140737488355328) (hbase : base ≤ w.heap.size)
    (h : ∀ A' c' w', w'.ownsRow base e size (.slice A' (n + (m + 1)) c') (n + (m + 1)) (xs ++ news) → Below w.heap.size w w' → K (a.put o.dst (.slice A' (n + (m + 1)) c')) w') : o.wp P a w K Q := by
  rcases A with _ | ⟨b, off, sp⟩
  · have h0 : n = 0 := by
      rcases Nat.eq_zero_or_pos n with h0 | h0
      · exact h0
      · obtain ⟨_, _, h, _⟩ := hxs.2 h0
        cases h
    subst h0
    obtain rfl : xs = [] := List.eq_nil_of_length_eq_zero (by simpa using hxs.1)
    refine wp_append_shows w s x t ho base e i z size bytes ht hi hz hsize hby hzs hsz (.slice none 0 0) 0 [] hs (World.ownsRow_nil _ _ _ _) B2 _ (m + 1) c news hx hr h1 h63 hbytes hbase ?_
    intro A' c' w' ho' hg hB
    exact h A' c' w' ho' ⟨hg.os, hg.tape, hg.output, hg.size, fun k hk => hg.block k hk (by simp [Value.ownBlock])⟩
  · have hold : ∀ j u, xs[j]? = some u → w.cell? ((⟨b, off, sp⟩ : Addr).add j) = some u := by
      intro j u hu
      have hn : 0 < n := by
        rcases Nat.eq_zero_or_pos n with h0 | h0
        · subst h0
          obtain rfl : xs = [] := List.eq_nil_of_length_eq_zero (by simpa using hxs.1)
          simp at hu
        · exact h0
      obtain ⟨b', off', e', _, hc⟩ := hxs.2 hn
      obtain ⟨rfl, rfl, rfl⟩ : b = b' ∧ off = off' ∧ sp = none := by simpa using e'
      rw [addr_add]
      exact hc j u hu
    obtain ⟨b', off', e', _, hc⟩ := hr.2 (by omega)
    obtain ⟨rfl, rfl⟩ : g = b' ∧ 0 = off' := by simpa using e'
    obtain ⟨v', w', hrun, r1, r2⟩ := run_append_arg_grows (P := P) w t o.type e i z size bytes ht hi hz hsize hby hzs hsz ⟨b, off, sp⟩ n n xs hxs.1 hold ⟨g, 0, none⟩ (m + 1) c news hr.1 (fun j u hu => by rw [addr_add]; exact hc j u hu) (by omega) h63 hbytes
    unfold Oper.wp
    simp only [execOp, ho, resolve, invoke, builtin, hs, hx, hrun, Sem.run_bind, Sem.run_pure, Result.andThen_ok, List.map_toArray, List.map_cons, List.map_nil]
    have r1' : w'.ownsRow base e size v' (n + (m + 1)) (xs ++ news) := own_base r1 hbase
    obtain ⟨A', c', rfl, _, _⟩ := own_form r1'
    exact h A' c' w' r1' ⟨r2.os, r2.tape, r2.output, r2.size, fun k hk => r2.block k hk (by simp)⟩
end
/-- All blocks but one are as they were, and those below. -/
structure SAg (g B : Nat) (w W : World) : Prop where
  o : OnlyG g w W
  b : Below B w W
  s : B ≤ w.heap.size
theorem SAg.cell {g B : Nat} {w W : World} (h : SAg g B w W) {k i : Nat} (hk : k < w.heap.size) (hne : k ≠ g) : W.cell? ⟨k, i, none⟩ = w.cell? ⟨k, i, none⟩ := World.cell?_of_block (h.o k hk hne)
theorem SAg.next {g B : Nat} {w W W' : World} (h : SAg g B w W) (hb : Below W.heap.size W W') : SAg g B w W' := ⟨h.o.next h.b.size hb, h.b.trans (hb.mono (Nat.le_trans h.s h.b.size)), h.s⟩
theorem SAg.set {g B i : Nat} {w W : World} {v u : Value} (h : SAg g B w W) (hc : W.cell? ⟨g, i, none⟩ = some u) (hB : B ≤ g) : SAg g B w (W.setCell ⟨g, i, none⟩ v) := ⟨h.o.set i v, h.b.setCell hB v, h.s⟩
theorem slice_info : ∃ i, Tryd.prog.info? 22 = some i ∧ i.zero = some (.slice none 0 0) ∧ i.size = 1 ∧ i.bytes = 24 := ⟨Tryd.t22, by kernel_rfl, by kernel_rfl, by kernel_rfl, by kernel_rfl⟩
theorem fill_p {A : Option Addr} {n c : Nat} : Instr.fill (fun q => some (q * 1, 1)) ((Array.range (1 * 1)).map ((Value.slice none 0 0).cells[· % (Value.slice none 0 0).cells.size]!)) [(0, .slice A n c)] = some #[.slice A n c] := by
  have e : Array.range (1 * 1) = #[0] := by first | rfl | decide
  rw [e]
  simp [Instr.fill, Value.cells]
set_option maxRecDepth 20000 in
set_option maxHeartbeats 4000000 in
theorem work1_any (g b1 b3 B D n lc bn bc : Nat) (A bA : Option Addr) (L : List Value) (fa fu fl : Value) (J : Ending → World → Prop) (w : World)
    (hV : FVar w g fa (.slice A n lc) fu fl (.bool false)) (h1 : w.cell? ⟨b1, 0, none⟩ = some (.pointer (some ⟨g, 0, none⟩))) (h3 : w.cell? ⟨b3, 0, none⟩ = some (.slice bA bn bc))
    (hg1 : b1 ≠ g) (hg3 : b3 ≠ g) (hBg : B ≤ g) (hBW : B ≤ w.heap.size) (hWs : D ≤ w.heap.size) (hRow : Shows w B 1 A n L) (hnl : n ≤ lc) (hn6 : n ≤ 600000) (hbn : bn ≤ bc) (hbm : bn ≤ maxLen)
    (hEnd : ∀ A' c' W, W.ownsRow D 22 1 (.slice A' (n + 1) c') (n + 1) (L ++ [.slice bA bn bn]) → Below w.heap.size w W → FVar W g fa (.slice A n lc) fu fl (.bool false) → J (.returned (.tuple #[])) (W.setCell ⟨g, 1, none⟩ (.slice A' (n + 1) c'))) :
    Calls Tryd.prog 40 #[.pointer (some ⟨b1, 0, none⟩), .pointer (some ⟨b3, 0, none⟩)] w J := by
  obtain ⟨iP, hiP, hzP, hsP, hbP⟩ := slice_info
  have hl1 := World.block_lt_of_cell? w _ h1
  have hl3 := World.block_lt_of_cell? w _ h3
  have hn : n + (0 + 1) ≤ maxLen := by unfold maxLen; omega
  unfold maxLen at hbm
  have x1 : ∀ W, SAg g B w W → W.cell? ⟨b1, 0, none⟩ = some (.pointer (some ⟨g, 0, none⟩)) := fun W h => (h.cell hl1 hg1).trans h1
  have x3 : ∀ W, SAg g B w W → W.cell? ⟨b3, 0, none⟩ = some (.slice bA bn bc) := fun W h => (h.cell hl3 hg3).trans h3
  have xV : ∀ W, Below w.heap.size w W → FVar W g fa (.slice A n lc) fu fl (.bool false) := fun W h => hV.later h
  obtain ⟨⟨v0, v1, v2, v3, v4⟩, -⟩ := hV
  have i1 : (0 : Int) ≤ (n : Int) := by omega
  have i2 : (n : Int) ≤ (lc : Int) := by omega
  have i3 : (0 : Int) ≤ (bn : Int) := by omega
  have i4 : (bn : Int) ≤ (bc : Int) := by omega
  have HS0 : SAg g B w (w.drewN 1) := ⟨fun k hk _ => rfl, below_drewN (Below.refl _ _) 1, hBW⟩
  have hbw : Below w.heap.size w (w.drewN 1) := below_drewN (Below.refl _ _) 1
  go_enter Tryd.func40, Tryd.ntmps40
  go_upto_region 1 with fail
  clear v0 v2 v3 v4 h1 h3
  refine wp_region_held_drew (S := fun W => SAg g B w W) (by kernel_rfl) HS0 (fun hHeld => ?_)
  refine rg_in 0 rfl (by kernel_rfl) (by kernel_rfl) (by kernel_rfl) (by rfl) (v := ?_) (fun _ _ _ h => h) hHeld (fun w hSw => ?_) ?_
  rotate_left
  · (try dsimp only at hSw); go_simp <;> (with_reducible rfl)
  (try simp only [Act.put, List.setIfInBounds_toArray, List.set_cons_zero, List.set_cons_succ])
  refine rg_in 1 rfl (by kernel_rfl) (by kernel_rfl) (by kernel_rfl) (by rfl) (v := ?_) (fun _ _ _ h => h) hHeld (fun w hSw => ?_) ?_
  rotate_left
  · (try dsimp only at hSw); go_simp <;> (with_reducible rfl)
  (try simp only [Act.put, List.setIfInBounds_toArray, List.set_cons_zero, List.set_cons_succ])
  refine rg_in 2 rfl (by kernel_rfl) (by kernel_rfl) (by kernel_rfl) (by rfl) (v := ?_) (fun _ _ _ h => h) hHeld (fun w hSw => ?_) ?_
  rotate_left
  · (try dsimp only at hSw); go_simp <;> (with_reducible rfl)
  (try simp only [Act.put, List.setIfInBounds_toArray, List.set_cons_zero, List.set_cons_succ])
  refine rg_in 3 rfl (by kernel_rfl) (by kernel_rfl) (by kernel_rfl) (by rfl) (v := ?_) (fun _ _ _ h => h) hHeld (fun w hSw => ?_) ?_
  rotate_left
  · (try dsimp only at hSw); go_simp <;> (with_reducible rfl)
  (try simp only [Act.put, List.setIfInBounds_toArray, List.set_cons_zero, List.set_cons_succ])
  refine rg_in 4 rfl (by kernel_rfl) (by kernel_rfl) (by kernel_rfl) (by rfl) (v := ?_) (fun _ _ _ h => h) hHeld (fun w hSw => ?_) ?_
  rotate_left
  · (try dsimp only at hSw); go_simp <;> (with_reducible rfl)
  (try simp only [Act.put, List.setIfInBounds_toArray, List.set_cons_zero, List.set_cons_succ])
  refine rg_in 6 rfl (by kernel_rfl) (by kernel_rfl) (by kernel_rfl) (by rfl) (v := ?_) (fun _ _ _ h => h) hHeld (fun w hSw => ?_) ?_
  rotate_left
  · (try dsimp only at hSw); go_simp <;> (with_reducible rfl)
  (try simp only [Act.put, List.setIfInBounds_toArray, List.set_cons_zero, List.set_cons_succ])
  refine rg_in 7 rfl (by kernel_rfl) (by kernel_rfl) (by kernel_rfl) (by rfl) (v := ?_) (fun _ _ _ h => h) hHeld (fun w hSw => ?_) ?_
  rotate_left
  · (try dsimp only at hSw); go_simp <;> (with_reducible rfl)
  (try simp only [Act.put, List.setIfInBounds_toArray, List.set_cons_zero, List.set_cons_succ])
  refine rg_in 9 rfl (by kernel_rfl) (by kernel_rfl) (by kernel_rfl) (by rfl) (v := ?_) (fun _ _ _ h => h) hHeld (fun w hSw => ?_) ?_
  rotate_left
  · (try dsimp only at hSw); go_simp <;> (with_reducible rfl)
  (try simp only [Act.put, List.setIfInBounds_toArray, List.set_cons_zero, List.set_cons_succ])
  refine rg_in 10 rfl (by kernel_rfl) (by kernel_rfl) (by kernel_rfl) (by rfl) (v := ?_) (fun _ _ _ h => h) hHeld (fun w hSw => ?_) ?_
  rotate_left
  · (try dsimp only at hSw); go_simp <;> (with_reducible rfl)
  (try simp only [Act.put, List.setIfInBounds_toArray, List.set_cons_zero, List.set_cons_succ])
  refine rg_in 11 rfl (by kernel_rfl) (by kernel_rfl) (by kernel_rfl) (by rfl) (v := ?_) (fun _ _ _ h => h) hHeld (fun w hSw => ?_) ?_
  rotate_left
  · (try dsimp only at hSw); go_simp <;> (with_reducible rfl)
  (try simp only [Act.put, List.setIfInBounds_toArray, List.set_cons_zero, List.set_cons_succ])
  refine rg_in 12 rfl (by kernel_rfl) (by kernel_rfl) (by kernel_rfl) (by rfl) (v := ?_) (fun _ _ _ h => h) hHeld (fun w hSw => ?_) ?_
  rotate_left
  · (try dsimp only at hSw); go_simp <;> (with_reducible rfl)
  (try simp only [Act.put, List.setIfInBounds_toArray, List.set_cons_zero, List.set_cons_succ])
  refine rg_in 13 rfl (by kernel_rfl) (by kernel_rfl) (by kernel_rfl) (by rfl) (v := ?_) (fun _ _ _ h => h) hHeld (fun w hSw => ?_) ?_
  rotate_left
  · (try dsimp only at hSw); go_simp <;> (with_reducible rfl)
  (try simp only [Act.put, List.setIfInBounds_toArray, List.set_cons_zero, List.set_cons_succ])
  refine rg_in 14 rfl (by kernel_rfl) (by kernel_rfl) (by kernel_rfl) (by rfl) (v := ?_) (fun _ _ _ h => h) hHeld (fun w hSw => ?_) ?_
  rotate_left
  · (try dsimp only at hSw); go_simp <;> (with_reducible rfl)
  (try simp only [Act.put, List.setIfInBounds_toArray, List.set_cons_zero, List.set_cons_succ])
  refine wpAnyH_ready (rs := [5, 15]) (by kernel_rfl) (by simp) ?_
  refine rg_cons rfl (by rfl) (fun K hK => ?_) ?_
  · have hcl := (xV _ hbw).1.2.1
    go_simp
    clear hcl
    refine hK.out _ _ hHeld (fun hHeld => ?_)
    clear hK K
    (try simp only [Act.put, List.setIfInBounds_toArray, List.set_cons_zero, List.set_cons_succ])
    refine rg_in 8 rfl (by kernel_rfl) (by kernel_rfl) (by kernel_rfl) (by rfl) (v := ?_) (fun _ _ _ h => h) hHeld (fun w hSw => ?_) ?_
    rotate_left
    · (try dsimp only at hSw); go_simp <;> (with_reducible rfl)
    (try simp only [Act.put, List.setIfInBounds_toArray, List.set_cons_zero, List.set_cons_succ])
    refine rg_do 15 rfl (by kernel_rfl) (by rfl) (fun K hK => ?_)
    refine step_row1' 23 22 _ rfl 1 iP (.slice none 0 0) Tryd.underlying23 hiP hzP hsP (.slice bA bn bn) rfl #[.slice bA bn bn] fill_p rfl (by decide) (by decide) ?_
    intro g115 w115 hge15 sh15 hl15 hb15
    refine hK.out _ _ (SAg.next hHeld hb15) (fun hHeld => ?_)
    clear hK K
    (try simp only [Act.put, List.setIfInBounds_toArray, List.set_cons_zero, List.set_cons_succ])
    refine rg_do 16 rfl (by kernel_rfl) (by rfl) (fun K hK => ?_)
    refine step_appF _ _ 23 rfl D 22 iP (.slice none 0 0) 1 24 Tryd.underlying23 hiP hzP hsP hbP rfl (by decide) B A n L rfl (hRow.below ((bel_next hbw hb15).mono hBW)) (sh15.below ((Below.refl _ _).mono hl15)) (by intro u hu; rcases List.mem_singleton.1 hu with rfl; rfl) rfl hn (by omega) (Nat.le_trans hWs (bel_next hbw hb15).size) ?_
    intro A116 c116 w116 own16 hb16
    refine hK.out _ _ (SAg.next hHeld hb16) (fun hHeld => ?_)
    clear hK K
    (try simp only [Act.put, List.setIfInBounds_toArray, List.set_cons_zero, List.set_cons_succ])
    refine rg_in 17 rfl (by kernel_rfl) (by kernel_rfl) (by kernel_rfl) (by rfl) (v := ?_) (fun _ _ _ h => h) hHeld (fun w hSw => ?_) ?_
    rotate_left
    · (try dsimp only at hSw); go_simp <;> (with_reducible rfl)
    (try simp only [Act.put, List.setIfInBounds_toArray, List.set_cons_zero, List.set_cons_succ])
    refine rg_in 18 rfl (by kernel_rfl) (by kernel_rfl) (by kernel_rfl) (by rfl) (v := ?_) (fun _ _ _ h => h) hHeld (fun w hSw => ?_) ?_
    rotate_left
    · (try dsimp only at hSw); go_simp <;> (with_reducible rfl)
    (try simp only [Act.put, List.setIfInBounds_toArray, List.set_cons_zero, List.set_cons_succ])
    refine rg_in 19 rfl (by kernel_rfl) (by kernel_rfl) (by kernel_rfl) (by rfl) (v := ?_) (fun _ _ _ h => h) hHeld (fun w hSw => ?_) ?_
    rotate_left
    · (try dsimp only at hSw); go_simp <;> (with_reducible rfl)
    (try simp only [Act.put, List.setIfInBounds_toArray, List.set_cons_zero, List.set_cons_succ])
    refine rg_do 20 rfl (by kernel_rfl) (by rfl) (fun K hK => ?_)
    have hV := xV _ (bel_next (bel_next hbw hb15) hb16)
    have hcl := hV.1.2.1
    have hcf := hV.2.2.1
    go_simp
    clear hcl hcf
    refine hK.out _ _ (SAg.set hHeld hV.1.2.1 hBg) (fun hHeld => ?_)
    clear hK K
    (try simp only [Act.put, List.setIfInBounds_toArray, List.set_cons_zero, List.set_cons_succ])
    refine wpAnyH_done (by kernel_rfl) ?_ _
    have hV2 := xV _ (bel_next (bel_next hbw hb15) hb16)
    have hbe := (bel_next (bel_next hbw hb15) hb16)
    clear x1 x3 xV hRow
    go_wp2
    go_end0
    exact hEnd _ _ _ own16 hbe hV2
  refine rg_cons rfl (by rfl) (fun K hK => ?_) ?_
  · refine step_row1' 23 22 _ rfl 1 iP (.slice none 0 0) Tryd.underlying23 hiP hzP hsP (.slice bA bn bn) rfl #[.slice bA bn bn] fill_p rfl (by decide) (by decide) ?_
    intro g115 w115 hge15 sh15 hl15 hb15
    refine hK.out _ _ (SAg.next hHeld hb15) (fun hHeld => ?_)
    clear hK K
    (try simp only [Act.put, List.setIfInBounds_toArray, List.set_cons_zero, List.set_cons_succ])
    refine rg_do 5 rfl (by kernel_rfl) (by rfl) (fun K hK => ?_)
    have hcl := (xV _ (bel_next hbw hb15)).1.2.1
    go_simp
    clear hcl
    refine hK.out _ _ hHeld (fun hHeld => ?_)
    clear hK K
    (try simp only [Act.put, List.setIfInBounds_toArray, List.set_cons_zero, List.set_cons_succ])
    refine rg_in 8 rfl (by kernel_rfl) (by kernel_rfl) (by kernel_rfl) (by rfl) (v := ?_) (fun _ _ _ h => h) hHeld (fun w hSw => ?_) ?_
    rotate_left
    · (try dsimp only at hSw); go_simp <;> (with_reducible rfl)
    (try simp only [Act.put, List.setIfInBounds_toArray, List.set_cons_zero, List.set_cons_succ])
    refine rg_do 16 rfl (by kernel_rfl) (by rfl) (fun K hK => ?_)
    refine step_appF _ _ 23 rfl D 22 iP (.slice none 0 0) 1 24 Tryd.underlying23 hiP hzP hsP hbP rfl (by decide) B A n L rfl (hRow.below ((bel_next hbw hb15).mono hBW)) (sh15.below ((Below.refl _ _).mono hl15)) (by intro u hu; rcases List.mem_singleton.1 hu with rfl; rfl) rfl hn (by omega) (Nat.le_trans hWs (bel_next hbw hb15).size) ?_
    intro A116 c116 w116 own16 hb16
    refine hK.out _ _ (SAg.next hHeld hb16) (fun hHeld => ?_)
    clear hK K
    (try simp only [Act.put, List.setIfInBounds_toArray, List.set_cons_zero, List.set_cons_succ])
    refine rg_in 17 rfl (by kernel_rfl) (by kernel_rfl) (by kernel_rfl) (by rfl) (v := ?_) (fun _ _ _ h => h) hHeld (fun w hSw => ?_) ?_
    rotate_left
    · (try dsimp only at hSw); go_simp <;> (with_reducible rfl)
    (try simp only [Act.put, List.setIfInBounds_toArray, List.set_cons_zero, List.set_cons_succ])
    refine rg_in 18 rfl (by kernel_rfl) (by kernel_rfl) (by kernel_rfl) (by rfl) (v := ?_) (fun _ _ _ h => h) hHeld (fun w hSw => ?_) ?_
    rotate_left
    · (try dsimp only at hSw); go_simp <;> (with_reducible rfl)
    (try simp only [Act.put, List.setIfInBounds_toArray, List.set_cons_zero, List.set_cons_succ])
    refine rg_in 19 rfl (by kernel_rfl) (by kernel_rfl) (by kernel_rfl) (by rfl) (v := ?_) (fun _ _ _ h => h) hHeld (fun w hSw => ?_) ?_
    rotate_left
    · (try dsimp only at hSw); go_simp <;> (with_reducible rfl)
    (try simp only [Act.put, List.setIfInBounds_toArray, List.set_cons_zero, List.set_cons_succ])
    refine rg_do 20 rfl (by kernel_rfl) (by rfl) (fun K hK => ?_)
    have hV := xV _ (bel_next (bel_next hbw hb15) hb16)
    have hcl := hV.1.2.1
    have hcf := hV.2.2.1
    go_simp
    clear hcl hcf
    refine hK.out _ _ (SAg.set hHeld hV.1.2.1 hBg) (fun hHeld => ?_)
    clear hK K
    (try simp only [Act.put, List.setIfInBounds_toArray, List.set_cons_zero, List.set_cons_succ])
    refine wpAnyH_done (by kernel_rfl) ?_ _
    have hV2 := xV _ (bel_next (bel_next hbw hb15) hb16)
    have hbe := (bel_next (bel_next hbw hb15) hb16)
    clear x1 x3 xV hRow
    go_wp2
    go_end0
    exact hEnd _ _ _ own16 hbe hV2
  exact AllReadyH.nil
end Go.Proofs.YtghmehfmchadoaaDoor
/-
  Layer 10, plain: what operations make of a file; a loss of power piece by piece and byte by byte. No program in sight.
-/
namespace Go.Proofs.YtghmehfmchadoaaDoor
open Go.RowKit
set_option linter.unusedVariables false

def FileS.all (X : FileS) : List UInt8 := X.firm ++ X.loose.flatten
def FileS.append (X : FileS) (long : Nat) (b : List UInt8) : FileS × Int :=
  if (X.asked long b.length).2 = 0 then ({ (X.asked long b.length).1 with loose := X.loose ++ [b] }, 0) else X.asked long b.length
def FileS.sync (X : FileS) (long : Nat) : FileS × Int :=
  if (X.asked long 0).2 = 0 then ({ (X.asked long 0).1 with firm := X.all, loose := [] }, 0) else X.asked long 0
theorem asked_same (X : FileS) (long more : Nat) : (X.asked long more).1.firm = X.firm ∧ (X.asked long more).1.loose = X.loose := by
  unfold FileS.asked
  split
  · exact ⟨rfl, rfl⟩
  · split
    · exact ⟨rfl, rfl⟩
    · split
      · exact ⟨rfl, rfl⟩
      · dsimp only
        split <;> exact ⟨rfl, rfl⟩

/-- How many bytes of a piece stay. -/
def survN (l : List UInt8) (i : Nat) (keep : List Bool) (tear cut : Int) : Nat :=
  if (i : Int) = tear then (min (max cut 0) (l.length : Int)).toNat else if keep.getD i false = true then l.length else 0
theorem survN_le (l : List UInt8) (i : Nat) (keep : List Bool) (tear cut : Int) : survN l i keep tear cut ≤ l.length := by
  unfold survN
  split
  · omega
  · split <;> omega
/-- Does a byte stay? -/
def stayB (i k : Nat) (keep : List Bool) (tear cut : Int) : Bool := if (i : Int) = tear then decide ((k : Int) < cut) else keep.getD i false
theorem stay_iff (l : List UInt8) (i k : Nat) (keep : List Bool) (tear cut : Int) (hk : k < l.length) : stayB i k keep tear cut = decide (k < survN l i keep tear cut) := by
  unfold stayB survN
  by_cases h : (i : Int) = tear
  · rw [if_pos h, if_pos h]
    by_cases h2 : (k : Int) < cut
    · rw [decide_eq_true h2, decide_eq_true (by omega)]
    · rw [decide_eq_false h2, decide_eq_false (by omega)]
  · rw [if_neg h, if_neg h]
    cases hb : keep.getD i false
    · rw [if_neg (by decide), decide_eq_false (by omega)]
    · rw [if_pos rfl, decide_eq_true hk]
def zerosU (n : Nat) : List UInt8 := List.replicate n 0
/-- The program's way: what stays is put behind, with noughts between. -/
def crashGo (keep : List Bool) (tear cut : Int) : List (List UInt8) → Nat → Nat → List UInt8 → List UInt8
  | [], _, _, f => f
  | l :: L, i, at', f => crashGo keep tear cut L (i + 1) (at' + l.length) (if 0 < survN l i keep tear cut then f ++ zerosU (at' - f.length) ++ l.take (survN l i keep tear cut) else f)
/-- The document's way, for a piece: each byte as it was, or nought. -/
def maskP (l : List UInt8) (i : Nat) (keep : List Bool) (tear cut : Int) : List UInt8 := l.take (survN l i keep tear cut) ++ zerosU (l.length - survN l i keep tear cut)
theorem mask_len (l : List UInt8) (i : Nat) (keep : List Bool) (tear cut : Int) : (maskP l i keep tear cut).length = l.length := by
  have := survN_le l i keep tear cut
  unfold maskP zerosU
  rw [List.length_append, List.length_take, List.length_replicate]
  omega
/-- What both have made, up to a piece: the bytes as they stay, and the place behind the last that stays. -/
def CrashP (M : List UInt8) (e : Nat) (f : List UInt8) : Prop := f.length = e ∧ M = f ++ zerosU (M.length - e) ∧ e ≤ M.length
theorem CrashP.next {M f : List UInt8} {e : Nat} (h : CrashP M e f) (l : List UInt8) (i : Nat) (keep : List Bool) (tear cut : Int) :
    CrashP (M ++ maskP l i keep tear cut) (if 0 < survN l i keep tear cut then M.length + survN l i keep tear cut else e) (if 0 < survN l i keep tear cut then f ++ zerosU (M.length - f.length) ++ l.take (survN l i keep tear cut) else f) := by
  obtain ⟨h1, h2, h3⟩ := h
  have hs := survN_le l i keep tear cut
  have hm := mask_len l i keep tear cut
  by_cases h : 0 < survN l i keep tear cut
  · rw [if_pos h, if_pos h, h1, ← h2]
    refine ⟨by rw [List.length_append, List.length_take]; omega, ?_, by rw [List.length_append]; omega⟩
    unfold maskP
    rw [List.append_assoc]
    congr 2
    rw [List.length_append, List.length_append, List.length_take]
    unfold zerosU
    rw [List.length_replicate]
    congr 1
    omega
  · rw [if_neg h, if_neg h]
    refine ⟨h1, ?_, by rw [List.length_append]; omega⟩
    have h0 : survN l i keep tear cut = 0 := by omega
    unfold maskP
    rw [h0, List.take_zero, List.nil_append, Nat.sub_zero]
    conv => lhs; rw [h2]
    rw [List.append_assoc]
    congr 1
    unfold zerosU
    rw [List.replicate_append_replicate, List.length_append, List.length_replicate]
    congr 1
    omega
def maskGo (keep : List Bool) (tear cut : Int) : List (List UInt8) → Nat → List UInt8 → List UInt8
  | [], _, M => M
  | l :: L, i, M => maskGo keep tear cut L (i + 1) (M ++ maskP l i keep tear cut)
def endGo (keep : List Bool) (tear cut : Int) : List (List UInt8) → Nat → Nat → Nat → Nat
  | [], _, _, e => e
  | l :: L, i, at', e => endGo keep tear cut L (i + 1) (at' + l.length) (if 0 < survN l i keep tear cut then at' + survN l i keep tear cut else e)
theorem crash_is (keep : List Bool) (tear cut : Int) : ∀ (L : List (List UInt8)) (i at' e : Nat) (M f : List UInt8), M.length = at' → CrashP M e f →
    crashGo keep tear cut L i at' f = (maskGo keep tear cut L i M).take (endGo keep tear cut L i at' e)
  | [], i, at', e, M, f, hM, h => by
    obtain ⟨h1, h2, h3⟩ := h
    show f = M.take e
    rw [h2, List.take_append, List.take_of_length_le (by omega), ← h1]
    simp
  | l :: L, i, at', e, M, f, hM, h => by
    have hn := h.next l i keep tear cut
    have := crash_is keep tear cut L (i + 1) (at' + l.length) _ _ _ (by rw [List.length_append, mask_len, hM]) hn
    rw [hM] at this
    exact this
def FileS.crash (X : FileS) (keep : List Bool) (tear cut : Int) : FileS := ⟨crashGo keep tear cut X.loose 0 X.firm.length X.firm, [], -1, -1, false⟩
end Go.Proofs.YtghmehfmchadoaaDoor
