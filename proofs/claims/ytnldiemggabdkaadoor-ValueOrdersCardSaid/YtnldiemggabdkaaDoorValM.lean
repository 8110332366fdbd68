/-
  Layer 4: nodes, measure.
-/
import Derived.Test.YtnldiemggabdkaaDoorValN
import Derived.WalkMore
import Derived.Deep.QuietTactic
import Derived.BigQuiet
namespace Go.Proofs.YtnldiemggabdkaaDoor
open Go.RowKit Go.Shelf
attribute [local go_sem] Oper.semAt_some
set_option linter.unusedVariables false

set_option maxRecDepth 20000 in
theorem vnodes_any (k n : Int) (s : ByteArray) (cA : Option Addr) (cn cc : Nat) (kA : Option Addr) (kn kc : Nat) (w : World) :
    Calls Tryd.prog 55 #[.agg #[.int .i64 k, .int .i64 n, .string s, .slice cA cn cc, .slice kA kn kc]] w fun e w' => e = .returned (.func (.func 64) #[] #[.pointer (some ⟨w.heap.size, 0, none⟩)]) ∧ w.alloc (.cells #[.int .i64 k, .int .i64 n, .string s, .slice cA cn cc, .slice kA kn kc] 25) = w' := by
  go_enter Tryd.func55, Tryd.ntmps55
  go_wp2
  go_ret
  exact ⟨by simp, rfl⟩

def NPost (J : List (Nat × VT) → World → Prop) (Jx : World → Prop) (T : VT) (e : Ending) (W' : World) : Prop := (∃ v, e = .returned v) ∧ (T.ok = true → J (T.nodesL 0) W') ∧ (T.ok = false → Jx W')
set_option maxRecDepth 100000 in
set_option maxHeartbeats 2000000 in
theorem vnodes1_any (ln Bv n₁ n₀ : Nat) (w0 : World) (J : List (Nat × VT) → World → Prop) (Jx : World → Prop) (T : VT) (hL : Lie w0 n₀ T)
    (hJ1 : ∀ pre W W', J pre W → Below W.heap.size W W' → J pre W')
    (hJ2 : ∀ pre W, J pre W → Below n₀ w0 W ∧ n₀ ≤ W.heap.size)
    (hY : ∀ m pre (d : Nat) (T : VT) W, J pre W → Lie w0 n₀ T → d ≤ 9 → YieldAt Fence.wide m Tryd.prog ln #[.int .i64 (d : Int), T.agg] W (YPost J Jx n₁ pre (d, T) W))
    (W : World) (h0 : J [] W) (hn : n₁ ≤ W.heap.size) (hv : Cell5 W Bv 0 T) :
    Calls Tryd.prog 64 #[.func (.yield ln) #[] #[], .pointer (some ⟨Bv, 0, none⟩)] W (NPost J Jx T) := by
  have hw := fun W' (hJ : J [] W') (hn' : n₁ ≤ W'.heap.size) (hB : W.heap.size ≤ W'.heap.size) (c1 : W'.cell? ⟨W.heap.size, 0, none⟩ = some (.func (.yield ln) #[] #[])) (c2 : W'.cell? ⟨W.heap.size + 1, 0, none⟩ = some (.func (.func 65) #[] #[.pointer (some ⟨W.heap.size, 0, none⟩), .pointer (some ⟨W.heap.size + 1, 0, none⟩)])) =>
    vwalk_any ln W.heap.size (W.heap.size + 1) n₁ n₀ w0 (fun pre X => J pre X ∧ n₁ ≤ X.heap.size ∧ X.cell? ⟨W.heap.size, 0, none⟩ = some (.func (.yield ln) #[] #[]) ∧ X.cell? ⟨W.heap.size + 1, 0, none⟩ = some (.func (.func 65) #[] #[.pointer (some ⟨W.heap.size, 0, none⟩), .pointer (some ⟨W.heap.size + 1, 0, none⟩)])) Jx
      (fun pre X X' h hb => ⟨hJ1 _ _ _ h.1 hb, Nat.le_trans h.2.1 hb.size, kept_later hb h.2.2.1, kept_later hb h.2.2.2⟩)
      (fun pre X h => ⟨(hJ2 _ _ h.1).1, (hJ2 _ _ h.1).2, h.2.1, h.2.2.1, h.2.2.2⟩)
      (fun m pre d T' X h hL' hd => by
        obtain ⟨fn, tmps, assign, body, hy, hR⟩ := hY m pre d T' X h.1 hL' hd
        exact ⟨fn, tmps, assign, body, hy, hR.mono fun e X' hp => ⟨hp.1, fun hs => ⟨hp.2.1 hs, Nat.le_trans h.2.1 hp.2.2.2.1, hp.2.2.2.cell hn h.2.2.1, hp.2.2.2.cell (Nat.le_succ_of_le hn) h.2.2.2⟩, hp.2.2.1, hp.2.2.2⟩⟩)
      T hL 0 (by omega) [] W' ⟨hJ, hn', c1, c2⟩
  have hJn := fun o o' => hJ1 _ _ _ h0 (bel_alloc (bel_alloc (Below.refl W.heap.size W) o) o')
  have hpo := passes_ok T
  cases T with
  | mk k n s cA cn cc kA kn kc keys kids =>
    obtain ⟨f0, f1, f2, f3, f4⟩ := hv
    simp only [VT.agg, Nat.zero_add] at hw f1 f2 f3 f4
    have g0 := cell_keep (cell_keep f0 (.cells #[.func (.yield ln) #[] #[]] 87)) (.cells #[.func (.func 65) #[] #[.pointer (some ⟨W.heap.size, 0, none⟩), .pointer (some ⟨W.heap.size + 1, 0, none⟩)]] 88)
    have g1 := cell_keep (cell_keep f1 (.cells #[.func (.yield ln) #[] #[]] 87)) (.cells #[.func (.func 65) #[] #[.pointer (some ⟨W.heap.size, 0, none⟩), .pointer (some ⟨W.heap.size + 1, 0, none⟩)]] 88)
    have g2 := cell_keep (cell_keep f2 (.cells #[.func (.yield ln) #[] #[]] 87)) (.cells #[.func (.func 65) #[] #[.pointer (some ⟨W.heap.size, 0, none⟩), .pointer (some ⟨W.heap.size + 1, 0, none⟩)]] 88)
    have g3 := cell_keep (cell_keep f3 (.cells #[.func (.yield ln) #[] #[]] 87)) (.cells #[.func (.func 65) #[] #[.pointer (some ⟨W.heap.size, 0, none⟩), .pointer (some ⟨W.heap.size + 1, 0, none⟩)]] 88)
    have g4 := cell_keep (cell_keep f4 (.cells #[.func (.yield ln) #[] #[]] 87)) (.cells #[.func (.func 65) #[] #[.pointer (some ⟨W.heap.size, 0, none⟩), .pointer (some ⟨W.heap.size + 1, 0, none⟩)]] 88)
    have c1 := cell_keep (Box.new W #[.func (.yield ln) #[] #[]] 87 0 _ rfl).1 (.cells #[.func (.func 65) #[] #[.pointer (some ⟨W.heap.size, 0, none⟩), .pointer (some ⟨W.heap.size + 1, 0, none⟩)]] 88)
    have c2 := (Box.new (W.alloc (.cells #[.func (.yield ln) #[] #[]] 87)) #[.func (.func 65) #[] #[.pointer (some ⟨W.heap.size, 0, none⟩), .pointer (some ⟨W.heap.size + 1, 0, none⟩)]] 88 0 _ rfl).1
    rw [World.size_alloc] at c2
    have hcall := hw _ (hJn _ _) (by simp; omega) (by simp; omega) c1 c2
    have Hpo := Lib.hid hpo
    clear hw hJ1 hJ2 hY hJn h0 hL f0 f1 f2 f3 f4 hpo
    go_enter Tryd.func64, Tryd.ntmps64
    go_wp2_with fail
    refine hcall.mono ?_
    rintro e W5 ⟨he, h1, h2, -⟩
    rw [Hpo.out] at he h1 h2
    subst he
    have Hend := Lib.hid (show NPost J Jx (.mk k n s cA cn cc kA kn kc keys kids) (.returned (.tuple #[])) W5 from ⟨⟨_, rfl⟩, fun h => (h1 h).1, h2⟩)
    clear h1 h2
    go_wp2
    go_end0
    exact ⟨⟨_, rfl⟩, Hend.out.2⟩
end Go.Proofs.YtnldiemggabdkaaDoor
