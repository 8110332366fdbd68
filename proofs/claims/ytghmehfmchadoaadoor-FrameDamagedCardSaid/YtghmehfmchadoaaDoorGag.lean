import Derived.Test.YtghmehfmchadoaaDoorGaf
import Derived.Test.YtghmehfmchadoaaDoorGac
import Derived.Deep.LoopGhost
import Derived.BigRegion
import Derived.Great.BuildSlice
import Derived.Test.YtghmehfmchadoaaDoorGab
import Derived.Test.YtghmehfmchadoaaDoorGaa
import Derived.Deep.Slices
import Derived.Deep.Fields
import Derived.ChangeSame
import Derived.Lib.SmallJoins
import Derived.Test.YtghmehfmchadoaaDoorRows
import Derived.Deep.Modes
/-
  Layer 11: a writer at a file's end.
-/
namespace Go.Proofs.YtghmehfmchadoaaDoor
open Go.RowKit
set_option linter.unusedVariables false

theorem Wt.new (w : World) (s : Nat) (t : TypeId) : Wt (w.alloc (.cells #[.int .i64 (s : Nat), .slice none 0 0] t)) w.heap.size s [] := by
  refine ⟨none, 0, ?_, ?_, ?_, World.ownsRow_nil _ _ _ _⟩
  · simp [go_sem]
  · simp [go_sem]
  · simp [go_sem]
/-- What a writer's begin gives. -/
def BegP (all : List UInt8) (w : World) (e : Ending) (w' : World) : Prop :=
  ∃ b, e = .returned (.pointer (some ⟨b, 0, none⟩)) ∧ w.heap.size ≤ b ∧ Wt w' b all.length (Fra.aheadL all) ∧ Below w.heap.size w w'
theorem mark_rep (n k : Nat) : markL n (List.replicate k 0) = if (n + k) % 64 = 0 then List.replicate (k + 1) 0 else List.replicate k 0 := by
  unfold markL
  rw [List.length_replicate]
  split
  · rw [List.replicate_succ']
  · rfl
theorem ahead_is (all : List UInt8) : Fra.aheadL all = markL all.length (List.replicate (Fra.padN all) 0) := by
  rw [mark_rep]
  unfold Fra.aheadL Fra.atN Fra.frontN
  by_cases h : (all.length + Fra.padN all) % 64 = 0
  · rw [if_pos h, if_pos h, show all.length + Fra.padN all + 1 - all.length = Fra.padN all + 1 by omega]
  · rw [if_neg h, if_neg h, show all.length + Fra.padN all - all.length = Fra.padN all by omega]
set_option maxRecDepth 100000 in
set_option maxHeartbeats 4000000 in
theorem begin_any (X : FileT) (B : Nat) (w : World) (hL : LieF w B X) (hB : B ≤ w.heap.size) (hr : X.right = true) :
    Calls Tryd.prog 31 #[X.agg] w (BegP X.all w) := by
  have hb1 := bel_alloc (Below.refl w.heap.size w) (.cells #[.slice X.F.A X.F.n X.F.c, .slice X.lA X.ln X.lc, .int .i64 X.fuse, .int .i64 X.fault, .bool X.off] 25)
  have HF := Lib.hid (FBox.new w X 25)
  obtain ⟨hlong, hmax⟩ := right_all hL hr
  have hln := Lib.hid (fun W (h : Below w.heap.size w W) => lenF_any X B W (hL.later (h.mono hB)) (Nat.le_trans hB h.size) (right_rows hL hr).1)
  have HM := Lib.hid (fun W (h : Below w.heap.size w W) (m : Nat) (hm : m = X.all.length - X.all.length % 64) (h64 : X.all.length % 64 ≠ 0) => marker_any X X.all.length m B W (hL.later (h.mono hB)) (Nat.le_trans hB h.size) hr hm (by omega) hmax)
  rw [hr, hlong] at hln
  simp only [if_true] at hln
  have HE := Lib.hid (ahead_is X.all)
  have Hpc := Lib.hid (Fra.pad_case X.all)
  have HP0 := Lib.hid (show X.all.length % 64 ≠ 0 → at8 X.all (X.all.length - X.all.length % 64) ≠ 0 → Fra.padN X.all = 64 - X.all.length % 64 from fun h1 h2 => by
    unfold Fra.padN
    rw [if_pos ⟨h1, fun h => h2 (by unfold at8; rw [h]; rfl)⟩])
  have HP1 := Lib.hid (show (X.all.length % 64 = 0 ∨ at8 X.all (X.all.length - X.all.length % 64) = 0) → Fra.padN X.all = 0 from fun h => by
    unfold Fra.padN
    rw [if_neg]
    rintro ⟨h1, h2⟩
    rcases h with h | h
    · exact h1 h
    · refine h2 (UInt8.toNat_inj.1 ?_)
      unfold at8 at h
      have h : ((X.all.getD (X.all.length - X.all.length % 64) 0).toNat : Int) = 0 := h
      show _ = 0
      omega)
  clear hL hr hlong
  simp only [FileT.agg, PcT.val] at hln HM ⊢
  obtain ⟨n, hn⟩ : ∃ n, X.all.length = n := ⟨_, rfl⟩
  rw [hn] at hmax hln HM HE Hpc HP0 HP1
  generalize X.all = all at *
  have Hn := Lib.hid hn
  clear hn
  go_enter Tryd.func31, Tryd.ntmps31
  obtain ⟨f0, f1, f2, f3, f4⟩ := HF.out
  go_wp2_with fail
  refine (hln.out _ hb1).mono ?_
  rintro e W2 ⟨rfl, hb2⟩
  have hbb := bel_next hb1 hb2
  have HF2 := Lib.hid (HF.out.later hb2)
  have hw2 := hbb.size
  have HW := Wt.new W2 n 64
  have hb3 := bel_alloc hbb (.cells #[.int .i64 (n : Nat), .slice none 0 0] 64)
  have HF3 := Lib.hid (HF2.out.later (bel_alloc (Below.refl _ _) (.cells #[.int .i64 (n : Nat), .slice none 0 0] 64)))
  clear f0 f1 f2 f3 f4 HF HF2 hb1 hb2 hbb hln
  go_upto_region 2 with fail
  generalize W2.alloc (.cells #[.int .i64 (n : Nat), .slice none 0 0] 64) = W3 at *
  generalize W2.heap.size = gw at *
  have HWt := Lib.hid HW
  obtain ⟨A0, c0, q0, q1, q2, q3⟩ := HW
  clear q3
  have x0 : ∀ W, Below W3.heap.size W3 W → W.cell? ⟨gw, 0, none⟩ = some (.int .i64 (n : Nat)) := fun W h => kept_later h q0
  have y0 : ∀ W, Below W3.heap.size W3 W → W.cell? ⟨w.heap.size, 0, none⟩ = some (.slice X.F.A X.F.n X.F.c) := fun W h => (HF3.out.later h).1
  have y1 : ∀ W, Below W3.heap.size W3 W → W.cell? ⟨w.heap.size, 1, none⟩ = some (.slice X.lA X.ln X.lc) := fun W h => (HF3.out.later h).2.1
  have y2 : ∀ W, Below W3.heap.size W3 W → W.cell? ⟨w.heap.size, 2, none⟩ = some (.int .i64 X.fuse) := fun W h => (HF3.out.later h).2.2.1
  have y3 : ∀ W, Below W3.heap.size W3 W → W.cell? ⟨w.heap.size, 3, none⟩ = some (.int .i64 X.fault) := fun W h => (HF3.out.later h).2.2.2.1
  have y4 : ∀ W, Below W3.heap.size W3 W → W.cell? ⟨w.heap.size, 4, none⟩ = some (.bool X.off) := fun W h => (HF3.out.later h).2.2.2.2
  clear q0 q1 q2
  have hn0 : (0 : Int) ≤ (n : Int) := by omega
  by_cases h64 : n % 64 = 0
  · have HP := Lib.hid (HP1.out (.inl h64))
    have ht : ((n : Int).tmod 64 == 0) = true := by rw [beq_iff_eq, Int.tmod_eq_emod_of_nonneg (by omega)]; omega
    have ht2 : ((n : Int).tmod 64 != 0) = false := by rw [bne_eq_false_iff_eq, Int.tmod_eq_emod_of_nonneg (by omega)]; omega
    go_cut [25] (fun s wx => s = .bool false ∧ Below W3.heap.size W3 wx)
    case first =>
      refine wp_region_held_drew (S := fun W => Below W3.heap.size W3 W) (by kernel_rfl) (below_drewN (Below.refl _ _) 1) (fun hHeld => ?_)
      refine rg_in 0 rfl (by kernel_rfl) (by kernel_rfl) (by kernel_rfl) (by rfl) (v := ?_) (fun _ _ _ h => h) hHeld (fun w hSw => ?_) ?_
      rotate_left
      · (try dsimp only at hSw); go_simp <;> (with_reducible rfl)
      (try simp only [Act.put, List.setIfInBounds_toArray, List.set_cons_zero, List.set_cons_succ])
      refine rg_in 1 rfl (by kernel_rfl) (by kernel_rfl) (by kernel_rfl) (by rfl) (v := ?_) (fun _ _ _ h => h) hHeld (fun w hSw => ?_) ?_
      rotate_left
      · (try dsimp only at hSw); go_simp <;> (with_reducible rfl)
      (try simp only [Act.put, List.setIfInBounds_toArray, List.set_cons_zero, List.set_cons_succ])
      refine rg_in 2 rfl (by kernel_rfl) (by kernel_rfl) (by kernel_rfl) (by rfl) (v := ?_) (fun _ _ _ h => h) hHeld (fun w hSw => ?_) ?_
      rotate_left
      · (try dsimp only at hSw); go_simp <;> (with_reducible rfl)
      (try simp only [Act.put, List.setIfInBounds_toArray, List.set_cons_zero, List.set_cons_succ])
      refine rg_in 3 rfl (by kernel_rfl) (by kernel_rfl) (by kernel_rfl) (by rfl) (v := ?_) (fun _ _ _ h => h) hHeld (fun w hSw => ?_) ?_
      rotate_left
      · (try dsimp only at hSw); go_simp <;> (with_reducible rfl)
      (try simp only [Act.put, List.setIfInBounds_toArray, List.set_cons_zero, List.set_cons_succ])
      refine rg_in 4 rfl (by kernel_rfl) (by kernel_rfl) (by kernel_rfl) (by rfl) (v := ?_) (fun _ _ _ h => h) hHeld (fun w hSw => ?_) ?_
      rotate_left
      · (try dsimp only at hSw); go_simp <;> (with_reducible rfl)
      (try simp only [Act.put, List.setIfInBounds_toArray, List.set_cons_zero, List.set_cons_succ])
      refine rg_in 5 rfl (by kernel_rfl) (by kernel_rfl) (by kernel_rfl) (by rfl) (v := ?_) (fun _ _ _ h => h) hHeld (fun w hSw => ?_) ?_
      rotate_left
      · (try dsimp only at hSw); go_simp <;> (with_reducible rfl)
      (try simp only [Act.put, List.setIfInBounds_toArray, List.set_cons_zero, List.set_cons_succ])
      refine rg_in 6 rfl (by kernel_rfl) (by kernel_rfl) (by kernel_rfl) (by rfl) (v := ?_) (fun _ _ _ h => h) hHeld (fun w hSw => ?_) ?_
      rotate_left
      · (try dsimp only at hSw); go_simp <;> (with_reducible rfl)
      (try simp only [Act.put, List.setIfInBounds_toArray, List.set_cons_zero, List.set_cons_succ])
      refine rg_in 7 rfl (by kernel_rfl) (by kernel_rfl) (by kernel_rfl) (by rfl) (v := ?_) (fun _ _ _ h => h) hHeld (fun w hSw => ?_) ?_
      rotate_left
      · (try dsimp only at hSw); go_simp <;> (with_reducible rfl)
      (try simp only [Act.put, List.setIfInBounds_toArray, List.set_cons_zero, List.set_cons_succ])
      refine rg_off 8 rfl (by kernel_rfl) (by kernel_rfl) (by kernel_rfl) (by rfl) (fun _ _ _ h => h) hHeld ?_
      (try simp only [Act.put, List.setIfInBounds_toArray, List.set_cons_zero, List.set_cons_succ])
      refine rg_off 9 rfl (by kernel_rfl) (by kernel_rfl) (by kernel_rfl) (by rfl) (fun _ _ _ h => h) hHeld ?_
      (try simp only [Act.put, List.setIfInBounds_toArray, List.set_cons_zero, List.set_cons_succ])
      refine rg_off 10 rfl (by kernel_rfl) (by kernel_rfl) (by kernel_rfl) (by rfl) (fun _ _ _ h => h) hHeld ?_
      (try simp only [Act.put, List.setIfInBounds_toArray, List.set_cons_zero, List.set_cons_succ])
      refine rg_off 11 rfl (by kernel_rfl) (by kernel_rfl) (by kernel_rfl) (by rfl) (fun _ _ _ h => h) hHeld ?_
      (try simp only [Act.put, List.setIfInBounds_toArray, List.set_cons_zero, List.set_cons_succ])
      refine rg_off 12 rfl (by kernel_rfl) (by kernel_rfl) (by kernel_rfl) (by rfl) (fun _ _ _ h => h) hHeld ?_
      (try simp only [Act.put, List.setIfInBounds_toArray, List.set_cons_zero, List.set_cons_succ])
      refine rg_off 13 rfl (by kernel_rfl) (by kernel_rfl) (by kernel_rfl) (by rfl) (fun _ _ _ h => h) hHeld ?_
      (try simp only [Act.put, List.setIfInBounds_toArray, List.set_cons_zero, List.set_cons_succ])
      refine rg_off 14 rfl (by kernel_rfl) (by kernel_rfl) (by kernel_rfl) (by rfl) (fun _ _ _ h => h) hHeld ?_
      (try simp only [Act.put, List.setIfInBounds_toArray, List.set_cons_zero, List.set_cons_succ])
      refine rg_off 15 rfl (by kernel_rfl) (by kernel_rfl) (by kernel_rfl) (by rfl) (fun _ _ _ h => h) hHeld ?_
      (try simp only [Act.put, List.setIfInBounds_toArray, List.set_cons_zero, List.set_cons_succ])
      refine rg_in 16 rfl (by kernel_rfl) (by kernel_rfl) (by kernel_rfl) (by rfl) (v := ?_) (fun _ _ _ h => h) hHeld (fun w hSw => ?_) ?_
      rotate_left
      · (try dsimp only at hSw); go_simp <;> (with_reducible rfl)
      (try simp only [Act.put, List.setIfInBounds_toArray, List.set_cons_zero, List.set_cons_succ])
      refine wpAnyH_done (by kernel_rfl) ?_ _
      go_wp2
      go_meet
      case rel => exact ⟨by first | rfl | simp, hHeld⟩
    case rest =>
      obtain ⟨rfl, hb4⟩ := hcut
      have HW4 := HWt.out.later hb4
      have hm := mark_any gw n [] wc HW4 (by simp; omega) (by simp)
      have hb5 := hb3.trans (hb4.mono hb3.size)
      rw [show markL n [] = Fra.aheadL all by rw [HE.out, HP.out]; rfl] at hm
      clear x0 y0 y1 y2 y3 y4 ht ht2 HP HM HF3
      go_wp2_with fail
      refine hm.mono ?_
      rintro e W5 ⟨rfl, hw5, hb6⟩
      clear hm
      go_wp2
      go_ret
      refine ⟨gw, by simp, hw2, by rw [Hn.out]; exact hw5, hb5.trans (hb6.mono hw2)⟩
  · have ht : ((n : Int).tmod 64 == 0) = false := by rw [beq_eq_false_iff_ne, Ne, Int.tmod_eq_emod_of_nonneg (by omega)]; omega
    have ht2 : ((n : Int).tmod 64 != 0) = true := by rw [bne_iff_ne, Ne, Int.tmod_eq_emod_of_nonneg (by omega)]; omega
    obtain ⟨m, hm⟩ : ∃ m, m = n - n % 64 := ⟨_, rfl⟩
    have HcM := Lib.hid (fun W (h : Below W3.heap.size W3 W) => HM.out W (hb3.trans (h.mono hb3.size)) m hm h64)
    obtain ⟨v, hv⟩ : ∃ v, at8 all m = v := ⟨_, rfl⟩
    have hp0 : v ≠ 0 → Fra.padN all = 64 - n % 64 := fun h => HP0.out h64 (by rw [← hm, hv]; exact h)
    have hp1 : v = 0 → Fra.padN all = 0 := fun h => HP1.out (.inr (by rw [← hm, hv]; exact h))
    rw [hv] at HcM
    have HPP := Lib.hid (And.intro hp0 hp1)
    have H64 := Lib.hid h64
    clear hv hm HM HP0 HP1 Hpc hp0 hp1 h64
    obtain ⟨vb, hvb⟩ : ∃ vb, (v != 0) = vb := ⟨_, rfl⟩
    go_cut [25] (fun s wx => s = .bool vb ∧ Below W3.heap.size W3 wx)
    case first =>
      refine wp_region_held_drew (S := fun W => Below W3.heap.size W3 W) (by kernel_rfl) (below_drewN (Below.refl _ _) 1) (fun hHeld => ?_)
      refine rg_in 0 rfl (by kernel_rfl) (by kernel_rfl) (by kernel_rfl) (by rfl) (v := ?_) (fun _ _ _ h => h) hHeld (fun w hSw => ?_) ?_
      rotate_left
      · (try dsimp only at hSw); go_simp <;> (with_reducible rfl)
      (try simp only [Act.put, List.setIfInBounds_toArray, List.set_cons_zero, List.set_cons_succ])
      refine rg_in 1 rfl (by kernel_rfl) (by kernel_rfl) (by kernel_rfl) (by rfl) (v := ?_) (fun _ _ _ h => h) hHeld (fun w hSw => ?_) ?_
      rotate_left
      · (try dsimp only at hSw); go_simp <;> (with_reducible rfl)
      (try simp only [Act.put, List.setIfInBounds_toArray, List.set_cons_zero, List.set_cons_succ])
      refine rg_in 2 rfl (by kernel_rfl) (by kernel_rfl) (by kernel_rfl) (by rfl) (v := ?_) (fun _ _ _ h => h) hHeld (fun w hSw => ?_) ?_
      rotate_left
      · (try dsimp only at hSw); go_simp <;> (with_reducible rfl)
      (try simp only [Act.put, List.setIfInBounds_toArray, List.set_cons_zero, List.set_cons_succ])
      refine rg_in 3 rfl (by kernel_rfl) (by kernel_rfl) (by kernel_rfl) (by rfl) (v := ?_) (fun _ _ _ h => h) hHeld (fun w hSw => ?_) ?_
      rotate_left
      · (try dsimp only at hSw); go_simp <;> (with_reducible rfl)
      (try simp only [Act.put, List.setIfInBounds_toArray, List.set_cons_zero, List.set_cons_succ])
      refine rg_in 4 rfl (by kernel_rfl) (by kernel_rfl) (by kernel_rfl) (by rfl) (v := ?_) (fun _ _ _ h => h) hHeld (fun w hSw => ?_) ?_
      rotate_left
      · (try dsimp only at hSw); go_simp <;> (with_reducible rfl)
      (try simp only [Act.put, List.setIfInBounds_toArray, List.set_cons_zero, List.set_cons_succ])
      refine rg_in 5 rfl (by kernel_rfl) (by kernel_rfl) (by kernel_rfl) (by rfl) (v := ?_) (fun _ _ _ h => h) hHeld (fun w hSw => ?_) ?_
      rotate_left
      · (try dsimp only at hSw); go_simp <;> (with_reducible rfl)
      (try simp only [Act.put, List.setIfInBounds_toArray, List.set_cons_zero, List.set_cons_succ])
      refine rg_in 6 rfl (by kernel_rfl) (by kernel_rfl) (by kernel_rfl) (by rfl) (v := ?_) (fun _ _ _ h => h) hHeld (fun w hSw => ?_) ?_
      rotate_left
      · (try dsimp only at hSw); go_simp <;> (with_reducible rfl)
      (try simp only [Act.put, List.setIfInBounds_toArray, List.set_cons_zero, List.set_cons_succ])
      refine rg_in 7 rfl (by kernel_rfl) (by kernel_rfl) (by kernel_rfl) (by rfl) (v := ?_) (fun _ _ _ h => h) hHeld (fun w hSw => ?_) ?_
      rotate_left
      · (try dsimp only at hSw); go_simp <;> (with_reducible rfl)
      (try simp only [Act.put, List.setIfInBounds_toArray, List.set_cons_zero, List.set_cons_succ])
      refine rg_in 8 rfl (by kernel_rfl) (by kernel_rfl) (by kernel_rfl) (by rfl) (v := ?_) (fun _ _ _ h => h) hHeld (fun w hSw => ?_) ?_
      rotate_left
      · (try dsimp only at hSw); go_simp <;> (with_reducible rfl)
      (try simp only [Act.put, List.setIfInBounds_toArray, List.set_cons_zero, List.set_cons_succ])
      refine rg_in 9 rfl (by kernel_rfl) (by kernel_rfl) (by kernel_rfl) (by rfl) (v := ?_) (fun _ _ _ h => h) hHeld (fun w hSw => ?_) ?_
      rotate_left
      · (try dsimp only at hSw); go_simp <;> (with_reducible rfl)
      (try simp only [Act.put, List.setIfInBounds_toArray, List.set_cons_zero, List.set_cons_succ])
      refine rg_in 10 rfl (by kernel_rfl) (by kernel_rfl) (by kernel_rfl) (by rfl) (v := ?_) (fun _ _ _ h => h) hHeld (fun w hSw => ?_) ?_
      rotate_left
      · (try dsimp only at hSw); go_simp <;> (with_reducible rfl)
      (try simp only [Act.put, List.setIfInBounds_toArray, List.set_cons_zero, List.set_cons_succ])
      refine rg_in 11 rfl (by kernel_rfl) (by kernel_rfl) (by kernel_rfl) (by rfl) (v := ?_) (fun _ _ _ h => h) hHeld (fun w hSw => ?_) ?_
      rotate_left
      · (try dsimp only at hSw); go_simp <;> (with_reducible rfl)
      (try simp only [Act.put, List.setIfInBounds_toArray, List.set_cons_zero, List.set_cons_succ])
      refine rg_in 12 rfl (by kernel_rfl) (by kernel_rfl) (by kernel_rfl) (by rfl) (v := ?_) (fun _ _ _ h => h) hHeld (fun w hSw => ?_) ?_
      rotate_left
      · (try dsimp only at hSw); go_simp <;> (with_reducible rfl)
      (try simp only [Act.put, List.setIfInBounds_toArray, List.set_cons_zero, List.set_cons_succ])
      refine rg_in 13 rfl (by kernel_rfl) (by kernel_rfl) (by kernel_rfl) (by rfl) (v := ?_) (fun _ _ _ h => h) hHeld (fun w hSw => ?_) ?_
      rotate_left
      · (try dsimp only at hSw); go_simp <;> (with_reducible rfl)
      (try simp only [Act.put, List.setIfInBounds_toArray, List.set_cons_zero, List.set_cons_succ])
      refine rg_do 14 rfl (by kernel_rfl) (by rfl) (fun K hK => ?_)
      go_simp
      (go_at_call 49; (with_reducible refine (HcM.out _ hHeld).mono ?_); (rintro e w114 ⟨rfl, hb14⟩))
      refine hK.out _ _ (S_call hb14 hHeld rfl) (fun hHeld => ?_)
      clear hK K
      (try simp only [Act.put, List.setIfInBounds_toArray, List.set_cons_zero, List.set_cons_succ])
      refine rg_in 15 rfl (by kernel_rfl) (by kernel_rfl) (by kernel_rfl) (by rfl) (v := ?_) (fun _ _ _ h => h) hHeld (fun w hSw => ?_) ?_
      rotate_left
      · (try dsimp only at hSw); go_simp <;> (with_reducible rfl)
      (try simp only [Act.put, List.setIfInBounds_toArray, List.set_cons_zero, List.set_cons_succ])
      refine rg_in 16 rfl (by kernel_rfl) (by kernel_rfl) (by kernel_rfl) (by rfl) (v := ?_) (fun _ _ _ h => h) hHeld (fun w hSw => ?_) ?_
      rotate_left
      · (try dsimp only at hSw); go_simp <;> (with_reducible rfl)
      (try simp only [Act.put, List.setIfInBounds_toArray, List.set_cons_zero, List.set_cons_succ])
      refine wpAnyH_done (by kernel_rfl) ?_ _
      go_wp2
      go_meet
      case rel => exact ⟨by first | rfl | simp [hvb], hHeld⟩
    case rest =>
      obtain ⟨rfl, hb4⟩ := hcut
      have HW4 := Lib.hid (HWt.out.later hb4)
      have hb5 := hb3.trans (hb4.mono hb3.size)
      have Hvb := Lib.hid hvb
      clear x0 y0 y1 y2 y3 y4 ht ht2 HF3 HcM hvb HWt hb4 hb3
      cases vb
      · have HP := Lib.hid (HPP.out.2 (by have := Hvb.out; simpa using this))
        have hm := mark_any gw n [] wc HW4.out (by simp; omega) (by simp)
        rw [show markL n [] = Fra.aheadL all by rw [HE.out, HP.out]; rfl] at hm
        go_wp2_with fail
        refine hm.mono ?_
        rintro e W5 ⟨rfl, hw5, hb6⟩
        clear hm
        go_wp2
        go_ret
        refine ⟨gw, by simp, hw2, by rw [Hn.out]; exact hw5, hb5.trans (hb6.mono hw2)⟩
      · have HP := Lib.hid (HPP.out.1 (by have := Hvb.out; simpa using this))
        obtain ⟨d, hd⟩ : ∃ d, d = 64 - n % 64 := ⟨_, rfl⟩
        have hd0 : 0 < d ∧ d ≤ 64 ∧ (n + d) % 64 = 0 := by omega
        have Hnd := Lib.hid (show ∀ k, k < d → (n + k) % 64 ≠ 0 from fun k hk => by have := H64.out; omega)
        rw [← hd] at HP
        have Hd := Lib.hid hd0
        have hd64 := hd0.2.1
        clear hd hd0 Hvb HPP
        go_wp2_with fail
        go_loopg [29] d (fun k _ wr => ∃ j, j + k = d ∧ Hid (Wt wr gw n (List.replicate j 0)) ∧ Below w.heap.size w wr)
        case atStart => exact ⟨0, by omega, HW4, hb5⟩
        case round =>
          obtain ⟨j, hj, HWr, hbr⟩ := hrel
          have hen := end_any gw n (List.replicate j 0) wr HWr.out (by rw [List.length_replicate]; omega)
          rw [List.length_replicate] at hen
          by_cases hjd : j < d
          · have h1 : (((n + j : Nat) : Int) % 64 != 0) = true := by rw [bne_iff_ne]; have := Hnd.out j hjd; omega
            have hput := fun q => put_any gw n (List.replicate j 0) 0 (wr.drewN q) (HWr.out.drewN q) (by rw [List.length_replicate]; omega)
            rw [← List.replicate_succ'] at hput
            have HWj := Lib.hid hput
            clear hput
            generalize hnj : n + j = nj at *
            have Hnj := Lib.hid hnj
            clear hnj
            go_wp2_with fail
            refine hen.mono ?_
            rintro e W5 ⟨rfl, q, rfl⟩
            go_wp2_with fail
            refine (HWj.out q).mono ?_
            rintro e W6 ⟨rfl, hw6, hb6⟩
            go_wp2
            go_roundg (gk - 1)
            case measure => omega
            case rel => exact ⟨j + 1, by omega, Lib.hid hw6, hbr.trans ((below_undrewN hb6).mono hw2)⟩
          · have hjd' : j = d := by omega
            subst hjd'
            have h1 : (((n + j : Nat) : Int) % 64 != 0) = false := by rw [bne_eq_false_iff_eq]; have := Hd.out; omega
            have hmk := fun q => mark_any gw n (List.replicate j 0) (wr.drewN q) (HWr.out.drewN q) (by rw [List.length_replicate]; omega) (by rw [List.length_replicate]; omega)
            rw [show markL n (List.replicate j 0) = Fra.aheadL all by rw [HE.out, HP.out]] at hmk
            have HWj := Lib.hid hmk
            clear hmk
            generalize hnj : n + j = nj at *
            have Hnj := Lib.hid hnj
            clear hnj
            go_wp2_with fail
            refine hen.mono ?_
            rintro e W5 ⟨rfl, q, rfl⟩
            go_wp2_with fail
            refine (HWj.out q).mono ?_
            rintro e W6 ⟨rfl, hw6, hb6⟩
            go_wp2
            go_ret
            refine ⟨gw, by simp, hw2, by rw [Hn.out]; exact hw6, hbr.trans ((below_undrewN hb6).mono hw2)⟩
end Go.Proofs.YtghmehfmchadoaaDoor
/-
  Steps of a region that draws, more of them: a row made of values, an append onto a row of one's own beside another such row of the same type. No program in sight.
-/
namespace Go.Proofs.YtghmehfmchadoaaDoor
open Go.RowKit
set_option linter.unusedVariables false

/-- Two rows of one's own are apart. -/
def ApartV (v u : Value) : Prop := u.ownBlock = none ∨ u.ownBlock ≠ v.ownBlock
theorem shows_made (W : World) (cs : Array Value) (t : TypeId) (g n size : Nat) (hg : W.heap.size = g) (hl : cs.toList.length = n * size) : Shows (W.alloc (.cells cs t)) (g + 1) size (some ⟨g, 0, none⟩) n cs.toList := by
  subst hg
  refine ⟨hl, fun _ => ⟨W.heap.size, 0, rfl, by omega, fun j u hu => ?_⟩⟩
  rw [Nat.zero_add]
  refine (World.cell?_alloc_new W _ t j).trans ?_
  simpa using hu
section
variable {P : Program} {w w' : World} {o : Oper} {a : Act} {K : Act → World → Prop} {Q : Exit → Act → World → Prop}
/-- '[]T{..}'. -/
theorem step_rows (t e : TypeId) (k : Nat) (xs : Array (Nat × Operand)) (ho : o.op = .buildSlice t k xs) (size : Nat) (i : TypeInfo) (z : Value) (ht : P.underlying t = some (.slice e)) (hi : P.info? e = some i) (hz : i.zero = some z) (hsize : i.size = size)
    (cells : Array Value) (hf : Instr.fill (fun q => some (q * size, size)) ((Array.range (k * size)).map (z.cells[· % z.cells.size]!)) (xs.toList.map fun p => (p.1, a.eval p.2)) = some cells) (hcs : cells.toList.length = k * size) (h0 : ¬ k * size = 0) (h24 : ¬ k * size > 2 ^ 24)
    (h : ∀ g w', w.heap.size ≤ g → Shows w' (g + 1) size (some ⟨g, 0, none⟩) k cells.toList → g + 1 ≤ w'.heap.size → Below w.heap.size w w' → K (a.put o.dst (.slice (some ⟨g, 0, none⟩) k k)) w') : o.wp P a w K Q := by
  refine wp_buildSlice t e k xs ho cells i z ht hi hz (by rw [hsize]; exact h24) (by rw [hsize]; exact h0) (by rw [hsize]; simpa using hf) ?_
  exact h w.heap.size (w.alloc (.cells cells e)) (Nat.le_refl _) (shows_made w cells e w.heap.size k size rfl hcs) (by rw [World.size_alloc]; exact Nat.le_refl _) ((Below.refl _ _).alloc (Nat.le_refl _) _)
/-- append onto a row of one's own, beside another one. -/
theorem step_appO (s x : Operand) (t : TypeId) (ho : o.op = .call { callee := .builtin .append, args := #[s, x], argTypes := #[t, t] })
    (base : Nat) (e : TypeId) (i : TypeInfo) (z : Value) (size bytes : Nat) (ht : P.underlying t = some (.slice e)) (hi : P.info? e = some i) (hz : i.zero = some z)
    (hsize : i.size = size) (hby : i.bytes = bytes) (hzs : z.cells.size = size) (hsz : 0 < size)
    (v : Value) (n : Nat) (xs : List Value) (hs : a.eval s = v) (hown : w.ownsRow base e size v n xs)
    (B : Nat) (b : Nat) (m c : Nat) (news : List Value) (hx : a.eval x = .slice (some ⟨b, 0, none⟩) m c) (hr : Shows w B size (some ⟨b, 0, none⟩) m news) (h1 : ∀ u ∈ news, u.oneCell' = true)
    (h63 : n + m ≤ maxLen) (hbytes : (n + m) * bytes ≤ 140737488355328) (hbase : base ≤ w.heap.size)
    (h : ∀ A' c' w', w'.ownsRow base e size (.slice A' (n + m) c') (n + m) (xs ++ news) → w.grownBy w' v.ownBlock → Below base w w' → ((Value.slice A' (n + m) c').ownBlock = v.ownBlock ∨ (Value.slice A' (n + m) c').ownBlock = some w.heap.size) → K (a.put o.dst (.slice A' (n + m) c')) w') :
    o.wp P a w K Q := by
  have hcells : ∀ j u, news[j]? = some u → w.cell? ((⟨b, 0, none⟩ : Addr).add j) = some u := by
    intro j u hu
    rcases Nat.eq_zero_or_pos m with h0 | h0
    · subst h0
      have hn : news = [] := List.eq_nil_of_length_eq_zero (by simpa using hr.1)
      subst hn
      simp at hu
    · obtain ⟨b', off, he, _, hc⟩ := hr.2 h0
      injection he with he
      injection he with e1 e2
      subst e1; subst e2
      rw [addr_add]
      exact hc j u hu
  obtain ⟨v', w', hrun, h2, h3, _, h4⟩ := run_append_own_at (P := P) w base t o.type e i z size bytes ht hi hz hsize hby hzs hsz v n xs hown ⟨b, 0, none⟩ m c news hr.1 hcells h1 h63 hbytes hbase
  obtain ⟨A', c', rfl, _, _⟩ := own_form h2
  unfold Oper.wp execOp
  simp only [ho, resolve, invoke, builtin, Sem.run_bind, Sem.run_pure, Result.andThen_ok, List.map_toArray, List.map_cons, List.map_nil, hs, hx, hrun]
  exact h A' c' w' h2 h3 ((Below.refl base w).grown h3 hbase fun k hk => (hown.lt k hk).1) h4
theorem wpList_appO {ops : Array Oper} {rest : List Oper} (hgd : o.guard = none) (s x : Operand) (t : TypeId) (ho : o.op = .call { callee := .builtin .append, args := #[s, x], argTypes := #[t, t] })
    (base : Nat) (e : TypeId) (i : TypeInfo) (z : Value) (size bytes : Nat) (ht : P.underlying t = some (.slice e)) (hi : P.info? e = some i) (hz : i.zero = some z)
    (hsize : i.size = size) (hby : i.bytes = bytes) (hzs : z.cells.size = size) (hsz : 0 < size)
    (v : Value) (n : Nat) (xs : List Value) (hs : a.eval s = v) (hown : w.ownsRow base e size v n xs)
    (B : Nat) (b : Nat) (m c : Nat) (news : List Value) (hx : a.eval x = .slice (some ⟨b, 0, none⟩) m c) (hr : Shows w B size (some ⟨b, 0, none⟩) m news) (h1 : ∀ u ∈ news, u.oneCell' = true)
    (h63 : n + m ≤ maxLen) (hbytes : (n + m) * bytes ≤ 140737488355328) (hbase : base ≤ w.heap.size)
    (h : ∀ A' c' w', w'.ownsRow base e size (.slice A' (n + m) c') (n + m) (xs ++ news) → w.grownBy w' v.ownBlock → Below base w w' → ((Value.slice A' (n + m) c').ownBlock = v.ownBlock ∨ (Value.slice A' (n + m) c').ownBlock = some w.heap.size) → wpList P ops Q rest (a.put o.dst (.slice A' (n + m) c')) w') :
    wpList P ops Q (o :: rest) a w :=
  wpList_plain hgd fun _ hK => step_appO s x t ho base e i z size bytes ht hi hz hsize hby hzs hsz v n xs hs hown B b m c news hx hr h1 h63 hbytes hbase fun A' c' w' h2 h3 h4 h5 => hK _ _ (h A' c' w' h2 h3 h4 h5)
theorem apart_app {base size n : Nat} {e : TypeId} {v v' u : Value} {xs : List Value} (ha : ApartV v u) (hu : w.ownsRow base e size u n xs) (hor : v'.ownBlock = v.ownBlock ∨ v'.ownBlock = some w.heap.size) : ApartV v' u := by
  rcases ha with h | h
  · exact .inl h
  · rcases hor with h2 | h2
    · exact .inr (by rw [h2]; exact h)
    · refine .inr fun e => ?_
      rw [h2] at e
      have := (hu.lt _ e).2
      omega
theorem apart_turn {v u : Value} (h : ApartV v u) : ApartV u v := by
  rcases h with h | h
  · cases hv : v.ownBlock with
    | none => exact .inl hv
    | some k => exact .inr (by rw [hv, h]; simp)
  · exact .inr fun e => h e.symm
end
end Go.Proofs.YtghmehfmchadoaaDoor
/-
  Layer 11: the writer beside another row of one's own.
-/
namespace Go.Proofs.YtghmehfmchadoaaDoor
open Go.RowKit
set_option linter.unusedVariables false

/-- The writer, with the head of its row. -/
def WtV (w : World) (b s : Nat) (l : List UInt8) (v : Value) : Prop :=
  ∃ A c, v = .slice A l.length c ∧ w.cell? ⟨b, 0, none⟩ = some (.int .i64 (s : Nat)) ∧ w.cell? ⟨b, 1, none⟩ = some (.slice A l.length c) ∧ w.frozen? ⟨b, 1, none⟩ = false ∧ w.ownsRow (b + 1) 5 1 (.slice A l.length c) l.length (l.map bv)
theorem WtV.wt {w : World} {b s : Nat} {l : List UInt8} {v : Value} (h : WtV w b s l v) : Wt w b s l := by
  obtain ⟨A, c, _, h⟩ := h
  exact ⟨A, c, h⟩
theorem Wt.wtv {w : World} {b s : Nat} {l : List UInt8} (h : Wt w b s l) : ∃ v, WtV w b s l v := by
  obtain ⟨A, c, h⟩ := h
  exact ⟨_, A, c, rfl, h⟩
theorem WtV.later {w w' : World} {b s : Nat} {l : List UInt8} {v : Value} (h : WtV w b s l v) (hb : Below w.heap.size w w') : WtV w' b s l v := by
  obtain ⟨A, c, hv, h0, h1, h2, h3⟩ := h
  exact ⟨A, c, hv, kept_later hb h0, kept_later hb h1, froz_later hb h1 h2, own_below h3 hb⟩
theorem WtV.drewN {w : World} {b s : Nat} {l : List UInt8} {v : Value} (h : WtV w b s l v) (k : Nat) : WtV (w.drewN k) b s l v := h
/-- Blocks that are neither the writer's nor its row's stay. -/
structure Spares (b : Nat) (v : Value) (w : World) (v' : Value) (w' : World) : Prop where
  s : w.heap.size ≤ w'.heap.size
  k : ∀ E, E < w.heap.size → E ≠ b → v.ownBlock ≠ some E → w'.heap[E]? = w.heap[E]? ∧ v'.ownBlock ≠ some E
theorem Spares.refl (b : Nat) (v : Value) (w : World) : Spares b v w v w := ⟨Nat.le_refl _, fun _ _ _ h => ⟨rfl, h⟩⟩
theorem Spares.trans {b : Nat} {v v' v'' : Value} {w w' w'' : World} (h : Spares b v w v' w') (h' : Spares b v' w' v'' w'') : Spares b v w v'' w'' :=
  ⟨Nat.le_trans h.s h'.s, fun E h1 h2 h3 => by
    obtain ⟨a1, a2⟩ := h.k E h1 h2 h3
    obtain ⟨b1, b2⟩ := h'.k E (Nat.lt_of_lt_of_le h1 h.s) h2 a2
    exact ⟨b1.trans a1, b2⟩⟩
theorem Spares.drewN {b : Nat} {v v' : Value} {w w' : World} (h : Spares b v w v' w') (k : Nat) : Spares b v w v' (w'.drewN k) := ⟨h.s, h.k⟩
theorem Spares.undrewN {b k : Nat} {v v' : Value} {w w' : World} (h : Spares b v (w.drewN k) v' w') : Spares b v w v' w' := ⟨h.s, h.k⟩
theorem spare_done {w w2 : World} {b n : Nat} {o : Obj} {v v' u : Value} (hbs : b < w.heap.size) (hg : (w.alloc o).grownBy w2 v.ownBlock) (hor : v'.ownBlock = v.ownBlock ∨ v'.ownBlock = some (w.alloc o).heap.size) :
    Spares b v w v' (w2.setCell ⟨b, n, none⟩ u) := by
  have hs := hg.size
  rw [World.size_alloc] at hs
  refine ⟨by rw [size_set]; omega, fun E h1 h2 h3 => ⟨?_, ?_⟩⟩
  · refine (Below.heap_setCell w2 _ _ E h2).trans ?_
    exact (hg.block E (by rw [World.size_alloc]; omega) (fun e => h3 e.symm)).trans (Below.heap_alloc w o E h1)
  · rcases hor with h | h
    · rw [h]; exact h3
    · rw [h, World.size_alloc]
      intro e
      injection e with e
      omega
set_option maxRecDepth 20000 in
set_option maxHeartbeats 1000000 in
theorem put_v (b s : Nat) (l : List UInt8) (x : UInt8) (v : Value) (w : World) (hw : WtV w b s l v) (hl : l.length ≤ 100000) :
    Calls Tryd.prog 51 #[.pointer (some ⟨b, 0, none⟩), .int .u8 (x.toNat : Int)] w fun e w' => e = .returned (.tuple #[]) ∧ ∃ v', WtV w' b s (l ++ [x]) v' ∧ Below b w w' ∧ Spares b v w v' w' := by
  have hbs := hw.wt.lt
  obtain ⟨A, c, rfl, h0, hc, hf, hown⟩ := hw
  have H0 := Lib.hid h0
  obtain ⟨i0, hi, hz0, hz1, hz2⟩ := u8_info
  have hbs' : b + 1 ≤ (w.alloc (.cells #[.int .u8 (x.toNat : Int)] 5)).heap.size := by simp; omega
  have hnew := bytes_new w [x] #[.int .u8 (x.toNat : Int)] 5 (0, 0) rfl
  obtain ⟨n, hn⟩ : ∃ n, n = l.length := ⟨_, rfl⟩
  rw [← hn] at hc hown hl
  have Hn := Lib.hid hn
  rw [← hn]
  clear hn h0
  go_enter Tryd.func51, Tryd.ntmps51
  go_wp2_with (first
    | (at_builtin; go_must (refine wpList_appO rfl _ _ _ rfl (b + 1) 5 i0 (.int .u8 0) 1 1 Tryd.underlying22 hi hz0 hz1 hz2 rfl (by decide) _ _ _ rfl (hown.alloc _) (w.heap.size + 1) w.heap.size _ _ ([x].map bv) rfl hnew (bv_one _) ?c3 ?c4 ?c5 ?_)))
  case c3 => unfold maxLen; simp; omega
  case c4 => simp; omega
  case c5 => exact hbs'
  intro A2 c2 w2 hown2 hg2 hb2 hor
  have hc2 : w2.cell? ⟨b, 1, none⟩ = some (.slice A n c) := (hb2.cell (p := ⟨b, 1, none⟩) (by show b < b + 1; omega)).trans (cell_keep hc _)
  have hf2 : w2.frozen? ⟨b, 1, none⟩ = false := (hb2.frozen (p := ⟨b, 1, none⟩) (by show b < b + 1; omega)).trans ((frozen_keep hc _).trans hf)
  have hd := Lib.hid (wt_done Hn.out hbs H0.out hb2 hc2 hf2 hown2)
  have hsp := Lib.hid (spare_done (b := b) (n := 1) (v' := .slice A2 (n + 1) c2) (u := .slice A2 (n + 1) c2) hbs hg2 (hor.imp id (fun h => h.trans (by rw [World.size_alloc]))))
  clear hor hg2
  go_wp2
  go_end0
  obtain ⟨⟨A3, c3, e0, e1, e2, e3⟩, e4⟩ := hd.out
  refine ⟨rfl, .slice A2 (n + 1) c2, ⟨A2, c2, by rw [Hn.out, List.length_append]; rfl, e0, ?_, e2, ?_⟩, e4, hsp.out⟩
  · rw [List.length_append, ← Hn.out]; exact cell_set hc2 _
  · have e5 := e1.symm.trans (cell_set hc2 (.slice A2 (n + 1) c2))
    injection e5 with e5
    injection e5 with e6 e7 e8
    subst e6 e8
    exact e3
set_option maxRecDepth 20000 in
set_option maxHeartbeats 1000000 in
theorem mark_v (b s : Nat) (l : List UInt8) (v : Value) (w : World) (hw : WtV w b s l v) (hl : s + l.length ≤ 2000000) (hl2 : l.length ≤ 100000) :
    Calls Tryd.prog 52 #[.pointer (some ⟨b, 0, none⟩)] w fun e w' => e = .returned (.tuple #[]) ∧ ∃ v', WtV w' b s (markL s l) v' ∧ Below b w w' ∧ Spares b v w v' w' := by
  by_cases h : (s + l.length) % 64 = 0
  · rw [show markL s l = l ++ [0] from if_pos h]
    have hend := end_any b s l w hw.wt hl
    have hput := fun k => put_v b s l 0 v (w.drewN k) (hw.drewN k) hl2
    have h1 : (((s + l.length : Nat) : Int) % 64 == 0) = true := by rw [beq_iff_eq]; omega
    generalize s + l.length = m at *
    go_enter Tryd.func52, Tryd.ntmps52
    go_wp2_with fail
    refine hend.mono ?_
    rintro e w' ⟨rfl, k, rfl⟩
    go_wp2_with fail
    refine (hput k).mono ?_
    rintro e w2 ⟨rfl, v', h2, hb, hs⟩
    go_wp2
    go_end0
    exact ⟨rfl, v', h2, below_undrewN hb, hs.undrewN⟩
  · rw [show markL s l = l from if_neg h]
    have hend := end_any b s l w hw.wt hl
    have hw2 := fun k => hw.drewN k
    have h1 : (((s + l.length : Nat) : Int) % 64 == 0) = false := by rw [beq_eq_false_iff_ne]; omega
    generalize s + l.length = m at *
    go_enter Tryd.func52, Tryd.ntmps52
    go_wp2_with fail
    refine hend.mono ?_
    rintro e w' ⟨rfl, k, rfl⟩
    go_wp2
    go_end0
    exact ⟨rfl, v, hw2 k, below_drewN (Below.refl _ _) k, (Spares.refl b v w).drewN k⟩
set_option maxRecDepth 20000 in
set_option maxHeartbeats 1000000 in
theorem wdata_v (b s : Nat) (l : List UInt8) (x : UInt8) (v : Value) (w : World) (hw : WtV w b s l v) (hl : s + l.length ≤ 2000000) (hl2 : l.length ≤ 90000) :
    Calls Tryd.prog 53 #[.pointer (some ⟨b, 0, none⟩), .int .u8 (x.toNat : Int)] w fun e w' => e = .returned (.tuple #[]) ∧ ∃ v', WtV w' b s (l ++ Fra.layP (s + l.length) [x]) v' ∧ Below b w w' ∧ Spares b v w v' w' := by
  rw [← lay_one]
  have hm := mark_v b s l v w hw hl (by omega)
  have hml := mark_len s l
  have hput := fun w' v' (h : WtV w' b s (markL s l) v') => put_v b s (markL s l) x v' w' h (by omega)
  generalize markL s l = m at *
  have Hput := Lib.hid hput
  clear hput hml hl hl2 hw
  go_enter Tryd.func53, Tryd.ntmps53
  go_wp2_with fail
  refine hm.mono ?_
  rintro e w1 ⟨rfl, v1, h1, hb1, hs1⟩
  go_wp2_with fail
  refine (Hput.out w1 v1 h1).mono ?_
  rintro e w2 ⟨rfl, v2, h2, hb2, hs2⟩
  go_wp2
  go_end0
  exact ⟨rfl, v2, h2, hb1.trans hb2, hs1.trans hs2⟩
end Go.Proofs.YtghmehfmchadoaaDoor
/-
  Checksums of sequences that differ only within four bytes. No program in sight.
-/
namespace Go.Proofs.YtghmehfmchadoaaDoor
open Go.RowKit

theorem st_inj {s t : Nat} (hs : s < 4294967296) (ht : t < 4294967296) (h : Crc.st s = Crc.st t) : s = t := by
  have big : ∀ x : Nat, x < 2147483648 → 2147483648 ≤ x ^^^ Crc.pol := by
    intro x hx
    have h1 : (x ^^^ Crc.pol).testBit 31 = true := by
      rw [Nat.testBit_xor, Nat.testBit_lt_two_pow (x := x) (i := 31) (by simpa using hx)]
      decide
    rcases Nat.lt_or_ge (x ^^^ Crc.pol) 2147483648 with h2 | h2
    · rw [Nat.testBit_lt_two_pow (x := x ^^^ Crc.pol) (i := 31) (by simpa using h2)] at h1
      cases h1
    · exact h2
  have key : ∀ u : Nat, u < 4294967296 → (u % 2 = 1 → Crc.st u = u / 2 ^^^ Crc.pol ∧ 2147483648 ≤ Crc.st u) ∧ (u % 2 = 0 → Crc.st u = u / 2 ∧ Crc.st u < 2147483648) := by
    intro u hu
    refine ⟨fun h1 => ?_, fun h0 => ?_⟩
    · have e : Crc.st u = u / 2 ^^^ Crc.pol := if_pos h1
      exact ⟨e, by rw [e]; exact big _ (by omega)⟩
    · have e : Crc.st u = u / 2 := if_neg (by omega)
      exact ⟨e, by rw [e]; omega⟩
  obtain ⟨a1, a0⟩ := key s hs
  obtain ⟨b1, b0⟩ := key t ht
  rcases Nat.mod_two_eq_zero_or_one s with h1 | h1 <;> rcases Nat.mod_two_eq_zero_or_one t with h2 | h2
  · have := (a0 h1).1; have := (b0 h2).1; omega
  · have := (a0 h1).2; have := (b1 h2).2; omega
  · have := (a1 h1).2; have := (b0 h2).2; omega
  · have e1 := (a1 h1).1
    have e2 := (b1 h2).1
    rw [e1, e2] at h
    have h3 : s / 2 = t / 2 := by
      have := congrArg (· ^^^ Crc.pol) h
      simpa [Nat.xor_assoc] using this
    omega
theorem stN_inj (n : Nat) : ∀ {s t : Nat}, s < 4294967296 → t < 4294967296 → Crc.stN n s = Crc.stN n t → s = t := by
  induction n with
  | zero => intro s t _ _ h; exact h
  | succ n ih => intro s t hs ht h; exact st_inj hs ht (ih (Crc.st_lt hs) (Crc.st_lt ht) h)
theorem take_inj (l : List UInt8) : ∀ {s t : Nat}, s < 4294967296 → t < 4294967296 → Crc.take s l = Crc.take t l → s = t := by
  induction l with
  | nil => intro s t _ _ h; exact h
  | cons c l ih =>
    intro s t hs ht h
    have h1 := ih (Crc.eat_lt c hs) (Crc.eat_lt c ht) h
    unfold Crc.eat at h1
    have hc := c.toNat_lt
    have h2 := stN_inj 8 (Nat.xor_lt_two_pow (n := 32) hs (by omega)) (Nat.xor_lt_two_pow (n := 32) ht (by omega)) h1
    have := congrArg (· ^^^ c.toNat) h2
    simpa [Nat.xor_assoc] using this
/-- The number that four bytes make. -/
def word (a b c d : UInt8) : Nat := a.toNat ^^^ (2 ^ 8 * b.toNat ^^^ (2 ^ 16 * c.toNat ^^^ 2 ^ 24 * d.toNat))
theorem stN_shift (m k x : Nat) : Crc.stN (m + k) (2 ^ m * x) = Crc.stN k x := by rw [Crc.stN_add, Crc.stN_pow]
theorem take4 (s : Nat) (a b c d : UInt8) : Crc.take s [a, b, c, d] = Crc.stN 32 (s ^^^ word a b c d) := by
  show Crc.eat (Crc.eat (Crc.eat (Crc.eat s a) b) c) d = _
  unfold Crc.eat word
  have e : ∀ x k y, Crc.stN 8 (Crc.stN k x ^^^ y) = Crc.stN (k + 8) (x ^^^ 2 ^ k * y) := by
    intro x k y
    rw [Crc.stN_add, Crc.stN_xor k, Crc.stN_pow]
  rw [e (s ^^^ a.toNat) 8 b.toNat, e (s ^^^ a.toNat ^^^ 2 ^ 8 * b.toNat) (8 + 8) c.toNat, e _ (8 + 8 + 8) d.toNat]
  simp only [Nat.reduceAdd]
  rw [Nat.xor_assoc, Nat.xor_assoc, Nat.xor_assoc]
theorem word_sum (a b c d : UInt8) : word a b c d = a.toNat + 256 * b.toNat + 65536 * c.toNat + 16777216 * d.toNat := by
  have ha := a.toNat_lt
  have hb := b.toNat_lt
  have hc := c.toNat_lt
  have hd := d.toNat_lt
  have j : ∀ (i x y : Nat), y < 2 ^ i → y ^^^ 2 ^ i * x = y + 2 ^ i * x := by
    intro i x y hy
    rw [Nat.xor_comm]
    have h1 : 2 ^ i * x ^^^ y = 2 ^ i * x + y := by
      apply Nat.eq_of_testBit_eq
      intro n
      rw [Nat.testBit_xor, Nat.testBit_two_pow_mul_add _ hy, Nat.testBit_two_pow_mul]
      by_cases hi : n < i
      · rw [if_pos hi, decide_eq_false (by omega)]; simp
      · rw [if_neg hi, decide_eq_true (by omega : n ≥ i), Nat.testBit_lt_two_pow (x := y) (i := n) (Nat.lt_of_lt_of_le hy (Nat.pow_le_pow_right (by decide) (by omega)))]
        simp
    omega
  unfold word
  rw [← Nat.xor_assoc, ← Nat.xor_assoc, j 8 _ _ (by omega), j 16 _ _ (by omega), j 24 _ _ (by omega)]
theorem word_inj {a b c d a' b' c' d' : UInt8} (h : word a b c d = word a' b' c' d') : [a, b, c, d] = [a', b', c', d'] := by
  rw [word_sum, word_sum] at h
  have ha := a.toNat_lt
  have hb := b.toNat_lt
  have hc := c.toNat_lt
  have hd := d.toNat_lt
  have ha' := a'.toNat_lt
  have hb' := b'.toNat_lt
  have hc' := c'.toNat_lt
  have hd' := d'.toNat_lt
  have h1 : a = a' := UInt8.toNat_inj.1 (by omega)
  have h2 : b = b' := UInt8.toNat_inj.1 (by omega)
  have h3 : c = c' := UInt8.toNat_inj.1 (by omega)
  have h4 : d = d' := UInt8.toNat_inj.1 (by omega)
  rw [h1, h2, h3, h4]
theorem word_lt (a b c d : UInt8) : word a b c d < 4294967296 := by
  rw [word_sum]
  have ha := a.toNat_lt
  have hb := b.toNat_lt
  have hc := c.toNat_lt
  have hd := d.toNat_lt
  omega
theorem take4_inj (s : Nat) (hs : s < 4294967296) {v w : List UInt8} (hv : v.length = 4) (hw : w.length = 4) (h : Crc.take s v = Crc.take s w) : v = w := by
  match v, hv, w, hw with
  | [a, b, c, d], _, [a', b', c', d'], _ =>
    rw [take4, take4] at h
    have h1 := stN_inj 32 (Nat.xor_lt_two_pow (n := 32) hs (word_lt _ _ _ _)) (Nat.xor_lt_two_pow (n := 32) hs (word_lt _ _ _ _)) h
    have h2 := congrArg (s ^^^ ·) h1
    simp only [← Nat.xor_assoc, Nat.xor_self, Nat.zero_xor] at h2
    exact word_inj h2
/-- Sequences that differ only within four bytes have one checksum, from any start, only if they are one. -/
theorem apart (s : Nat) (x v w y : List UInt8) (hv : v.length = 4) (hw : w.length = 4) (h : Crc.more s (x ++ (v ++ y)) = Crc.more s (x ++ (w ++ y))) : v = w := by
  unfold Crc.more at h
  have hs : 4294967295 - s < 4294967296 := by omega
  have b1 := Crc.take_lt (x ++ (v ++ y)) (s := 4294967295 - s) hs
  have b2 := Crc.take_lt (x ++ (w ++ y)) (s := 4294967295 - s) hs
  have h1 : Crc.take (4294967295 - s) (x ++ (v ++ y)) = Crc.take (4294967295 - s) (x ++ (w ++ y)) := by omega
  rw [Crc.take_append, Crc.take_append, Crc.take_append, Crc.take_append] at h1
  have hx := Crc.take_lt x (s := 4294967295 - s) hs
  exact take4_inj _ hx hv hw (take_inj y (Crc.take_lt v hx) (Crc.take_lt w hx) h1)

theorem beq_cast (a b : Nat) : ((a : Int) == (b : Int)) = decide (a = b) := by
  rw [Bool.eq_iff_iff, beq_iff_eq, decide_eq_true_iff]
  omega
theorem own_some {w : World} {base : Nat} {e : TypeId} {A : Option Addr} {n c size : Nat} {xs : List Value} (h : w.ownsRow base e size (.slice A n c) n xs) (hn : 0 < n) : ∃ g, A = some ⟨g, 0, none⟩ := by
  obtain ⟨g, cap, hv, _, _⟩ := h.form hn
  injection hv with hA
  exact ⟨g, hA⟩
end Go.Proofs.YtghmehfmchadoaaDoor
/-
  Layer 11: a record goes out through a writer.
-/
namespace Go.Proofs.YtghmehfmchadoaaDoor
open Go.RowKit
set_option linter.unusedVariables false

/-- A row of one's own stays where its block does. -/
theorem own_block {w w' : World} {D n c E : Nat} {t : TypeId} {off : Nat} {l : List UInt8} (h : w.ownsRow D t 1 (.slice (some ⟨E, off, none⟩) n c) n (l.map bv)) (hE : w'.heap[E]? = w.heap[E]?) (hs : w.heap.size ≤ w'.heap.size) : Bytes w' w'.heap.size (some ⟨E, off, none⟩) n l := by
  obtain ⟨h1, h2⟩ := Bytes.own h
  refine ⟨h1, fun hn => ?_⟩
  obtain ⟨b, o, e, hb, hc⟩ := h2 hn
  injection e with e
  injection e with e1 e2
  subst e1 e2
  exact ⟨E, off, rfl, Nat.lt_of_lt_of_le hb hs, fun j u hj => (World.cell?_of_block hE).trans (hc j u hj)⟩
theorem lay_step (s : Nat) (l e : List UInt8) (k : Nat) (hk : k < e.length) : l ++ Fra.layP (s + l.length) (e.take k) ++ Fra.layP (s + (l ++ Fra.layP (s + l.length) (e.take k)).length) [e.getD k 0] = l ++ Fra.layP (s + l.length) (e.take (k + 1)) := by
  rw [take_snoc _ _ hk, Fra.layP_append, List.append_assoc, List.length_append, Nat.add_assoc]
theorem lay_long (n k : Nat) (e : List UInt8) (he : e.length ≤ 4102) : (Fra.layP n (e.take k)).length ≤ 8204 := by
  have h1 := (Fra.layP_ge (e.take k) n).2
  have h2 : (e.take k).length ≤ e.length := by rw [List.length_take]; omega
  omega
set_option maxRecDepth 20000 in
set_option maxHeartbeats 2000000 in
theorem write_any (b s : Nat) (l : List UInt8) (p : PcT) (B : Nat) (w : World) (htab : Tab w) (hw : Wt w b s l) (hp : p.Ok w B) (hB : B ≤ w.heap.size) (hn : p.n ≤ 4096) (hs : s ≤ 600000) (hl : l.length ≤ 1000) :
    Calls Tryd.prog 32 #[.pointer (some ⟨b, 0, none⟩), .slice p.A p.n p.c] w fun e w' => e = .returned (.int .i64 ((s + l.length : Nat) : Int)) ∧ Wt w' b s (l ++ Fra.layP (s + l.length) (Fra.encL p.l)) ∧ Below b w w' := by
  have hend := end_any b s l w hw (by omega)
  have hblt := hw.lt
  have henc := Lib.hid (fun k => encoding_any p B (w.drewN k) htab (hp.later (below_drewN (Below.refl _ _) k)) hB hn)
  have hmf : ∀ (fn : Fn) (first cap : Array Value) (w : World), (Instr.makeFunc fn first cap).run Tryd.prog w = .ok (.func fn first cap) w := fun _ _ _ _ => rfl
  have hel : (Fra.encL p.l).length ≤ 4102 := by rw [Fra.encL_len, hp.len]; omega
  have hne : 6 ≤ (Fra.encL p.l).length := by rw [Fra.encL_len]; omega
  clear htab hp hn
  generalize Fra.encL p.l = en at *
  obtain ⟨at0, ha⟩ : ∃ a, s + l.length = a := ⟨_, rfl⟩
  rw [ha] at hend
  have Ha := Lib.hid ha
  go_enter Tryd.func32, Tryd.ntmps32
  go_wp2_with fail
  refine hend.mono ?_
  rintro e W1 ⟨rfl, k1, rfl⟩
  go_wp2_with fail
  refine (henc.out k1).mono ?_
  rintro e W2 ⟨A, n, c, rfl, hown, hb2⟩
  have hb3 := below_undrewN hb2
  obtain ⟨v0, hv0⟩ := (hw.later hb3).wtv
  have hnl : n = en.length := by have := hown.1; simpa using this.symm
  obtain ⟨E, hA⟩ : ∃ E, A = some ⟨E, 0, none⟩ := own_some hown (by omega)
  subst hA
  have hElt := hown.lt E (by rfl)
  have hE0 : w.heap.size ≤ E := hElt.1
  have Hown := Lib.hid hown
  have HV := Lib.hid (show ∃ v, WtV W2 b s l v ∧ v.ownBlock ≠ some E from by
    obtain ⟨v, hv⟩ := hw.wtv
    refine ⟨v, hv.later hb3, fun e => ?_⟩
    obtain ⟨A', c', rfl, _, _, _, h4⟩ := hv
    have := (h4.lt E e).2
    omega)
  have hb4 : Below b w W2 := hb3.mono (Nat.le_of_lt hblt)
  have Hmf := Lib.hid hmf
  have hEs := hElt.2
  have hEb : E ≠ b := by omega
  clear henc hb2 hb3 hv0 hend hw hown hElt
  subst hnl
  go_wp2_with fail
  go_loopw [18] (fun iv wr => ∃ (i : Nat) (v : Value), i ≤ en.length ∧ iv = .int .i64 i ∧ Hid (WtV wr b s (l ++ Fra.layP (s + l.length) (en.take i)) v ∧ v.ownBlock ≠ some E) ∧ Hid (wr.heap[E]? = W2.heap[E]?) ∧ Below b w wr ∧ W2.heap.size ≤ wr.heap.size) (fun iv _ => en.length - (intOf iv).toNat)
  case atStart =>
    obtain ⟨v, h1, h2⟩ := HV.out
    exact ⟨0, v, Nat.zero_le _, rfl, Lib.hid ⟨by rw [List.take_zero, Fra.layP_nil, List.append_nil]; exact h1, h2⟩, Lib.hid rfl, hb4, Nat.le_refl _⟩
  case round =>
    clear HV hb4
    obtain ⟨i, v, hi, rfl, HV, HE, hbr, hsr⟩ := hrel
    rename World => wr
    have hbt := own_block Hown.out HE.out hsr
    by_cases hlt : i < en.length
    · obtain ⟨b', off, e', hb', hc⟩ := hbt.cell hlt
      injection e' with e'
      injection e' with e1 e2
      subst e1 e2
      rw [Nat.zero_add] at hc
      have hll := lay_long (s + l.length) i en hel
      have hdt := wdata_v b s (l ++ Fra.layP (s + l.length) (en.take i)) (en.getD i 0) v wr HV.out.1 (by rw [List.length_append]; omega) (by rw [List.length_append]; omega)
      have hst := lay_step s l en i hlt
      have hx : at8 en i = ((en.getD i 0).toNat : Int) := rfl
      rw [hx] at hc
      obtain ⟨x, hxx⟩ : ∃ x, en.getD i 0 = x := ⟨_, rfl⟩
      rw [hxx] at hc hst hdt
      rw [hst] at hdt
      have hdt := Lib.hid hdt
      clear hst hxx
      have hlt' : (i : Int) < (en.length : Int) := by omega
      have hi0 : (0 : Int) ≤ (i : Int) := by omega
      have Hsp := Lib.hid (show ∀ v' w', Spares b v wr v' w' → w'.heap[E]? = wr.heap[E]? ∧ v'.ownBlock ≠ some E from fun v' w' h => h.k E (by omega) hEb HV.out.2)
      clear hx hll hbt
      go_wp2_with fail
      with_reducible refine hdt.out.mono ?_
      rintro e w5 ⟨rfl, v', h5, hb5, hs5⟩
      have hsp := Hsp.out v' w5 hs5
      have HV5 := Lib.hid (And.intro h5 hsp.2)
      have HE5 := Lib.hid (hsp.1.trans HE.out)
      have hb6 := hbr.trans hb5
      have hs6 := Nat.le_trans hsr hs5.s
      clear hdt Hsp h5 hsp HV HE hbr hsr hb5 hs5 hc
      go_wp2
      go_roundw
      case rel => exact ⟨i + 1, v', by omega, by go_num, HV5, HE5, hb6, hs6⟩
      case measure => simp [intOf]; omega
    · have hi' : i = en.length := by omega
      subst hi'
      have HW := Lib.hid HV.out.1.wt
      clear hbt HV HE
      go_wp2
      go_ret
      refine ⟨by rw [Ha.out]; rfl, ?_, hbr⟩
      have := HW.out
      rw [List.take_length] at this
      exact this
end Go.Proofs.YtghmehfmchadoaaDoor
/-
  Rows of an argument, cell by cell: flat_len, flat_get, shows_rows.
-/
namespace Go.Proofs.YtghmehfmchadoaaDoor
open Go.ChangeShapes Go.WideShapes Go.ChangeAt Go.RowKit Go.Deep
set_option linter.unusedVariables false

theorem flat_len {α : Type} (f : α → List Value) (k : Nat) (hf : ∀ x, (f x).length = k) : ∀ l : List α, (l.flatMap f).length = l.length * k
  | [] => by simp
  | x :: l => by rw [List.flatMap_cons, List.length_append, flat_len f k hf l, hf, List.length_cons, Nat.add_mul]; omega
theorem flat_get {α : Type} (f : α → List Value) (k : Nat) (hf : ∀ x, (f x).length = k) : ∀ (l : List α) (i j : Nat) (hi : i < l.length) (_ : j < k), (l.flatMap f)[i * k + j]? = (f (l[i]'hi))[j]?
  | x :: l, 0, j, _, hj => by
    rw [List.flatMap_cons, List.getElem?_append_left (by rw [hf]; omega)]
    simp
  | x :: l, i + 1, j, hi, hj => by
    have e : (i + 1) * k + j = (f x).length + (i * k + j) := by rw [hf, Nat.add_mul]; omega
    rw [List.flatMap_cons, e, List.getElem?_append_right (by omega), Nat.add_sub_cancel_left, flat_get f k hf l i j (by simpa using hi) hj]
    simp
/-- Rows of cells that are known one by one. -/
theorem shows_rows {α : Type} (f : α → List Value) (k : Nat) (hk : 0 < k) (hf : ∀ x, (f x).length = k) {w : World} {a : Addr} {n : Nat} (F : Nat → α) (h : ∀ i, i < n → ∀ j u, (f (F i))[j]? = some u → w.cell? (a.add (i * k + j)) = some u) :
    Shows w w.heap.size k (some a) n (((List.range n).map F).flatMap f) := by
  have hl : ((List.range n).map F).length = n := by simp
  refine ⟨by rw [flat_len f k hf, hl], fun hn => ?_⟩
  obtain ⟨b, off, spot⟩ := a
  have h00 : 0 < (f (F 0)).length := by rw [hf]; exact hk
  have hc0 := h 0 hn 0 _ (List.getElem?_eq_getElem h00)
  have hspot : spot = none := by simpa [Addr.add] using World.cell?_spot hc0
  subst hspot
  have hlt : b < w.heap.size := World.block_lt_of_cell? w _ (by simpa [Addr.add] using hc0)
  refine ⟨b, off, rfl, hlt, fun j u hu => ?_⟩
  have hj : j < (((List.range n).map F).flatMap f).length := (List.getElem?_eq_some_iff.1 hu).1
  rw [flat_len f k hf, hl] at hj
  have hd : j / k < n := Nat.div_lt_of_lt_mul (by rw [Nat.mul_comm]; exact hj)
  have hm : j % k < k := Nat.mod_lt _ hk
  have he : j = j / k * k + j % k := by rw [Nat.mul_comm]; exact (Nat.div_add_mod j k).symm
  rw [he, flat_get f k hf _ _ _ (by rw [hl]; exact hd) hm] at hu
  simp only [List.getElem_map, List.getElem_range] at hu
  have := h (j / k) hd (j % k) u hu
  rw [addr_add, ← he] at this
  exact this

end Go.Proofs.YtghmehfmchadoaaDoor
/-
  What the second form's bound gives: no part of a reading is greater than the whole. Rows of things that came in, each within the bound.
-/
namespace Go.Proofs.YtghmehfmchadoaaDoor
open Go.ChangeShapes Go.WideShapes Go.ChangeAt Go.RowKit Go.Deep
set_option linter.unusedVariables false

theorem blk_part {H : Type} {d : DataW H} : ∀ {l : List (DataW H)}, d ∈ l → Rows.uptoBulk d ≤ Rows.uptoBulkAll l
  | x :: r, h => by
    rw [Rows.uptoBulkAll]
    rcases List.mem_cons.1 h with rfl | h
    · omega
    · have := blk_part h; omega
theorem blk_agg {H : Type} {d : DataW H} {l : List (DataW H)} (h : d ∈ l) : Rows.uptoBulk d ≤ Rows.uptoBulk (.agg l) := by
  have := blk_part h
  rw [Rows.uptoBulk]
  omega
theorem blk_slice {H : Type} {d : DataW H} {l r : List (DataW H)} (h : d ∈ l) : Rows.uptoBulk d ≤ Rows.uptoBulk (.slice l r) := by
  have := blk_part h
  rw [Rows.uptoBulk]
  omega
theorem blk_str {H : Type} {s : ByteArray} {N : Nat} (h : Rows.uptoBulk (DataW.lit (H := H) (.string s.data.toList)) ≤ N) : s.size ≤ N := by
  rw [Rows.uptoBulk] at h
  have : s.data.toList.length = s.size := by rw [Array.length_toList]; rfl
  omega
theorem blk_all {H : Type} {l : List (DataW H)} (h : Rows.uptoSmall H l = true) {d : DataW H} (hd : d ∈ l) : Rows.uptoBulk d ≤ 1048576 := by
  have h1 := of_decide_eq_true h
  exact Nat.le_trans (blk_part hd) h1
section
variable {H : Type} {enc : TypeId × Value → H} {P : Program} {w W : World} {base : Nat} {spare : Nat → Bool} {held : Bool} {t e : TypeId} {N : Nat}
/-- A row of things that came in, one by one, each within the bound. -/
theorem open_rowsN {α : Type} (f : α → List Value) (z : α) (k : Nat) (hk : 0 < k) (hf : ∀ x, (f x).length = k) (Q : α → Prop) {fuel : Nat} {cs : List Value} {x : DataW H × List MemPlace} (ht : P.underlying t = some (.slice e)) (hC : P.cellsOf e = k)
    (hQ : ∀ n cs y, n < fuel → cs.length = k → DataW.trod enc P w base spare held n e cs = some y → Rows.uptoBulk y.1 ≤ N → ∃ x : α, cs = f x ∧ Q x)
    (h : DataW.trod enc P w base spare held fuel t cs = some x) (hN : Rows.uptoBulk x.1 ≤ N) : ∃ (A : Option Addr) (n c : Nat) (l : List α), cs = [.slice A n c] ∧ Shows w w.heap.size k A n (l.flatMap f) ∧ (∀ x ∈ l, Q x) ∧ (A = none → c = 0) ∧ n ≤ c ∧ c ≤ maxLen := by
  rcases DataW.trod_slice ht h with ⟨hcs, _⟩ | ⟨a, len, cap, elems, rest, n, hn, hcs, hx, _, hl, hm, hlen, hi, _, _⟩
  · exact ⟨none, 0, 0, [], hcs, ⟨by simp, fun h => absurd h (by decide)⟩, by simp, fun _ => rfl, Nat.le_refl _, Nat.zero_le _⟩
  · have hF : ∀ i, ∃ r : α, i < len → Q r ∧ ∀ j u, (f r)[j]? = some u → w.cell? (a.add (i * k + j)) = some u := by
      intro i
      by_cases hin : i < len
      · have h2 := hi i hin
        have hi' : i < elems.length := by rw [hlen]; exact hin
        rw [List.getElem?_eq_getElem hi'] at h2
        obtain ⟨cs', hc, htr⟩ := Option.bind_eq_some_iff.1 h2
        obtain ⟨_, hlen', hat⟩ := World.cells?_some hc
        rw [hC] at hlen' hat
        have hb : Rows.uptoBulk (elems[i]).1 ≤ N := by
          rw [hx] at hN
          exact Nat.le_trans (blk_slice (List.mem_map_of_mem (f := (·.1)) (List.getElem_mem hi'))) hN
        obtain ⟨r, rfl, hr⟩ := hQ n cs' _ (by omega) hlen' htr hb
        refine ⟨r, fun _ => ⟨hr, fun j u hu => ?_⟩⟩
        have hj : j < k := by have := (List.getElem?_eq_some_iff.1 hu).1; rw [hlen'] at this; exact this
        have := hat j hj
        rw [hu] at this
        rw [← this, ← Go.Deep.add_add]
      · exact ⟨z, fun h => absurd h hin⟩
    refine ⟨some a, len, cap, (List.range len).map fun i => Classical.choose (hF i), hcs, shows_rows f k hk hf _ fun i hi j u hu => (Classical.choose_spec (hF i) hi).2 j u hu, ?_, nofun, hl, hm⟩
    intro r hr
    obtain ⟨i, hi, rfl⟩ := List.mem_map.1 hr
    exact (Classical.choose_spec (hF i) (List.mem_range.1 hi)).1
theorem open_keysN {fuel : Nat} {cs : List Value} {x : DataW H × List MemPlace} (ht : P.underlying t = some (.slice e)) (hC : P.cellsOf e = 1) (he : P.underlying e = some .string) (h : DataW.trod enc P w base spare held fuel t cs = some x) (hN : Rows.uptoBulk x.1 ≤ N) :
    ∃ (A : Option Addr) (n c : Nat) (l : List ByteArray), cs = [.slice A n c] ∧ Shows w w.heap.size 1 A n (l.map Value.string) ∧ (∀ x ∈ l, x.size ≤ maxLen ∧ x.size ≤ N) ∧ (A = none → c = 0) ∧ n ≤ c ∧ c ≤ maxLen := by
  obtain ⟨A, n, c, l, h1, h2, h3⟩ := open_rowsN (fun s : ByteArray => [Value.string s]) ⟨#[]⟩ 1 (by decide) (fun _ => rfl) (fun s => s.size ≤ maxLen ∧ s.size ≤ N) ht hC (fun n cs y _ _ hy hb => by
    obtain ⟨s, e, hy1, hs⟩ := DataW.trod_string he hy
    rw [hy1] at hb
    exact ⟨s, e, hs, blk_str hb⟩) h hN
  have hfl : ∀ l : List ByteArray, l.flatMap (fun s => [Value.string s]) = l.map Value.string := by
    intro l
    induction l with
    | nil => rfl
    | cons x l ih => rw [List.flatMap_cons, ih]; rfl
  rw [hfl] at h2
  exact ⟨A, n, c, l, h1, h2, h3⟩
end
end Go.Proofs.YtghmehfmchadoaaDoor
