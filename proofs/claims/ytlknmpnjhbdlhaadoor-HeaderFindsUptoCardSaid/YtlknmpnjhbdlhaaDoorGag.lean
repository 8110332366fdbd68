import Derived.Test.YtlknmpnjhbdlhaaDoorGaf
import Derived.Test.YtlknmpnjhbdlhaaDoorGad
import Derived.Test.YtlknmpnjhbdlhaaDoorGac
import Derived.Test.YtlknmpnjhbdlhaaDoorGaa
import Derived.Laws.EntriesVeiled
import Derived.Deep.WholeRow
/-
  Layer 10: Len, and the reference's All.
-/
namespace Go.Proofs.YtlknmpnjhbdlhaaDoor
open Go.RowKit
set_option linter.unusedVariables false

set_option maxRecDepth 20000 in
theorem lenF_any (X : FileT) (B : Nat) (w : World) (hL : LieF w B X) (hB : B ≤ w.heap.size) (hN : ∀ p ∈ X.Q, p.n ≤ 1048576) :
    Calls Tryd.prog 27 #[X.agg] w fun e w' => e = .returned (.int .i64 (if X.right = true then (X.long : Nat) else 0)) ∧ Below w.heap.size w w' := by
  have hb1 := bel_alloc (Below.refl w.heap.size w) (.cells #[.slice X.F.A X.F.n X.F.c, .slice X.lA X.ln X.lc, .int .i64 X.fuse, .int .i64 X.fault, .bool X.off] 37)
  have HX := FBox.new w X 37
  have hch := checkF_any X B _ (hL.later (hb1.mono hB)) (Nat.le_trans hB hb1.size) hN
  have Hle := Lib.hid (fun W (h : Below w.heap.size w W) => length_any X B W (hL.later (h.mono hB)) (Nat.le_trans hB h.size) hN)
  simp only [FileT.agg, PcT.val] at Hle hch ⊢
  generalize X.long = lo at *
  clear hL hN
  obtain ⟨f0, f1, f2, f3, f4⟩ := HX
  cases hr : X.right
  · rw [hr] at hch
    clear hr
    go_enter Tryd.func27, Tryd.ntmps27
    go_wp2_with fail
    refine hch.mono ?_
    rintro e W1 ⟨rfl, hb2⟩
    clear hch Hle
    go_wp2
    all_goals
      go_ret
      exact ⟨rfl, bel_next hb1 hb2⟩
  · rw [hr] at hch
    clear hr
    have HX := Lib.hid (FBox.new w X 37)
    go_enter Tryd.func27, Tryd.ntmps27
    go_wp2_with fail
    refine hch.mono ?_
    rintro e W1 ⟨rfl, hb2⟩
    have hb3 := bel_next hb1 hb2
    have hX2 := HX.out.later hb2
    clear hch HX f0 f1 f2 f3 f4
    obtain ⟨f0, f1, f2, f3, f4⟩ := hX2
    go_wp2_with fail
    refine (Hle.out _ hb3).mono ?_
    rintro e W2 ⟨rfl, hb4⟩
    clear Hle
    go_wp2
    all_goals
      go_ret
      exact ⟨rfl, bel_next hb3 hb4⟩
theorem sumN_take (L : List PcT) (k : Nat) : sumN (L.take k) ≤ sumN L := by
  have h : sumN L = sumN (L.take k) + sumN (L.drop k) := by
    unfold sumN
    rw [← List.sum_append, ← List.map_append, List.take_append_drop]
  omega
set_option maxRecDepth 20000 in
set_option maxHeartbeats 2000000 in
theorem refAll_any (X : FileT) (B : Nat) (w : World) (hL : LieF w B X) (hB : B ≤ w.heap.size) (hr : X.right = true) :
    Calls Tryd.prog 43 #[X.agg] w fun e w' => ∃ A c, e = .returned (.slice A X.long c) ∧ Hid (w'.ownsRow w.heap.size 5 1 (.slice A X.long c) X.long (X.all.map bv)) ∧ Below w.heap.size w w' := by
  obtain ⟨i0, hi, hz0, hz1, hz2⟩ := u8_info
  obtain ⟨hlong, hmax⟩ := right_all hL hr
  have hsum : X.all.length = X.F.n + sumN X.L := by unfold FileT.all; rw [List.length_append, hL.firm.len, sumN_len hL.loose]
  have hb1 := bel_alloc (Below.refl w.heap.size w) (.cells #[.slice X.F.A X.F.n X.F.c, .slice X.lA X.ln X.lc, .int .i64 X.fuse, .int .i64 X.fault, .bool X.off] 37)
  have HX := Lib.hid (FBox.new w X 37)
  have HL := Lib.hid (fun W (h : Below w.heap.size w W) => hL.later (h.mono hB))
  have hln := Nat.le_trans hL.fits hL.most
  unfold maxLen at hln
  have hMx : 600000 ≤ maxLen := by decide
  have Hlong := Lib.hid (show X.long = X.F.n + sumN X.L by rw [hlong, hsum])
  have hFn : X.F.n ≤ 524288 := by omega
  have Hsum := Lib.hid (show X.F.n + sumN X.L ≤ 524288 by omega)
  have HlL := Lib.hid hL.len
  clear hlong hmax hsum hr
  simp only [FileT.agg, PcT.val]
  go_enter Tryd.func43, Tryd.ntmps43
  go_upto_region 2 with fail
  generalize (w.alloc (.cells #[.slice X.F.A X.F.n X.F.c, .slice X.lA X.ln X.lc, .int .i64 X.fuse, .int .i64 X.fault, .bool X.off] 37)) = W1 at *
  obtain ⟨f0, f1, -⟩ := HX.out
  have hn0 := World.ownsRow_nil W1 W1.heap.size 5 1
  have hs0 := (HL.out W1 hb1).firm.here
  go_wp2_with (at_builtin; refine wpList_append_shows _ rfl _ _ 34 rfl W1.heap.size 5 i0 (.int .u8 0) 1 1 Tryd.underlying34 hi hz0 hz1 hz2 rfl (by decide) _ _ _ rfl hn0 B _ X.F.n _ (X.F.l.map bv) rfl hs0 (bv_one _) (by omega) (by omega) (Nat.le_refl _) ?_; intro A7 c7 w7 hown7 hgrow7 hb7; have hx7 : Below w.heap.size w w7 := bel_next hb1 hb7; have HO7 := Lib.hid hown7; clear hown7 hgrow7 hn0 hs0)
  have HO := Lib.hid (show w7.ownsRow W1.heap.size 5 1 (.slice A7 X.F.n c7) X.F.n ((X.F.l ++ joinP (X.L.take 0)).map bv) by simpa [joinP] using HO7.out)
  clear HO7 f0 f1
  go_wp2
  go_loopw [3, 4] (fun o i wr => ∃ (j m : Nat) (A : Option Addr) (c : Nat), j ≤ X.ln ∧ i = .int .i64 j ∧ o = .slice A m c ∧ Hid (m = X.F.n + sumN (X.L.take j)) ∧ Hid (wr.ownsRow W1.heap.size 5 1 (.slice A m c) m ((X.F.l ++ joinP (X.L.take j)).map bv)) ∧ Below W1.heap.size W1 wr) (fun _ i _ => X.ln - (intOf i).toNat)
  case atStart => exact ⟨0, X.F.n, A7, c7, Nat.zero_le _, rfl, by first | rfl | simp, Lib.hid (by simp [sumN]), HO, hb7⟩
  case round =>
    obtain ⟨j, m, A, c, hj, rfl, rfl, HM, HO, hbr⟩ := hrel
    rename World => wr
    clear hb7 hx7
    obtain ⟨f0, f1, -⟩ := HX.out.later hbr
    have hbw := bel_next hb1 hbr
    have hLr := HL.out wr hbw
    by_cases hlt : j < X.ln
    · obtain ⟨b, off, p, hA, _, hp, hc⟩ := pc_at hLr.row hlt
      have hs := (hLr.loose p (List.mem_of_getElem? hp)).here
      have hlt' : (j : Int) < X.ln := by omega
      have HM2 := Lib.hid (show m + p.n = X.F.n + sumN (X.L.take (j + 1)) by
        rw [HM.out]
        have : sumN (X.L.take (j + 1)) = sumN (X.L.take j) + p.n := by unfold sumN; rw [List.take_add_one, hp]; simp
        omega)
      have hle : m + p.n ≤ 524288 := by
        rw [HM2.out]
        have h1 := sumN_take X.L (j + 1)
        have := Hsum.out
        omega
      have HJ := Lib.hid (joinP_take hp)
      have hown := HO.out
      have hbs := hbr.size
      rw [hA] at f1
      clear hp HM HO hLr hA
      go_wp2_with (at_builtin; refine wpList_append_shows _ rfl _ _ 34 rfl W1.heap.size 5 i0 (.int .u8 0) 1 1 Tryd.underlying34 hi hz0 hz1 hz2 rfl (by decide) _ _ _ rfl hown B _ p.n _ (p.l.map bv) rfl hs (bv_one _) (by omega) (by omega) hbs ?_; intro A8 c8 w8 hown8 hgrow8 hb8; have HO8 := Lib.hid hown8; clear hown8 hgrow8 hown hs)
      go_roundw
      case rel => exact ⟨j + 1, m + p.n, A8, c8, by omega, by go_num, rfl, HM2, Lib.hid (by rw [HJ.out, ← List.append_assoc, List.map_append]; exact HO8.out), hbr.trans hb8⟩
      case measure => simp [intOf]; omega
    · obtain rfl : j = X.ln := by omega
      have htk : X.L.take X.ln = X.L := List.take_of_length_le (by rw [HlL.out]; exact Nat.le_refl _)
      have HM2 := Lib.hid (show m = X.long by rw [Hlong.out, HM.out, htk])
      have HO2 := Lib.hid (show wr.ownsRow W1.heap.size 5 1 (.slice A m c) m (X.all.map bv) by have h := HO.out; rw [htk] at h; exact h)
      clear HM HO htk hLr
      go_wp2
      go_ret
      exact ⟨A, c, by rw [← HM2.out]; rfl, Lib.hid (by rw [← HM2.out]; exact own_base HO2.out hb1.size), hbw⟩
end Go.Proofs.YtlknmpnjhbdlhaaDoor
/-
  Layer 10: tick, a fresh file, New.
-/
namespace Go.Proofs.YtlknmpnjhbdlhaaDoor
open Go.RowKit
set_option linter.unusedVariables false

def tickN (n : Int) : Int := if 0 < n then n - 1 else n
theorem tick_any (n : Int) (w : World) (hn : (Lit.int .i64 n).wf = true) : Calls Tryd.prog 78 #[.int .i64 n] w fun e w' => e = .returned (.int .i64 (tickN n)) ∧ w = w' := by
  have hb := wf_i64 hn
  clear hn
  by_cases h : 0 < n
  · have e1 : IntKind.i64.wrap (n - 1) = n - 1 := by rw [IntKind.wrap_i64]; omega
    have e2 : wrap64 (n - 1) = n - 1 := by unfold wrap64; omega
    rw [show tickN n = n - 1 from if_pos h]
    clear hb
    go_enter Tryd.func78, Tryd.ntmps78
    go_wp2
    all_goals
      go_ret
      exact ⟨by first | rfl | simp [*], rfl⟩
  · rw [show tickN n = n from if_neg h]
    clear hb
    go_enter Tryd.func78, Tryd.ntmps78
    go_wp2
    all_goals
      go_ret
      exact ⟨rfl, rfl⟩
theorem fresh_any (A : Option Addr) (n c : Nat) (w : World) : Calls Tryd.prog 47 #[.slice A n c] w fun e w' => e = .returned (.agg #[.slice A n c, .slice none 0 0, .int .i64 (-1), .int .i64 (-1), .bool false]) ∧ Below w.heap.size w w' := by
  go_enter Tryd.func47, Tryd.ntmps47
  go_wp2
  refine bodyPost_ret (v := .agg #[.slice A n c, .slice none 0 0, .int .i64 (-1), .int .i64 (-1), .bool false]) ?_ rfl ⟨rfl, bel_alloc (Below.refl _ _) _⟩
  simp [results, Tryd.results47, go_sem, *]
/-- Five cells of a file's variable, and that they may be written. -/
def FVar (W : World) (g : Nat) (a b c d e : Value) : Prop :=
  (W.cell? ⟨g, 0, none⟩ = some a ∧ W.cell? ⟨g, 1, none⟩ = some b ∧ W.cell? ⟨g, 2, none⟩ = some c ∧ W.cell? ⟨g, 3, none⟩ = some d ∧ W.cell? ⟨g, 4, none⟩ = some e) ∧
  (W.frozen? ⟨g, 0, none⟩ = false ∧ W.frozen? ⟨g, 1, none⟩ = false ∧ W.frozen? ⟨g, 2, none⟩ = false ∧ W.frozen? ⟨g, 3, none⟩ = false ∧ W.frozen? ⟨g, 4, none⟩ = false)
theorem FVar.new (w : World) (a b c d e : Value) (t : TypeId) : FVar (w.alloc (.cells #[a, b, c, d, e] t)) w.heap.size a b c d e :=
  ⟨⟨by simp [go_sem], by simp [go_sem], by simp [go_sem], by simp [go_sem], by simp [go_sem]⟩, by simp [go_sem], by simp [go_sem], by simp [go_sem], by simp [go_sem], by simp [go_sem]⟩
theorem FVar.later {W W' : World} {g : Nat} {a b c d e : Value} (h : FVar W g a b c d e) (hb : Below W.heap.size W W') : FVar W' g a b c d e := by
  obtain ⟨⟨h0, h1, h2, h3, h4⟩, k0, k1, k2, k3, k4⟩ := h
  exact ⟨⟨kept_later hb h0, kept_later hb h1, kept_later hb h2, kept_later hb h3, kept_later hb h4⟩, froz_later hb h0 k0, froz_later hb h1 k1, froz_later hb h2 k2, froz_later hb h3 k3, froz_later hb h4 k4⟩
theorem fbelow_set5 {B g : Nat} {w w1 : World} {a b c d e : Value} (h : Below B w w1) (hg : B ≤ g) : Below B w (((((w1.setCell ⟨g, 0, none⟩ a).setCell ⟨g, 1, none⟩ b).setCell ⟨g, 2, none⟩ c).setCell ⟨g, 3, none⟩ d).setCell ⟨g, 4, none⟩ e) :=
  ((((h.setCell hg a).setCell hg b).setCell hg c).setCell hg d).setCell hg e
set_option maxRecDepth 20000 in
theorem newF_any (w : World) : Calls Tryd.prog 30 #[] w fun e w' => e = .returned (.agg #[.slice none 0 0, .slice none 0 0, .int .i64 (-1), .int .i64 (-1), .bool false]) ∧ Below w.heap.size w w' := by
  have hb1 := bel_alloc (Below.refl w.heap.size w) (.cells #[.slice none 0 0, .slice none 0 0, .int .i64 0, .int .i64 0, .bool false] 37)
  have HV := FVar.new w (.slice none 0 0) (.slice none 0 0) (.int .i64 0) (.int .i64 0) (.bool false) 37
  go_enter Tryd.func30, Tryd.ntmps30
  go_wp2_with fail
  refine (fresh_any none 0 0 _).mono ?_
  rintro e w1 ⟨rfl, hb2⟩
  obtain ⟨⟨e0, e1, e2, e3, e4⟩, f0, f1, f2, f3, f4⟩ := HV.later hb2
  have hb3 := bel_next hb1 hb2
  clear HV hb1 hb2
  go_wp2
  refine bodyPost_ret (v := .agg #[.slice none 0 0, .slice none 0 0, .int .i64 (-1), .int .i64 (-1), .bool false]) ?_ rfl ⟨rfl, fbelow_set5 hb3 (Nat.le_refl _)⟩
  simp [results, Tryd.results30, go_sem, *]
end Go.Proofs.YtlknmpnjhbdlhaaDoor
/-
  Layer 10: an operation's askings, one by one: dark, refused.
-/
namespace Go.Proofs.YtlknmpnjhbdlhaaDoor
open Go.RowKit
set_option linter.unusedVariables false

theorem dark_any (g : Nat) (b : Bool) (w : World) (h : w.cell? ⟨g, 4, none⟩ = some (.bool b)) : Calls Tryd.prog 72 #[.pointer (some ⟨g, 0, none⟩)] w fun e w' => e = .returned (.int .i64 (if b = true then 10 else 0)) ∧ w = w' := by
  cases b
  all_goals
    go_enter Tryd.func72, Tryd.ntmps72
    go_wp2
    all_goals
      go_ret
      exact ⟨rfl, rfl⟩
theorem refused_yes (g : Nat) (n : Int) (w : World) (h : w.cell? ⟨g, 3, none⟩ = some (.int .i64 n)) (hn : (n == 0) = false) : Calls Tryd.prog 74 #[.pointer (some ⟨g, 0, none⟩)] w fun e w' => e = .returned (.int .i64 0) ∧ w = w' := by
  go_enter Tryd.func74, Tryd.ntmps74
  go_wp2
  all_goals
    go_ret
    exact ⟨rfl, rfl⟩
theorem refused_no (g : Nat) (w : World) (h : w.cell? ⟨g, 3, none⟩ = some (.int .i64 0)) (hf : w.frozen? ⟨g, 3, none⟩ = false) : Calls Tryd.prog 74 #[.pointer (some ⟨g, 0, none⟩)] w fun e w' => e = .returned (.int .i64 9) ∧ w.setCell ⟨g, 3, none⟩ (.int .i64 (-1)) = w' := by
  go_enter Tryd.func74, Tryd.ntmps74
  go_wp2
  all_goals
    go_ret
    exact ⟨rfl, rfl⟩
end Go.Proofs.YtlknmpnjhbdlhaaDoor
/-
  Layer 10: an operation's asking whether there is room.
-/
namespace Go.Proofs.YtlknmpnjhbdlhaaDoor
open Go.RowKit
set_option linter.unusedVariables false

set_option maxRecDepth 20000 in
set_option maxHeartbeats 2000000 in
theorem full_any (X : FileT) (g gr B : Nat) (w : World) (h : FBox w g X) (h5 : w.cell? ⟨g, 5, none⟩ = some (.int .i64 (gr : Nat))) (hL : LieF w B X) (hB : B ≤ w.heap.size) (hN : ∀ p ∈ X.Q, p.n ≤ 1048576) (hl : X.long ≤ 524288) :
    Calls Tryd.prog 73 #[.pointer (some ⟨g, 0, none⟩)] w fun e w' => e = .returned (.int .i64 (if 524288 < X.long + gr then 8 else 0)) ∧ Below w.heap.size w w' := by
  have Hle := Lib.hid (fun W (h : Below w.heap.size w W) => length_any X B W (hL.later (h.mono hB)) (Nat.le_trans hB h.size) hN)
  simp only [FileT.agg, PcT.val] at Hle
  have x0 : ∀ W, Below w.heap.size w W → W.cell? ⟨g, 0, none⟩ = some (.slice X.F.A X.F.n X.F.c) := fun W hb => (h.later hb).1
  have x1 : ∀ W, Below w.heap.size w W → W.cell? ⟨g, 1, none⟩ = some (.slice X.lA X.ln X.lc) := fun W hb => (h.later hb).2.1
  have x2 : ∀ W, Below w.heap.size w W → W.cell? ⟨g, 2, none⟩ = some (.int .i64 X.fuse) := fun W hb => (h.later hb).2.2.1
  have x3 : ∀ W, Below w.heap.size w W → W.cell? ⟨g, 3, none⟩ = some (.int .i64 X.fault) := fun W hb => (h.later hb).2.2.2.1
  have x4 : ∀ W, Below w.heap.size w W → W.cell? ⟨g, 4, none⟩ = some (.bool X.off) := fun W hb => (h.later hb).2.2.2.2
  have x5 : ∀ W, Below w.heap.size w W → W.cell? ⟨g, 5, none⟩ = some (.int .i64 (gr : Nat)) := fun W hb => kept_later hb h5
  generalize X.long = lo at *
  have hs1 : IntKind.i64.wrap (524288 - (lo : Int)) = 524288 - (lo : Int) := by rw [IntKind.wrap_i64]; omega
  have hs2 : wrap64 (524288 - (lo : Int)) = 524288 - (lo : Int) := by unfold wrap64; omega
  clear h h5 hL hN
  by_cases hg : 524288 < lo + gr
  · have hg1 : (524288 - (lo : Int) < (gr : Int)) = True := by simp; omega
    rw [if_pos hg]
    clear hg hl
    go_enter Tryd.func73, Tryd.ntmps73
    go_upto_region 1 with fail
    refine wp_region_held_drew (S := fun W => Below w.heap.size w W) (by kernel_rfl) (below_drewN (Below.refl _ _) 1) (fun hHeld => ?_)
    refine rg_in 0 rfl (by kernel_rfl) (by kernel_rfl) (by kernel_rfl) (by rfl) (v := ?_) (fun _ _ _ h => h) hHeld (fun w hSw => ?_) ?_
    rotate_left
    · (try dsimp only at hSw); go_simp <;> (with_reducible rfl)
    (try simp only [Act.put, List.setIfInBounds_toArray, List.set_cons_zero, List.set_cons_succ])
    refine rg_in 1 rfl (by kernel_rfl) (by kernel_rfl) (by kernel_rfl) (by rfl) (v := ?_) (fun _ _ _ h => h) hHeld (fun w hSw => ?_) ?_
    rotate_left
    · (try dsimp only at hSw); go_simp <;> (with_reducible rfl)
    (try simp only [Act.put, List.setIfInBounds_toArray, List.set_cons_zero, List.set_cons_succ])
    refine rg_in 2 rfl (by kernel_rfl) (by kernel_rfl) (by kernel_rfl) (by rfl) (v := ?_) (fun _ _ _ h => h) hHeld (fun w hSw => ?_) ?_
    rotate_left
    · (try dsimp only at hSw); go_simp <;> (with_reducible rfl)
    (try simp only [Act.put, List.setIfInBounds_toArray, List.set_cons_zero, List.set_cons_succ])
    refine rg_in 3 rfl (by kernel_rfl) (by kernel_rfl) (by kernel_rfl) (by rfl) (v := ?_) (fun _ _ _ h => h) hHeld (fun w hSw => ?_) ?_
    rotate_left
    · (try dsimp only at hSw); go_simp <;> (with_reducible rfl)
    (try simp only [Act.put, List.setIfInBounds_toArray, List.set_cons_zero, List.set_cons_succ])
    refine rg_in 4 rfl (by kernel_rfl) (by kernel_rfl) (by kernel_rfl) (by rfl) (v := ?_) (fun _ _ _ h => h) hHeld (fun w hSw => ?_) ?_
    rotate_left
    · (try dsimp only at hSw); go_simp <;> (with_reducible rfl)
    (try simp only [Act.put, List.setIfInBounds_toArray, List.set_cons_zero, List.set_cons_succ])
    refine rg_in 5 rfl (by kernel_rfl) (by kernel_rfl) (by kernel_rfl) (by rfl) (v := ?_) (fun _ _ _ h => h) hHeld (fun w hSw => ?_) ?_
    rotate_left
    · (try dsimp only at hSw); go_simp <;> (with_reducible rfl)
    (try simp only [Act.put, List.setIfInBounds_toArray, List.set_cons_zero, List.set_cons_succ])
    refine rg_in 6 rfl (by kernel_rfl) (by kernel_rfl) (by kernel_rfl) (by rfl) (v := ?_) (fun _ _ _ h => h) hHeld (fun w hSw => ?_) ?_
    rotate_left
    · (try dsimp only at hSw); go_simp <;> (with_reducible rfl)
    (try simp only [Act.put, List.setIfInBounds_toArray, List.set_cons_zero, List.set_cons_succ])
    refine rg_in 7 rfl (by kernel_rfl) (by kernel_rfl) (by kernel_rfl) (by rfl) (v := ?_) (fun _ _ _ h => h) hHeld (fun w hSw => ?_) ?_
    rotate_left
    · (try dsimp only at hSw); go_simp <;> (with_reducible rfl)
    (try simp only [Act.put, List.setIfInBounds_toArray, List.set_cons_zero, List.set_cons_succ])
    refine rg_do 8 rfl (by kernel_rfl) (by rfl) (fun K hK => ?_)
    go_simp
    (go_at_call 45; (with_reducible refine (Hle.out _ hHeld).mono ?_); (rintro e w108 ⟨rfl, hb8⟩))
    refine hK.out _ _ (S_call hb8 hHeld rfl) (fun hHeld => ?_)
    clear hK K
    (try simp only [Act.put, List.setIfInBounds_toArray, List.set_cons_zero, List.set_cons_succ])
    refine rg_in 9 rfl (by kernel_rfl) (by kernel_rfl) (by kernel_rfl) (by rfl) (v := ?_) (fun _ _ _ h => h) hHeld (fun w hSw => ?_) ?_
    rotate_left
    · (try dsimp only at hSw); go_simp <;> (with_reducible rfl)
    (try simp only [Act.put, List.setIfInBounds_toArray, List.set_cons_zero, List.set_cons_succ])
    refine rg_in 10 rfl (by kernel_rfl) (by kernel_rfl) (by kernel_rfl) (by rfl) (v := ?_) (fun _ _ _ h => h) hHeld (fun w hSw => ?_) ?_
    rotate_left
    · (try dsimp only at hSw); go_simp <;> (with_reducible rfl)
    (try simp only [Act.put, List.setIfInBounds_toArray, List.set_cons_zero, List.set_cons_succ])
    refine wpAnyH_done (by kernel_rfl) ?_ _
    have hbe := hHeld
    clear x0 x1 x2 x3 x4 x5
    go_wp2
    all_goals
      go_ret
      exact ⟨rfl, hbe⟩
  · have hg1 : (524288 - (lo : Int) < (gr : Int)) = False := by simp; omega
    rw [if_neg hg]
    clear hg hl
    go_enter Tryd.func73, Tryd.ntmps73
    go_upto_region 1 with fail
    refine wp_region_held_drew (S := fun W => Below w.heap.size w W) (by kernel_rfl) (below_drewN (Below.refl _ _) 1) (fun hHeld => ?_)
    refine rg_in 0 rfl (by kernel_rfl) (by kernel_rfl) (by kernel_rfl) (by rfl) (v := ?_) (fun _ _ _ h => h) hHeld (fun w hSw => ?_) ?_
    rotate_left
    · (try dsimp only at hSw); go_simp <;> (with_reducible rfl)
    (try simp only [Act.put, List.setIfInBounds_toArray, List.set_cons_zero, List.set_cons_succ])
    refine rg_in 1 rfl (by kernel_rfl) (by kernel_rfl) (by kernel_rfl) (by rfl) (v := ?_) (fun _ _ _ h => h) hHeld (fun w hSw => ?_) ?_
    rotate_left
    · (try dsimp only at hSw); go_simp <;> (with_reducible rfl)
    (try simp only [Act.put, List.setIfInBounds_toArray, List.set_cons_zero, List.set_cons_succ])
    refine rg_in 2 rfl (by kernel_rfl) (by kernel_rfl) (by kernel_rfl) (by rfl) (v := ?_) (fun _ _ _ h => h) hHeld (fun w hSw => ?_) ?_
    rotate_left
    · (try dsimp only at hSw); go_simp <;> (with_reducible rfl)
    (try simp only [Act.put, List.setIfInBounds_toArray, List.set_cons_zero, List.set_cons_succ])
    refine rg_in 3 rfl (by kernel_rfl) (by kernel_rfl) (by kernel_rfl) (by rfl) (v := ?_) (fun _ _ _ h => h) hHeld (fun w hSw => ?_) ?_
    rotate_left
    · (try dsimp only at hSw); go_simp <;> (with_reducible rfl)
    (try simp only [Act.put, List.setIfInBounds_toArray, List.set_cons_zero, List.set_cons_succ])
    refine rg_in 4 rfl (by kernel_rfl) (by kernel_rfl) (by kernel_rfl) (by rfl) (v := ?_) (fun _ _ _ h => h) hHeld (fun w hSw => ?_) ?_
    rotate_left
    · (try dsimp only at hSw); go_simp <;> (with_reducible rfl)
    (try simp only [Act.put, List.setIfInBounds_toArray, List.set_cons_zero, List.set_cons_succ])
    refine rg_in 5 rfl (by kernel_rfl) (by kernel_rfl) (by kernel_rfl) (by rfl) (v := ?_) (fun _ _ _ h => h) hHeld (fun w hSw => ?_) ?_
    rotate_left
    · (try dsimp only at hSw); go_simp <;> (with_reducible rfl)
    (try simp only [Act.put, List.setIfInBounds_toArray, List.set_cons_zero, List.set_cons_succ])
    refine rg_in 6 rfl (by kernel_rfl) (by kernel_rfl) (by kernel_rfl) (by rfl) (v := ?_) (fun _ _ _ h => h) hHeld (fun w hSw => ?_) ?_
    rotate_left
    · (try dsimp only at hSw); go_simp <;> (with_reducible rfl)
    (try simp only [Act.put, List.setIfInBounds_toArray, List.set_cons_zero, List.set_cons_succ])
    refine rg_in 7 rfl (by kernel_rfl) (by kernel_rfl) (by kernel_rfl) (by rfl) (v := ?_) (fun _ _ _ h => h) hHeld (fun w hSw => ?_) ?_
    rotate_left
    · (try dsimp only at hSw); go_simp <;> (with_reducible rfl)
    (try simp only [Act.put, List.setIfInBounds_toArray, List.set_cons_zero, List.set_cons_succ])
    refine rg_do 8 rfl (by kernel_rfl) (by rfl) (fun K hK => ?_)
    go_simp
    (go_at_call 45; (with_reducible refine (Hle.out _ hHeld).mono ?_); (rintro e w108 ⟨rfl, hb8⟩))
    refine hK.out _ _ (S_call hb8 hHeld rfl) (fun hHeld => ?_)
    clear hK K
    (try simp only [Act.put, List.setIfInBounds_toArray, List.set_cons_zero, List.set_cons_succ])
    refine rg_in 9 rfl (by kernel_rfl) (by kernel_rfl) (by kernel_rfl) (by rfl) (v := ?_) (fun _ _ _ h => h) hHeld (fun w hSw => ?_) ?_
    rotate_left
    · (try dsimp only at hSw); go_simp <;> (with_reducible rfl)
    (try simp only [Act.put, List.setIfInBounds_toArray, List.set_cons_zero, List.set_cons_succ])
    refine rg_in 10 rfl (by kernel_rfl) (by kernel_rfl) (by kernel_rfl) (by rfl) (v := ?_) (fun _ _ _ h => h) hHeld (fun w hSw => ?_) ?_
    rotate_left
    · (try dsimp only at hSw); go_simp <;> (with_reducible rfl)
    (try simp only [Act.put, List.setIfInBounds_toArray, List.set_cons_zero, List.set_cons_succ])
    refine wpAnyH_done (by kernel_rfl) ?_ _
    have hbe := hHeld
    clear x0 x1 x2 x3 x4 x5
    go_wp2
    all_goals
      go_ret
      exact ⟨rfl, hbe⟩
end Go.Proofs.YtlknmpnjhbdlhaaDoor
/-
  Layer 10: an operation's asking, the last: the count of refusals, and the power.
-/
namespace Go.Proofs.YtlknmpnjhbdlhaaDoor
open Go.RowKit
set_option linter.unusedVariables false

theorem tick_wf {n : Int} (h : (Lit.int .i64 n).wf = true) : (Lit.int .i64 (tickN n)).wf = true := by
  have hb := wf_i64 h
  unfold tickN
  split
  · simp [Lit.wf, IntKind.min, IntKind.max, IntKind.bits, IntKind.signed]; omega
  · exact h
theorem lost_yes (g : Nat) (fault fuse : Int) (w : World) (hw3 : (Lit.int .i64 fault).wf = true) (hw2 : (Lit.int .i64 fuse).wf = true) (h3 : w.cell? ⟨g, 3, none⟩ = some (.int .i64 fault)) (f3 : w.frozen? ⟨g, 3, none⟩ = false) (h2 : w.cell? ⟨g, 2, none⟩ = some (.int .i64 fuse)) (f2 : w.frozen? ⟨g, 2, none⟩ = false) (hn : (fuse == 0) = false) :
    Calls Tryd.prog 75 #[.pointer (some ⟨g, 0, none⟩)] w fun e w' => e = .returned (.int .i64 0) ∧ (w.setCell ⟨g, 3, none⟩ (.int .i64 (tickN fault))).setCell ⟨g, 2, none⟩ (.int .i64 (tickN fuse)) = w' := by
  have T3 := Lib.hid (fun W => tick_any fault W hw3)
  have T2 := Lib.hid (fun W => tick_any fuse W hw2)
  generalize tickN fault = v3 at *
  generalize tickN fuse = v2 at *
  clear hw2 hw3
  go_enter Tryd.func75, Tryd.ntmps75
  go_wp2_with fail
  refine (T3.out _).mono ?_
  rintro e w1 ⟨rfl, rfl⟩
  go_wp2_with fail
  refine (T2.out _).mono ?_
  rintro e w1 ⟨rfl, rfl⟩
  go_wp2
  all_goals
    go_ret
    exact ⟨rfl, rfl⟩
theorem lost_no (g : Nat) (fault : Int) (b : Bool) (w : World) (hw3 : (Lit.int .i64 fault).wf = true) (h3 : w.cell? ⟨g, 3, none⟩ = some (.int .i64 fault)) (f3 : w.frozen? ⟨g, 3, none⟩ = false) (h2 : w.cell? ⟨g, 2, none⟩ = some (.int .i64 0)) (f2 : w.frozen? ⟨g, 2, none⟩ = false) (h4 : w.cell? ⟨g, 4, none⟩ = some (.bool b)) (f4 : w.frozen? ⟨g, 4, none⟩ = false) :
    Calls Tryd.prog 75 #[.pointer (some ⟨g, 0, none⟩)] w fun e w' => e = .returned (.int .i64 10) ∧ ((w.setCell ⟨g, 3, none⟩ (.int .i64 (tickN fault))).setCell ⟨g, 2, none⟩ (.int .i64 (-1))).setCell ⟨g, 4, none⟩ (.bool true) = w' := by
  have T3 := Lib.hid (fun W => tick_any fault W hw3)
  generalize tickN fault = v3 at *
  clear hw3
  go_enter Tryd.func75, Tryd.ntmps75
  go_wp2_with fail
  refine (T3.out _).mono ?_
  rintro e w1 ⟨rfl, rfl⟩
  go_wp2
  all_goals
    go_ret
    exact ⟨rfl, rfl⟩
end Go.Proofs.YtlknmpnjhbdlhaaDoor
/-
  Layer 10: an operation run: its four askings in their order, then its work.
-/
namespace Go.Proofs.YtlknmpnjhbdlhaaDoor
open Go.RowKit
set_option linter.unusedVariables false

theorem FVar.set3 {W : World} {g : Nat} {a b c d e : Value} (v : Value) (h : FVar W g a b c d e) : FVar (W.setCell ⟨g, 3, none⟩ v) g a b c v e := by
  obtain ⟨⟨h0, h1, h2, h3, h4⟩, k0, k1, k2, k3, k4⟩ := h
  refine ⟨⟨?_, ?_, ?_, ?_, ?_⟩, ?_, ?_, ?_, ?_, ?_⟩ <;> simp [go_sem, *]
theorem FVar.set2 {W : World} {g : Nat} {a b c d e : Value} (v : Value) (h : FVar W g a b c d e) : FVar (W.setCell ⟨g, 2, none⟩ v) g a b v d e := by
  obtain ⟨⟨h0, h1, h2, h3, h4⟩, k0, k1, k2, k3, k4⟩ := h
  refine ⟨⟨?_, ?_, ?_, ?_, ?_⟩, ?_, ?_, ?_, ?_, ?_⟩ <;> simp [go_sem, *]
theorem FVar.set4 {W : World} {g : Nat} {a b c d e : Value} (v : Value) (h : FVar W g a b c d e) : FVar (W.setCell ⟨g, 4, none⟩ v) g a b c d v := by
  obtain ⟨⟨h0, h1, h2, h3, h4⟩, k0, k1, k2, k3, k4⟩ := h
  refine ⟨⟨?_, ?_, ?_, ?_, ?_⟩, ?_, ?_, ?_, ?_, ?_⟩ <;> simp [go_sem, *]
theorem FVar.other {W : World} {g k i : Nat} {a b c d e : Value} (v : Value) (hk : k ≠ g) (h : FVar W k a b c d e) : FVar (W.setCell ⟨g, i, none⟩ v) k a b c d e := by
  obtain ⟨⟨h0, h1, h2, h3, h4⟩, k0, k1, k2, k3, k4⟩ := h
  refine ⟨⟨?_, ?_, ?_, ?_, ?_⟩, ?_, ?_, ?_, ?_, ?_⟩ <;> simp [go_sem, *]
/-- A file's store into a variable. -/
def set5F (W : World) (k : Nat) (a b c d e : Value) : World := ((((W.setCell ⟨k, 0, none⟩ a).setCell ⟨k, 1, none⟩ b).setCell ⟨k, 2, none⟩ c).setCell ⟨k, 3, none⟩ d).setCell ⟨k, 4, none⟩ e
/-- The variables other than one stay. -/
def KeepsF (g : Nat) (W W' : World) : Prop := ∀ k a b c d e, k ≠ g → k < W.heap.size → FVar W k a b c d e → FVar W' k a b c d e
/-- The blocks other than one are as they were. -/
def OnlyG (g : Nat) (w W : World) : Prop := ∀ k, k < w.heap.size → k ≠ g → W.heap[k]? = w.heap[k]?
theorem OnlyG.next {g : Nat} {w W W' : World} (h : OnlyG g w W) (hs : w.heap.size ≤ W.heap.size) (hb : Below W.heap.size W W') : OnlyG g w W' := fun k hk hne => (hb.block k (by omega)).trans (h k hk hne)
theorem OnlyG.set {g : Nat} {w W : World} (h : OnlyG g w W) (i : Nat) (v : Value) : OnlyG g w (W.setCell ⟨g, i, none⟩ v) := fun k hk hne => (Below.heap_setCell W _ v k hne).trans (h k hk hne)
def RunP (X : FileT) (gr B : Nat) (J : Value → Value → World → Prop) (w : World) (e : Ending) (w' : World) : Prop :=
  ∃ r : FileS × Int, X.s.asked X.long gr = r ∧ Below B w w' ∧
    (r.2 ≠ 0 ∧ e = .returned (.tuple #[.agg #[.slice X.F.A X.F.n X.F.c, .slice X.lA X.ln X.lc, .int .i64 r.1.fuse, .int .i64 r.1.fault, .bool r.1.off], .int .i64 r.2])
    ∨ r.2 = 0 ∧ ∃ v0 v1, J v0 v1 w' ∧ e = .returned (.tuple #[.agg #[v0, v1, .int .i64 r.1.fuse, .int .i64 r.1.fault, .bool r.1.off], .int .i64 0]))
def Var0 (X : FileT) (gr g : Nat) (W : World) : Prop := FVar W g (.slice X.F.A X.F.n X.F.c) (.slice X.lA X.ln X.lc) (.int .i64 X.fuse) (.int .i64 X.fault) (.bool X.off) ∧ W.cell? ⟨g, 5, none⟩ = some (.int .i64 (gr : Nat))
def Var4 (X : FileT) (g : Nat) (W : World) : Prop := FVar W g (.slice X.F.A X.F.n X.F.c) (.slice X.lA X.ln X.lc) (.int .i64 (tickN X.fuse)) (.int .i64 (tickN X.fault)) (.bool false)
def Phase (X : FileT) (gr g : Nat) (W : World) (k : Nat) : Prop :=
  k = 0 ∧ Var0 X gr g W ∨ k = 1 ∧ X.off = false ∧ Var0 X gr g W ∨ k = 2 ∧ X.off = false ∧ ¬ 524288 < X.long + gr ∧ Var0 X gr g W ∨
  k = 3 ∧ X.off = false ∧ ¬ 524288 < X.long + gr ∧ ¬ X.fault = 0 ∧ Var0 X gr g W ∨ k = 4 ∧ X.off = false ∧ ¬ 524288 < X.long + gr ∧ ¬ X.fault = 0 ∧ ¬ X.fuse = 0 ∧ Var4 X g W
theorem asked_1 {X : FileT} {gr : Nat} (h : X.off = true) : X.s.asked X.long gr = (⟨X.F.l, X.L.map (·.l), X.fuse, X.fault, X.off⟩, 10) := by
  unfold FileS.asked; exact if_pos h
theorem asked_2 {X : FileT} {gr : Nat} (h : X.off = false) (h2 : 524288 < X.long + gr) : X.s.asked X.long gr = (⟨X.F.l, X.L.map (·.l), X.fuse, X.fault, X.off⟩, 8) := by
  unfold FileS.asked; exact (if_neg (by show ¬ X.off = true; rw [h]; decide)).trans (if_pos h2)
theorem asked_3 {X : FileT} {gr : Nat} (h : X.off = false) (h2 : ¬ 524288 < X.long + gr) (h3 : X.fault = 0) : X.s.asked X.long gr = (⟨X.F.l, X.L.map (·.l), X.fuse, -1, X.off⟩, 9) := by
  unfold FileS.asked; exact (if_neg (by show ¬ X.off = true; rw [h]; decide)).trans ((if_neg h2).trans (if_pos h3))
theorem asked_4 {X : FileT} {gr : Nat} (h : X.off = false) (h2 : ¬ 524288 < X.long + gr) (h3 : ¬ X.fault = 0) (h4 : X.fuse = 0) : X.s.asked X.long gr = (⟨X.F.l, X.L.map (·.l), -1, tickN X.fault, true⟩, 10) := by
  unfold FileS.asked; exact (if_neg (by show ¬ X.off = true; rw [h]; decide)).trans ((if_neg h2).trans ((if_neg h3).trans (if_pos h4)))
theorem asked_5 {X : FileT} {gr : Nat} (h : X.off = false) (h2 : ¬ 524288 < X.long + gr) (h3 : ¬ X.fault = 0) (h4 : ¬ X.fuse = 0) : X.s.asked X.long gr = (⟨X.F.l, X.L.map (·.l), tickN X.fuse, tickN X.fault, false⟩, 0) := by
  unfold FileS.asked; exact (if_neg (by show ¬ X.off = true; rw [h]; decide)).trans ((if_neg h2).trans ((if_neg h3).trans ((if_neg h4).trans (by show ((⟨X.F.l, X.L.map (·.l), tickN X.fuse, tickN X.fault, X.off⟩, 0) : FileS × Int) = _; rw [h]))))
set_option maxRecDepth 20000 in
set_option maxHeartbeats 4000000 in
theorem run_any (X : FileT) (g gr B fw : Nat) (cap : Array Value) (J : Value → Value → World → Prop) (w : World) (h : FVar w g (.slice X.F.A X.F.n X.F.c) (.slice X.lA X.ln X.lc) (.int .i64 X.fuse) (.int .i64 X.fault) (.bool X.off)) (h5 : w.cell? ⟨g, 5, none⟩ = some (.int .i64 (gr : Nat))) (hL : LieF w B X) (hB : B ≤ g) (hg : g < w.heap.size) (hN : ∀ p ∈ X.Q, p.n ≤ 1048576) (hl : X.long ≤ 524288)
    (hcf : ∀ W, Sem.run Tryd.prog (callFunc fw cap) W = .ok (.enter fw cap) W)
    (hwork : ∀ W, FVar W g (.slice X.F.A X.F.n X.F.c) (.slice X.lA X.ln X.lc) (.int .i64 (tickN X.fuse)) (.int .i64 (tickN X.fault)) (.bool false) → Below B w W → w.heap.size + 2 ≤ W.heap.size → OnlyG g w W →
      Calls Tryd.prog fw cap W fun e W' => e = .returned (.tuple #[]) ∧ Below B W W' ∧ KeepsF g W W' ∧ ∃ A0 n0 c0 A1 n1 c1, FVar W' g (.slice A0 n0 c0) (.slice A1 n1 c1) (.int .i64 (tickN X.fuse)) (.int .i64 (tickN X.fault)) (.bool false) ∧ J (.slice A0 n0 c0) (.slice A1 n1 c1) W')
    (hJ : ∀ v0 v1 W a b c d e, J v0 v1 W → J v0 v1 (set5F W w.heap.size a b c d e)) :
    Calls Tryd.prog 56 #[.pointer (some ⟨g, 0, none⟩), .func (.func fw) #[] cap] w (RunP X gr B J w) := by
  have hmf : ∀ (fn : Fn) (first cap : Array Value) (w : World), (Instr.makeFunc fn first cap).run Tryd.prog w = .ok (.func fn first cap) w := fun _ _ _ _ => rfl
  go_enter Tryd.func56, Tryd.ntmps56
  go_upto_region 1 with fail
  go_step3
  go_upto_region 3 with fail
  have hb0 := ((Below.refl B w).alloc (by omega) (.cells #[.slice none 0 0, .slice none 0 0, .int .i64 0, .int .i64 0, .bool false] 37)).alloc (by simp; omega) (.cells #[.func (.func 72) #[.pointer (some ⟨g, 0, none⟩)] #[], .func (.func 73) #[.pointer (some ⟨g, 0, none⟩)] #[], .func (.func 74) #[.pointer (some ⟨g, 0, none⟩)] #[], .func (.func 75) #[.pointer (some ⟨g, 0, none⟩)] #[]] 118)
  have HX := bel_next (bel_alloc (Below.refl w.heap.size w) (.cells #[.slice none 0 0, .slice none 0 0, .int .i64 0, .int .i64 0, .bool false] 37)) (bel_alloc (Below.refl _ _) (.cells #[.func (.func 72) #[.pointer (some ⟨g, 0, none⟩)] #[], .func (.func 73) #[.pointer (some ⟨g, 0, none⟩)] #[], .func (.func 74) #[.pointer (some ⟨g, 0, none⟩)] #[], .func (.func 75) #[.pointer (some ⟨g, 0, none⟩)] #[]] 118))
  have HO0 := Lib.hid (show OnlyG g w ((w.alloc (.cells #[.slice none 0 0, .slice none 0 0, .int .i64 0, .int .i64 0, .bool false] 37)).alloc (.cells #[.func (.func 72) #[.pointer (some ⟨g, 0, none⟩)] #[], .func (.func 73) #[.pointer (some ⟨g, 0, none⟩)] #[], .func (.func 74) #[.pointer (some ⟨g, 0, none⟩)] #[], .func (.func 75) #[.pointer (some ⟨g, 0, none⟩)] #[]] 118)) from fun k hk _ => HX.block k hk)
  have hv0 : Var0 X gr g ((w.alloc (.cells #[.slice none 0 0, .slice none 0 0, .int .i64 0, .int .i64 0, .bool false] 37)).alloc (.cells #[.func (.func 72) #[.pointer (some ⟨g, 0, none⟩)] #[], .func (.func 73) #[.pointer (some ⟨g, 0, none⟩)] #[], .func (.func 74) #[.pointer (some ⟨g, 0, none⟩)] #[], .func (.func 75) #[.pointer (some ⟨g, 0, none⟩)] #[]] 118)) := ⟨h.later HX, kept_later HX h5⟩
  have hK0 : FVar ((w.alloc (.cells #[.slice none 0 0, .slice none 0 0, .int .i64 0, .int .i64 0, .bool false] 37)).alloc (.cells #[.func (.func 72) #[.pointer (some ⟨g, 0, none⟩)] #[], .func (.func 73) #[.pointer (some ⟨g, 0, none⟩)] #[], .func (.func 74) #[.pointer (some ⟨g, 0, none⟩)] #[], .func (.func 75) #[.pointer (some ⟨g, 0, none⟩)] #[]] 118)) w.heap.size (.slice none 0 0) (.slice none 0 0) (.int .i64 0) (.int .i64 0) (.bool false) := (FVar.new w _ _ _ _ _ _).later (bel_alloc (Below.refl _ _) _)
  have hs0 : w.heap.size + 2 ≤ ((w.alloc (.cells #[.slice none 0 0, .slice none 0 0, .int .i64 0, .int .i64 0, .bool false] 37)).alloc (.cells #[.func (.func 72) #[.pointer (some ⟨g, 0, none⟩)] #[], .func (.func 73) #[.pointer (some ⟨g, 0, none⟩)] #[], .func (.func 74) #[.pointer (some ⟨g, 0, none⟩)] #[], .func (.func 75) #[.pointer (some ⟨g, 0, none⟩)] #[]] 118)).heap.size := by simp
  have ix0 : ∀ W, (Instr.index 118 (.agg #[.func (.func 72) #[.pointer (some ⟨g, 0, none⟩)] #[], .func (.func 73) #[.pointer (some ⟨g, 0, none⟩)] #[], .func (.func 74) #[.pointer (some ⟨g, 0, none⟩)] #[], .func (.func 75) #[.pointer (some ⟨g, 0, none⟩)] #[]]) (.int .i64 0)).run Tryd.prog W = .ok (.func (.func 72) #[.pointer (some ⟨g, 0, none⟩)] #[]) W := fun _ => by kernel_rfl
  have ix1 : ∀ W, (Instr.index 118 (.agg #[.func (.func 72) #[.pointer (some ⟨g, 0, none⟩)] #[], .func (.func 73) #[.pointer (some ⟨g, 0, none⟩)] #[], .func (.func 74) #[.pointer (some ⟨g, 0, none⟩)] #[], .func (.func 75) #[.pointer (some ⟨g, 0, none⟩)] #[]]) (.int .i64 1)).run Tryd.prog W = .ok (.func (.func 73) #[.pointer (some ⟨g, 0, none⟩)] #[]) W := fun _ => by kernel_rfl
  have ix2 : ∀ W, (Instr.index 118 (.agg #[.func (.func 72) #[.pointer (some ⟨g, 0, none⟩)] #[], .func (.func 73) #[.pointer (some ⟨g, 0, none⟩)] #[], .func (.func 74) #[.pointer (some ⟨g, 0, none⟩)] #[], .func (.func 75) #[.pointer (some ⟨g, 0, none⟩)] #[]]) (.int .i64 2)).run Tryd.prog W = .ok (.func (.func 74) #[.pointer (some ⟨g, 0, none⟩)] #[]) W := fun _ => by kernel_rfl
  have ix3 : ∀ W, (Instr.index 118 (.agg #[.func (.func 72) #[.pointer (some ⟨g, 0, none⟩)] #[], .func (.func 73) #[.pointer (some ⟨g, 0, none⟩)] #[], .func (.func 74) #[.pointer (some ⟨g, 0, none⟩)] #[], .func (.func 75) #[.pointer (some ⟨g, 0, none⟩)] #[]]) (.int .i64 3)).run Tryd.prog W = .ok (.func (.func 75) #[.pointer (some ⟨g, 0, none⟩)] #[]) W := fun _ => by kernel_rfl
  go_step3
  go_wp2_with fail
  generalize (w.alloc (.cells #[.slice none 0 0, .slice none 0 0, .int .i64 0, .int .i64 0, .bool false] 37)).alloc (.cells #[.func (.func 72) #[.pointer (some ⟨g, 0, none⟩)] #[], .func (.func 73) #[.pointer (some ⟨g, 0, none⟩)] #[], .func (.func 74) #[.pointer (some ⟨g, 0, none⟩)] #[], .func (.func 75) #[.pointer (some ⟨g, 0, none⟩)] #[]] 118) = W0 at *
  clear h h5 HX
  have Hn := Lib.hid (Nat.ne_of_gt hg)
  have hBK : B ≤ w.heap.size := by omega
  have HL := Lib.hid hL
  have HN := Lib.hid hN
  have HW := Lib.hid hwork
  have HJ := Lib.hid hJ
  clear hL hN hwork hJ
  go_loopw [7, 9, 20] (fun er ck i wr => ∃ k : Nat, i = .int .i64 k ∧ k ≤ 4 ∧ er = .int .i64 0 ∧ Hid (Phase X gr g wr k) ∧ Below B w wr ∧ w.heap.size + 2 ≤ wr.heap.size ∧ Hid (FVar wr w.heap.size (.slice none 0 0) (.slice none 0 0) (.int .i64 0) (.int .i64 0) (.bool false)) ∧ Hid (OnlyG g w wr)) (fun _ _ i _ => 4 - (intOf i).toNat)
  case atStart => exact ⟨0, rfl, by omega, rfl, Lib.hid (.inl ⟨rfl, hv0⟩), hb0, hs0, Lib.hid hK0, HO0⟩
  case round =>
    obtain ⟨k, rfl, hk, rfl, HP, hb, hs, HK, HO⟩ := hrel
    rcases HP.out with ⟨rfl, hv⟩ | ⟨rfl, ho, hv⟩ | ⟨rfl, ho, hf, hv⟩ | ⟨rfl, ho, hf, hr, hv⟩ | ⟨rfl, ho, hf, hr, hu, hv⟩
    · by_cases ho : X.off = true
      · have hd := (dark_any g X.off wr hv.1.1.2.2.2.2).mono (R' := fun e w' => e = .returned (.int .i64 10) ∧ wr = w') (fun _ _ h => ⟨h.1.trans (by rw [if_pos ho]), h.2⟩)
        go_wp2_with fail
        refine hd.mono ?_
        rintro e w2 ⟨rfl, rfl⟩
        have HK2 := HK.out
        obtain ⟨⟨c0, c1, c2, c3, c4⟩, -⟩ := hv.1
        obtain ⟨⟨j0, j1, j2, j3, j4⟩, k0, k1, k2, k3, k4⟩ := HK2
        have hbe := fbelow_set5 (a := .slice X.F.A X.F.n X.F.c) (b := .slice X.lA X.ln X.lc) (c := .int .i64 X.fuse) (d := .int .i64 X.fault) (e := .bool X.off) hb hBK
        have hne : (10 : Int) ≠ 0 := by decide
        have hask := Lib.hid (asked_1 (gr := gr) ho)
        clear HP hv HK HW HJ HL HN hb0 hv0 hK0 ix0 ix1 ix2 ix3 hmf hb hs hs0 ho hd
        go_wp2
        rw [Exit.noGoto_ret]
        refine bodyPost_ret (v := .tuple #[.agg #[.slice X.F.A X.F.n X.F.c, .slice X.lA X.ln X.lc, .int .i64 X.fuse, .int .i64 X.fault, .bool X.off], .int .i64 10]) ?_ rfl ⟨_, hask.out, hbe, .inl ⟨hne, rfl⟩⟩
        simp [results, Tryd.results56, go_sem, *]
      · have ho' : X.off = false := by simpa using ho
        have hd := (dark_any g X.off wr hv.1.1.2.2.2.2).mono (R' := fun e w' => e = .returned (.int .i64 0) ∧ wr = w') (fun _ _ h => ⟨h.1.trans (by rw [if_neg ho]), h.2⟩)
        go_wp2_with fail
        refine hd.mono ?_
        rintro e w2 ⟨rfl, rfl⟩
        go_wp2_with fail
        go_roundw
        case rel => exact ⟨1, rfl, by omega, rfl, Lib.hid (.inr (.inl ⟨rfl, ho', hv⟩)), hb, hs, HK, HO⟩
        case measure => simp [intOf]
    · have hfl := full_any X g gr B wr hv.1.1 hv.2 (HL.out.later hb) (by omega) HN.out hl
      by_cases hf : 524288 < X.long + gr
      · have hd := hfl.mono (R' := fun e w' => e = .returned (.int .i64 8) ∧ Below wr.heap.size wr w') (fun _ _ h => ⟨h.1.trans (by rw [if_pos hf]), h.2⟩)
        clear hfl
        go_wp2_with fail
        refine hd.mono ?_
        rintro e w2 ⟨rfl, hb2⟩
        have HK2 := HK.out.later hb2
        have hv2 := hv.1.later hb2
        have hb3 := hb.trans (hb2.mono (by omega))
        obtain ⟨⟨c0, c1, c2, c3, c4⟩, -⟩ := hv2
        obtain ⟨⟨j0, j1, j2, j3, j4⟩, k0, k1, k2, k3, k4⟩ := HK2
        have hbe := fbelow_set5 (a := .slice X.F.A X.F.n X.F.c) (b := .slice X.lA X.ln X.lc) (c := .int .i64 X.fuse) (d := .int .i64 X.fault) (e := .bool X.off) hb3 hBK
        have hne : (8 : Int) ≠ 0 := by decide
        have hask := Lib.hid (asked_2 ho hf)
        clear HP hv HK HW HJ HL HN hb0 hv0 hK0 ix0 ix1 ix2 ix3 hmf hb hs hs0 ho hd hf
        go_wp2
        rw [Exit.noGoto_ret]
        refine bodyPost_ret (v := .tuple #[.agg #[.slice X.F.A X.F.n X.F.c, .slice X.lA X.ln X.lc, .int .i64 X.fuse, .int .i64 X.fault, .bool X.off], .int .i64 8]) ?_ rfl ⟨_, hask.out, hbe, .inl ⟨hne, rfl⟩⟩
        simp [results, Tryd.results56, go_sem, *]
      · have hd := hfl.mono (R' := fun e w' => e = .returned (.int .i64 0) ∧ Below wr.heap.size wr w') (fun _ _ h => ⟨h.1.trans (by rw [if_neg hf]), h.2⟩)
        clear hfl
        go_wp2_with fail
        refine hd.mono ?_
        rintro e w2 ⟨rfl, hb2⟩
        have HK2 := HK.out.later hb2
        have hv2 : Var0 X gr g w2 := ⟨hv.1.later hb2, kept_later hb2 hv.2⟩
        have hb3 := hb.trans (hb2.mono (by omega))
        have hs3 := Nat.le_trans hs hb2.size
        go_wp2_with fail
        go_roundw
        case rel => exact ⟨2, rfl, by omega, rfl, Lib.hid (.inr (.inr (.inl ⟨rfl, ho, hf, hv2⟩))), hb3, hs3, Lib.hid HK2, Lib.hid (HO.out.next (by omega) hb2)⟩
        case measure => simp [intOf]
    · by_cases hr : X.fault = 0
      · have hv1 := hv.1
        rw [hr] at hv1
        have hd := refused_no g wr hv1.1.2.2.2.1 hv1.2.2.2.2.1
        go_wp2_with fail
        refine hd.mono ?_
        rintro e w2 ⟨rfl, rfl⟩
        have HK2 := HK.out.other (g := g) (i := 3) (.int .i64 (-1)) Hn.out
        have hv2 := hv1.set3 (.int .i64 (-1))
        have hb3 := hb.setCell (p := ⟨g, 3, none⟩) hB (.int .i64 (-1))
        obtain ⟨⟨c0, c1, c2, c3, c4⟩, -⟩ := hv2
        obtain ⟨⟨j0, j1, j2, j3, j4⟩, k0, k1, k2, k3, k4⟩ := HK2
        have hbe := fbelow_set5 (a := .slice X.F.A X.F.n X.F.c) (b := .slice X.lA X.ln X.lc) (c := .int .i64 X.fuse) (d := .int .i64 (-1)) (e := .bool X.off) hb3 hBK
        have hne : (9 : Int) ≠ 0 := by decide
        have hask := Lib.hid (asked_3 ho hf hr)
        clear HP hv HK HW HJ HL HN hb0 hv0 hK0 ix0 ix1 ix2 ix3 hmf hb hs hs0 ho hd hf hr hv1
        go_wp2
        rw [Exit.noGoto_ret]
        refine bodyPost_ret (v := .tuple #[.agg #[.slice X.F.A X.F.n X.F.c, .slice X.lA X.ln X.lc, .int .i64 X.fuse, .int .i64 (-1), .bool X.off], .int .i64 9]) ?_ rfl ⟨_, hask.out, hbe, .inl ⟨hne, rfl⟩⟩
        simp [results, Tryd.results56, go_sem, *]
      · have hd := refused_yes g X.fault wr hv.1.1.2.2.2.1 (by simpa using hr)
        go_wp2_with fail
        refine hd.mono ?_
        rintro e w2 ⟨rfl, rfl⟩
        go_wp2_with fail
        go_roundw
        case rel => exact ⟨3, rfl, by omega, rfl, Lib.hid (.inr (.inr (.inr (.inl ⟨rfl, ho, hf, hr, hv⟩)))), hb, hs, HK, HO⟩
        case measure => simp [intOf]
    · by_cases hu : X.fuse = 0
      · have hv1 := hv.1
        rw [hu] at hv1
        have hd := lost_no g X.fault X.off wr HL.out.fault hv1.1.2.2.2.1 hv1.2.2.2.2.1 hv1.1.2.2.1 hv1.2.2.2.1 hv1.1.2.2.2.2 hv1.2.2.2.2.2
        go_wp2_with fail
        refine hd.mono ?_
        rintro e w2 ⟨rfl, rfl⟩
        have HK2 := ((HK.out.other (g := g) (i := 3) (.int .i64 (tickN X.fault)) Hn.out).other (g := g) (i := 2) (.int .i64 (-1)) Hn.out).other (g := g) (i := 4) (.bool true) Hn.out
        have hv2 := ((hv1.set3 (.int .i64 (tickN X.fault))).set2 (.int .i64 (-1))).set4 (.bool true)
        have hb3 := ((hb.setCell (p := ⟨g, 3, none⟩) hB (.int .i64 (tickN X.fault))).setCell (p := ⟨g, 2, none⟩) hB (.int .i64 (-1))).setCell (p := ⟨g, 4, none⟩) hB (.bool true)
        obtain ⟨⟨c0, c1, c2, c3, c4⟩, -⟩ := hv2
        obtain ⟨⟨j0, j1, j2, j3, j4⟩, k0, k1, k2, k3, k4⟩ := HK2
        have hbe := fbelow_set5 (a := .slice X.F.A X.F.n X.F.c) (b := .slice X.lA X.ln X.lc) (c := .int .i64 (-1)) (d := .int .i64 (tickN X.fault)) (e := .bool true) hb3 hBK
        have hne : (10 : Int) ≠ 0 := by decide
        have hask := Lib.hid (asked_4 ho hf hr hu)
        clear HP hv HK HW HJ HL HN hb0 hv0 hK0 ix0 ix1 ix2 ix3 hmf hb hs hs0 ho hd hf hr hu hv1
        go_wp2
        rw [Exit.noGoto_ret]
        refine bodyPost_ret (v := .tuple #[.agg #[.slice X.F.A X.F.n X.F.c, .slice X.lA X.ln X.lc, .int .i64 (-1), .int .i64 (tickN X.fault), .bool true], .int .i64 10]) ?_ rfl ⟨_, hask.out, hbe, .inl ⟨hne, rfl⟩⟩
        simp [results, Tryd.results56, go_sem, *]
      · have hd := lost_yes g X.fault X.fuse wr HL.out.fault HL.out.fuse hv.1.1.2.2.2.1 hv.1.2.2.2.2.1 hv.1.1.2.2.1 hv.1.2.2.2.1 (by simpa using hu)
        go_wp2_with fail
        refine hd.mono ?_
        rintro e w2 ⟨rfl, rfl⟩
        have HK2 := (HK.out.other (g := g) (i := 3) (.int .i64 (tickN X.fault)) Hn.out).other (g := g) (i := 2) (.int .i64 (tickN X.fuse)) Hn.out
        have hv2 : Var4 X g ((wr.setCell ⟨g, 3, none⟩ (.int .i64 (tickN X.fault))).setCell ⟨g, 2, none⟩ (.int .i64 (tickN X.fuse))) := by have := (hv.1.set3 (.int .i64 (tickN X.fault))).set2 (.int .i64 (tickN X.fuse)); rw [ho] at this; exact this
        have hb3 := (hb.setCell (p := ⟨g, 3, none⟩) hB (.int .i64 (tickN X.fault))).setCell (p := ⟨g, 2, none⟩) hB (.int .i64 (tickN X.fuse))
        have hs3 : w.heap.size + 2 ≤ ((wr.setCell ⟨g, 3, none⟩ (.int .i64 (tickN X.fault))).setCell ⟨g, 2, none⟩ (.int .i64 (tickN X.fuse))).heap.size := by simpa using hs
        clear hv
        go_wp2_with fail
        go_roundw
        case rel => exact ⟨4, rfl, by omega, rfl, Lib.hid (.inr (.inr (.inr (.inr ⟨rfl, ho, hf, hr, hu, hv2⟩)))), hb3, hs3, Lib.hid HK2, Lib.hid ((HO.out.set 3 (.int .i64 (tickN X.fault))).set 2 (.int .i64 (tickN X.fuse)))⟩
        case measure => simp [intOf]
    · have hd := HW.out wr hv hb hs HO.out
      go_wp2_with fail
      refine hd.mono ?_
      rintro e w2 ⟨rfl, hb2, hkp, A0, n0, q0, A1, n1, q1, hv2, hj⟩
      have HK2 := hkp _ _ _ _ _ _ Hn.out (by omega) HK.out
      have hb3 := hb.trans hb2
      have HJ2 := Lib.hid (HJ.out _ _ w2 (.slice A0 n0 q0) (.slice A1 n1 q1) (.int .i64 (tickN X.fuse)) (.int .i64 (tickN X.fault)) (.bool false) hj)
      clear hd hkp hj hb2
      obtain ⟨⟨c0, c1, c2, c3, c4⟩, -⟩ := hv2
      obtain ⟨⟨j0, j1, j2, j3, j4⟩, k0, k1, k2, k3, k4⟩ := HK2
      have hbe := fbelow_set5 (a := .slice A0 n0 q0) (b := .slice A1 n1 q1) (c := .int .i64 (tickN X.fuse)) (d := .int .i64 (tickN X.fault)) (e := .bool false) hb3 hBK
      have hask := Lib.hid (asked_5 (gr := gr) ho hf hr hu)
      clear HP hv HK HW HJ HL HN hb0 hv0 hK0 ix0 ix1 ix2 ix3 hmf hb hs hs0 ho hf hr hu
      go_wp2
      rw [Exit.noGoto_ret]
      refine bodyPost_ret (v := .tuple #[.agg #[.slice A0 n0 q0, .slice A1 n1 q1, .int .i64 (tickN X.fuse), .int .i64 (tickN X.fault), .bool false], .int .i64 0]) ?_ rfl ⟨_, hask.out, hbe, .inr ⟨rfl, _, _, HJ2.out, rfl⟩⟩
      simp [results, Tryd.results56, go_sem, *]
end Go.Proofs.YtlknmpnjhbdlhaaDoor
