import Derived.Test.YthoenmggjbojoaaGaf
import Derived.Test.YthoenmggjbojoaaGad
/-
  Layer 10: Crash.
-/
namespace Go.Proofs.Ythoenmggjbojoaa
open Go.RowKit
set_option linter.unusedVariables false

theorem zerosU_bv (n : Nat) : (zerosU n).map bv = List.replicate n (Value.int .u8 0) := by unfold zerosU; rw [List.map_replicate]; rfl
theorem zerosU_len (n : Nat) : (zerosU n).length = n := by unfold zerosU; exact List.length_replicate
theorem crash_step {X : FileT} {keep : List Bool} {tear cut : Int} {i m : Nat} {p : PcT} {f : List UInt8} {R : List UInt8} (hp : X.L[i]? = some p) (hl : p.l.length = p.n) (h : crashGo keep tear cut ((X.L.drop i).map (·.l)) i m f = R) :
    (survN p.l i keep tear cut = 0 → crashGo keep tear cut ((X.L.drop (i + 1)).map (·.l)) (i + 1) (m + p.n) f = R) ∧
    (0 < survN p.l i keep tear cut → crashGo keep tear cut ((X.L.drop (i + 1)).map (·.l)) (i + 1) (m + p.n) (f ++ zerosU (m - f.length) ++ p.l.take (survN p.l i keep tear cut)) = R) := by
  obtain ⟨hj, he⟩ := List.getElem?_eq_some_iff.1 hp
  rw [List.drop_eq_getElem_cons hj, he, List.map_cons] at h
  unfold crashGo at h
  rw [hl] at h
  exact ⟨fun h0 => by rw [if_neg (by omega)] at h; exact h, fun h0 => by rw [if_pos h0] at h; exact h⟩
set_option maxRecDepth 100000 in
set_option maxHeartbeats 4000000 in
theorem crashF_any (X : FileT) (k : BoT) (tear cut : Int) (B : Nat) (w : World) (hL : LieF w B X) (hk : k.Ok w B) (hB : B ≤ w.heap.size) (hr : X.right = true) :
    Calls Try.prog 26 #[X.agg, .slice k.A k.n k.c, .int .i64 tear, .int .i64 cut] w (OpP X (fun _ => True) (X.s.crash k.l tear cut, 0) w) := by
  obtain ⟨out, ho⟩ : ∃ out, X.s.crash k.l tear cut = out := ⟨_, rfl⟩
  have HO2 := Lib.hid ho
  rw [ho]
  clear ho
  have hb1 := bel_alloc (bel_alloc (Below.refl w.heap.size w) (.cells #[.slice X.F.A X.F.n X.F.c, .slice X.lA X.ln X.lc, .int .i64 X.fuse, .int .i64 X.fault, .bool X.off] 25)) (.cells #[.slice none 0 0, .slice none 0 0, .int .i64 0, .int .i64 0, .bool false] 25)
  have HX := (FBox.new w X 25).later (bel_alloc (Below.refl _ _) (.cells #[.slice none 0 0, .slice none 0 0, .int .i64 0, .int .i64 0, .bool false] 25))
  obtain ⟨hN, hl, hln⟩ := right_rows hL hr
  have hch := checkF_any X B _ (hL.later (hb1.mono hB)) (Nat.le_trans hB hb1.size) hN
  rw [if_pos hr] at hch
  have HV := FVar.new (w.alloc (.cells #[.slice X.F.A X.F.n X.F.c, .slice X.lA X.ln X.lc, .int .i64 X.fuse, .int .i64 X.fault, .bool X.off] 25)) (.slice none 0 0) (.slice none 0 0) (.int .i64 0) (.int .i64 0) (.bool false) 25
  simp only [FileT.agg, PcT.val] at hch ⊢
  have HX' := Lib.hid HX
  obtain ⟨f0, f1, f2, f3, f4⟩ := HX
  have hsz : ((w.alloc (.cells #[.slice X.F.A X.F.n X.F.c, .slice X.lA X.ln X.lc, .int .i64 X.fuse, .int .i64 X.fault, .bool X.off] 25)).alloc (.cells #[.slice none 0 0, .slice none 0 0, .int .i64 0, .int .i64 0, .bool false] 25)).heap.size = w.heap.size + 2 := by simp
  rw [World.size_alloc] at HV
  go_enter Try.func26, Try.ntmps26
  go_wp2_with fail
  generalize (w.alloc (.cells #[.slice X.F.A X.F.n X.F.c, .slice X.lA X.ln X.lc, .int .i64 X.fuse, .int .i64 X.fault, .bool X.off] 25)).alloc (.cells #[.slice none 0 0, .slice none 0 0, .int .i64 0, .int .i64 0, .bool false] 25) = W1 at *
  refine hch.mono ?_
  rintro e W2 ⟨rfl, hb2⟩
  have hb3 := bel_next hb1 hb2
  have HV2 := Lib.hid (HV.later hb2)
  have hbox := HX'.out.later hb2
  have hs2 := hb2.size
  have hs3 := hb3.size
  have hww : w.heap.size + 2 ≤ W2.heap.size := by omega
  have HL := Lib.hid hL
  have Hk := Lib.hid hk
  have HN := Lib.hid hN
  have Hr := Lib.hid hr
  have x0 : ∀ W, Below W2.heap.size W2 W → W.cell? ⟨w.heap.size, 0, none⟩ = some (.slice X.F.A X.F.n X.F.c) := fun W hb => (hbox.later hb).1
  have x1 : ∀ W, Below W2.heap.size W2 W → W.cell? ⟨w.heap.size, 1, none⟩ = some (.slice X.lA X.ln X.lc) := fun W hb => (hbox.later hb).2.1
  have x2 : ∀ W, Below W2.heap.size W2 W → W.cell? ⟨w.heap.size, 2, none⟩ = some (.int .i64 X.fuse) := fun W hb => (hbox.later hb).2.2.1
  have x3 : ∀ W, Below W2.heap.size W2 W → W.cell? ⟨w.heap.size, 3, none⟩ = some (.int .i64 X.fault) := fun W hb => (hbox.later hb).2.2.2.1
  have x4 : ∀ W, Below W2.heap.size W2 W → W.cell? ⟨w.heap.size, 4, none⟩ = some (.bool X.off) := fun W hb => (hbox.later hb).2.2.2.2
  have Hcl := Lib.hid (fun W (h : Below W2.heap.size W2 W) => clone_any X.F.A X.F.n X.F.c X.F.l B W ((hL.later ((bel_next hb3 h).mono hB)).firm.here) hL.firm.nil (Nat.le_trans hB (bel_next hb3 h).size) (by have := hN X.F (List.mem_cons_self ..); omega))
  clear hch hb1 hb2 f0 f1 f2 f3 f4 HV HX' hsz hs2 hL hk hN hr
  go_upto_region 3 with fail
  refine wp_region_held_drew (S := fun W => Below W2.heap.size W2 W) (by kernel_rfl) (below_drewN (Below.refl _ _) 1) (fun hHeld => ?_)
  refine rg_in 0 rfl (by kernel_rfl) (by kernel_rfl) (by kernel_rfl) (by rfl) (v := ?_) (fun _ _ _ h => h) hHeld (fun w hSw => ?_) ?_
  rotate_left
  · (try dsimp only at hSw); go_simp <;> (with_reducible rfl)
  (try simp only [Act.put, List.setIfInBounds_toArray, List.set_cons_zero, List.set_cons_succ])
  refine rg_in 1 rfl (by kernel_rfl) (by kernel_rfl) (by kernel_rfl) (by rfl) (v := ?_) (fun _ _ _ h => h) hHeld (fun w hSw => ?_) ?_
  rotate_left
  · (try dsimp only at hSw); go_simp <;> (with_reducible rfl)
  (try simp only [Act.put, List.setIfInBounds_toArray, List.set_cons_zero, List.set_cons_succ])
  refine rg_in 3 rfl (by kernel_rfl) (by kernel_rfl) (by kernel_rfl) (by rfl) (v := ?_) (fun _ _ _ h => h) hHeld (fun w hSw => ?_) ?_
  rotate_left
  · (try dsimp only at hSw); go_simp <;> (with_reducible rfl)
  (try simp only [Act.put, List.setIfInBounds_toArray, List.set_cons_zero, List.set_cons_succ])
  refine rg_in 4 rfl (by kernel_rfl) (by kernel_rfl) (by kernel_rfl) (by rfl) (v := ?_) (fun _ _ _ h => h) hHeld (fun w hSw => ?_) ?_
  rotate_left
  · (try dsimp only at hSw); go_simp <;> (with_reducible rfl)
  (try simp only [Act.put, List.setIfInBounds_toArray, List.set_cons_zero, List.set_cons_succ])
  refine rg_in 5 rfl (by kernel_rfl) (by kernel_rfl) (by kernel_rfl) (by rfl) (v := ?_) (fun _ _ _ h => h) hHeld (fun w hSw => ?_) ?_
  rotate_left
  · (try dsimp only at hSw); go_simp <;> (with_reducible rfl)
  (try simp only [Act.put, List.setIfInBounds_toArray, List.set_cons_zero, List.set_cons_succ])
  refine rg_do 2 rfl (by kernel_rfl) (by rfl) (fun K hK => ?_)
  go_simp
  (go_at_call 34; (with_reducible refine (Hcl.out _ hHeld).mono ?_); (rintro e w102 ⟨A3, n3, c3, rfl, hown3, hb2⟩))
  refine hK.out _ _ (S_call hb2 hHeld rfl) (fun hHeld => ?_)
  clear hK K
  (try simp only [Act.put, List.setIfInBounds_toArray, List.set_cons_zero, List.set_cons_succ])
  refine rg_in 6 rfl (by kernel_rfl) (by kernel_rfl) (by kernel_rfl) (by rfl) (v := ?_) (fun _ _ _ h => h) hHeld (fun w hSw => ?_) ?_
  rotate_left
  · (try dsimp only at hSw); go_simp <;> (with_reducible rfl)
  (try simp only [Act.put, List.setIfInBounds_toArray, List.set_cons_zero, List.set_cons_succ])
  refine rg_in 7 rfl (by kernel_rfl) (by kernel_rfl) (by kernel_rfl) (by rfl) (v := ?_) (fun _ _ _ h => h) hHeld (fun w hSw => ?_) ?_
  rotate_left
  · (try dsimp only at hSw); go_simp <;> (with_reducible rfl)
  (try simp only [Act.put, List.setIfInBounds_toArray, List.set_cons_zero, List.set_cons_succ])
  refine wpAnyH_done (by kernel_rfl) ?_ _
  have hbc := hHeld
  have HO3 := Lib.hid hown3
  clear hown3 hHeld x0 x1 x2 x3 x4
  have f0 := (hbox.later hbc).1
  have f1 := (hbox.later hbc).2.1
  have hFn := HL.out.firm.here.len
  obtain ⟨A3', c3', e3, hc3⟩ : ∃ A c, Value.slice A3 n3 c3 = .slice A n3 c ∧ n3 = X.F.l.length := ⟨_, _, rfl, by have := HO3.out.1; simp at this; omega⟩
  obtain rfl : n3 = X.F.n := by rw [hc3, hFn]
  have HOw := Lib.hid (own_base HO3.out (show W2.heap.size ≤ W2.drew.heap.size from Nat.le_refl _))
  have hV3 := Lib.hid (HV2.out.later hbc)
  obtain ⟨hlong, hmax⟩ := right_all HL.out Hr.out
  have hsum : X.all.length = X.F.n + sumN X.L := by unfold FileT.all; rw [List.length_append, hFn, sumN_len HL.out.loose]
  have Hsum := Lib.hid (show X.F.n + sumN X.L ≤ 524288 by omega)
  have hF5 : X.F.n ≤ 524288 := by omega
  have HlL := Lib.hid HL.out.len
  have HG0 := Lib.hid (show crashGo k.l tear cut ((X.L.drop 0).map (·.l)) 0 X.F.n X.F.l = crashGo k.l tear cut X.s.loose 0 X.s.firm.length X.s.firm by rw [← hFn]; rfl)
  have hmk : ∀ (z : Nat) (hz : z ≤ 524288) W, (Instr.makeSlice 22 (.int .i64 (z : Int)) (.int .i64 (z : Int))).run Try.prog W = .ok (.slice (some ⟨W.heap.size, 0, none⟩) z z) (W.alloc (.cells (madeCells #[.int .u8 0] z) 5)) := by
    intro z hz W
    obtain ⟨i0, hi, hz0, hz1, hz2⟩ := u8_info
    have h := run_make_one (P := Try.prog) (t := 22) (e := 5) Try.underlying22 hi hz0 rfl hz1 .i64 .i64 (z : Int) (z : Int) (by omega) (by omega) (by rw [hz2]; omega) (by omega) W
    simpa using h
  have Hmk := Lib.hid hmk
  clear hbox Hcl HO3 e3 hc3 hFn hlong hmax hsum hmk
  obtain ⟨lA, hlA⟩ : ∃ lA, X.lA = lA := ⟨_, rfl⟩
  rw [hlA] at f1
  have HA := Lib.hid hlA
  clear hlA
  have hln9 : X.ln ≤ 9223372036854775807 := by omega
  go_wp2_with fail
  go_loopw [10, 11, 29] (fun fv av iv wr => ∃ (i j m : Nat) (A : Option Addr) (c : Nat) (f : List UInt8), i ≤ X.ln ∧ iv = .int .i64 i ∧ av = .int .i64 m ∧ fv = .slice A j c ∧ Hid (m = X.F.n + sumN (X.L.take i)) ∧ Hid (wr.ownsRow W2.heap.size 5 1 (.slice A j c) j (f.map bv)) ∧ Hid (crashGo k.l tear cut ((X.L.drop i).map (·.l)) i m f = crashGo k.l tear cut X.s.loose 0 X.s.firm.length X.s.firm) ∧ j ≤ m ∧ m ≤ 524288 ∧ Below W2.heap.size W2 wr) (fun _ _ iv _ => X.ln - (intOf iv).toNat)
  case atStart => exact ⟨0, X.F.n, X.F.n, A3, c3, X.F.l, Nat.zero_le _, rfl, rfl, rfl, Lib.hid (by simp [sumN]), HOw, HG0, Nat.le_refl _, hF5, hbc⟩
  case round =>
    obtain ⟨i, j, m, A, c, f, hi, rfl, rfl, rfl, HM, HO, HG, hjm, hm5, hbr⟩ := hrel
    rename World => wr
    clear HG0 HOw
    have hbw := hb3.trans (hbr.mono hs3)
    by_cases hlt : i < X.ln
    · have hLr := HL.out.later (hbw.mono hB)
      obtain ⟨b, off, p, hAp, _, hp, hc⟩ := pc_at hLr.row hlt
      obtain rfl : lA = some ⟨b, off, none⟩ := HA.out.symm.trans hAp
      have hpo := hLr.loose p (List.mem_of_getElem? hp)
      have hsv := surv_any p i B k tear cut wr hpo.len (Hk.out.later (hbw.mono hB))
      have hlt' : (i : Int) < X.ln := by omega
      have hi0 : (0 : Int) ≤ (i : Int) := by omega
      have hsn := survN_le p.l i k.l tear cut
      rw [hpo.len] at hsn
      obtain ⟨HG1, HG2⟩ := crash_step hp hpo.len HG.out
      have hst := sumN_take X.L (i + 1)
      have htk : sumN (X.L.take (i + 1)) = sumN (X.L.take i) + p.n := by unfold sumN; rw [List.take_add_one, hp]; simp
      have HM2 := Lib.hid (show m + p.n = X.F.n + sumN (X.L.take (i + 1)) by rw [HM.out]; omega)
      have hmp : m + p.n ≤ 524288 := by rw [HM2.out]; have := Hsum.out; omega
      have hpc1 := hpo.fits
      have hpm := hpo.most
      unfold maxLen at hpm
      have hfl : f.length = j := by have := HO.out.1; simp at this; omega
      rw [hfl] at HG2
      generalize hsd : survN p.l i k.l tear cut = s at *
      have e3 : IntKind.i64.wrap ((m : Int) + (p.n : Int)) = ((m + p.n : Nat) : Int) := by rw [IntKind.wrap_i64]; omega
      have e4 : wrap64 ((m : Int) + (p.n : Int)) = ((m + p.n : Nat) : Int) := by unfold wrap64; omega
      have HE4 := Lib.hid e4
      have HE3 := Lib.hid e3
      have hpc := Lib.hid (fun W (h : Below W2.heap.size W2 W) => ((HL.out.later ((hb3.trans (h.mono hs3)).mono hB)).loose p (List.mem_of_getElem? hp)).here.first hsn)
      clear hAp hp hst htk HM HG e3 e4 hsd hfl hLr hpo
      by_cases hs0 : s = 0
      · have HGn := Lib.hid (HG1 hs0)
        subst hs0
        clear HG1 HG2 hpc
        go_wp2_with fail
        refine hsv.mono ?_
        rintro e W4 ⟨rfl, rfl⟩
        clear hsv
        go_wp2
        all_goals
          go_roundw
          case rel => exact ⟨i + 1, j, m + p.n, A, c, f, by omega, by go_num, by go_num, rfl, HM2, HO, HGn, by omega, hmp, hbr⟩
          case measure => simp [intOf]; omega
      · have HGn := Lib.hid (HG2 (by omega))
        have hs1 : 0 < s := by omega
        have hs2 : (0 : Int) ≤ (s : Int) := by omega
        have hs4 : (s : Int) ≤ (p.c : Int) := by omega
        have e1 : IntKind.i64.wrap ((m : Int) - (j : Int)) = ((m - j : Nat) : Int) := by rw [IntKind.wrap_i64]; omega
        have e2 : wrap64 ((m : Int) - (j : Int)) = ((m - j : Nat) : Int) := by unfold wrap64; omega
        have hmk' := Hmk.out (m - j) (by omega)
        have hbs' := hbr.size
        have hj1 : j + (m - j) ≤ 600000 := by omega
        have hj2 : j + (m - j) + s ≤ 1600000 := by omega
        have hj3 : m + s ≤ m + p.n := by omega
        have HJM := Lib.hid (show j + (m - j) = m by omega)
        clear HG1 HG2 hs0
        go_wp2_with fail
        refine hsv.mono ?_
        rintro e W4 ⟨rfl, rfl⟩
        clear hsv
        have hgap0 := Shows.own (own_zeros (base := wr.heap.size) (e := 5) wr (.int .u8 0) (m - j) (m - j) (Nat.le_refl _) (Nat.le_refl _) (by unfold maxLen; omega))
        rw [← zerosU_bv] at hgap0
        have hown7 := HO.out.alloc (.cells (madeCells #[.int .u8 0] (m - j)) 5)
        have hbr7 : Below W2.heap.size W2 (wr.alloc (.cells (madeCells #[.int .u8 0] (m - j)) 5)) := hbr.alloc hbs' _
        go_upto_region 10 with fail
        generalize wr.alloc (.cells (madeCells #[.int .u8 0] (m - j)) 5) = W7 at *
        have hown8 : W7.drew.ownsRow W2.heap.size 5 1 (.slice A j c) j (f.map bv) := hown7
        have hgap : Shows W7.drew W7.heap.size 1 (some ⟨wr.heap.size, 0, none⟩) (m - j) ((zerosU (m - j)).map bv) := hgap0
        have hbr8 : Below W2.heap.size W2 W7.drew := below_drewN hbr7 1
        obtain ⟨i0, hi, hz0, hz1, hz2⟩ := u8_info
        have h63 : j + (m - j) ≤ maxLen := by clear e1 e2; unfold maxLen; omega
        have hbt : (j + (m - j)) * 1 ≤ 140737488355328 := by clear e1 e2; omega
        have h63' : j + (m - j) + s ≤ maxLen := by clear e1 e2; unfold maxLen; omega
        have hbt' : (j + (m - j) + s) * 1 ≤ 140737488355328 := by clear e1 e2; omega
        have hbs := hbr8.size
        clear hown7 hgap0 hmk' HO hbr hbr7
        refine wp_region_held_drew (S := fun _ => True) (by kernel_rfl) trivial (fun hHeld => ?_)
        refine rg_in 0 rfl (by kernel_rfl) (by kernel_rfl) (by kernel_rfl) (by rfl) (v := ?_) (fun _ _ _ h => h) hHeld (fun w hSw => ?_) ?_
        rotate_left
        · (try dsimp only at hSw); go_simp <;> (with_reducible rfl)
        (try simp only [Act.put, List.setIfInBounds_toArray, List.set_cons_zero, List.set_cons_succ])
        refine rg_in 1 rfl (by kernel_rfl) (by kernel_rfl) (by kernel_rfl) (by rfl) (v := ?_) (fun _ _ _ h => h) hHeld (fun w hSw => ?_) ?_
        rotate_left
        · (try dsimp only at hSw); go_simp <;> (with_reducible rfl)
        (try simp only [Act.put, List.setIfInBounds_toArray, List.set_cons_zero, List.set_cons_succ])
        refine rg_in 3 rfl (by kernel_rfl) (by kernel_rfl) (by kernel_rfl) (by rfl) (v := ?_) (fun _ _ _ h => h) hHeld (fun w hSw => ?_) ?_
        rotate_left
        · (try dsimp only at hSw); go_simp <;> (with_reducible rfl)
        (try simp only [Act.put, List.setIfInBounds_toArray, List.set_cons_zero, List.set_cons_succ])
        refine rg_in 4 rfl (by kernel_rfl) (by kernel_rfl) (by kernel_rfl) (by rfl) (v := ?_) (fun _ _ _ h => h) hHeld (fun w hSw => ?_) ?_
        rotate_left
        · (try dsimp only at hSw); go_simp <;> (with_reducible rfl)
        (try simp only [Act.put, List.setIfInBounds_toArray, List.set_cons_zero, List.set_cons_succ])
        refine rg_in 5 rfl (by kernel_rfl) (by kernel_rfl) (by kernel_rfl) (by rfl) (v := ?_) (fun _ _ _ h => h) hHeld (fun w hSw => ?_) ?_
        rotate_left
        · (try dsimp only at hSw); go_simp <;> (with_reducible rfl)
        (try simp only [Act.put, List.setIfInBounds_toArray, List.set_cons_zero, List.set_cons_succ])
        refine rg_do 2 rfl (by kernel_rfl) (by rfl) (fun K hK => ?_)
        refine wp_append_shows _ _ _ 22 rfl W2.heap.size 5 i0 (.int .u8 0) 1 1 Try.underlying22 hi hz0 hz1 hz2 rfl (by decide) _ _ _ rfl hown8 _ _ (m - j) _ ((zerosU (m - j)).map bv) rfl hgap (bv_one _) h63 hbt hbs ?_
        intro A102 c102 w102 own102 hgr102 hbel102
        refine hK.out _ _ trivial (fun hHeld => ?_)
        clear hK K
        (try simp only [Act.put, List.setIfInBounds_toArray, List.set_cons_zero, List.set_cons_succ])
        refine rg_do 6 rfl (by kernel_rfl) (by rfl) (fun K hK => ?_)
        refine wp_append_shows _ _ _ 22 rfl W2.heap.size 5 i0 (.int .u8 0) 1 1 Try.underlying22 hi hz0 hz1 hz2 rfl (by decide) _ _ _ rfl own102 B _ s _ ((p.l.take s).map bv) rfl (hpc.out _ (hbr8.trans hbel102)) (bv_one _) h63' hbt' (Nat.le_trans hbs hbel102.size) ?_
        intro A106 c106 w106 own106 hgr106 hbel106
        refine hK.out _ _ trivial (fun hHeld => ?_)
        clear hK K
        (try simp only [Act.put, List.setIfInBounds_toArray, List.set_cons_zero, List.set_cons_succ])
        refine rg_in 7 rfl (by kernel_rfl) (by kernel_rfl) (by kernel_rfl) (by rfl) (v := ?_) (fun _ _ _ h => h) hHeld (fun w hSw => ?_) ?_
        rotate_left
        · (try dsimp only at hSw); go_simp <;> (with_reducible rfl)
        (try simp only [Act.put, List.setIfInBounds_toArray, List.set_cons_zero, List.set_cons_succ])
        refine wpAnyH_done (by kernel_rfl) ?_ _
        have HO9 := Lib.hid own106
        have hb9 := (hbr8.trans hbel102).trans hbel106
        clear own102 own106 hgr102 hgr106 hbel102 hbel106 hHeld hgap hown8
        go_wp2
        go_roundw
        case rel => exact ⟨i + 1, m + s, m + p.n, _, _, f ++ zerosU (m - j) ++ p.l.take s, by omega, by go_num, by go_num, rfl, HM2, Lib.hid (by rw [List.map_append, List.map_append]; have h := HO9.out; rw [HJM.out] at h; exact h), HGn, hj3, hmp, hb9⟩
        case measure => simp [intOf]; omega
    · obtain rfl : i = X.ln := by omega
      have HR := Lib.hid (show f = crashGo k.l tear cut X.s.loose 0 X.s.firm.length X.s.firm by
        have h := HG.out
        rw [List.drop_eq_nil_of_le (by rw [HlL.out]; exact Nat.le_refl _)] at h
        exact h)
      have hfr := fun W => fresh_any A j c W
      clear HM HG hlt
      go_wp2_with fail
      refine (hfr _).mono ?_
      rintro e W4 ⟨rfl, hb5⟩
      clear hfr
      have hb6 := bel_next hbw hb5
      obtain ⟨⟨j0, j1, j2, j3, j4⟩, k0, k1, k2, k3, k4⟩ := (HV2.out.later hbr).later hb5
      have hown4 := own_later HO.out hb5
      obtain ⟨o1, o2, o3⟩ := own_facts hown4
      have hpo : PcT.Ok W4 W4.heap.size ⟨A, j, c, f⟩ := ⟨Bytes.own hown4, o1, o2, o3⟩
      have haw : ∀ g, g < w.heap.size + 2 → AwayP ⟨A, j, c, f⟩ g := fun g hg => own_away hown4 (by omega)
      have hbe := fbelow_set5 (a := .slice A j c) (b := .slice none 0 0) (c := .int .i64 (-1)) (d := .int .i64 (-1)) (e := .bool false) hb6 (show w.heap.size ≤ w.heap.size + 1 by omega)
      have hpo2 := hpo.setAway5 (haw (w.heap.size + 1) (by omega)) (.slice A j c) (.slice none 0 0) (.int .i64 (-1)) (.int .i64 (-1)) (.bool false)
      rw [← size_set5 W4 (w.heap.size + 1) (.slice A j c) (.slice none 0 0) (.int .i64 (-1)) (.int .i64 (-1)) (.bool false)] at hpo2
      have HLe := Lib.hid (lie_syn (u := -1) (v := -1) (b := false) hpo2 (by decide) (by decide))
      have HAw := Lib.hid (show ∀ g, g < w.heap.size → AwayF X g → True → AwayF ⟨⟨A, j, c, f⟩, none, 0, 0, [], -1, -1, false⟩ g from fun g hg h1 _ => ⟨haw g (by omega), fun _ _ h => (by cases h), fun q hq => (List.not_mem_nil hq).elim⟩)
      have HSe := Lib.hid (show (⟨f, [], -1, -1, false⟩ : FileS) = out by rw [← HO2.out, HR.out]; rfl)
      clear HL HA Hk HN Hr HO HR HV2 HO2 hb6 hb5 hbw hbr hown4 o1 o2 o3 hpo haw hpo2 f0 f1 hb3 hbc hV3
      go_wp2
      refine bodyPost_ret (v := .tuple #[.agg #[.slice A j c, .slice none 0 0, .int .i64 (-1), .int .i64 (-1), .bool false], .int .i64 0]) ?_ rfl ⟨⟨⟨A, j, c, f⟩, none, 0, 0, [], -1, -1, false⟩, rfl, HSe.out, HLe.out, hbe, HAw.out⟩
      simp [results, Try.results26, go_sem, *]
end Go.Proofs.Ythoenmggjbojoaa
/-
  Layer 10: Light and Refuse.
-/
namespace Go.Proofs.Ythoenmggjbojoaa
open Go.RowKit
set_option linter.unusedVariables false

theorem max_wf {n : Int} (h : (Lit.int .i64 n).wf = true) : (Lit.int .i64 (max n (-1))).wf = true := by
  have hb := wf_i64 h
  simp [Lit.wf, IntKind.min, IntKind.max, IntKind.bits, IntKind.signed]; omega
theorem FVar.lay {W : World} {g : Nat} {a b c d e : Value} (h : FVar W g a b c d e) (o : Obj) : FVar (W.alloc o) g a b c d e := h.later (bel_alloc (Below.refl _ _) o)
theorem light1_any (g b : Nat) (n m : Int) (hm : m = max n (-1)) (v0 v1 v4 : Value) (x2 x3 : Int) (w : World) (hV : FVar w g v0 v1 (.int .i64 x2) (.int .i64 x3) v4) (hb : w.cell? ⟨b, 0, none⟩ = some (.int .i64 n)) :
    Calls Try.prog 46 #[.pointer (some ⟨g, 0, none⟩), .pointer (some ⟨b, 0, none⟩)] w fun e w' => e = .returned (.tuple #[]) ∧ w.setCell ⟨g, 2, none⟩ (.int .i64 (m)) = w' := by
  obtain ⟨⟨h0, h1, h2, h3, h4⟩, k0, k1, k2, k3, k4⟩ := hV
  clear h0 h1 h4 k0 k1 k4
  by_cases h : n < -1
  · obtain rfl : m = -1 := by omega
    clear hm
    go_enter Try.func46, Try.ntmps46
    go_wp2
    all_goals
      go_end0
      exact ⟨rfl, rfl⟩
  · obtain rfl : n = m := by omega
    clear hm
    go_enter Try.func46, Try.ntmps46
    go_wp2
    all_goals
      go_end0
      exact ⟨rfl, rfl⟩
set_option maxRecDepth 20000 in
set_option maxHeartbeats 2000000 in
theorem set_light (X : FileT) (B b : Nat) (n m : Int) (hm : m = max n (-1)) (w : World) (hL : LieF w B X) (hB : B ≤ w.heap.size) (hr : X.right = true) (hn : (Lit.int .i64 n).wf = true) (hb : w.cell? ⟨b, 0, none⟩ = some (.int .i64 n)) :
    Calls Try.prog 45 #[X.agg, .func (.func 46) #[] #[.pointer (some ⟨b, 0, none⟩)]] w (OpP X (fun _ => True) (if X.off = true then (X.s, 10) else (⟨X.F.l, X.L.map (·.l), m, X.fault, false⟩, 0)) w) := by
  have Hm := Lib.hid hm
  have hwm : (Lit.int .i64 m).wf = true := by rw [hm]; exact max_wf hn
  clear hm
  have HO := Lib.hid (show (X.off = true → (if X.off = true then (X.s, 10) else (⟨X.F.l, X.L.map (·.l), m, X.fault, false⟩, (0 : Int))) = (X.s, 10)) ∧ (¬ X.off = true → (if X.off = true then (X.s, 10) else (⟨X.F.l, X.L.map (·.l), m, X.fault, false⟩, (0 : Int))) = (⟨X.F.l, X.L.map (·.l), m, X.fault, false⟩, (0 : Int))) from ⟨fun h => if_pos h, fun h => if_neg h⟩)
  generalize (if X.off = true then (X.s, 10) else (⟨X.F.l, X.L.map (·.l), m, X.fault, false⟩, (0 : Int))) = out at *
  have hb1 := bel_alloc (bel_alloc (Below.refl w.heap.size w) (.cells #[.slice X.F.A X.F.n X.F.c, .slice X.lA X.ln X.lc, .int .i64 X.fuse, .int .i64 X.fault, .bool X.off] 25)) (.cells #[.slice none 0 0, .slice none 0 0, .int .i64 0, .int .i64 0, .bool false] 25)
  have hV1 := (FVar.new w (.slice X.F.A X.F.n X.F.c) (.slice X.lA X.ln X.lc) (.int .i64 X.fuse) (.int .i64 X.fault) (.bool X.off) 25).lay (.cells #[.slice none 0 0, .slice none 0 0, .int .i64 0, .int .i64 0, .bool false] 25)
  have hV2 := FVar.new (w.alloc (.cells #[.slice X.F.A X.F.n X.F.c, .slice X.lA X.ln X.lc, .int .i64 X.fuse, .int .i64 X.fault, .bool X.off] 25)) (.slice none 0 0) (.slice none 0 0) (.int .i64 0) (.int .i64 0) (.bool false) 25
  rw [World.size_alloc] at hV2
  have hbb := kept_later (bel_alloc (bel_alloc (Below.refl _ _) (.cells #[.slice X.F.A X.F.n X.F.c, .slice X.lA X.ln X.lc, .int .i64 X.fuse, .int .i64 X.fault, .bool X.off] 25)) (.cells #[.slice none 0 0, .slice none 0 0, .int .i64 0, .int .i64 0, .bool false] 25)) hb
  obtain ⟨hN, hl, hln⟩ := right_rows hL hr
  have hch := checkF_any X B _ (hL.later (hb1.mono hB)) (Nat.le_trans hB hb1.size) hN
  rw [if_pos hr] at hch
  simp only [FileT.agg, PcT.val] at hch ⊢
  obtain ⟨⟨f0, f1, f2, f3, f4⟩, -⟩ := hV1
  have HL := Lib.hid hL
  have Hn := Lib.hid hwm
  clear hwm
  have hsz : ((w.alloc (.cells #[.slice X.F.A X.F.n X.F.c, .slice X.lA X.ln X.lc, .int .i64 X.fuse, .int .i64 X.fault, .bool X.off] 25)).alloc (.cells #[.slice none 0 0, .slice none 0 0, .int .i64 0, .int .i64 0, .bool false] 25)).heap.size = w.heap.size + 1 + 1 := by simp
  clear hb hN hl hln hL hn
  go_enter Try.func45, Try.ntmps45
  go_wp2_with fail
  have HV1 := Lib.hid ((FVar.new w (.slice X.F.A X.F.n X.F.c) (.slice X.lA X.ln X.lc) (.int .i64 X.fuse) (.int .i64 X.fault) (.bool X.off) 25).lay (.cells #[.slice none 0 0, .slice none 0 0, .int .i64 0, .int .i64 0, .bool false] 25))
  generalize (w.alloc (.cells #[.slice X.F.A X.F.n X.F.c, .slice X.lA X.ln X.lc, .int .i64 X.fuse, .int .i64 X.fault, .bool X.off] 25)).alloc (.cells #[.slice none 0 0, .slice none 0 0, .int .i64 0, .int .i64 0, .bool false] 25) = W1 at *
  refine hch.mono ?_
  rintro e W2 ⟨rfl, hb2⟩
  have hV3 := HV1.out.later hb2
  have hV4 := hV2.later hb2
  have hb3 := bel_next hb1 hb2
  have hbc := kept_later hb2 hbb
  have HS := Lib.hid hsz
  have hs2 := hb2.size
  clear hch hb1 hb2 HV1 hV2 f0 f1 f2 f3 f4 hbb hsz
  cases ho : X.off
  · rw [ho] at HO hV3
    have HO2 := Lib.hid (HO.out.2 (by decide))
    have hli := light1_any w.heap.size b n m Hm.out _ _ _ _ _ W2 hV3 hbc
    have hmf : ∀ (fn : Fn) (first cap : Array Value) (w : World), (Instr.makeFunc fn first cap).run Try.prog w = .ok (.func fn first cap) w := fun _ _ _ _ => rfl
    have Hho := Lib.hid ho
    have HV5 := Lib.hid (hV3.set2 (.int .i64 m))
    obtain ⟨⟨f0, f1, f2, f3, f4⟩, -⟩ := hV3
    have hne : w.heap.size ≠ w.heap.size + 1 := by omega
    have HV6 := Lib.hid (fvar_other (g := w.heap.size) 2 (.int .i64 (m)) hne hV4)
    have hb4 := hb3.setCell (p := ⟨w.heap.size, 2, none⟩) (Nat.le_refl _) (.int .i64 (m))
    clear HO ho hV4 hne
    go_wp2_with fail
    refine hli.mono ?_
    rintro e W3 ⟨rfl, rfl⟩
    clear hli
    generalize W2.setCell ⟨w.heap.size, 2, none⟩ (.int .i64 (m)) = W3 at *
    clear f0 f1 f2 f3 f4
    obtain ⟨⟨f0, f1, f2, f3, f4⟩, -⟩ := HV5.out
    obtain ⟨⟨j0, j1, j2, j3, j4⟩, k0, k1, k2, k3, k4⟩ := HV6.out
    have hbe := fbelow_set5 (a := .slice X.F.A X.F.n X.F.c) (b := .slice X.lA X.ln X.lc) (c := .int .i64 m) (d := .int .i64 X.fault) (e := .bool false) hb4 (show w.heap.size ≤ w.heap.size + 1 by omega)
    have hL5 := (HL.out.later (hbe.mono hB)).more (Nat.le_trans hB hbe.size)
    have HLe := Lib.hid (show LieF _ _ (⟨X.F, X.lA, X.ln, X.lc, X.L, m, X.fault, false⟩ : FileT) from ⟨hL5.firm, hL5.row, hL5.loose, hL5.nil, hL5.fits, hL5.most, Hn.out, hL5.fault⟩)
    clear hL5
    go_wp2
    refine bodyPost_ret (v := .tuple #[.agg #[.slice X.F.A X.F.n X.F.c, .slice X.lA X.ln X.lc, .int .i64 m, .int .i64 X.fault, .bool false], .int .i64 0]) ?_ rfl ⟨⟨X.F, X.lA, X.ln, X.lc, X.L, m, X.fault, false⟩, by rw [HO2.out]; rfl, by rw [HO2.out]; first | rfl | (rw [← Hho.out]; rfl), HLe.out, hbe, fun _ _ h _ => ⟨h.firm, h.row, h.loose⟩⟩
    simp [results, Try.results45, go_sem, *]
  · rw [ho] at HO hV3
    have HO2 := Lib.hid (HO.out.1 rfl)
    have Hho := Lib.hid ho
    obtain ⟨⟨f0, f1, f2, f3, f4⟩, -⟩ := hV3
    obtain ⟨⟨j0, j1, j2, j3, j4⟩, k0, k1, k2, k3, k4⟩ := hV4
    have hbe := fbelow_set5 (a := .slice X.F.A X.F.n X.F.c) (b := .slice X.lA X.ln X.lc) (c := .int .i64 X.fuse) (d := .int .i64 X.fault) (e := .bool true) hb3 (show w.heap.size ≤ w.heap.size + 1 by omega)
    have HLe := Lib.hid ((HL.out.later (hbe.mono hB)).more (Nat.le_trans hB hbe.size))
    clear HO
    clear ho
    go_wp2
    refine bodyPost_ret (v := .tuple #[.agg #[.slice X.F.A X.F.n X.F.c, .slice X.lA X.ln X.lc, .int .i64 X.fuse, .int .i64 X.fault, .bool true], .int .i64 10]) ?_ rfl ⟨X, by rw [HO2.out]; unfold FileT.agg; rw [Hho.out]; rfl, by rw [HO2.out], HLe.out, hbe, fun _ _ h _ => ⟨h.firm, h.row, h.loose⟩⟩
    simp [results, Try.results45, go_sem, *]
set_option maxRecDepth 20000 in
set_option maxHeartbeats 2000000 in
theorem lightF_any (X : FileT) (B : Nat) (n : Int) (w : World) (hL : LieF w B X) (hB : B ≤ w.heap.size) (hr : X.right = true) (hn : (Lit.int .i64 n).wf = true) :
    Calls Try.prog 27 #[X.agg, .int .i64 n] w (OpP X (fun _ => True) (if X.off = true then (X.s, 10) else (⟨X.F.l, X.L.map (·.l), max n (-1), X.fault, false⟩, 0)) w) := by
  have hb1 := bel_alloc (bel_alloc (bel_alloc (Below.refl w.heap.size w) (.cells #[.slice X.F.A X.F.n X.F.c, .slice X.lA X.ln X.lc, .int .i64 X.fuse, .int .i64 X.fault, .bool X.off] 25)) (.cells #[.int .i64 n] 3)) (.cells #[.slice none 0 0, .slice none 0 0, .int .i64 0, .int .i64 0, .bool false] 25)
  have hV1 := ((FVar.new w (.slice X.F.A X.F.n X.F.c) (.slice X.lA X.ln X.lc) (.int .i64 X.fuse) (.int .i64 X.fault) (.bool X.off) 25).lay (.cells #[.int .i64 n] 3)).lay (.cells #[.slice none 0 0, .slice none 0 0, .int .i64 0, .int .i64 0, .bool false] 25)
  have hV2 := FVar.new ((w.alloc (.cells #[.slice X.F.A X.F.n X.F.c, .slice X.lA X.ln X.lc, .int .i64 X.fuse, .int .i64 X.fault, .bool X.off] 25)).alloc (.cells #[.int .i64 n] 3)) (.slice none 0 0) (.slice none 0 0) (.int .i64 0) (.int .i64 0) (.bool false) 25
  have hsz : (((w.alloc (.cells #[.slice X.F.A X.F.n X.F.c, .slice X.lA X.ln X.lc, .int .i64 X.fuse, .int .i64 X.fault, .bool X.off] 25)).alloc (.cells #[.int .i64 n] 3)).alloc (.cells #[.slice none 0 0, .slice none 0 0, .int .i64 0, .int .i64 0, .bool false] 25)).heap.size = w.heap.size + 1 + 1 + 1 := by simp
  have hb : ((w.alloc (.cells #[.slice X.F.A X.F.n X.F.c, .slice X.lA X.ln X.lc, .int .i64 X.fuse, .int .i64 X.fault, .bool X.off] 25)).alloc (.cells #[.int .i64 n] 3)).cell? ⟨w.heap.size + 1, 0, none⟩ = some (.int .i64 n) := by
    have h := World.cell?_alloc_new (w.alloc (.cells #[.slice X.F.A X.F.n X.F.c, .slice X.lA X.ln X.lc, .int .i64 X.fuse, .int .i64 X.fault, .bool X.off] 25)) #[.int .i64 n] 3 0
    rw [World.size_alloc] at h
    exact h
  rw [World.size_alloc, World.size_alloc] at hV2
  have hbb := cell_keep hb (.cells #[.slice none 0 0, .slice none 0 0, .int .i64 0, .int .i64 0, .bool false] 25)
  have hst := set_light X B (w.heap.size + 1) n _ rfl _ (hL.later (hb1.mono hB)) (Nat.le_trans hB hb1.size) hr hn hbb
  generalize (if X.off = true then (X.s, 10) else (⟨X.F.l, X.L.map (·.l), max n (-1), X.fault, false⟩, (0 : Int))) = out at *
  have hmf : ∀ (fn : Fn) (first cap : Array Value) (w : World), (Instr.makeFunc fn first cap).run Try.prog w = .ok (.func fn first cap) w := fun _ _ _ _ => rfl
  simp only [FileT.agg, PcT.val] at hst ⊢
  obtain ⟨⟨f0, f1, f2, f3, f4⟩, -⟩ := hV1
  have HL := Lib.hid hL
  clear hb hL hn
  go_enter Try.func27, Try.ntmps27
  go_wp2_with fail
  generalize ((w.alloc (.cells #[.slice X.F.A X.F.n X.F.c, .slice X.lA X.ln X.lc, .int .i64 X.fuse, .int .i64 X.fault, .bool X.off] 25)).alloc (.cells #[.int .i64 n] 3)).alloc (.cells #[.slice none 0 0, .slice none 0 0, .int .i64 0, .int .i64 0, .bool false] 25) = W1 at *
  refine hst.mono ?_
  rintro e W2 ⟨Y, rfl, hYs, hYL, hb2, haw⟩
  have hV4 := hV2.later hb2
  have hb3 := bel_next hb1 hb2
  obtain ⟨⟨j0, j1, j2, j3, j4⟩, k0, k1, k2, k3, k4⟩ := hV4
  have hbe := fbelow_set5 (a := .slice Y.F.A Y.F.n Y.F.c) (b := .slice Y.lA Y.ln Y.lc) (c := .int .i64 Y.fuse) (d := .int .i64 Y.fault) (e := .bool Y.off) hb3 (show w.heap.size ≤ w.heap.size + 1 + 1 by omega)
  have HYs := Lib.hid hYs
  have HS := Lib.hid hsz
  have HAw := Lib.hid (show ∀ k, k < w.heap.size → AwayF X k → True → AwayF Y k from fun k hk h1 _ => haw k (by omega) h1 trivial)
  have HYL := Lib.hid (lie_res (g := w.heap.size + 1 + 1) (a := .slice Y.F.A Y.F.n Y.F.c) (b := .slice Y.lA Y.ln Y.lc) (c := .int .i64 Y.fuse) (d := .int .i64 Y.fault) (e := .bool Y.off) hYL (haw (w.heap.size + 1 + 1) (by omega) ((HL.out.more hB).away (by omega)) trivial))
  clear hst hYs hYL haw hsz hV2 hb1 hb2 hb3 HL f0 f1 f2 f3 f4 hbb
  simp only [FileT.agg, PcT.val]
  go_wp2
  refine bodyPost_ret (v := .tuple #[.agg #[.slice Y.F.A Y.F.n Y.F.c, .slice Y.lA Y.ln Y.lc, .int .i64 Y.fuse, .int .i64 Y.fault, .bool Y.off], .int .i64 out.2]) ?_ rfl ⟨Y, rfl, HYs.out, HYL.out, hbe, HAw.out⟩
  simp [results, Try.results27, go_sem, *]
theorem refuse1_any (g b : Nat) (n m : Int) (hm : m = max n (-1)) (v0 v1 v4 : Value) (x2 x3 : Int) (w : World) (hV : FVar w g v0 v1 (.int .i64 x2) (.int .i64 x3) v4) (hb : w.cell? ⟨b, 0, none⟩ = some (.int .i64 n)) :
    Calls Try.prog 47 #[.pointer (some ⟨g, 0, none⟩), .pointer (some ⟨b, 0, none⟩)] w fun e w' => e = .returned (.tuple #[]) ∧ w.setCell ⟨g, 3, none⟩ (.int .i64 (m)) = w' := by
  obtain ⟨⟨h0, h1, h2, h3, h4⟩, k0, k1, k2, k3, k4⟩ := hV
  clear h0 h1 h4 k0 k1 k4
  by_cases h : n < -1
  · obtain rfl : m = -1 := by omega
    clear hm
    go_enter Try.func47, Try.ntmps47
    go_wp2
    all_goals
      go_end0
      exact ⟨rfl, rfl⟩
  · obtain rfl : n = m := by omega
    clear hm
    go_enter Try.func47, Try.ntmps47
    go_wp2
    all_goals
      go_end0
      exact ⟨rfl, rfl⟩
set_option maxRecDepth 20000 in
set_option maxHeartbeats 2000000 in
theorem set_refuse (X : FileT) (B b : Nat) (n m : Int) (hm : m = max n (-1)) (w : World) (hL : LieF w B X) (hB : B ≤ w.heap.size) (hr : X.right = true) (hn : (Lit.int .i64 n).wf = true) (hb : w.cell? ⟨b, 0, none⟩ = some (.int .i64 n)) :
    Calls Try.prog 45 #[X.agg, .func (.func 47) #[] #[.pointer (some ⟨b, 0, none⟩)]] w (OpP X (fun _ => True) (if X.off = true then (X.s, 10) else (⟨X.F.l, X.L.map (·.l), X.fuse, m, false⟩, 0)) w) := by
  have Hm := Lib.hid hm
  have hwm : (Lit.int .i64 m).wf = true := by rw [hm]; exact max_wf hn
  clear hm
  have HO := Lib.hid (show (X.off = true → (if X.off = true then (X.s, 10) else (⟨X.F.l, X.L.map (·.l), X.fuse, m, false⟩, (0 : Int))) = (X.s, 10)) ∧ (¬ X.off = true → (if X.off = true then (X.s, 10) else (⟨X.F.l, X.L.map (·.l), X.fuse, m, false⟩, (0 : Int))) = (⟨X.F.l, X.L.map (·.l), X.fuse, m, false⟩, (0 : Int))) from ⟨fun h => if_pos h, fun h => if_neg h⟩)
  generalize (if X.off = true then (X.s, 10) else (⟨X.F.l, X.L.map (·.l), X.fuse, m, false⟩, (0 : Int))) = out at *
  have hb1 := bel_alloc (bel_alloc (Below.refl w.heap.size w) (.cells #[.slice X.F.A X.F.n X.F.c, .slice X.lA X.ln X.lc, .int .i64 X.fuse, .int .i64 X.fault, .bool X.off] 25)) (.cells #[.slice none 0 0, .slice none 0 0, .int .i64 0, .int .i64 0, .bool false] 25)
  have hV1 := (FVar.new w (.slice X.F.A X.F.n X.F.c) (.slice X.lA X.ln X.lc) (.int .i64 X.fuse) (.int .i64 X.fault) (.bool X.off) 25).lay (.cells #[.slice none 0 0, .slice none 0 0, .int .i64 0, .int .i64 0, .bool false] 25)
  have hV2 := FVar.new (w.alloc (.cells #[.slice X.F.A X.F.n X.F.c, .slice X.lA X.ln X.lc, .int .i64 X.fuse, .int .i64 X.fault, .bool X.off] 25)) (.slice none 0 0) (.slice none 0 0) (.int .i64 0) (.int .i64 0) (.bool false) 25
  rw [World.size_alloc] at hV2
  have hbb := kept_later (bel_alloc (bel_alloc (Below.refl _ _) (.cells #[.slice X.F.A X.F.n X.F.c, .slice X.lA X.ln X.lc, .int .i64 X.fuse, .int .i64 X.fault, .bool X.off] 25)) (.cells #[.slice none 0 0, .slice none 0 0, .int .i64 0, .int .i64 0, .bool false] 25)) hb
  obtain ⟨hN, hl, hln⟩ := right_rows hL hr
  have hch := checkF_any X B _ (hL.later (hb1.mono hB)) (Nat.le_trans hB hb1.size) hN
  rw [if_pos hr] at hch
  simp only [FileT.agg, PcT.val] at hch ⊢
  obtain ⟨⟨f0, f1, f2, f3, f4⟩, -⟩ := hV1
  have HL := Lib.hid hL
  have Hn := Lib.hid hwm
  clear hwm
  have hsz : ((w.alloc (.cells #[.slice X.F.A X.F.n X.F.c, .slice X.lA X.ln X.lc, .int .i64 X.fuse, .int .i64 X.fault, .bool X.off] 25)).alloc (.cells #[.slice none 0 0, .slice none 0 0, .int .i64 0, .int .i64 0, .bool false] 25)).heap.size = w.heap.size + 1 + 1 := by simp
  clear hb hN hl hln hL hn
  go_enter Try.func45, Try.ntmps45
  go_wp2_with fail
  have HV1 := Lib.hid ((FVar.new w (.slice X.F.A X.F.n X.F.c) (.slice X.lA X.ln X.lc) (.int .i64 X.fuse) (.int .i64 X.fault) (.bool X.off) 25).lay (.cells #[.slice none 0 0, .slice none 0 0, .int .i64 0, .int .i64 0, .bool false] 25))
  generalize (w.alloc (.cells #[.slice X.F.A X.F.n X.F.c, .slice X.lA X.ln X.lc, .int .i64 X.fuse, .int .i64 X.fault, .bool X.off] 25)).alloc (.cells #[.slice none 0 0, .slice none 0 0, .int .i64 0, .int .i64 0, .bool false] 25) = W1 at *
  refine hch.mono ?_
  rintro e W2 ⟨rfl, hb2⟩
  have hV3 := HV1.out.later hb2
  have hV4 := hV2.later hb2
  have hb3 := bel_next hb1 hb2
  have hbc := kept_later hb2 hbb
  have HS := Lib.hid hsz
  have hs2 := hb2.size
  clear hch hb1 hb2 HV1 hV2 f0 f1 f2 f3 f4 hbb hsz
  cases ho : X.off
  · rw [ho] at HO hV3
    have HO2 := Lib.hid (HO.out.2 (by decide))
    have hli := refuse1_any w.heap.size b n m Hm.out _ _ _ _ _ W2 hV3 hbc
    have hmf : ∀ (fn : Fn) (first cap : Array Value) (w : World), (Instr.makeFunc fn first cap).run Try.prog w = .ok (.func fn first cap) w := fun _ _ _ _ => rfl
    have Hho := Lib.hid ho
    have HV5 := Lib.hid (hV3.set3 (.int .i64 m))
    obtain ⟨⟨f0, f1, f2, f3, f4⟩, -⟩ := hV3
    have hne : w.heap.size ≠ w.heap.size + 1 := by omega
    have HV6 := Lib.hid (fvar_other (g := w.heap.size) 3 (.int .i64 (m)) hne hV4)
    have hb4 := hb3.setCell (p := ⟨w.heap.size, 3, none⟩) (Nat.le_refl _) (.int .i64 (m))
    clear HO ho hV4 hne
    go_wp2_with fail
    refine hli.mono ?_
    rintro e W3 ⟨rfl, rfl⟩
    clear hli
    generalize W2.setCell ⟨w.heap.size, 3, none⟩ (.int .i64 (m)) = W3 at *
    clear f0 f1 f2 f3 f4
    obtain ⟨⟨f0, f1, f2, f3, f4⟩, -⟩ := HV5.out
    obtain ⟨⟨j0, j1, j2, j3, j4⟩, k0, k1, k2, k3, k4⟩ := HV6.out
    have hbe := fbelow_set5 (a := .slice X.F.A X.F.n X.F.c) (b := .slice X.lA X.ln X.lc) (c := .int .i64 X.fuse) (d := .int .i64 m) (e := .bool false) hb4 (show w.heap.size ≤ w.heap.size + 1 by omega)
    have hL5 := (HL.out.later (hbe.mono hB)).more (Nat.le_trans hB hbe.size)
    have HLe := Lib.hid (show LieF _ _ (⟨X.F, X.lA, X.ln, X.lc, X.L, X.fuse, m, false⟩ : FileT) from ⟨hL5.firm, hL5.row, hL5.loose, hL5.nil, hL5.fits, hL5.most, hL5.fuse, Hn.out⟩)
    clear hL5
    go_wp2
    refine bodyPost_ret (v := .tuple #[.agg #[.slice X.F.A X.F.n X.F.c, .slice X.lA X.ln X.lc, .int .i64 X.fuse, .int .i64 m, .bool false], .int .i64 0]) ?_ rfl ⟨⟨X.F, X.lA, X.ln, X.lc, X.L, X.fuse, m, false⟩, by rw [HO2.out]; rfl, by rw [HO2.out]; first | rfl | (rw [← Hho.out]; rfl), HLe.out, hbe, fun _ _ h _ => ⟨h.firm, h.row, h.loose⟩⟩
    simp [results, Try.results45, go_sem, *]
  · rw [ho] at HO hV3
    have HO2 := Lib.hid (HO.out.1 rfl)
    have Hho := Lib.hid ho
    obtain ⟨⟨f0, f1, f2, f3, f4⟩, -⟩ := hV3
    obtain ⟨⟨j0, j1, j2, j3, j4⟩, k0, k1, k2, k3, k4⟩ := hV4
    have hbe := fbelow_set5 (a := .slice X.F.A X.F.n X.F.c) (b := .slice X.lA X.ln X.lc) (c := .int .i64 X.fuse) (d := .int .i64 X.fault) (e := .bool true) hb3 (show w.heap.size ≤ w.heap.size + 1 by omega)
    have HLe := Lib.hid ((HL.out.later (hbe.mono hB)).more (Nat.le_trans hB hbe.size))
    clear HO
    clear ho
    go_wp2
    refine bodyPost_ret (v := .tuple #[.agg #[.slice X.F.A X.F.n X.F.c, .slice X.lA X.ln X.lc, .int .i64 X.fuse, .int .i64 X.fault, .bool true], .int .i64 10]) ?_ rfl ⟨X, by rw [HO2.out]; unfold FileT.agg; rw [Hho.out]; rfl, by rw [HO2.out], HLe.out, hbe, fun _ _ h _ => ⟨h.firm, h.row, h.loose⟩⟩
    simp [results, Try.results45, go_sem, *]
set_option maxRecDepth 20000 in
set_option maxHeartbeats 2000000 in
theorem refuseF_any (X : FileT) (B : Nat) (n : Int) (w : World) (hL : LieF w B X) (hB : B ≤ w.heap.size) (hr : X.right = true) (hn : (Lit.int .i64 n).wf = true) :
    Calls Try.prog 28 #[X.agg, .int .i64 n] w (OpP X (fun _ => True) (if X.off = true then (X.s, 10) else (⟨X.F.l, X.L.map (·.l), X.fuse, max n (-1), false⟩, 0)) w) := by
  have hb1 := bel_alloc (bel_alloc (bel_alloc (Below.refl w.heap.size w) (.cells #[.slice X.F.A X.F.n X.F.c, .slice X.lA X.ln X.lc, .int .i64 X.fuse, .int .i64 X.fault, .bool X.off] 25)) (.cells #[.int .i64 n] 3)) (.cells #[.slice none 0 0, .slice none 0 0, .int .i64 0, .int .i64 0, .bool false] 25)
  have hV1 := ((FVar.new w (.slice X.F.A X.F.n X.F.c) (.slice X.lA X.ln X.lc) (.int .i64 X.fuse) (.int .i64 X.fault) (.bool X.off) 25).lay (.cells #[.int .i64 n] 3)).lay (.cells #[.slice none 0 0, .slice none 0 0, .int .i64 0, .int .i64 0, .bool false] 25)
  have hV2 := FVar.new ((w.alloc (.cells #[.slice X.F.A X.F.n X.F.c, .slice X.lA X.ln X.lc, .int .i64 X.fuse, .int .i64 X.fault, .bool X.off] 25)).alloc (.cells #[.int .i64 n] 3)) (.slice none 0 0) (.slice none 0 0) (.int .i64 0) (.int .i64 0) (.bool false) 25
  have hsz : (((w.alloc (.cells #[.slice X.F.A X.F.n X.F.c, .slice X.lA X.ln X.lc, .int .i64 X.fuse, .int .i64 X.fault, .bool X.off] 25)).alloc (.cells #[.int .i64 n] 3)).alloc (.cells #[.slice none 0 0, .slice none 0 0, .int .i64 0, .int .i64 0, .bool false] 25)).heap.size = w.heap.size + 1 + 1 + 1 := by simp
  have hb : ((w.alloc (.cells #[.slice X.F.A X.F.n X.F.c, .slice X.lA X.ln X.lc, .int .i64 X.fuse, .int .i64 X.fault, .bool X.off] 25)).alloc (.cells #[.int .i64 n] 3)).cell? ⟨w.heap.size + 1, 0, none⟩ = some (.int .i64 n) := by
    have h := World.cell?_alloc_new (w.alloc (.cells #[.slice X.F.A X.F.n X.F.c, .slice X.lA X.ln X.lc, .int .i64 X.fuse, .int .i64 X.fault, .bool X.off] 25)) #[.int .i64 n] 3 0
    rw [World.size_alloc] at h
    exact h
  rw [World.size_alloc, World.size_alloc] at hV2
  have hbb := cell_keep hb (.cells #[.slice none 0 0, .slice none 0 0, .int .i64 0, .int .i64 0, .bool false] 25)
  have hst := set_refuse X B (w.heap.size + 1) n _ rfl _ (hL.later (hb1.mono hB)) (Nat.le_trans hB hb1.size) hr hn hbb
  generalize (if X.off = true then (X.s, 10) else (⟨X.F.l, X.L.map (·.l), X.fuse, max n (-1), false⟩, (0 : Int))) = out at *
  have hmf : ∀ (fn : Fn) (first cap : Array Value) (w : World), (Instr.makeFunc fn first cap).run Try.prog w = .ok (.func fn first cap) w := fun _ _ _ _ => rfl
  simp only [FileT.agg, PcT.val] at hst ⊢
  obtain ⟨⟨f0, f1, f2, f3, f4⟩, -⟩ := hV1
  have HL := Lib.hid hL
  clear hb hL hn
  go_enter Try.func28, Try.ntmps28
  go_wp2_with fail
  generalize ((w.alloc (.cells #[.slice X.F.A X.F.n X.F.c, .slice X.lA X.ln X.lc, .int .i64 X.fuse, .int .i64 X.fault, .bool X.off] 25)).alloc (.cells #[.int .i64 n] 3)).alloc (.cells #[.slice none 0 0, .slice none 0 0, .int .i64 0, .int .i64 0, .bool false] 25) = W1 at *
  refine hst.mono ?_
  rintro e W2 ⟨Y, rfl, hYs, hYL, hb2, haw⟩
  have hV4 := hV2.later hb2
  have hb3 := bel_next hb1 hb2
  obtain ⟨⟨j0, j1, j2, j3, j4⟩, k0, k1, k2, k3, k4⟩ := hV4
  have hbe := fbelow_set5 (a := .slice Y.F.A Y.F.n Y.F.c) (b := .slice Y.lA Y.ln Y.lc) (c := .int .i64 Y.fuse) (d := .int .i64 Y.fault) (e := .bool Y.off) hb3 (show w.heap.size ≤ w.heap.size + 1 + 1 by omega)
  have HYs := Lib.hid hYs
  have HS := Lib.hid hsz
  have HAw := Lib.hid (show ∀ k, k < w.heap.size → AwayF X k → True → AwayF Y k from fun k hk h1 _ => haw k (by omega) h1 trivial)
  have HYL := Lib.hid (lie_res (g := w.heap.size + 1 + 1) (a := .slice Y.F.A Y.F.n Y.F.c) (b := .slice Y.lA Y.ln Y.lc) (c := .int .i64 Y.fuse) (d := .int .i64 Y.fault) (e := .bool Y.off) hYL (haw (w.heap.size + 1 + 1) (by omega) ((HL.out.more hB).away (by omega)) trivial))
  clear hst hYs hYL haw hsz hV2 hb1 hb2 hb3 HL f0 f1 f2 f3 f4 hbb
  simp only [FileT.agg, PcT.val]
  go_wp2
  refine bodyPost_ret (v := .tuple #[.agg #[.slice Y.F.A Y.F.n Y.F.c, .slice Y.lA Y.ln Y.lc, .int .i64 Y.fuse, .int .i64 Y.fault, .bool Y.off], .int .i64 out.2]) ?_ rfl ⟨Y, rfl, HYs.out, HYL.out, hbe, HAw.out⟩
  simp [results, Try.results28, go_sem, *]
end Go.Proofs.Ythoenmggjbojoaa
