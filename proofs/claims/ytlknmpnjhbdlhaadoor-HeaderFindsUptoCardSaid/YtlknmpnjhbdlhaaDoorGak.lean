import Derived.Test.YtlknmpnjhbdlhaaDoorGaj
import Derived.Test.YtlknmpnjhbdlhaaDoorGah
import Derived.Test.YtlknmpnjhbdlhaaDoorGaa
import Derived.Laws.BytesString
import Derived.Laws.Cells
import Derived.Test.YtlknmpnjhbdlhaaDoorGad
/-
  Layer 10: Crash.
-/
namespace Go.Proofs.YtlknmpnjhbdlhaaDoor
open Go.RowKit
set_option linter.unusedVariables false

theorem zerosU_bv (n : Nat) : (zerosU n).map bv = List.replicate n (Value.int .u8 0) := by unfold zerosU; rw [List.map_replicate]; rfl
theorem zerosU_len (n : Nat) : (zerosU n).length = n := by unfold zerosU; exact List.length_replicate
theorem crash_step {X : FileT} {keep : List Bool} {tear cut : Int} {i m : Nat} {p : PcT} {f : List UInt8} {R : List UInt8} (hp : X.L[i]? = some p) (hl : p.l.length = p.n) (h : crashGo keep tear cut ((X.L.drop i).map (·.l)) i m f = R) :
    (survN p.l i keep tear cut = 0 → crashGo keep tear cut ((X.L.drop (i + 1)).map (·.l)) (i + 1) (m + p.n) f = R) ∧
    (0 < survN p.l i keep tear cut → crashGo keep tear cut ((X.L.drop (i + 1)).map (·.l)) (i + 1) (m + p.n) (f ++ zerosU (m - f.length) ++ p.l.take (survN p.l i keep tear cut)) = R) := by
  obtain ⟨hj, he⟩ := List.getElem?_eq_some_iff.1 hp
  rw [List.drop_eq_getElem_cons hj, he, List.map_cons] at h
  unfold crashGo at h
  rw [hl] at h
  exact ⟨fun h0 => by rw [if_neg (by omega)] at h; exact h, fun h0 => by rw [if_pos h0] at h; exact h⟩
set_option maxRecDepth 100000 in
set_option maxHeartbeats 4000000 in
theorem crashF_any (X : FileT) (k : BoT) (tear cut : Int) (B : Nat) (w : World) (hL : LieF w B X) (hk : k.Ok w B) (hB : B ≤ w.heap.size) (hr : X.right = true) :
    Calls Tryd.prog 28 #[X.agg, .slice k.A k.n k.c, .int .i64 tear, .int .i64 cut] w (OpP X (fun _ => True) (X.s.crash k.l tear cut, 0) w) := by
  obtain ⟨out, ho⟩ : ∃ out, X.s.crash k.l tear cut = out := ⟨_, rfl⟩
  have HO2 := Lib.hid ho
  rw [ho]
  clear ho
  have hb1 := bel_alloc (bel_alloc (Below.refl w.heap.size w) (.cells #[.slice X.F.A X.F.n X.F.c, .slice X.lA X.ln X.lc, .int .i64 X.fuse, .int .i64 X.fault, .bool X.off] 37)) (.cells #[.slice none 0 0, .slice none 0 0, .int .i64 0, .int .i64 0, .bool false] 37)
  have HX := (FBox.new w X 37).later (bel_alloc (Below.refl _ _) (.cells #[.slice none 0 0, .slice none 0 0, .int .i64 0, .int .i64 0, .bool false] 37))
  obtain ⟨hN, hl, hln⟩ := right_rows hL hr
  have hch := checkF_any X B _ (hL.later (hb1.mono hB)) (Nat.le_trans hB hb1.size) hN
  rw [if_pos hr] at hch
  have HV := FVar.new (w.alloc (.cells #[.slice X.F.A X.F.n X.F.c, .slice X.lA X.ln X.lc, .int .i64 X.fuse, .int .i64 X.fault, .bool X.off] 37)) (.slice none 0 0) (.slice none 0 0) (.int .i64 0) (.int .i64 0) (.bool false) 37
  simp only [FileT.agg, PcT.val] at hch ⊢
  have HX' := Lib.hid HX
  obtain ⟨f0, f1, f2, f3, f4⟩ := HX
  have hsz : ((w.alloc (.cells #[.slice X.F.A X.F.n X.F.c, .slice X.lA X.ln X.lc, .int .i64 X.fuse, .int .i64 X.fault, .bool X.off] 37)).alloc (.cells #[.slice none 0 0, .slice none 0 0, .int .i64 0, .int .i64 0, .bool false] 37)).heap.size = w.heap.size + 2 := by simp
  rw [World.size_alloc] at HV
  go_enter Tryd.func28, Tryd.ntmps28
  go_wp2_with fail
  generalize (w.alloc (.cells #[.slice X.F.A X.F.n X.F.c, .slice X.lA X.ln X.lc, .int .i64 X.fuse, .int .i64 X.fault, .bool X.off] 37)).alloc (.cells #[.slice none 0 0, .slice none 0 0, .int .i64 0, .int .i64 0, .bool false] 37) = W1 at *
  refine hch.mono ?_
  rintro e W2 ⟨rfl, hb2⟩
  have hb3 := bel_next hb1 hb2
  have HV2 := Lib.hid (HV.later hb2)
  have hbox := HX'.out.later hb2
  have hs2 := hb2.size
  have hs3 := hb3.size
  have hww : w.heap.size + 2 ≤ W2.heap.size := by omega
  have HL := Lib.hid hL
  have Hk := Lib.hid hk
  have HN := Lib.hid hN
  have Hr := Lib.hid hr
  have x0 : ∀ W, Below W2.heap.size W2 W → W.cell? ⟨w.heap.size, 0, none⟩ = some (.slice X.F.A X.F.n X.F.c) := fun W hb => (hbox.later hb).1
  have x1 : ∀ W, Below W2.heap.size W2 W → W.cell? ⟨w.heap.size, 1, none⟩ = some (.slice X.lA X.ln X.lc) := fun W hb => (hbox.later hb).2.1
  have x2 : ∀ W, Below W2.heap.size W2 W → W.cell? ⟨w.heap.size, 2, none⟩ = some (.int .i64 X.fuse) := fun W hb => (hbox.later hb).2.2.1
  have x3 : ∀ W, Below W2.heap.size W2 W → W.cell? ⟨w.heap.size, 3, none⟩ = some (.int .i64 X.fault) := fun W hb => (hbox.later hb).2.2.2.1
  have x4 : ∀ W, Below W2.heap.size W2 W → W.cell? ⟨w.heap.size, 4, none⟩ = some (.bool X.off) := fun W hb => (hbox.later hb).2.2.2.2
  have Hcl := Lib.hid (fun W (h : Below W2.heap.size W2 W) => clone_any X.F.A X.F.n X.F.c X.F.l B W ((hL.later ((bel_next hb3 h).mono hB)).firm.here) hL.firm.nil (Nat.le_trans hB (bel_next hb3 h).size) (by have := hN X.F (List.mem_cons_self ..); omega))
  clear hch hb1 hb2 f0 f1 f2 f3 f4 HV HX' hsz hs2 hL hk hN hr
  go_upto_region 3 with fail
  refine wp_region_held_drew (S := fun W => Below W2.heap.size W2 W) (by kernel_rfl) (below_drewN (Below.refl _ _) 1) (fun hHeld => ?_)
  refine rg_in 0 rfl (by kernel_rfl) (by kernel_rfl) (by kernel_rfl) (by rfl) (v := ?_) (fun _ _ _ h => h) hHeld (fun w hSw => ?_) ?_
  rotate_left
  · (try dsimp only at hSw); go_simp <;> (with_reducible rfl)
  (try simp only [Act.put, List.setIfInBounds_toArray, List.set_cons_zero, List.set_cons_succ])
  refine rg_in 1 rfl (by kernel_rfl) (by kernel_rfl) (by kernel_rfl) (by rfl) (v := ?_) (fun _ _ _ h => h) hHeld (fun w hSw => ?_) ?_
  rotate_left
  · (try dsimp only at hSw); go_simp <;> (with_reducible rfl)
  (try simp only [Act.put, List.setIfInBounds_toArray, List.set_cons_zero, List.set_cons_succ])
  refine rg_in 3 rfl (by kernel_rfl) (by kernel_rfl) (by kernel_rfl) (by rfl) (v := ?_) (fun _ _ _ h => h) hHeld (fun w hSw => ?_) ?_
  rotate_left
  · (try dsimp only at hSw); go_simp <;> (with_reducible rfl)
  (try simp only [Act.put, List.setIfInBounds_toArray, List.set_cons_zero, List.set_cons_succ])
  refine rg_in 4 rfl (by kernel_rfl) (by kernel_rfl) (by kernel_rfl) (by rfl) (v := ?_) (fun _ _ _ h => h) hHeld (fun w hSw => ?_) ?_
  rotate_left
  · (try dsimp only at hSw); go_simp <;> (with_reducible rfl)
  (try simp only [Act.put, List.setIfInBounds_toArray, List.set_cons_zero, List.set_cons_succ])
  refine rg_in 5 rfl (by kernel_rfl) (by kernel_rfl) (by kernel_rfl) (by rfl) (v := ?_) (fun _ _ _ h => h) hHeld (fun w hSw => ?_) ?_
  rotate_left
  · (try dsimp only at hSw); go_simp <;> (with_reducible rfl)
  (try simp only [Act.put, List.setIfInBounds_toArray, List.set_cons_zero, List.set_cons_succ])
  refine rg_do 2 rfl (by kernel_rfl) (by rfl) (fun K hK => ?_)
  go_simp
  (go_at_call 22; (with_reducible refine (Hcl.out _ hHeld).mono ?_); (rintro e w102 ⟨A3, n3, c3, rfl, hown3, hb2⟩))
  refine hK.out _ _ (S_call hb2 hHeld rfl) (fun hHeld => ?_)
  clear hK K
  (try simp only [Act.put, List.setIfInBounds_toArray, List.set_cons_zero, List.set_cons_succ])
  refine rg_in 6 rfl (by kernel_rfl) (by kernel_rfl) (by kernel_rfl) (by rfl) (v := ?_) (fun _ _ _ h => h) hHeld (fun w hSw => ?_) ?_
  rotate_left
  · (try dsimp only at hSw); go_simp <;> (with_reducible rfl)
  (try simp only [Act.put, List.setIfInBounds_toArray, List.set_cons_zero, List.set_cons_succ])
  refine rg_in 7 rfl (by kernel_rfl) (by kernel_rfl) (by kernel_rfl) (by rfl) (v := ?_) (fun _ _ _ h => h) hHeld (fun w hSw => ?_) ?_
  rotate_left
  · (try dsimp only at hSw); go_simp <;> (with_reducible rfl)
  (try simp only [Act.put, List.setIfInBounds_toArray, List.set_cons_zero, List.set_cons_succ])
  refine wpAnyH_done (by kernel_rfl) ?_ _
  have hbc := hHeld
  have HO3 := Lib.hid hown3
  clear hown3 hHeld x0 x1 x2 x3 x4
  have f0 := (hbox.later hbc).1
  have f1 := (hbox.later hbc).2.1
  have hFn := HL.out.firm.here.len
  obtain ⟨A3', c3', e3, hc3⟩ : ∃ A c, Value.slice A3 n3 c3 = .slice A n3 c ∧ n3 = X.F.l.length := ⟨_, _, rfl, by have := HO3.out.1; simp at this; omega⟩
  obtain rfl : n3 = X.F.n := by rw [hc3, hFn]
  have HOw := Lib.hid (own_base HO3.out (show W2.heap.size ≤ W2.drew.heap.size from Nat.le_refl _))
  have hV3 := Lib.hid (HV2.out.later hbc)
  obtain ⟨hlong, hmax⟩ := right_all HL.out Hr.out
  have hsum : X.all.length = X.F.n + sumN X.L := by unfold FileT.all; rw [List.length_append, hFn, sumN_len HL.out.loose]
  have Hsum := Lib.hid (show X.F.n + sumN X.L ≤ 524288 by omega)
  have hF5 : X.F.n ≤ 524288 := by omega
  have HlL := Lib.hid HL.out.len
  have HG0 := Lib.hid (show crashGo k.l tear cut ((X.L.drop 0).map (·.l)) 0 X.F.n X.F.l = crashGo k.l tear cut X.s.loose 0 X.s.firm.length X.s.firm by rw [← hFn]; rfl)
  have hmk : ∀ (z : Nat) (hz : z ≤ 524288) W, (Instr.makeSlice 34 (.int .i64 (z : Int)) (.int .i64 (z : Int))).run Tryd.prog W = .ok (.slice (some ⟨W.heap.size, 0, none⟩) z z) (W.alloc (.cells (madeCells #[.int .u8 0] z) 5)) := by
    intro z hz W
    obtain ⟨i0, hi, hz0, hz1, hz2⟩ := u8_info
    have h := run_make_one (P := Tryd.prog) (t := 34) (e := 5) Tryd.underlying34 hi hz0 rfl hz1 .i64 .i64 (z : Int) (z : Int) (by omega) (by omega) (by rw [hz2]; omega) (by omega) W
    simpa using h
  have Hmk := Lib.hid hmk
  clear hbox Hcl HO3 e3 hc3 hFn hlong hmax hsum hmk
  obtain ⟨lA, hlA⟩ : ∃ lA, X.lA = lA := ⟨_, rfl⟩
  rw [hlA] at f1
  have HA := Lib.hid hlA
  clear hlA
  have hln9 : X.ln ≤ 9223372036854775807 := by omega
  go_wp2_with fail
  go_loopw [10, 11, 29] (fun fv av iv wr => ∃ (i j m : Nat) (A : Option Addr) (c : Nat) (f : List UInt8), i ≤ X.ln ∧ iv = .int .i64 i ∧ av = .int .i64 m ∧ fv = .slice A j c ∧ Hid (m = X.F.n + sumN (X.L.take i)) ∧ Hid (wr.ownsRow W2.heap.size 5 1 (.slice A j c) j (f.map bv)) ∧ Hid (crashGo k.l tear cut ((X.L.drop i).map (·.l)) i m f = crashGo k.l tear cut X.s.loose 0 X.s.firm.length X.s.firm) ∧ j ≤ m ∧ m ≤ 524288 ∧ Below W2.heap.size W2 wr) (fun _ _ iv _ => X.ln - (intOf iv).toNat)
  case atStart => exact ⟨0, X.F.n, X.F.n, A3, c3, X.F.l, Nat.zero_le _, rfl, rfl, rfl, Lib.hid (by simp [sumN]), HOw, HG0, Nat.le_refl _, hF5, hbc⟩
  case round =>
    obtain ⟨i, j, m, A, c, f, hi, rfl, rfl, rfl, HM, HO, HG, hjm, hm5, hbr⟩ := hrel
    rename World => wr
    clear HG0 HOw
    have hbw := hb3.trans (hbr.mono hs3)
    by_cases hlt : i < X.ln
    · have hLr := HL.out.later (hbw.mono hB)
      obtain ⟨b, off, p, hAp, _, hp, hc⟩ := pc_at hLr.row hlt
      obtain rfl : lA = some ⟨b, off, none⟩ := HA.out.symm.trans hAp
      have hpo := hLr.loose p (List.mem_of_getElem? hp)
      have hsv := surv_any p i B k tear cut wr hpo.len (Hk.out.later (hbw.mono hB))
      have hlt' : (i : Int) < X.ln := by omega
      have hi0 : (0 : Int) ≤ (i : Int) := by omega
      have hsn := survN_le p.l i k.l tear cut
      rw [hpo.len] at hsn
      obtain ⟨HG1, HG2⟩ := crash_step hp hpo.len HG.out
      have hst := sumN_take X.L (i + 1)
      have htk : sumN (X.L.take (i + 1)) = sumN (X.L.take i) + p.n := by unfold sumN; rw [List.take_add_one, hp]; simp
      have HM2 := Lib.hid (show m + p.n = X.F.n + sumN (X.L.take (i + 1)) by rw [HM.out]; omega)
      have hmp : m + p.n ≤ 524288 := by rw [HM2.out]; have := Hsum.out; omega
      have hpc1 := hpo.fits
      have hpm := hpo.most
      unfold maxLen at hpm
      have hfl : f.length = j := by have := HO.out.1; simp at this; omega
      rw [hfl] at HG2
      generalize hsd : survN p.l i k.l tear cut = s at *
      have e3 : IntKind.i64.wrap ((m : Int) + (p.n : Int)) = ((m + p.n : Nat) : Int) := by rw [IntKind.wrap_i64]; omega
      have e4 : wrap64 ((m : Int) + (p.n : Int)) = ((m + p.n : Nat) : Int) := by unfold wrap64; omega
      have HE4 := Lib.hid e4
      have HE3 := Lib.hid e3
      have hpc := Lib.hid (fun W (h : Below W2.heap.size W2 W) => ((HL.out.later ((hb3.trans (h.mono hs3)).mono hB)).loose p (List.mem_of_getElem? hp)).here.first hsn)
      clear hAp hp hst htk HM HG e3 e4 hsd hfl hLr hpo
      by_cases hs0 : s = 0
      · have HGn := Lib.hid (HG1 hs0)
        subst hs0
        clear HG1 HG2 hpc
        go_wp2_with fail
        refine hsv.mono ?_
        rintro e W4 ⟨rfl, rfl⟩
        clear hsv
        go_wp2
        all_goals
          go_roundw
          case rel => exact ⟨i + 1, j, m + p.n, A, c, f, by omega, by go_num, by go_num, rfl, HM2, HO, HGn, by omega, hmp, hbr⟩
          case measure => simp [intOf]; omega
      · have HGn := Lib.hid (HG2 (by omega))
        have hs1 : 0 < s := by omega
        have hs2 : (0 : Int) ≤ (s : Int) := by omega
        have hs4 : (s : Int) ≤ (p.c : Int) := by omega
        have e1 : IntKind.i64.wrap ((m : Int) - (j : Int)) = ((m - j : Nat) : Int) := by rw [IntKind.wrap_i64]; omega
        have e2 : wrap64 ((m : Int) - (j : Int)) = ((m - j : Nat) : Int) := by unfold wrap64; omega
        have hmk' := Hmk.out (m - j) (by omega)
        have hbs' := hbr.size
        have hj1 : j + (m - j) ≤ 600000 := by omega
        have hj2 : j + (m - j) + s ≤ 1600000 := by omega
        have hj3 : m + s ≤ m + p.n := by omega
        have HJM := Lib.hid (show j + (m - j) = m by omega)
        clear HG1 HG2 hs0
        go_wp2_with fail
        refine hsv.mono ?_
        rintro e W4 ⟨rfl, rfl⟩
        clear hsv
        have hgap0 := Shows.own (own_zeros (base := wr.heap.size) (e := 5) wr (.int .u8 0) (m - j) (m - j) (Nat.le_refl _) (Nat.le_refl _) (by unfold maxLen; omega))
        rw [← zerosU_bv] at hgap0
        have hown7 := HO.out.alloc (.cells (madeCells #[.int .u8 0] (m - j)) 5)
        have hbr7 : Below W2.heap.size W2 (wr.alloc (.cells (madeCells #[.int .u8 0] (m - j)) 5)) := hbr.alloc hbs' _
        go_upto_region 10 with fail
        generalize wr.alloc (.cells (madeCells #[.int .u8 0] (m - j)) 5) = W7 at *
        have hown8 : W7.drew.ownsRow W2.heap.size 5 1 (.slice A j c) j (f.map bv) := hown7
        have hgap : Shows W7.drew W7.heap.size 1 (some ⟨wr.heap.size, 0, none⟩) (m - j) ((zerosU (m - j)).map bv) := hgap0
        have hbr8 : Below W2.heap.size W2 W7.drew := below_drewN hbr7 1
        obtain ⟨i0, hi, hz0, hz1, hz2⟩ := u8_info
        have h63 : j + (m - j) ≤ maxLen := by clear e1 e2; unfold maxLen; omega
        have hbt : (j + (m - j)) * 1 ≤ 140737488355328 := by clear e1 e2; omega
        have h63' : j + (m - j) + s ≤ maxLen := by clear e1 e2; unfold maxLen; omega
        have hbt' : (j + (m - j) + s) * 1 ≤ 140737488355328 := by clear e1 e2; omega
        have hbs := hbr8.size
        clear hown7 hgap0 hmk' HO hbr hbr7
        refine wp_region_held_drew (S := fun _ => True) (by kernel_rfl) trivial (fun hHeld => ?_)
        refine rg_in 0 rfl (by kernel_rfl) (by kernel_rfl) (by kernel_rfl) (by rfl) (v := ?_) (fun _ _ _ h => h) hHeld (fun w hSw => ?_) ?_
        rotate_left
        · (try dsimp only at hSw); go_simp <;> (with_reducible rfl)
        (try simp only [Act.put, List.setIfInBounds_toArray, List.set_cons_zero, List.set_cons_succ])
        refine rg_in 1 rfl (by kernel_rfl) (by kernel_rfl) (by kernel_rfl) (by rfl) (v := ?_) (fun _ _ _ h => h) hHeld (fun w hSw => ?_) ?_
        rotate_left
        · (try dsimp only at hSw); go_simp <;> (with_reducible rfl)
        (try simp only [Act.put, List.setIfInBounds_toArray, List.set_cons_zero, List.set_cons_succ])
        refine rg_in 3 rfl (by kernel_rfl) (by kernel_rfl) (by kernel_rfl) (by rfl) (v := ?_) (fun _ _ _ h => h) hHeld (fun w hSw => ?_) ?_
        rotate_left
        · (try dsimp only at hSw); go_simp <;> (with_reducible rfl)
        (try simp only [Act.put, List.setIfInBounds_toArray, List.set_cons_zero, List.set_cons_succ])
        refine rg_in 4 rfl (by kernel_rfl) (by kernel_rfl) (by kernel_rfl) (by rfl) (v := ?_) (fun _ _ _ h => h) hHeld (fun w hSw => ?_) ?_
        rotate_left
        · (try dsimp only at hSw); go_simp <;> (with_reducible rfl)
        (try simp only [Act.put, List.setIfInBounds_toArray, List.set_cons_zero, List.set_cons_succ])
        refine rg_in 5 rfl (by kernel_rfl) (by kernel_rfl) (by kernel_rfl) (by rfl) (v := ?_) (fun _ _ _ h => h) hHeld (fun w hSw => ?_) ?_
        rotate_left
        · (try dsimp only at hSw); go_simp <;> (with_reducible rfl)
        (try simp only [Act.put, List.setIfInBounds_toArray, List.set_cons_zero, List.set_cons_succ])
        refine rg_do 2 rfl (by kernel_rfl) (by rfl) (fun K hK => ?_)
        refine wp_append_shows _ _ _ 34 rfl W2.heap.size 5 i0 (.int .u8 0) 1 1 Tryd.underlying34 hi hz0 hz1 hz2 rfl (by decide) _ _ _ rfl hown8 _ _ (m - j) _ ((zerosU (m - j)).map bv) rfl hgap (bv_one _) h63 hbt hbs ?_
        intro A102 c102 w102 own102 hgr102 hbel102
        refine hK.out _ _ trivial (fun hHeld => ?_)
        clear hK K
        (try simp only [Act.put, List.setIfInBounds_toArray, List.set_cons_zero, List.set_cons_succ])
        refine rg_do 6 rfl (by kernel_rfl) (by rfl) (fun K hK => ?_)
        refine wp_append_shows _ _ _ 34 rfl W2.heap.size 5 i0 (.int .u8 0) 1 1 Tryd.underlying34 hi hz0 hz1 hz2 rfl (by decide) _ _ _ rfl own102 B _ s _ ((p.l.take s).map bv) rfl (hpc.out _ (hbr8.trans hbel102)) (bv_one _) h63' hbt' (Nat.le_trans hbs hbel102.size) ?_
        intro A106 c106 w106 own106 hgr106 hbel106
        refine hK.out _ _ trivial (fun hHeld => ?_)
        clear hK K
        (try simp only [Act.put, List.setIfInBounds_toArray, List.set_cons_zero, List.set_cons_succ])
        refine rg_in 7 rfl (by kernel_rfl) (by kernel_rfl) (by kernel_rfl) (by rfl) (v := ?_) (fun _ _ _ h => h) hHeld (fun w hSw => ?_) ?_
        rotate_left
        · (try dsimp only at hSw); go_simp <;> (with_reducible rfl)
        (try simp only [Act.put, List.setIfInBounds_toArray, List.set_cons_zero, List.set_cons_succ])
        refine wpAnyH_done (by kernel_rfl) ?_ _
        have HO9 := Lib.hid own106
        have hb9 := (hbr8.trans hbel102).trans hbel106
        clear own102 own106 hgr102 hgr106 hbel102 hbel106 hHeld hgap hown8
        go_wp2
        go_roundw
        case rel => exact ⟨i + 1, m + s, m + p.n, _, _, f ++ zerosU (m - j) ++ p.l.take s, by omega, by go_num, by go_num, rfl, HM2, Lib.hid (by rw [List.map_append, List.map_append]; have h := HO9.out; rw [HJM.out] at h; exact h), HGn, hj3, hmp, hb9⟩
        case measure => simp [intOf]; omega
    · obtain rfl : i = X.ln := by omega
      have HR := Lib.hid (show f = crashGo k.l tear cut X.s.loose 0 X.s.firm.length X.s.firm by
        have h := HG.out
        rw [List.drop_eq_nil_of_le (by rw [HlL.out]; exact Nat.le_refl _)] at h
        exact h)
      have hfr := fun W => fresh_any A j c W
      clear HM HG hlt
      go_wp2_with fail
      refine (hfr _).mono ?_
      rintro e W4 ⟨rfl, hb5⟩
      clear hfr
      have hb6 := bel_next hbw hb5
      obtain ⟨⟨j0, j1, j2, j3, j4⟩, k0, k1, k2, k3, k4⟩ := (HV2.out.later hbr).later hb5
      have hown4 := own_later HO.out hb5
      obtain ⟨o1, o2, o3⟩ := own_facts hown4
      have hpo : PcT.Ok W4 W4.heap.size ⟨A, j, c, f⟩ := ⟨Bytes.own hown4, o1, o2, o3⟩
      have haw : ∀ g, g < w.heap.size + 2 → AwayP ⟨A, j, c, f⟩ g := fun g hg => own_away hown4 (by omega)
      have hbe := fbelow_set5 (a := .slice A j c) (b := .slice none 0 0) (c := .int .i64 (-1)) (d := .int .i64 (-1)) (e := .bool false) hb6 (show w.heap.size ≤ w.heap.size + 1 by omega)
      have hpo2 := hpo.setAway5 (haw (w.heap.size + 1) (by omega)) (.slice A j c) (.slice none 0 0) (.int .i64 (-1)) (.int .i64 (-1)) (.bool false)
      rw [← size_set5 W4 (w.heap.size + 1) (.slice A j c) (.slice none 0 0) (.int .i64 (-1)) (.int .i64 (-1)) (.bool false)] at hpo2
      have HLe := Lib.hid (lie_syn (u := -1) (v := -1) (b := false) hpo2 (by decide) (by decide))
      have HAw := Lib.hid (show ∀ g, g < w.heap.size → AwayF X g → True → AwayF ⟨⟨A, j, c, f⟩, none, 0, 0, [], -1, -1, false⟩ g from fun g hg h1 _ => ⟨haw g (by omega), fun _ _ h => (by cases h), fun q hq => (List.not_mem_nil hq).elim⟩)
      have HSe := Lib.hid (show (⟨f, [], -1, -1, false⟩ : FileS) = out by rw [← HO2.out, HR.out]; rfl)
      clear HL HA Hk HN Hr HO HR HV2 HO2 hb6 hb5 hbw hbr hown4 o1 o2 o3 hpo haw hpo2 f0 f1 hb3 hbc hV3
      go_wp2
      refine bodyPost_ret (v := .tuple #[.agg #[.slice A j c, .slice none 0 0, .int .i64 (-1), .int .i64 (-1), .bool false], .int .i64 0]) ?_ rfl ⟨⟨⟨A, j, c, f⟩, none, 0, 0, [], -1, -1, false⟩, rfl, HSe.out, HLe.out, hbe, HAw.out⟩
      simp [results, Tryd.results28, go_sem, *]
end Go.Proofs.YtlknmpnjhbdlhaaDoor
/-
  Layer 10: Light and Refuse.
-/
namespace Go.Proofs.YtlknmpnjhbdlhaaDoor
open Go.RowKit
set_option linter.unusedVariables false

theorem max_wf {n : Int} (h : (Lit.int .i64 n).wf = true) : (Lit.int .i64 (max n (-1))).wf = true := by
  have hb := wf_i64 h
  simp [Lit.wf, IntKind.min, IntKind.max, IntKind.bits, IntKind.signed]; omega
theorem FVar.lay {W : World} {g : Nat} {a b c d e : Value} (h : FVar W g a b c d e) (o : Obj) : FVar (W.alloc o) g a b c d e := h.later (bel_alloc (Below.refl _ _) o)
end Go.Proofs.YtlknmpnjhbdlhaaDoor
/-
  Layer 10: which deed it is; few of them; a deed done.
-/
namespace Go.Proofs.YtlknmpnjhbdlhaaDoor
open Go.RowKit
set_option linter.unusedVariables false

def whichN (k : Int) : Nat := ((IntKind.u64.wrap k).tmod 7).toNat
theorem which_is (k : Int) : wrap64 ((IntKind.u64.wrap k).tmod 7) = (whichN k : Nat) ∧ whichN k < 7 := by
  have h0 : 0 ≤ IntKind.u64.wrap k := by rw [IntKind.wrap_u64]; exact Int.emod_nonneg _ (by decide)
  have h1 := Int.tmod_nonneg 7 h0
  have h2 := Int.tmod_lt_of_pos (IntKind.u64.wrap k) (show (0 : Int) < 7 by decide)
  unfold whichN
  generalize (IntKind.u64.wrap k).tmod 7 = z at *
  refine ⟨?_, by omega⟩
  unfold wrap64
  omega
/-- What a deed comes to. -/
def doS (X : FileS) (long : Nat) (x : DeedT) : FileS × Int :=
  if whichN x.kind = 3 then X.sync long
  else if whichN x.kind = 4 then (if X.off = true then (X, 10) else (⟨X.firm, X.loose, max x.n (-1), X.fault, false⟩, 0))
  else if whichN x.kind = 5 then (if X.off = true then (X, 10) else (⟨X.firm, X.loose, X.fuse, max x.n (-1), false⟩, 0))
  else if whichN x.kind = 6 then (X.crash x.keep.l x.tear x.n, 0)
  else if x.bytes.n = 0 then (X, 2) else X.append long x.bytes.l
/-- A deed in a box of its own. -/
def DBox (W : World) (g : Nat) (x : DeedT) : Prop :=
  W.cell? ⟨g, 0, none⟩ = some (.int .i64 x.kind) ∧ W.cell? ⟨g, 1, none⟩ = some (.int .i64 x.n) ∧ W.cell? ⟨g, 2, none⟩ = some (.int .i64 x.tear) ∧ W.cell? ⟨g, 3, none⟩ = some (.slice x.bytes.A x.bytes.n x.bytes.c) ∧ W.cell? ⟨g, 4, none⟩ = some (.slice x.keep.A x.keep.n x.keep.c)
theorem DBox.later {W W' : World} {g : Nat} {x : DeedT} (h : DBox W g x) (hb : Below W.heap.size W W') : DBox W' g x :=
  ⟨kept_later hb h.1, kept_later hb h.2.1, kept_later hb h.2.2.1, kept_later hb h.2.2.2.1, kept_later hb h.2.2.2.2⟩
theorem DBox.new (w : World) (x : DeedT) (t : TypeId) : DBox (w.alloc (.cells #[.int .i64 x.kind, .int .i64 x.n, .int .i64 x.tear, .slice x.bytes.A x.bytes.n x.bytes.c, .slice x.keep.A x.keep.n x.keep.c] t)) w.heap.size x :=
  ⟨by simp [go_sem], by simp [go_sem], by simp [go_sem], by simp [go_sem], by simp [go_sem]⟩
end Go.Proofs.YtlknmpnjhbdlhaaDoor
/-
  Layer 10, plain: right files stay right, whatever is done; durable bytes stay. A file in a variable.
-/
namespace Go.Proofs.YtlknmpnjhbdlhaaDoor
open Go.RowKit
set_option linter.unusedVariables false

def FileS.right (S : FileS) : Bool := S.loose.all (fun l => !(l.length == 0)) && (decide (-1 ≤ S.fuse) && (decide (-1 ≤ S.fault) && ((!S.off || S.fuse == -1) && decide (S.all.length ≤ 524288))))
theorem rightS {S : FileS} : S.right = true ↔ (∀ l ∈ S.loose, l ≠ []) ∧ -1 ≤ S.fuse ∧ -1 ≤ S.fault ∧ (S.off = true → S.fuse = -1) ∧ S.all.length ≤ 524288 := by
  unfold FileS.right
  simp only [Bool.and_eq_true, decide_eq_true_eq, List.all_eq_true, Bool.or_eq_true, Bool.not_eq_true', beq_iff_eq, beq_eq_false_iff_ne]
  constructor
  · rintro ⟨h1, h2, h3, h4, h5⟩
    refine ⟨fun l hl e => h1 l hl (by rw [e]; rfl), h2, h3, fun ho => ?_, h5⟩
    rcases h4 with h4 | h4
    · rw [ho] at h4; cases h4
    · exact h4
  · rintro ⟨h1, h2, h3, h4, h5⟩
    refine ⟨fun l hl e => h1 l hl (List.eq_nil_of_length_eq_zero e), h2, h3, ?_, h5⟩
    cases ho : S.off
    · exact .inl rfl
    · exact .inr (h4 ho)
theorem right_s {w : World} {B : Nat} {X : FileT} (h : LieF w B X) : X.right = X.s.right := by
  have hall : X.s.all = X.all := all_s X
  have e : X.all.length = X.F.n + sumN X.L := by unfold FileT.all; rw [List.length_append, h.firm.len, sumN_len h.loose]
  obtain ⟨h1, h2⟩ := lenGo_is X.L X.F.n
  unfold FileT.right FileS.right
  rw [hall, show decide (X.long ≤ 524288) = decide (X.all.length ≤ 524288) from by
    apply decide_eq_decide.2
    unfold FileT.long
    by_cases hs : X.F.n + sumN X.L ≤ 524288
    · rw [h1 hs, e]
    · have := h2 (by omega); omega]
  congr 1
  show X.L.all (fun p => !(p.n == 0)) = (X.L.map (·.l)).all (fun l => !(l.length == 0))
  rw [List.all_map, Bool.eq_iff_iff, List.all_eq_true, List.all_eq_true]
  constructor
  · intro q p hp
    have := q p hp
    rw [← (h.loose p hp).len] at this
    exact this
  · intro q p hp
    have := q p hp
    rw [← (h.loose p hp).len]
    exact this
theorem long_s {w : World} {B : Nat} {X : FileT} (h : LieF w B X) (hr : X.right = true) : X.long = X.s.all.length := by rw [all_s]; exact (right_all h hr).1
theorem all_len (S : FileS) : S.all.length = S.firm.length + S.loose.flatten.length := by unfold FileS.all; exact List.length_append
theorem asked_right {S : FileS} (h : S.right = true) (more : Nat) : (S.asked S.all.length more).1.right = true := by
  obtain ⟨h1, h2, h3, h4, h5⟩ := rightS.1 h
  have h6 : (S.asked S.all.length more).1.all = S.all := by
    obtain ⟨e1, e2⟩ := asked_same S S.all.length more
    generalize S.asked S.all.length more = q at *
    unfold FileS.all
    rw [e1, e2]
  have h7 := asked_same S S.all.length more
  refine rightS.2 ⟨by rw [h7.2]; exact h1, ?_, ?_, ?_, by rw [h6]; exact h5⟩
  all_goals
    unfold FileS.asked
    split
    · assumption
    · split
      · assumption
      · split
        · first | assumption | exact Int.le_refl _
        · dsimp only
          split
          · first | exact Int.le_refl _ | (intro _; rfl) | (show -1 ≤ (if 0 < S.fault then S.fault - 1 else S.fault); split <;> omega)
          · first | (show -1 ≤ (if 0 < S.fault then S.fault - 1 else S.fault); split <;> omega) | (show -1 ≤ (if 0 < S.fuse then S.fuse - 1 else S.fuse); split <;> omega) | (intro ho; have := h4 ho; omega) | (intro ho; exact absurd ho (by assumption))
theorem asked_fits {S : FileS} {long more : Nat} (h : (S.asked long more).2 = 0) : long + more ≤ 524288 := by
  unfold FileS.asked at h
  split at h
  · cases h
  · split at h
    · cases h
    · omega
theorem append_right {S : FileS} (h : S.right = true) {b : List UInt8} (hb : b ≠ []) : (S.append S.all.length b).1.right = true := by
  have ha := asked_right h b.length
  unfold FileS.append
  split
  · rename_i h0
    obtain ⟨h1, h2, h3, h4, h5⟩ := rightS.1 ha
    have h7 := asked_same S S.all.length b.length
    have hf := asked_fits h0
    refine rightS.2 ⟨?_, h2, h3, h4, ?_⟩
    · intro l hl
      rcases List.mem_append.1 hl with hl | hl
      · rw [← h7.2] at hl; exact h1 l hl
      · obtain rfl := List.mem_singleton.1 hl
        exact hb
    · generalize S.asked S.all.length b.length = q at *
      rw [all_len] at hf
      show (q.1.firm ++ (S.loose ++ [b]).flatten).length ≤ 524288
      rw [h7.1, List.flatten_append, List.length_append, List.length_append]
      simp only [List.flatten_cons, List.flatten_nil, List.append_nil]
      omega
  · exact ha
theorem sync_right {S : FileS} (h : S.right = true) : (S.sync S.all.length).1.right = true := by
  have ha := asked_right h 0
  have h5' := (rightS.1 h).2.2.2.2
  unfold FileS.sync
  split
  · obtain ⟨h1, h2, h3, h4, h5⟩ := rightS.1 ha
    refine rightS.2 ⟨fun l hl => (List.not_mem_nil hl).elim, h2, h3, h4, ?_⟩
    show (S.all ++ ([] : List (List UInt8)).flatten).length ≤ 524288
    rw [List.flatten_nil, List.append_nil]
    exact h5'
  · exact ha
theorem crashGo_len (keep : List Bool) (tear cut : Int) : ∀ (L : List (List UInt8)) (i a : Nat) (f : List UInt8), f.length ≤ a → f <+: crashGo keep tear cut L i a f ∧ (crashGo keep tear cut L i a f).length ≤ a + L.flatten.length
  | [], i, a, f, h => by simp [crashGo]; exact h
  | l :: L, i, a, f, h => by
    have hs := survN_le l i keep tear cut
    unfold crashGo
    rw [List.flatten_cons, List.length_append]
    by_cases h0 : 0 < survN l i keep tear cut
    · rw [if_pos h0]
      have hl : (f ++ zerosU (a - f.length) ++ l.take (survN l i keep tear cut)).length ≤ a + l.length := by
        rw [List.length_append, List.length_append, zerosU_len, List.length_take]
        omega
      obtain ⟨h1, h2⟩ := crashGo_len keep tear cut L (i + 1) (a + l.length) _ hl
      refine ⟨?_, by omega⟩
      rw [List.append_assoc] at h1
      exact (List.prefix_append _ _).trans (by rw [List.append_assoc]; exact h1)
    · rw [if_neg h0]
      obtain ⟨h1, h2⟩ := crashGo_len keep tear cut L (i + 1) (a + l.length) f (by omega)
      exact ⟨h1, by omega⟩
theorem crash_right {S : FileS} (h : S.right = true) (keep : List Bool) (tear cut : Int) : (S.crash keep tear cut).right = true := by
  have h5 := (rightS.1 h).2.2.2.2
  rw [all_len] at h5
  refine rightS.2 ⟨fun l hl => (List.not_mem_nil hl).elim, Int.le_refl _, Int.le_refl _, fun h => (by cases h), ?_⟩
  show (crashGo keep tear cut S.loose 0 S.firm.length S.firm ++ ([] : List (List UInt8)).flatten).length ≤ 524288
  rw [List.flatten_nil, List.append_nil]
  have := (crashGo_len keep tear cut S.loose 0 S.firm.length S.firm (Nat.le_refl _)).2
  omega
theorem doS_right {S : FileS} (h : S.right = true) (x : DeedT) (hb : x.bytes.l.length = x.bytes.n) : (doS S S.all.length x).1.right = true := by
  obtain ⟨h1, h2, h3, h4, h5⟩ := rightS.1 h
  unfold doS
  split
  · exact sync_right h
  · split
    · split
      · exact h
      · exact rightS.2 ⟨h1, by show -1 ≤ max x.n (-1); omega, h3, fun h => (by cases h), h5⟩
    · split
      · split
        · exact h
        · exact rightS.2 ⟨h1, h2, by show -1 ≤ max x.n (-1); omega, fun h => (by cases h), h5⟩
      · split
        · exact crash_right h _ _ _
        · split
          · exact h
          · exact append_right h (fun e => by rw [e] at hb; simp at hb; omega)
theorem asked_errs (S : FileS) (long more : Nat) : (S.asked long more).2 = 0 ∨ (S.asked long more).2 = 8 ∨ (S.asked long more).2 = 9 ∨ (S.asked long more).2 = 10 := by
  unfold FileS.asked
  split
  · exact .inr (.inr (.inr rfl))
  · split
    · exact .inr (.inl rfl)
    · split
      · exact .inr (.inr (.inl rfl))
      · dsimp only
        split
        · exact .inr (.inr (.inr rfl))
        · exact .inl rfl
theorem n200 {k : Int} (h : (k == 200) = false) : k ≠ 200 := beq_eq_false_iff_ne.1 h
/-- Durable bytes stay; an operation is refused as an invalid argument only if it is an Append of nothing. -/
theorem doS_stays (S : FileS) (long : Nat) (x : DeedT) : S.firm <+: (doS S long x).1.firm ∧ ((doS S long x).2 ≠ 200) ∧ ((doS S long x).2 = 2 → whichN x.kind < 3 ∧ x.bytes.n = 0) := by
  have hq := (which_is x.kind).2
  have ha : ∀ more, S.firm <+: (S.asked long more).1.firm ∧ (S.asked long more).2 ≠ 200 ∧ (S.asked long more).2 ≠ 2 := fun more => by
    refine ⟨by rw [(asked_same S long more).1]; exact List.prefix_refl _, ?_, ?_⟩
    · rcases asked_errs S long more with h | h | h | h <;> rw [h] <;> decide
    · rcases asked_errs S long more with h | h | h | h <;> rw [h] <;> decide
  unfold doS
  split
  · unfold FileS.sync
    split
    · exact ⟨by show S.firm <+: S.all; unfold FileS.all; exact List.prefix_append _ _, n200 rfl, fun h => by cases h⟩
    · exact ⟨(ha 0).1, (ha 0).2.1, fun h => absurd h (ha 0).2.2⟩
  · split
    · split
      · exact ⟨List.prefix_refl _, n200 rfl, fun h => by cases h⟩
      · exact ⟨List.prefix_refl _, n200 rfl, fun h => by cases h⟩
    · split
      · split
        · exact ⟨List.prefix_refl _, n200 rfl, fun h => by cases h⟩
        · exact ⟨List.prefix_refl _, n200 rfl, fun h => by cases h⟩
      · split
        · exact ⟨(crashGo_len _ _ _ _ _ _ _ (Nat.le_refl _)).1, n200 rfl, fun h => by cases h⟩
        · split
          · exact ⟨List.prefix_refl _, n200 rfl, fun _ => ⟨by omega, by assumption⟩⟩
          · unfold FileS.append
            split
            · exact ⟨by rw [(asked_same S long _).1]; exact List.prefix_refl _, n200 rfl, fun h => by cases h⟩
            · exact ⟨(ha _).1, (ha _).2.1, fun h => absurd h (ha _).2.2⟩
/-- A file in a variable. -/
structure FAt (W : World) (g : Nat) (X : FileT) : Prop where
  v : FVar W g (.slice X.F.A X.F.n X.F.c) (.slice X.lA X.ln X.lc) (.int .i64 X.fuse) (.int .i64 X.fault) (.bool X.off)
  l : LieF W W.heap.size X
  a : AwayF X g
theorem FAt.new {w : World} {X : FileT} (h : LieF w w.heap.size X) (t : TypeId) : FAt (w.alloc (.cells #[.slice X.F.A X.F.n X.F.c, .slice X.lA X.ln X.lc, .int .i64 X.fuse, .int .i64 X.fault, .bool X.off] t)) w.heap.size X :=
  ⟨FVar.new _ _ _ _ _ _ _, (h.later ((Below.refl _ _).alloc (Nat.le_refl _) _)).more (by simp), h.away (Nat.le_refl _)⟩
theorem FAt.later {W W' : World} {g : Nat} {X : FileT} (h : FAt W g X) (hb : Below W.heap.size W W') : FAt W' g X := ⟨h.v.later hb, (h.l.later hb).more hb.size, h.a⟩
theorem FVar.set5 {W : World} {g : Nat} {a b c d e a' b' c' d' e' : Value} (h : FVar W g a b c d e) : FVar (set5F W g a' b' c' d' e') g a' b' c' d' e' :=
  ((((h.set0 a').set1 b').set2 c').set3 d').set4 e'
theorem FAt.set {W : World} {g : Nat} {a b c d e : Value} {Y : FileT} (h : FVar W g a b c d e) (hl : LieF W W.heap.size Y) (ha : AwayF Y g) :
    FAt (set5F W g (.slice Y.F.A Y.F.n Y.F.c) (.slice Y.lA Y.ln Y.lc) (.int .i64 Y.fuse) (.int .i64 Y.fault) (.bool Y.off)) g Y :=
  ⟨h.set5, lie_res hl ha, ha⟩
end Go.Proofs.YtlknmpnjhbdlhaaDoor
/-
  Strings: a list of bytes as a string; '[]byte' made a string. No program in sight.
-/
namespace Go.Proofs.YtlknmpnjhbdlhaaDoor
open Go.RowKit

/-- A list of bytes as a string. -/
def ofL (l : List UInt8) : ByteArray := ⟨l.toArray⟩
theorem ofL_toList (l : List UInt8) : (ofL l).data.toList = l := by simp [ofL]
theorem ofL_size (l : List UInt8) : (ofL l).size = l.length := by simp [ofL, ByteArray.size]
theorem ofL_of (s : ByteArray) : ofL s.data.toList = s := by
  cases s
  simp [ofL]
theorem ofL_inj {l m : List UInt8} (h : ofL l = ofL m) : l = m := by
  have := congrArg (fun s : ByteArray => s.data.toList) h
  simpa [ofL_toList] using this
theorem ofL_push (l : List UInt8) (c : UInt8) : (ofL l).push c = ofL (l ++ [c]) := by
  simp [ofL, ByteArray.push]
theorem foldl_push : ∀ (l r : List UInt8), (l.map fun c => (c.toNat : Int)).foldl (fun r n => r.push (UInt8.ofNat n.toNat)) (ofL r) = ofL (r ++ l)
  | [], r => by simp
  | c :: l, r => by
    simp only [List.map_cons, List.foldl_cons]
    rw [show UInt8.ofNat ((c.toNat : Int)).toNat = c by simp, ofL_push, foldl_push l]
    simp

theorem run_bytes_string {P : Program} {src dst e : TypeId} (hs : P.underlying src = some (.slice e)) (he : P.underlying e = some (.int .u8)) (hd : P.underlying dst = some .string)
    (w : World) (A : Option Addr) (n c B : Nat) (l : List UInt8) (h : Bytes w B A n l) : (convert src dst (.slice A n c)).run P w = .ok (.string (ofL l)) w := by
  rw [run_convert_bytes_string w src dst e A n c hs he hd]
  have hn := h.len
  rcases A with _ | a
  · have hz : l = [] := by
      rcases Nat.eq_zero_or_pos n with h0 | h0
      · exact List.eq_nil_of_length_eq_zero (by omega)
      · obtain ⟨_, _, e1, _⟩ := h.2 h0
        cases e1
    subst hz
    rfl
  · have hc : ∀ j v, (l.map bv)[j]? = some v → w.cell? (a.add j) = some v := by
      intro j v hj
      have h0 : 0 < n := by
        rcases Nat.eq_zero_or_pos n with h0 | h0
        · have : l = [] := List.eq_nil_of_length_eq_zero (by omega)
          subst this
          simp at hj
        · exact h0
      obtain ⟨b, off, e1, _, h2⟩ := h.2 h0
      injection e1 with e1
      subst e1
      rw [addr_add]
      exact h2 j v hj
    have hl := run_loadCells_list (P := P) (w := w) a (l.map bv) hc
    rw [List.length_map, hn] at hl
    have h2 := run_bytesToString (P := P) w a n c (l.map fun c => (c.toNat : Int)) (by rw [hl, List.map_map]; rfl)
    rw [h2]
    have h3 := foldl_push l []
    rw [show (ByteArray.empty) = ofL [] from rfl, h3]
    rfl
end Go.Proofs.YtlknmpnjhbdlhaaDoor
/-
  bytes.Equal, bytes.HasPrefix.
-/
namespace Go.Proofs.YtlknmpnjhbdlhaaDoor
open Go.RowKit

theorem bofL_beq (l m : List UInt8) : ((ofL l).toList == (ofL m).toList) = sameB l m := by
  unfold sameB
  rw [ByteArray.toList_eq, ByteArray.toList_eq, ofL_toList, ofL_toList, Bool.eq_iff_iff, beq_iff_eq, decide_eq_true_iff]
theorem prefix_yes {l1 l2 : List UInt8} {n1 n2 : Nat} (h1 : l1.length = n1) (h2 : l2.length = n2) (h : l2 <+: l1) : (decide (n2 ≤ n1) && sameB (l1.take n2) l2) = true := by
  have hl := h.length_le
  unfold sameB
  rw [decide_eq_true (by omega), decide_eq_true (by rw [← h2]; exact (List.prefix_iff_eq_take.1 h).symm)]
  rfl
end Go.Proofs.YtlknmpnjhbdlhaaDoor
/-
  Layer 10: operations whose outcome is known; does the layer do anything?
-/
namespace Go.Proofs.YtlknmpnjhbdlhaaDoor
open Go.RowKit
set_option linter.unusedVariables false

/-- What an operation that was done gives. -/
def OkP (X : FileT) (Z : Nat → Prop) (S : FileS) (w : World) (e : Ending) (w' : World) : Prop :=
  ∃ Y : FileT, e = .returned (.tuple #[Y.agg, .int .i64 0]) ∧ Y.s = S ∧ LieF w' w'.heap.size Y ∧ Below w.heap.size w w' ∧ (∀ g, g < w.heap.size → AwayF X g → Z g → AwayF Y g)
theorem ok_of {X : FileT} {Z : Nat → Prop} {S : FileS} {out : FileS × Int} {w : World} {e : Ending} {w' : World} (h : OpP X Z out w e w') (ho : out = (S, 0)) : OkP X Z S w e w' := by
  subst ho
  exact h
theorem appendS (X : FileT) (p : PcT) (S T : FileS) (w : World) (hL : LieF w w.heap.size X) (hp : p.Ok w w.heap.size) (hs : X.s = S) (hS : S.right = true) (ho : (if p.l.length = 0 then (S, 2) else S.append S.all.length p.l) = (T, 0)) :
    Calls Tryd.prog 38 #[X.agg, .slice p.A p.n p.c] w (OkP X (AwayP p) T w) := by
  have hr : X.right = true := by rw [right_s hL, hs]; exact hS
  refine (appendF_any X p _ w hL hp (Nat.le_refl _) hr).mono fun e w' h => ok_of h ?_
  rw [← ho, long_s hL hr, hs, ← hp.len]
theorem syncS (X : FileT) (S T : FileS) (w : World) (hL : LieF w w.heap.size X) (hs : X.s = S) (hS : S.right = true) (ho : S.sync S.all.length = (T, 0)) :
    Calls Tryd.prog 44 #[X.agg] w (OkP X (fun _ => True) T w) := by
  have hr : X.right = true := by rw [right_s hL, hs]; exact hS
  refine (syncF_any X _ w hL (Nat.le_refl _) hr).mono fun e w' h => ok_of h ?_
  rw [← ho, long_s hL hr, hs]
theorem crashS (X : FileT) (k : BoT) (tear cut : Int) (S : FileS) (w : World) (hL : LieF w w.heap.size X) (hk : k.Ok w w.heap.size) (hs : X.s = S) (hS : S.right = true) :
    Calls Tryd.prog 28 #[X.agg, .slice k.A k.n k.c, .int .i64 tear, .int .i64 cut] w (OkP X (fun _ => True) (S.crash k.l tear cut) w) := by
  have hr : X.right = true := by rw [right_s hL, hs]; exact hS
  refine (crashF_any X k tear cut _ w hL hk (Nat.le_refl _) hr).mono fun e w' h => ok_of h ?_
  rw [hs]
theorem all_of {X : FileT} {S : FileS} (hs : X.s = S) : X.all = S.all := by rw [← all_s, hs]
theorem readS (X : FileT) (a n : Nat) (S : FileS) (w : World) (hL : LieF w w.heap.size X) (hs : X.s = S) (hS : S.right = true) (h : a + n ≤ S.all.length) :
    Calls Tryd.prog 59 #[X.agg, .int .i64 a, .int .i64 n] w (ReadP X a n w) := by
  have hr : X.right = true := by rw [right_s hL, hs]; exact hS
  exact readF_ok X a n _ w hL (Nat.le_refl _) (right_rows hL hr).1 hr (by rw [long_s hL hr, hs]; exact h)
theorem lenS (X : FileT) (S : FileS) (w : World) (hL : LieF w w.heap.size X) (hs : X.s = S) (hS : S.right = true) :
    Calls Tryd.prog 27 #[X.agg] w fun e w' => e = .returned (.int .i64 (S.all.length : Nat)) ∧ Below w.heap.size w w' := by
  have hr : X.right = true := by rw [right_s hL, hs]; exact hS
  refine (lenF_any X _ w hL (Nat.le_refl _) (right_rows hL hr).1).mono ?_
  rintro e w' ⟨rfl, hb⟩
  exact ⟨by rw [if_pos hr, long_s hL hr, hs], hb⟩
theorem piece_new (w : World) (l : List UInt8) (C : Array Value) (hC : C.toList = l.map bv) : PcT.Ok (w.alloc (.cells C 5)) (w.alloc (.cells C 5)).heap.size ⟨some ⟨w.heap.size, 0, none⟩, l.length, l.length, l⟩ ∨ 9223372036854775807 < l.length := by
  by_cases h : l.length ≤ 9223372036854775807
  · refine .inl ⟨?_, fun h => (by cases h), Nat.le_refl _, by unfold maxLen; exact h⟩
    rw [World.size_alloc]
    exact bytes_new w l C _ _ hC
  · exact .inr (by omega)
theorem piece_at (w : World) (l : List UInt8) (C : Array Value) (hC : C.toList = l.map bv) (h : l.length ≤ 100) : PcT.Ok (w.alloc (.cells C 5)) (w.alloc (.cells C 5)).heap.size ⟨some ⟨w.heap.size, 0, none⟩, l.length, l.length, l⟩ := by
  rcases piece_new w l C hC with h1 | h1
  · exact h1
  · omega
theorem bools_at (w : World) (l : List Bool) (C : Array Value) (t : TypeId) (hC : C.toList = l.map Value.bool) (h : l.length ≤ 100) : BoT.Ok (w.alloc (.cells C t)) (w.alloc (.cells C t)).heap.size ⟨some ⟨w.heap.size, 0, none⟩, l.length, l.length, l⟩ := by
  refine ⟨⟨by simp, fun _ => ⟨w.heap.size, 0, rfl, by simp, fun j u hu => ?_⟩⟩, fun h => (by cases h), Nat.le_refl _, by unfold maxLen; show l.length ≤ _; omega⟩
  rw [Nat.zero_add, World.cell?_alloc_new]
  rw [← hC] at hu
  simpa using hu
def newF : FileT := ⟨⟨none, 0, 0, []⟩, none, 0, 0, [], -1, -1, false⟩
theorem newF_lies (w : World) : LieF w w.heap.size newF := lie_syn ⟨Bytes.zero _, fun _ => rfl, Nat.le_refl _, by unfold maxLen; exact Nat.zero_le _⟩ (by decide) (by decide)
def S1 : FileS := ⟨[], [[1, 2]], -1, -1, false⟩
def S2 : FileS := ⟨[1, 2], [], -1, -1, false⟩
def S3 : FileS := ⟨[1, 2], [[4]], -1, -1, false⟩
def S4 : FileS := ⟨[1, 2], [[4], [5, 6]], -1, -1, false⟩
def S5 : FileS := ⟨[1, 2, 0, 5, 6], [], -1, -1, false⟩
end Go.Proofs.YtlknmpnjhbdlhaaDoor
/-
  Layer 10: a deed of a row, cell by cell; deeds done to files that are right.
-/
namespace Go.Proofs.YtlknmpnjhbdlhaaDoor
open Go.RowKit
set_option linter.unusedVariables false

theorem deed_at {w : World} {B n : Nat} {A : Option Addr} {l : List DeedT} (h : Deeds w B A n l) {k : Nat} (hk : k < n) : ∃ b off x, A = some ⟨b, off, none⟩ ∧ b < B ∧ l[k]? = some x ∧
    w.cell? ⟨b, off + k * 5, none⟩ = some (.int .i64 x.kind) ∧ w.cell? ⟨b, off + k * 5 + 1, none⟩ = some (.int .i64 x.n) ∧ w.cell? ⟨b, off + k * 5 + 2, none⟩ = some (.int .i64 x.tear) ∧ w.cell? ⟨b, off + k * 5 + 3, none⟩ = some (.slice x.bytes.A x.bytes.n x.bytes.c) ∧ w.cell? ⟨b, off + k * 5 + 4, none⟩ = some (.slice x.keep.A x.keep.n x.keep.c) := by
  obtain ⟨b, off, rfl, hb, hc⟩ := h.2 (by omega)
  have hl : l.length = n := by have := h.1; rw [flat_len DeedT.cells 5 (fun _ => rfl)] at this; omega
  have hk' : k < l.length := by omega
  have hg := fun j hj => flat_get DeedT.cells 5 (fun _ => rfl) l k j hk' hj
  refine ⟨b, off, l[k], rfl, hb, List.getElem?_eq_getElem hk', ?_, ?_, ?_, ?_, ?_⟩
  · exact hc (k * 5 + 0) _ (hg 0 (by decide))
  · rw [Nat.add_assoc]; exact hc (k * 5 + 1) _ (hg 1 (by decide))
  · rw [Nat.add_assoc]; exact hc (k * 5 + 2) _ (hg 2 (by decide))
  · rw [Nat.add_assoc]; exact hc (k * 5 + 3) _ (hg 3 (by decide))
  · rw [Nat.add_assoc]; exact hc (k * 5 + 4) _ (hg 4 (by decide))
theorem doR {X Y : FileT} {x : DeedT} {w : World} {B N : Nat} (hx : x.Ok w B N) (hr : X.s.right = true) (hs : Y.s = (doS X.s X.s.all.length x).1) : Y.s.right = true := by
  rw [hs]; exact doS_right hr x hx.bytes.len
theorem checkR (X : FileT) (w : World) (hL : LieF w w.heap.size X) (hr : X.s.right = true) :
    Calls Tryd.prog 37 #[X.agg] w fun e w' => e = .returned (.int .i64 0) ∧ Below w.heap.size w w' := by
  have hr' : X.right = true := by rw [right_s hL]; exact hr
  refine (checkF_any X _ w hL (Nat.le_refl _) (right_rows hL hr').1).mono ?_
  rintro e w' ⟨rfl, hb⟩
  exact ⟨by rw [if_pos hr'], hb⟩
end Go.Proofs.YtlknmpnjhbdlhaaDoor
/-
  Layer 10: all that a file has.
-/
namespace Go.Proofs.YtlknmpnjhbdlhaaDoor
open Go.RowKit
set_option linter.unusedVariables false

/-- A row that came back. -/
def RowP (X : FileT) (l : List UInt8) (w : World) (e : Ending) (w' : World) : Prop :=
  ∃ p : PcT, e = .returned (.slice p.A p.n p.c) ∧ p.l = l ∧ p.Ok w' w'.heap.size ∧ Below w.heap.size w w' ∧ ∀ g, g < w.heap.size → AwayF X g → AwayP p g
end Go.Proofs.YtlknmpnjhbdlhaaDoor
/-
  Layer 10, plain: the counts of operations before the power is lost, and before one is refused.
-/
namespace Go.Proofs.YtlknmpnjhbdlhaaDoor
open Go.RowKit
set_option linter.unusedVariables false

/-- An operation: what is asked, and what is then done. -/
def opS (S : FileS) (long more : Nat) (f : FileS → FileS) : FileS × Int := if (S.asked long more).2 = 0 then (f (S.asked long more).1, 0) else S.asked long more
/-- An Append or a Sync. -/
theorem doS_op (x : DeedT) (h3 : whichN x.kind ≤ 3) (hb : whichN x.kind < 3 → x.bytes.n ≠ 0) (fi : List UInt8) (lo : List (List UInt8)) (long : Nat) :
    ∃ more fi' lo', ∀ u v b, doS ⟨fi, lo, u, v, b⟩ long x = opS ⟨fi, lo, u, v, b⟩ long more (fun r => ⟨fi', lo', r.fuse, r.fault, r.off⟩) := by
  by_cases h : whichN x.kind = 3
  · refine ⟨0, fi ++ lo.flatten, [], fun u v b => ?_⟩
    unfold doS
    rw [if_pos h]
    rfl
  · refine ⟨x.bytes.l.length, fi, lo ++ [x.bytes.l], fun u v b => ?_⟩
    unfold doS
    rw [if_neg h, if_neg (by omega), if_neg (by omega), if_neg (by omega), if_neg (hb (by omega))]
    have e := asked_same ⟨fi, lo, u, v, b⟩ long x.bytes.l.length
    unfold FileS.append opS
    split
    · refine Prod.ext ?_ rfl
      dsimp only
      rw [e.1]
    · rfl
theorem asked_plain (fi : List UInt8) (lo : List (List UInt8)) (long more : Nat) : FileS.asked ⟨fi, lo, -1, -1, false⟩ long more = if 524288 < long + more then (⟨fi, lo, -1, -1, false⟩, 8) else (⟨fi, lo, -1, -1, false⟩, 0) := by
  unfold FileS.asked
  rw [if_neg (by show ¬ false = true; decide)]
  split
  · rfl
  · rfl
theorem asked_fuse (fi : List UInt8) (lo : List (List UInt8)) (k long more : Nat) : FileS.asked ⟨fi, lo, (k : Nat), -1, false⟩ long more = if 524288 < long + more then (⟨fi, lo, (k : Nat), -1, false⟩, 8) else if k = 0 then (⟨fi, lo, -1, -1, true⟩, 10) else (⟨fi, lo, ((k - 1 : Nat) : Int), -1, false⟩, 0) := by
  unfold FileS.asked
  rw [if_neg (by show ¬ false = true; decide)]
  split
  · rfl
  · rw [if_neg (by show ¬ (-1 : Int) = 0; decide)]
    dsimp only
    by_cases h : k = 0
    · rw [if_pos (by omega), if_pos h]; rfl
    · rw [if_neg (by omega), if_neg h, if_pos (by omega : (0 : Int) < (k : Int)), show ((k : Nat) : Int) - 1 = ((k - 1 : Nat) : Int) by omega]; rfl
theorem asked_fault (fi : List UInt8) (lo : List (List UInt8)) (k long more : Nat) : FileS.asked ⟨fi, lo, -1, (k : Nat), false⟩ long more = if 524288 < long + more then (⟨fi, lo, -1, (k : Nat), false⟩, 8) else if k = 0 then (⟨fi, lo, -1, -1, false⟩, 9) else (⟨fi, lo, -1, ((k - 1 : Nat) : Int), false⟩, 0) := by
  unfold FileS.asked
  rw [if_neg (by show ¬ false = true; decide)]
  split
  · rfl
  · by_cases h : k = 0
    · rw [if_pos (by show ((k : Nat) : Int) = 0; omega), if_pos h]
    · rw [if_neg (by show ¬ ((k : Nat) : Int) = 0; omega), if_neg h]
      dsimp only
      rw [if_neg (by decide), if_pos (by omega : (0 : Int) < (k : Int)), show ((k : Nat) : Int) - 1 = ((k - 1 : Nat) : Int) by omega]
      rfl
theorem asked_off (fi : List UInt8) (lo : List (List UInt8)) (u v : Int) (long more : Nat) : (FileS.asked ⟨fi, lo, u, v, true⟩ long more).2 = 10 := by
  unfold FileS.asked
  rw [if_pos rfl]
/-- An operation on a file that neither count holds back, and on one that so many are left to. -/
theorem counts_step (fi : List UInt8) (lo : List (List UInt8)) (k long : Nat) (x : DeedT) (h3 : whichN x.kind ≤ 3) (hb : whichN x.kind < 3 → x.bytes.n ≠ 0) :
    ((doS ⟨fi, lo, -1, -1, false⟩ long x).2 = 8 ∧ (doS ⟨fi, lo, (k : Nat), -1, false⟩ long x).2 = 8) ∨
    ((doS ⟨fi, lo, -1, -1, false⟩ long x).2 = 0 ∧ k = 0 ∧ doS ⟨fi, lo, (k : Nat), -1, false⟩ long x = (⟨fi, lo, -1, -1, true⟩, 10) ∧ (doS ⟨fi, lo, -1, -1, true⟩ long x).2 = 10) ∨
    (0 < k ∧ ∃ fi' lo', doS ⟨fi, lo, -1, -1, false⟩ long x = (⟨fi', lo', -1, -1, false⟩, 0) ∧ doS ⟨fi, lo, (k : Nat), -1, false⟩ long x = (⟨fi', lo', ((k - 1 : Nat) : Int), -1, false⟩, 0)) := by
  obtain ⟨more, fi', lo', h⟩ := doS_op x h3 hb fi lo long
  rw [h, h, h]
  unfold opS
  rw [asked_plain, asked_fuse]
  by_cases hf : 524288 < long + more
  · exact .inl ⟨by simp [hf], by simp [hf]⟩
  · by_cases hk : k = 0
    · exact .inr (.inl ⟨by simp [hf], hk, by simp [hf, hk], by rw [if_neg (by rw [asked_off]; decide)]; exact asked_off _ _ _ _ _ _⟩)
    · exact .inr (.inr ⟨by omega, fi', lo', by simp [hf], by simp [hf, hk]⟩)
theorem refuses_step (fi : List UInt8) (lo : List (List UInt8)) (k long : Nat) (x : DeedT) (h3 : whichN x.kind ≤ 3) (hb : whichN x.kind < 3 → x.bytes.n ≠ 0) :
    ((doS ⟨fi, lo, -1, -1, false⟩ long x).2 = 8 ∧ (doS ⟨fi, lo, -1, (k : Nat), false⟩ long x).2 = 8) ∨
    ((doS ⟨fi, lo, -1, -1, false⟩ long x).2 = 0 ∧ k = 0 ∧ doS ⟨fi, lo, -1, (k : Nat), false⟩ long x = (⟨fi, lo, -1, -1, false⟩, 9)) ∨
    (0 < k ∧ ∃ fi' lo', doS ⟨fi, lo, -1, -1, false⟩ long x = (⟨fi', lo', -1, -1, false⟩, 0) ∧ doS ⟨fi, lo, -1, (k : Nat), false⟩ long x = (⟨fi', lo', -1, ((k - 1 : Nat) : Int), false⟩, 0)) := by
  obtain ⟨more, fi', lo', h⟩ := doS_op x h3 hb fi lo long
  rw [h, h]
  unfold opS
  rw [asked_plain, asked_fault]
  by_cases hf : 524288 < long + more
  · exact .inl ⟨by simp [hf], by simp [hf]⟩
  · by_cases hk : k = 0
    · exact .inr (.inl ⟨by simp [hf], hk, by simp [hf, hk]⟩)
    · exact .inr (.inr ⟨by omega, fi', lo', by simp [hf], by simp [hf, hk]⟩)
theorem plain_step (fi : List UInt8) (lo : List (List UInt8)) (long : Nat) (x : DeedT) (h3 : whichN x.kind ≤ 3) (hb : whichN x.kind < 3 → x.bytes.n ≠ 0) :
    (doS ⟨fi, lo, -1, -1, false⟩ long x).2 = 8 ∨ ∃ fi' lo', doS ⟨fi, lo, -1, -1, false⟩ long x = (⟨fi', lo', -1, -1, false⟩, 0) := by
  obtain ⟨more, fi', lo', h⟩ := doS_op x h3 hb fi lo long
  rw [h]
  unfold opS
  rw [asked_plain]
  by_cases hf : 524288 < long + more
  · exact .inl (by simp [hf])
  · exact .inr ⟨fi', lo', by simp [hf]⟩
theorem all_s5 (fi : List UInt8) (lo : List (List UInt8)) (u v : Int) (b : Bool) : FileS.all ⟨fi, lo, u, v, b⟩ = fi ++ lo.flatten := rfl
theorem right_u {fi : List UInt8} {lo : List (List UInt8)} (h : FileS.right ⟨fi, lo, -1, -1, false⟩ = true) {u v : Int} (hu : -1 ≤ u) (hv : -1 ≤ v) : FileS.right ⟨fi, lo, u, v, false⟩ = true := by
  obtain ⟨h1, _, _, _, h5⟩ := rightS.1 h
  exact rightS.2 ⟨h1, hu, hv, fun h => (by cases h), h5⟩
theorem right_o {fi : List UInt8} {lo : List (List UInt8)} (h : FileS.right ⟨fi, lo, -1, -1, false⟩ = true) : FileS.right ⟨fi, lo, -1, -1, true⟩ = true := by
  obtain ⟨h1, _, _, _, h5⟩ := rightS.1 h
  exact rightS.2 ⟨h1, Int.le_refl _, Int.le_refl _, fun _ => rfl, h5⟩
end Go.Proofs.YtlknmpnjhbdlhaaDoor
/-
  Layer 10: Same.
-/
namespace Go.Proofs.YtlknmpnjhbdlhaaDoor
open Go.RowKit
set_option linter.unusedVariables false

theorem same_no {l m : List UInt8} (h : ¬ l = m) : sameB l m = false := by unfold sameB; exact decide_eq_false h
theorem same_yes' {l m : List UInt8} (h : l = m) : sameB l m = true := by unfold sameB; exact decide_eq_true h
theorem take_map {L : List PcT} {k : Nat} {p : PcT} (h : L[k]? = some p) : (L.take (k + 1)).map (·.l) = (L.take k).map (·.l) ++ [p.l] := by
  rw [List.take_add_one, h]
  simp
/-- Are two files one? -/
def sameS (S T : FileS) : Bool := (S.fuse == T.fuse) && ((S.fault == T.fault) && ((S.off == T.off) && (sameB S.firm T.firm && decide (S.loose = T.loose))))
end Go.Proofs.YtlknmpnjhbdlhaaDoor
/-
  Layer 10, plain: what is left behind a loss of power, byte by byte.
-/
namespace Go.Proofs.YtlknmpnjhbdlhaaDoor
open Go.RowKit
set_option linter.unusedVariables false

/-- Noughts where nothing stayed, and never the last byte. -/
def GapZ (R : List UInt8) (lo hi : Nat) : Prop := ∀ q, lo ≤ q → q < hi → q < R.length → R[q]? = some 0 ∧ q ≠ R.length - 1
def ByteZ (R : List UInt8) (st : Bool) (q : Nat) (x : UInt8) : Prop :=
  (st = true → q < R.length ∧ R[q]? = some x) ∧ (st = false → q < R.length → R[q]? = some 0 ∧ q ≠ R.length - 1)
theorem crash_bytes (keep : List Bool) (tear cut : Int) : ∀ (L : List (List UInt8)) (i a : Nat) (f R : List UInt8), f.length ≤ a → crashGo keep tear cut L i a f = R →
    f <+: R ∧ GapZ R f.length a ∧ ∀ (j : Nat) (l : List UInt8), L[j]? = some l → ∀ (k : Nat) (x : UInt8), l[k]? = some x → ByteZ R (stayB (i + j) k keep tear cut) (a + (L.take j).flatten.length + k) x
  | [], i, a, f, R, hf, h => by
    have hR : f = R := h
    subst hR
    exact ⟨List.prefix_refl _, fun q h1 h2 h3 => absurd h3 (by omega), fun j l hl => by simp at hl⟩
  | l0 :: L, i, a, f, R, hf, h => by
    have hs := survN_le l0 i keep tear cut
    have hst := fun k hk => stay_iff l0 i k keep tear cut hk
    unfold crashGo at h
    generalize survN l0 i keep tear cut = s at *
    by_cases h0 : 0 < s
    · rw [if_pos h0] at h
      have hl : (f ++ zerosU (a - f.length) ++ l0.take s).length = a + s := by
        rw [List.length_append, List.length_append, zerosU_len, List.length_take]
        omega
      obtain ⟨p1, p2, p3⟩ := crash_bytes keep tear cut L (i + 1) (a + l0.length) _ R (by omega) h
      have hlen := p1.length_le
      rw [hl] at p2 hlen
      have hget : ∀ q, q < a + s → R[q]? = (f ++ zerosU (a - f.length) ++ l0.take s)[q]? := fun q hq => by
        obtain ⟨t, ht⟩ := p1
        rw [← ht, List.getElem?_append_left (by rw [hl]; exact hq)]
      refine ⟨(List.prefix_append f _).trans (by rw [← List.append_assoc]; exact p1), fun q h1 h2 h3 => ?_, ?_⟩
      · refine ⟨?_, by omega⟩
        rw [hget q (by omega), List.append_assoc, List.getElem?_append_right h1, List.getElem?_append_left (by rw [zerosU_len]; omega)]
        unfold zerosU
        rw [List.getElem?_replicate, if_pos (by omega)]
      · intro j l hj k x hk
        match j, hj with
        | 0, hj =>
          cases hj
          have hkl := (List.getElem?_eq_some_iff.1 hk).1
          rw [List.take_zero, List.flatten_nil, List.length_nil, Nat.add_zero, Nat.add_zero, hst k hkl]
          refine ⟨fun h => ?_, fun h h2 => ?_⟩
          · have hks : k < s := of_decide_eq_true h
            refine ⟨by omega, ?_⟩
            rw [hget _ (by omega), List.getElem?_append_right (by rw [List.length_append, zerosU_len]; omega), List.length_append, zerosU_len, show a + k - (f.length + (a - f.length)) = k by omega, List.getElem?_take, if_pos hks]
            exact hk
          · have hks : ¬ k < s := of_decide_eq_false h
            exact p2 (a + k) (by omega) (by omega) h2
        | j + 1, hj =>
          have := p3 j l hj k x hk
          rw [List.take_succ_cons, List.flatten_cons, List.length_append]
          rw [show i + 1 + j = i + (j + 1) by omega, show a + l0.length + (L.take j).flatten.length + k = a + (l0.length + (L.take j).flatten.length) + k by omega] at this
          exact this
    · rw [if_neg h0] at h
      obtain ⟨p1, p2, p3⟩ := crash_bytes keep tear cut L (i + 1) (a + l0.length) f R (by omega) h
      refine ⟨p1, fun q h1 h2 h3 => p2 q h1 (by omega) h3, ?_⟩
      intro j l hj k x hk
      match j, hj with
      | 0, hj =>
        cases hj
        have hkl := (List.getElem?_eq_some_iff.1 hk).1
        rw [List.take_zero, List.flatten_nil, List.length_nil, Nat.add_zero, Nat.add_zero, hst k hkl]
        refine ⟨fun h => absurd (of_decide_eq_true h) (by omega), fun h h2 => p2 (a + k) (by omega) (by omega) h2⟩
      | j + 1, hj =>
        have := p3 j l hj k x hk
        rw [List.take_succ_cons, List.flatten_cons, List.length_append]
        rw [show i + 1 + j = i + (j + 1) by omega, show a + l0.length + (L.take j).flatten.length + k = a + (l0.length + (L.take j).flatten.length) + k by omega] at this
        exact this
/-- A byte's place, and what becomes of it. -/
theorem crash_at {X : FileT} {w : World} {B : Nat} (hL : LieF w B X) {keep : List Bool} {tear cut : Int} {R : List UInt8} (hR : crashGo keep tear cut X.s.loose 0 X.s.firm.length X.s.firm = R) {i : Nat} {p : PcT} (hp : X.L[i]? = some p) {k : Nat} {x : UInt8} (hk : p.l[k]? = some x) :
    ByteZ R (stayB i k keep tear cut) (X.F.n + sumN (X.L.take i) + k) x := by
  have h := (crash_bytes keep tear cut X.s.loose 0 X.s.firm.length X.s.firm R (Nat.le_refl _) hR).2.2 i p.l (by show (X.L.map (·.l))[i]? = some p.l; rw [List.getElem?_map, hp]; rfl) k x hk
  have e : ((X.s.loose.take i).flatten).length = sumN (X.L.take i) := by
    show (((X.L.map (·.l)).take i).flatten).length = _
    rw [← List.map_take, ← sumN_len (w := w) (B := B) (fun q hq => hL.loose q (List.mem_of_mem_take hq))]
    rfl
  rw [Nat.zero_add, e, show X.s.firm.length = X.F.n from hL.firm.len] at h
  exact h
theorem plain_step2 (fi : List UInt8) (lo : List (List UInt8)) (long : Nat) (x : DeedT) (h3 : whichN x.kind ≤ 3) (hb : whichN x.kind < 3 → x.bytes.n ≠ 0) :
    doS ⟨fi, lo, -1, -1, false⟩ long x = (⟨fi, lo, -1, -1, false⟩, 8) ∨ ∃ fi' lo', doS ⟨fi, lo, -1, -1, false⟩ long x = (⟨fi', lo', -1, -1, false⟩, 0) := by
  obtain ⟨more, fi', lo', h⟩ := doS_op x h3 hb fi lo long
  rw [h]
  unfold opS
  rw [asked_plain]
  by_cases hf : 524288 < long + more
  · exact .inl (by simp [hf])
  · exact .inr ⟨fi', lo', by simp [hf]⟩
end Go.Proofs.YtlknmpnjhbdlhaaDoor
