/-
  Layer 4: wakes.
-/
import Derived.Test.YtnldiemggabdkaaDoorValY
namespace Go.Proofs.YtnldiemggabdkaaDoor
open Go.RowKit
set_option linter.unusedVariables false

theorem shows_new (W : World) (cs : Array Value) (t : TypeId) (g n size : Nat) (hg : W.heap.size = g) (hl : cs.toList.length = n * size) : Shows (W.alloc (.cells cs t)) (g + 1) size (some ⟨g, 0, none⟩) n cs.toList := by
  subst hg
  refine ⟨hl, fun _ => ⟨W.heap.size, 0, rfl, Nat.lt_succ_self _, fun i v hv => ?_⟩⟩
  rw [Nat.zero_add]
  exact (Box.new W cs t i v (by simpa using hv)).1
abbrev tAB (cA : Option Addr) (cc : Nat) (kA : Option Addr) (kc : Nat) : VT := .mk 6 0 ⟨#[]⟩ cA 2 cc kA 2 kc [⟨#[97]⟩, ⟨#[98]⟩] [scV 1 0 ⟨#[]⟩, scV 3 1 ⟨#[]⟩]
section
variable {cA : Option Addr} {cc : Nat} {kA : Option Addr} {kc : Nat}
theorem sc_cnt (k n : Int) (s : ByteArray) : (scV k n s).cnt = 1 := by unfold scV; rw [cnt_mk]; rfl
theorem sc_dep (k n : Int) (s : ByteArray) : (scV k n s).dep = hN (k == 5 || k == 6) := by unfold scV; rw [dep_mk]; rfl
theorem sc_all (k n : Int) (s : ByteArray) : (scV k n s).all = (scV k n s).fit := by unfold scV; rw [all_mk]; simp
theorem ab_dep : (tAB cA cc kA kc).dep = 1 := by rw [dep_mk]; simp [sc_dep, maxL, hN]
theorem ab_cnt : (tAB cA cc kA kc).cnt = 3 := by rw [cnt_mk]; simp [sc_cnt]
theorem ab_b : (tAB cA cc kA kc).get ⟨#[98]⟩ = some (scV 3 1 ⟨#[]⟩) := by
  show (if (6 : Int) = 6 then getK _ _ _ else none) = _
  rw [if_pos rfl]
  show getK [⟨#[97]⟩, ⟨#[98]⟩] [scV 1 0 ⟨#[]⟩, scV 3 1 ⟨#[]⟩] ⟨#[98]⟩ = _
  rw [getK, if_neg (by decide), getK, if_pos rfl]
theorem ab_c : (tAB cA cc kA kc).get ⟨#[99]⟩ = none := by
  show (if (6 : Int) = 6 then getK _ _ _ else none) = _
  rw [if_pos rfl]
  show getK [⟨#[97]⟩, ⟨#[98]⟩] [scV 1 0 ⟨#[]⟩, scV 3 1 ⟨#[]⟩] ⟨#[99]⟩ = _
  rw [getK, if_neg (by decide), getK, if_neg (by decide), getK]
  intro _ _ _ _ h; cases h
end
theorem sc_ok (k n : Int) (s : ByteArray) (hk : (k == 5 || k == 6) = false) (hf : (scV k n s).fit = true) : (scV k n s).ok = true := by
  unfold VT.ok
  rw [sc_dep, sc_cnt, sc_all, hf, hk]
  rfl
theorem e_ok : (scV 4 0 ⟨#[195, 169]⟩).ok = true := by
  refine sc_ok _ _ _ (by decide) ?_
  unfold scV
  rw [fit_mk]
  simp only [Bool.and_eq_true]
  refine ⟨by decide, by decide, ?_, by decide, by decide⟩
  unfold strB strQ
  rw [valid_e]
  simp [shText]
theorem z_ok : (scV 0 0 ⟨#[]⟩).ok = false := by
  unfold VT.ok
  rw [sc_all]
  have : (scV 0 0 ⟨#[]⟩).fit = false := by unfold scV; rw [fit_mk]; rfl
  rw [this]; simp
theorem e_len : lenR (scV 4 0 ⟨#[195, 169]⟩) = .tuple #[.int .i64 1, .bool true] := by
  unfold lenR
  rw [if_pos e_ok, if_pos (show (scV 4 0 ⟨#[195, 169]⟩).k = 4 from rfl)]
  show Value.tuple #[.int .i64 ((nats (ptsL [195, 169]).1).length : Nat), .bool true] = _
  rw [pts_cps [233] [195, 169] (by intro c hc; simp at hc; subst hc; decide) (by decide)]
  rfl
set_option maxRecDepth 20000 in
set_option maxHeartbeats 4000000 in
theorem vwakes_any (w : World) (htab : UTab w) (hst : STab w) : Calls Tryd.prog 10 #[] w fun e w' => e = .returned (.bool true) ∧ Below w.heap.size w w' := by
  have hi1 := fun n W => vint_any n W
  have hn1 := fun W => null_any W
  simp only [scV, VT.agg] at hi1 hn1
  go_enter Tryd.func10, Tryd.ntmps10
  go_wp2_with fail
  refine (hi1 _ _).mono ?_
  rintro e w1 ⟨rfl, hb1⟩
  go_wp2_with fail
  refine (hn1 _).mono ?_
  rintro e w2 ⟨rfl, hb2⟩
  have hb02 := bel_next hb1 hb2
  have hb02' := bel_alloc hb02 (.cells #[.string ⟨#[98]⟩, .int .i64 3, .int .i64 1, .string ⟨#[]⟩, .slice none 0 0, .slice none 0 0, .string ⟨#[97]⟩, .int .i64 1, .int .i64 0, .string ⟨#[]⟩, .slice none 0 0, .slice none 0 0] 48)
  have hs2 := shows_new w2 #[.string ⟨#[98]⟩, .int .i64 3, .int .i64 1, .string ⟨#[]⟩, .slice none 0 0, .slice none 0 0, .string ⟨#[97]⟩, .int .i64 1, .int .i64 0, .string ⟨#[]⟩, .slice none 0 0, .slice none 0 0] 48 _ 2 6 rfl rfl
  have ho := object_ab w2.heap.size (w2.heap.size + 1) _ hs2 (by simp) (htab.below hb02' htab.lt) (hst.below hb02' hst.lt)
  clear hb1 hb2 hs2
  go_wp2_with fail
  refine ho.mono ?_
  rintro e w3 ⟨hb3, kA, kc, cA, cc, hL, hok, rfl⟩
  have hb03 := bel_next hb02' hb3
  have hk : Shows w3 w3.heap.size 1 kA 2 ([(⟨#[97]⟩ : ByteArray), ⟨#[98]⟩].map Value.string) := by cases hL with | mk _ hk _ _ => exact hk
  obtain ⟨kb, koff, rfl, _, hkc⟩ := key_at hk (i := 0) (by decide)
  have hkc : w3.cell? ⟨kb, koff + 0, none⟩ = some (.string ⟨#[97]⟩) := hkc
  rw [Nat.add_zero] at hkc
  have hkc2 := cell_keep hkc (.cells #[.int .i64 6, .int .i64 0, .string ⟨#[]⟩, .slice cA 2 cc, .slice (some ⟨kb, koff, none⟩) 2 kc] 25)
  have hb4 := bel_alloc hb03 (.cells #[.int .i64 6, .int .i64 0, .string ⟨#[]⟩, .slice cA 2 cc, .slice (some ⟨kb, koff, none⟩) 2 kc] 25)
  have hb34 := bel_alloc (Below.refl w3.heap.size w3) (.cells #[.int .i64 6, .int .i64 0, .string ⟨#[]⟩, .slice cA 2 cc, .slice (some ⟨kb, koff, none⟩) 2 kc] 25)
  have HV := Lib.hid (show VFive (w3.alloc (.cells #[.int .i64 6, .int .i64 0, .string ⟨#[]⟩, .slice cA 2 cc, .slice (some ⟨kb, koff, none⟩) 2 kc] 25)) w3.heap.size (.int .i64 6) (.int .i64 0) (.string ⟨#[]⟩) (.slice cA 2 cc) (.slice (some ⟨kb, koff, none⟩) 2 kc) from VFive.new _ _ _ _ _ _ _ _ rfl)
  have HT := fun W (h : Below w.heap.size w W) => And.intro (htab.below h htab.lt) (hst.below h hst.lt)
  have HD := Lib.hid (fun W (h : Below w.heap.size w W) (h3 : Below w3.heap.size w3 W) => depth_any w3.heap.size W (tAB cA cc (some ⟨kb, koff, none⟩) kc) (hL.later h3) h3.size (HT W h).1 (HT W h).2)
  have HN := Lib.hid (fun W (h : Below w.heap.size w W) (h3 : Below w3.heap.size w3 W) => vcount_any w3.heap.size W (tAB cA cc (some ⟨kb, koff, none⟩) kc) (hL.later h3) h3.size (HT W h).1 (HT W h).2)
  have HG := Lib.hid (fun x W (h : Below w.heap.size w W) (h3 : Below w3.heap.size w3 W) => get_any w3.heap.size W (tAB cA cc (some ⟨kb, koff, none⟩) kc) x (hL.later h3) h3.size (HT W h).1 (HT W h).2)
  have hd1 : (tAB cA cc (some ⟨kb, koff, none⟩) kc).depR = 1 := by unfold VT.depR; rw [if_pos hok, ab_dep]
  have hn3 : (tAB cA cc (some ⟨kb, koff, none⟩) kc).cntR = 3 := by unfold VT.cntR; rw [if_pos hok, ab_cnt]
  rw [hd1] at HD
  rw [hn3] at HN
  simp only [if_pos hok] at HG
  have HGb := Lib.hid (fun W h h3 => HG.out ⟨#[98]⟩ W h h3)
  have HGc := Lib.hid (fun W h h3 => HG.out ⟨#[99]⟩ W h h3)
  simp only [ab_b] at HGb
  simp only [ab_c] at HGc
  simp only [memR, scV, VT.agg] at HGb
  simp only [memR, zV, VT.agg] at HGc
  simp only [VT.agg] at HD HN
  have HTx := Lib.hid HT
  have hll : ((⟨#[97]⟩ : ByteArray).toList != (⟨#[97]⟩ : ByteArray).toList) = false := by simp
  clear HG hL hok hd1 hn3 hb3 hb02 hb02' ho hb03 hk hkc HT
  have hra := Below.refl (w3.alloc (.cells #[.int .i64 6, .int .i64 0, .string ⟨#[]⟩, .slice cA 2 cc, .slice (some ⟨kb, koff, none⟩) 2 kc] 25)).heap.size (w3.alloc (.cells #[.int .i64 6, .int .i64 0, .string ⟨#[]⟩, .slice cA 2 cc, .slice (some ⟨kb, koff, none⟩) 2 kc] 25))
  go_wp2_with fail
  refine (HD.out _ hb4 hb34).mono ?_
  rintro e w5 ⟨rfl, hb5⟩
  have hb05 := bel_next hb4 hb5
  have hb35 := bel_next hb34 hb5
  obtain ⟨⟨v0, v1, v2, v3, v4⟩, -⟩ := HV.out.later hb5
  go_wp2_with fail
  refine (HN.out _ hb05 hb35).mono ?_
  rintro e w6 ⟨rfl, hb6⟩
  have hb06 := bel_next hb05 hb6
  have hb36 := bel_next hb35 hb6
  have HV6 := Lib.hid ((HV.out.later hb5).later hb6)
  clear v0 v1 v2 v3 v4 HV hra hb4 hb34 hb5 hkc2
  obtain ⟨⟨v0, v1, v2, v3, v4⟩, -⟩ := HV6.out
  go_wp2_with fail
  refine (HGb.out _ hb06 hb36).mono ?_
  rintro e w7 ⟨rfl, hb7⟩
  have hb07 := bel_next hb06 hb7
  have hb37 := bel_next hb36 hb7
  have hb07' := bel_alloc hb07 (.cells #[.int .i64 3, .int .i64 1, .string ⟨#[]⟩, .slice none 0 0, .slice none 0 0] 25)
  have hb37' := bel_alloc hb37 (.cells #[.int .i64 3, .int .i64 1, .string ⟨#[]⟩, .slice none 0 0, .slice none 0 0] 25)
  have HO := Lib.hid (show VFive (w7.alloc (.cells #[.int .i64 3, .int .i64 1, .string ⟨#[]⟩, .slice none 0 0, .slice none 0 0] 25)) w7.heap.size (.int .i64 3) (.int .i64 1) (.string ⟨#[]⟩) (.slice none 0 0) (.slice none 0 0) from VFive.new _ _ _ _ _ _ _ _ rfl)
  have HV7 := Lib.hid ((HV6.out.later hb7).alloc (.cells #[.int .i64 3, .int .i64 1, .string ⟨#[]⟩, .slice none 0 0, .slice none 0 0] 25))
  clear v0 v1 v2 v3 v4 hb6 hb05 hb35
  obtain ⟨⟨v0, v1, v2, v3, v4⟩, -⟩ := HV7.out
  go_wp2_with fail
  refine (HGc.out _ hb07' hb37').mono ?_
  rintro e w8 ⟨rfl, hb8⟩
  have hb08 := bel_alloc (bel_next hb07' hb8) (.cells #[.int .i64 0, .int .i64 0, .string ⟨#[]⟩, .slice none 0 0, .slice none 0 0] 25)
  have HO8 := Lib.hid ((HO.out.later hb8).alloc (.cells #[.int .i64 0, .int .i64 0, .string ⟨#[]⟩, .slice none 0 0, .slice none 0 0] 25))
  clear v0 v1 v2 v3 v4 HV7 HV6 HO hb7 hb8 hb06 hb36 hb07 hb37 hb37' HD HN HGb HGc hb07'
  go_wp2_with fail
  refine (hi1 _ _).mono ?_
  rintro e w10 ⟨rfl, hb10⟩
  go_wp2_with fail
  refine (hi1 _ _).mono ?_
  rintro e w11 ⟨rfl, hb11⟩
  have hb011 := bel_next (bel_next hb08 hb10) hb11
  have hb011' := bel_alloc hb011 (.cells #[.string ⟨#[97]⟩, .int .i64 3, .int .i64 1, .string ⟨#[]⟩, .slice none 0 0, .slice none 0 0, .string ⟨#[97]⟩, .int .i64 3, .int .i64 2, .string ⟨#[]⟩, .slice none 0 0, .slice none 0 0] 48)
  have hs11 := shows_new w11 #[.string ⟨#[97]⟩, .int .i64 3, .int .i64 1, .string ⟨#[]⟩, .slice none 0 0, .slice none 0 0, .string ⟨#[97]⟩, .int .i64 3, .int .i64 2, .string ⟨#[]⟩, .slice none 0 0, .slice none 0 0] 48 _ 2 6 rfl rfl
  have ho := object_aa w11.heap.size (w11.heap.size + 1) _ hs11 (by simp) (HTx.out _ hb011').1 (HTx.out _ hb011').2
  have HO11 := Lib.hid (((HO8.out.later hb10).later hb11).alloc (.cells #[.string ⟨#[97]⟩, .int .i64 3, .int .i64 1, .string ⟨#[]⟩, .slice none 0 0, .slice none 0 0, .string ⟨#[97]⟩, .int .i64 3, .int .i64 2, .string ⟨#[]⟩, .slice none 0 0, .slice none 0 0] 48))
  clear hs11 hb10 hb11 HO8 hb011 hb08
  go_wp2_with fail
  refine ho.mono ?_
  rintro e w12 ⟨hb12, rfl⟩
  have hb012 := bel_alloc (bel_next hb011' hb12) (.cells #[.int .i64 0, .int .i64 0, .string ⟨#[]⟩, .slice none 0 0, .slice none 0 0] 25)
  have HO12 := Lib.hid ((HO11.out.later hb12).alloc (.cells #[.int .i64 0, .int .i64 0, .string ⟨#[]⟩, .slice none 0 0, .slice none 0 0] 25))
  have htx := text_any ⟨#[195, 169]⟩ _ (by decide) (HTx.out _ hb012).1 (HTx.out _ hb012).2
  have hch : chkR (scV 4 0 ⟨#[195, 169]⟩) = .tuple #[.agg #[.int .i64 4, .int .i64 0, .string ⟨#[195, 169]⟩, .slice none 0 0, .slice none 0 0], .int .i64 0] := by unfold chkR; rw [if_pos e_ok]; rfl
  rw [hch] at htx
  clear ho hb12 HO11 hb011' hch
  go_wp2_with fail
  refine htx.mono ?_
  rintro e w14 ⟨rfl, hb14⟩
  have hb014 := bel_alloc (bel_next hb012 hb14) (.cells #[.int .i64 4, .int .i64 0, .string ⟨#[195, 169]⟩, .slice none 0 0, .slice none 0 0] 25)
  have HO14 := Lib.hid ((HO12.out.later hb14).alloc (.cells #[.int .i64 4, .int .i64 0, .string ⟨#[195, 169]⟩, .slice none 0 0, .slice none 0 0] 25))
  have hln := len_any 0 _ (scV 4 0 ⟨#[195, 169]⟩) (lie_sc 4 0 ⟨#[195, 169]⟩ _ _ (by decide) (by decide) (by decide)) (Nat.zero_le _) (by decide) (HTx.out _ hb014).1 (HTx.out _ hb014).2
  rw [e_len] at hln
  simp only [scV, VT.agg] at hln
  clear htx hb14 HO12 hb012
  go_wp2_with fail
  refine hln.mono ?_
  rintro e w15 ⟨rfl, hb15⟩
  have hb015 := bel_next hb014 hb15
  obtain ⟨⟨v0, v1, v2, v3, v4⟩, -⟩ := HO14.out.later hb15
  have hck := vcheck_any 0 w15 (scV 0 0 ⟨#[]⟩) (lie_sc 0 0 _ _ _ (by decide) (by decide) (by decide)) (Nat.zero_le _) (HTx.out _ hb015).1 (HTx.out _ hb015).2
  rw [z_ok] at hck
  simp only [scV, VT.agg, Bool.false_eq_true, if_false] at hck
  clear hln HO14
  go_wp2_with fail
  refine hck.mono ?_
  rintro e w16 ⟨rfl, hb16⟩
  go_wp2
  go_ret
  exact ⟨rfl, bel_next hb015 hb16⟩
end Go.Proofs.YtnldiemggabdkaaDoor
