import Derived.Test.YtghmehfmchadoaaDoorGao
/-
  Layer 11: the reference's Bytes and Out.
-/
namespace Go.Proofs.YtghmehfmchadoaaDoor
open Go.RowKit
set_option linter.unusedVariables false

set_option maxRecDepth 20000 in
set_option maxHeartbeats 2000000 in
theorem refBytes_any (X : FileT) (B : Nat) (w : World) (hL : LieF w B X) (hB : B ≤ w.heap.size) (hr : X.right = true) :
    Calls Tryd.prog 16 #[X.agg] w fun e w' => ∃ A c, e = .returned (.slice A X.long c) ∧ Hid (w'.ownsRow w.heap.size 5 1 (.slice A X.long c) X.long (X.all.map bv)) ∧ Below w.heap.size w w' := by
  obtain ⟨i0, hi, hz0, hz1, hz2⟩ := u8_info
  obtain ⟨hlong, hmax⟩ := right_all hL hr
  have hsum : X.all.length = X.F.n + sumN X.L := by unfold FileT.all; rw [List.length_append, hL.firm.len, sumN_len hL.loose]
  have hb1 := bel_alloc (Below.refl w.heap.size w) (.cells #[.slice X.F.A X.F.n X.F.c, .slice X.lA X.ln X.lc, .int .i64 X.fuse, .int .i64 X.fault, .bool X.off] 25)
  have HX := Lib.hid (FBox.new w X 25)
  have HL := Lib.hid (fun W (h : Below w.heap.size w W) => hL.later (h.mono hB))
  have hln := Nat.le_trans hL.fits hL.most
  unfold maxLen at hln
  have hMx : 600000 ≤ maxLen := by decide
  have Hlong := Lib.hid (show X.long = X.F.n + sumN X.L by rw [hlong, hsum])
  have hFn : X.F.n ≤ 524288 := by omega
  have Hsum := Lib.hid (show X.F.n + sumN X.L ≤ 524288 by omega)
  have HlL := Lib.hid hL.len
  clear hlong hmax hsum hr
  simp only [FileT.agg, PcT.val]
  go_enter Tryd.func16, Tryd.ntmps16
  go_upto_region 2 with fail
  generalize (w.alloc (.cells #[.slice X.F.A X.F.n X.F.c, .slice X.lA X.ln X.lc, .int .i64 X.fuse, .int .i64 X.fault, .bool X.off] 25)) = W1 at *
  obtain ⟨f0, f1, -⟩ := HX.out
  have hn0 := World.ownsRow_nil W1 W1.heap.size 5 1
  have hs0 := (HL.out W1 hb1).firm.here
  go_wp2_with (at_builtin; refine wpList_append_shows _ rfl _ _ 22 rfl W1.heap.size 5 i0 (.int .u8 0) 1 1 Tryd.underlying22 hi hz0 hz1 hz2 rfl (by decide) _ _ _ rfl hn0 B _ X.F.n _ (X.F.l.map bv) rfl hs0 (bv_one _) (by omega) (by omega) (Nat.le_refl _) ?_; intro A7 c7 w7 hown7 hgrow7 hb7; have hx7 : Below w.heap.size w w7 := bel_next hb1 hb7; have HO7 := Lib.hid hown7; clear hown7 hgrow7 hn0 hs0)
  have HO := Lib.hid (show w7.ownsRow W1.heap.size 5 1 (.slice A7 X.F.n c7) X.F.n ((X.F.l ++ joinP (X.L.take 0)).map bv) by simpa [joinP] using HO7.out)
  clear HO7 f0 f1
  go_wp2
  go_loopw [3, 4] (fun o i wr => ∃ (j m : Nat) (A : Option Addr) (c : Nat), j ≤ X.ln ∧ i = .int .i64 j ∧ o = .slice A m c ∧ Hid (m = X.F.n + sumN (X.L.take j)) ∧ Hid (wr.ownsRow W1.heap.size 5 1 (.slice A m c) m ((X.F.l ++ joinP (X.L.take j)).map bv)) ∧ Below W1.heap.size W1 wr) (fun _ i _ => X.ln - (intOf i).toNat)
  case atStart => exact ⟨0, X.F.n, A7, c7, Nat.zero_le _, rfl, by first | rfl | simp, Lib.hid (by simp [sumN]), HO, hb7⟩
  case round =>
    obtain ⟨j, m, A, c, hj, rfl, rfl, HM, HO, hbr⟩ := hrel
    rename World => wr
    clear hb7 hx7
    obtain ⟨f0, f1, -⟩ := HX.out.later hbr
    have hbw := bel_next hb1 hbr
    have hLr := HL.out wr hbw
    by_cases hlt : j < X.ln
    · obtain ⟨b, off, p, hA, _, hp, hc⟩ := pc_at hLr.row hlt
      have hs := (hLr.loose p (List.mem_of_getElem? hp)).here
      have hlt' : (j : Int) < X.ln := by omega
      have HM2 := Lib.hid (show m + p.n = X.F.n + sumN (X.L.take (j + 1)) by
        rw [HM.out]
        have : sumN (X.L.take (j + 1)) = sumN (X.L.take j) + p.n := by unfold sumN; rw [List.take_add_one, hp]; simp
        omega)
      have hle : m + p.n ≤ 524288 := by
        rw [HM2.out]
        have h1 := sumN_take X.L (j + 1)
        have := Hsum.out
        omega
      have HJ := Lib.hid (joinP_take hp)
      have hown := HO.out
      have hbs := hbr.size
      rw [hA] at f1
      clear hp HM HO hLr hA
      go_wp2_with (at_builtin; refine wpList_append_shows _ rfl _ _ 22 rfl W1.heap.size 5 i0 (.int .u8 0) 1 1 Tryd.underlying22 hi hz0 hz1 hz2 rfl (by decide) _ _ _ rfl hown B _ p.n _ (p.l.map bv) rfl hs (bv_one _) (by omega) (by omega) hbs ?_; intro A8 c8 w8 hown8 hgrow8 hb8; have HO8 := Lib.hid hown8; clear hown8 hgrow8 hown hs)
      go_roundw
      case rel => exact ⟨j + 1, m + p.n, A8, c8, by omega, by go_num, rfl, HM2, Lib.hid (by rw [HJ.out, ← List.append_assoc, List.map_append]; exact HO8.out), hbr.trans hb8⟩
      case measure => simp [intOf]; omega
    · obtain rfl : j = X.ln := by omega
      have htk : X.L.take X.ln = X.L := List.take_of_length_le (by rw [HlL.out]; exact Nat.le_refl _)
      have HM2 := Lib.hid (show m = X.long by rw [Hlong.out, HM.out, htk])
      have HO2 := Lib.hid (show wr.ownsRow W1.heap.size 5 1 (.slice A m c) m (X.all.map bv) by have h := HO.out; rw [htk] at h; exact h)
      clear HM HO htk hLr
      go_wp2
      go_ret
      exact ⟨A, c, by rw [← HM2.out]; rfl, Lib.hid (by rw [← HM2.out]; exact own_base HO2.out hb1.size), hbw⟩

set_option maxRecDepth 20000 in
set_option maxHeartbeats 4000000 in
theorem refOut_any (A : Option Addr) (n c B : Nat) (l : List UInt8) (w : World) (hp : PcT.Ok w B ⟨A, n, c, l⟩) (hB : B ≤ w.heap.size) (hn : n ≤ 4096) :
    Calls Tryd.prog 17 #[.slice A n c] w (GivesBytes 5 (Fra.encL l) w) := by
  obtain ⟨i0, hi, hz0, hz1, hz2⟩ := u8_info
  obtain ⟨C, hC⟩ : ∃ C : List UInt8, C = Fra.sizeL n := ⟨_, rfl⟩
  have hcs := size_cells n hn
  rw [← hC] at hcs
  have hsz := Lib.hid (bytes_new w C #[.int .u8 ((n : Int) / 256), .int .u8 ((n : Int) % 256)] 5 (0, 0) hcs)
  have hCl : C.length = 2 := by rw [hC]; rfl
  have hl : l.length = n := hp.len
  have HE := Lib.hid (show Fra.encL l = C ++ (Crc.laid (Crc.more 0 (C ++ l)) ++ l) by
    unfold Fra.encL
    rw [hl, ← hC])
  rw [hCl] at hsz
  have HP := Lib.hid hp
  have hd1 : (n : Int).tdiv 256 = (n : Int) / 256 := by rw [Int.tdiv_eq_ediv_of_nonneg (by omega)]
  have hd2 : (n : Int).tmod 256 = (n : Int) % 256 := by rw [Int.tmod_eq_emod_of_nonneg (by omega)]
  have hd3 : IntKind.u8.wrap ((n : Int) / 256) = (n : Int) / 256 := by
    have : IntKind.u8.wrap ((n : Int) / 256) = (n : Int) / 256 % 256 := by simp [IntKind.wrap, IntKind.bits, IntKind.signed]
    rw [this]; omega
  have hd4 : IntKind.u8.wrap ((n : Int) % 256) = (n : Int) % 256 := by
    have : IntKind.u8.wrap ((n : Int) % 256) = (n : Int) % 256 % 256 := by simp [IntKind.wrap, IntKind.bits, IntKind.signed]
    rw [this]; omega
  have hba := bel_alloc (Below.refl w.heap.size w) (.cells #[.int .u8 ((n : Int) / 256), .int .u8 ((n : Int) % 256)] 5)
  have hs1 : w.heap.size + 1 ≤ (w.alloc (.cells #[.int .u8 ((n : Int) / 256), .int .u8 ((n : Int) % 256)] 5)).heap.size := by rw [World.size_alloc]; omega
  have own0 := World.ownsRow_lit (base := w.heap.size + 1) (e := 5) (size := 1) (w.alloc (.cells #[.int .u8 ((n : Int) / 256), .int .u8 ((n : Int) % 256)] 5)) #[] 0 hs1 (Nat.zero_le _) (by simp)
  rw [World.size_alloc] at own0
  have hbb := bel_alloc hba (.cells #[] 5)
  have hz2' : w.heap.size + 1 ≤ ((w.alloc (.cells #[.int .u8 ((n : Int) / 256), .int .u8 ((n : Int) % 256)] 5)).alloc (.cells #[] 5)).heap.size := by rw [World.size_alloc]; omega
  have HS := Lib.hid ((hsz.out.alloc hs1 (.cells #[] 5)))
  clear hC hcs hp hl hsz hba hs1
  go_enter Tryd.func17, Tryd.ntmps17
  go_wp2_with (first
    | (at_builtin; go_must (refine wpList_append_shows (o := ⟨some 18, _, _, _, _, _⟩) _ rfl (.tmp 16) (.tmp 17) _ rfl (w.heap.size + 1) 5 i0 (.int .u8 0) 1 1 Tryd.underlying22 hi hz0 hz1 hz2 rfl (by decide) _ _ _ rfl own0 (w.heap.size + 1) _ _ _ (C.map bv) rfl HS.out (bv_one _) ?c3_18 ?c4_18 ?c5_18 ?_)))
  (try case c3_18 => (unfold maxLen; omega))
  (try case c4_18 => omega)
  (try case c5_18 => first | exact hz2' | omega)
  intro A1 c1 W1 own1 hg1 hb1
  replace own1 : W1.ownsRow (w.heap.size + 1) 5 1 (.slice A1 2 c1) 2 (C.map bv) := by simpa using own1
  have hb1' := hb1.mono (Nat.le_succ w.heap.size)
  have hbc := hbb.trans hb1'
  have hz3 : w.heap.size + 1 ≤ W1.heap.size := Nat.le_trans hz2' hb1.size
  have HS1 := Lib.hid (HS.out.below hb1)
  clear own0 hg1 hb1 hb1' hbb hz2' HS
  have hP1 := Lib.hid ((HP.out.here.more hB).below hbc)
  go_wp2_with (first
    | (at_builtin; go_must (refine wpList_append_shows (o := ⟨some 21, _, _, _, _, _⟩) _ rfl (.tmp 19) (.tmp 20) _ rfl (w.heap.size + 1) 5 i0 (.int .u8 0) 1 1 Tryd.underlying22 hi hz0 hz1 hz2 rfl (by decide) _ _ _ rfl own1 w.heap.size _ _ _ (l.map bv) rfl hP1.out (bv_one _) ?c3_21 ?c4_21 ?c5_21 ?_)))
  (try case c3_21 => (unfold maxLen; omega))
  (try case c4_21 => omega)
  (try case c5_21 => first | exact hz3 | omega)
  intro A2 c2 W2 own2 hg2 hb2
  have hbd := hbc.trans (hb2.mono (Nat.le_succ w.heap.size))
  have hz4 := Nat.le_trans hz3 hb2.size
  have HS2 := Lib.hid ((HS1.out.below hb2).alloc hz4 (.cells #[] 5))
  rw [← List.map_append] at own2
  have own3 := World.ownsRow_lit (base := w.heap.size + 1) (e := 5) (size := 1) W2 #[] 0 hz4 (Nat.zero_le _) (by simp)
  have HO2 := Lib.hid (own_later own2 (bel_alloc (Below.refl W2.heap.size W2) (.cells #[] 5)))
  have hbe := bel_alloc hbd (.cells #[] 5)
  have hz5 : w.heap.size + 1 ≤ (W2.alloc (.cells #[] 5)).heap.size := by rw [World.size_alloc]; omega
  have Hne := Lib.hid own3
  have HO2w := Lib.hid own2
  clear hb2 hbd hbc hz3 hg2 own1 hP1 HS1 own2
  go_wp2_with (first
    | (at_builtin; go_must (refine wpList_append_shows (o := ⟨some 24, _, _, _, _, _⟩) _ rfl (.tmp 22) (.tmp 23) _ rfl (w.heap.size + 1) 5 i0 (.int .u8 0) 1 1 Tryd.underlying22 hi hz0 hz1 hz2 rfl (by decide) _ _ _ rfl own3 (w.heap.size + 1) _ _ _ (C.map bv) rfl HS2.out (bv_one _) ?c3_24 ?c4_24 ?c5_24 ?_)))
  (try case c3_24 => (unfold maxLen; omega))
  (try case c4_24 => omega)
  (try case c5_24 => first | exact hz5 | omega)
  intro A3 c3 W3 own4 hg3 hb3
  replace own4 : W3.ownsRow (w.heap.size + 1) 5 1 (.slice A3 2 c3) 2 (C.map bv) := by simpa using own4
  have HO3 := Lib.hid (HO2.out.kept hg3 (by
    rcases HO2w.out.2 with ⟨e, _⟩ | ⟨g, cap, cur, e, _, hh, _⟩
    · rw [e]; exact .inl rfl
    · rw [e]
      exact .inr (fun h => by
        have h : some g = some W2.heap.size := h
        injection h with h
        have := blk_lt hh
        omega)))
  have HB3 := Lib.hid (Bytes.own HO3.out)
  have hbf := hbe.trans (hb3.mono (Nat.le_succ w.heap.size))
  have hz6 := Nat.le_trans hz5 hb3.size
  clear own3 Hne hb3 hbe hz5 hg3 HO2 HS2
  go_wp2_with fail
  refine (refmore_any A2 (2 + n) c2 W3.heap.size (C ++ l) 0 W3 HB3.out (by omega) (by unfold maxLen; omega)).mono ?_
  rintro e W4 ⟨rfl, rfl⟩
  obtain ⟨s, hs⟩ : ∃ s, Crc.more 0 (C ++ l) = s := ⟨_, rfl⟩
  have hsl : s < 4294967296 := by rw [← hs]; exact Crc.more_lt _ _
  rw [hs]
  have Hs := Lib.hid hs
  clear hs
  go_wp2_with fail
  refine (laid_any s W3 hsl).mono ?_
  rintro e W5 ⟨A5, n5, c5, rfl, ho5, hb5⟩
  have hn5 : n5 = 4 := by have := ho5.1; simpa [Crc.laid] using this.symm
  subst hn5
  have HB5 := Lib.hid (Bytes.own ho5)
  have own5 := own_later own4 hb5
  have hbg := hbf.trans (hb5.mono (Nat.le_trans (Nat.le_succ _) hz6))
  have hz7 := Nat.le_trans hz6 hb5.size
  clear own4 hb5 ho5 hbf hz6 HB3 HO3
  go_wp2_with (first
    | (at_builtin; go_must (refine wpList_append_shows (o := ⟨some 29, _, _, _, _, _⟩) _ rfl (.tmp 25) (.tmp 28) _ rfl (w.heap.size + 1) 5 i0 (.int .u8 0) 1 1 Tryd.underlying22 hi hz0 hz1 hz2 rfl (by decide) _ _ _ rfl own5 W5.heap.size _ _ _ ((Crc.laid s).map bv) rfl HB5.out (bv_one _) ?c3_29 ?c4_29 ?c5_29 ?_)))
  (try case c3_29 => (unfold maxLen; omega))
  (try case c4_29 => omega)
  (try case c5_29 => first | exact hz7 | omega)
  intro A6 c6 W6 own6 hg6 hb6
  have hbh := hbg.trans (hb6.mono (Nat.le_succ w.heap.size))
  have hz8 := Nat.le_trans hz7 hb6.size
  replace own6 : W6.ownsRow (w.heap.size + 1) 5 1 (.slice A6 6 c6) 6 ((C ++ Crc.laid s).map bv) := by rw [List.map_append]; exact own6
  have hP6 := Lib.hid ((HP.out.here.more hB).below hbh)
  clear own5 HB5 hbg hz7 hg6 hb6
  go_wp2_with (first
    | (at_builtin; go_must (refine wpList_append_shows (o := ⟨some 32, _, _, _, _, _⟩) _ rfl (.tmp 30) (.tmp 31) _ rfl (w.heap.size + 1) 5 i0 (.int .u8 0) 1 1 Tryd.underlying22 hi hz0 hz1 hz2 rfl (by decide) _ _ _ rfl own6 w.heap.size _ _ _ (l.map bv) rfl hP6.out (bv_one _) ?c3_32 ?c4_32 ?c5_32 ?_)))
  (try case c3_32 => (unfold maxLen; omega))
  (try case c4_32 => omega)
  (try case c5_32 => first | exact hz8 | omega)
  intro A7 c7 W7 own7 hg7 hb7
  have hbi := hbh.trans (hb7.mono (Nat.le_succ w.heap.size))
  clear own6 hg7 hb7 hbh hz8
  go_wp2
  go_ret
  refine ⟨A7, _, c7, rfl, ?_, hbi⟩
  rw [HE.out, Hs.out, List.map_append, List.map_append]
  exact own_base own7 (Nat.le_succ _)
end Go.Proofs.YtghmehfmchadoaaDoor
/-
  Layer 11: the reference's Past.
-/
namespace Go.Proofs.YtghmehfmchadoaaDoor
open Go.RowKit
set_option linter.unusedVariables false

theorem int_info11 : ∃ i, Tryd.prog.info? 3 = some i ∧ i.zero = some (.int .i64 0) ∧ i.size = 1 ∧ i.bytes = 8 := ⟨Tryd.t3, by kernel_rfl, by kernel_rfl, by kernel_rfl, by kernel_rfl⟩
theorem own_grown {W W' : World} {D E n n' s : Nat} {t1 t2 : TypeId} {v v' : Value} {xs ys : List Value} (h : W.ownsRow D t1 1 v n xs) (ho : W.ownsRow E t2 s v' n' ys) (hg : W.grownBy W' v'.ownBlock) (ht : t1 ≠ t2) : W'.ownsRow D t1 1 v n xs := by
  refine h.kept hg ?_
  rcases h.2 with ⟨e, _⟩ | ⟨g, cap, cur, e, _, hh, _⟩
  · rw [e]; exact .inl rfl
  · rw [e]; exact .inr (own_blk_ne ho hh ht)
/-- The place of a byte past the marks. -/
def placeV (x : UInt8 × Nat) : Value := .int .i64 ((x.2 - 1 : Nat) : Int)
/-- What 'Past' gives. -/
def PastP (p : List (UInt8 × Nat)) (w : World) (e : Ending) (w' : World) : Prop :=
  ∃ (A1 A2 : Option Addr) (c1 c2 : Nat), e = .returned (.tuple #[.slice A1 p.length c1, .slice A2 p.length c2]) ∧ Hid (w'.ownsRow w.heap.size 5 1 (.slice A1 p.length c1) p.length ((p.map Prod.fst).map bv)) ∧ Hid (w'.ownsRow w.heap.size 3 1 (.slice A2 p.length c2) p.length (p.map placeV)) ∧ Below w.heap.size w w'
theorem past_nil (w : World) : PastP [] w (.returned (.tuple #[.slice none 0 0, .slice none 0 0])) w :=
  ⟨none, none, 0, 0, rfl, Lib.hid (World.ownsRow_nil w w.heap.size 5 1), Lib.hid (World.ownsRow_nil w w.heap.size 3 1), Below.refl _ _⟩
theorem drop_head {l : List UInt8} {i : Nat} (h : i < l.length) : l.drop i = l.getD i 0 :: l.drop (i + 1) := by
  rw [List.drop_eq_getElem_cons h, List.getD_eq_getElem?_getD, List.getElem?_eq_getElem h]
  rfl
set_option maxRecDepth 20000 in
set_option maxHeartbeats 2000000 in
theorem refPast_in (A : Option Addr) (n c B : Nat) (l : List UInt8) (a : Nat) (w : World) (hp : PcT.Ok w B ⟨A, n, c, l⟩) (hB : B ≤ w.heap.size) (hn : n ≤ 1000000) (hs : Fra.startB l a = true) :
    Calls Tryd.prog 44 #[.slice A n c, .int .i64 (a : Nat)] w (PastP (Fra.pastP a (l.drop a)) w) := by
  obtain ⟨i0, hi, hz0, hz1, hz2⟩ := u8_info
  obtain ⟨j0, hj, hjz0, hjz1, hjz2⟩ := int_info11
  have hlen : l.length = n := hp.len
  unfold Fra.startB at hs
  simp only [Bool.and_eq_true, decide_eq_true_eq, Bool.not_eq_true', beq_eq_false_iff_ne, beq_iff_eq] at hs
  obtain ⟨ha, ha64, hm0⟩ := hs
  rw [hlen] at ha
  obtain ⟨q, hq⟩ : ∃ q, a - a % 64 = q := ⟨_, rfl⟩
  have hqI : (a : Int) - (a : Int) % 64 = (q : Int) := by omega
  have hqI2 : (a : Int) - (a : Int).tmod 64 = (q : Int) := by rw [Int.tmod_eq_emod_of_nonneg (by omega)]; omega
  have hqn : (q : Int) < (n : Int) := by omega
  obtain ⟨b, off, rfl, hbB, hc⟩ := hp.here.cell (k := q) (by show q < n; omega)
  rw [show at8 l q = 0 by unfold at8; rw [← hq, hm0]; rfl] at hc
  have ha1 : ¬ (a : Int) < 0 := by omega
  have ha2 : ¬ (n : Int) ≤ (a : Int) := by omega
  have ha3 : (a : Int) < (n : Int) := by omega
  have ha4 : ((a : Int) % 64 == 0) = false := by rw [beq_eq_false_iff_ne]; omega
  have Han := Lib.hid (show a ≤ n by omega)
  have Hlen := Lib.hid hlen
  have HP := Lib.hid hp
  have hq0 : (0 : Int) ≤ (q : Int) := by omega
  clear hp hlen hq hm0 ha ha64 hbB
  go_enter Tryd.func44, Tryd.ntmps44
  go_wp2_with fail
  clear hc hqI hqI2 hqn ha1 ha2 ha3 ha4 hq0
  go_loopw [6, 7, 8] (fun ov pv iv wr => ∃ (i m : Nat) (acc : List (UInt8 × Nat)) (A1 A2 : Option Addr) (c1 c2 : Nat), i ≤ n ∧ m ≤ i ∧ iv = .int .i64 i ∧ ov = .slice A1 m c1 ∧ pv = .slice A2 m c2 ∧ Hid (acc.length = m) ∧ Hid (wr.ownsRow w.heap.size 5 1 (.slice A1 m c1) m ((acc.map Prod.fst).map bv)) ∧ Hid (wr.ownsRow w.heap.size 3 1 (.slice A2 m c2) m (acc.map placeV)) ∧ Hid (acc ++ Fra.pastP i (l.drop i) = Fra.pastP a (l.drop a)) ∧ Below w.heap.size w wr) (fun _ _ iv _ => n - (intOf iv).toNat)
  case atStart => exact ⟨a, 0, [], none, none, 0, 0, Han.out, Nat.zero_le _, rfl, rfl, rfl, Lib.hid rfl, Lib.hid (World.ownsRow_nil w w.heap.size 5 1), Lib.hid (World.ownsRow_nil w w.heap.size 3 1), Lib.hid rfl, Below.refl _ _⟩
  case round =>
    obtain ⟨i, m, acc, A1, A2, c1, c2, hi', hmi, rfl, rfl, rfl, HM, HO1, HO2, HA, hbr⟩ := hrel
    rename World => wr
    have hsz := hbr.size
    have hi0 : (0 : Int) ≤ (i : Int) := by omega
    by_cases hlt : i < n
    · have hlt' : (i : Int) < (n : Int) := by omega
      obtain ⟨b2, off2, e, hb2, hc⟩ := ((HP.out.here.more hB).below hbr).cell (k := i) hlt
      injection e with e
      injection e with e1 e2
      subst e1 e2
      have hdr := drop_head (l := l) (i := i) (by rw [Hlen.out]; exact hlt)
      obtain ⟨u, hu⟩ : ∃ u, l.getD i 0 = u := ⟨_, rfl⟩
      have hat : at8 l i = (u.toNat : Int) := by unfold at8; rw [hu]
      rw [hu] at hdr
      rw [hat] at hc
      by_cases h64 : i % 64 = 0
      · have h64' : ((i : Int) % 64 == 0) = true := by rw [beq_iff_eq]; omega
        by_cases hu0 : u = 0
        · subst hu0
          have HA2 := Lib.hid (show acc ++ Fra.pastP (i + 1) (l.drop (i + 1)) = Fra.pastP a (l.drop a) by rw [← HA.out, hdr, Fra.pastP_at _ h64])
          rw [show (((0 : UInt8).toNat : Nat) : Int) = 0 from rfl] at hc
          clear HA hdr hat hu h64
          go_wp2_with fail
          go_roundw
          case rel => exact ⟨i + 1, m, acc, A1, A2, c1, c2, by omega, by omega, by go_num, rfl, rfl, HM, HO1, HO2, HA2, hbr⟩
          case measure => simp [intOf]; omega
        · have HA2 := Lib.hid (show acc = Fra.pastP a (l.drop a) by rw [← HA.out, hdr, Fra.pastP_off _ h64 hu0, List.append_nil])
          have hun : ¬ u.toNat = 0 := fun h => hu0 (UInt8.toNat_inj.1 h)
          have hu1 : ((u.toNat : Int) != 0) = true := by rw [bne_iff_ne]; omega
          have hu2 : ¬ (u.toNat : Int) = 0 := by omega
          clear HA hdr hat hu h64 hu0
          go_wp2_with fail
          go_ret2
          rw [← HA2.out]
          exact ⟨A1, A2, c1, c2, by rw [HM.out]; rfl, Lib.hid (by rw [HM.out]; exact HO1.out), Lib.hid (by rw [HM.out]; exact HO2.out), hbr⟩
      · have h64' : ((i : Int) % 64 == 0) = false := by rw [beq_eq_false_iff_ne]; omega
        have HA2 := Lib.hid (show (acc ++ [(u, i + 1)]) ++ Fra.pastP (i + 1) (l.drop (i + 1)) = Fra.pastP a (l.drop a) by rw [← HA.out, hdr, Fra.pastP_in _ _ h64, List.append_assoc]; rfl)
        clear HA hdr hat hu h64
        have hba := bel_alloc (Below.refl wr.heap.size wr) (.cells #[.int .u8 (u.toNat : Int)] 5)
        have n1 := own_later HO1.out hba
        have HN1 := Lib.hid n1
        have HO2a := Lib.hid (own_later HO2.out hba)
        have s1 := shows_new' wr #[.int .u8 (u.toNat : Int)] 5 1 1 rfl
        have z1 : w.heap.size ≤ (wr.alloc (.cells #[.int .u8 (u.toNat : Int)] 5)).heap.size := Nat.le_trans hsz hba.size
        have hX1 := hbr.trans (hba.mono hsz)
        have g1 : m + 1 ≤ maxLen := by unfold maxLen; omega
        have g2 : (m + 1) * 1 ≤ 140737488355328 := by omega
        have g3 : (m + 1) * 8 ≤ 140737488355328 := by omega
        clear hba
        go_upto_region 12 with (at_builtin; refine wpList_append_shows _ rfl _ _ 22 rfl w.heap.size 5 i0 (.int .u8 0) 1 1 Tryd.underlying22 hi hz0 hz1 hz2 rfl (by decide) _ _ _ rfl n1 _ _ 1 _ _ rfl s1 (by intro x hx; rw [List.mem_singleton.1 hx]; rfl) g1 g2 z1 ?_; intro A7 c7 w7 hown7 hgrow7 hb7; have HO7 := Lib.hid hown7; have HO2b := Lib.hid (own_grown HO2a.out HN1.out hgrow7 (by decide)); have hX2 := hX1.trans hb7; clear hown7 hgrow7 n1 s1 z1 hb7 HO2a HN1 hX1)
        have hba := bel_alloc (Below.refl w7.heap.size w7) (.cells #[.int .i64 (i : Int)] 3)
        have n1 := own_later HO2b.out hba
        have HN1 := Lib.hid n1
        have HO1a := Lib.hid (own_later HO7.out hba)
        have s1 := shows_new' w7 #[.int .i64 (i : Int)] 3 1 1 rfl
        have z1 : w.heap.size ≤ (w7.alloc (.cells #[.int .i64 (i : Int)] 3)).heap.size := Nat.le_trans hX2.size hba.size
        have hX3 := hX2.trans (hba.mono hX2.size)
        clear hba hX2
        go_wp2_with (at_builtin; refine wpList_append_shows _ rfl _ _ 53 rfl w.heap.size 3 j0 (.int .i64 0) 1 8 Tryd.underlying53 hj hjz0 hjz1 hjz2 rfl (by decide) _ _ _ rfl n1 _ _ 1 _ _ rfl s1 (by intro x hx; rw [List.mem_singleton.1 hx]; rfl) g1 g3 z1 ?_; intro A8 c8 w8 hown8 hgrow8 hb8; have HO8 := Lib.hid hown8; have HO1b := Lib.hid (own_grown HO1a.out HN1.out hgrow8 (by decide)); have hX4 := hX3.trans hb8; clear hown8 hgrow8 n1 s1 z1 hb8 HO1a HN1 hX3)
        go_roundw
        case rel =>
          exact ⟨i + 1, m + 1, acc ++ [(u, i + 1)], A7, A8, c7, c8, by omega, by omega, by go_num, rfl, rfl, Lib.hid (by rw [List.length_append, HM.out]; rfl), Lib.hid (by rw [List.map_append, List.map_append]; exact HO1b.out), Lib.hid (by rw [List.map_append]; exact HO8.out), HA2, hX4⟩
        case measure => simp [intOf]; omega
    · obtain rfl : i = n := by omega
      have HA2 := Lib.hid (show acc = Fra.pastP a (l.drop a) by
        rw [← HA.out, List.drop_eq_nil_of_le (by rw [Hlen.out]; exact Nat.le_refl _), Fra.pastP_nil, List.append_nil])
      clear HA
      go_wp2_with fail
      go_ret2
      rw [← HA2.out]
      exact ⟨A1, A2, c1, c2, by rw [HM.out]; rfl, Lib.hid (by rw [HM.out]; exact HO1.out), Lib.hid (by rw [HM.out]; exact HO2.out), hbr⟩
set_option maxRecDepth 20000 in
set_option maxHeartbeats 2000000 in
theorem refPast_no (A : Option Addr) (n c B : Nat) (l : List UInt8) (a : Int) (w : World) (hp : PcT.Ok w B ⟨A, n, c, l⟩) (hB : B ≤ w.heap.size) (hn : n ≤ 1000000) (hs : a < 0 ∨ Fra.startB l a.toNat = false) :
    Calls Tryd.prog 44 #[.slice A n c, .int .i64 a] w (PastP [] w) := by
  have hlen : l.length = n := hp.len
  by_cases h0 : a < 0
  · have h0' : (a < 0) = True := eq_true (by omega)
    clear hs
    go_enter Tryd.func44, Tryd.ntmps44
    go_wp2_with fail
    go_ret2
    exact past_nil w
  · have hs := hs.resolve_left h0
    obtain ⟨k, rfl⟩ : ∃ k : Nat, a = (k : Int) := ⟨a.toNat, by omega⟩
    rw [Int.toNat_natCast] at hs
    have h0' : ((k : Int) < 0) = False := eq_false (by omega)
    by_cases h1 : n ≤ k
    · have h1' : ((n : Int) ≤ (k : Int)) = True := eq_true (by omega)
      have h1'' : ((k : Int) < (n : Int)) = False := eq_false (by omega)
      clear hs h1
      go_enter Tryd.func44, Tryd.ntmps44
      go_wp2_with fail
      go_ret2
      exact past_nil w
    · have h1' : ((n : Int) ≤ (k : Int)) = False := eq_false (by omega)
      have h1'' : ((k : Int) < (n : Int)) = True := eq_true (by omega)
      by_cases h2 : k % 64 = 0
      · have h2' : ((k : Int) % 64 == 0) = true := by rw [beq_iff_eq]; omega
        clear hs h1
        go_enter Tryd.func44, Tryd.ntmps44
        go_wp2_with fail
        go_ret2
        exact past_nil w
      · have h2' : ((k : Int) % 64 == 0) = false := by rw [beq_eq_false_iff_ne]; omega
        obtain ⟨q, hq⟩ : ∃ q, k - k % 64 = q := ⟨_, rfl⟩
        have hqI : (k : Int) - (k : Int) % 64 = (q : Int) := by omega
        have hqI2 : (k : Int) - (k : Int).tmod 64 = (q : Int) := by rw [Int.tmod_eq_emod_of_nonneg (by omega)]; omega
        have hqn : (q : Int) < (n : Int) := by omega
        have hq0 : (0 : Int) ≤ (q : Int) := by omega
        obtain ⟨b, off, rfl, hbB, hc⟩ := hp.here.cell (k := q) (by show q < n; omega)
        have hne : l.getD q 0 ≠ 0 := by
          unfold Fra.startB at hs
          rw [decide_eq_true (by omega), beq_eq_false_iff_ne.2 h2, hq] at hs
          simpa using hs
        obtain ⟨u, hu⟩ : ∃ u, l.getD q 0 = u := ⟨_, rfl⟩
        rw [show at8 l q = (u.toNat : Int) by unfold at8; rw [hu]] at hc
        rw [hu] at hne
        have hun : ¬ u.toNat = 0 := fun h => hne (UInt8.toNat_inj.1 h)
        have hu1 : ((u.toNat : Int) != 0) = true := by rw [bne_iff_ne]; omega
        have hu2 : ¬ (u.toNat : Int) = 0 := by omega
        clear hs h1 hu hne h2 hq hp hlen
        go_enter Tryd.func44, Tryd.ntmps44
        go_wp2_with fail
        go_ret2
        exact past_nil w
end Go.Proofs.YtghmehfmchadoaaDoor
