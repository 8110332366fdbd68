import Derived.Test.YtghmehfmchadoaaDoorGak
import Derived.Test.YtghmehfmchadoaaDoorGah
/-
  Layer 11: Get within a file.
-/
namespace Go.Proofs.YtghmehfmchadoaaDoor
open Go.RowKit
set_option linter.unusedVariables false

theorem u32_or_nat (a b : Nat) (ha : a < 4294967296) (hb : b < 4294967296) : bits .or .u32 (a : Int) (b : Int) = ((a ||| b : Nat) : Int) := by
  have hx : a ||| b < 2 ^ 32 := Nat.or_lt_two_pow (by omega) (by omega)
  have ho : ∀ n : Nat, n < 4294967296 → (BitVec.ofInt 32 (n : Int)).toNat = n := fun n hn => by
    rw [BitVec.toNat_ofInt]
    omega
  have hw : ∀ n : Nat, n < 4294967296 → IntKind.u32.wrap (n : Int) = (n : Int) := fun n hn => by
    have : IntKind.u32.wrap (n : Int) = (n : Int) % 4294967296 := by simp [IntKind.wrap, IntKind.bits, IntKind.signed]
    rw [this]; omega
  show IntKind.u32.wrap ((BitVec.ofInt 32 (a : Int) ||| BitVec.ofInt 32 (b : Int)).toNat : Int) = _
  rw [BitVec.toNat_or, ho a ha, ho b hb, hw _ (by omega)]
theorem le_or (a b c d : Nat) (ha : a < 256) (hb : b < 256) (hc : c < 256) (hd : d < 256) : bits .or .u32 (bits .or .u32 (bits .or .u32 (a : Int) ((b : Int) * 256)) ((c : Int) * 65536)) ((d : Int) * 16777216) = ((a + 256 * b + 65536 * c + 16777216 * d : Nat) : Int) := by
  have o1 := Nat.two_pow_add_eq_or_of_lt (i := 8) (b := a) (by omega) b
  have o2 := Nat.two_pow_add_eq_or_of_lt (i := 16) (b := 256 * b + a) (by omega) c
  have o3 := Nat.two_pow_add_eq_or_of_lt (i := 24) (b := 65536 * c + (256 * b + a)) (by omega) d
  rw [show (b : Int) * 256 = ((256 * b : Nat) : Int) by omega, u32_or_nat _ _ (by omega) (by omega), Nat.or_comm, ← o1]
  rw [show (c : Int) * 65536 = ((65536 * c : Nat) : Int) by omega, u32_or_nat _ _ (by omega) (by omega), Nat.or_comm, show 65536 * c ||| (2 ^ 8 * b + a) = 2 ^ 16 * c ||| (256 * b + a) from rfl, ← o2]
  rw [show (d : Int) * 16777216 = ((16777216 * d : Nat) : Int) by omega, u32_or_nat _ _ (by omega) (by omega), Nat.or_comm, show 16777216 * d ||| (2 ^ 16 * c + (256 * b + a)) = 2 ^ 24 * d ||| (65536 * c + (256 * b + a)) from rfl, ← o3]
  omega
theorem le_laid {x2 x3 x4 x5 : UInt8} {s : Nat} (hs : s < 4294967296) : [x2, x3, x4, x5] = Crc.laid s ↔ x2.toNat + 256 * x3.toNat + 65536 * x4.toNat + 16777216 * x5.toNat = s := by
  have l2 := x2.toNat_lt
  have l3 := x3.toNat_lt
  have l4 := x4.toNat_lt
  have l5 := x5.toNat_lt
  unfold Crc.laid
  constructor
  · intro h
    simp only [List.cons.injEq, and_true] at h
    obtain ⟨h2, h3, h4, h5⟩ := h
    have e2 := congrArg UInt8.toNat h2
    have e3 := congrArg UInt8.toNat h3
    have e4 := congrArg UInt8.toNat h4
    have e5 := congrArg UInt8.toNat h5
    rw [UInt8.toNat_ofNat'] at e2 e3 e4 e5
    omega
  · intro h
    have e2 : x2 = UInt8.ofNat s := by apply UInt8.toNat_inj.1; rw [UInt8.toNat_ofNat']; omega
    have e3 : x3 = UInt8.ofNat (s / 256) := by apply UInt8.toNat_inj.1; rw [UInt8.toNat_ofNat']; omega
    have e4 : x4 = UInt8.ofNat (s / 65536) := by apply UInt8.toNat_inj.1; rw [UInt8.toNat_ofNat']; omega
    have e5 : x5 = UInt8.ofNat (s / 16777216) := by apply UInt8.toNat_inj.1; rw [UInt8.toNat_ofNat']; omega
    rw [e2, e3, e4, e5]
theorem four_at {l : List UInt8} (h : 6 ≤ l.length) : (l.drop 2).take 4 = [l.getD 2 0, l.getD 3 0, l.getD 4 0, l.getD 5 0] := by
  rcases l with _ | ⟨b0, _ | ⟨b1, _ | ⟨b2, _ | ⟨b3, _ | ⟨b4, _ | ⟨b5, r⟩⟩⟩⟩⟩⟩ <;> first | (simp at h; done) | (simp at h; omega) | rfl

set_option maxRecDepth 100000 in
set_option maxHeartbeats 4000000 in
theorem get_in (X : FileT) (a B : Nat) (w : World) (htab : Tab w) (hL : LieF w B X) (hB : B ≤ w.heap.size) (hr : X.right = true) (ha : a < X.all.length) (ha64 : a % 64 ≠ 0) :
    Calls Tryd.prog 20 #[X.agg, .int .i64 (a : Nat)] w (GetP (Fra.getL X.all a) w) := by
  have hb1 := bel_alloc (Below.refl w.heap.size w) (.cells #[.slice X.F.A X.F.n X.F.c, .slice X.lA X.ln X.lc, .int .i64 X.fuse, .int .i64 X.fault, .bool X.off] 25)
  have HX := Lib.hid (FBox.new w X 25)
  obtain ⟨hlong, hmax⟩ := right_all hL hr
  have hch := checkF_any X B _ (hL.later (hb1.mono hB)) (Nat.le_trans hB hb1.size) (right_rows hL hr).1
  rw [if_pos hr] at hch
  have hln := Lib.hid (fun W (h : Below w.heap.size w W) => lenF_any X B W (hL.later (h.mono hB)) (Nat.le_trans hB h.size) (right_rows hL hr).1)
  have hrd := Lib.hid (fun W (h : Below w.heap.size w W) => read_any X a B W (hL.later (h.mono hB)) (Nat.le_trans hB h.size) hr ha ha64)
  have HG := Lib.hid (fun b nx (h : (b, nx) = Fra.rdGo (lineP X a) [] a 7) => line_taken X a ha ha64 h)
  rw [hr, hlong] at hln
  simp only [if_true] at hln
  simp only [FileT.agg, PcT.val] at hch hln hrd ⊢
  generalize X.all.length = L at *
  have h0 : ¬ (a : Int) < 0 := by omega
  have h1 : ((L : Int) ≤ (a : Int)) = False := by simp; omega
  have h2 : ((a : Int) % 64 == 0) = false := by rw [beq_eq_false_iff_ne]; omega
  clear hr hlong hL ha64
  generalize Fra.getL X.all a = R at *
  obtain ⟨f0, f1, f2, f3, f4⟩ := HX.out
  go_enter Tryd.func20, Tryd.ntmps20
  go_wp2_with fail
  refine hch.mono ?_
  rintro e w2 ⟨rfl, hb2⟩
  have hb3 := bel_next hb1 hb2
  have HX2 := Lib.hid (HX.out.later hb2)
  clear f0 f1 f2 f3 f4 hch hb1 hb2 HX
  obtain ⟨f0, f1, f2, f3, f4⟩ := HX2.out
  go_wp2_with fail
  refine (hln.out _ hb3).mono ?_
  rintro e w3 ⟨rfl, hb4⟩
  have hb5 := bel_next hb3 hb4
  have HX3 := Lib.hid (HX2.out.later hb4)
  clear f0 f1 f2 f3 f4 hln hb3 hb4 HX2
  obtain ⟨f0, f1, f2, f3, f4⟩ := HX3.out
  have ha' : a < L := by omega
  go_wp2_with fail
  refine (hrd.out _ hb5).mono ?_
  rintro e w4 ⟨p, nx, rfl, hpr, hpo, hb6, hpa, hpn, hnx⟩
  have hs5 := hb5.size
  have hb7 := bel_next hb5 hb6
  have hG := Lib.hid (HG.out _ _ hpr)
  have hPA := Lib.hid (show ∀ g, g < w.heap.size → AwayP p g from fun g h => hpa g (by omega))
  clear f0 f1 f2 f3 f4 hrd HX3 HG hpr hb5 hb6 hpa h0 h1 h2
  by_cases h6 : p.n ≤ 6
  · have h6' : ((p.n : Int) ≤ 6) = True := by simp; omega
    have hRn : R = none := by rw [← hG.out]; unfold Fra.takenL; simp only; rw [if_pos (.inl (by rw [hpo.len]; exact h6))]
    clear h6 hpo hG hPA
    go_wp2
    (try rw [Exit.noGoto_ret])
    go_ret3
    exact ⟨hb7, .inl ⟨hRn, rfl⟩⟩
  · have h6' : ((p.n : Int) ≤ 6) = False := by simp; omega
    obtain ⟨b, off, hA, hbB, hc0⟩ := hpo.here.cell (k := 0) (by omega)
    obtain ⟨b', off', hA', hbB', hc1⟩ := hpo.here.cell (k := 1) (by omega)
    rw [hA] at hA'
    injection hA' with hA'
    injection hA' with e1 e2
    subst e1 e2
    rw [Nat.add_zero] at hc0
    obtain ⟨u0, hu0⟩ : ∃ u0, (p.l.getD 0 0).toNat = u0 := ⟨_, rfl⟩
    obtain ⟨u1, hu1⟩ : ∃ u1, (p.l.getD 1 0).toNat = u1 := ⟨_, rfl⟩
    have hl0 : u0 < 256 := by rw [← hu0]; exact (p.l.getD 0 0).toNat_lt
    have hl1 : u1 < 256 := by rw [← hu1]; exact (p.l.getD 1 0).toNat_lt
    rw [show at8 p.l 0 = (u0 : Int) from congrArg Int.ofNat hu0] at hc0
    rw [show at8 p.l 1 = (u1 : Int) from congrArg Int.ofNat hu1] at hc1
    have h6'' : 6 < p.n := by omega
    have hrow : ∀ k, k < p.n → w4.cell? ⟨b, off + k, none⟩ = some (.int .u8 (at8 p.l k)) := fun k hk => by
      obtain ⟨b', off', hA', _, hck⟩ := hpo.here.cell hk
      rw [hA] at hA'
      injection hA' with hA'
      injection hA' with e1 e2
      subst e1 e2
      exact hck
    have Hrow := Lib.hid hrow
    have hf2 := hpo.here.first (k := 2) (by omega)
    have hd6 := hpo.here.cut (k := 6) (cap := p.c) (by omega) hpo.fits
    have hfits := hpo.fits
    have hmost := hpo.most
    unfold maxLen at hmost
    have Hpo := Lib.hid hpo
    have HA := Lib.hid hA
    rw [hA] at hf2 hd6
    obtain ⟨n, hn⟩ : ∃ n, u0 * 256 + u1 = n := ⟨_, rfl⟩
    have hni : (u0 : Int) * 256 + (u1 : Int) = (n : Int) := by omega
    have hn6 : n < 65536 := by omega
    have Hn := Lib.hid (show (p.l.getD 0 0).toNat * 256 + (p.l.getD 1 0).toNat = n by rw [hu0, hu1]; exact hn)
    have hal := fun W => allowed_any (n : Int) W
    rw [hA]
    clear hpo hrow hu0 hu1 hn hA
    go_wp2
    go_quiet (fail)
    have hb8 := below_drewN hb7 nq
    have hbq := below_drewN (Below.refl w4.heap.size w4) nq
    clear hc0 hc1 hni hl0 hl1
    go_wp2_with fail
    refine (hal _).mono ?_
    rintro e w5 ⟨rfl, rfl⟩
    cases hab : allowB (n : Int)
    · have hRn : R = none := by
        rw [← hG.out]
        unfold Fra.takenL
        simp only
        rw [Hn.out, if_pos]
        unfold allowB at hab
        simp at hab
        omega
      clear hal Hrow hf2 hd6 Hpo HA hG hPA
      go_wp2
      (try rw [Exit.noGoto_ret])
      go_ret3
      exact ⟨hb8, .inl ⟨hRn, rfl⟩⟩
    · have hn1 : 1 ≤ n ∧ n ≤ 4096 := by unfold allowB at hab; simp at hab; omega
      by_cases hlen : p.n = 6 + n
      · have hl1 : ((p.n : Int) != 6 + (n : Int)) = false := by rw [bne_eq_false_iff_eq]; omega
        have hp0 : (0 : Int) ≤ (p.n : Int) := by omega
        have hp6 : (6 : Int) ≤ (p.n : Int) := by omega
        have hpc : (p.n : Int) ≤ (p.c : Int) := by omega
        have hp66 : ¬ p.n = 6 := by omega
        have hp2 : (2 : Int) ≤ (p.c : Int) := by omega
        have Hlen := Lib.hid hlen
        clear hal hab hlen
        rw [if_neg (by omega), Option.map_some, addr_add] at hd6
        have hz4 := hb8.size
        have hs1 := sum_any (some ⟨b, off, none⟩) 2 p.c w4.heap.size (p.l.take 2) (w4.drewN nq) (htab.below hb8 htab.lt) (hf2.below hbq) hbq.size (by unfold maxLen; omega)
        go_wp2_with fail
        refine hs1.mono ?_
        rintro e w6 ⟨rfl, hb9⟩
        have hb9' := hb9
        have hb10 := hbq.trans (hb9.mono hbq.size)
        have hm1 := more_any (some ⟨b, off + 6, none⟩) (p.n - 6) (p.n - 6) w4.heap.size (p.l.drop 6) (Crc.more 0 (p.l.take 2)) w6 (htab.below (hb7.trans (hb10.mono hb7.size)) htab.lt) (hd6.below hb10) hb10.size (Crc.more_lt _ _) (by unfold maxLen; omega)
        clear hs1
        obtain ⟨s1, hs1⟩ : ∃ s1, Crc.more 0 (p.l.take 2) = s1 := ⟨_, rfl⟩
        rw [hs1] at hm1 ⊢
        obtain ⟨s2, hs2⟩ : ∃ s2, Crc.more s1 (p.l.drop 6) = s2 := ⟨_, rfl⟩
        rw [hs2] at hm1
        have hS := Lib.hid (show Crc.more 0 (p.l.take 2 ++ p.l.drop 6) = s2 by rw [← more_append 0 _ _ (by omega), hs1, hs2])
        have hslt : s2 < 4294967296 := by rw [← hs2]; exact Crc.more_lt _ _
        clear hs1 hs2
        go_wp2_with fail
        refine hm1.mono ?_
        rintro e w7 ⟨rfl, hb11⟩
        have hb12 := hb10.trans (hb11.mono hb10.size)
        have hlen4 := Hlen.out
        have hc2 := (hb12.cell (p := ⟨b, off + 2, none⟩) hbB).trans (Hrow.out 2 (by omega))
        have hc3 := (hb12.cell (p := ⟨b, off + 3, none⟩) hbB).trans (Hrow.out 3 (by omega))
        have hc4 := (hb12.cell (p := ⟨b, off + 4, none⟩) hbB).trans (Hrow.out 4 (by omega))
        have hc5 := (hb12.cell (p := ⟨b, off + 5, none⟩) hbB).trans (Hrow.out 5 (by omega))
        obtain ⟨u2, hu2⟩ : ∃ u2, (p.l.getD 2 0).toNat = u2 := ⟨_, rfl⟩
        obtain ⟨u3, hu3⟩ : ∃ u3, (p.l.getD 3 0).toNat = u3 := ⟨_, rfl⟩
        obtain ⟨u4, hu4⟩ : ∃ u4, (p.l.getD 4 0).toNat = u4 := ⟨_, rfl⟩
        obtain ⟨u5, hu5⟩ : ∃ u5, (p.l.getD 5 0).toNat = u5 := ⟨_, rfl⟩
        rw [show at8 p.l 2 = (u2 : Int) from congrArg Int.ofNat hu2] at hc2
        rw [show at8 p.l 3 = (u3 : Int) from congrArg Int.ofNat hu3] at hc3
        rw [show at8 p.l 4 = (u4 : Int) from congrArg Int.ofNat hu4] at hc4
        rw [show at8 p.l 5 = (u5 : Int) from congrArg Int.ofNat hu5] at hc5
        have hl2 : u2 < 256 := by rw [← hu2]; exact (p.l.getD 2 0).toNat_lt
        have hl3 : u3 < 256 := by rw [← hu3]; exact (p.l.getD 3 0).toNat_lt
        have hl4 : u4 < 256 := by rw [← hu4]; exact (p.l.getD 4 0).toNat_lt
        have hl5 : u5 < 256 := by rw [← hu5]; exact (p.l.getD 5 0).toNat_lt
        obtain ⟨E, hE⟩ : ∃ E, u2 + 256 * u3 + 65536 * u4 + 16777216 * u5 = E := ⟨_, rfl⟩
        have hor := le_or u2 u3 u4 u5 hl2 hl3 hl4 hl5
        rw [hE] at hor
        have hT : Fra.takenL p.l nx = if E = s2 then some (p.l.drop 6, nx) else none := by
          unfold Fra.takenL
          simp only
          rw [Hn.out, if_neg (by rw [Hpo.out.len]; omega), hS.out]
          have hq := le_laid (x2 := p.l.getD 2 0) (x3 := p.l.getD 3 0) (x4 := p.l.getD 4 0) (x5 := p.l.getD 5 0) hslt
          rw [hu2, hu3, hu4, hu5, hE] at hq
          rw [four_at (by rw [Hpo.out.len]; omega)]
          by_cases he : E = s2
          · rw [if_pos he, if_pos (hq.2 he)]
          · rw [if_neg he, if_neg (fun h => he (hq.1 h))]
        have HT := Lib.hid (hG.out.symm.trans hT)
        have hb13 := hb8.trans ((hb9'.trans (hb11.mono hb9'.size)).mono hb8.size)
        have hd7 := (hd6.below hb12).more hb12.size
        have hpq : PcT.Ok w7 w7.heap.size ⟨some ⟨b, off + 6, none⟩, p.n - 6, p.n - 6, p.l.drop 6⟩ := ⟨hd7, nofun, Nat.le_refl _, by unfold maxLen; show p.n - 6 ≤ _; omega⟩
        have hpw : ∀ g, g < w.heap.size → AwayP ⟨some ⟨b, off + 6, none⟩, p.n - 6, p.n - 6, p.l.drop 6⟩ g := fun g hg b' off' e hn => by
          injection e with e
          injection e with e1 e2
          have := hPA.out g hg b off HA.out (by omega)
          omega
        have HQ := Lib.hid (And.intro hpq hpw)
        have HK := Lib.hid (fun k => below_drewN hb13 k)
        clear hlen4 hm1 Hrow hT hpq hpw hd7 hd6 hf2 hE hu2 hu3 hu4 hu5 hb13 hb12 hb11 hb10 hb8 hb9' hbq hG hPA HA Hpo hS
        by_cases he : E = s2
        · have he1 : ((E : Int) != (s2 : Int)) = false := by rw [bne_eq_false_iff_eq]; omega
          have HR := Lib.hid (show R = some (p.l.drop 6, nx) by rw [HT.out, if_pos he])
          clear HT he
          go_wp2
          go_quiet (fail)
          go_wp2
          (try rw [Exit.noGoto_ret])
          go_ret3
          refine ⟨HK.out _, .inr ⟨⟨some ⟨b, off + 6, none⟩, p.n - 6, p.n - 6, p.l.drop 6⟩, nx, HR.out, rfl, ?_, HQ.out.2⟩⟩
          exact pc_keep HQ.out.1 (Nat.le_refl _) (fun _ _ _ _ _ => rfl)
        · have he1 : ((E : Int) != (s2 : Int)) = true := by rw [bne_iff_ne]; omega
          have HR := Lib.hid (show R = none by rw [HT.out, if_neg he])
          clear HT he
          go_wp2
          go_quiet (fail)
          go_wp2
          (try rw [Exit.noGoto_ret])
          go_ret3
          exact ⟨HK.out _, .inl ⟨HR.out, rfl⟩⟩
      · have hl1 : ((p.n : Int) != 6 + (n : Int)) = true := by rw [bne_iff_ne]; omega
        have hRn : R = none := by
          rw [← hG.out]
          unfold Fra.takenL
          simp only
          rw [Hn.out, if_pos]
          rw [Hpo.out.len]
          omega
        clear hal Hrow hf2 hd6 Hpo HA hG hPA hab hlen
        go_wp2
        (try rw [Exit.noGoto_ret])
        go_ret3
        exact ⟨hb8, .inl ⟨hRn, rfl⟩⟩
end Go.Proofs.YtghmehfmchadoaaDoor
/-
  Layer 11: the law's small helpers.
-/
namespace Go.Proofs.YtghmehfmchadoaaDoor
open Go.RowKit
set_option linter.unusedVariables false

/-- A row of bytes comes back, away from what lay before. -/
def NewP (l : List UInt8) (w : World) (e : Ending) (w' : World) : Prop :=
  ∃ p : PcT, e = .returned (.slice p.A p.n p.c) ∧ p.l = l ∧ p.Ok w' w'.heap.size ∧ Below w.heap.size w w' ∧ ∀ g, g < w.heap.size → AwayP p g
theorem new_of {l : List UInt8} {w : World} {e : Ending} {w' : World} (h : GivesBytes 5 l w e w') : NewP l w e w' := by
  obtain ⟨A, n, c, rfl, hown, hb⟩ := h
  obtain ⟨o1, o2, o3⟩ := own_facts hown
  exact ⟨⟨A, n, c, l⟩, rfl, rfl, ⟨Bytes.own hown, o1, o2, o3⟩, hb, fun g hg => own_away hown hg⟩
set_option maxRecDepth 20000 in
set_option maxHeartbeats 1000000 in
theorem few_any (p : PcT) (k B : Nat) (w : World) (hp : p.Ok w B) (hB : B ≤ w.heap.size) (hk : k ≤ 100000) :
    Calls Tryd.prog 10 #[.slice p.A p.n p.c, .int .i64 (k : Nat)] w (NewP (p.l.take k) w) := by
  have hc := hp.most
  have hn := hp.fits
  unfold maxLen at hc
  by_cases h4 : p.n ≤ k
  · have hl : p.l.take k = p.l := List.take_of_length_le (by rw [hp.len]; exact h4)
    rw [hl]
    have hcl := Lib.hid (clone_any p.A p.n p.c p.l B w hp.here hp.nil hB (by omega))
    clear hl hp
    have hm : min (p.n : Int) (k : Int) = (p.n : Int) := by omega
    have hm2 : min p.n k = p.n := by omega
    go_enter Tryd.func10, Tryd.ntmps10
    go_wp2_with fail
    refine hcl.out.mono ?_
    intro e w1 h
    obtain ⟨q, rfl, hq⟩ := new_of h
    have HQ := Lib.hid hq
    clear hq h
    go_wp2
    go_ret
    exact ⟨q, rfl, HQ.out⟩
  · have hm : min (p.n : Int) (k : Int) = (k : Int) := by omega
    have hm2 : min p.n k = k := by omega
    have hkn : k < p.n := by omega
    have hkn2 : ((p.n : Int) < (k : Int)) = False := by simp; omega
    have hkn3 : ((p.n : Int) ≤ (k : Int)) = False := by simp; omega
    have hcl := Lib.hid (clone_any p.A k p.c (p.l.take k) B w (hp.here.first (k := k) (by omega)) hp.nil hB (by omega))
    have h5 : (k : Int) ≤ (p.c : Int) := by omega
    clear hp h4
    go_enter Tryd.func10, Tryd.ntmps10
    go_wp2_with fail
    refine hcl.out.mono ?_
    intro e w1 h
    obtain ⟨q, rfl, hq⟩ := new_of h
    have HQ := Lib.hid hq
    clear hq h
    go_wp2
    go_ret
    exact ⟨q, rfl, HQ.out⟩
/-- A file of durable bytes. -/
def firmF (p : PcT) : FileT := ⟨p, none, 0, 0, [], -1, -1, false⟩
theorem firm_lie {p : PcT} {w : World} (h : p.Ok w w.heap.size) : LieF w w.heap.size (firmF p) := lie_syn h (by decide) (by decide)
theorem firm_s (p : PcT) : (firmF p).s = ⟨p.l, [], -1, -1, false⟩ := rfl
theorem firm_all (p : PcT) : (firmF p).all = p.l := by unfold FileT.all firmF; simp [joinP]
theorem firm_right {p : PcT} {w : World} (h : p.Ok w w.heap.size) (hn : p.n ≤ 524288) : (firmF p).right = true := by
  unfold FileT.right firmF FileT.long lenGo
  simp
  exact hn
theorem firm_away {p : PcT} {g : Nat} (h : AwayP p g) : AwayF (firmF p) g := ⟨h, fun b off e hn => absurd hn (Nat.lt_irrefl 0), fun q hq => (List.not_mem_nil hq).elim⟩
set_option maxRecDepth 20000 in
set_option maxHeartbeats 1000000 in
theorem firm_any (p : PcT) (w : World) :
    Calls Tryd.prog 22 #[.slice p.A p.n p.c] w fun e w' => e = .returned (firmF p).agg ∧ Below w.heap.size w w' := by
  simp only [firmF, FileT.agg, PcT.val]
  have hb1 := bel_alloc (Below.refl w.heap.size w) (.cells #[.slice none 0 0, .slice none 0 0, .int .i64 0, .int .i64 0, .bool false] 25)
  have hbe := Lib.hid (fbelow_set5 (a := .slice p.A p.n p.c) (b := .slice none 0 0) (c := .int .i64 (-1)) (d := .int .i64 (-1)) (e := .bool false) hb1 (Nat.le_refl w.heap.size))
  go_enter Tryd.func22, Tryd.ntmps22
  go_wp2
  refine bodyPost_ret (v := .agg #[.slice p.A p.n p.c, .slice none 0 0, .int .i64 (-1), .int .i64 (-1), .bool false]) ?_ rfl ⟨rfl, ?_⟩
  · simp [results, Tryd.results22, go_sem]
  · exact bel_alloc (Below.refl w.heap.size w) _
set_option maxRecDepth 20000 in
set_option maxHeartbeats 2000000 in
theorem said_any (X : FileT) (B : Nat) (w : World) (hL : LieF w B X) (hB : B ≤ w.heap.size) (hr : X.right = true) :
    Calls Tryd.prog 23 #[X.agg] w (RowP X X.all w) := by
  have hb1 := bel_alloc (Below.refl w.heap.size w) (.cells #[.slice X.F.A X.F.n X.F.c, .slice X.lA X.ln X.lc, .int .i64 X.fuse, .int .i64 X.fault, .bool X.off] 25)
  have HX := FBox.new w X 25
  obtain ⟨hlong, hmax⟩ := right_all hL hr
  have hln1 := fun W (h : Below w.heap.size w W) => lenF_any X B W (hL.later (h.mono hB)) (Nat.le_trans hB h.size) (right_rows hL hr).1
  have hrd1 := fun W (h : Below w.heap.size w W) => readF_ok X 0 X.all.length B W (hL.later (h.mono hB)) (Nat.le_trans hB h.size) (right_rows hL hr).1 hr (by rw [hlong]; omega)
  rw [hr, hlong] at hln1
  simp only [if_true] at hln1
  have HBT := Lib.hid (show between X.all 0 (0 + X.all.length) = X.all by unfold between; rw [Nat.zero_add, List.take_length, List.drop_zero])
  have e0 : ((0 : Nat) : Int) = 0 := rfl
  rw [e0] at hrd1
  simp only [FileT.agg, PcT.val] at hln1 hrd1 ⊢
  generalize X.all.length = L at *
  go_enter Tryd.func23, Tryd.ntmps23
  go_upto_region 1 with fail
  generalize hW0 : w.alloc (.cells #[.slice X.F.A X.F.n X.F.c, .slice X.lA X.ln X.lc, .int .i64 X.fuse, .int .i64 X.fault, .bool X.off] 25) = W0 at *
  clear hW0
  have hln := Lib.hid (fun W (h : Below W0.heap.size W0 W) => hln1 W (hb1.trans (h.mono hb1.size)))
  have hrd := Lib.hid (fun W (h : Below W0.heap.size W0 W) => hrd1 W (hb1.trans (h.mono hb1.size)))
  have x0 : ∀ W, Below W0.heap.size W0 W → W.cell? ⟨w.heap.size, 0, none⟩ = some (.slice X.F.A X.F.n X.F.c) := fun W h => (HX.later h).1
  have x1 : ∀ W, Below W0.heap.size W0 W → W.cell? ⟨w.heap.size, 1, none⟩ = some (.slice X.lA X.ln X.lc) := fun W h => (HX.later h).2.1
  have x2 : ∀ W, Below W0.heap.size W0 W → W.cell? ⟨w.heap.size, 2, none⟩ = some (.int .i64 X.fuse) := fun W h => (HX.later h).2.2.1
  have x3 : ∀ W, Below W0.heap.size W0 W → W.cell? ⟨w.heap.size, 3, none⟩ = some (.int .i64 X.fault) := fun W h => (HX.later h).2.2.2.1
  have x4 : ∀ W, Below W0.heap.size W0 W → W.cell? ⟨w.heap.size, 4, none⟩ = some (.bool X.off) := fun W h => (HX.later h).2.2.2.2
  clear HX hL hr hlong
  clear hln1 hrd1
  refine wp_region_held_drew (S := fun W => Below W0.heap.size W0 W) (by kernel_rfl) (below_drewN (Below.refl _ _) 1) (fun hHeld => ?_)
  refine rg_in 0 rfl (by kernel_rfl) (by kernel_rfl) (by kernel_rfl) (by rfl) (v := ?_) (fun _ _ _ h => h) hHeld (fun w hSw => ?_) ?_
  rotate_left
  · (try dsimp only at hSw); go_simp <;> (with_reducible rfl)
  (try simp only [Act.put, List.setIfInBounds_toArray, List.set_cons_zero, List.set_cons_succ])
  refine rg_in 1 rfl (by kernel_rfl) (by kernel_rfl) (by kernel_rfl) (by rfl) (v := ?_) (fun _ _ _ h => h) hHeld (fun w hSw => ?_) ?_
  rotate_left
  · (try dsimp only at hSw); go_simp <;> (with_reducible rfl)
  (try simp only [Act.put, List.setIfInBounds_toArray, List.set_cons_zero, List.set_cons_succ])
  refine rg_do 2 rfl (by kernel_rfl) (by rfl) (fun K hK => ?_)
  go_simp
  (go_at_call 24; (with_reducible refine (hln.out _ hHeld).mono ?_); (rintro e w102 ⟨rfl, hb2⟩))
  refine hK.out _ _ (S_call hb2 hHeld rfl) (fun hHeld => ?_)
  clear hK K
  (try simp only [Act.put, List.setIfInBounds_toArray, List.set_cons_zero, List.set_cons_succ])
  refine rg_do 3 rfl (by kernel_rfl) (by rfl) (fun K hK => ?_)
  go_simp
  (go_at_call 45; (with_reducible refine (hrd.out _ hHeld).mono ?_); (rintro e w103 ⟨p, rfl, hpl, hpo, hb3, hpa⟩))
  refine hK.out _ _ (S_call hb3 hHeld rfl) (fun hHeld => ?_)
  clear hK K
  (try simp only [Act.put, List.setIfInBounds_toArray, List.set_cons_zero, List.set_cons_succ])
  refine rg_in 4 rfl (by kernel_rfl) (by kernel_rfl) (by kernel_rfl) (by rfl) (v := ?_) (fun _ _ _ h => h) hHeld (fun w hSw => ?_) ?_
  rotate_left
  · (try dsimp only at hSw); go_simp <;> (with_reducible rfl)
  (try simp only [Act.put, List.setIfInBounds_toArray, List.set_cons_zero, List.set_cons_succ])
  refine rg_in 5 rfl (by kernel_rfl) (by kernel_rfl) (by kernel_rfl) (by rfl) (v := ?_) (fun _ _ _ h => h) hHeld (fun w hSw => ?_) ?_
  rotate_left
  · (try dsimp only at hSw); go_simp <;> (with_reducible rfl)
  (try simp only [Act.put, List.setIfInBounds_toArray, List.set_cons_zero, List.set_cons_succ])
  refine rg_in 6 rfl (by kernel_rfl) (by kernel_rfl) (by kernel_rfl) (by rfl) (v := ?_) (fun _ _ _ h => h) hHeld (fun w hSw => ?_) ?_
  rotate_left
  · (try dsimp only at hSw); go_simp <;> (with_reducible rfl)
  (try simp only [Act.put, List.setIfInBounds_toArray, List.set_cons_zero, List.set_cons_succ])
  refine rg_in 7 rfl (by kernel_rfl) (by kernel_rfl) (by kernel_rfl) (by rfl) (v := ?_) (fun _ _ _ h => h) hHeld (fun w hSw => ?_) ?_
  rotate_left
  · (try dsimp only at hSw); go_simp <;> (with_reducible rfl)
  (try simp only [Act.put, List.setIfInBounds_toArray, List.set_cons_zero, List.set_cons_succ])
  refine rg_in 8 rfl (by kernel_rfl) (by kernel_rfl) (by kernel_rfl) (by rfl) (v := ?_) (fun _ _ _ h => h) hHeld (fun w hSw => ?_) ?_
  rotate_left
  · (try dsimp only at hSw); go_simp <;> (with_reducible rfl)
  (try simp only [Act.put, List.setIfInBounds_toArray, List.set_cons_zero, List.set_cons_succ])
  refine wpAnyH_done (by kernel_rfl) ?_ _
  have HH := Lib.hid hHeld
  have hs1 := hb1.size
  have HP := Lib.hid (show p.l = X.all ∧ p.Ok w103 w103.heap.size ∧ Below w.heap.size w w103 ∧ ∀ g, g < w.heap.size → AwayF X g → AwayP p g from ⟨by rw [hpl]; exact HBT.out, hpo, hb1.trans (hHeld.mono hb1.size), fun g hg ha => hpa g (by have := hb2.size; have : W0.heap.size ≤ w102.heap.size := this; omega) ha⟩)
  clear hHeld x0 x1 x2 x3 x4 hpl hpo hpa hb2 hb3 hln hrd HH
  go_wp2
  go_ret
  exact ⟨p, rfl, HP.out⟩
end Go.Proofs.YtghmehfmchadoaaDoor
