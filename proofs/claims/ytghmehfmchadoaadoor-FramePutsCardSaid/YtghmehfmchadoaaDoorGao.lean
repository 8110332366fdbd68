import Derived.Test.YtghmehfmchadoaaDoorGam
import Derived.Test.YtghmehfmchadoaaDoorGan
import Derived.Test.YtghmehfmchadoaaDoorGah
import Derived.Test.YtghmehfmchadoaaDoorGaj
/-
  Layer 11, the law FrameGets: the walk.
-/
namespace Go.Proofs.YtghmehfmchadoaaDoor
open Go.RowKit
set_option linter.unusedVariables false

theorem refGet_any (A : Option Addr) (n c B : Nat) (l : List UInt8) (a : Int) (w : World) (hp : PcT.Ok w B ⟨A, n, c, l⟩) (hB : B ≤ w.heap.size) (hn : n ≤ 1000000) :
    Calls Tryd.prog 21 #[.slice A n c, .int .i64 a] w (RGetP (getZ l a) w) := by
  unfold getZ
  by_cases h0 : a < 0
  · rw [if_pos h0]
    exact refGet_no A n c B l a w hp hB hn (.inl h0)
  · rw [if_neg h0]
    obtain ⟨k, rfl⟩ : ∃ k : Nat, a = (k : Int) := ⟨a.toNat, by omega⟩
    rw [Int.toNat_natCast]
    unfold Fra.getL
    cases hs : Fra.startB l k
    · rw [if_neg (by decide)]
      exact refGet_no A n c B l k w hp hB hn (.inr (by rw [Int.toNat_natCast]; exact hs))
    · rw [if_pos rfl]
      exact refGet_in A n c B l k w hp hB hn hs
/-- Get, at any offset. -/
theorem get_any (X : FileT) (a : Int) (B : Nat) (w : World) (htab : Tab w) (hL : LieF w B X) (hB : B ≤ w.heap.size) (hr : X.right = true) :
    Calls Tryd.prog 20 #[X.agg, .int .i64 a] w (GetP (getZ X.all a) w) := by
  by_cases h : a < 0 ∨ (X.all.length : Int) ≤ a ∨ a % 64 = 0
  · have hz : getZ X.all a = none := by
      unfold getZ
      by_cases h0 : a < 0
      · rw [if_pos h0]
      · rw [if_neg h0]
        unfold Fra.getL Fra.startB
        rcases h.resolve_left h0 with h1 | h1
        · rw [decide_eq_false (by omega)]; rfl
        · rw [show (a.toNat % 64 == 0) = true by rw [beq_iff_eq]; omega]
          rw [if_neg (by simp)]
    rw [hz]
    refine (get_no X a B w hL hB hr h).mono ?_
    rintro e w' ⟨rfl, hb⟩
    exact ⟨hb, .inl ⟨rfl, rfl⟩⟩
  · obtain ⟨k, rfl⟩ : ∃ k : Nat, a = (k : Int) := ⟨a.toNat, by omega⟩
    unfold getZ
    rw [if_neg (by omega), Int.toNat_natCast]
    exact get_in X k B w htab hL hB hr (by omega) (by omega)
set_option maxRecDepth 100000 in
set_option maxHeartbeats 4000000 in
theorem frameGets_walk (w : World) (X : FileT) (hX : LieF w w.heap.size X) (a : Int) (wa : (Lit.int .i64 a).wf = true) (htab : Tab w) :
    Calls Tryd.prog 4 #[X.agg, .int .i64 a] w fun e w' => e = .returned (.bool true) ∧ Below w.heap.size w w' := by
  have hb0 := bel_alloc (Below.refl w.heap.size w) (.cells #[.slice X.F.A X.F.n X.F.c, .slice X.lA X.ln X.lc, .int .i64 X.fuse, .int .i64 X.fault, .bool X.off] 25)
  have HX := Lib.hid (FBox.new w X 25)
  have HXL := Lib.hid hX
  have Htab := Lib.hid htab
  simp only [FileT.agg, PcT.val]
  clear hX
  go_enter Tryd.func4, Tryd.ntmps4
  go_wp2_with fail
  generalize w.alloc (.cells #[.slice X.F.A X.F.n X.F.c, .slice X.lA X.ln X.lc, .int .i64 X.fuse, .int .i64 X.fault, .bool X.off] 25) = W1 at *
  refine (wakes_any W1 (htab.below hb0 htab.lt)).mono ?_
  rintro e W2 ⟨rfl, hb1⟩
  have hb2 := bel_next hb0 hb1
  obtain ⟨f0, f1, f2, f3, f4⟩ := HX.out.later hb1
  have hso := some_any X w.heap.size W2 (HXL.out.later hb2) hb2.size
  simp only [FileT.agg, PcT.val] at hso
  clear hb0 hb1 HX htab
  go_wp2_with fail
  refine hso.mono ?_
  rintro e W3 ⟨Y, rfl, hYs, hYL, hb3, hYa, hYn, hYln⟩
  clear hso f0 f1 f2 f3 f4
  have hb4 := bel_alloc (bel_next hb2 hb3) (.cells #[.slice Y.F.A Y.F.n Y.F.c, .slice Y.lA Y.ln Y.lc, .int .i64 Y.fuse, .int .i64 Y.fault, .bool Y.off] 25)
  have HY := Lib.hid (FAt.new hYL 25)
  have hYq : ∀ p ∈ Y.Q, p.n ≤ 1048576 := fun p hp => by have := hYn p hp; omega
  have Hq := Lib.hid hYq
  clear hb2 hb3 hYL hYa hYs hYln hYn hYq HXL
  go_upto_region 4 with fail
  generalize W3.alloc (.cells #[.slice Y.F.A Y.F.n Y.F.c, .slice Y.lA Y.ln Y.lc, .int .i64 Y.fuse, .int .i64 Y.fault, .bool Y.off] 25) = W4 at *
  generalize W3.heap.size = g at *
  obtain ⟨⟨f0, f1, f2, f3, f4⟩, -⟩ := HY.out.v
  cases hr : Y.right
  · have hge := get_bad Y a W4.heap.size W4 HY.out.l (Nat.le_refl _) Hq.out hr
    simp only [FileT.agg, PcT.val] at hge
    go_wp2_with fail
    refine hge.mono ?_
    rintro e W5 ⟨rfl, hb5⟩
    clear hge f0 f1 f2 f3 f4
    have HY5 := Lib.hid (HY.out.later hb5)
    have hb6 := bel_next hb4 hb5
    obtain ⟨⟨f0, f1, f2, f3, f4⟩, -⟩ := HY5.out.v
    have hch := checkF_any Y W5.heap.size W5 HY5.out.l (Nat.le_refl _) Hq.out
    rw [hr] at hch
    simp only [FileT.agg, PcT.val] at hch
    clear hb4 hb5 HY hr
    go_wp2_with fail
    refine hch.mono ?_
    rintro e W6 ⟨rfl, hb7⟩
    have hb8 := bel_next hb6 hb7
    clear hch f0 f1 f2 f3 f4 hb6 hb7 HY5 Hq
    go_wp2
    go_ret
    exact ⟨rfl, hb8⟩
  · have hge := get_any Y a W4.heap.size W4 (Htab.out.below hb4 Htab.out.lt) HY.out.l (Nat.le_refl _) hr
    obtain ⟨R, hR⟩ : ∃ R, getZ Y.all a = R := ⟨_, rfl⟩
    rw [hR] at hge
    have HR := Lib.hid hR
    have Hr := Lib.hid hr
    clear hR hr
    simp only [FileT.agg, PcT.val] at hge
    go_wp2_with fail
    refine hge.mono ?_
    rintro e W5 ⟨hb5, hcase⟩
    clear hge f0 f1 f2 f3 f4
    have HY5 := Lib.hid (HY.out.later hb5)
    have hb6 := bel_next hb4 hb5
    obtain ⟨⟨f0, f1, f2, f3, f4⟩, -⟩ := HY5.out.v
    have hch := checkF_any Y W5.heap.size W5 HY5.out.l (Nat.le_refl _) Hq.out
    rw [if_pos Hr.out] at hch
    simp only [FileT.agg, PcT.val] at hch
    clear hb4 hb5 HY
    rcases hcase with ⟨hRn, rfl⟩ | ⟨p, nx, hRs, rfl, hpo, hpa⟩
    · go_wp2_with fail
      refine hch.mono ?_
      rintro e W6 ⟨rfl, hb7⟩
      have hb8 := bel_next hb6 hb7
      have HY6 := Lib.hid (HY5.out.later hb7)
      clear hch f0 f1 f2 f3 f4 hb6 hb7 HY5 Hq
      obtain ⟨⟨f0, f1, f2, f3, f4⟩, -⟩ := HY6.out.v
      have hby := refBytes_any Y W6.heap.size W6 HY6.out.l (Nat.le_refl _) Hr.out
      simp only [FileT.agg, PcT.val] at hby
      obtain ⟨hlong, hmax⟩ := right_all HY6.out.l Hr.out
      rw [hlong] at hby
      clear hlong
      go_wp2_with fail
      refine hby.mono ?_
      rintro e W7 ⟨A7, c7, rfl, HO7, hb9⟩
      obtain ⟨q1, q2, q3⟩ := own_facts HO7.out
      have hrg := refGet_any A7 Y.all.length c7 W7.heap.size Y.all a W7 ⟨Bytes.own HO7.out, q1, q2, q3⟩ (Nat.le_refl _) (by omega)
      rw [HR.out, hRn] at hrg
      have hb10 := bel_next hb8 hb9
      clear hby f0 f1 f2 f3 f4 hb8 hb9 HY6 q1 q2 q3 HO7
      generalize Y.all.length = len at *
      go_wp2_with fail
      refine hrg.mono ?_
      rintro e W8 ⟨hb11, ⟨-, rfl⟩ | ⟨p, nx, hno, -⟩⟩
      · have hb12 := bel_next hb10 hb11
        clear hrg hb10 hb11
        go_wp2
        go_ret
        exact ⟨rfl, hb12⟩
      · cases hno
    · have HPO := Lib.hid hpo
      clear hpo hpa
      go_wp2_with fail
      refine hch.mono ?_
      rintro e W6 ⟨rfl, hb7⟩
      have hb8 := bel_next hb6 hb7
      have HY6 := Lib.hid (HY5.out.later hb7)
      have HPO6 := Lib.hid ((HPO.out.later hb7).more hb7.size)
      clear hch f0 f1 f2 f3 f4 hb6 hb7 HY5 Hq HPO
      obtain ⟨⟨f0, f1, f2, f3, f4⟩, -⟩ := HY6.out.v
      have hby := refBytes_any Y W6.heap.size W6 HY6.out.l (Nat.le_refl _) Hr.out
      simp only [FileT.agg, PcT.val] at hby
      obtain ⟨hlong, hmax⟩ := right_all HY6.out.l Hr.out
      rw [hlong] at hby
      clear hlong
      go_wp2_with fail
      refine hby.mono ?_
      rintro e W7 ⟨A7, c7, rfl, HO7, hb9⟩
      obtain ⟨q1, q2, q3⟩ := own_facts HO7.out
      have hrg := refGet_any A7 Y.all.length c7 W7.heap.size Y.all a W7 ⟨Bytes.own HO7.out, q1, q2, q3⟩ (Nat.le_refl _) (by omega)
      rw [HR.out, hRs] at hrg
      have hb10 := bel_next hb8 hb9
      have HPO7 := Lib.hid ((HPO6.out.later hb9).more hb9.size)
      clear hby f0 f1 f2 f3 f4 hb8 hb9 HY6 q1 q2 q3 HO7 HPO6
      generalize Y.all.length = len at *
      go_wp2_with fail
      refine hrg.mono ?_
      rintro e W8 ⟨hb11, ⟨hno, -⟩ | ⟨q, mx, hyes, rfl, hqo⟩⟩
      · cases hno
      · injection hyes with hyes
        injection hyes with hyl hyn
        subst hyn
        have hpo := (HPO7.out.later hb11).more hb11.size
        have heq := equal_any p.A q.A p.n p.c q.n q.c p.l q.l W8.heap.size W8.heap.size W8 hpo.here hqo.here (Nat.le_trans hpo.fits hpo.most) (Nat.le_trans hqo.fits hqo.most)
        rw [show sameB p.l q.l = true by unfold sameB; exact decide_eq_true hyl] at heq
        have hb12 := bel_next hb10 hb11
        have hnx : ((nx : Int) == (nx : Int)) = true := beq_self_eq_true _
        clear hrg hb10 hb11 hpo hqo HPO7 hyl
        go_wp2_with fail
        refine heq.mono ?_
        rintro e W9 ⟨rfl, k, rfl⟩
        clear heq
        go_wp2
        go_ret
        exact ⟨rfl, below_drewN hb12 k⟩
end Go.Proofs.YtghmehfmchadoaaDoor
/-
  Layer 11: the reference's Lay.
-/
namespace Go.Proofs.YtghmehfmchadoaaDoor
open Go.RowKit
set_option linter.unusedVariables false

def lenV : Value → Nat
  | .slice _ n _ => n
  | _ => 0
theorem piece_lay (all b : List UInt8) (hb : b ≠ []) : Fra.pieceL all b = List.replicate (Fra.padN all) 0 ++ Fra.layP (Fra.frontN all) b := by
  unfold Fra.pieceL Fra.aheadL Fra.atN
  have hf : Fra.frontN all = all.length + Fra.padN all := rfl
  cases b with
  | nil => exact absurd rfl hb
  | cons x l =>
    by_cases h : Fra.frontN all % 64 = 0
    · rw [if_pos h, show Fra.frontN all + 1 - all.length = Fra.padN all + 1 by omega, Fra.layP_at x l h, Fra.layP_in x l (by omega), List.replicate_succ', List.append_assoc]
      rfl
    · rw [if_neg h, show Fra.frontN all - all.length = Fra.padN all by omega]
theorem rep_bv (n : Nat) : (List.replicate n (0 : UInt8)).map bv = List.replicate n (.int .u8 0) := by rw [List.map_replicate]; rfl
/-- What 'Lay' gives. -/
def LayP (T : List UInt8) (a : Nat) (w : World) (e : Ending) (w' : World) : Prop :=
  ∃ (A : Option Addr) (c : Nat), e = .returned (.tuple #[.slice A T.length c, .int .i64 (a : Nat)]) ∧ Hid (w'.ownsRow w.heap.size 5 1 (.slice A T.length c) T.length (T.map bv)) ∧ Below w.heap.size w w'
set_option maxRecDepth 100000 in
set_option maxHeartbeats 8000000 in
theorem refLay_any (Aa : Option Addr) (n ca : Nat) (la : List UInt8) (Ab : Option Addr) (bn cb : Nat) (lb : List UInt8) (B : Nat) (w : World) (hpa : PcT.Ok w B ⟨Aa, n, ca, la⟩) (hpb : PcT.Ok w B ⟨Ab, bn, cb, lb⟩) (hB : B ≤ w.heap.size) (hn : n ≤ 1000000) (hbn : 1 ≤ bn ∧ bn ≤ 5000) :
    Calls Tryd.prog 15 #[.slice Aa n ca, .slice Ab bn cb] w (LayP (Fra.pieceL la lb) (Fra.atN la) w) := by
  obtain ⟨i0, hi, hz0, hz1, hz2⟩ := u8_info
  have hlen : la.length = n := hpa.len
  have hblen : lb.length = bn := hpb.len
  obtain ⟨T, hTT⟩ : ∃ T, Fra.pieceL la lb = T := ⟨_, rfl⟩
  rw [hTT]
  rw [piece_lay la lb (fun e => by rw [e] at hblen; simp at hblen; omega)] at hTT
  have HTT := Lib.hid hTT
  have HPb := Lib.hid hpb
  have Hpa := Lib.hid hpa
  clear hTT hpb hpa hblen
  by_cases h0 : n % 64 = 0
  · have h0' : ((n : Int) % 64 != 0) = false := by rw [bne_eq_false_iff_eq]; omega
    have hpad : Fra.padN la = 0 := by unfold Fra.padN; rw [if_neg (by rw [hlen]; omega)]
    clear h0
    go_enter Tryd.func15, Tryd.ntmps15
    have HF := Lib.hid (show Fra.atN la = (if (n + 0) % 64 = 0 then n + 0 + 1 else n + 0) ∧ True from ⟨by unfold Fra.atN Fra.frontN; rw [hpad, hlen], trivial⟩)
    have HT0 := Lib.hid (show List.replicate 0 0 ++ Fra.layP (n + 0) lb = T by rw [← HTT.out, ← hpad]; unfold Fra.frontN; rw [hlen])
    clear hpad
    go_wp2_with fail
    go_loopw [6, 8, 9] (fun ov av iv wr => ∃ (i m : Nat) (A : Option Addr) (c : Nat) (o : List UInt8) (z : Int), i ≤ bn ∧ m ≤ 64 + 2 * i ∧ iv = .int .i64 i ∧ ov = .slice A m c ∧ av = .int .i64 z ∧ Hid (o.length = m) ∧ Hid (wr.ownsRow w.heap.size 5 1 (.slice A m c) m (o.map bv)) ∧ Hid (o ++ Fra.layP (n + m) (lb.drop i) = T) ∧ Hid (i ≠ 0 → z = (Fra.atN la : Nat)) ∧ Hid (i = 0 → m = 0) ∧ Below w.heap.size w wr) (fun _ _ iv _ => bn - (intOf iv).toNat)
    case atStart => exact ⟨0, 0, none, 0, [], -1, Nat.zero_le _, by omega, rfl, rfl, rfl, Lib.hid (by simp), Lib.hid (World.ownsRow_nil w w.heap.size 5 1), HT0, Lib.hid (fun h => absurd rfl h), Lib.hid (fun _ => rfl), Below.refl _ _⟩
    case round =>
      obtain ⟨i, m, A, c, o, z, hi', hm, rfl, rfl, rfl, HM, HO, HA, HT, HZ, hbr⟩ := hrel
      rename World => wr
      have hi0 : (0 : Int) ≤ (i : Int) := by omega
      by_cases hlt : i < bn
      · have hlt' : (i : Int) < (bn : Int) := by omega
        have hdr := drop_head (l := lb) (i := i) (by rw [HPb.out.len]; exact hlt)
        obtain ⟨u, hu⟩ : ∃ u, lb.getD i 0 = u := ⟨_, rfl⟩
        have hat : at8 lb i = (u.toNat : Int) := by unfold at8; rw [hu]
        rw [hu] at hdr
        clear hu
        by_cases h64 : (n + m) % 64 = 0
        · by_cases hf0 : i = 0
          · have hf : ((i : Int) == 0) = true := by rw [beq_iff_eq]; omega
            have Hf0 := Lib.hid hf0
            clear hf0
            have h64b : (((n : Int) + (m : Int)) % 64 == 0) = true := by rw [beq_iff_eq]; omega
            have HA2 := Lib.hid (show (o ++ [0] ++ [u]) ++ Fra.layP (n + (m + 2)) (lb.drop (i + 1)) = T by rw [← HA.out, hdr, Fra.layP_at _ _ h64]; simp [Nat.add_assoc])
            clear HA hdr
            have hba7 := bel_alloc (Below.refl wr.heap.size wr) (.cells #[.int .u8 0] 5)
            have n17 := own_later HO.out hba7
            have s17 := shows_new' wr #[.int .u8 0] 5 1 1 rfl
            have z17 : w.heap.size ≤ (wr.alloc (.cells #[.int .u8 0] 5)).heap.size := Nat.le_trans hbr.size hba7.size
            have hX7 := hbr.trans (hba7.mono hbr.size)
            have g17 : m + 1 ≤ maxLen := by unfold maxLen; omega
            have g27 : (m + 1) * 1 ≤ 140737488355328 := by omega
            clear hba7
            go_upto_region 12 with (at_builtin; refine wpList_append_shows _ rfl _ _ 22 rfl w.heap.size 5 i0 (.int .u8 0) 1 1 Tryd.underlying22 hi hz0 hz1 hz2 rfl (by decide) _ _ _ rfl n17 _ _ 1 _ _ rfl s17 (by intro x hx; rw [List.mem_singleton.1 hx]; rfl) g17 g27 z17 ?_; intro A7 c7 w7 hown7 hgrow7 hb7; have HO7 := Lib.hid hown7; have hY7 := hX7.trans hb7; clear hown7 hgrow7 n17 s17 z17 hb7 hX7)
            obtain ⟨b3, off3, e3, _, hc3⟩ := ((HPb.out.here.more hB).below hY7).cell (k := i) (by show i < bn; exact hlt)
            replace e3 : Ab = some ⟨b3, off3, none⟩ := e3
            rw [hat] at hc3
            subst e3
            have hba8 := bel_alloc (Below.refl w7.heap.size w7) (.cells #[.int .u8 (u.toNat : Int)] 5)
            have n18 := own_later HO7.out hba8
            have s18 := shows_new' w7 #[.int .u8 (u.toNat : Int)] 5 1 1 rfl
            have z18 : w.heap.size ≤ (w7.alloc (.cells #[.int .u8 (u.toNat : Int)] 5)).heap.size := Nat.le_trans hY7.size hba8.size
            have hX8 := hY7.trans (hba8.mono hY7.size)
            have g18 : (m + 1) + 1 ≤ maxLen := by unfold maxLen; omega
            have g28 : ((m + 1) + 1) * 1 ≤ 140737488355328 := by omega
            clear hba8
            go_wp2_with (at_builtin; refine wpList_append_shows _ rfl _ _ 22 rfl w.heap.size 5 i0 (.int .u8 0) 1 1 Tryd.underlying22 hi hz0 hz1 hz2 rfl (by decide) _ _ _ rfl n18 _ _ 1 _ _ rfl s18 (by intro x hx; rw [List.mem_singleton.1 hx]; rfl) g18 g28 z18 ?_; intro A8 c8 w8 hown8 hgrow8 hb8; have HO8 := Lib.hid hown8; have hY8 := hX8.trans hb8; clear hown8 hgrow8 n18 s18 z18 hb8 hX8)
            go_roundw
            case rel => exact ⟨i + 1, m + 2, A8, c8, o ++ [0] ++ [u], _, by omega, by omega, by go_num, rfl, rfl, Lib.hid (by simp [HM.out]), Lib.hid (by rw [List.map_append, List.map_append]; exact HO8.out), HA2, Lib.hid (by intro _; have h1 := HF.out; have h2 := HZ.out Hf0.out; rw [h1.1]; rw [if_pos (by omega)]; omega), Lib.hid (fun h => absurd h (by omega)), hY8⟩
            case measure => simp [intOf]; omega
          · have hf : ((i : Int) == 0) = false := by rw [beq_eq_false_iff_ne]; omega
            have Hf0 := Lib.hid hf0
            clear hf0
            have h64b : (((n : Int) + (m : Int)) % 64 == 0) = true := by rw [beq_iff_eq]; omega
            have HA2 := Lib.hid (show (o ++ [0] ++ [u]) ++ Fra.layP (n + (m + 2)) (lb.drop (i + 1)) = T by rw [← HA.out, hdr, Fra.layP_at _ _ h64]; simp [Nat.add_assoc])
            clear HA hdr
            have hba7 := bel_alloc (Below.refl wr.heap.size wr) (.cells #[.int .u8 0] 5)
            have n17 := own_later HO.out hba7
            have s17 := shows_new' wr #[.int .u8 0] 5 1 1 rfl
            have z17 : w.heap.size ≤ (wr.alloc (.cells #[.int .u8 0] 5)).heap.size := Nat.le_trans hbr.size hba7.size
            have hX7 := hbr.trans (hba7.mono hbr.size)
            have g17 : m + 1 ≤ maxLen := by unfold maxLen; omega
            have g27 : (m + 1) * 1 ≤ 140737488355328 := by omega
            clear hba7
            go_upto_region 12 with (at_builtin; refine wpList_append_shows _ rfl _ _ 22 rfl w.heap.size 5 i0 (.int .u8 0) 1 1 Tryd.underlying22 hi hz0 hz1 hz2 rfl (by decide) _ _ _ rfl n17 _ _ 1 _ _ rfl s17 (by intro x hx; rw [List.mem_singleton.1 hx]; rfl) g17 g27 z17 ?_; intro A7 c7 w7 hown7 hgrow7 hb7; have HO7 := Lib.hid hown7; have hY7 := hX7.trans hb7; clear hown7 hgrow7 n17 s17 z17 hb7 hX7)
            obtain ⟨b3, off3, e3, _, hc3⟩ := ((HPb.out.here.more hB).below hY7).cell (k := i) (by show i < bn; exact hlt)
            replace e3 : Ab = some ⟨b3, off3, none⟩ := e3
            rw [hat] at hc3
            subst e3
            have hba8 := bel_alloc (Below.refl w7.heap.size w7) (.cells #[.int .u8 (u.toNat : Int)] 5)
            have n18 := own_later HO7.out hba8
            have s18 := shows_new' w7 #[.int .u8 (u.toNat : Int)] 5 1 1 rfl
            have z18 : w.heap.size ≤ (w7.alloc (.cells #[.int .u8 (u.toNat : Int)] 5)).heap.size := Nat.le_trans hY7.size hba8.size
            have hX8 := hY7.trans (hba8.mono hY7.size)
            have g18 : (m + 1) + 1 ≤ maxLen := by unfold maxLen; omega
            have g28 : ((m + 1) + 1) * 1 ≤ 140737488355328 := by omega
            clear hba8
            go_wp2_with (at_builtin; refine wpList_append_shows _ rfl _ _ 22 rfl w.heap.size 5 i0 (.int .u8 0) 1 1 Tryd.underlying22 hi hz0 hz1 hz2 rfl (by decide) _ _ _ rfl n18 _ _ 1 _ _ rfl s18 (by intro x hx; rw [List.mem_singleton.1 hx]; rfl) g18 g28 z18 ?_; intro A8 c8 w8 hown8 hgrow8 hb8; have HO8 := Lib.hid hown8; have hY8 := hX8.trans hb8; clear hown8 hgrow8 n18 s18 z18 hb8 hX8)
            go_roundw
            case rel => exact ⟨i + 1, m + 2, A8, c8, o ++ [0] ++ [u], _, by omega, by omega, by go_num, rfl, rfl, Lib.hid (by simp [HM.out]), Lib.hid (by rw [List.map_append, List.map_append]; exact HO8.out), HA2, Lib.hid (by intro _; exact HT.out Hf0.out), Lib.hid (fun h => absurd h (by omega)), hY8⟩
            case measure => simp [intOf]; omega
        · by_cases hf0 : i = 0
          · have hf : ((i : Int) == 0) = true := by rw [beq_iff_eq]; omega
            have Hf0 := Lib.hid hf0
            clear hf0
            have h64b : (((n : Int) + (m : Int)) % 64 == 0) = false := by rw [beq_eq_false_iff_ne]; omega
            have HA2 := Lib.hid (show (o ++ [u]) ++ Fra.layP (n + (m + 1)) (lb.drop (i + 1)) = T by rw [← HA.out, hdr, Fra.layP_in _ _ h64]; simp [Nat.add_assoc])
            clear HA hdr
            obtain ⟨b3, off3, e3, _, hc3⟩ := ((HPb.out.here.more hB).below hbr).cell (k := i) (by show i < bn; exact hlt)
            replace e3 : Ab = some ⟨b3, off3, none⟩ := e3
            rw [hat] at hc3
            subst e3
            have hba8 := bel_alloc (Below.refl wr.heap.size wr) (.cells #[.int .u8 (u.toNat : Int)] 5)
            have n18 := own_later HO.out hba8
            have s18 := shows_new' wr #[.int .u8 (u.toNat : Int)] 5 1 1 rfl
            have z18 : w.heap.size ≤ (wr.alloc (.cells #[.int .u8 (u.toNat : Int)] 5)).heap.size := Nat.le_trans hbr.size hba8.size
            have hX8 := hbr.trans (hba8.mono hbr.size)
            have g18 : m + 1 ≤ maxLen := by unfold maxLen; omega
            have g28 : (m + 1) * 1 ≤ 140737488355328 := by omega
            clear hba8
            go_wp2_with (at_builtin; refine wpList_append_shows _ rfl _ _ 22 rfl w.heap.size 5 i0 (.int .u8 0) 1 1 Tryd.underlying22 hi hz0 hz1 hz2 rfl (by decide) _ _ _ rfl n18 _ _ 1 _ _ rfl s18 (by intro x hx; rw [List.mem_singleton.1 hx]; rfl) g18 g28 z18 ?_; intro A8 c8 w8 hown8 hgrow8 hb8; have HO8 := Lib.hid hown8; have hY8 := hX8.trans hb8; clear hown8 hgrow8 n18 s18 z18 hb8 hX8)
            go_roundw
            case rel => exact ⟨i + 1, m + 1, A8, c8, o ++ [u], _, by omega, by omega, by go_num, rfl, rfl, Lib.hid (by simp [HM.out]), Lib.hid (by rw [List.map_append]; exact HO8.out), HA2, Lib.hid (by intro _; have h1 := HF.out; have h2 := HZ.out Hf0.out; rw [h1.1]; rw [if_neg (by omega)]; omega), Lib.hid (fun h => absurd h (by omega)), hY8⟩
            case measure => simp [intOf]; omega
          · have hf : ((i : Int) == 0) = false := by rw [beq_eq_false_iff_ne]; omega
            have Hf0 := Lib.hid hf0
            clear hf0
            have h64b : (((n : Int) + (m : Int)) % 64 == 0) = false := by rw [beq_eq_false_iff_ne]; omega
            have HA2 := Lib.hid (show (o ++ [u]) ++ Fra.layP (n + (m + 1)) (lb.drop (i + 1)) = T by rw [← HA.out, hdr, Fra.layP_in _ _ h64]; simp [Nat.add_assoc])
            clear HA hdr
            obtain ⟨b3, off3, e3, _, hc3⟩ := ((HPb.out.here.more hB).below hbr).cell (k := i) (by show i < bn; exact hlt)
            replace e3 : Ab = some ⟨b3, off3, none⟩ := e3
            rw [hat] at hc3
            subst e3
            have hba8 := bel_alloc (Below.refl wr.heap.size wr) (.cells #[.int .u8 (u.toNat : Int)] 5)
            have n18 := own_later HO.out hba8
            have s18 := shows_new' wr #[.int .u8 (u.toNat : Int)] 5 1 1 rfl
            have z18 : w.heap.size ≤ (wr.alloc (.cells #[.int .u8 (u.toNat : Int)] 5)).heap.size := Nat.le_trans hbr.size hba8.size
            have hX8 := hbr.trans (hba8.mono hbr.size)
            have g18 : m + 1 ≤ maxLen := by unfold maxLen; omega
            have g28 : (m + 1) * 1 ≤ 140737488355328 := by omega
            clear hba8
            go_wp2_with (at_builtin; refine wpList_append_shows _ rfl _ _ 22 rfl w.heap.size 5 i0 (.int .u8 0) 1 1 Tryd.underlying22 hi hz0 hz1 hz2 rfl (by decide) _ _ _ rfl n18 _ _ 1 _ _ rfl s18 (by intro x hx; rw [List.mem_singleton.1 hx]; rfl) g18 g28 z18 ?_; intro A8 c8 w8 hown8 hgrow8 hb8; have HO8 := Lib.hid hown8; have hY8 := hX8.trans hb8; clear hown8 hgrow8 n18 s18 z18 hb8 hX8)
            go_roundw
            case rel => exact ⟨i + 1, m + 1, A8, c8, o ++ [u], _, by omega, by omega, by go_num, rfl, rfl, Lib.hid (by simp [HM.out]), Lib.hid (by rw [List.map_append]; exact HO8.out), HA2, Lib.hid (by intro _; exact HT.out Hf0.out), Lib.hid (fun h => absurd h (by omega)), hY8⟩
            case measure => simp [intOf]; omega
      · obtain rfl : i = bn := by omega
        have HA2 := Lib.hid (show o = T by rw [← HA.out, List.drop_eq_nil_of_le (by rw [HPb.out.len]; exact Nat.le_refl _), Fra.layP_nil, List.append_nil])
        have hz : z = (Fra.atN la : Nat) := HT.out (by omega)
        have hTm : T.length = m := by rw [← HA2.out, HM.out]
        clear HA HT
        go_wp2_with fail
        go_ret2
        exact ⟨A, c, by rw [hTm, ← hz]; rfl, Lib.hid (by rw [hTm, ← HA2.out]; exact HO.out), hbr⟩
  · have h0' : ((n : Int) % 64 != 0) = true := by rw [bne_iff_ne]; omega
    obtain ⟨q, hq⟩ : ∃ q, n - n % 64 = q := ⟨_, rfl⟩
    have hqI : (n : Int) - (n : Int) % 64 = (q : Int) := by omega
    have hqI2 : (n : Int) - (n : Int).tmod 64 = (q : Int) := by rw [Int.tmod_eq_emod_of_nonneg (by omega)]; omega
    have hqn : (q : Int) < (n : Int) := by omega
    have hq0 : (0 : Int) ≤ (q : Int) := by omega
    obtain ⟨b, off, rfl, hbB, hc⟩ := Hpa.out.here.cell (k := q) (by show q < n; omega)
    obtain ⟨v, hv⟩ : ∃ v, la.getD q 0 = v := ⟨_, rfl⟩
    rw [show at8 la q = (v.toNat : Int) by unfold at8; rw [hv]] at hc
    by_cases hv0 : v = 0
    · subst hv0
      rw [show (((0 : UInt8).toNat : Nat) : Int) = 0 from rfl] at hc
      have hpad : Fra.padN la = 0 := by unfold Fra.padN; rw [if_neg (by rw [hlen, hq, hv]; simp)]
      clear h0 hq hv
      go_enter Tryd.func15, Tryd.ntmps15
      have HF := Lib.hid (show Fra.atN la = (if (n + 0) % 64 = 0 then n + 0 + 1 else n + 0) ∧ True from ⟨by unfold Fra.atN Fra.frontN; rw [hpad, hlen], trivial⟩)
      have HT0 := Lib.hid (show List.replicate 0 0 ++ Fra.layP (n + 0) lb = T by rw [← HTT.out, ← hpad]; unfold Fra.frontN; rw [hlen])
      clear hpad
      go_wp2_with fail
      go_loopw [6, 8, 9] (fun ov av iv wr => ∃ (i m : Nat) (A : Option Addr) (c : Nat) (o : List UInt8) (z : Int), i ≤ bn ∧ m ≤ 64 + 2 * i ∧ iv = .int .i64 i ∧ ov = .slice A m c ∧ av = .int .i64 z ∧ Hid (o.length = m) ∧ Hid (wr.ownsRow w.heap.size 5 1 (.slice A m c) m (o.map bv)) ∧ Hid (o ++ Fra.layP (n + m) (lb.drop i) = T) ∧ Hid (i ≠ 0 → z = (Fra.atN la : Nat)) ∧ Hid (i = 0 → m = 0) ∧ Below w.heap.size w wr) (fun _ _ iv _ => bn - (intOf iv).toNat)
      case atStart => exact ⟨0, 0, none, 0, [], -1, Nat.zero_le _, by omega, rfl, rfl, rfl, Lib.hid (by simp), Lib.hid (World.ownsRow_nil w w.heap.size 5 1), HT0, Lib.hid (fun h => absurd rfl h), Lib.hid (fun _ => rfl), Below.refl _ _⟩
      case round =>
        obtain ⟨i, m, A, c, o, z, hi', hm, rfl, rfl, rfl, HM, HO, HA, HT, HZ, hbr⟩ := hrel
        rename World => wr
        have hi0 : (0 : Int) ≤ (i : Int) := by omega
        by_cases hlt : i < bn
        · have hlt' : (i : Int) < (bn : Int) := by omega
          have hdr := drop_head (l := lb) (i := i) (by rw [HPb.out.len]; exact hlt)
          obtain ⟨u, hu⟩ : ∃ u, lb.getD i 0 = u := ⟨_, rfl⟩
          have hat : at8 lb i = (u.toNat : Int) := by unfold at8; rw [hu]
          rw [hu] at hdr
          clear hu
          by_cases h64 : (n + m) % 64 = 0
          · by_cases hf0 : i = 0
            · have hf : ((i : Int) == 0) = true := by rw [beq_iff_eq]; omega
              have Hf0 := Lib.hid hf0
              clear hf0
              have h64b : (((n : Int) + (m : Int)) % 64 == 0) = true := by rw [beq_iff_eq]; omega
              have HA2 := Lib.hid (show (o ++ [0] ++ [u]) ++ Fra.layP (n + (m + 2)) (lb.drop (i + 1)) = T by rw [← HA.out, hdr, Fra.layP_at _ _ h64]; simp [Nat.add_assoc])
              clear HA hdr
              have hba7 := bel_alloc (Below.refl wr.heap.size wr) (.cells #[.int .u8 0] 5)
              have n17 := own_later HO.out hba7
              have s17 := shows_new' wr #[.int .u8 0] 5 1 1 rfl
              have z17 : w.heap.size ≤ (wr.alloc (.cells #[.int .u8 0] 5)).heap.size := Nat.le_trans hbr.size hba7.size
              have hX7 := hbr.trans (hba7.mono hbr.size)
              have g17 : m + 1 ≤ maxLen := by unfold maxLen; omega
              have g27 : (m + 1) * 1 ≤ 140737488355328 := by omega
              clear hba7
              go_upto_region 12 with (at_builtin; refine wpList_append_shows _ rfl _ _ 22 rfl w.heap.size 5 i0 (.int .u8 0) 1 1 Tryd.underlying22 hi hz0 hz1 hz2 rfl (by decide) _ _ _ rfl n17 _ _ 1 _ _ rfl s17 (by intro x hx; rw [List.mem_singleton.1 hx]; rfl) g17 g27 z17 ?_; intro A7 c7 w7 hown7 hgrow7 hb7; have HO7 := Lib.hid hown7; have hY7 := hX7.trans hb7; clear hown7 hgrow7 n17 s17 z17 hb7 hX7)
              obtain ⟨b3, off3, e3, _, hc3⟩ := ((HPb.out.here.more hB).below hY7).cell (k := i) (by show i < bn; exact hlt)
              replace e3 : Ab = some ⟨b3, off3, none⟩ := e3
              rw [hat] at hc3
              subst e3
              have hba8 := bel_alloc (Below.refl w7.heap.size w7) (.cells #[.int .u8 (u.toNat : Int)] 5)
              have n18 := own_later HO7.out hba8
              have s18 := shows_new' w7 #[.int .u8 (u.toNat : Int)] 5 1 1 rfl
              have z18 : w.heap.size ≤ (w7.alloc (.cells #[.int .u8 (u.toNat : Int)] 5)).heap.size := Nat.le_trans hY7.size hba8.size
              have hX8 := hY7.trans (hba8.mono hY7.size)
              have g18 : (m + 1) + 1 ≤ maxLen := by unfold maxLen; omega
              have g28 : ((m + 1) + 1) * 1 ≤ 140737488355328 := by omega
              clear hba8
              go_wp2_with (at_builtin; refine wpList_append_shows _ rfl _ _ 22 rfl w.heap.size 5 i0 (.int .u8 0) 1 1 Tryd.underlying22 hi hz0 hz1 hz2 rfl (by decide) _ _ _ rfl n18 _ _ 1 _ _ rfl s18 (by intro x hx; rw [List.mem_singleton.1 hx]; rfl) g18 g28 z18 ?_; intro A8 c8 w8 hown8 hgrow8 hb8; have HO8 := Lib.hid hown8; have hY8 := hX8.trans hb8; clear hown8 hgrow8 n18 s18 z18 hb8 hX8)
              go_roundw
              case rel => exact ⟨i + 1, m + 2, A8, c8, o ++ [0] ++ [u], _, by omega, by omega, by go_num, rfl, rfl, Lib.hid (by simp [HM.out]), Lib.hid (by rw [List.map_append, List.map_append]; exact HO8.out), HA2, Lib.hid (by intro _; have h1 := HF.out; have h2 := HZ.out Hf0.out; rw [h1.1]; rw [if_pos (by omega)]; omega), Lib.hid (fun h => absurd h (by omega)), hY8⟩
              case measure => simp [intOf]; omega
            · have hf : ((i : Int) == 0) = false := by rw [beq_eq_false_iff_ne]; omega
              have Hf0 := Lib.hid hf0
              clear hf0
              have h64b : (((n : Int) + (m : Int)) % 64 == 0) = true := by rw [beq_iff_eq]; omega
              have HA2 := Lib.hid (show (o ++ [0] ++ [u]) ++ Fra.layP (n + (m + 2)) (lb.drop (i + 1)) = T by rw [← HA.out, hdr, Fra.layP_at _ _ h64]; simp [Nat.add_assoc])
              clear HA hdr
              have hba7 := bel_alloc (Below.refl wr.heap.size wr) (.cells #[.int .u8 0] 5)
              have n17 := own_later HO.out hba7
              have s17 := shows_new' wr #[.int .u8 0] 5 1 1 rfl
              have z17 : w.heap.size ≤ (wr.alloc (.cells #[.int .u8 0] 5)).heap.size := Nat.le_trans hbr.size hba7.size
              have hX7 := hbr.trans (hba7.mono hbr.size)
              have g17 : m + 1 ≤ maxLen := by unfold maxLen; omega
              have g27 : (m + 1) * 1 ≤ 140737488355328 := by omega
              clear hba7
              go_upto_region 12 with (at_builtin; refine wpList_append_shows _ rfl _ _ 22 rfl w.heap.size 5 i0 (.int .u8 0) 1 1 Tryd.underlying22 hi hz0 hz1 hz2 rfl (by decide) _ _ _ rfl n17 _ _ 1 _ _ rfl s17 (by intro x hx; rw [List.mem_singleton.1 hx]; rfl) g17 g27 z17 ?_; intro A7 c7 w7 hown7 hgrow7 hb7; have HO7 := Lib.hid hown7; have hY7 := hX7.trans hb7; clear hown7 hgrow7 n17 s17 z17 hb7 hX7)
              obtain ⟨b3, off3, e3, _, hc3⟩ := ((HPb.out.here.more hB).below hY7).cell (k := i) (by show i < bn; exact hlt)
              replace e3 : Ab = some ⟨b3, off3, none⟩ := e3
              rw [hat] at hc3
              subst e3
              have hba8 := bel_alloc (Below.refl w7.heap.size w7) (.cells #[.int .u8 (u.toNat : Int)] 5)
              have n18 := own_later HO7.out hba8
              have s18 := shows_new' w7 #[.int .u8 (u.toNat : Int)] 5 1 1 rfl
              have z18 : w.heap.size ≤ (w7.alloc (.cells #[.int .u8 (u.toNat : Int)] 5)).heap.size := Nat.le_trans hY7.size hba8.size
              have hX8 := hY7.trans (hba8.mono hY7.size)
              have g18 : (m + 1) + 1 ≤ maxLen := by unfold maxLen; omega
              have g28 : ((m + 1) + 1) * 1 ≤ 140737488355328 := by omega
              clear hba8
              go_wp2_with (at_builtin; refine wpList_append_shows _ rfl _ _ 22 rfl w.heap.size 5 i0 (.int .u8 0) 1 1 Tryd.underlying22 hi hz0 hz1 hz2 rfl (by decide) _ _ _ rfl n18 _ _ 1 _ _ rfl s18 (by intro x hx; rw [List.mem_singleton.1 hx]; rfl) g18 g28 z18 ?_; intro A8 c8 w8 hown8 hgrow8 hb8; have HO8 := Lib.hid hown8; have hY8 := hX8.trans hb8; clear hown8 hgrow8 n18 s18 z18 hb8 hX8)
              go_roundw
              case rel => exact ⟨i + 1, m + 2, A8, c8, o ++ [0] ++ [u], _, by omega, by omega, by go_num, rfl, rfl, Lib.hid (by simp [HM.out]), Lib.hid (by rw [List.map_append, List.map_append]; exact HO8.out), HA2, Lib.hid (by intro _; exact HT.out Hf0.out), Lib.hid (fun h => absurd h (by omega)), hY8⟩
              case measure => simp [intOf]; omega
          · by_cases hf0 : i = 0
            · have hf : ((i : Int) == 0) = true := by rw [beq_iff_eq]; omega
              have Hf0 := Lib.hid hf0
              clear hf0
              have h64b : (((n : Int) + (m : Int)) % 64 == 0) = false := by rw [beq_eq_false_iff_ne]; omega
              have HA2 := Lib.hid (show (o ++ [u]) ++ Fra.layP (n + (m + 1)) (lb.drop (i + 1)) = T by rw [← HA.out, hdr, Fra.layP_in _ _ h64]; simp [Nat.add_assoc])
              clear HA hdr
              obtain ⟨b3, off3, e3, _, hc3⟩ := ((HPb.out.here.more hB).below hbr).cell (k := i) (by show i < bn; exact hlt)
              replace e3 : Ab = some ⟨b3, off3, none⟩ := e3
              rw [hat] at hc3
              subst e3
              have hba8 := bel_alloc (Below.refl wr.heap.size wr) (.cells #[.int .u8 (u.toNat : Int)] 5)
              have n18 := own_later HO.out hba8
              have s18 := shows_new' wr #[.int .u8 (u.toNat : Int)] 5 1 1 rfl
              have z18 : w.heap.size ≤ (wr.alloc (.cells #[.int .u8 (u.toNat : Int)] 5)).heap.size := Nat.le_trans hbr.size hba8.size
              have hX8 := hbr.trans (hba8.mono hbr.size)
              have g18 : m + 1 ≤ maxLen := by unfold maxLen; omega
              have g28 : (m + 1) * 1 ≤ 140737488355328 := by omega
              clear hba8
              go_wp2_with (at_builtin; refine wpList_append_shows _ rfl _ _ 22 rfl w.heap.size 5 i0 (.int .u8 0) 1 1 Tryd.underlying22 hi hz0 hz1 hz2 rfl (by decide) _ _ _ rfl n18 _ _ 1 _ _ rfl s18 (by intro x hx; rw [List.mem_singleton.1 hx]; rfl) g18 g28 z18 ?_; intro A8 c8 w8 hown8 hgrow8 hb8; have HO8 := Lib.hid hown8; have hY8 := hX8.trans hb8; clear hown8 hgrow8 n18 s18 z18 hb8 hX8)
              go_roundw
              case rel => exact ⟨i + 1, m + 1, A8, c8, o ++ [u], _, by omega, by omega, by go_num, rfl, rfl, Lib.hid (by simp [HM.out]), Lib.hid (by rw [List.map_append]; exact HO8.out), HA2, Lib.hid (by intro _; have h1 := HF.out; have h2 := HZ.out Hf0.out; rw [h1.1]; rw [if_neg (by omega)]; omega), Lib.hid (fun h => absurd h (by omega)), hY8⟩
              case measure => simp [intOf]; omega
            · have hf : ((i : Int) == 0) = false := by rw [beq_eq_false_iff_ne]; omega
              have Hf0 := Lib.hid hf0
              clear hf0
              have h64b : (((n : Int) + (m : Int)) % 64 == 0) = false := by rw [beq_eq_false_iff_ne]; omega
              have HA2 := Lib.hid (show (o ++ [u]) ++ Fra.layP (n + (m + 1)) (lb.drop (i + 1)) = T by rw [← HA.out, hdr, Fra.layP_in _ _ h64]; simp [Nat.add_assoc])
              clear HA hdr
              obtain ⟨b3, off3, e3, _, hc3⟩ := ((HPb.out.here.more hB).below hbr).cell (k := i) (by show i < bn; exact hlt)
              replace e3 : Ab = some ⟨b3, off3, none⟩ := e3
              rw [hat] at hc3
              subst e3
              have hba8 := bel_alloc (Below.refl wr.heap.size wr) (.cells #[.int .u8 (u.toNat : Int)] 5)
              have n18 := own_later HO.out hba8
              have s18 := shows_new' wr #[.int .u8 (u.toNat : Int)] 5 1 1 rfl
              have z18 : w.heap.size ≤ (wr.alloc (.cells #[.int .u8 (u.toNat : Int)] 5)).heap.size := Nat.le_trans hbr.size hba8.size
              have hX8 := hbr.trans (hba8.mono hbr.size)
              have g18 : m + 1 ≤ maxLen := by unfold maxLen; omega
              have g28 : (m + 1) * 1 ≤ 140737488355328 := by omega
              clear hba8
              go_wp2_with (at_builtin; refine wpList_append_shows _ rfl _ _ 22 rfl w.heap.size 5 i0 (.int .u8 0) 1 1 Tryd.underlying22 hi hz0 hz1 hz2 rfl (by decide) _ _ _ rfl n18 _ _ 1 _ _ rfl s18 (by intro x hx; rw [List.mem_singleton.1 hx]; rfl) g18 g28 z18 ?_; intro A8 c8 w8 hown8 hgrow8 hb8; have HO8 := Lib.hid hown8; have hY8 := hX8.trans hb8; clear hown8 hgrow8 n18 s18 z18 hb8 hX8)
              go_roundw
              case rel => exact ⟨i + 1, m + 1, A8, c8, o ++ [u], _, by omega, by omega, by go_num, rfl, rfl, Lib.hid (by simp [HM.out]), Lib.hid (by rw [List.map_append]; exact HO8.out), HA2, Lib.hid (by intro _; exact HT.out Hf0.out), Lib.hid (fun h => absurd h (by omega)), hY8⟩
              case measure => simp [intOf]; omega
        · obtain rfl : i = bn := by omega
          have HA2 := Lib.hid (show o = T by rw [← HA.out, List.drop_eq_nil_of_le (by rw [HPb.out.len]; exact Nat.le_refl _), Fra.layP_nil, List.append_nil])
          have hz : z = (Fra.atN la : Nat) := HT.out (by omega)
          have hTm : T.length = m := by rw [← HA2.out, HM.out]
          clear HA HT
          go_wp2_with fail
          go_ret2
          exact ⟨A, c, by rw [hTm, ← hz]; rfl, Lib.hid (by rw [hTm, ← HA2.out]; exact HO.out), hbr⟩
    · have hun : ¬ v.toNat = 0 := fun h => hv0 (UInt8.toNat_inj.1 h)
      have hv1 : ((v.toNat : Int) != 0) = true := by rw [bne_iff_ne]; omega
      have hv2 : ¬ (v.toNat : Int) = 0 := by omega
      have hpad' : Fra.padN la = 64 - n % 64 := by unfold Fra.padN; rw [if_pos (by rw [hlen, hq, hv]; exact ⟨h0, hv0⟩), hlen]
      obtain ⟨pad, hp⟩ : ∃ pad, 64 - n % 64 = pad := ⟨_, rfl⟩
      have hpad : Fra.padN la = pad := by rw [hpad', hp]
      have hp1 : 1 ≤ pad ∧ pad ≤ 64 ∧ (n + pad) % 64 = 0 ∧ ∀ m, m < pad → (n + m) % 64 ≠ 0 := ⟨by omega, by omega, by omega, fun m hm => by omega⟩
      have HP1 := Lib.hid hp1
      have hpb : pad ≤ 64 := hp1.2.1
      clear h0 hq hv hv0 hpad' hp hp1
      go_enter Tryd.func15, Tryd.ntmps15
      go_wp2_with fail
      go_loopw [6] (fun ov wr => ∃ (m : Nat) (A : Option Addr) (c : Nat), m ≤ pad ∧ ov = .slice A m c ∧ Hid (wr.ownsRow w.heap.size 5 1 (.slice A m c) m ((List.replicate m 0).map bv)) ∧ Below w.heap.size w wr) (fun ov _ => pad - lenV ov)
      case atStart => exact ⟨0, none, 0, Nat.zero_le _, rfl, Lib.hid (World.ownsRow_nil w w.heap.size 5 1), Below.refl _ _⟩
      case round =>
        obtain ⟨m, A, c, hm, rfl, HO, hbr⟩ := hrel
        rename World => wr
        by_cases hlt : m < pad
        · have hne := HP1.out.2.2.2 m hlt
          have h64b : (((n : Int) + (m : Int)) % 64 != 0) = true := by rw [bne_iff_ne]; omega
          have h64c : ¬ ((n : Int) + (m : Int)) % 64 = 0 := by omega
          clear hne hpad
          have hba7 := bel_alloc (Below.refl wr.heap.size wr) (.cells #[.int .u8 0] 5)
          have n17 := own_later HO.out hba7
          have s17 := shows_new' wr #[.int .u8 0] 5 1 1 rfl
          have z17 : w.heap.size ≤ (wr.alloc (.cells #[.int .u8 0] 5)).heap.size := Nat.le_trans hbr.size hba7.size
          have hX7 := hbr.trans (hba7.mono hbr.size)
          have g17 : m + 1 ≤ maxLen := by unfold maxLen; omega
          have g27 : (m + 1) * 1 ≤ 140737488355328 := by omega
          clear hba7
          go_wp2_with (at_builtin; refine wpList_append_shows _ rfl _ _ 22 rfl w.heap.size 5 i0 (.int .u8 0) 1 1 Tryd.underlying22 hi hz0 hz1 hz2 rfl (by decide) _ _ _ rfl n17 _ _ 1 _ _ rfl s17 (by intro x hx; rw [List.mem_singleton.1 hx]; rfl) g17 g27 z17 ?_; intro A7 c7 w7 hown7 hgrow7 hb7; have HO7 := Lib.hid hown7; have hY7 := hX7.trans hb7; clear hown7 hgrow7 n17 s17 z17 hb7 hX7)
          go_roundw
          case rel => exact ⟨m + 1, A7, c7, by omega, rfl, Lib.hid (by rw [List.replicate_succ', List.map_append]; exact HO7.out), hY7⟩
          case measure => simp [lenV]; omega
        · have hmp : m = pad := by omega
          subst m
          have hmm := HP1.out.2.2.1
          have h64b : (((n : Int) + (pad : Int)) % 64 != 0) = false := by rw [bne_eq_false_iff_eq]; omega
          clear hmm
          have HF := Lib.hid (show Fra.atN la = (if (n + pad) % 64 = 0 then n + pad + 1 else n + pad) ∧ True from ⟨by unfold Fra.atN Fra.frontN; rw [hpad, hlen], trivial⟩)
          have HT0 := Lib.hid (show List.replicate pad 0 ++ Fra.layP (n + pad) lb = T by rw [← HTT.out, ← hpad]; unfold Fra.frontN; rw [hlen])
          clear hpad
          go_wp2_with fail
          go_loopw [6, 8, 9] (fun ov av iv wr => ∃ (i m : Nat) (A : Option Addr) (c : Nat) (o : List UInt8) (z : Int), i ≤ bn ∧ m ≤ 64 + 2 * i ∧ iv = .int .i64 i ∧ ov = .slice A m c ∧ av = .int .i64 z ∧ Hid (o.length = m) ∧ Hid (wr.ownsRow w.heap.size 5 1 (.slice A m c) m (o.map bv)) ∧ Hid (o ++ Fra.layP (n + m) (lb.drop i) = T) ∧ Hid (i ≠ 0 → z = (Fra.atN la : Nat)) ∧ Hid (i = 0 → m = pad) ∧ Below w.heap.size w wr) (fun _ _ iv _ => bn - (intOf iv).toNat)
          case atStart => exact ⟨0, pad, A, c, List.replicate pad 0, -1, Nat.zero_le _, by omega, rfl, rfl, rfl, Lib.hid (by simp), HO, HT0, Lib.hid (fun h => absurd rfl h), Lib.hid (fun _ => rfl), hbr⟩
          case round =>
            obtain ⟨i, m, A, c, o, z, hi', hm, rfl, rfl, rfl, HM, HO, HA, HT, HZ, hbr⟩ := hrel
            rename World => wr
            have hi0 : (0 : Int) ≤ (i : Int) := by omega
            by_cases hlt : i < bn
            · have hlt' : (i : Int) < (bn : Int) := by omega
              have hdr := drop_head (l := lb) (i := i) (by rw [HPb.out.len]; exact hlt)
              obtain ⟨u, hu⟩ : ∃ u, lb.getD i 0 = u := ⟨_, rfl⟩
              have hat : at8 lb i = (u.toNat : Int) := by unfold at8; rw [hu]
              rw [hu] at hdr
              clear hu
              by_cases h64 : (n + m) % 64 = 0
              · by_cases hf0 : i = 0
                · have hf : ((i : Int) == 0) = true := by rw [beq_iff_eq]; omega
                  have Hf0 := Lib.hid hf0
                  clear hf0
                  have h64b : (((n : Int) + (m : Int)) % 64 == 0) = true := by rw [beq_iff_eq]; omega
                  have HA2 := Lib.hid (show (o ++ [0] ++ [u]) ++ Fra.layP (n + (m + 2)) (lb.drop (i + 1)) = T by rw [← HA.out, hdr, Fra.layP_at _ _ h64]; simp [Nat.add_assoc])
                  clear HA hdr
                  have hba7 := bel_alloc (Below.refl wr.heap.size wr) (.cells #[.int .u8 0] 5)
                  have n17 := own_later HO.out hba7
                  have s17 := shows_new' wr #[.int .u8 0] 5 1 1 rfl
                  have z17 : w.heap.size ≤ (wr.alloc (.cells #[.int .u8 0] 5)).heap.size := Nat.le_trans hbr.size hba7.size
                  have hX7 := hbr.trans (hba7.mono hbr.size)
                  have g17 : m + 1 ≤ maxLen := by unfold maxLen; omega
                  have g27 : (m + 1) * 1 ≤ 140737488355328 := by omega
                  clear hba7
                  go_upto_region 12 with (at_builtin; refine wpList_append_shows _ rfl _ _ 22 rfl w.heap.size 5 i0 (.int .u8 0) 1 1 Tryd.underlying22 hi hz0 hz1 hz2 rfl (by decide) _ _ _ rfl n17 _ _ 1 _ _ rfl s17 (by intro x hx; rw [List.mem_singleton.1 hx]; rfl) g17 g27 z17 ?_; intro A7 c7 w7 hown7 hgrow7 hb7; have HO7 := Lib.hid hown7; have hY7 := hX7.trans hb7; clear hown7 hgrow7 n17 s17 z17 hb7 hX7)
                  obtain ⟨b3, off3, e3, _, hc3⟩ := ((HPb.out.here.more hB).below hY7).cell (k := i) (by show i < bn; exact hlt)
                  replace e3 : Ab = some ⟨b3, off3, none⟩ := e3
                  rw [hat] at hc3
                  subst e3
                  have hba8 := bel_alloc (Below.refl w7.heap.size w7) (.cells #[.int .u8 (u.toNat : Int)] 5)
                  have n18 := own_later HO7.out hba8
                  have s18 := shows_new' w7 #[.int .u8 (u.toNat : Int)] 5 1 1 rfl
                  have z18 : w.heap.size ≤ (w7.alloc (.cells #[.int .u8 (u.toNat : Int)] 5)).heap.size := Nat.le_trans hY7.size hba8.size
                  have hX8 := hY7.trans (hba8.mono hY7.size)
                  have g18 : (m + 1) + 1 ≤ maxLen := by unfold maxLen; omega
                  have g28 : ((m + 1) + 1) * 1 ≤ 140737488355328 := by omega
                  clear hba8
                  go_wp2_with (at_builtin; refine wpList_append_shows _ rfl _ _ 22 rfl w.heap.size 5 i0 (.int .u8 0) 1 1 Tryd.underlying22 hi hz0 hz1 hz2 rfl (by decide) _ _ _ rfl n18 _ _ 1 _ _ rfl s18 (by intro x hx; rw [List.mem_singleton.1 hx]; rfl) g18 g28 z18 ?_; intro A8 c8 w8 hown8 hgrow8 hb8; have HO8 := Lib.hid hown8; have hY8 := hX8.trans hb8; clear hown8 hgrow8 n18 s18 z18 hb8 hX8)
                  go_roundw
                  case rel => exact ⟨i + 1, m + 2, A8, c8, o ++ [0] ++ [u], _, by omega, by omega, by go_num, rfl, rfl, Lib.hid (by simp [HM.out]), Lib.hid (by rw [List.map_append, List.map_append]; exact HO8.out), HA2, Lib.hid (by intro _; have h1 := HF.out; have h2 := HZ.out Hf0.out; rw [h1.1]; rw [if_pos (by omega)]; omega), Lib.hid (fun h => absurd h (by omega)), hY8⟩
                  case measure => simp [intOf]; omega
                · have hf : ((i : Int) == 0) = false := by rw [beq_eq_false_iff_ne]; omega
                  have Hf0 := Lib.hid hf0
                  clear hf0
                  have h64b : (((n : Int) + (m : Int)) % 64 == 0) = true := by rw [beq_iff_eq]; omega
                  have HA2 := Lib.hid (show (o ++ [0] ++ [u]) ++ Fra.layP (n + (m + 2)) (lb.drop (i + 1)) = T by rw [← HA.out, hdr, Fra.layP_at _ _ h64]; simp [Nat.add_assoc])
                  clear HA hdr
                  have hba7 := bel_alloc (Below.refl wr.heap.size wr) (.cells #[.int .u8 0] 5)
                  have n17 := own_later HO.out hba7
                  have s17 := shows_new' wr #[.int .u8 0] 5 1 1 rfl
                  have z17 : w.heap.size ≤ (wr.alloc (.cells #[.int .u8 0] 5)).heap.size := Nat.le_trans hbr.size hba7.size
                  have hX7 := hbr.trans (hba7.mono hbr.size)
                  have g17 : m + 1 ≤ maxLen := by unfold maxLen; omega
                  have g27 : (m + 1) * 1 ≤ 140737488355328 := by omega
                  clear hba7
                  go_upto_region 12 with (at_builtin; refine wpList_append_shows _ rfl _ _ 22 rfl w.heap.size 5 i0 (.int .u8 0) 1 1 Tryd.underlying22 hi hz0 hz1 hz2 rfl (by decide) _ _ _ rfl n17 _ _ 1 _ _ rfl s17 (by intro x hx; rw [List.mem_singleton.1 hx]; rfl) g17 g27 z17 ?_; intro A7 c7 w7 hown7 hgrow7 hb7; have HO7 := Lib.hid hown7; have hY7 := hX7.trans hb7; clear hown7 hgrow7 n17 s17 z17 hb7 hX7)
                  obtain ⟨b3, off3, e3, _, hc3⟩ := ((HPb.out.here.more hB).below hY7).cell (k := i) (by show i < bn; exact hlt)
                  replace e3 : Ab = some ⟨b3, off3, none⟩ := e3
                  rw [hat] at hc3
                  subst e3
                  have hba8 := bel_alloc (Below.refl w7.heap.size w7) (.cells #[.int .u8 (u.toNat : Int)] 5)
                  have n18 := own_later HO7.out hba8
                  have s18 := shows_new' w7 #[.int .u8 (u.toNat : Int)] 5 1 1 rfl
                  have z18 : w.heap.size ≤ (w7.alloc (.cells #[.int .u8 (u.toNat : Int)] 5)).heap.size := Nat.le_trans hY7.size hba8.size
                  have hX8 := hY7.trans (hba8.mono hY7.size)
                  have g18 : (m + 1) + 1 ≤ maxLen := by unfold maxLen; omega
                  have g28 : ((m + 1) + 1) * 1 ≤ 140737488355328 := by omega
                  clear hba8
                  go_wp2_with (at_builtin; refine wpList_append_shows _ rfl _ _ 22 rfl w.heap.size 5 i0 (.int .u8 0) 1 1 Tryd.underlying22 hi hz0 hz1 hz2 rfl (by decide) _ _ _ rfl n18 _ _ 1 _ _ rfl s18 (by intro x hx; rw [List.mem_singleton.1 hx]; rfl) g18 g28 z18 ?_; intro A8 c8 w8 hown8 hgrow8 hb8; have HO8 := Lib.hid hown8; have hY8 := hX8.trans hb8; clear hown8 hgrow8 n18 s18 z18 hb8 hX8)
                  go_roundw
                  case rel => exact ⟨i + 1, m + 2, A8, c8, o ++ [0] ++ [u], _, by omega, by omega, by go_num, rfl, rfl, Lib.hid (by simp [HM.out]), Lib.hid (by rw [List.map_append, List.map_append]; exact HO8.out), HA2, Lib.hid (by intro _; exact HT.out Hf0.out), Lib.hid (fun h => absurd h (by omega)), hY8⟩
                  case measure => simp [intOf]; omega
              · by_cases hf0 : i = 0
                · have hf : ((i : Int) == 0) = true := by rw [beq_iff_eq]; omega
                  have Hf0 := Lib.hid hf0
                  clear hf0
                  have h64b : (((n : Int) + (m : Int)) % 64 == 0) = false := by rw [beq_eq_false_iff_ne]; omega
                  have HA2 := Lib.hid (show (o ++ [u]) ++ Fra.layP (n + (m + 1)) (lb.drop (i + 1)) = T by rw [← HA.out, hdr, Fra.layP_in _ _ h64]; simp [Nat.add_assoc])
                  clear HA hdr
                  obtain ⟨b3, off3, e3, _, hc3⟩ := ((HPb.out.here.more hB).below hbr).cell (k := i) (by show i < bn; exact hlt)
                  replace e3 : Ab = some ⟨b3, off3, none⟩ := e3
                  rw [hat] at hc3
                  subst e3
                  have hba8 := bel_alloc (Below.refl wr.heap.size wr) (.cells #[.int .u8 (u.toNat : Int)] 5)
                  have n18 := own_later HO.out hba8
                  have s18 := shows_new' wr #[.int .u8 (u.toNat : Int)] 5 1 1 rfl
                  have z18 : w.heap.size ≤ (wr.alloc (.cells #[.int .u8 (u.toNat : Int)] 5)).heap.size := Nat.le_trans hbr.size hba8.size
                  have hX8 := hbr.trans (hba8.mono hbr.size)
                  have g18 : m + 1 ≤ maxLen := by unfold maxLen; omega
                  have g28 : (m + 1) * 1 ≤ 140737488355328 := by omega
                  clear hba8
                  go_wp2_with (at_builtin; refine wpList_append_shows _ rfl _ _ 22 rfl w.heap.size 5 i0 (.int .u8 0) 1 1 Tryd.underlying22 hi hz0 hz1 hz2 rfl (by decide) _ _ _ rfl n18 _ _ 1 _ _ rfl s18 (by intro x hx; rw [List.mem_singleton.1 hx]; rfl) g18 g28 z18 ?_; intro A8 c8 w8 hown8 hgrow8 hb8; have HO8 := Lib.hid hown8; have hY8 := hX8.trans hb8; clear hown8 hgrow8 n18 s18 z18 hb8 hX8)
                  go_roundw
                  case rel => exact ⟨i + 1, m + 1, A8, c8, o ++ [u], _, by omega, by omega, by go_num, rfl, rfl, Lib.hid (by simp [HM.out]), Lib.hid (by rw [List.map_append]; exact HO8.out), HA2, Lib.hid (by intro _; have h1 := HF.out; have h2 := HZ.out Hf0.out; rw [h1.1]; rw [if_neg (by omega)]; omega), Lib.hid (fun h => absurd h (by omega)), hY8⟩
                  case measure => simp [intOf]; omega
                · have hf : ((i : Int) == 0) = false := by rw [beq_eq_false_iff_ne]; omega
                  have Hf0 := Lib.hid hf0
                  clear hf0
                  have h64b : (((n : Int) + (m : Int)) % 64 == 0) = false := by rw [beq_eq_false_iff_ne]; omega
                  have HA2 := Lib.hid (show (o ++ [u]) ++ Fra.layP (n + (m + 1)) (lb.drop (i + 1)) = T by rw [← HA.out, hdr, Fra.layP_in _ _ h64]; simp [Nat.add_assoc])
                  clear HA hdr
                  obtain ⟨b3, off3, e3, _, hc3⟩ := ((HPb.out.here.more hB).below hbr).cell (k := i) (by show i < bn; exact hlt)
                  replace e3 : Ab = some ⟨b3, off3, none⟩ := e3
                  rw [hat] at hc3
                  subst e3
                  have hba8 := bel_alloc (Below.refl wr.heap.size wr) (.cells #[.int .u8 (u.toNat : Int)] 5)
                  have n18 := own_later HO.out hba8
                  have s18 := shows_new' wr #[.int .u8 (u.toNat : Int)] 5 1 1 rfl
                  have z18 : w.heap.size ≤ (wr.alloc (.cells #[.int .u8 (u.toNat : Int)] 5)).heap.size := Nat.le_trans hbr.size hba8.size
                  have hX8 := hbr.trans (hba8.mono hbr.size)
                  have g18 : m + 1 ≤ maxLen := by unfold maxLen; omega
                  have g28 : (m + 1) * 1 ≤ 140737488355328 := by omega
                  clear hba8
                  go_wp2_with (at_builtin; refine wpList_append_shows _ rfl _ _ 22 rfl w.heap.size 5 i0 (.int .u8 0) 1 1 Tryd.underlying22 hi hz0 hz1 hz2 rfl (by decide) _ _ _ rfl n18 _ _ 1 _ _ rfl s18 (by intro x hx; rw [List.mem_singleton.1 hx]; rfl) g18 g28 z18 ?_; intro A8 c8 w8 hown8 hgrow8 hb8; have HO8 := Lib.hid hown8; have hY8 := hX8.trans hb8; clear hown8 hgrow8 n18 s18 z18 hb8 hX8)
                  go_roundw
                  case rel => exact ⟨i + 1, m + 1, A8, c8, o ++ [u], _, by omega, by omega, by go_num, rfl, rfl, Lib.hid (by simp [HM.out]), Lib.hid (by rw [List.map_append]; exact HO8.out), HA2, Lib.hid (by intro _; exact HT.out Hf0.out), Lib.hid (fun h => absurd h (by omega)), hY8⟩
                  case measure => simp [intOf]; omega
            · obtain rfl : i = bn := by omega
              have HA2 := Lib.hid (show o = T by rw [← HA.out, List.drop_eq_nil_of_le (by rw [HPb.out.len]; exact Nat.le_refl _), Fra.layP_nil, List.append_nil])
              have hz : z = (Fra.atN la : Nat) := HT.out (by omega)
              have hTm : T.length = m := by rw [← HA2.out, HM.out]
              clear HA HT
              go_wp2_with fail
              go_ret2
              exact ⟨A, c, by rw [hTm, ← hz]; rfl, Lib.hid (by rw [hTm, ← HA2.out]; exact HO.out), hbr⟩
end Go.Proofs.YtghmehfmchadoaaDoor
