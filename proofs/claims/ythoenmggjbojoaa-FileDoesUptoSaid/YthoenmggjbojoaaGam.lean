import Derived.Test.YthoenmggjbojoaaGal
import Derived.Deep.CutBlock
/-
  Layer 10: own.
-/
namespace Go.Proofs.Ythoenmggjbojoaa
open Go.RowKit
set_option linter.unusedVariables false

/-- Rows of one's own, as made. -/
def OwnR (W : World) (D : Nat) (L : List PcT) : Prop := ∀ p ∈ L, W.ownsRow D 5 1 (.slice p.A p.n p.c) p.n (p.l.map bv)
theorem OwnR.later {W W' : World} {D : Nat} {L : List PcT} (h : OwnR W D L) (hb : Below W.heap.size W W') : OwnR W' D L := fun p hp => own_later (h p hp) hb
theorem OwnR.base {W : World} {D D' : Nat} {L : List PcT} (h : OwnR W D L) (hb : D' ≤ D) : OwnR W D' L := fun p hp => own_base (h p hp) hb
theorem OwnR.snoc {W : World} {D : Nat} {L : List PcT} {p : PcT} (h : OwnR W D L) (hp : W.ownsRow D 5 1 (.slice p.A p.n p.c) p.n (p.l.map bv)) : OwnR W D (L ++ [p]) := fun q hq => by
  rcases List.mem_append.1 hq with h' | h'
  · exact h q h'
  · obtain rfl := List.mem_singleton.1 h'
    exact hp
theorem OwnR.grown {W W' : World} {D E n : Nat} {L : List PcT} {v : Value} {xs : List Value} (h : OwnR W D L) (ho : W.ownsRow E 22 1 v n xs) (hg : W.grownBy W' v.ownBlock) : OwnR W' D L := fun p hp => by
  have h2 := h p hp
  refine h2.kept hg ?_
  rcases h2.2 with ⟨e, _⟩ | ⟨g, cap, cur, e, _, hh, _⟩
  · rw [e]; exact .inl rfl
  · rw [e]
    exact .inr (own_blk_ne ho hh (by decide))
theorem OwnR.setBelow {W : World} {D : Nat} {L : List PcT} (h : OwnR W D L) {a : Addr} (ha : a.block < D) (u : Value) : OwnR (W.setCell a u) D L := fun p hp => ownsRow_setCell_below (h p hp) ha u
theorem own_lie {W : World} {D c n : Nat} {A : Option Addr} {L : List PcT} {p : PcT} {fu fa : Int} {of : Bool} (hp : W.ownsRow D 5 1 (.slice p.A p.n p.c) p.n (p.l.map bv)) (hr : W.ownsRow D 22 1 (.slice A n c) n (L.map PcT.val)) (hL : OwnR W D L) (hu : (Lit.int .i64 fu).wf = true) (ha : (Lit.int .i64 fa).wf = true) :
    LieF W W.heap.size ⟨p, A, n, c, L, fu, fa, of⟩ ∧ ∀ g, g < D → AwayF ⟨p, A, n, c, L, fu, fa, of⟩ g := by
  obtain ⟨r1, r2, r3⟩ := own_facts hr
  obtain ⟨s1, s2, s3⟩ := own_facts hp
  refine ⟨⟨⟨Bytes.own hp, s1, s2, s3⟩, Shows.own hr, fun q hq => ?_, r1, r2, r3, hu, ha⟩, fun g hg => ⟨own_away hp hg, own_away hr hg, fun q hq => own_away (hL q hq) hg⟩⟩
  obtain ⟨q1, q2, q3⟩ := own_facts (hL q hq)
  exact ⟨Bytes.own (hL q hq), q1, q2, q3⟩
set_option maxRecDepth 20000 in
set_option maxHeartbeats 4000000 in
theorem own_any (X : FileT) (B : Nat) (w : World) (hL : LieF w B X) (hB : B ≤ w.heap.size) (hN : ∀ p ∈ X.Q, p.n ≤ 1048576) (hln : X.ln ≤ 1048576) :
    Calls Try.prog 12 #[X.agg] w fun e w' => ∃ Y : FileT, e = .returned Y.agg ∧ Y.s = X.s ∧ LieF w' w'.heap.size Y ∧ Below w.heap.size w w' ∧ (∀ g, g < w.heap.size → AwayF Y g) ∧ (∀ p ∈ Y.Q, p.n ≤ 1048576) ∧ Y.ln ≤ 1048576 := by
  have hb := bel_alloc (bel_alloc (Below.refl w.heap.size w) (.cells #[.slice X.F.A X.F.n X.F.c, .slice X.lA X.ln X.lc, .int .i64 X.fuse, .int .i64 X.fault, .bool X.off] 25)) (.cells #[.slice none 0 0, .slice none 0 0, .int .i64 0, .int .i64 0, .bool false] 25)
  have HV := Lib.hid ((FVar.new w (.slice X.F.A X.F.n X.F.c) (.slice X.lA X.ln X.lc) (.int .i64 X.fuse) (.int .i64 X.fault) (.bool X.off) 25).lay (.cells #[.slice none 0 0, .slice none 0 0, .int .i64 0, .int .i64 0, .bool false] 25))
  have hR := FVar.new (w.alloc (.cells #[.slice X.F.A X.F.n X.F.c, .slice X.lA X.ln X.lc, .int .i64 X.fuse, .int .i64 X.fault, .bool X.off] 25)) (.slice none 0 0) (.slice none 0 0) (.int .i64 0) (.int .i64 0) (.bool false) 25
  rw [World.size_alloc] at hR
  have HR := Lib.hid hR
  have hn2 : w.heap.size + 2 ≤ ((w.alloc (.cells #[.slice X.F.A X.F.n X.F.c, .slice X.lA X.ln X.lc, .int .i64 X.fuse, .int .i64 X.fault, .bool X.off] 25)).alloc (.cells #[.slice none 0 0, .slice none 0 0, .int .i64 0, .int .i64 0, .bool false] 25)).heap.size := by rw [World.size_alloc, World.size_alloc]; omega
  have HL := Lib.hid (fun W (h : Below w.heap.size w W) => hL.later (h.mono hB))
  have HN := Lib.hid hN
  have HlL := Lib.hid hL.len
  have Hw := Lib.hid (And.intro hL.fuse hL.fault)
  have HFn := Lib.hid hL.firm.len
  have hcl := Lib.hid (fun W (h : Below w.heap.size w W) => clone_any X.F.A X.F.n X.F.c X.F.l B W (hL.later (h.mono hB)).firm.here hL.firm.nil (Nat.le_trans hB h.size) (by have := hN X.F (List.mem_cons_self ..); omega))
  clear hR hL hN
  simp only [FileT.agg, PcT.val]
  go_enter Try.func12, Try.ntmps12
  obtain ⟨⟨f0, f1, f2, f3, f4⟩, k0, k1, k2, k3, k4⟩ := HV.out
  obtain ⟨⟨j0, j1, j2, j3, j4⟩, m0, m1, m2, m3, m4⟩ := HR.out
  go_wp2_with fail
  generalize (w.alloc (.cells #[.slice X.F.A X.F.n X.F.c, .slice X.lA X.ln X.lc, .int .i64 X.fuse, .int .i64 X.fault, .bool X.off] 25)).alloc (.cells #[.slice none 0 0, .slice none 0 0, .int .i64 0, .int .i64 0, .bool false] 25) = W1 at *
  refine (hcl.out _ hb).mono ?_
  rintro e W2 ⟨A1, n1, c1, rfl, hO1, hb2⟩
  clear f0 f1 f2 f3 f4 k0 k1 k2 k3 k4 j0 j1 j2 j3 j4 m0 m1 m2 m3 m4
  have hln1 : n1 = X.F.l.length := by have := hO1.1; simpa using this.symm
  obtain rfl : n1 = X.F.n := by rw [hln1, HFn.out]
  have hs2 := hb2.size
  have hb := bel_next hb hb2
  have HV := Lib.hid (HV.out.later hb2)
  have HR := Lib.hid (HR.out.later hb2)
  obtain ⟨⟨f0, f1, f2, f3, f4⟩, k0, k1, k2, k3, k4⟩ := HV.out
  obtain ⟨⟨j0, j1, j2, j3, j4⟩, m0, m1, m2, m3, m4⟩ := HR.out
  clear hb2 hln1
  have HO1 := Lib.hid (ownsRow_setCell_below hO1 (show (⟨w.heap.size, 0, none⟩ : Addr).block < _ by show w.heap.size < _; omega) (.slice A1 X.F.n c1))
  clear hO1
  go_upto_region 2 with fail
  clear f0 f1 f2 f3 f4 k0 k1 k2 k3 k4 j0 j1 j2 j3 j4 m0 m1 m2 m3 m4
  have HV := Lib.hid (HV.out.set0 (.slice A1 X.F.n c1))
  have HR := Lib.hid (HR.out.other (g := w.heap.size) (i := 0) (.slice A1 X.F.n c1) (show w.heap.size + 1 ≠ w.heap.size by omega))
  have hb := Below.setCell hb (p := ⟨w.heap.size, 0, none⟩) (Nat.le_refl w.heap.size) (.slice A1 X.F.n c1)
  have hn3 : w.heap.size + 2 ≤ (W2.setCell ⟨w.heap.size, 0, none⟩ (.slice A1 X.F.n c1)).heap.size := by rw [size_set]; omega
  generalize W2.setCell ⟨w.heap.size, 0, none⟩ (.slice A1 X.F.n c1) = W3 at *
  have HV := Lib.hid HV.out
  obtain ⟨⟨f0, f1, f2, f3, f4⟩, k0, k1, k2, k3, k4⟩ := HV.out
  obtain ⟨⟨j0, j1, j2, j3, j4⟩, m0, m1, m2, m3, m4⟩ := HR.out
  obtain ⟨iP, hiP, hzP, hsP, hbP⟩ := slice_info
  obtain ⟨lA, hlA⟩ : ∃ A, X.lA = A := ⟨_, rfl⟩
  rw [hlA] at f1
  have HlA := Lib.hid hlA
  clear hlA
  have hln9 : X.ln ≤ 9223372036854775807 := by omega
  go_wp2_with fail
  clear f0 f1 f2 f3 f4 k0 k1 k2 k3 k4 j0 j1 j2 j3 j4 m0 m1 m2 m3 m4
  go_loopw [3, 13] (fun lv iv wr => ∃ (i : Nat) (A : Option Addr) (c : Nat) (L : List PcT), i ≤ X.ln ∧ iv = .int .i64 i ∧ lv = .slice A i c ∧ Hid (wr.ownsRow W3.heap.size 22 1 (.slice A i c) i (L.map PcT.val)) ∧ Hid (OwnR wr W3.heap.size L) ∧ Hid (L.map (·.l) = (X.L.take i).map (·.l)) ∧ Below W3.heap.size W3 wr) (fun _ iv _ => X.ln - (intOf iv).toNat)
  case atStart => exact ⟨0, none, 0, [], Nat.zero_le _, rfl, rfl, Lib.hid (World.ownsRow_nil W3 W3.heap.size 22 1), Lib.hid (fun p hp => (List.not_mem_nil hp).elim), Lib.hid rfl, Below.refl _ _⟩
  case round =>
    obtain ⟨i, A, c, L, hi, rfl, rfl, HA, HOL, HLL, hbr⟩ := hrel
    rename World => wr
    have hbw := hb.trans (hbr.mono hb.size)
    have hs3 := hbr.size
    by_cases hlt : i < X.ln
    · obtain ⟨b, off, p, hAp, _, hp, hc⟩ := pc_at (HL.out wr hbw).row hlt
      obtain rfl : lA = some ⟨b, off, none⟩ := HlA.out.symm.trans hAp
      have hpo := (HL.out wr hbw).loose p (List.mem_of_getElem? hp)
      have hpn := HN.out p (List.mem_cons_of_mem _ (List.mem_of_getElem? hp))
      have hcp := clone_any p.A p.n p.c p.l B wr hpo.here hpo.nil (Nat.le_trans hB hbw.size) (by omega)
      have hlt' : (i : Int) < (X.ln : Int) := by omega
      have hi0 : (0 : Int) ≤ (i : Int) := by omega
      have HP2 := Lib.hid (take_map hp)
      clear hpo hAp hp hpn
      go_wp2_with fail
      refine hcp.mono ?_
      rintro e W5 ⟨A5, n5, c5, rfl, hO5, hb5⟩
      clear hcp hc
      have hba := bel_alloc hb5 (.cells #[.slice A5 n5 c5] 22)
      have hn6 := own_later HA.out hba
      have HN6 := Lib.hid hn6
      have HOL6 := Lib.hid (OwnR.snoc (p := ⟨A5, n5, c5, p.l⟩) (HOL.out.later hba) (own_base (own_later hO5 (bel_alloc (Below.refl _ _) (.cells #[.slice A5 n5 c5] 22))) hs3))
      have hs6 := shows_new' W5 #[.slice A5 n5 c5] 22 1 1 rfl
      have hz6 : W3.heap.size ≤ (W5.alloc (.cells #[.slice A5 n5 c5] 22)).heap.size := Nat.le_trans hs3 hba.size
      have h63 : i + 1 ≤ maxLen := by unfold maxLen; omega
      have hbt : (i + 1) * 24 ≤ 140737488355328 := by omega
      have HX6 := Lib.hid (hbr.trans (hba.mono hs3))
      clear hO5 hb5 hba
      go_wp2_with (at_builtin; refine wpList_append_shows _ rfl _ _ 23 rfl W3.heap.size 22 iP (.slice none 0 0) 1 24 Try.underlying23 hiP hzP hsP hbP rfl (by decide) _ _ _ rfl hn6 _ _ 1 _ _ rfl hs6 (slice_one _ _ _) h63 hbt hz6 ?_; intro A7 c7 w7 hown7 hgrow7 hb7; have HO7 := Lib.hid hown7; have HOL7 := Lib.hid (OwnR.grown HOL6.out HN6.out hgrow7); clear hown7 hgrow7 hn6 hs6 h63 hbt hz6)
      go_roundw
      case rel => exact ⟨i + 1, A7, c7, L ++ [⟨A5, n5, c5, p.l⟩], by omega, by go_num, rfl, Lib.hid (by rw [List.map_append]; exact HO7.out), HOL7, Lib.hid (by rw [List.map_append, HLL.out, HP2.out]; rfl), HX6.out.trans hb7⟩
      case measure => simp [intOf]; omega
    · obtain rfl : X.ln = i := by omega
      have htk : X.L.take X.ln = X.L := List.take_of_length_le (by rw [HlL.out]; exact Nat.le_refl _)
      have HLL2 := Lib.hid (show L.map (·.l) = X.L.map (·.l) by have h := HLL.out; rw [htk] at h; exact h)
      have HV := Lib.hid (HV.out.later hbr)
      have HR := Lib.hid (HR.out.later hbr)
      have HO1 := Lib.hid (own_later HO1.out hbr)
      clear htk HLL
      obtain ⟨⟨f0, f1, f2, f3, f4⟩, k0, k1, k2, k3, k4⟩ := HV.out
      obtain ⟨⟨j0, j1, j2, j3, j4⟩, m0, m1, m2, m3, m4⟩ := HR.out
      go_upto_region 9 with fail
      clear f0 f1 f2 f3 f4 k0 k1 k2 k3 k4 j0 j1 j2 j3 j4 m0 m1 m2 m3 m4
      have HV := Lib.hid (HV.out.set1 (.slice A X.ln c))
      have HR := Lib.hid (HR.out.other (g := w.heap.size) (i := 1) (.slice A X.ln c) (show w.heap.size + 1 ≠ w.heap.size by omega))
      have hb := Below.setCell hbw (p := ⟨w.heap.size, 1, none⟩) (Nat.le_refl w.heap.size) (.slice A X.ln c)
      have q1 := own_base (ownsRow_setCell_below HO1.out (show (⟨w.heap.size, 1, none⟩ : Addr).block < _ by show w.heap.size < _; omega) (.slice A X.ln c)) hn2
      have q2 := own_base (ownsRow_setCell_below HA.out (show (⟨w.heap.size, 1, none⟩ : Addr).block < _ by show w.heap.size < _; omega) (.slice A X.ln c)) hn3
      have q3 := (OwnR.setBelow HOL.out (a := ⟨w.heap.size, 1, none⟩) (by show w.heap.size < _; omega) (.slice A X.ln c)).base hn3
      generalize wr.setCell ⟨w.heap.size, 1, none⟩ (.slice A X.ln c) = W8 at *
      obtain ⟨hL8, haw8⟩ := own_lie (p := ⟨A1, X.F.n, c1, X.F.l⟩) (of := X.off) q1 q2 q3 Hw.out.1 Hw.out.2
      have hbe := fbelow_set5 (a := .slice A1 X.F.n c1) (b := .slice A X.ln c) (c := .int .i64 X.fuse) (d := .int .i64 X.fault) (e := .bool X.off) hb (show w.heap.size ≤ w.heap.size + 1 by omega)
      have hLe := Lib.hid (lie_res (a := .slice A1 X.F.n c1) (b := .slice A X.ln c) (c := .int .i64 X.fuse) (d := .int .i64 X.fault) (e := .bool X.off) hL8 (haw8 (w.heap.size + 1) (by omega)))
      have HAw := Lib.hid (show ∀ g, g < w.heap.size → AwayF ⟨⟨A1, X.F.n, c1, X.F.l⟩, A, X.ln, c, L, X.fuse, X.fault, X.off⟩ g from fun g hg => haw8 g (by omega))
      have HS := Lib.hid (show FileT.s ⟨⟨A1, X.F.n, c1, X.F.l⟩, A, X.ln, c, L, X.fuse, X.fault, X.off⟩ = X.s by
        show FileS.mk X.F.l (L.map (·.l)) X.fuse X.fault X.off = _
        rw [HLL2.out]
        rfl)
      have HQ := Lib.hid (show ∀ p ∈ FileT.Q ⟨⟨A1, X.F.n, c1, X.F.l⟩, A, X.ln, c, L, X.fuse, X.fault, X.off⟩, p.n ≤ 1048576 by
        intro p hp
        rcases List.mem_cons.1 hp with h | h
        · rw [h]
          exact HN.out X.F (List.mem_cons_self ..)
        · have hl : p.l.length = p.n := (hL8.loose p h).len
          have hm : p.l ∈ X.L.map (·.l) := by rw [← HLL2.out]; exact List.mem_map_of_mem h
          obtain ⟨q, hq, he⟩ := List.mem_map.1 hm
          have h2 := HN.out q (List.mem_cons_of_mem _ hq)
          have h3 := ((HL.out wr hbw).loose q hq).len
          rw [he] at h3
          omega)
      clear q1 q2 q3 hL8 haw8 hb hbw HA HOL HO1 HLL2 hbr
      obtain ⟨⟨f0, f1, f2, f3, f4⟩, k0, k1, k2, k3, k4⟩ := HV.out
      obtain ⟨⟨j0, j1, j2, j3, j4⟩, m0, m1, m2, m3, m4⟩ := HR.out
      go_wp2
      (try rw [Exit.noGoto_ret])
      refine bodyPost_ret (v := .agg #[.slice A1 X.F.n c1, .slice A X.ln c, .int .i64 X.fuse, .int .i64 X.fault, .bool X.off]) ?_ rfl ⟨⟨⟨A1, X.F.n, c1, X.F.l⟩, A, X.ln, c, L, X.fuse, X.fault, X.off⟩, rfl, HS.out, hLe.out, hbe, HAw.out, HQ.out, hln⟩
      simp [results, Try.results12, go_sem, *]
end Go.Proofs.Ythoenmggjbojoaa
/-
  Layer 10, plain: a loss of power byte by byte, as the document walks it.
-/
namespace Go.Proofs.Ythoenmggjbojoaa
open Go.RowKit
set_option linter.unusedVariables false

section
variable (l : List UInt8) (i : Nat) (keep : List Bool) (tear cut : Int)
theorem mask_get {k : Nat} {x : UInt8} (hk : l[k]? = some x) : (maskP l i keep tear cut)[k]? = some (if k < survN l i keep tear cut then x else 0) := by
  have hkl := (List.getElem?_eq_some_iff.1 hk).1
  have hs := survN_le l i keep tear cut
  unfold maskP zerosU
  by_cases h : k < survN l i keep tear cut
  · rw [List.getElem?_append_left (by rw [List.length_take]; omega), List.getElem?_take, if_pos h, if_pos h, hk]
  · rw [List.getElem?_append_right (by rw [List.length_take]; omega), List.length_take, List.getElem?_replicate, if_pos (by omega), if_neg h]
theorem mask_yes {k : Nat} {x : UInt8} (hk : l[k]? = some x) (h : k < survN l i keep tear cut) : (maskP l i keep tear cut).take (k + 1) = (maskP l i keep tear cut).take k ++ [x] := by
  rw [List.take_add_one, mask_get l i keep tear cut hk, if_pos h]
  rfl
theorem mask_no {k : Nat} {x : UInt8} (hk : l[k]? = some x) (h : ¬ k < survN l i keep tear cut) : (maskP l i keep tear cut).take (k + 1) = (maskP l i keep tear cut).take k ++ [0] := by
  rw [List.take_add_one, mask_get l i keep tear cut hk, if_neg h]
  rfl
theorem mask_all : (maskP l i keep tear cut).take l.length = maskP l i keep tear cut := List.take_of_length_le (by rw [mask_len]; exact Nat.le_refl _)
end
/-- The end behind so many bytes of a piece of which so many stay. -/
def endK (s a e k : Nat) : Nat := if 0 < min k s then a + min k s else e
theorem endK_0 (s a e : Nat) : endK s a e 0 = e := by unfold endK; rw [Nat.zero_min]; rfl
theorem endK_yes {s a e k : Nat} (h : k < s) : endK s a e (k + 1) = a + k + 1 := by unfold endK; rw [if_pos (by omega)]; omega
theorem endK_no {s a e k : Nat} (h : ¬ k < s) : endK s a e (k + 1) = endK s a e k := by
  unfold endK
  rw [show min (k + 1) s = min k s by omega]
theorem endK_all {s a e n : Nat} (h : s ≤ n) : endK s a e n = if 0 < s then a + s else e := by unfold endK; rw [Nat.min_eq_right h]
theorem endK_le {s a e k : Nat} (h : e ≤ a) : endK s a e k ≤ a + k := by unfold endK; split <;> omega
theorem set_mid {α : Type} (P R : List α) (x v : α) : (P ++ x :: R).set P.length v = P ++ v :: R := by
  induction P with
  | nil => rfl
  | cons p P ih => rw [List.cons_append, List.length_cons, List.set_cons_succ, ih, List.cons_append]
theorem all_step {w : World} {B : Nat} {X : FileT} (hL : LieF w B X) {i : Nat} {p : PcT} (hp : X.L[i]? = some p) : X.all.drop (X.F.n + sumN (X.L.take i)) = p.l ++ X.all.drop (X.F.n + sumN (X.L.take (i + 1))) := by
  have e1 : (joinP (X.L.take i)).length = sumN (X.L.take i) := sumN_len (w := w) (B := B) (fun q hq => hL.loose q (List.mem_of_mem_take hq))
  have e2 : (joinP (X.L.take (i + 1))).length = sumN (X.L.take (i + 1)) := sumN_len (w := w) (B := B) (fun q hq => hL.loose q (List.mem_of_mem_take hq))
  have hj : ∀ n, joinP X.L = joinP (X.L.take n) ++ joinP (X.L.drop n) := fun n => by rw [← joinP_append, List.take_append_drop]
  have d : ∀ n, (joinP (X.L.take n)).length = sumN (X.L.take n) → X.all.drop (X.F.n + sumN (X.L.take n)) = joinP (X.L.drop n) := fun n hn => by
    unfold FileT.all
    rw [hj n, ← List.append_assoc]
    exact List.drop_left' (by rw [List.length_append, hL.firm.len, hn])
  rw [d i e1, d (i + 1) e2]
  have h3 : X.L.drop i = p :: X.L.drop (i + 1) := by
    obtain ⟨h, he⟩ := List.getElem?_eq_some_iff.1 hp
    rw [List.drop_eq_getElem_cons h, he]
  rw [h3, joinP_cons]
theorem all_start {w : World} {B : Nat} {X : FileT} (hL : LieF w B X) : X.all = X.F.l ++ X.all.drop (X.F.n + sumN (X.L.take 0)) := by
  have h : X.all.drop (X.F.n + sumN (X.L.take 0)) = joinP X.L := by
    unfold FileT.all
    rw [List.take_zero]
    exact List.drop_left' (by rw [hL.firm.len]; rfl)
  rw [h]
  rfl
theorem mask_step {keep : List Bool} {tear cut : Int} {L : List PcT} {i : Nat} {p : PcT} {M R : List UInt8} (hp : L[i]? = some p) (h : maskGo keep tear cut ((L.drop i).map (·.l)) i M = R) : maskGo keep tear cut ((L.drop (i + 1)).map (·.l)) (i + 1) (M ++ maskP p.l i keep tear cut) = R := by
  obtain ⟨hi, he⟩ := List.getElem?_eq_some_iff.1 hp
  rw [List.drop_eq_getElem_cons hi, he, List.map_cons] at h
  exact h
theorem end_step {keep : List Bool} {tear cut : Int} {L : List PcT} {i a e E : Nat} {p : PcT} (hp : L[i]? = some p) (hl : p.l.length = p.n) (h : endGo keep tear cut ((L.drop i).map (·.l)) i a e = E) : endGo keep tear cut ((L.drop (i + 1)).map (·.l)) (i + 1) (a + p.n) (endK (survN p.l i keep tear cut) a e p.n) = E := by
  obtain ⟨hi, he⟩ := List.getElem?_eq_some_iff.1 hp
  rw [List.drop_eq_getElem_cons hi, he, List.map_cons] at h
  have h2 : endGo keep tear cut ((L.drop (i + 1)).map (·.l)) (i + 1) (a + p.l.length) (if 0 < survN p.l i keep tear cut then a + survN p.l i keep tear cut else e) = E := h
  rw [endK_all (by rw [← hl]; exact survN_le _ _ _ _ _), ← hl]
  exact h2
/-- What both come to. -/
theorem crash_doc (X : FileT) (keep : List Bool) (tear cut : Int) : (X.s.crash keep tear cut).firm = (maskGo keep tear cut ((X.L.drop 0).map (·.l)) 0 X.F.l).take (endGo keep tear cut ((X.L.drop 0).map (·.l)) 0 X.F.l.length X.F.l.length) :=
  crash_is keep tear cut X.s.loose 0 X.F.l.length X.F.l.length X.F.l X.F.l rfl ⟨rfl, by rw [Nat.sub_self]; unfold zerosU; rw [List.replicate_zero, List.append_nil], Nat.le_refl _⟩
end Go.Proofs.Ythoenmggjbojoaa
/-
  Layer 10: the reference's Crash.
-/
namespace Go.Proofs.Ythoenmggjbojoaa
open Go.RowKit
set_option linter.unusedVariables false

set_option maxRecDepth 20000 in
set_option maxHeartbeats 8000000 in
theorem refCrash_any (X : FileT) (k : BoT) (tear cut : Int) (B : Nat) (w : World) (hL : LieF w B X) (hk : k.Ok w B) (hB : B ≤ w.heap.size) (hr : X.right = true) :
    Calls Try.prog 36 #[X.agg, .slice k.A k.n k.c, .int .i64 tear, .int .i64 cut] w fun e w' => ∃ Y : FileT, e = .returned Y.agg ∧ Y.s = X.s.crash k.l tear cut ∧ LieF w' w'.heap.size Y ∧ Below w.heap.size w w' ∧ ∀ g, g < w.heap.size → AwayF Y g := by
  have hb := bel_alloc (bel_alloc (Below.refl w.heap.size w) (.cells #[.slice X.F.A X.F.n X.F.c, .slice X.lA X.ln X.lc, .int .i64 X.fuse, .int .i64 X.fault, .bool X.off] 25)) (.cells #[.slice none 0 0, .slice none 0 0, .int .i64 0, .int .i64 0, .bool false] 25)
  have HX1 := Lib.hid ((FBox.new w X 25).later (bel_alloc (Below.refl _ _) (.cells #[.slice none 0 0, .slice none 0 0, .int .i64 0, .int .i64 0, .bool false] 25)))
  have hR := FVar.new (w.alloc (.cells #[.slice X.F.A X.F.n X.F.c, .slice X.lA X.ln X.lc, .int .i64 X.fuse, .int .i64 X.fault, .bool X.off] 25)) (.slice none 0 0) (.slice none 0 0) (.int .i64 0) (.int .i64 0) (.bool false) 25
  rw [World.size_alloc] at hR
  have HR := Lib.hid hR
  have hn2 : w.heap.size + 2 ≤ ((w.alloc (.cells #[.slice X.F.A X.F.n X.F.c, .slice X.lA X.ln X.lc, .int .i64 X.fuse, .int .i64 X.fault, .bool X.off] 25)).alloc (.cells #[.slice none 0 0, .slice none 0 0, .int .i64 0, .int .i64 0, .bool false] 25)).heap.size := by rw [World.size_alloc, World.size_alloc]; omega
  have HL := Lib.hid (fun W (h : Below w.heap.size w W) => hL.later (h.mono hB))
  have HK := Lib.hid (fun W (h : Below w.heap.size w W) => hk.later (h.mono hB))
  have hAl := Lib.hid (fun W (h : Below w.heap.size w W) => refAll_any X B W (hL.later (h.mono hB)) (Nat.le_trans hB h.size) hr)
  have Hdoc := Lib.hid (crash_doc X k.l tear cut)
  have hFl := hL.firm.len
  have Hst := Lib.hid (all_start hL)
  obtain ⟨hlong, hmax⟩ := right_all hL hr
  have hsum : X.all.length = X.F.n + sumN X.L := by unfold FileT.all; rw [List.length_append, hFl, sumN_len hL.loose]
  have Hsum := Lib.hid hsum
  have hln9 : X.ln ≤ 9223372036854775807 := by
    have := hL.fits
    have := hL.most
    unfold maxLen at this
    omega
  obtain ⟨lo, hlo⟩ : ∃ lo, X.long = lo := ⟨_, rfl⟩
  rw [hlo] at hAl
  have hall : X.all.length = lo := by rw [← hlong, hlo]
  have hlo5 : lo ≤ 524288 := by omega
  have Hall := Lib.hid hall
  have HlL := Lib.hid hL.len
  have HFl := Lib.hid hFl
  have hF5 : X.F.n ≤ 524288 := by omega
  obtain ⟨kA, kn, kc, kl⟩ := k
  simp only [FileT.agg, PcT.val] at hAl ⊢
  clear hR hL hk hr hlong hmax hsum hlo hall hFl
  go_enter Try.func36, Try.ntmps36
  obtain ⟨f0, f1, f2, f3, f4⟩ := HX1.out
  go_wp2_with fail
  generalize (w.alloc (.cells #[.slice X.F.A X.F.n X.F.c, .slice X.lA X.ln X.lc, .int .i64 X.fuse, .int .i64 X.fault, .bool X.off] 25)).alloc (.cells #[.slice none 0 0, .slice none 0 0, .int .i64 0, .int .i64 0, .bool false] 25) = W1 at *
  refine (hAl.out _ hb).mono ?_
  rintro e W2 ⟨A, c, rfl, hO, hb2⟩
  clear f0 f1 f2 f3 f4 hAl
  obtain ⟨f0, f1, f2, f3, f4⟩ := HX1.out.later hb2
  have hlc := (own_facts hO.out).2.1
  have HO := Lib.hid (show W2.ownsRow W1.heap.size 5 1 (.slice A lo c) lo ((X.F.l ++ X.all.drop (X.F.n + sumN (X.L.take 0))).map bv) by
    have h := hO.out
    rw [Hst.out] at h
    exact h)
  have hs1 := hb2.size
  clear hO
  obtain ⟨MM, hMM⟩ : ∃ M, maskGo kl tear cut ((X.L.drop 0).map (·.l)) 0 X.F.l = M := ⟨_, rfl⟩
  obtain ⟨EE, hEE⟩ : ∃ M, endGo kl tear cut ((X.L.drop 0).map (·.l)) 0 X.F.l.length X.F.l.length = M := ⟨_, rfl⟩
  have HD := Lib.hid (show (X.s.crash kl tear cut).firm = MM.take EE from Hdoc.out.trans (by rw [← hMM, ← hEE]))
  have HM0 := Lib.hid hMM
  rw [HFl.out] at hEE
  have HE0 := Lib.hid hEE
  clear hMM hEE Hdoc
  go_wp2
  go_loopw [10, 11, 12] (fun ev av iv wr => ∃ (i a e : Nat) (M : List UInt8), i ≤ X.ln ∧ iv = .int .i64 i ∧ av = .int .i64 a ∧ ev = .int .i64 e ∧ Hid (a = X.F.n + sumN (X.L.take i)) ∧ e ≤ a ∧ Hid (M.length = a) ∧ Hid (maskGo kl tear cut ((X.L.drop i).map (·.l)) i M = MM) ∧ Hid (endGo kl tear cut ((X.L.drop i).map (·.l)) i a e = EE) ∧ Hid (wr.ownsRow W1.heap.size 5 1 (.slice A lo c) lo ((M ++ X.all.drop (X.F.n + sumN (X.L.take i))).map bv)) ∧ Below W1.heap.size W2 wr) (fun _ _ iv _ => X.ln - (intOf iv).toNat)
  case atStart => exact ⟨0, X.F.n, X.F.n, X.F.l, Nat.zero_le _, rfl, rfl, rfl, Lib.hid (by simp [sumN]), Nat.le_refl _, HFl, HM0, HE0, HO, Below.refl _ _⟩
  case round =>
    clear f0 f1 f2 f3 f4
    obtain ⟨i, a, e, M, hi, rfl, rfl, rfl, HA, hea, HMl, HM, HE, HOi, hbr⟩ := hrel
    rename World => wr
    have hbb := hb2.trans hbr
    have hbw := bel_next hb hbb
    have f1 := (HX1.out.later hbb).2.1
    by_cases hlt : i < X.ln
    · obtain ⟨b, off, p, hAp, hbB, hp, hc⟩ := pc_at (HL.out wr hbw).row hlt
      have hpo := (HL.out wr hbw).loose p (List.mem_of_getElem? hp)
      have hlt' : (i : Int) < (X.ln : Int) := by omega
      have hi0 : (0 : Int) ≤ (i : Int) := by omega
      have HA2 := Lib.hid (show a + p.n = X.F.n + sumN (X.L.take (i + 1)) by
        rw [HA.out]
        have : sumN (X.L.take (i + 1)) = sumN (X.L.take i) + p.n := by unfold sumN; rw [List.take_add_one, hp]; simp
        omega)
      have hmp : a + p.n ≤ lo := by
        rw [HA2.out, ← Hall.out, Hsum.out]
        have := sumN_take X.L (i + 1)
        omega
      obtain ⟨RR, hRR⟩ : ∃ R, X.all.drop (X.F.n + sumN (X.L.take (i + 1))) = R := ⟨_, rfl⟩
      have HRR := Lib.hid hRR
      obtain ⟨s, hs⟩ : ∃ s, survN p.l i kl tear cut = s := ⟨_, rfl⟩
      have Hs := Lib.hid hs
      have HM2 := Lib.hid (mask_step hp HM.out)
      have HE2 := Lib.hid (end_step hp hpo.len HE.out)
      have HOj := Lib.hid (show wr.ownsRow W1.heap.size 5 1 (.slice A lo c) lo ((M ++ (maskP p.l i kl tear cut).take 0 ++ (p.l.drop 0 ++ RR)).map bv) by
        have h := HOi.out
        rw [all_step (HL.out wr hbw) hp, hRR] at h
        simpa using h)
      have HP := Lib.hid hpo
      have HAp := Lib.hid hAp
      have Hc := Lib.hid (fun W (h : Below w.heap.size w W) => (show W.cell? ⟨b, off + i, none⟩ = some (.slice p.A p.n p.c) from by
        obtain ⟨b', off', p', hA', _, hp', hc'⟩ := pc_at (HL.out W h).row hlt
        rw [hAp] at hA'
        obtain ⟨rfl, rfl⟩ : b = b' ∧ off = off' := by simpa using hA'
        rw [hp] at hp'
        cases hp'
        exact hc'))
      rw [hs] at HE2
      clear hp hpo hRR hs HOi HM HE HA hAp hc hbB
      go_wp2
      go_loopw [10, 11, 13] (fun ev av kv wr => ∃ kk : Nat, kk ≤ p.n ∧ kv = .int .i64 kk ∧ av = .int .i64 (a + kk : Nat) ∧ ev = .int .i64 (endK s a e kk : Nat) ∧ Hid (wr.ownsRow W1.heap.size 5 1 (.slice A lo c) lo ((M ++ (maskP p.l i kl tear cut).take kk ++ (p.l.drop kk ++ RR)).map bv)) ∧ Below W1.heap.size W2 wr) (fun _ _ kv _ => p.n - (intOf kv).toNat)
      case atStart => exact ⟨0, Nat.zero_le _, rfl, rfl, by rw [endK_0], HOj, hbr⟩
      case round =>
        clear f1 hbr hbb hbw HOj
        obtain ⟨kk, hkk, rfl, rfl, rfl, HO6, hbr⟩ := hrel
        rename World => wr
        have hbb := hb2.trans hbr
        have hbw := bel_next hb hbb
        have f1 := (HX1.out.later hbb).2.1
        rw [HAp.out] at f1
        have hc := Hc.out wr hbw
        have hen := endK_le (s := s) (k := kk) hea
        by_cases hlk : kk < p.n
        · have hkl : kk < p.l.length := by rw [HP.out.len]; exact hlk
          obtain ⟨x, hx⟩ : ∃ x, p.l[kk]? = some x := ⟨_, List.getElem?_eq_getElem hkl⟩
          have Hx := Lib.hid hx
          have Hd := Lib.hid (show p.l.drop kk = x :: p.l.drop (kk + 1) by
            obtain ⟨h, he⟩ := List.getElem?_eq_some_iff.1 hx
            rw [List.drop_eq_getElem_cons h, he])
          have hlk' : (kk : Int) < (p.n : Int) := by omega
          have Hsy := Lib.hid (show stayB i kk kl tear cut = decide (kk < s) by rw [← Hs.out]; exact stay_iff p.l i kk kl tear cut hkl)
          clear hx hkl
          go_upto_region 10 with fail
          obtain ⟨hv, hhv⟩ : ∃ v, kl.getD i false = v := ⟨_, rfl⟩
          have Hv := Lib.hid hhv
          clear hhv
          go_cut [14] (fun sv wx => sv = .bool hv ∧ wr = wx)
          case first =>
            by_cases hik : i < kn
            · obtain ⟨b1, off1, rfl, _, hk1⟩ := (HK.out wr hbw).here.cell hik
              have h2 : (i : Int) < (kn : Int) := by omega
              rw [Hv.out] at hk1
              go_wp2
              all_goals
                go_meet
                case rel => exact ⟨by first | rfl | (cases hv <;> rfl), rfl⟩
            · have h2 : ((i : Int) < (kn : Int)) = False := by simp; omega
              have hvf : hv = false := by
                rw [← Hv.out, List.getD_eq_getElem?_getD, List.getElem?_eq_none (by have := (HK.out wr hbw).here.1; simp at this; omega)]
                rfl
              have Hvf := Lib.hid hvf
              clear hvf
              go_wp2
              all_goals
                go_meet
                case rel => exact ⟨by rw [Hvf.out], rfl⟩
          case rest =>
            obtain ⟨rfl, rfl⟩ := hcut
            by_cases hit : (i : Int) = tear
            · have g1 : ((i : Int) == tear) = true := beq_iff_eq.2 hit
              have hst : decide ((kk : Int) < cut) = decide (kk < s) := by
                have h := Hsy.out
                unfold stayB at h
                rw [if_pos hit] at h
                exact h
              by_cases hks : kk < s
              · have h3 : ((kk : Int) < cut) = True := eq_true (of_decide_eq_true (by rw [hst]; exact decide_eq_true hks))
                clear hit hst Hsy
                have HE := Lib.hid (show endK s a e (kk + 1) = a + kk + 1 from endK_yes hks)
                have HO7 := Lib.hid (show wr.ownsRow W1.heap.size 5 1 (.slice A lo c) lo ((M ++ (maskP p.l i kl tear cut).take (kk + 1) ++ (p.l.drop (kk + 1) ++ RR)).map bv) by
                  have h := HO6.out
                  rw [Hd.out] at h
                  rw [mask_yes p.l i kl tear cut Hx.out (by rw [Hs.out]; exact hks)]
                  simpa using h)
                clear hks HO6
                go_wp2
                all_goals
                  go_roundw
                  case rel => exact ⟨kk + 1, by omega, by go_num, by go_num, by rw [HE.out]; go_num, HO7, hbr⟩
                  case measure => simp [intOf]; omega
              · have h3 : ((kk : Int) < cut) = False := eq_false (of_decide_eq_false (by rw [hst]; exact decide_eq_false hks))
                clear hit hst Hsy
                have HE := Lib.hid (show endK s a e (kk + 1) = endK s a e kk from endK_no hks)
                have hn0 : 0 < lo := by omega
                obtain ⟨g, cap, hgv, hgb, hgl⟩ := HO6.out.form hn0
                obtain ⟨rfl, -, rfl⟩ : A = some ⟨g, 0, none⟩ ∧ lo = lo ∧ c = cap := by
                  injection hgv with h1 h2 h3
                  exact ⟨h1, rfl, h3⟩
                obtain ⟨b4, off4, e4, hb4, hc4⟩ := (Shows.own HO6.out).2 hn0
                obtain ⟨rfl, rfl⟩ : g = b4 ∧ 0 = off4 := by simpa using e4
                have hPl : (M ++ (maskP p.l i kl tear cut).take kk).length = a + kk := by rw [List.length_append, HMl.out, List.length_take, mask_len, HP.out.len]; omega
                have hq4 := hc4 (a + kk) (bv x) (by
                  rw [List.getElem?_map, Hd.out, List.getElem?_append_right (by rw [hPl]; exact Nat.le_refl _), hPl, Nat.sub_self]
                  rfl)
                rw [Nat.zero_add] at hq4
                have hf4 := World.ownsRow.frozenAt HO6.out (a + kk)
                have hst := (World.ownsRow.stored HO6.out (a + kk) (.int .u8 0)).1
                have HO7 := Lib.hid (show (wr.setCell ⟨g, a + kk, none⟩ (.int .u8 0)).ownsRow W1.heap.size 5 1 (.slice (some ⟨g, 0, none⟩) lo c) lo ((M ++ (maskP p.l i kl tear cut).take (kk + 1) ++ (p.l.drop (kk + 1) ++ RR)).map bv) by
                  rw [mask_no p.l i kl tear cut Hx.out (by rw [Hs.out]; exact hks)]
                  have h := hst
                  rw [Hd.out, show (Value.int .u8 0) = bv 0 from rfl, ← List.map_set, List.cons_append, ← hPl, set_mid, hPl] at h
                  have e2 : M ++ ((maskP p.l i kl tear cut).take kk ++ [0]) ++ (p.l.drop (kk + 1) ++ RR) = M ++ (maskP p.l i kl tear cut).take kk ++ 0 :: (p.l.drop (kk + 1) ++ RR) := by simp
                  rw [e2]
                  exact h)
                have hbn := Below.setCell hbr (p := ⟨g, a + kk, none⟩) hgb (.int .u8 0)
                have hal : (a + kk : Nat) < lo := by omega
                have hal1 : ((a + kk : Nat) : Int) < (lo : Int) := by omega
                have hal0 : (0 : Int) ≤ ((a + kk : Nat) : Int) := by omega
                clear hks HO6 hgv hst hPl hc4 e4 hgl hb4
                unfold bv at hq4
                go_wp2
                all_goals
                  go_roundw
                  case rel => exact ⟨kk + 1, by omega, by go_num, by go_num, by rw [HE.out], HO7, hbn⟩
                  case measure => simp [intOf]; omega
            · have g1 : ((i : Int) == tear) = false := beq_eq_false_iff_ne.2 hit
              have hst : hv = decide (kk < s) := by
                have h := Hsy.out
                unfold stayB at h
                rw [if_neg hit, Hv.out] at h
                exact h
              clear Hv
              cases hv
              · have hks : ¬ kk < s := of_decide_eq_false hst.symm
                clear hit hst Hsy
                have HE := Lib.hid (show endK s a e (kk + 1) = endK s a e kk from endK_no hks)
                have hn0 : 0 < lo := by omega
                obtain ⟨g, cap, hgv, hgb, hgl⟩ := HO6.out.form hn0
                obtain ⟨rfl, -, rfl⟩ : A = some ⟨g, 0, none⟩ ∧ lo = lo ∧ c = cap := by
                  injection hgv with h1 h2 h3
                  exact ⟨h1, rfl, h3⟩
                obtain ⟨b4, off4, e4, hb4, hc4⟩ := (Shows.own HO6.out).2 hn0
                obtain ⟨rfl, rfl⟩ : g = b4 ∧ 0 = off4 := by simpa using e4
                have hPl : (M ++ (maskP p.l i kl tear cut).take kk).length = a + kk := by rw [List.length_append, HMl.out, List.length_take, mask_len, HP.out.len]; omega
                have hq4 := hc4 (a + kk) (bv x) (by
                  rw [List.getElem?_map, Hd.out, List.getElem?_append_right (by rw [hPl]; exact Nat.le_refl _), hPl, Nat.sub_self]
                  rfl)
                rw [Nat.zero_add] at hq4
                have hf4 := World.ownsRow.frozenAt HO6.out (a + kk)
                have hst := (World.ownsRow.stored HO6.out (a + kk) (.int .u8 0)).1
                have HO7 := Lib.hid (show (wr.setCell ⟨g, a + kk, none⟩ (.int .u8 0)).ownsRow W1.heap.size 5 1 (.slice (some ⟨g, 0, none⟩) lo c) lo ((M ++ (maskP p.l i kl tear cut).take (kk + 1) ++ (p.l.drop (kk + 1) ++ RR)).map bv) by
                  rw [mask_no p.l i kl tear cut Hx.out (by rw [Hs.out]; exact hks)]
                  have h := hst
                  rw [Hd.out, show (Value.int .u8 0) = bv 0 from rfl, ← List.map_set, List.cons_append, ← hPl, set_mid, hPl] at h
                  have e2 : M ++ ((maskP p.l i kl tear cut).take kk ++ [0]) ++ (p.l.drop (kk + 1) ++ RR) = M ++ (maskP p.l i kl tear cut).take kk ++ 0 :: (p.l.drop (kk + 1) ++ RR) := by simp
                  rw [e2]
                  exact h)
                have hbn := Below.setCell hbr (p := ⟨g, a + kk, none⟩) hgb (.int .u8 0)
                have hal : (a + kk : Nat) < lo := by omega
                have hal1 : ((a + kk : Nat) : Int) < (lo : Int) := by omega
                have hal0 : (0 : Int) ≤ ((a + kk : Nat) : Int) := by omega
                clear hks HO6 hgv hst hPl hc4 e4 hgl hb4
                unfold bv at hq4
                go_wp2
                all_goals
                  go_roundw
                  case rel => exact ⟨kk + 1, by omega, by go_num, by go_num, by rw [HE.out], HO7, hbn⟩
                  case measure => simp [intOf]; omega
              · have hks : kk < s := of_decide_eq_true hst.symm
                clear hit hst Hsy
                have HE := Lib.hid (show endK s a e (kk + 1) = a + kk + 1 from endK_yes hks)
                have HO7 := Lib.hid (show wr.ownsRow W1.heap.size 5 1 (.slice A lo c) lo ((M ++ (maskP p.l i kl tear cut).take (kk + 1) ++ (p.l.drop (kk + 1) ++ RR)).map bv) by
                  have h := HO6.out
                  rw [Hd.out] at h
                  rw [mask_yes p.l i kl tear cut Hx.out (by rw [Hs.out]; exact hks)]
                  simpa using h)
                clear hks HO6
                go_wp2
                all_goals
                  go_roundw
                  case rel => exact ⟨kk + 1, by omega, by go_num, by go_num, by rw [HE.out]; go_num, HO7, hbr⟩
                  case measure => simp [intOf]; omega
        · obtain rfl : p.n = kk := by omega
          have HO7 := Lib.hid (show wr.ownsRow W1.heap.size 5 1 (.slice A lo c) lo (((M ++ maskP p.l i kl tear cut) ++ X.all.drop (X.F.n + sumN (X.L.take (i + 1)))).map bv) by
            have h := HO6.out
            have hl := HP.out.len
            rw [← hl, mask_all, List.drop_length, List.nil_append] at h
            rw [HRR.out]
            exact h)
          have HMl2 := Lib.hid (show (M ++ maskP p.l i kl tear cut).length = a + p.n by rw [List.length_append, HMl.out, mask_len, HP.out.len])
          clear HO6 f1
          have f1 := (HX1.out.later hbb).2.1
          rw [HAp.out] at f1
          go_wp2
          all_goals
            go_roundw
            case rel => exact ⟨i + 1, a + p.n, endK s a e p.n, M ++ maskP p.l i kl tear cut, by omega, by go_num, rfl, rfl, HA2, hen, HMl2, HM2, HE2, HO7, hbr⟩
            case measure => simp [intOf]; omega
    · obtain rfl : X.ln = i := by omega
      have htk : X.L.take X.ln = X.L := List.take_of_length_le (by rw [HlL.out]; exact Nat.le_refl _)
      have hdr : X.L.drop X.ln = [] := List.drop_of_length_le (by rw [HlL.out]; exact Nat.le_refl _)
      have hM : M = MM := by have h := HM.out; rw [hdr] at h; exact h
      have hE : e = EE := by have h := HE.out; rw [hdr] at h; exact h
      have hal : a = lo := by rw [HA.out, htk, ← Hall.out, Hsum.out]
      have hel : e ≤ lo := by omega
      have hMl := HMl.out
      have hby := (Bytes.own HOi.out).first hel
      have htm : (M ++ X.all.drop (X.F.n + sumN (X.L.take X.ln))).take e = M.take e := List.take_append_of_le_length (by omega)
      rw [htm] at hby
      obtain ⟨r1, r2, r3⟩ := own_facts HOi.out
      have hp : PcT.Ok wr wr.heap.size ⟨A, e, c, M.take e⟩ := ⟨hby, r1, by show e ≤ c; omega, r3⟩
      have haw : ∀ g, g < w.heap.size + 2 → AwayF ⟨⟨A, e, c, M.take e⟩, none, 0, 0, [], -1, -1, false⟩ g := fun g hg => ⟨fun b off hA hn => own_away HOi.out (by omega) b off hA (by have : 0 < e := hn; omega), fun b off h _ => (by cases h), fun q hq => (List.not_mem_nil hq).elim⟩
      have hbe := fbelow_set5 (a := .slice A e c) (b := .slice none 0 0) (c := .int .i64 (-1)) (d := .int .i64 (-1)) (e := .bool false) hbw (show w.heap.size ≤ w.heap.size + 1 by omega)
      have hLe := Lib.hid (lie_res (a := .slice A e c) (b := .slice none 0 0) (c := .int .i64 (-1)) (d := .int .i64 (-1)) (e := .bool false) (lie_syn (b := false) (u := -1) (v := -1) hp (by decide) (by decide)) (haw (w.heap.size + 1) (by omega)))
      have HAw := Lib.hid (show ∀ g, g < w.heap.size → AwayF ⟨⟨A, e, c, M.take e⟩, none, 0, 0, [], -1, -1, false⟩ g from fun g hg => haw g (by omega))
      have HS := Lib.hid (show FileT.s ⟨⟨A, e, c, M.take e⟩, none, 0, 0, [], -1, -1, false⟩ = X.s.crash kl tear cut by
        rw [hM, hE]
        have h := HD.out
        show FileS.mk (MM.take EE) [] (-1) (-1) false = _
        rw [← h]
        rfl)
      have hec : (e : Int) ≤ (c : Int) := by omega
      have hHR := HR.out.later hbb
      have he0 : (0 : Int) ≤ (e : Int) := by omega
      clear htk hdr hM hE hal hMl hby htm r1 r3 hp haw HA HM HE HOi HMl
      obtain ⟨⟨j0, j1, j2, j3, j4⟩, m0, m1, m2, m3, m4⟩ := hHR
      go_wp2
      (try rw [Exit.noGoto_ret])
      refine bodyPost_ret (v := .agg #[.slice A e c, .slice none 0 0, .int .i64 (-1), .int .i64 (-1), .bool false]) ?_ rfl ⟨⟨⟨A, e, c, M.take e⟩, none, 0, 0, [], -1, -1, false⟩, rfl, HS.out, hLe.out, hbe, HAw.out⟩
      simp [results, Try.results36, go_sem, *]
end Go.Proofs.Ythoenmggjbojoaa
