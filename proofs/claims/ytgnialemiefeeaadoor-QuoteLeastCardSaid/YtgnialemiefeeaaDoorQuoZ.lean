/-
  Layer 2, the reference: Read.
-/
import Derived.Test.YtgnialemiefeeaaDoorQuoY
import Derived.Test.YtgnialemiefeeaaDoorQuoF
namespace Go.Proofs.YtgnialemiefeeaaDoor
open Go.RowKit

/-- What the reference's Read tells. -/
def rdL (l : List UInt8) (p : Nat) : List Nat × Nat × Int :=
  if l.length ≤ p then ([], p, 6) else if at0 l p ≠ 34 then ([], p, 7) else
  let q := p + 1 + (sgsL (l.drop (p + 1))).2
  if q < l.length ∧ at0 l q = 34 then ((sgsL (l.drop (p + 1))).1, q + 1, 0) else ([], q, faultN l q)
theorem rd_is {l : List UInt8} {p q : Nat} {cps : List Nat} (h : p < l.length) (h2 : at0 l p = 34) (hp : p + 1 ≤ q) (hs : sgsL (l.drop (p + 1)) = (cps, q - (p + 1))) :
    rdL l p = if q < l.length ∧ at0 l q = 34 then (cps, q + 1, 0) else ([], q, faultN l q) := by
  have e : p + 1 + (q - (p + 1)) = q := by omega
  unfold rdL
  rw [if_neg (by omega), if_neg (by omega), hs]
  simp only [e]
def GivesRd (l : List UInt8) (p : Nat) (W : World) (e : Ending) (w' : World) : Prop :=
  ∃ A n c, w'.ownsRow W.heap.size 3 1 (.slice A n c) n ((nats (rdL l p).1).map iv) ∧ Below W.heap.size W w' ∧
    e = .returned (.tuple #[.slice A n c, .int .i64 ((rdL l p).2.1 : Int), .int .i64 (rdL l p).2.2])
theorem gives_none {l : List UInt8} {p q : Nat} {r : Int} {W w' : World} (h : rdL l p = ([], q, r)) (hb : Below W.heap.size W w') : GivesRd l p W (.returned (.tuple #[.slice none 0 0, .int .i64 (q : Int), .int .i64 r])) w' :=
  ⟨none, 0, 0, by rw [h]; exact World.ownsRow_nil _ _ _ _, hb, by rw [h]⟩

set_option maxRecDepth 20000 in
set_option maxHeartbeats 2000000 in
theorem refRead_any (A : Option Addr) (m c0 B p : Nat) (l : List UInt8) (w : World) (hl : Bytes w B A m l) (hB : B ≤ w.heap.size) (hm : m ≤ 100000) (hmc : m ≤ c0) (hc : c0 ≤ maxLen) (hp : p ≤ m) :
    Calls Tryd.prog 17 #[.slice A m c0, .int .i64 (p : Int)] w (GivesRd l p w) := by
  unfold maxLen at hc
  have hlen := Lib.hid hl.len
  by_cases he : p = m
  · subst he
    have HR := Lib.hid (show rdL l p = ([], p, 6) from if_pos (by rw [hlen.out]; exact Nat.le_refl _))
    clear hl
    go_enter Tryd.func17, Tryd.ntmps17
    go_wp2
    go_ret3
    exact gives_none HR.out (Below.refl _ _)
  · have hp2 : ((p : Int) == (m : Int)) = false := by rw [beq_eq_false_iff_ne]; omega
    have hp3 : (p : Int) < (m : Int) := by omega
    have hp4 : (0 : Int) ≤ p := by omega
    obtain ⟨b, off, rfl, hbB, hc0⟩ := hl.cell (k := p) (by omega)
    rw [show at8 l p = ((at0 l p : Nat) : Int) from rfl] at hc0
    by_cases h3 : at0 l p = 34
    · rw [h3] at hc0
      obtain ⟨i0, hi, hz0, hz1, hz2⟩ := i64_info
      have Hp := Lib.hid (show p < l.length by rw [hlen.out]; omega)
      have H3 := Lib.hid h3
      have hmc' : (m : Int) ≤ c0 := by omega
      clear h3
      go_enter Tryd.func17, Tryd.ntmps17
      go_wp2
      clear hc0
      go_loopw [1, 7] (fun a o wr => ∃ (q : Nat) (pre : List Nat) (A' : Option Addr) (n' c' : Nat), a = .int .i64 q ∧ o = .slice A' n' c' ∧ p + 1 ≤ q ∧ q ≤ m ∧ n' ≤ q ∧ wr.ownsRow w.heap.size 3 1 (.slice A' n' c') n' ((nats pre).map iv) ∧ Hid (Sofar l (p + 1) q pre) ∧ Below w.heap.size w wr) (fun a _ _ => m - (intOf a).toNat)
      case atStart => exact ⟨p + 1, [], none, 0, 0, by go_num, rfl, by omega, by omega, by omega, World.ownsRow_nil _ _ _ _, Lib.hid (Sofar.start (by have := Hp.out; omega)), Below.refl _ _⟩
      case round =>
        obtain ⟨q, pre, A', n', c', rfl, rfl, hq1, hqm, hnq, hown, Hs, hbr⟩ := hrel
        have hsw := hbr.size
        have q0 : (0 : Int) ≤ q := by omega
        have hlr := hl.below (hbr.mono hB)
        have hqc : (q : Int) ≤ c0 := by omega
        have hqm' : (q : Int) ≤ m := by omega
        by_cases hlt : q < m
        · have hlt' : (q : Int) < m := by omega
          have hne : ¬ c0 = q := by omega
          have hne' : ¬ (c0 : Int) = q := by omega
          obtain ⟨b', off', e, _, hcq⟩ := hlr.cell (k := q) hlt
          injection e with e
          injection e with e1 e2
          subst e1; subst e2
          rw [show at8 l q = ((at0 l q : Nat) : Int) from rfl] at hcq
          by_cases h4 : at0 l q = 34
          · have hbz : (begL (l.drop q)).2 = 0 := by rw [beg_bad (.inr (by rw [at0_drop]; exact h4))]
            have HR := Lib.hid (show rdL l p = (pre, q + 1, 0) by rw [rd_is Hp.out H3.out hq1 (Hs.out.done hbz), if_pos ⟨by rw [hlen.out]; exact hlt, h4⟩])
            rw [h4] at hcq
            clear h4 hbz
            go_wp2_with fail
            go_ret3
            exact ⟨A', n', c', by rw [HR.out]; exact hown, hbr, by rw [HR.out]; rfl⟩
          · have h4' : (((at0 l q : Nat) : Int) == 34) = false := by rw [beq_eq_false_iff_ne]; omega
            have hcut := hlr.cut (k := q) (cap := c0) (by omega) hmc
            rw [if_neg hne, Option.map_some, addr_add] at hcut
            have hbeg := refBegin_any _ (m - q) (c0 - q) B (l.drop q) wr hcut (by omega) (by unfold maxLen; omega) (by omega)
            unfold pairV at hbeg
            have hle := beg_le (l.drop q)
            rw [List.length_drop, hlen.out] at hle
            by_cases h5 : (begL (l.drop q)).2 = 0
            · have HR := Lib.hid (show rdL l p = ([], q, faultN l q) by rw [rd_is Hp.out H3.out hq1 (Hs.out.done h5), if_neg (fun h => h4 h.2)])
              have hwr := fun (W : World) (hb : Below wr.heap.size wr W) => wrong_any (some ⟨b, off, none⟩) m c0 B q l W (hlr.below (hb.mono (by omega))) (by unfold maxLen; omega) hqm
              rw [beg_zero h5] at hbeg
              clear h4 h5 hle
              generalize at0 l q = y at *
              generalize faultN l q = z at *
              go_wp2_with fail
              refine hbeg.mono ?_
              rintro e w1 ⟨rfl, hb1⟩
              go_wp2_with fail
              refine (hwr _ hb1).mono ?_
              rintro e w2 ⟨rfl, rfl⟩
              go_wp2
              go_ret3
              exact gives_none HR.out (bel_next hbr hb1)
            · have HS := Lib.hid (Hs.out.step h5)
              have h5' : (((begL (l.drop q)).2 : Int) == 0) = false := by rw [beq_eq_false_iff_ne]; omega
              have h5p : 0 < (begL (l.drop q)).2 := by omega
              clear h4 h5
              generalize at0 l q = y at *
              generalize (begL (l.drop q)).1 = c at *
              generalize (begL (l.drop q)).2 = k at *
              go_wp2_with fail
              refine hbeg.mono ?_
              rintro e w1 ⟨rfl, hb1⟩
              have hown1 := own_below hown hb1
              have hs1 := hb1.size
              have hnew : Shows (w1.alloc (.cells #[.int .i64 (c : Int)] 3)) (w1.heap.size + 1) 1 (some ⟨w1.heap.size, 0, none⟩) 1 [.int .i64 (c : Int)] := ints_new w1 [(c : Int)] _ _ _ rfl
              go_wp2_with (at_builtin; refine wpList_append_shows _ rfl _ _ 35 rfl w.heap.size 3 i0 (.int .i64 0) 1 8 Tryd.underlying35 hi hz0 hz1 hz2 rfl (by decide) _ _ _ rfl (hown1.alloc _) (w1.heap.size + 1) _ 1 1 [.int .i64 (c : Int)] rfl hnew (by simp [Value.oneCell']) (by unfold maxLen; omega) (by omega) (by simp; omega) ?_; intro A7 c7 w7 hown7 hgrow7 hb7)
              go_roundw
              case rel => exact ⟨q + k, pre ++ [c], A7, n' + 1, c7, by go_num, rfl, by omega, by omega, by omega, by rw [nats_snoc, List.map_append]; exact hown7, HS, ((bel_next hbr hb1).alloc (by omega) _).trans hb7⟩
              case measure => simp [intOf]; omega
        · have hqe : q = m := by omega
          subst hqe
          have hd : l.drop q = [] := List.drop_of_length_le (by rw [hlen.out]; exact Nat.le_refl _)
          have hbz : (begL (l.drop q)).2 = 0 := by rw [hd]; rfl
          have HR := Lib.hid (show rdL l p = ([], q, faultN l q) by rw [rd_is Hp.out H3.out hq1 (Hs.out.done hbz), if_neg (fun h => by have := hlen.out; omega)])
          have hwr := fun (W : World) (hb : Below wr.heap.size wr W) => wrong_any (some ⟨b, off, none⟩) q c0 B q l W (hlr.below (hb.mono (by omega))) (by unfold maxLen; omega) hqm
          have hcut := hlr.cut (k := q) (cap := c0) (by omega) hmc
          rw [Option.map_some, addr_add, Nat.sub_self] at hcut
          clear hlt hd
          generalize faultN l q = z at *
          by_cases hk : c0 = q
          · rw [if_pos hk] at hcut
            have hbeg := refBegin_any _ 0 (c0 - q) B (l.drop q) wr hcut (by omega) (by unfold maxLen; omega) (by omega)
            subst hk
            rw [beg_zero hbz] at hbeg
            unfold pairV at hbeg
            rw [Nat.sub_self] at hbeg
            clear hbz
            go_wp2_with fail
            refine hbeg.mono ?_
            rintro e w1 ⟨rfl, hb1⟩
            go_wp2_with fail
            refine (hwr _ hb1).mono ?_
            rintro e w2 ⟨rfl, rfl⟩
            go_wp2
            go_ret3
            exact gives_none HR.out (bel_next hbr hb1)
          · rw [if_neg hk] at hcut
            have hne' : ¬ (c0 : Int) = q := by omega
            have hbeg := refBegin_any _ 0 (c0 - q) B (l.drop q) wr hcut (by omega) (by unfold maxLen; omega) (by omega)
            rw [beg_zero hbz] at hbeg
            unfold pairV at hbeg
            clear hbz
            go_wp2_with fail
            refine hbeg.mono ?_
            rintro e w1 ⟨rfl, hb1⟩
            go_wp2_with fail
            refine (hwr _ hb1).mono ?_
            rintro e w2 ⟨rfl, rfl⟩
            go_wp2
            go_ret3
            exact gives_none HR.out (bel_next hbr hb1)
    · have HR := Lib.hid (show rdL l p = ([], p, 7) by unfold rdL; rw [if_neg (by rw [hlen.out]; omega), if_pos h3])
      have h3' : (((at0 l p : Nat) : Int) == 34) = false := by rw [beq_eq_false_iff_ne]; omega
      clear hl h3
      generalize at0 l p = y at *
      go_enter Tryd.func17, Tryd.ntmps17
      go_wp2
      go_ret3
      exact gives_none HR.out (Below.refl _ _)
end Go.Proofs.YtgnialemiefeeaaDoor
