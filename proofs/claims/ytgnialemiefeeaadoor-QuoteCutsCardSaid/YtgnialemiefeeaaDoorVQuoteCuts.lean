import Derived.Test.YtgnialemiefeeaaDoorGal
/-
  The walk of QuoteCuts.
-/
namespace Go.Proofs.YtgnialemiefeeaaDoor
open Go.RowKit
set_option linter.unusedVariables false

set_option maxRecDepth 20000 in
set_option maxHeartbeats 2000000 in
theorem quoteCuts_walk (w : World) (A : Option Addr) (n c : Nat) (l : List UInt8) (h : Bytes w w.heap.size A n l) (hA : A = none → c = 0) (hn : n ≤ c) (hc : c ≤ maxLen) (x : Int) (hx : (Lit.int .i64 x).wf = true) (htab : UTab w) (hesc : ETab w) :
    Calls Tryd.prog 7 #[.slice A n c, .int .i64 x] w fun e w' => e = .returned (.bool true) ∧ Below w.heap.size w w' := by
  clear hx
  go_enter Tryd.func7, Tryd.ntmps7
  go_wp2_with fail
  refine (wakes_any w htab hesc).mono ?_
  rintro e w1 ⟨rfl, hb1⟩
  have t1 := htab.below hb1 htab.lt
  have e1 := hesc.below hb1 hesc.lt
  have h1 := h.below hb1
  have s1 := hb1.size
  go_wp2_with fail
  refine (few_any A n c w.heap.size l w1 h1 hA s1 hn hc).mono ?_
  rintro e w2 ⟨A2, n2, c2, rfl, hown2, hb2⟩
  have t2 := t1.below hb2 t1.lt
  have e2 := e1.below hb2 e1.lt
  have hl2 : Bytes w2 w2.heap.size A2 n2 (l.take 400) := Bytes.own hown2
  have Hl2 := Lib.hid hl2.len
  have hn2 : n2 ≤ 400 := by rw [← Hl2.out, List.length_take]; omega
  have hb02 := bel_next hb1 hb2
  obtain ⟨hnc, hcm⟩ : n2 ≤ c2 ∧ c2 ≤ maxLen := by obtain ⟨_, _, h1, h2, h3⟩ := own_form hown2; cases h1; exact ⟨h2, h3⟩
  have hrd := read_in A2 n2 c2 w2.heap.size 0 (l.take 400) w2 t2 e2 hl2 (Nat.le_refl _) (by omega) hnc (Nat.zero_le _)
  rw [readV_rd] at hrd
  clear hown2 hb1 hb2 h1 t1 e1 hA hn hc h hcm
  generalize l.take 400 = l at *
  by_cases hok : (rdL l 0).2.2 = 0
  · obtain ⟨-, -, q, -, hq1, hq, -, hq2⟩ := rd_ok hok
    have hfr := fun n h => rd_front (n := n) hok h
    have hqn : (rdL l 0).2.1 ≤ n2 := by rw [hq2]; simp only; have := Hl2.out; omega
    have hq0 : 2 ≤ (rdL l 0).2.1 := by rw [hq2]; simp only; omega
    rw [hok] at hrd
    clear hok hq hq2 hq1
    generalize (rdL l 0).2.1 = nx at *
    generalize (rdL l 0).1 = cps at *
    obtain ⟨y, hy⟩ : ∃ y : Nat, IntKind.u64.wrap x = (y : Int) := ⟨(IntKind.u64.wrap x).toNat, by have := IntKind.wrap_u64 x; omega⟩
    obtain ⟨r, hr, hrn⟩ : ∃ r : Nat, (y : Int).tmod (nx : Int) = (r : Int) ∧ r < nx := by
      refine ⟨y % nx, ?_, Nat.mod_lt _ (by omega)⟩
      rw [Int.tmod_eq_emod_of_nonneg (by omega)]; omega
    have hr2 : (y : Int) % (nx : Int) = (r : Int) := by rw [← hr, Int.tmod_eq_emod_of_nonneg (by omega)]
    have hf := hfr r hrn
    have hrl : (l.take r).length = r := by rw [List.length_take]; have := Hl2.out; omega
    have hbad := rd_bad hf (Nat.zero_le _)
    rw [hrl] at hbad
    have hrd2 := fun (W : World) (hb : Below w2.heap.size w2 W) => read_in A2 r c2 w2.heap.size 0 (l.take r) W (t2.below hb t2.lt) (e2.below hb e2.lt) ((hl2.first (k := r) (by omega)).below hb) hb.size (by omega) (by omega) (Nat.zero_le _)
    simp only [readV_rd, hbad.1] at hrd2
    have hq := hbad.2
    have hne : ((rdL (l.take r) 0).2.2 != 0) = true := by rw [bne_iff_ne]; exact hf
    generalize (rdL (l.take r) 0).2.1 = q at *
    generalize (rdL (l.take r) 0).2.2 = z at *
    rw [show ofL (textL []) = ⟨#[]⟩ from rfl] at hrd2
    have i0 : ((nx : Int) < 2) = False := by simp; omega
    have i1 : ((n2 : Int) < nx) = False := by simp; omega
    have i2 : (0 : Int) < nx := by omega
    have i3 : (q : Int) ≤ r := by omega
    have i4 : (r : Int) ≤ c2 := by omega
    clear hfr hbad hf hrl hl2
    go_wp2_with fail
    refine hrd.mono ?_
    rintro e w3 ⟨rfl, hb3⟩
    go_wp2_with fail
    refine (hrd2 _ hb3).mono ?_
    rintro e w4 ⟨rfl, hb4⟩
    go_wp2
    go_ret
    exact ⟨rfl, bel_next hb02 (bel_next hb3 hb4)⟩
  · have hok' : ((rdL l 0).2.2 != 0) = true := by rw [bne_iff_ne]; exact hok
    clear hok
    generalize (rdL l 0).2.1 = q at *
    generalize (rdL l 0).2.2 = z at *
    generalize ofL (textL (rdL l 0).1) = T at *
    go_wp2_with fail
    refine hrd.mono ?_
    rintro e w3 ⟨rfl, hb3⟩
    go_wp2
    go_ret
    exact ⟨rfl, bel_next hb02 hb3⟩
end Go.Proofs.YtgnialemiefeeaaDoor
