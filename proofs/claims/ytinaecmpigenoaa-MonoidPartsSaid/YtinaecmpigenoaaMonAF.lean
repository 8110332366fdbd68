/-
  The law MonoidParts, walked.
-/
import Derived.Test.YtinaecmpigenoaaMonAB
import Derived.Test.YtinaecmpigenoaaMonAE
import Derived.Lib.SmallJoins
namespace Go.Proofs.Ytinaecmpigenoaa
open Go.ChangeShapes Go.WideShapes Go.ChangeAt Go.RowKit
attribute [local go_sem ↓] Go.wp_at_zero Go.wp_at_succ

/-- A slice of integers. -/
def IntsK (k : IntKind) (w : World) (B : Nat) (A : Option Addr) (n : Nat) (l : List Int) : Prop := Shows w B 1 A n (l.map (.int k))
theorem IntsK.cell {k : IntKind} {w : World} {B n : Nat} {A : Option Addr} {l : List Int} (h : IntsK k w B A n l) {j : Nat} (hj : j < n) : ∃ b off z, A = some ⟨b, off, none⟩ ∧ b < B ∧ l[j]? = some z ∧ w.cell? ⟨b, off + j, none⟩ = some (.int k z) := by
  obtain ⟨b, off, e, hb, hc⟩ := h.2 (by omega)
  have hl : l.length = n := by have := h.1; simpa using this
  have hz : l[j]? = some (l[j]'(by omega)) := List.getElem?_eq_getElem (by omega)
  exact ⟨b, off, _, e, hb, hz, hc j _ (by rw [List.getElem?_map, hz]; rfl)⟩
theorem came_ints {H : Type} {enc : TypeId × Value → H} {P : Program} {w : World} {base : Nat} {spare : Nat → Bool} {held : Bool} {t e : TypeId} {d : DataW H} {p : List MemPlace} {k : IntKind} {A : Option Addr} {n c : Nat}
    (ht : P.underlying t = some (.slice e)) (he : P.underlying e = some (.int k)) (hC : P.cellsOf e = 1) (h : DataW.Trod enc P w base spare held t (.slice A n c) d p) :
    ∃ l : List Int, IntsK k w w.heap.size A n l ∧ (∀ z ∈ l, (Lit.int k z).wf = true) ∧ (A = none → c = 0) ∧ n ≤ c ∧ c ≤ maxLen := by
  obtain ⟨fuel, hf⟩ := h
  rcases open_ints ht he hC hf with ⟨hcs, _⟩ | ⟨x, l, c', zs, hcs, _, hl, hm, hz, _, hcell, hwz⟩
  · simp [Value.cells] at hcs
    obtain ⟨rfl, rfl, rfl⟩ := hcs
    exact ⟨[], Shows.zero _, by simp, fun _ => rfl, Nat.le_refl _, by unfold maxLen; omega⟩
  · simp [Value.cells] at hcs
    obtain ⟨rfl, rfl, rfl⟩ := hcs
    have hz' : n ≤ zs.length := by
      have hz2 : zs.length = if spare x.block = true then c else n := by simpa using hz
      rw [hz2]
      split <;> omega
    refine ⟨zs.take n, ⟨by simp; omega, fun hn0 => ?_⟩, fun z hz => hwz z (List.mem_of_mem_take hz), nofun, hl, hm⟩
    obtain ⟨b, off, spot⟩ := x
    have hc0 := hcell 0 (by omega)
    have hspot : spot = none := by simpa [Addr.add] using World.cell?_spot hc0
    subst hspot
    have hlt : b < w.heap.size := World.block_lt_of_cell? w _ (by simpa [Addr.add] using hc0)
    refine ⟨b, off, rfl, hlt, fun j u hu => ?_⟩
    rw [List.getElem?_map, List.getElem?_take] at hu
    split at hu
    · obtain ⟨z, hz1, rfl⟩ := Option.map_eq_some_iff.1 hu
      have hj : j < zs.length := (List.getElem?_eq_some_iff.1 hz1).1
      have hcj := hcell j hj
      rw [addr_add] at hcj
      rw [hcj, List.getD_eq_getElem?_getD, hz1]
      rfl
    · cases hu
theorem fewP_any (A : Option Addr) (n c m : Nat) (w : World) (hm : m = min n 60) (hn : n ≤ c) :
    Calls Try.prog 22 #[.slice A n c] w fun e w' => e = .returned (.slice A m c) ∧ w = w' := by
  have hm1 : (if (60 : Int) < (n : Int) then (60 : Int) else (n : Int)) = (m : Int) := by split <;> omega
  have hmc : m ≤ c := by omega
  clear hm
  go_enter Try.func22, Try.ntmps22
  go_wp2
  go_ret
  exact ⟨rfl, rfl⟩

theorem items_cut {w : World} {B n k cap : Nat} {A : Option Addr} {l : List ItemT} (h : Items w B A n l) (hk : k ≤ n) (hc : n ≤ cap) : Items w B (if cap = k then A else A.map (·.add (k * 4))) (n - k) (l.drop k) := by
  have := Shows.cut h hk hc
  have e : (l.flatMap ItemT.cells).drop (k * 4) = (l.drop k).flatMap ItemT.cells := by
    have h1 : (l.flatMap ItemT.cells).take (k * 4) ++ (l.flatMap ItemT.cells).drop (k * 4) = (l.take k).flatMap ItemT.cells ++ (l.drop k).flatMap ItemT.cells := by
      rw [List.take_append_drop, ← List.flatMap_append, List.take_append_drop]
    rw [flat_take ItemT.cells 4 (fun _ => rfl)] at h1
    exact List.append_cancel_left h1
  rw [e] at this
  exact this

theorem reds_pz (X : World) (g : Nat) (p : RedT) (t : TypeId) (hg : X.heap.size = g) : Reds (X.alloc (.cells #[.int .i64 p.c, .int .i64 p.i, .int .i64 (hiI p.v), .int .u64 (loI p.v), .int .i64 p.l, .int .i64 p.m, .int .i64 0, .int .i64 0, .int .i64 0, .int .u64 0, .int .i64 0, .int .i64 0] t)) (X.heap.size + 1) (some ⟨g, 0, none⟩) 2 [p, RedT.zero] := by
  subst hg
  have := reds_two X p RedT.zero t
  simp only [RedT.zero, hl_zero.1, hl_zero.2] at this ⊢
  exact this
theorem reds_p (X : World) (g : Nat) (p : RedT) (t : TypeId) (hg : X.heap.size = g) : Reds (X.alloc (.cells #[.int .i64 p.c, .int .i64 p.i, .int .i64 (hiI p.v), .int .u64 (loI p.v), .int .i64 p.l, .int .i64 p.m] t)) (X.heap.size + 1) (some ⟨g, 0, none⟩) 1 [p] := by
  subst hg
  refine ⟨rfl, fun _ => ⟨X.heap.size, 0, rfl, by omega, fun j u hu => ?_⟩⟩
  rw [Nat.zero_add]
  refine (World.cell?_alloc_new X _ t j).trans ?_
  simpa [RedT.cells] using hu

theorem allR_count' (l : List ItemT) : (allR l).c = l.length := by
  have key : ∀ k, k ≤ l.length → (allR (l.take k)).c = k := by
    intro k
    induction k with
    | zero => intro _; rfl
    | succ k ih =>
      intro hk
      rw [List.take_succ_eq_append_getElem (by omega), allR_snoc]
      show (allR (l.take k)).c + 1 = _
      rw [ih (by omega)]
      omega
  have := key l.length (Nat.le_refl _)
  rwa [List.take_length] at this
theorem zero_ok : RedT.zero.ok := by unfold RedT.ok RedT.zero R64 R128; simp only; omega
theorem own_p (X : World) (g base : Nat) (p : RedT) (t : TypeId) (hb : base ≤ X.heap.size) (hg : X.heap.size = g) : (X.alloc (.cells #[.int .i64 p.c, .int .i64 p.i, .int .i64 (hiI p.v), .int .u64 (loI p.v), .int .i64 p.l, .int .i64 p.m] t)).ownsRow base t 6 (.slice (some ⟨g, 0, none⟩) 1 1) 1 p.cells := by
  subst hg
  exact World.ownsRow_lit (base := base) (e := t) (size := 6) X #[.int .i64 p.c, .int .i64 p.i, .int .i64 (hiI p.v), .int .u64 (loI p.v), .int .i64 p.l, .int .i64 p.m] 1 hb (by unfold maxLen; omega) rfl

set_option maxRecDepth 100000 in
set_option maxHeartbeats 2000000 in
theorem parts_walk (A : Option Addr) (n c : Nat) (l : List ItemT) (w : World) (h : Items w w.heap.size A n l) (hx : ∀ x ∈ l, R64 x.n) (hA : A = none → c = 0) (hn : n ≤ c) (hc : c ≤ maxLen) (A2 : Option Addr) (n2 c2 : Nat) (zs : List Int) (h2 : IntsK .i64 w w.heap.size A2 n2 zs) (hzs : ∀ z ∈ zs, (Lit.int .i64 z).wf = true) (hn2 : n2 ≤ c2) (hc2 : c2 ≤ maxLen) :
    Calls Try.prog 6 #[.slice A n c, .slice A2 n2 c2] w fun e w' => e = .returned (.bool true) ∧ Below w.heap.size w w' := by
  unfold maxLen at hc hc2
  obtain ⟨m, hm, hmn, hm60⟩ : ∃ m : Nat, m = min n 60 ∧ m ≤ n ∧ m ≤ 60 := ⟨min n 60, rfl, by omega, by omega⟩
  obtain ⟨m2, hm2, hmn2, hm10⟩ : ∃ m2 : Nat, (if (10 : Int) < (n2 : Int) then (10 : Int) else (n2 : Int)) = (m2 : Int) ∧ m2 ≤ n2 ∧ m2 ≤ 10 := ⟨min n2 10, by split <;> omega, by omega, by omega⟩
  have hM := items_first h hmn
  have hxM : ∀ x ∈ l.take m, R64 x.n := fun r hr => hx r (List.mem_of_mem_take hr)
  generalize l.take m = L at *
  clear h hx
  have hlen := Lib.hid (items_len hM)
  have Hm := Lib.hid hm
  have HA := Lib.hid hA
  clear hA
  have Hm2 := Lib.hid hm2
  have Hn := Lib.hid hn
  have hmc : m ≤ c := by omega
  have hm2c : m2 ≤ c2 := by omega
  clear hm hm2 hn hmn
  have hl60 : L.length ≤ 60 := by rw [hlen.out]; exact hm60
  have hok := allOk L hxM (by omega)
  have hao := Lib.hid (hok.ok (by omega))
  have hav := Lib.hid hok.valid
  clear hok
  go_enter Try.func6, Try.ntmps6
  go_wp2_with fail
  refine (wakes_any _).mono ?_
  rintro e w1 ⟨rfl, hb1⟩
  have hM1 := hM.below hb1
  have s1 := hb1.size
  clear hM
  go_wp2_with fail
  refine (fewP_any A n c m _ Hm.out Hn.out).mono ?_
  rintro e w1' ⟨rfl, rfl⟩
  go_wp2_with fail
  refine (all_any A m c w.heap.size L _ hM1 (by omega) hxM hm60).mono ?_
  rintro e w2 ⟨rfl, hw2x⟩
  have hM2 := hM1.below (hw2x.mono (by omega))
  have hb2 := hb1.trans (hw2x.mono (by omega))
  have s2 := hb2.size
  clear hw2x hM1 hb1 s1
  obtain ⟨a, ha⟩ : ∃ a, allR L = a := ⟨_, rfl⟩
  rw [ha] at hao hav ⊢
  have Ha := Lib.hid ha
  clear ha
  go_wp2_with fail
  refine (check_yes a.c a.i a.v a.l a.m _ hao.out.2.2.1 hao.out.2.2.2.1 hao.out.2.2.2.2 hav.out).mono ?_
  rintro e w3 ⟨rfl, hw3x⟩
  have hA3 : SixR w3 w2.heap.size a := (Six.new _ _ _ _ _ _ _ _).below hw3x rfl
  have hM3 := (hM2.alloc s2 _).below (hw3x.mono (by simp; omega))
  have hz3 : w2.heap.size + 1 ≤ w3.heap.size := by have := hw3x.size; simp at this; omega
  have hb3 : Below w.heap.size w w3 := (hb2.alloc s2 _).trans (hw3x.mono (by simp; omega))
  have hI3 : IntsK .i64 w3 w.heap.size A2 n2 zs := Shows.below h2 hb3
  clear hw3x hM2 hb2 h2
  have HA3 := Lib.hid hA3
  have HM3 := Lib.hid hM3
  have HI3 := Lib.hid hI3
  clear hA3 hM3 hI3
  have hm2 := Hm2.out
  go_wp2_with fail
  clear hm2
  go_loopw [8, 9, 42] (fun s8 s9 x wr => ∃ (k d r n8 c8 c9 : Nat) (A8 A9 : Option Addr) (ps : List RedT), k ≤ m2 ∧ x = .int .i64 (k : Int) ∧ s8 = .slice A8 n8 c8 ∧ s9 = .slice A9 r c9 ∧ r ≤ c9 ∧ c9 ≤ c ∧ d + r = m ∧ n8 ≤ 2 * k ∧ Below w3.heap.size w3 wr ∧ Hid (wr.ownsRow w3.heap.size 24 6 (.slice A8 n8 c8) n8 (ps.flatMap RedT.cells)) ∧ Hid (Items w3 w.heap.size A9 r (L.drop d)) ∧ Hid (A9 = none → c9 = 0) ∧ Hid (foldR ps = allR (L.take d) ∧ ∀ p ∈ ps, p.valid = true ∧ p.ok)) (fun _ _ x _ => m2 - (intOf x).toNat)
  case atStart => exact ⟨0, 0, m, 0, 0, c, none, A, [], Nat.zero_le _, rfl, rfl, rfl, hmc, Nat.le_refl _, by omega, Nat.le_refl _, Below.refl _ _, Lib.hid (World.ownsRow_nil _ _ _ _), HM3, HA, Lib.hid ⟨rfl, by simp⟩⟩
  case round =>
    obtain ⟨k, d, r, n8, c8, c9, A8, A9, ps, hk, rfl, rfl, rfl, hrc, hcc, hdr, hn8, hbr, Ho, Hr, Hnil, Hf⟩ := hrel
    have sbr := hbr.size
    by_cases hlt : k < m2
    · obtain ⟨b, off, z, rfl, hbB, hz, hcell⟩ := IntsK.cell (Shows.below (HI3.out.more (B' := w3.heap.size) (by omega)) hbr) (Nat.lt_of_lt_of_le hlt hmn2)
      have hzw := wf_i64 (hzs z (List.mem_of_getElem? hz))
      clear hz
      obtain ⟨q, hq, hqr⟩ : ∃ q : Nat, wrap64 ((IntKind.u64.wrap z).tmod ((r : Int) + 1)) = (q : Int) ∧ q ≤ r := by
        have h0 : 0 ≤ IntKind.u64.wrap z := by rw [IntKind.wrap_u64]; omega
        rw [Int.tmod_eq_emod_of_nonneg h0]
        have h1 := Int.emod_nonneg (IntKind.u64.wrap z) (show (r : Int) + 1 ≠ 0 by omega)
        have h2 := Int.emod_lt_of_pos (IntKind.u64.wrap z) (show 0 < (r : Int) + 1 by omega)
        refine ⟨((IntKind.u64.wrap z) % ((r : Int) + 1)).toNat, ?_, by omega⟩
        unfold wrap64
        omega
      have hqi : (q : Int) ≤ (r : Int) := by omega
      have hrl : r = (L.drop d).length := (items_len Hr.out).symm
      have hxq : ∀ x ∈ (L.drop d).take q, R64 x.n := fun x hx => hxM x (List.mem_of_mem_drop (List.mem_of_mem_take hx))
      have hrp : ∀ x ∈ L.drop d, R64 x.n := fun x hx => hxM x (List.mem_of_mem_drop hx)
      have hfit : Items wr w.heap.size A9 q ((L.drop d).take q) := Shows.below (items_first Hr.out hqr) (hbr.mono (by omega))
      have hpl : ((L.drop d).take q).length ≤ 60 := by rw [List.length_take]; omega
      have hpo := allOk ((L.drop d).take q) hxq (by omega)
      have hpok := Lib.hid (hpo.ok (by omega))
      have hpv := Lib.hid hpo.valid
      clear hpo hpl hrl hrp
      have Hxq := Lib.hid hxq
      clear hxq
      have hq60 : q ≤ 60 := by omega
      have Hq := Lib.hid hq
      clear hq
      go_upto_region 13 with fail
      rw [Hq.out]
      clear Hq hcell
      go_wp2_with fail
      (with_reducible refine (all_any A9 q c9 w.heap.size ((L.drop d).take q) _ hfit (by omega) Hxq.out hq60).mono ?_)
      rintro e w4 ⟨rfl, hb4⟩
      have Ho4 := Lib.hid (own_below Ho.out hb4)
      have hb4' := hbr.trans (hb4.mono sbr)
      have s4 := hb4'.size
      clear hb4 Ho hfit hbr sbr
      obtain ⟨p, hp⟩ : ∃ p, allR ((L.drop d).take q) = p := ⟨_, rfl⟩
      rw [hp] at hpok hpv ⊢
      have Hp := Lib.hid hp
      clear hp
      have hpar : (z.tmod 2 == 0) = true ∨ (z.tmod 2 == 0) = false := by cases (z.tmod 2 == 0) <;> simp
      rcases hpar with hpar | hpar
      · go_upto_region 17 with fail
        clear hpar
        obtain ⟨i0, hi, hz0, hz1, hz2⟩ := red_info
        go_wp2_with (at_builtin; refine wpList_append_shows _ rfl _ _ _ rfl w3.heap.size 24 i0 (.agg #[.int .i64 0, .int .i64 0, .int .i64 0, .int .u64 0, .int .i64 0, .int .i64 0]) 6 48 Try.underlying34 hi hz0 hz1 hz2 rfl (by decide) _ _ _ rfl ((Ho4.out.alloc _).alloc _) _ _ 2 2 ([p, RedT.zero].flatMap RedT.cells) rfl (reds_pz (w4.alloc _) _ p _ (by simp)) (reds_one _) ?d3 ?d4 ?d5 ?_)
        case d3 => unfold maxLen; omega
        case d4 => omega
        case d5 => simp; omega
        intro A6 c6 w6 hown6 _ hb6
        have Ho6 : Hid (w6.ownsRow w3.heap.size 24 6 (.slice A6 (n8 + 2) c6) (n8 + 2) ((ps ++ [p, RedT.zero]).flatMap RedT.cells)) := by
          rw [List.flatMap_append]
          exact Lib.hid hown6
        have HF : Hid (foldR (ps ++ [p, RedT.zero]) = allR (L.take (d + q)) ∧ ∀ y ∈ ps ++ [p, RedT.zero], y.valid = true ∧ y.ok) := by
          refine Lib.hid ⟨by rw [← Hp.out]; exact fold_behind ps L d q Hf.out.1, fun y hy => ?_⟩
          rcases List.mem_append.1 hy with hy | hy
          · exact Hf.out.2 y hy
          · simp only [List.mem_cons, List.not_mem_nil, or_false] at hy
            rcases hy with rfl | rfl
            · exact ⟨hpv.out, hpok.out⟩
            · exact ⟨by decide, zero_ok⟩
        clear hown6
        have Hr6 := items_cut Hr.out hqr hrc
        rw [List.drop_drop] at Hr6
        have hb7 : Below w3.heap.size w3 w6 := ((hb4'.alloc s4 _).alloc (by simp; omega) _).trans hb6
        clear hi hz0 hz1 hz2 hb6 hb4'
        have hqc : (q : Int) ≤ (c9 : Int) := by omega
        by_cases hcq : c9 = q
        · rw [if_pos hcq] at Hr6
          obtain rfl : r = q := by omega
          rw [Nat.sub_self] at Hr6
          have HR := Lib.hid Hr6
          clear Hr6
          subst hcq
          go_wp2_with fail
          go_roundw
          case rel => exact ⟨k + 1, _, 0, _, _, 0, _, _, _, by omega, by go_num, rfl, rfl, Nat.le_refl _, Nat.zero_le _, by omega, by omega, hb7, Ho6, HR, Lib.hid (fun _ => rfl), HF⟩
          case measure => simp [intOf]; omega
        · rw [if_neg hcq] at Hr6
          rcases A9 with _ | ad
          · exact absurd (Hnil.out rfl) (by omega)
          · have HR := Lib.hid Hr6
            clear Hr6
            go_wp2_with fail
            go_roundw
            case rel => exact ⟨k + 1, _, r - q, _, _, c9 - q, _, _, _, by omega, by go_num, rfl, rfl, by omega, by omega, by omega, by omega, hb7, Ho6, HR, Lib.hid nofun, HF⟩
            case measure => simp [intOf]; omega
      · go_upto_region 18 with fail
        clear hpar
        obtain ⟨i0, hi, hz0, hz1, hz2⟩ := red_info
        go_wp2_with (at_builtin; refine wpList_append_shows _ rfl _ _ _ rfl w3.heap.size 24 i0 (.agg #[.int .i64 0, .int .i64 0, .int .i64 0, .int .u64 0, .int .i64 0, .int .i64 0]) 6 48 Try.underlying34 hi hz0 hz1 hz2 rfl (by decide) _ _ _ rfl (own_p (w4.alloc _) _ w3.heap.size p _ (by simp; omega) (by simp)) _ _ n8 c8 (ps.flatMap RedT.cells) rfl (((Shows.own Ho4.out).alloc (Nat.le_refl _) _).alloc (by simp) _) (reds_one _) ?d3 ?d4 ?d5 ?_)
        case d3 => unfold maxLen; omega
        case d4 => omega
        case d5 => simp; omega
        intro A6 c6 w6 hown6 _ hb6
        have Ho6 : Hid (w6.ownsRow w3.heap.size 24 6 (.slice A6 (1 + n8) c6) (1 + n8) ((p :: ps).flatMap RedT.cells)) := by
          rw [List.flatMap_cons]
          exact Lib.hid hown6
        have HF : Hid (foldR (p :: ps) = allR (L.take (d + q)) ∧ ∀ y ∈ p :: ps, y.valid = true ∧ y.ok) := by
          refine Lib.hid ⟨by rw [← Hp.out]; exact fold_ahead ps L d q (fun y hy => norm_valid y (Hf.out.2 y hy).1) Hf.out.1, fun y hy => ?_⟩
          rcases List.mem_cons.1 hy with rfl | hy
          · exact ⟨hpv.out, hpok.out⟩
          · exact Hf.out.2 y hy
        clear hown6
        have Hr6 := items_cut Hr.out hqr hrc
        rw [List.drop_drop] at Hr6
        have hb7 : Below w3.heap.size w3 w6 := ((hb4'.alloc s4 _).alloc (by simp; omega) _).trans hb6
        clear hi hz0 hz1 hz2 hb6 hb4'
        have hqc : (q : Int) ≤ (c9 : Int) := by omega
        by_cases hcq : c9 = q
        · rw [if_pos hcq] at Hr6
          obtain rfl : r = q := by omega
          rw [Nat.sub_self] at Hr6
          have HR := Lib.hid Hr6
          clear Hr6
          subst hcq
          go_wp2_with fail
          go_roundw
          case rel => exact ⟨k + 1, _, 0, _, _, 0, _, _, _, by omega, by go_num, rfl, rfl, Nat.le_refl _, Nat.zero_le _, by omega, by omega, hb7, Ho6, HR, Lib.hid (fun _ => rfl), HF⟩
          case measure => simp [intOf]; omega
        · rw [if_neg hcq] at Hr6
          rcases A9 with _ | ad
          · exact absurd (Hnil.out rfl) (by omega)
          · have HR := Lib.hid Hr6
            clear Hr6
            go_wp2_with fail
            go_roundw
            case rel => exact ⟨k + 1, _, r - q, _, _, c9 - q, _, _, _, by omega, by go_num, rfl, rfl, by omega, by omega, by omega, by omega, hb7, Ho6, HR, Lib.hid nofun, HF⟩
            case measure => simp [intOf]; omega
    · have hfit : Items wr w.heap.size A9 r (L.drop d) := Shows.below Hr.out (hbr.mono (by omega))
      have hxd : ∀ x ∈ L.drop d, R64 x.n := fun x hx => hxM x (List.mem_of_mem_drop hx)
      have hA5 : SixR wr w2.heap.size a := Six.under HA3.out hbr (by omega)
      have HA5 := Lib.hid hA5
      have hpl : (L.drop d).length ≤ 60 := by rw [List.length_drop]; omega
      have hpo := allOk (L.drop d) hxd (by omega)
      have hpok := Lib.hid (hpo.ok (by omega))
      have hpv := Lib.hid hpo.valid
      have hcnt : a.c ≤ 60 := by rw [← Ha.out, (allR_count' L)]; omega
      clear hpo hpl hA5
      go_wp2_with fail
      (with_reducible refine (all_any A9 r c9 w.heap.size (L.drop d) _ hfit (by omega) hxd (by omega)).mono ?_)
      rintro e w4 ⟨rfl, hb4⟩
      have Ho4 := Lib.hid (own_below Ho.out hb4)
      have HA6 : Hid (SixR w4 w2.heap.size a) := Lib.hid (Six.below HA5.out hb4 rfl)
      have hb4' := hbr.trans (hb4.mono sbr)
      have s4 := hb4'.size
      clear hb4 Ho hfit hbr sbr HA5
      obtain ⟨p, hp⟩ : ∃ p, allR (L.drop d) = p := ⟨_, rfl⟩
      rw [hp] at hpok hpv ⊢
      have HF : Hid (foldR (ps ++ [p]) = a) := Lib.hid (by rw [← hp, ← Ha.out]; exact fold_last ps L d Hf.out.1)
      clear hp
      have hvv : ∀ y ∈ ps ++ [p], y.valid = true := by
        intro y hy
        rcases List.mem_append.1 hy with hy | hy
        · exact (Hf.out.2 y hy).1
        · simp at hy; rw [hy]; exact hpv.out
      have hkk : ∀ y ∈ ps ++ [p], y.ok := by
        intro y hy
        rcases List.mem_append.1 hy with hy | hy
        · exact (Hf.out.2 y hy).2
        · simp at hy; rw [hy]; exact hpok.out
      have HJ := Lib.hid (show jall (ps ++ [p]) = (a, 0) by rw [jall_fold _ hvv (by rw [HF.out]; omega), HF.out])
      clear hvv
      obtain ⟨i0, hi, hz0, hz1, hz2⟩ := red_info
      go_wp2_with (at_builtin; refine wpList_append_shows _ rfl _ _ _ rfl w3.heap.size 24 i0 (.agg #[.int .i64 0, .int .i64 0, .int .i64 0, .int .u64 0, .int .i64 0, .int .i64 0]) 6 48 Try.underlying34 hi hz0 hz1 hz2 rfl (by decide) _ _ _ rfl ((Ho4.out.alloc _).alloc _) _ _ 1 1 ([p].flatMap RedT.cells) rfl (reds_p (w4.alloc _) _ p _ (by simp)) (reds_one _) ?d3 ?d4 ?d5 ?_)
      case d3 => unfold maxLen; omega
      case d4 => omega
      case d5 => simp; omega
      intro A6 c6 w6 hown6 _ hb6
      have hL6 : Reds w6 w6.heap.size A6 (n8 + 1) (ps ++ [p]) := by
        have := Shows.own hown6
        unfold Reds
        rw [List.flatMap_append]
        exact this
      have HA7 : Hid (SixR w6 w2.heap.size a) := Lib.hid (Six.under ((Six.alloc _ HA6.out).alloc _) hb6 (by omega))
      have hb7 : Below w3.heap.size w3 w6 := ((hb4'.alloc s4 _).alloc (by simp; omega) _).trans hb6
      have hbw := hb3.trans (hb7.mono hb3.size)
      clear hi hz0 hz1 hz2 hown6 hb6 HA6 hb4' hb7
      go_wp2_with fail
      (with_reducible refine (join_agg_all A6 (n8 + 1) c6 w6.heap.size (ps ++ [p]) _ a 0 HJ.out hL6 (Nat.le_refl _) hkk (by omega)).mono ?_)
      rintro e w7 ⟨rfl, hb7⟩
      have hA7 : SixR w7 w2.heap.size a := Six.below HA7.out hb7 rfl
      have hbw := hbw.trans (hb7.mono hbw.size)
      clear hb7
      obtain ⟨⟨r0, r1, r2, r3, r4, r5⟩, -⟩ := Six.alloc (.cells #[.int .i64 a.c, .int .i64 a.i, .int .i64 (hiI a.v), .int .u64 (loI a.v), .int .i64 a.l, .int .i64 a.m] 24) hA7
      go_wp2_with fail
      go_ret
      exact ⟨rfl, hbw.alloc hbw.size _⟩
theorem monoidParts_walk (w : World) (A : Option Addr) (n c : Nat) (l : List ItemT) (h : Items w w.heap.size A n l) (hok : ∀ r ∈ l, R64 r.n) (hA : A = none → c = 0) (hn : n ≤ c) (hc : c ≤ maxLen) (A2 : Option Addr) (n2 c2 : Nat) (zs : List Int) (h2 : IntsK .i64 w w.heap.size A2 n2 zs) (hzs : ∀ z ∈ zs, (Lit.int .i64 z).wf = true) (_ : A2 = none → c2 = 0) (hn2 : n2 ≤ c2) (hc2 : c2 ≤ maxLen) :
    Calls Try.prog 6 #[.slice A n c, .slice A2 n2 c2] w fun e w' => e = .returned (.bool true) ∧ Below w.heap.size w w' := parts_walk A n c l w h hok hA hn hc A2 n2 c2 zs h2 hzs hn2 hc2
end Go.Proofs.Ytinaecmpigenoaa
