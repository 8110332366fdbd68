import Derived.Test.YtinaecmpigenoaaDoorGaj
import Derived.Test.YtinaecmpigenoaaDoorGaa
/-
  MonoidComes: numbers and their opposites add up to 0, even where the sum leaves the range of 64 bits on the way: the walk.
-/
namespace Go.Proofs.YtinaecmpigenoaaDoor
open Go.RowKit
set_option linter.unusedVariables false

theorem item_info : ∃ i, Tryd.prog.info? 27 = some i ∧ i.zero = some (.agg #[.slice none 0 0, .slice none 0 0, .bool false, .int .i64 0]) ∧ i.size = 4 ∧ i.bytes = 64 := ⟨Tryd.t27, by kernel_rfl, by kernel_rfl, by kernel_rfl, by kernel_rfl⟩
/-- The least number has none beside it. -/
def upI (z : Int) : Int := max z (-9223372036854775807)
theorem upI_r64 {z : Int} (h : (Lit.int .i64 z).wf = true) : R64 (upI z) ∧ R64 (-upI z) := by
  have h := wf_i64 h
  unfold R64 upI
  omega
theorem upI_neg {z : Int} (h : (Lit.int .i64 z).wf = true) : IntKind.i64.wrap (-upI z) = -upI z := by
  have := (upI_r64 h).2
  unfold R64 at this
  rw [IntKind.wrap_i64]
  omega
theorem wrap_of {v : Int} (h : R64 v) : IntKind.i64.wrap v = v := by
  unfold R64 at h
  rw [IntKind.wrap_i64]
  omega
def itsC (l : List Int) : List Value := (l.map nItem).flatMap ItemT.cells
theorem its_snoc (l : List Int) (q : Int) : itsC (l ++ [q]) = itsC l ++ [.slice none 0 0, .slice none 0 0, .bool true, .int .i64 q] := by
  unfold itsC
  rw [List.map_append, List.flatMap_append]
  rfl
theorem its_one (q : Int) : ∀ u ∈ [Value.slice none 0 0, .slice none 0 0, .bool true, .int .i64 q], u.oneCell' = true := by
  intro u hu
  simp only [List.mem_cons, List.not_mem_nil, or_false] at hu
  rcases hu with rfl | rfl | rfl | rfl <;> rfl
set_option maxRecDepth 20000 in
set_option maxHeartbeats 4000000 in
theorem comes_any (A : Option Addr) (n c : Nat) (l : List Int) (w : World) (h : Shows w w.heap.size 1 A n (l.map (.int .i64))) (hwf : ∀ z ∈ l, (Lit.int .i64 z).wf = true) (hn : n ≤ c) (hc : c ≤ maxLen) (htab : UTab w) (hst : STab w) :
    Calls Tryd.prog 3 #[.slice A n c] w fun e w' => e = .returned (.bool true) ∧ Below w.heap.size w w' := by
  obtain ⟨iI, jiI, jzI, jsI, jbI⟩ := item_info
  have HTx := Lib.hid (fun W (h : Below w.heap.size w W) => (⟨htab.below h htab.lt, hst.below h hst.lt⟩ : UTab W ∧ STab W))
  obtain ⟨m, hm⟩ : ∃ m, m = min n 60 := ⟨_, rfl⟩
  have hmi : min (n : Int) 60 = (m : Int) := by omega
  have hmj : (if (60 : Int) < (n : Int) then (60 : Int) else (n : Int)) = (m : Int) := by split <;> omega
  have hm60 : m ≤ 60 := by omega
  have hmn : m ≤ n := by omega
  have hz1 : (0 : Int) ≤ m := by omega
  have hi1 : (m : Int) ≤ n := by omega
  have hj1 : (m : Int) ≤ c := by omega
  have hMx : 100 ≤ maxLen := by decide
  have hsh : Shows w w.heap.size 1 A m ((l.take m).map (.int .i64)) := by
    have := h.first hmn
    rwa [Nat.mul_one, ← List.map_take] at this
  have hwm : ∀ z ∈ l.take m, (Lit.int .i64 z).wf = true := fun z hz => hwf z (List.mem_of_mem_take hz)
  generalize l.take m = L at *
  have hLm : L.length = m := by have := hsh.1; simpa using this
  have Hsh := Lib.hid (fun W (hb : Below w.heap.size w W) => hsh.below hb)
  have Hwm := Lib.hid hwm
  have HL := Lib.hid hLm
  clear hm h hwf htab hst hsh hwm hLm
  go_enter Tryd.func3, Tryd.ntmps3
  go_wp2_with fail
  refine (wakes_any _).mono ?_
  rintro e w1 ⟨rfl, hb1⟩
  go_wp2
  go_loopw [4, 5, 25] (fun r t i wr => ∃ (j : Nat) (Ar : Option Addr) (cr : Nat) (At : Option Addr) (ct : Nat), j ≤ m ∧ i = .int .i64 j ∧ r = .slice Ar j cr ∧ t = .slice At j ct ∧ Hid (wr.ownsRow w1.heap.size 27 4 (.slice Ar j cr) j (itsC ((L.take j).map upI))) ∧ Hid (wr.ownsRow w1.heap.size 27 4 (.slice At j ct) j (itsC ((L.take j).map fun z => -upI z))) ∧ Hid (ApartV (.slice Ar j cr) (.slice At j ct)) ∧ Below w1.heap.size w1 wr) (fun _ _ i _ => m - (intOf i).toNat)
  case atStart => exact ⟨0, none, 0, none, 0, Nat.zero_le _, rfl, rfl, rfl, Lib.hid (World.ownsRow_nil _ _ _ _), Lib.hid (World.ownsRow_nil _ _ _ _), Lib.hid (.inl rfl), Below.refl _ _⟩
  case round =>
    obtain ⟨j, Ar, cr, At, ct, hj, rfl, rfl, rfl, HR, HT, HA, hbr⟩ := hrel
    rename World => wr
    by_cases hlt : j < m
    · obtain ⟨b, off, e0, _, hcl⟩ := (Hsh.out wr (bel_next hb1 hbr)).2 (by omega)
      subst e0
      obtain ⟨z, hz⟩ : ∃ z, L[j]? = some z := ⟨_, List.getElem?_eq_getElem (by rw [HL.out]; exact hlt)⟩
      have hcz := hcl j (.int .i64 z) (by rw [List.getElem?_map, hz]; rfl)
      have hq := upI_neg (Hwm.out z (List.mem_of_getElem? hz))
      have hmx : max z (-9223372036854775807) = upI z := rfl
      have hmy : (if z < (-9223372036854775807 : Int) then (-9223372036854775807 : Int) else z) = upI z := by unfold upI; split <;> omega
      have HE1 := Lib.hid (show itsC ((L.take (j + 1)).map upI) = itsC ((L.take j).map upI) ++ [.slice none 0 0, .slice none 0 0, .bool true, .int .i64 (upI z)] by rw [List.take_add_one, hz, List.map_append]; exact its_snoc _ _)
      have HE2 := Lib.hid (show itsC ((L.take (j + 1)).map fun z => -upI z) = itsC ((L.take j).map fun z => -upI z) ++ [.slice none 0 0, .slice none 0 0, .bool true, .int .i64 (-upI z)] by rw [List.take_add_one, hz, List.map_append]; exact its_snoc _ _)
      generalize upI z = q at hmx hmy hq HE1 HE2
      have hlt' : (j : Int) < m := by omega
      have hr1 := HR.out.alloc (.cells #[.slice none 0 0, .slice none 0 0, .bool true, .int .i64 q] 27)
      have ht1 := HT.out.alloc (.cells #[.slice none 0 0, .slice none 0 0, .bool true, .int .i64 q] 27)
      have hs1 := shows_made wr #[.slice none 0 0, .slice none 0 0, .bool true, .int .i64 q] 27 wr.heap.size 1 4 rfl rfl
      have hbs1 : w1.heap.size ≤ (wr.alloc (.cells #[.slice none 0 0, .slice none 0 0, .bool true, .int .i64 q] 27)).heap.size := by rw [World.size_alloc]; have := hbr.size; omega
      clear hcl hz HR HT
      go_wp2_with (at_builtin; first
        | (refine wpList_appO rfl _ _ 24 rfl w1.heap.size 27 iI _ 4 64 Tryd.underlying24 jiI jzI jsI jbI rfl (by decide) _ _ _ rfl hr1 _ wr.heap.size 1 1 _ rfl hs1 (its_one q) (by omega) (by omega) hbs1 ?_; intro A5 c5 w5 hr5 hg5 hb5 hor5; have ht5 := ht1.kept hg5 HA.out; have ha5 := apart_app HA.out ht1 hor5; have hbr5 := (hbr.alloc hbr.size (.cells #[.slice none 0 0, .slice none 0 0, .bool true, .int .i64 q] 27)).trans hb5; have ht6 := ht5.alloc (.cells #[.slice none 0 0, .slice none 0 0, .bool true, .int .i64 (-q)] 27); have hr6 := hr5.alloc (.cells #[.slice none 0 0, .slice none 0 0, .bool true, .int .i64 (-q)] 27); have hs6 := shows_made w5 #[.slice none 0 0, .slice none 0 0, .bool true, .int .i64 (-q)] 27 w5.heap.size 1 4 rfl rfl; have hbs6 : w1.heap.size ≤ (w5.alloc (.cells #[.slice none 0 0, .slice none 0 0, .bool true, .int .i64 (-q)] 27)).heap.size := (by rw [World.size_alloc]; have := hbr5.size; omega); clear hr1 ht1 hs1 hbs1 hg5 hb5 hor5 HA hr5 ht5)
        | (refine wpList_appO rfl _ _ 24 rfl w1.heap.size 27 iI _ 4 64 Tryd.underlying24 jiI jzI jsI jbI rfl (by decide) _ _ _ rfl ht6 _ w5.heap.size 1 1 _ rfl hs6 (its_one (-q)) (by omega) (by omega) hbs6 ?_; intro A6 c6 w6 ht7 hg7 hb7 hor7; have hr7 := hr6.kept hg7 (apart_turn ha5); have ha7 := apart_turn (apart_app (apart_turn ha5) hr6 hor7); have hbr7 := (hbr5.alloc hbr5.size (.cells #[.slice none 0 0, .slice none 0 0, .bool true, .int .i64 (-q)] 27)).trans hb7; clear hr6 hs6 hbs6 hg7 hb7 hor7 ha5 ht6))
      go_roundw
      case rel => exact ⟨j + 1, A5, c5, A6, c6, by omega, by go_num, rfl, rfl, Lib.hid (by rw [HE1.out]; exact hr7), Lib.hid (by rw [HE2.out]; exact ht7), Lib.hid ha7, hbr7⟩
      case measure => simp [intOf]; omega
    · obtain rfl : j = m := by omega
      have htk : L.take j = L := List.take_of_length_le (by rw [HL.out]; exact Nat.le_refl _)
      rw [htk] at HR HT
      have e2 : (L.map fun z => -upI z).map nItem = (L.map upI).map fun n => nItem (-n) := by rw [List.map_map, List.map_map]; rfl
      have b1 : ∀ x ∈ (L.map upI).map nItem, R64 x.n := fun x hx => by
        obtain ⟨q, hq, rfl⟩ := List.mem_map.1 hx
        obtain ⟨z, hz, rfl⟩ := List.mem_map.1 hq
        exact (upI_r64 (Hwm.out z hz)).1
      have b2 : ∀ x ∈ (L.map upI).map fun n => nItem (-n), R64 x.n := fun x hx => by
        obtain ⟨q, hq, rfl⟩ := List.mem_map.1 hx
        obtain ⟨z, hz, rfl⟩ := List.mem_map.1 hq
        exact (upI_r64 (Hwm.out z hz)).2
      have l1 : ((L.map upI).map nItem).length = j := by simp [HL.out]
      have l2 : ((L.map upI).map fun n => nItem (-n)).length = j := by simp [HL.out]
      have HR2 := Lib.hid (show wr.ownsRow w1.heap.size 27 4 (.slice Ar j cr) j (((L.map upI).map nItem).flatMap ItemT.cells) from HR.out)
      have HT2 := Lib.hid (show wr.ownsRow w1.heap.size 27 4 (.slice At j ct) j (((L.map upI).map fun n => nItem (-n)).flatMap ItemT.cells) from by rw [← e2]; exact HT.out)
      have o1 := allOk _ b1 (by omega)
      have o2 := allOk _ b2 (by omega)
      have o3 := allOk (((L.map upI).map nItem) ++ ((L.map upI).map fun n => nItem (-n))) (fun x hx => (List.mem_append.1 hx).elim (b1 x) (b2 x)) (by rw [List.length_append]; omega)
      have k3 := o3.ok (by rw [List.length_append]; omega)
      obtain ⟨v3, le3⟩ := turned_all (L.map upI)
      have e3 := allR_append ((L.map upI).map nItem) ((L.map upI).map fun n => nItem (-n))
      have k1 := o1.ok (by omega)
      have k2 := o2.ok (by omega)
      have c1 := o1.cnt
      have c2 := o2.cnt
      have h1 := Lib.hid (fun W (hb : Below wr.heap.size wr W) => all_any Ar j cr W.heap.size _ W (Shows.own (own_later HR2.out hb)) (Nat.le_refl _) b1 hm60)
      have h2 := Lib.hid (fun W (hb : Below wr.heap.size wr W) => all_any At j ct W.heap.size _ W (Shows.own (own_later HT2.out hb)) (Nat.le_refl _) b2 hm60)
      rw [l1] at c1
      rw [l2] at c2
      have va := o1.valid
      have vb := o2.valid
      have vx := o3.valid
      rw [e3] at vx v3 le3 k3
      generalize allR ((L.map upI).map nItem) = a at *
      generalize allR ((L.map upI).map fun n => nItem (-n)) = b at *
      have hj1 := Lib.hid (fun W g (h : Reds W W.heap.size (some ⟨g, 0, none⟩) 2 [a, b]) => join_two a b g W va vb k1 k2 (by omega) h)
      generalize a.join b = x at *
      obtain ⟨-, -, kv, kl, km⟩ := k3
      have htl := Lib.hid (fun W => tell_sum x.c x.i x.v x.l x.m W kv kl km vx (by rw [v3]; rfl))
      have hng : IntKind.i64.wrap (-x.m) = x.l := by rw [← le3]; exact wrap_of kl
      have Hv := Lib.hid v3
      clear htk e2 b1 b2 l1 l2 HR HT o1 o2 o3 v3 e3 c1 c2 va vb vx kv kl km hlt HR2 HT2 Hsh Hwm HL hj le3
      go_wp2_with fail
      refine (h1.out _ (Below.refl _ _)).mono ?_
      rintro e w2 ⟨rfl, hb2⟩
      have s8 := Lib.hid (Six.new w2 (.int .i64 a.c) (.int .i64 a.i) (.int .i64 (hiI a.v)) (.int .u64 (loI a.v)) (.int .i64 a.l) (.int .i64 a.m) 30)
      have hx2 := hb2.alloc hb2.size (.cells #[.int .i64 a.c, .int .i64 a.i, .int .i64 (hiI a.v), .int .u64 (loI a.v), .int .i64 a.l, .int .i64 a.m] 30)
      clear h1 hb2
      go_wp2_with fail
      refine (h2.out _ hx2).mono ?_
      rintro e w3 ⟨rfl, hb3⟩
      have hx3 := hx2.trans (hb3.mono hx2.size)
      have s8c := Lib.hid ((s8.out.below hb3 rfl).alloc (.cells #[.int .i64 b.c, .int .i64 b.i, .int .i64 (hiI b.v), .int .u64 (loI b.v), .int .i64 b.l, .int .i64 b.m] 30))
      have s10 := Lib.hid (Six.new w3 (.int .i64 b.c) (.int .i64 b.i) (.int .i64 (hiI b.v)) (.int .u64 (loI b.v)) (.int .i64 b.l) (.int .i64 b.m) 30)
      have hx4 := hx3.alloc hx3.size (.cells #[.int .i64 b.c, .int .i64 b.i, .int .i64 (hiI b.v), .int .u64 (loI b.v), .int .i64 b.l, .int .i64 b.m] 30)
      obtain ⟨⟨p0, p1, p2, p3, p4, p5⟩, -⟩ := s8c.out
      obtain ⟨⟨q0, q1, q2, q3, q4, q5⟩, -⟩ := s10.out
      have hjn := hj1.out _ _ (reds_at (w3.alloc (.cells #[.int .i64 b.c, .int .i64 b.i, .int .i64 (hiI b.v), .int .u64 (loI b.v), .int .i64 b.l, .int .i64 b.m] 30)) (w3.heap.size + 1) a b 30 (by simp))
      clear h2 hb3 hx2 hx3 s8 hj1
      go_wp2_with fail
      refine hjn.mono ?_
      rintro e w5 ⟨rfl, hb5⟩
      have hx5 := (hx4.alloc hx4.size (.cells #[.int .i64 a.c, .int .i64 a.i, .int .i64 (hiI a.v), .int .u64 (loI a.v), .int .i64 a.l, .int .i64 a.m, .int .i64 b.c, .int .i64 b.i, .int .i64 (hiI b.v), .int .u64 (loI b.v), .int .i64 b.l, .int .i64 b.m] 30)).trans (hb5.mono (hx4.alloc hx4.size (.cells #[.int .i64 a.c, .int .i64 a.i, .int .i64 (hiI a.v), .int .u64 (loI a.v), .int .i64 a.l, .int .i64 a.m, .int .i64 b.c, .int .i64 b.i, .int .i64 (hiI b.v), .int .u64 (loI b.v), .int .i64 b.l, .int .i64 b.m] 30)).size)
      have s12 := Lib.hid (Six.new w5 (.int .i64 x.c) (.int .i64 x.i) (.int .i64 (hiI x.v)) (.int .u64 (loI x.v)) (.int .i64 x.l) (.int .i64 x.m) 30)
      have hx6 := hx5.alloc hx5.size (.cells #[.int .i64 x.c, .int .i64 x.i, .int .i64 (hiI x.v), .int .u64 (loI x.v), .int .i64 x.l, .int .i64 x.m] 30)
      clear hjn hb5 hx4 hx5 p0 p1 p2 p3 p4 p5 q0 q1 q2 q3 q4 q5 s8c s10
      obtain ⟨⟨x0, x1, x2, x3, x4, x5⟩, -⟩ := s12.out
      have ht := htl.out (w5.alloc (.cells #[.int .i64 x.c, .int .i64 x.i, .int .i64 (hiI x.v), .int .u64 (loI x.v), .int .i64 x.l, .int .i64 x.m] 30))
      clear htl
      go_wp2_with fail
      refine ht.mono ?_
      rintro e w6 ⟨rfl, hb6⟩
      have hx7 := hx6.trans (hb6.mono hx6.size)
      have hx8 := hx7.alloc hx7.size (.cells #[.int .i64 3, .int .i64 x.v, .string ⟨#[]⟩, .slice none 0 0, .slice none 0 0] 39)
      have s12b := Lib.hid ((s12.out.below hb6 rfl).alloc (.cells #[.int .i64 3, .int .i64 x.v, .string ⟨#[]⟩, .slice none 0 0, .slice none 0 0] 39))
      have sv := VFive.new w6 (.int .i64 3) (.int .i64 x.v) (.string ⟨#[]⟩) (.slice none 0 0) (.slice none 0 0) 39 w6.heap.size rfl
      have hbw := bel_next (bel_next hb1 hbr) hx8
      have hsm := same_any (w6.alloc (.cells #[.int .i64 3, .int .i64 x.v, .string ⟨#[]⟩, .slice none 0 0, .slice none 0 0] 39)).heap.size (w6.alloc (.cells #[.int .i64 3, .int .i64 x.v, .string ⟨#[]⟩, .slice none 0 0, .slice none 0 0] 39)) (scV 3 x.v ⟨#[]⟩) (scV 3 0 ⟨#[]⟩) (leaf_lie (.inr rfl) (by rw [Hv.out]; unfold R64; omega) _ _) (leaf_lie (.inr rfl) (by unfold R64; omega) _ _) (Nat.le_refl _) (HTx.out _ hbw).1 (HTx.out _ hbw).2
      rw [show sameR (scV 3 x.v ⟨#[]⟩) (scV 3 0 ⟨#[]⟩) = true by rw [Hv.out]; exact leaf_same (.inr rfl)] at hsm
      simp only [VT.agg, scV] at hsm
      obtain ⟨⟨v0, v1, v2, v3, v4⟩, -⟩ := sv
      clear ht hb6 hx6 hx7 x0 x1 x2 x3 x4 x5 s12
      go_wp2_with fail
      refine hsm.mono ?_
      rintro e w8 ⟨rfl, hb8⟩
      obtain ⟨⟨x0, x1, x2, x3, x4, x5⟩, -⟩ := s12b.out.below hb8 rfl
      clear hsm v0 v1 v2 v3 v4
      go_wp2
      go_ret
      exact ⟨rfl, bel_next hbw hb8⟩
theorem monoidComes_walk (W : World) (A : Option Addr) (n c : Nat) (l : List Int) (h : Shows W W.heap.size 1 A n (l.map (.int .i64))) (hwf : ∀ z ∈ l, (Lit.int .i64 z).wf = true) (_ : A = none → c = 0) (hn : n ≤ c) (hc : c ≤ maxLen) (h1 : UTab W) (h2 : STab W) :
    Calls Tryd.prog 3 #[.slice A n c] W fun e W' => e = .returned (.bool true) ∧ Below W.heap.size W W' :=
  comes_any A n c l W h hwf hn hc h1 h2
end Go.Proofs.YtinaecmpigenoaaDoor
