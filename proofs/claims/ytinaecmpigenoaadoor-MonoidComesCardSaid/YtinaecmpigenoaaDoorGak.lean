import Derived.Test.YtinaecmpigenoaaDoorGaj
import Derived.Test.YtinaecmpigenoaaDoorGaa
import Derived.Test.YtinaecmpigenoaaDoorGae
import Derived.Lib.LaidTab
import Derived.Lib.LaidU8
import Derived.Test.YtinaecmpigenoaaDoorGag
/-
  MonoidComes: numbers and their opposites add up to 0, even where the sum leaves the range of 64 bits on the way: the walk.
-/
namespace Go.Proofs.YtinaecmpigenoaaDoor
open Go.RowKit
set_option linter.unusedVariables false

theorem item_info : ∃ i, Tryd.prog.info? 27 = some i ∧ i.zero = some (.agg #[.slice none 0 0, .slice none 0 0, .bool false, .int .i64 0]) ∧ i.size = 4 ∧ i.bytes = 64 := ⟨Tryd.t27, by kernel_rfl, by kernel_rfl, by kernel_rfl, by kernel_rfl⟩
/-- The least number has none beside it. -/
def upI (z : Int) : Int := max z (-9223372036854775807)
theorem upI_r64 {z : Int} (h : (Lit.int .i64 z).wf = true) : R64 (upI z) ∧ R64 (-upI z) := by
  have h := wf_i64 h
  unfold R64 upI
  omega
theorem upI_neg {z : Int} (h : (Lit.int .i64 z).wf = true) : IntKind.i64.wrap (-upI z) = -upI z := by
  have := (upI_r64 h).2
  unfold R64 at this
  rw [IntKind.wrap_i64]
  omega
theorem wrap_of {v : Int} (h : R64 v) : IntKind.i64.wrap v = v := by
  unfold R64 at h
  rw [IntKind.wrap_i64]
  omega
def itsC (l : List Int) : List Value := (l.map nItem).flatMap ItemT.cells
theorem its_snoc (l : List Int) (q : Int) : itsC (l ++ [q]) = itsC l ++ [.slice none 0 0, .slice none 0 0, .bool true, .int .i64 q] := by
  unfold itsC
  rw [List.map_append, List.flatMap_append]
  rfl
theorem its_one (q : Int) : ∀ u ∈ [Value.slice none 0 0, .slice none 0 0, .bool true, .int .i64 q], u.oneCell' = true := by
  intro u hu
  simp only [List.mem_cons, List.not_mem_nil, or_false] at hu
  rcases hu with rfl | rfl | rfl | rfl <;> rfl
set_option maxRecDepth 20000 in
set_option maxHeartbeats 4000000 in
theorem comes_any (A : Option Addr) (n c : Nat) (l : List Int) (w : World) (h : Shows w w.heap.size 1 A n (l.map (.int .i64))) (hwf : ∀ z ∈ l, (Lit.int .i64 z).wf = true) (hn : n ≤ c) (hc : c ≤ maxLen) (htab : UTab w) (hst : STab w) :
    Calls Tryd.prog 3 #[.slice A n c] w fun e w' => e = .returned (.bool true) ∧ Below w.heap.size w w' := by
  obtain ⟨iI, jiI, jzI, jsI, jbI⟩ := item_info
  have HTx := Lib.hid (fun W (h : Below w.heap.size w W) => (⟨htab.below h htab.lt, hst.below h hst.lt⟩ : UTab W ∧ STab W))
  obtain ⟨m, hm⟩ : ∃ m, m = min n 60 := ⟨_, rfl⟩
  have hmi : min (n : Int) 60 = (m : Int) := by omega
  have hmj : (if (60 : Int) < (n : Int) then (60 : Int) else (n : Int)) = (m : Int) := by split <;> omega
  have hm60 : m ≤ 60 := by omega
  have hmn : m ≤ n := by omega
  have hz1 : (0 : Int) ≤ m := by omega
  have hi1 : (m : Int) ≤ n := by omega
  have hj1 : (m : Int) ≤ c := by omega
  have hMx : 100 ≤ maxLen := by decide
  have hsh : Shows w w.heap.size 1 A m ((l.take m).map (.int .i64)) := by
    have := h.first hmn
    rwa [Nat.mul_one, ← List.map_take] at this
  have hwm : ∀ z ∈ l.take m, (Lit.int .i64 z).wf = true := fun z hz => hwf z (List.mem_of_mem_take hz)
  generalize l.take m = L at *
  have hLm : L.length = m := by have := hsh.1; simpa using this
  have Hsh := Lib.hid (fun W (hb : Below w.heap.size w W) => hsh.below hb)
  have Hwm := Lib.hid hwm
  have HL := Lib.hid hLm
  clear hm h hwf htab hst hsh hwm hLm
  go_enter Tryd.func3, Tryd.ntmps3
  go_wp2_with fail
  refine (wakes_any _).mono ?_
  rintro e w1 ⟨rfl, hb1⟩
  go_wp2
  go_loopw [4, 5, 25] (fun r t i wr => ∃ (j : Nat) (Ar : Option Addr) (cr : Nat) (At : Option Addr) (ct : Nat), j ≤ m ∧ i = .int .i64 j ∧ r = .slice Ar j cr ∧ t = .slice At j ct ∧ Hid (wr.ownsRow w1.heap.size 27 4 (.slice Ar j cr) j (itsC ((L.take j).map upI))) ∧ Hid (wr.ownsRow w1.heap.size 27 4 (.slice At j ct) j (itsC ((L.take j).map fun z => -upI z))) ∧ Hid (ApartV (.slice Ar j cr) (.slice At j ct)) ∧ Below w1.heap.size w1 wr) (fun _ _ i _ => m - (intOf i).toNat)
  case atStart => exact ⟨0, none, 0, none, 0, Nat.zero_le _, rfl, rfl, rfl, Lib.hid (World.ownsRow_nil _ _ _ _), Lib.hid (World.ownsRow_nil _ _ _ _), Lib.hid (.inl rfl), Below.refl _ _⟩
  case round =>
    obtain ⟨j, Ar, cr, At, ct, hj, rfl, rfl, rfl, HR, HT, HA, hbr⟩ := hrel
    rename World => wr
    by_cases hlt : j < m
    · obtain ⟨b, off, e0, _, hcl⟩ := (Hsh.out wr (bel_next hb1 hbr)).2 (by omega)
      subst e0
      obtain ⟨z, hz⟩ : ∃ z, L[j]? = some z := ⟨_, List.getElem?_eq_getElem (by rw [HL.out]; exact hlt)⟩
      have hcz := hcl j (.int .i64 z) (by rw [List.getElem?_map, hz]; rfl)
      have hq := upI_neg (Hwm.out z (List.mem_of_getElem? hz))
      have hmx : max z (-9223372036854775807) = upI z := rfl
      have hmy : (if z < (-9223372036854775807 : Int) then (-9223372036854775807 : Int) else z) = upI z := by unfold upI; split <;> omega
      have HE1 := Lib.hid (show itsC ((L.take (j + 1)).map upI) = itsC ((L.take j).map upI) ++ [.slice none 0 0, .slice none 0 0, .bool true, .int .i64 (upI z)] by rw [List.take_add_one, hz, List.map_append]; exact its_snoc _ _)
      have HE2 := Lib.hid (show itsC ((L.take (j + 1)).map fun z => -upI z) = itsC ((L.take j).map fun z => -upI z) ++ [.slice none 0 0, .slice none 0 0, .bool true, .int .i64 (-upI z)] by rw [List.take_add_one, hz, List.map_append]; exact its_snoc _ _)
      generalize upI z = q at hmx hmy hq HE1 HE2
      have hlt' : (j : Int) < m := by omega
      have hr1 := HR.out.alloc (.cells #[.slice none 0 0, .slice none 0 0, .bool true, .int .i64 q] 27)
      have ht1 := HT.out.alloc (.cells #[.slice none 0 0, .slice none 0 0, .bool true, .int .i64 q] 27)
      have hs1 := shows_made wr #[.slice none 0 0, .slice none 0 0, .bool true, .int .i64 q] 27 wr.heap.size 1 4 rfl rfl
      have hbs1 : w1.heap.size ≤ (wr.alloc (.cells #[.slice none 0 0, .slice none 0 0, .bool true, .int .i64 q] 27)).heap.size := by rw [World.size_alloc]; have := hbr.size; omega
      clear hcl hz HR HT
      go_wp2_with (at_builtin; first
        | (refine wpList_appO rfl _ _ 24 rfl w1.heap.size 27 iI _ 4 64 Tryd.underlying24 jiI jzI jsI jbI rfl (by decide) _ _ _ rfl hr1 _ wr.heap.size 1 1 _ rfl hs1 (its_one q) (by omega) (by omega) hbs1 ?_; intro A5 c5 w5 hr5 hg5 hb5 hor5; have ht5 := ht1.kept hg5 HA.out; have ha5 := apart_app HA.out ht1 hor5; have hbr5 := (hbr.alloc hbr.size (.cells #[.slice none 0 0, .slice none 0 0, .bool true, .int .i64 q] 27)).trans hb5; have ht6 := ht5.alloc (.cells #[.slice none 0 0, .slice none 0 0, .bool true, .int .i64 (-q)] 27); have hr6 := hr5.alloc (.cells #[.slice none 0 0, .slice none 0 0, .bool true, .int .i64 (-q)] 27); have hs6 := shows_made w5 #[.slice none 0 0, .slice none 0 0, .bool true, .int .i64 (-q)] 27 w5.heap.size 1 4 rfl rfl; have hbs6 : w1.heap.size ≤ (w5.alloc (.cells #[.slice none 0 0, .slice none 0 0, .bool true, .int .i64 (-q)] 27)).heap.size := (by rw [World.size_alloc]; have := hbr5.size; omega); clear hr1 ht1 hs1 hbs1 hg5 hb5 hor5 HA hr5 ht5)
        | (refine wpList_appO rfl _ _ 24 rfl w1.heap.size 27 iI _ 4 64 Tryd.underlying24 jiI jzI jsI jbI rfl (by decide) _ _ _ rfl ht6 _ w5.heap.size 1 1 _ rfl hs6 (its_one (-q)) (by omega) (by omega) hbs6 ?_; intro A6 c6 w6 ht7 hg7 hb7 hor7; have hr7 := hr6.kept hg7 (apart_turn ha5); have ha7 := apart_turn (apart_app (apart_turn ha5) hr6 hor7); have hbr7 := (hbr5.alloc hbr5.size (.cells #[.slice none 0 0, .slice none 0 0, .bool true, .int .i64 (-q)] 27)).trans hb7; clear hr6 hs6 hbs6 hg7 hb7 hor7 ha5 ht6))
      go_roundw
      case rel => exact ⟨j + 1, A5, c5, A6, c6, by omega, by go_num, rfl, rfl, Lib.hid (by rw [HE1.out]; exact hr7), Lib.hid (by rw [HE2.out]; exact ht7), Lib.hid ha7, hbr7⟩
      case measure => simp [intOf]; omega
    · obtain rfl : j = m := by omega
      have htk : L.take j = L := List.take_of_length_le (by rw [HL.out]; exact Nat.le_refl _)
      rw [htk] at HR HT
      have e2 : (L.map fun z => -upI z).map nItem = (L.map upI).map fun n => nItem (-n) := by rw [List.map_map, List.map_map]; rfl
      have b1 : ∀ x ∈ (L.map upI).map nItem, R64 x.n := fun x hx => by
        obtain ⟨q, hq, rfl⟩ := List.mem_map.1 hx
        obtain ⟨z, hz, rfl⟩ := List.mem_map.1 hq
        exact (upI_r64 (Hwm.out z hz)).1
      have b2 : ∀ x ∈ (L.map upI).map fun n => nItem (-n), R64 x.n := fun x hx => by
        obtain ⟨q, hq, rfl⟩ := List.mem_map.1 hx
        obtain ⟨z, hz, rfl⟩ := List.mem_map.1 hq
        exact (upI_r64 (Hwm.out z hz)).2
      have l1 : ((L.map upI).map nItem).length = j := by simp [HL.out]
      have l2 : ((L.map upI).map fun n => nItem (-n)).length = j := by simp [HL.out]
      have HR2 := Lib.hid (show wr.ownsRow w1.heap.size 27 4 (.slice Ar j cr) j (((L.map upI).map nItem).flatMap ItemT.cells) from HR.out)
      have HT2 := Lib.hid (show wr.ownsRow w1.heap.size 27 4 (.slice At j ct) j (((L.map upI).map fun n => nItem (-n)).flatMap ItemT.cells) from by rw [← e2]; exact HT.out)
      have o1 := allOk _ b1 (by omega)
      have o2 := allOk _ b2 (by omega)
      have o3 := allOk (((L.map upI).map nItem) ++ ((L.map upI).map fun n => nItem (-n))) (fun x hx => (List.mem_append.1 hx).elim (b1 x) (b2 x)) (by rw [List.length_append]; omega)
      have k3 := o3.ok (by rw [List.length_append]; omega)
      obtain ⟨v3, le3⟩ := turned_all (L.map upI)
      have e3 := allR_append ((L.map upI).map nItem) ((L.map upI).map fun n => nItem (-n))
      have k1 := o1.ok (by omega)
      have k2 := o2.ok (by omega)
      have c1 := o1.cnt
      have c2 := o2.cnt
      have h1 := Lib.hid (fun W (hb : Below wr.heap.size wr W) => all_any Ar j cr W.heap.size _ W (Shows.own (own_later HR2.out hb)) (Nat.le_refl _) b1 hm60)
      have h2 := Lib.hid (fun W (hb : Below wr.heap.size wr W) => all_any At j ct W.heap.size _ W (Shows.own (own_later HT2.out hb)) (Nat.le_refl _) b2 hm60)
      rw [l1] at c1
      rw [l2] at c2
      have va := o1.valid
      have vb := o2.valid
      have vx := o3.valid
      rw [e3] at vx v3 le3 k3
      generalize allR ((L.map upI).map nItem) = a at *
      generalize allR ((L.map upI).map fun n => nItem (-n)) = b at *
      have hj1 := Lib.hid (fun W g (h : Reds W W.heap.size (some ⟨g, 0, none⟩) 2 [a, b]) => join_two a b g W va vb k1 k2 (by omega) h)
      generalize a.join b = x at *
      obtain ⟨-, -, kv, kl, km⟩ := k3
      have htl := Lib.hid (fun W => tell_sum x.c x.i x.v x.l x.m W kv kl km vx (by rw [v3]; rfl))
      have hng : IntKind.i64.wrap (-x.m) = x.l := by rw [← le3]; exact wrap_of kl
      have Hv := Lib.hid v3
      clear htk e2 b1 b2 l1 l2 HR HT o1 o2 o3 v3 e3 c1 c2 va vb vx kv kl km hlt HR2 HT2 Hsh Hwm HL hj le3
      go_wp2_with fail
      refine (h1.out _ (Below.refl _ _)).mono ?_
      rintro e w2 ⟨rfl, hb2⟩
      have s8 := Lib.hid (Six.new w2 (.int .i64 a.c) (.int .i64 a.i) (.int .i64 (hiI a.v)) (.int .u64 (loI a.v)) (.int .i64 a.l) (.int .i64 a.m) 30)
      have hx2 := hb2.alloc hb2.size (.cells #[.int .i64 a.c, .int .i64 a.i, .int .i64 (hiI a.v), .int .u64 (loI a.v), .int .i64 a.l, .int .i64 a.m] 30)
      clear h1 hb2
      go_wp2_with fail
      refine (h2.out _ hx2).mono ?_
      rintro e w3 ⟨rfl, hb3⟩
      have hx3 := hx2.trans (hb3.mono hx2.size)
      have s8c := Lib.hid ((s8.out.below hb3 rfl).alloc (.cells #[.int .i64 b.c, .int .i64 b.i, .int .i64 (hiI b.v), .int .u64 (loI b.v), .int .i64 b.l, .int .i64 b.m] 30))
      have s10 := Lib.hid (Six.new w3 (.int .i64 b.c) (.int .i64 b.i) (.int .i64 (hiI b.v)) (.int .u64 (loI b.v)) (.int .i64 b.l) (.int .i64 b.m) 30)
      have hx4 := hx3.alloc hx3.size (.cells #[.int .i64 b.c, .int .i64 b.i, .int .i64 (hiI b.v), .int .u64 (loI b.v), .int .i64 b.l, .int .i64 b.m] 30)
      obtain ⟨⟨p0, p1, p2, p3, p4, p5⟩, -⟩ := s8c.out
      obtain ⟨⟨q0, q1, q2, q3, q4, q5⟩, -⟩ := s10.out
      have hjn := hj1.out _ _ (reds_at (w3.alloc (.cells #[.int .i64 b.c, .int .i64 b.i, .int .i64 (hiI b.v), .int .u64 (loI b.v), .int .i64 b.l, .int .i64 b.m] 30)) (w3.heap.size + 1) a b 30 (by simp))
      clear h2 hb3 hx2 hx3 s8 hj1
      go_wp2_with fail
      refine hjn.mono ?_
      rintro e w5 ⟨rfl, hb5⟩
      have hx5 := (hx4.alloc hx4.size (.cells #[.int .i64 a.c, .int .i64 a.i, .int .i64 (hiI a.v), .int .u64 (loI a.v), .int .i64 a.l, .int .i64 a.m, .int .i64 b.c, .int .i64 b.i, .int .i64 (hiI b.v), .int .u64 (loI b.v), .int .i64 b.l, .int .i64 b.m] 30)).trans (hb5.mono (hx4.alloc hx4.size (.cells #[.int .i64 a.c, .int .i64 a.i, .int .i64 (hiI a.v), .int .u64 (loI a.v), .int .i64 a.l, .int .i64 a.m, .int .i64 b.c, .int .i64 b.i, .int .i64 (hiI b.v), .int .u64 (loI b.v), .int .i64 b.l, .int .i64 b.m] 30)).size)
      have s12 := Lib.hid (Six.new w5 (.int .i64 x.c) (.int .i64 x.i) (.int .i64 (hiI x.v)) (.int .u64 (loI x.v)) (.int .i64 x.l) (.int .i64 x.m) 30)
      have hx6 := hx5.alloc hx5.size (.cells #[.int .i64 x.c, .int .i64 x.i, .int .i64 (hiI x.v), .int .u64 (loI x.v), .int .i64 x.l, .int .i64 x.m] 30)
      clear hjn hb5 hx4 hx5 p0 p1 p2 p3 p4 p5 q0 q1 q2 q3 q4 q5 s8c s10
      obtain ⟨⟨x0, x1, x2, x3, x4, x5⟩, -⟩ := s12.out
      have ht := htl.out (w5.alloc (.cells #[.int .i64 x.c, .int .i64 x.i, .int .i64 (hiI x.v), .int .u64 (loI x.v), .int .i64 x.l, .int .i64 x.m] 30))
      clear htl
      go_wp2_with fail
      refine ht.mono ?_
      rintro e w6 ⟨rfl, hb6⟩
      have hx7 := hx6.trans (hb6.mono hx6.size)
      have hx8 := hx7.alloc hx7.size (.cells #[.int .i64 3, .int .i64 x.v, .string ⟨#[]⟩, .slice none 0 0, .slice none 0 0] 39)
      have s12b := Lib.hid ((s12.out.below hb6 rfl).alloc (.cells #[.int .i64 3, .int .i64 x.v, .string ⟨#[]⟩, .slice none 0 0, .slice none 0 0] 39))
      have sv := VFive.new w6 (.int .i64 3) (.int .i64 x.v) (.string ⟨#[]⟩) (.slice none 0 0) (.slice none 0 0) 39 w6.heap.size rfl
      have hbw := bel_next (bel_next hb1 hbr) hx8
      have hsm := same_any (w6.alloc (.cells #[.int .i64 3, .int .i64 x.v, .string ⟨#[]⟩, .slice none 0 0, .slice none 0 0] 39)).heap.size (w6.alloc (.cells #[.int .i64 3, .int .i64 x.v, .string ⟨#[]⟩, .slice none 0 0, .slice none 0 0] 39)) (scV 3 x.v ⟨#[]⟩) (scV 3 0 ⟨#[]⟩) (leaf_lie (.inr rfl) (by rw [Hv.out]; unfold R64; omega) _ _) (leaf_lie (.inr rfl) (by unfold R64; omega) _ _) (Nat.le_refl _) (HTx.out _ hbw).1 (HTx.out _ hbw).2
      rw [show sameR (scV 3 x.v ⟨#[]⟩) (scV 3 0 ⟨#[]⟩) = true by rw [Hv.out]; exact leaf_same (.inr rfl)] at hsm
      simp only [VT.agg, scV] at hsm
      obtain ⟨⟨v0, v1, v2, v3, v4⟩, -⟩ := sv
      clear ht hb6 hx6 hx7 x0 x1 x2 x3 x4 x5 s12
      go_wp2_with fail
      refine hsm.mono ?_
      rintro e w8 ⟨rfl, hb8⟩
      obtain ⟨⟨x0, x1, x2, x3, x4, x5⟩, -⟩ := s12b.out.below hb8 rfl
      clear hsm v0 v1 v2 v3 v4
      go_wp2
      go_ret
      exact ⟨rfl, bel_next hbw hb8⟩
theorem monoidComes_walk (W : World) (A : Option Addr) (n c : Nat) (l : List Int) (h : Shows W W.heap.size 1 A n (l.map (.int .i64))) (hwf : ∀ z ∈ l, (Lit.int .i64 z).wf = true) (_ : A = none → c = 0) (hn : n ≤ c) (hc : c ≤ maxLen) (h1 : UTab W) (h2 : STab W) :
    Calls Tryd.prog 3 #[.slice A n c] W fun e W' => e = .returned (.bool true) ∧ Below W.heap.size W W' :=
  comes_any A n c l W h hwf hn hc h1 h2
end Go.Proofs.YtinaecmpigenoaaDoor
/-
  Layer 1: the table of forms out of a row's condition: an array of structs of whole numbers holds what it reads as.
-/
namespace Go.Proofs.YtinaecmpigenoaaDoor
open Go.RowKit

section
variable {H : Type} {enc : TypeId × Value → H} {P : Program} {w : World} {base : Nat} {sp : Nat → Bool} {held : Bool} {k : IntKind}
def litRow (k : IntKind) (zs : List Int) : DataW H := .agg (zs.map fun z => .lit (.int k z))
theorem cells_of_struct {fuel : Nat} {t : TypeId} {fs : Array Field} {cs : List Value} {zs : List Int} {p : List MemPlace} (ht : P.underlying t = some (.struct fs)) (hn : P.cellsOf t = fs.size)
    (hf : ∀ (i : Nat) (f : Field), fs[i]? = some f → f.offset = i ∧ P.cellsOf f.type = 1 ∧ P.underlying f.type = some (.int k))
    (h : DataW.trod enc P w base sp held fuel t cs = some (litRow k zs, p)) : cs = zs.map fun z => Value.int k z := by
  obtain ⟨xs, n, _, hx, hl, hlen, hfx⟩ := DataW.trod_struct ht h
  have hxs : xs.map (·.1) = zs.map fun z => (DataW.lit (.int k z) : DataW H) := by
    have := congrArg Prod.fst hx
    simpa [litRow] using this.symm
  have hzl : zs.length = fs.size := by
    have := congrArg List.length hxs
    simp at this
    omega
  apply List.ext_getElem?
  intro i
  by_cases hi : i < fs.size
  · obtain ⟨h1, h2, h3⟩ := hf i fs[i] (Array.getElem?_eq_getElem hi)
    have hb := hfx i fs[i] (Array.getElem?_eq_getElem hi)
    rw [h1, h2, List.getElem?_eq_getElem (by omega)] at hb
    obtain ⟨z, hc, hz, _⟩ := DataW.trod_int h3 hb
    have e1 : cs[i]? = some (.int k z) := by
      have := congrArg (·[0]?) hc
      simpa [List.getElem?_take, List.getElem?_drop] using this
    have e2 : (xs.map (·.1))[i]? = some (DataW.lit (.int k z) : DataW H) := by
      rw [List.getElem?_map, List.getElem?_eq_getElem (by omega), hz]
      rfl
    rw [hxs] at e2
    simp only [List.getElem?_map, Option.map_eq_some_iff, DataW.lit.injEq, Lit.int.injEq, true_and] at e2
    obtain ⟨z', hz', rfl⟩ := e2
    simp [e1, hz']
  · rw [List.getElem?_eq_none (by omega), List.getElem?_eq_none (by simp; omega)]
theorem cells_of_rows {fuel : Nat} {t e : TypeId} {n m : Nat} {cs : List Value} {rows : List (List Int)} {p : List MemPlace} (ht : P.underlying t = some (.array n e)) (he : P.cellsOf e = m) (hct : P.cellsOf t = n * m)
    (hs : ∀ (cs' : List Value) (fuel' : Nat) (zs : List Int) (p' : List MemPlace), DataW.trod enc P w base sp held fuel' e cs' = some (litRow k zs, p') → cs' = zs.map fun z => Value.int k z)
    (h : DataW.trod enc P w base sp held fuel t cs = some (.agg (rows.map (litRow k)), p)) :
    cs.length = n * m ∧ rows.length = n ∧ ∀ i r, rows[i]? = some r → (cs.drop (i * m)).take m = r.map fun z => Value.int k z := by
  cases fuel with
  | zero => simp [DataW.trod] at h
  | succ fuel =>
    simp only [DataW.trod, ht, he, hct] at h
    split at h
    · rename_i hl
      obtain ⟨xs, hm, hx⟩ := Option.map_eq_some_iff.1 h
      have hxs : xs.map (·.1) = rows.map (litRow k) := by
        have := congrArg Prod.fst hx
        simpa using this
      have hxl : xs.length = n := by simpa using Lib.mapM_length hm
      have hzl : rows.length = n := by
        have := congrArg List.length hxs
        simp at this
        omega
      refine ⟨hl, hzl, fun i r hr => ?_⟩
      have hi : i < n := by rw [← hzl]; exact (List.getElem?_eq_some_iff.1 hr).1
      obtain ⟨b, hb, hf⟩ := Lib.mapM_at hm i i (by simp [hi])
      have h2 : (xs.map (·.1))[i]? = some (litRow k r) := by rw [hxs, List.getElem?_map, hr]; rfl
      rw [List.getElem?_map, hb] at h2
      have h3 : b.1 = litRow k r := by simpa using h2
      obtain ⟨b1, b2⟩ := b
      subst h3
      exact hs _ _ _ _ hf
    · cases h
end
theorem four (cs : List Value) (h : cs.length = 16) : cs = (cs.drop (0 * 4)).take 4 ++ ((cs.drop (1 * 4)).take 4 ++ ((cs.drop (2 * 4)).take 4 ++ (cs.drop (3 * 4)).take 4)) := by
  have e3 : (cs.drop (3 * 4)).take 4 = cs.drop 12 := List.take_of_length_le (by simp; omega)
  have e2 : (cs.drop (2 * 4)).take 4 ++ cs.drop 12 = cs.drop 8 := by
    have := List.take_append_drop 4 (cs.drop 8)
    rwa [List.drop_drop] at this
  have e1 : (cs.drop (1 * 4)).take 4 ++ cs.drop 8 = cs.drop 4 := by
    have := List.take_append_drop 4 (cs.drop 4)
    rwa [List.drop_drop] at this
  rw [e3, e2, e1]
  simp
set_option maxRecDepth 20000 in
theorem form_rows {W : World} {fuel : Nat} {cs : List Value} {zs : List Int} {p : List MemPlace} (h : DataW.trod (fun _ => ()) Tryd.prog W 0 (fun _ => true) false fuel 100 cs = some (litRow .i64 zs, p)) : cs = zs.map fun z => Value.int .i64 z :=
  cells_of_struct Tryd.underlying100 (by kernel_rfl) (fun i f hf => by
    match i, hf with
    | 0, hf => cases hf; exact ⟨rfl, by kernel_rfl, Tryd.underlying3⟩
    | 1, hf => cases hf; exact ⟨rfl, by kernel_rfl, Tryd.underlying3⟩
    | 2, hf => cases hf; exact ⟨rfl, by kernel_rfl, Tryd.underlying3⟩
    | 3, hf => cases hf; exact ⟨rfl, by kernel_rfl, Tryd.underlying3⟩
    | i + 4, hf => simp at hf) h
set_option maxRecDepth 20000 in
theorem gForms : Tryd.prog.globalNamed "davenport/utf.forms" = some 1 := by kernel_rfl
set_option maxRecDepth 20000 in
theorem gFormsType : (Tryd.prog.globals[1]?).map (·.type) = some 103 := by kernel_rfl
set_option maxRecDepth 20000 in
/-- The condition of a row gives the table. -/
theorem utab_of {W : World} (h : Lib.VarReads Tryd.prog W "davenport/utf.forms" Rows.laid_davenport_utf_forms) : UTab W := by
  obtain ⟨g', t', cs, fuel, p, hg', ht', hvar, hd⟩ := h
  obtain rfl := Option.some.inj (gForms.symm.trans hg')
  obtain rfl := Option.some.inj (gFormsType.symm.trans ht')
  obtain ⟨hl, -, hr⟩ := cells_of_rows (k := .i64) (m := 4) (rows := [[0, 127, 1, 0], [128, 2047, 2, 192], [2048, 65535, 3, 224], [65536, 1114111, 4, 240]]) Tryd.underlying103 (by kernel_rfl) (by kernel_rfl) (fun cs' f' zs p' h' => form_rows h') hd
  have e := four cs.toList hl
  rw [hr 0 _ rfl, hr 1 _ rfl, hr 2 _ rfl, hr 3 _ rfl] at e
  intro i v hi
  have hc := World.var?_cell gForms hvar i
  rw [Nat.zero_add, hc, ← Array.getElem?_toList, e]
  exact hi
end Go.Proofs.YtinaecmpigenoaaDoor
/-
  A laid variable that is an array of structs of mixed kinds: its cells, out of what it reads as.
-/
namespace Go.Proofs.YtinaecmpigenoaaDoor
open Go.RowKit

section
variable {H : Type} {enc : TypeId × Value → H} {P : Program} {w : World} {base : Nat} {sp : Nat → Bool} {held : Bool}
theorem cells_of_rowsG {R : Type} {F : R → DataW H} {V : R → List Value} {fuel : Nat} {t e : TypeId} {n m : Nat} {cs : List Value} {rows : List R} {p : List MemPlace} (ht : P.underlying t = some (.array n e)) (he : P.cellsOf e = m) (hct : P.cellsOf t = n * m)
    (hs : ∀ (cs' : List Value) (fuel' : Nat) (r : R) (p' : List MemPlace), DataW.trod enc P w base sp held fuel' e cs' = some (F r, p') → cs' = V r)
    (h : DataW.trod enc P w base sp held fuel t cs = some (.agg (rows.map F), p)) :
    cs.length = n * m ∧ rows.length = n ∧ ∀ i r, rows[i]? = some r → (cs.drop (i * m)).take m = V r := by
  cases fuel with
  | zero => simp [DataW.trod] at h
  | succ fuel =>
    simp only [DataW.trod, ht, he, hct] at h
    split at h
    · rename_i hl
      obtain ⟨xs, hm, hx⟩ := Option.map_eq_some_iff.1 h
      have hxs : xs.map (·.1) = rows.map F := by
        have := congrArg Prod.fst hx
        simpa using this
      have hxl : xs.length = n := by simpa using Lib.mapM_length hm
      have hzl : rows.length = n := by
        have := congrArg List.length hxs
        simp at this
        omega
      refine ⟨hl, hzl, fun i r hr => ?_⟩
      have hi : i < n := by rw [← hzl]; exact (List.getElem?_eq_some_iff.1 hr).1
      obtain ⟨b, hb, hf⟩ := Lib.mapM_at hm i i (by simp [hi])
      have h2 : (xs.map (·.1))[i]? = some (F r) := by rw [hxs, List.getElem?_map, hr]; rfl
      rw [List.getElem?_map, hb] at h2
      have h3 : b.1 = F r := by simpa using h2
      obtain ⟨b1, b2⟩ := b
      subst h3
      exact hs _ _ _ _ hf
    · cases h
end
theorem chunk {cs L : List Value} {q m r : Nat} {v : Value} (h : (cs.drop (q * m)).take m = L) (hv : L[r]? = some v) : cs[q * m + r]? = some v := by
  rw [← h, List.getElem?_take] at hv
  split at hv
  · rwa [List.getElem?_drop] at hv
  · cases hv
end Go.Proofs.YtinaecmpigenoaaDoor
/-
  Layer 4: the table of shapes out of a row's condition.
-/
namespace Go.Proofs.YtinaecmpigenoaaDoor
open Go.RowKit
set_option linter.unusedVariables false

theorem six_of {α : Type} (l : List α) (h : l.length = 6) : ∃ a b c d e f, l = [a, b, c, d, e, f] := by
  match l, h with
  | [a, b, c, d, e, f], _ => exact ⟨a, b, c, d, e, f, rfl⟩
/-- A row of the table, as it reads and as it lies. -/
def shpF (r : Bool × Bool × Int × Bool × Bool × Bool) : DataW Unit := .agg [.lit (.bool r.1), .lit (.bool r.2.1), .lit (.int .i64 r.2.2.1), .lit (.bool r.2.2.2.1), .lit (.bool r.2.2.2.2.1), .lit (.bool r.2.2.2.2.2)]
def shpV (r : Bool × Bool × Int × Bool × Bool × Bool) : List Value := [.bool r.1, .bool r.2.1, .int .i64 r.2.2.1, .bool r.2.2.2.1, .bool r.2.2.2.2.1, .bool r.2.2.2.2.2]
set_option maxRecDepth 20000 in
theorem shp_rows {W : World} {fuel : Nat} {cs : List Value} {r : Bool × Bool × Int × Bool × Bool × Bool} {p : List MemPlace} (h : DataW.trod (fun _ => ()) Tryd.prog W 0 (fun _ => true) false fuel 90 cs = some (shpF r, p)) : cs = shpV r := by
  obtain ⟨xs, n, _, hx, hl, hlen, hfx⟩ := DataW.trod_struct Tryd.underlying90 h
  have hxs : xs.map (·.1) = [.lit (.bool r.1), .lit (.bool r.2.1), .lit (.int .i64 r.2.2.1), .lit (.bool r.2.2.2.1), .lit (.bool r.2.2.2.2.1), .lit (.bool r.2.2.2.2.2)] := by
    have := congrArg Prod.fst hx
    simpa [shpF] using this.symm
  have hxl : xs.length = 6 := by
    have := congrArg List.length hxs
    simpa using this
  obtain ⟨x0, x1, x2, x3, x4, x5, rfl⟩ := six_of xs hxl
  injection hxs with e0 hxs
  injection hxs with e1 hxs
  injection hxs with e2 hxs
  injection hxs with e3 hxs
  injection hxs with e4 hxs
  injection hxs with e5 _
  obtain ⟨z0, c0, d0⟩ := DataW.trod_bool Tryd.underlying4 (hfx 0 _ rfl)
  obtain ⟨z1, c1, d1⟩ := DataW.trod_bool Tryd.underlying4 (hfx 1 _ rfl)
  obtain ⟨z2, c2, d2, _⟩ := DataW.trod_int Tryd.underlying2 (hfx 2 _ rfl)
  obtain ⟨z3, c3, d3⟩ := DataW.trod_bool Tryd.underlying4 (hfx 3 _ rfl)
  obtain ⟨z4, c4, d4⟩ := DataW.trod_bool Tryd.underlying4 (hfx 4 _ rfl)
  obtain ⟨z5, c5, d5⟩ := DataW.trod_bool Tryd.underlying4 (hfx 5 _ rfl)
  have hl' : cs.length = 6 := hl.trans (by kernel_rfl)
  have kb : Tryd.prog.cellsOf 4 = 1 := by kernel_rfl
  have ki : Tryd.prog.cellsOf 2 = 1 := by kernel_rfl
  obtain ⟨a, b, c, d, e, f, rfl⟩ := six_of cs hl'
  have c0' : List.take (Tryd.prog.cellsOf 4) [a, b, c, d, e, f] = _ := c0
  have c1' : List.take (Tryd.prog.cellsOf 4) [b, c, d, e, f] = _ := c1
  have c2' : List.take (Tryd.prog.cellsOf 2) [c, d, e, f] = _ := c2
  have c3' : List.take (Tryd.prog.cellsOf 4) [d, e, f] = _ := c3
  have c4' : List.take (Tryd.prog.cellsOf 4) [e, f] = _ := c4
  have c5' : List.take (Tryd.prog.cellsOf 4) [f] = _ := c5
  rw [kb] at c0' c1' c3' c4' c5'
  rw [ki] at c2'
  clear c0 c1 c2 c3 c4 c5
  simp only [List.take_succ_cons, List.take_zero, List.cons.injEq, and_true] at c0' c1' c2' c3' c4' c5'
  subst c0' c1' c2' c3' c4' c5'
  rw [d0] at e0
  rw [d1] at e1
  rw [d2] at e2
  rw [d3] at e3
  rw [d4] at e4
  rw [d5] at e5
  injection e0 with e0
  injection e1 with e1
  injection e2 with e2
  injection e3 with e3
  injection e4 with e4
  injection e5 with e5
  injection e0 with e0
  injection e1 with e1
  injection e2 with _ e2
  injection e3 with e3
  injection e4 with e4
  injection e5 with e5
  subst e0 e1 e2 e3 e4 e5
  rfl
set_option maxRecDepth 20000 in
theorem gShp : Tryd.prog.globalNamed "davenport/value.shapes" = some 0 := by kernel_rfl
set_option maxRecDepth 20000 in
theorem gShpType : (Tryd.prog.globals[0]?).map (·.type) = some 91 := by kernel_rfl
set_option maxRecDepth 20000 in
/-- The condition of a row gives the table. -/
theorem stab_of {W : World} (h : Lib.VarReads Tryd.prog W "davenport/value.shapes" Rows.laid_davenport_value_shapes) : STab W := by
  obtain ⟨g', t', cs, fuel, p, hg', ht', hvar, hd⟩ := h
  obtain rfl := Option.some.inj (gShp.symm.trans hg')
  obtain rfl := Option.some.inj (gShpType.symm.trans ht')
  obtain ⟨hl, -, hr⟩ := cells_of_rowsG (m := 6) (F := shpF) (V := shpV) (rows := [(false, false, 0, false, false, false), (true, false, 0, false, false, false), (true, false, 1, false, false, false), (true, true, 0, false, false, false), (true, false, 0, true, false, false), (true, false, 0, false, false, true), (true, false, 0, false, true, true)]) Tryd.underlying91 (by kernel_rfl) (by kernel_rfl) (fun cs' f' zs p' h' => shp_rows h') hd
  intro i v hi
  have hc := World.var?_cell gShp hvar i
  rw [Nat.zero_add, hc, ← Array.getElem?_toList]
  have hi42 : i < 42 := (List.getElem?_eq_some_iff.1 hi).1
  match i, hi42, hi with
  | 0, _, hi => exact (chunk (q := 0) (m := 6) (r := 0) (hr 0 _ rfl) rfl).trans hi
  | 1, _, hi => exact (chunk (q := 0) (m := 6) (r := 1) (hr 0 _ rfl) rfl).trans hi
  | 2, _, hi => exact (chunk (q := 0) (m := 6) (r := 2) (hr 0 _ rfl) rfl).trans hi
  | 3, _, hi => exact (chunk (q := 0) (m := 6) (r := 3) (hr 0 _ rfl) rfl).trans hi
  | 4, _, hi => exact (chunk (q := 0) (m := 6) (r := 4) (hr 0 _ rfl) rfl).trans hi
  | 5, _, hi => exact (chunk (q := 0) (m := 6) (r := 5) (hr 0 _ rfl) rfl).trans hi
  | 6, _, hi => exact (chunk (q := 1) (m := 6) (r := 0) (hr 1 _ rfl) rfl).trans hi
  | 7, _, hi => exact (chunk (q := 1) (m := 6) (r := 1) (hr 1 _ rfl) rfl).trans hi
  | 8, _, hi => exact (chunk (q := 1) (m := 6) (r := 2) (hr 1 _ rfl) rfl).trans hi
  | 9, _, hi => exact (chunk (q := 1) (m := 6) (r := 3) (hr 1 _ rfl) rfl).trans hi
  | 10, _, hi => exact (chunk (q := 1) (m := 6) (r := 4) (hr 1 _ rfl) rfl).trans hi
  | 11, _, hi => exact (chunk (q := 1) (m := 6) (r := 5) (hr 1 _ rfl) rfl).trans hi
  | 12, _, hi => exact (chunk (q := 2) (m := 6) (r := 0) (hr 2 _ rfl) rfl).trans hi
  | 13, _, hi => exact (chunk (q := 2) (m := 6) (r := 1) (hr 2 _ rfl) rfl).trans hi
  | 14, _, hi => exact (chunk (q := 2) (m := 6) (r := 2) (hr 2 _ rfl) rfl).trans hi
  | 15, _, hi => exact (chunk (q := 2) (m := 6) (r := 3) (hr 2 _ rfl) rfl).trans hi
  | 16, _, hi => exact (chunk (q := 2) (m := 6) (r := 4) (hr 2 _ rfl) rfl).trans hi
  | 17, _, hi => exact (chunk (q := 2) (m := 6) (r := 5) (hr 2 _ rfl) rfl).trans hi
  | 18, _, hi => exact (chunk (q := 3) (m := 6) (r := 0) (hr 3 _ rfl) rfl).trans hi
  | 19, _, hi => exact (chunk (q := 3) (m := 6) (r := 1) (hr 3 _ rfl) rfl).trans hi
  | 20, _, hi => exact (chunk (q := 3) (m := 6) (r := 2) (hr 3 _ rfl) rfl).trans hi
  | 21, _, hi => exact (chunk (q := 3) (m := 6) (r := 3) (hr 3 _ rfl) rfl).trans hi
  | 22, _, hi => exact (chunk (q := 3) (m := 6) (r := 4) (hr 3 _ rfl) rfl).trans hi
  | 23, _, hi => exact (chunk (q := 3) (m := 6) (r := 5) (hr 3 _ rfl) rfl).trans hi
  | 24, _, hi => exact (chunk (q := 4) (m := 6) (r := 0) (hr 4 _ rfl) rfl).trans hi
  | 25, _, hi => exact (chunk (q := 4) (m := 6) (r := 1) (hr 4 _ rfl) rfl).trans hi
  | 26, _, hi => exact (chunk (q := 4) (m := 6) (r := 2) (hr 4 _ rfl) rfl).trans hi
  | 27, _, hi => exact (chunk (q := 4) (m := 6) (r := 3) (hr 4 _ rfl) rfl).trans hi
  | 28, _, hi => exact (chunk (q := 4) (m := 6) (r := 4) (hr 4 _ rfl) rfl).trans hi
  | 29, _, hi => exact (chunk (q := 4) (m := 6) (r := 5) (hr 4 _ rfl) rfl).trans hi
  | 30, _, hi => exact (chunk (q := 5) (m := 6) (r := 0) (hr 5 _ rfl) rfl).trans hi
  | 31, _, hi => exact (chunk (q := 5) (m := 6) (r := 1) (hr 5 _ rfl) rfl).trans hi
  | 32, _, hi => exact (chunk (q := 5) (m := 6) (r := 2) (hr 5 _ rfl) rfl).trans hi
  | 33, _, hi => exact (chunk (q := 5) (m := 6) (r := 3) (hr 5 _ rfl) rfl).trans hi
  | 34, _, hi => exact (chunk (q := 5) (m := 6) (r := 4) (hr 5 _ rfl) rfl).trans hi
  | 35, _, hi => exact (chunk (q := 5) (m := 6) (r := 5) (hr 5 _ rfl) rfl).trans hi
  | 36, _, hi => exact (chunk (q := 6) (m := 6) (r := 0) (hr 6 _ rfl) rfl).trans hi
  | 37, _, hi => exact (chunk (q := 6) (m := 6) (r := 1) (hr 6 _ rfl) rfl).trans hi
  | 38, _, hi => exact (chunk (q := 6) (m := 6) (r := 2) (hr 6 _ rfl) rfl).trans hi
  | 39, _, hi => exact (chunk (q := 6) (m := 6) (r := 3) (hr 6 _ rfl) rfl).trans hi
  | 40, _, hi => exact (chunk (q := 6) (m := 6) (r := 4) (hr 6 _ rfl) rfl).trans hi
  | 41, _, hi => exact (chunk (q := 6) (m := 6) (r := 5) (hr 6 _ rfl) rfl).trans hi
end Go.Proofs.YtinaecmpigenoaaDoor
/-
  A slice of whole numbers among the arguments: what it shows. No program in sight.
-/
namespace Go.Proofs.YtinaecmpigenoaaDoor
open Go.ChangeShapes Go.WideShapes Go.ChangeAt Go.RowKit

theorem came_ints {H : Type} {enc : TypeId × Value → H} {P : Program} {w : World} {base : Nat} {spare : Nat → Bool} {held : Bool} {t e : TypeId} {d : DataW H} {p : List MemPlace} {k : IntKind} {A : Option Addr} {n c : Nat}
    (ht : P.underlying t = some (.slice e)) (he : P.underlying e = some (.int k)) (hC : P.cellsOf e = 1) (h : DataW.Trod enc P w base spare held t (.slice A n c) d p) :
    ∃ l : List Int, Shows w w.heap.size 1 A n (l.map (.int k)) ∧ (∀ z ∈ l, (Lit.int k z).wf = true) ∧ (A = none → c = 0) ∧ n ≤ c ∧ c ≤ maxLen := by
  obtain ⟨fuel, hf⟩ := h
  rcases open_ints ht he hC hf with ⟨hcs, _⟩ | ⟨x, l, c', zs, hcs, _, hl, hm, hz, _, hcell, hwz⟩
  · simp [Value.cells] at hcs
    obtain ⟨rfl, rfl, rfl⟩ := hcs
    exact ⟨[], Shows.zero _, by simp, fun _ => rfl, Nat.le_refl _, by unfold maxLen; omega⟩
  · simp [Value.cells] at hcs
    obtain ⟨rfl, rfl, rfl⟩ := hcs
    have hz' : n ≤ zs.length := by
      have hz2 : zs.length = if spare x.block = true then c else n := by simpa using hz
      rw [hz2]
      split <;> omega
    refine ⟨zs.take n, ⟨by simp; omega, fun hn0 => ?_⟩, fun z hz => hwz z (List.mem_of_mem_take hz), nofun, hl, hm⟩
    obtain ⟨b, off, spot⟩ := x
    have hc0 := hcell 0 (by omega)
    have hspot : spot = none := by simpa [Addr.add] using World.cell?_spot hc0
    subst hspot
    have hlt : b < w.heap.size := World.block_lt_of_cell? w _ (by simpa [Addr.add] using hc0)
    refine ⟨b, off, rfl, hlt, fun j u hu => ?_⟩
    rw [List.getElem?_map, List.getElem?_take] at hu
    split at hu
    · obtain ⟨z, hz1, rfl⟩ := Option.map_eq_some_iff.1 hu
      have hj : j < zs.length := (List.getElem?_eq_some_iff.1 hz1).1
      have hcj := hcell j hj
      rw [addr_add] at hcj
      rw [hcj, List.getD_eq_getElem?_getD, hz1]
      rfl
    · cases hu
end Go.Proofs.YtinaecmpigenoaaDoor
