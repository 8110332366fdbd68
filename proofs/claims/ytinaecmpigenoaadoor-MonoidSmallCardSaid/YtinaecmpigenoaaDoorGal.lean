import Derived.Test.YtinaecmpigenoaaDoorGak
import Derived.Test.YtinaecmpigenoaaDoorGad
/-
  MonoidSmall: the sum of small numbers is exact, and stats agrees with the other kinds: the walk.
-/
namespace Go.Proofs.YtinaecmpigenoaaDoor
open Go.RowKit
set_option linter.unusedVariables false

theorem ext_leaf (i n : Int) (hn : R64 n) : ∃ k x : Int, extV i n = .agg #[.int .i64 k, .int .i64 x, .string ⟨#[]⟩, .slice none 0 0, .slice none 0 0] ∧ LeafK k x ∧ R64 x := by
  by_cases h : i = 0
  · subst h
    exact ⟨1, 0, extV_none n, .inl ⟨rfl, rfl⟩, by unfold R64; omega⟩
  · exact ⟨3, n, extV_some i n h, .inr rfl, hn⟩
theorem wf_i32 {z : Int} (h : (Lit.int .i32 z).wf = true) : -2147483648 ≤ z ∧ z < 2147483648 := by
  have h' : (decide (IntKind.i32.min ≤ z) && decide (z ≤ IntKind.i32.max)) = true := h
  rw [Bool.and_eq_true, decide_eq_true_iff, decide_eq_true_iff] at h'
  have h1 : -2147483648 ≤ z := h'.1
  have h2 : z ≤ 2147483647 := h'.2
  omega
theorem i32_wrap {z : Int} (h : (Lit.int .i32 z).wf = true) : IntKind.i64.wrap z = z := by
  have := wf_i32 h
  rw [IntKind.wrap_i64]
  omega
theorem sum_small (l : List Int) (hw : ∀ z ∈ l, (Lit.int .i32 z).wf = true) (hl : l.length ≤ 60) : R64 l.sum := by
  have := allR_small l fun n hn => wf_i32 (hw n hn)
  unfold R64
  omega
set_option maxRecDepth 20000 in
set_option maxHeartbeats 8000000 in
theorem msmall_any (A : Option Addr) (n c : Nat) (l : List Int) (w : World) (h : Shows w w.heap.size 1 A n (l.map (.int .i32))) (hwf : ∀ z ∈ l, (Lit.int .i32 z).wf = true) (hn : n ≤ c) (hc : c ≤ maxLen) (htab : UTab w) (hst : STab w) :
    Calls Tryd.prog 4 #[.slice A n c] w fun e w' => e = .returned (.bool true) ∧ Below w.heap.size w w' := by
  obtain ⟨iI, jiI, jzI, jsI, jbI⟩ := item_info
  have HTx := Lib.hid (fun W (h : Below w.heap.size w W) => (⟨htab.below h htab.lt, hst.below h hst.lt⟩ : UTab W ∧ STab W))
  obtain ⟨m, hm⟩ : ∃ m, m = min n 60 := ⟨_, rfl⟩
  have hmi : min (n : Int) 60 = (m : Int) := by omega
  have hmj : (if (60 : Int) < (n : Int) then (60 : Int) else (n : Int)) = (m : Int) := by split <;> omega
  have hm60 : m ≤ 60 := by omega
  have hmn : m ≤ n := by omega
  have hz1 : (0 : Int) ≤ m := by omega
  have hi1 : (m : Int) ≤ n := by omega
  have hj1 : (m : Int) ≤ c := by omega
  have hMx : 100 ≤ maxLen := by decide
  have hsh : Shows w w.heap.size 1 A m ((l.take m).map (.int .i32)) := by
    have := h.first hmn
    rwa [Nat.mul_one, ← List.map_take] at this
  have hwm : ∀ z ∈ l.take m, (Lit.int .i32 z).wf = true := fun z hz => hwf z (List.mem_of_mem_take hz)
  generalize l.take m = L at *
  have hLm : L.length = m := by have := hsh.1; simpa using this
  have Hsh := Lib.hid (fun W (hb : Below w.heap.size w W) => hsh.below hb)
  have Hwm := Lib.hid hwm
  have HL := Lib.hid hLm
  clear hm h hwf htab hst hsh hwm hLm
  go_enter Tryd.func4, Tryd.ntmps4
  go_wp2_with fail
  refine (wakes_any _).mono ?_
  rintro e w1 ⟨rfl, hb1⟩
  go_wp2
  go_loopw [4, 5, 25] (fun r s i wr => ∃ (j : Nat) (Ar : Option Addr) (cr : Nat) (S : Int), j ≤ m ∧ i = .int .i64 j ∧ r = .slice Ar j cr ∧ s = .int .i64 S ∧ Hid (S = (L.take j).sum) ∧ Hid (wr.ownsRow w1.heap.size 27 4 (.slice Ar j cr) j (itsC (L.take j))) ∧ Below w1.heap.size w1 wr) (fun _ _ i _ => m - (intOf i).toNat)
  case atStart => exact ⟨0, none, 0, 0, Nat.zero_le _, rfl, rfl, rfl, Lib.hid rfl, Lib.hid (World.ownsRow_nil _ _ _ _), Below.refl _ _⟩
  case round =>
    obtain ⟨j, Ar, cr, S, hj, rfl, rfl, rfl, HS, HR, hbr⟩ := hrel
    rename World => wr
    by_cases hlt : j < m
    · obtain ⟨b, off, e0, _, hcl⟩ := (Hsh.out wr (bel_next hb1 hbr)).2 (by omega)
      subst e0
      obtain ⟨z, hz⟩ : ∃ z, L[j]? = some z := ⟨_, List.getElem?_eq_getElem (by rw [HL.out]; exact hlt)⟩
      have hcz := hcl j (.int .i32 z) (by rw [List.getElem?_map, hz]; rfl)
      have hq := i32_wrap (Hwm.out z (List.mem_of_getElem? hz))
      have htk : L.take (j + 1) = L.take j ++ [z] := by rw [List.take_add_one, hz]; rfl
      have HE1 := Lib.hid (show itsC (L.take (j + 1)) = itsC (L.take j) ++ [.slice none 0 0, .slice none 0 0, .bool true, .int .i64 z] by rw [htk]; exact its_snoc _ _)
      have hs0 : S + z = (L.take (j + 1)).sum := by rw [htk, List.sum_append, HS.out]; simp
      have hr := sum_small (L.take (j + 1)) (fun x hx => Hwm.out x (List.mem_of_mem_take hx)) (by rw [List.length_take]; omega)
      obtain ⟨S2, hS2⟩ : ∃ S2, S2 = S + z := ⟨_, rfl⟩
      have HS1 := Lib.hid (show S2 = (L.take (j + 1)).sum by rw [hS2, hs0])
      have hsw : IntKind.i64.wrap (S + z) = S2 := by rw [hs0, hS2, hs0]; exact wrap_of hr
      have hsx : wrap64 (S + z) = S2 := by
        rw [hs0, hS2, hs0]
        unfold R64 at hr
        unfold wrap64
        omega
      clear hs0 hr hS2
      have hlt' : (j : Int) < m := by omega
      have hr1 := HR.out.alloc (.cells #[.slice none 0 0, .slice none 0 0, .bool true, .int .i64 z] 27)
      have hs1 := shows_made wr #[.slice none 0 0, .slice none 0 0, .bool true, .int .i64 z] 27 wr.heap.size 1 4 rfl rfl
      have hbs1 : w1.heap.size ≤ (wr.alloc (.cells #[.slice none 0 0, .slice none 0 0, .bool true, .int .i64 z] 27)).heap.size := by rw [World.size_alloc]; have := hbr.size; omega
      clear hcl hz HR htk HS
      go_wp2_with (at_builtin; first
        | (refine wpList_appO rfl _ _ 24 rfl w1.heap.size 27 iI _ 4 64 Tryd.underlying24 jiI jzI jsI jbI rfl (by decide) _ _ _ rfl hr1 _ wr.heap.size 1 1 _ rfl hs1 (its_one z) (by omega) (by omega) hbs1 ?_; intro A5 c5 w5 hr5 hg5 hb5 hor5; have hbr5 := (hbr.alloc hbr.size (.cells #[.slice none 0 0, .slice none 0 0, .bool true, .int .i64 z] 27)).trans hb5; clear hr1 hs1 hbs1 hg5 hb5 hor5))
      go_roundw
      case rel => exact ⟨j + 1, A5, c5, S2, by omega, by go_num, rfl, rfl, HS1, Lib.hid (by rw [HE1.out]; exact hr5), hbr5⟩
      case measure => simp [intOf]; omega
    · obtain rfl : j = m := by omega
      have htk : L.take j = L := List.take_of_length_le (by rw [HL.out]; exact Nat.le_refl _)
      rw [htk] at HR HS
      have b1 : ∀ x ∈ L.map nItem, R64 x.n := fun x hx => by
        obtain ⟨q, hq, rfl⟩ := List.mem_map.1 hx
        have := wf_i32 (Hwm.out q hq)
        show R64 q
        unfold R64
        omega
      have l1 : (L.map nItem).length = j := by simp [HL.out]
      have HR2 := Lib.hid (show wr.ownsRow w1.heap.size 27 4 (.slice Ar j cr) j ((L.map nItem).flatMap ItemT.cells) from HR.out)
      have o1 := allOk _ b1 (by omega)
      have k1 := o1.ok (by omega)
      have va := o1.valid
      obtain ⟨v1, i1, c1, -, -⟩ := allR_small L fun n hn => wf_i32 (Hwm.out n hn)
      have hR64 := sum_small L Hwm.out (by rw [HL.out]; exact hm60)
      have h1 := Lib.hid (fun W (hb : Below wr.heap.size wr W) => all_any Ar j cr W.heap.size _ W (Shows.own (own_later HR2.out hb)) (Nat.le_refl _) b1 hm60)
      rw [← c1] at i1
      generalize allR (L.map nItem) = a at *
      obtain ⟨ac, ai, av, al, am⟩ := a
      simp only at i1 v1
      subst i1
      subst v1
      obtain ⟨kc, -, kv, kl, km⟩ := k1
      have hval : validB ai ai L.sum al am = true := va
      obtain ⟨k1, x1, hx1, hl1, hr1⟩ := ext_leaf ai am km
      obtain ⟨k2, x2, hx2, hl2, hr2⟩ := ext_leaf ai al kl
      have HT1 := Lib.hid (fun W => tell_1 ai ai L.sum al am W kv kl km hval)
      have HT2 := Lib.hid (fun W => tell_sum ai ai L.sum al am W kv kl km hval (wrap_lo _ hR64).symm)
      have HT3 := Lib.hid (fun W => tell_3 ai ai L.sum al am W kv kl km hval)
      have HT4 := Lib.hid (fun W => tell_4 ai ai L.sum al am W kv kl km hval)
      have HT5 := Lib.hid (fun W => tell_5 ai ai L.sum al am W kv kl km hval k1 x1 k2 x2 L.sum hx1 hx2 (wrap_lo _ hR64) rfl)
      rw [hx2] at HT3
      rw [hx1] at HT4
      unfold numV at HT1
      have hSy : S = L.sum := HS.out
      generalize L.sum = y at *
      subst hSy
      have hhi : ∃ u v : Int, hiI S = u ∧ loI S = v := ⟨_, _, rfl, rfl⟩
      obtain ⟨u, v, hu, hv⟩ := hhi
      rw [hu, hv] at h1 HT1 HT2 HT3 HT4 HT5
      have HlS := Lib.hid (fun gk gs W (hk : Shows W W.heap.size 5 (some ⟨gk, 0, none⟩) 5 (statKids ai k1 x1 k2 x2 ai S)) (hs : Shows W W.heap.size 1 (some ⟨gs, 0, none⟩) 5 statKeys) => stat_lie hl1 hl2 hr1 hr2 kc kc hR64 hk hs)
      have HSo := Lib.hid (fun gk gs => stat_ok (gk := gk) (gs := gs) (c := ai) (i := ai) (y := S) hl1 hl2)
      have HSm := Lib.hid (fun k x (hl : LeafK k x) (hx : R64 x) W (hW : Below w.heap.size w W) => (by
        have h := same_any W.heap.size W (scV k x ⟨#[]⟩) (scV k x ⟨#[]⟩) (leaf_lie hl hx _ _) (leaf_lie hl hx _ _) (Nat.le_refl _) (HTx.out _ hW).1 (HTx.out _ hW).2
        rw [leaf_same hl] at h
        exact h : Calls Tryd.prog 9 #[(scV k x ⟨#[]⟩).agg, (scV k x ⟨#[]⟩).agg] W fun e w' => e = .returned (.bool true) ∧ Below W.heap.size W w'))
      simp only [VT.agg, scV] at HSm
      have hS0 := Lib.hid (HSm.out 3 ai (.inr rfl) kc)
      have hS1 := Lib.hid (HSm.out k1 x1 hl1 hr1)
      have hS2 := Lib.hid (HSm.out k2 x2 hl2 hr2)
      have hS4 := Lib.hid (HSm.out 3 S (.inr rfl) hR64)
      have hbw0 := bel_next hb1 hbr
      clear htk b1 l1 HR HR2 o1 c1 kc kv kl km hval hx1 hx2 hl1 hl2 hr1 hr2 HSm hlt Hsh Hwm HL hj HS hR64 va hu hv hb1 hmi hmj hm60 hmn hz1 hi1 hj1 hn hc hMx
      go_wp2_with fail
      refine (h1.out _ (Below.refl _ _)).mono ?_
      rintro e w2 ⟨rfl, hb2⟩
      have s8 := Lib.hid (Six.new w2 (.int .i64 ai) (.int .i64 ai) (.int .i64 u) (.int .u64 v) (.int .i64 al) (.int .i64 am) 30)
      have hx2 := bel_next hbw0 (hb2.alloc hb2.size (.cells #[.int .i64 ai, .int .i64 ai, .int .i64 u, .int .u64 v, .int .i64 al, .int .i64 am] 30))
      clear h1 hb2 hbr hbw0
      obtain ⟨⟨p0, p1, p2, p3, p4, p5⟩, -⟩ := s8.out
      have ht5 := HT5.out (w2.alloc (.cells #[.int .i64 ai, .int .i64 ai, .int .i64 u, .int .u64 v, .int .i64 al, .int .i64 am] 30))
      clear HT5
      go_wp2_with fail
      refine ht5.mono ?_
      rintro e w3 ⟨gk, gs, rfl, hk3, hs3, hb3⟩
      have hx3 := bel_next hx2 hb3
      have s8b := Lib.hid ((s8.out.below hb3 rfl).alloc (.cells #[.int .i64 6, .int .i64 0, .string ⟨#[]⟩, .slice (some ⟨gk, 0, none⟩) 5 5, .slice (some ⟨gs, 0, none⟩) 5 5] 39))
      have s10 := Lib.hid (VFive.new w3 (.int .i64 6) (.int .i64 0) (.string ⟨#[]⟩) (.slice (some ⟨gk, 0, none⟩) 5 5) (.slice (some ⟨gs, 0, none⟩) 5 5) 39 w3.heap.size rfl)
      have hx4 := bel_alloc hx3 (.cells #[.int .i64 6, .int .i64 0, .string ⟨#[]⟩, .slice (some ⟨gk, 0, none⟩) 5 5, .slice (some ⟨gs, 0, none⟩) 5 5] 39)
      have hk4 := Lib.hid ((hk3.alloc (Nat.le_refl _) (.cells #[.int .i64 6, .int .i64 0, .string ⟨#[]⟩, .slice (some ⟨gk, 0, none⟩) 5 5, .slice (some ⟨gs, 0, none⟩) 5 5] 39)).more (show w3.heap.size ≤ (w3.alloc (.cells #[.int .i64 6, .int .i64 0, .string ⟨#[]⟩, .slice (some ⟨gk, 0, none⟩) 5 5, .slice (some ⟨gs, 0, none⟩) 5 5] 39)).heap.size by simp))
      have hs4 := Lib.hid ((hs3.alloc (Nat.le_refl _) (.cells #[.int .i64 6, .int .i64 0, .string ⟨#[]⟩, .slice (some ⟨gk, 0, none⟩) 5 5, .slice (some ⟨gs, 0, none⟩) 5 5] 39)).more (show w3.heap.size ≤ (w3.alloc (.cells #[.int .i64 6, .int .i64 0, .string ⟨#[]⟩, .slice (some ⟨gk, 0, none⟩) 5 5, .slice (some ⟨gs, 0, none⟩) 5 5] 39)).heap.size by simp))
      clear ht5 hb3 hx2 hx3 s8 hk3 hs3 p0 p1 p2 p3 p4 p5
      obtain ⟨⟨q0, q1, q2, q3, q4⟩, -⟩ := s10.out
      go_upto_region 16 with fail
      generalize (w3.alloc (.cells #[.int .i64 6, .int .i64 0, .string ⟨#[]⟩, .slice (some ⟨gk, 0, none⟩) 5 5, .slice (some ⟨gs, 0, none⟩) 5 5] 39)) = w4 at *
      generalize w3.heap.size = g10 at *
      generalize w2.heap.size = g8 at *
      have hbn : Below w4.heap.size w4 (w4.alloc (.cells #[.int .i64 1, .int .i64 4, .int .i64 3, .int .i64 1, .int .i64 2] 3)) := (Below.refl _ _).alloc (Nat.le_refl _) _
      have lc0 : ∀ W, Below (w4.alloc (.cells #[.int .i64 1, .int .i64 4, .int .i64 3, .int .i64 1, .int .i64 2] 3)).heap.size (w4.alloc (.cells #[.int .i64 1, .int .i64 4, .int .i64 3, .int .i64 1, .int .i64 2] 3)) W → W.cell? ⟨w4.heap.size, 0, none⟩ = some (.int .i64 1) := fun W h => mkept_later h (show (w4.alloc (.cells #[.int .i64 1, .int .i64 4, .int .i64 3, .int .i64 1, .int .i64 2] 3)).cell? ⟨w4.heap.size, 0, none⟩ = some (.int .i64 1) from by simp [go_sem])
      have lc1 : ∀ W, Below (w4.alloc (.cells #[.int .i64 1, .int .i64 4, .int .i64 3, .int .i64 1, .int .i64 2] 3)).heap.size (w4.alloc (.cells #[.int .i64 1, .int .i64 4, .int .i64 3, .int .i64 1, .int .i64 2] 3)) W → W.cell? ⟨w4.heap.size, 1, none⟩ = some (.int .i64 4) := fun W h => mkept_later h (show (w4.alloc (.cells #[.int .i64 1, .int .i64 4, .int .i64 3, .int .i64 1, .int .i64 2] 3)).cell? ⟨w4.heap.size, 1, none⟩ = some (.int .i64 4) from by simp [go_sem])
      have lc2 : ∀ W, Below (w4.alloc (.cells #[.int .i64 1, .int .i64 4, .int .i64 3, .int .i64 1, .int .i64 2] 3)).heap.size (w4.alloc (.cells #[.int .i64 1, .int .i64 4, .int .i64 3, .int .i64 1, .int .i64 2] 3)) W → W.cell? ⟨w4.heap.size, 2, none⟩ = some (.int .i64 3) := fun W h => mkept_later h (show (w4.alloc (.cells #[.int .i64 1, .int .i64 4, .int .i64 3, .int .i64 1, .int .i64 2] 3)).cell? ⟨w4.heap.size, 2, none⟩ = some (.int .i64 3) from by simp [go_sem])
      have lc3 : ∀ W, Below (w4.alloc (.cells #[.int .i64 1, .int .i64 4, .int .i64 3, .int .i64 1, .int .i64 2] 3)).heap.size (w4.alloc (.cells #[.int .i64 1, .int .i64 4, .int .i64 3, .int .i64 1, .int .i64 2] 3)) W → W.cell? ⟨w4.heap.size, 3, none⟩ = some (.int .i64 1) := fun W h => mkept_later h (show (w4.alloc (.cells #[.int .i64 1, .int .i64 4, .int .i64 3, .int .i64 1, .int .i64 2] 3)).cell? ⟨w4.heap.size, 3, none⟩ = some (.int .i64 1) from by simp [go_sem])
      have lc4 : ∀ W, Below (w4.alloc (.cells #[.int .i64 1, .int .i64 4, .int .i64 3, .int .i64 1, .int .i64 2] 3)).heap.size (w4.alloc (.cells #[.int .i64 1, .int .i64 4, .int .i64 3, .int .i64 1, .int .i64 2] 3)) W → W.cell? ⟨w4.heap.size, 4, none⟩ = some (.int .i64 2) := fun W h => mkept_later h (show (w4.alloc (.cells #[.int .i64 1, .int .i64 4, .int .i64 3, .int .i64 1, .int .i64 2] 3)).cell? ⟨w4.heap.size, 4, none⟩ = some (.int .i64 2) from by simp [go_sem])
      go_wp2
      generalize (w4.alloc (.cells #[.int .i64 1, .int .i64 4, .int .i64 3, .int .i64 1, .int .i64 2] 3)) = w5 at *
      have la0 : ∀ W, Below w5.heap.size w5 W → W.cell? ⟨g8, 0, none⟩ = some (.int .i64 ai) := fun W h => (s8b.out.below (bel_next hbn h) rfl).1.1
      have la1 : ∀ W, Below w5.heap.size w5 W → W.cell? ⟨g8, 1, none⟩ = some (.int .i64 ai) := fun W h => (s8b.out.below (bel_next hbn h) rfl).1.2.1
      have la2 : ∀ W, Below w5.heap.size w5 W → W.cell? ⟨g8, 2, none⟩ = some (.int .i64 u) := fun W h => (s8b.out.below (bel_next hbn h) rfl).1.2.2.1
      have la3 : ∀ W, Below w5.heap.size w5 W → W.cell? ⟨g8, 3, none⟩ = some (.int .u64 v) := fun W h => (s8b.out.below (bel_next hbn h) rfl).1.2.2.2.1
      have la4 : ∀ W, Below w5.heap.size w5 W → W.cell? ⟨g8, 4, none⟩ = some (.int .i64 al) := fun W h => (s8b.out.below (bel_next hbn h) rfl).1.2.2.2.2.1
      have la5 : ∀ W, Below w5.heap.size w5 W → W.cell? ⟨g8, 5, none⟩ = some (.int .i64 am) := fun W h => (s8b.out.below (bel_next hbn h) rfl).1.2.2.2.2.2
      have ls0 : ∀ W, Below w5.heap.size w5 W → W.cell? ⟨g10, 0, none⟩ = some (.int .i64 6) := fun W h => (s10.out.later (bel_next hbn h)).1.1
      have ls1 : ∀ W, Below w5.heap.size w5 W → W.cell? ⟨g10, 1, none⟩ = some (.int .i64 0) := fun W h => (s10.out.later (bel_next hbn h)).1.2.1
      have ls2 : ∀ W, Below w5.heap.size w5 W → W.cell? ⟨g10, 2, none⟩ = some (.string ⟨#[]⟩) := fun W h => (s10.out.later (bel_next hbn h)).1.2.2.1
      have ls3 : ∀ W, Below w5.heap.size w5 W → W.cell? ⟨g10, 3, none⟩ = some (.slice (some ⟨gk, 0, none⟩) 5 5) := fun W h => (s10.out.later (bel_next hbn h)).1.2.2.2.1
      have ls4 : ∀ W, Below w5.heap.size w5 W → W.cell? ⟨g10, 4, none⟩ = some (.slice (some ⟨gs, 0, none⟩) 5 5) := fun W h => (s10.out.later (bel_next hbn h)).1.2.2.2.2
      have Hk := Lib.hid (fun W (h : Below w5.heap.size w5 W) => ((hk4.out.below (bel_next hbn h)).more (bel_next hbn h).size))
      have Hs := Lib.hid (fun W (h : Below w5.heap.size w5 W) => ((hs4.out.below (bel_next hbn h)).more (bel_next hbn h).size))
      have hx5 := bel_next hx4 hbn
      generalize w4.heap.size = g4 at *
      clear hbn hx4 s8b s10 hk4 hs4 q0 q1 q2 q3 q4 jiI jzI jsI jbI
      go_loopw [64] (fun i wr => ∃ q : Nat, q ≤ 5 ∧ i = .int .i64 q ∧ Below w5.heap.size w5 wr) (fun i _ => 5 - (intOf i).toNat)
      case atStart => exact ⟨0, Nat.zero_le _, rfl, Below.refl _ _⟩
      case round =>
        obtain ⟨q, hq, rfl, hbq⟩ := hrel
        rename World => wq
        obtain rfl | rfl | rfl | rfl | rfl | rfl : q = 0 ∨ q = 1 ∨ q = 2 ∨ q = 3 ∨ q = 4 ∨ q = 5 := by omega
        · have lc := lc0 wq hbq
          have p0 := la0 wq hbq
          have p1 := la1 wq hbq
          have p2 := la2 wq hbq
          have p3 := la3 wq hbq
          have p4 := la4 wq hbq
          have p5 := la5 wq hbq
          have ht := HT1.out wq
          clear HT1 HT2 HT3 HT4 hq
          go_wp2_with fail
          refine ht.mono ?_
          rintro e w6 ⟨rfl, hb6⟩
          have hx7 := bel_alloc (bel_next hbq hb6) (.cells #[.int .i64 3, .int .i64 ai, .string ⟨#[]⟩, .slice none 0 0, .slice none 0 0] 39)
          have sv := Lib.hid (VFive.new w6 (.int .i64 3) (.int .i64 ai) (.string ⟨#[]⟩) (.slice none 0 0) (.slice none 0 0) 39 w6.heap.size rfl)
          clear ht hb6 hbq p0 p1 p2 p3 p4 p5 lc
          go_upto_region 20 with fail
          generalize (w6.alloc (.cells #[.int .i64 3, .int .i64 ai, .string ⟨#[]⟩, .slice none 0 0, .slice none 0 0] 39)) = w7 at *
          generalize w6.heap.size = g14 at *
          have l3 : ∀ W, Below w7.heap.size w7 W → W.cell? ⟨g10, 3, none⟩ = some (.slice (some ⟨gk, 0, none⟩) 5 5) := fun W h => ls3 W (bel_next hx7 h)
          have lv0 : ∀ W, Below w7.heap.size w7 W → W.cell? ⟨g14, 0, none⟩ = some (.int .i64 3) := fun W h => (sv.out.later h).1.1
          have lv1 : ∀ W, Below w7.heap.size w7 W → W.cell? ⟨g14, 1, none⟩ = some (.int .i64 ai) := fun W h => (sv.out.later h).1.2.1
          have lv2 : ∀ W, Below w7.heap.size w7 W → W.cell? ⟨g14, 2, none⟩ = some (.string ⟨#[]⟩) := fun W h => (sv.out.later h).1.2.2.1
          have lv3 : ∀ W, Below w7.heap.size w7 W → W.cell? ⟨g14, 3, none⟩ = some (.slice none 0 0) := fun W h => (sv.out.later h).1.2.2.2.1
          have lv4 : ∀ W, Below w7.heap.size w7 W → W.cell? ⟨g14, 4, none⟩ = some (.slice none 0 0) := fun W h => (sv.out.later h).1.2.2.2.2
          have lk0 : ∀ W, Below w7.heap.size w7 W → W.cell? ⟨gk, 0, none⟩ = some (.int .i64 3) := fun W h => by
            obtain ⟨b', off', e0, _, hcl⟩ := (Hk.out W (bel_next hx7 h)).2 (by decide)
            injection e0 with e0
            injection e0 with e1 e2
            subst e1
            subst e2
            have := hcl 0 _ rfl
            simpa only [Nat.zero_add] using this
          have lk1 : ∀ W, Below w7.heap.size w7 W → W.cell? ⟨gk, 1, none⟩ = some (.int .i64 ai) := fun W h => by
            obtain ⟨b', off', e0, _, hcl⟩ := (Hk.out W (bel_next hx7 h)).2 (by decide)
            injection e0 with e0
            injection e0 with e1 e2
            subst e1
            subst e2
            have := hcl 1 _ rfl
            simpa only [Nat.zero_add] using this
          have lk2 : ∀ W, Below w7.heap.size w7 W → W.cell? ⟨gk, 2, none⟩ = some (.string ⟨#[]⟩) := fun W h => by
            obtain ⟨b', off', e0, _, hcl⟩ := (Hk.out W (bel_next hx7 h)).2 (by decide)
            injection e0 with e0
            injection e0 with e1 e2
            subst e1
            subst e2
            have := hcl 2 _ rfl
            simpa only [Nat.zero_add] using this
          have lk3 : ∀ W, Below w7.heap.size w7 W → W.cell? ⟨gk, 3, none⟩ = some (.slice none 0 0) := fun W h => by
            obtain ⟨b', off', e0, _, hcl⟩ := (Hk.out W (bel_next hx7 h)).2 (by decide)
            injection e0 with e0
            injection e0 with e1 e2
            subst e1
            subst e2
            have := hcl 3 _ rfl
            simpa only [Nat.zero_add] using this
          have lk4 : ∀ W, Below w7.heap.size w7 W → W.cell? ⟨gk, 4, none⟩ = some (.slice none 0 0) := fun W h => by
            obtain ⟨b', off', e0, _, hcl⟩ := (Hk.out W (bel_next hx7 h)).2 (by decide)
            injection e0 with e0
            injection e0 with e1 e2
            subst e1
            subst e2
            have := hcl 4 _ rfl
            simpa only [Nat.zero_add] using this
          have hsm := Lib.hid (fun W (h : Below w7.heap.size w7 W) => hS0.out W (bel_next hx5 (bel_next hx7 h)))
          have Hx7 := Lib.hid hx7
          clear hx7 sv la0 la1 la2 la3 la4 la5 ls0 ls1 ls2 ls3 ls4 lc0 lc1 lc2 lc3 lc4 hS0 hS1 hS2 hS4 HlS HSo Hk Hs
          refine wp_region_held_drew (S := fun W => Below w7.heap.size w7 W) (by kernel_rfl) (below_drewN (Below.refl _ _) 1) (fun hHeld => ?_)
          refine rg_in 0 rfl (by kernel_rfl) (by kernel_rfl) (by kernel_rfl) (by rfl) (v := ?_) (fun _ _ _ h => h) hHeld (fun w hSw => ?_) ?_
          rotate_left
          · (try dsimp only at hSw); go_simp <;> (with_reducible rfl)
          (try simp only [Act.put, List.setIfInBounds_toArray, List.set_cons_zero, List.set_cons_succ])
          refine rg_in 1 rfl (by kernel_rfl) (by kernel_rfl) (by kernel_rfl) (by rfl) (v := ?_) (fun _ _ _ h => h) hHeld (fun w hSw => ?_) ?_
          rotate_left
          · (try dsimp only at hSw); go_simp <;> (with_reducible rfl)
          (try simp only [Act.put, List.setIfInBounds_toArray, List.set_cons_zero, List.set_cons_succ])
          refine rg_in 2 rfl (by kernel_rfl) (by kernel_rfl) (by kernel_rfl) (by rfl) (v := ?_) (fun _ _ _ h => h) hHeld (fun w hSw => ?_) ?_
          rotate_left
          · (try dsimp only at hSw); go_simp <;> (with_reducible rfl)
          (try simp only [Act.put, List.setIfInBounds_toArray, List.set_cons_zero, List.set_cons_succ])
          refine rg_in 3 rfl (by kernel_rfl) (by kernel_rfl) (by kernel_rfl) (by rfl) (v := ?_) (fun _ _ _ h => h) hHeld (fun w hSw => ?_) ?_
          rotate_left
          · (try dsimp only at hSw); go_simp <;> (with_reducible rfl)
          (try simp only [Act.put, List.setIfInBounds_toArray, List.set_cons_zero, List.set_cons_succ])
          refine rg_in 4 rfl (by kernel_rfl) (by kernel_rfl) (by kernel_rfl) (by rfl) (v := ?_) (fun _ _ _ h => h) hHeld (fun w hSw => ?_) ?_
          rotate_left
          · (try dsimp only at hSw); go_simp <;> (with_reducible rfl)
          (try simp only [Act.put, List.setIfInBounds_toArray, List.set_cons_zero, List.set_cons_succ])
          refine rg_in 5 rfl (by kernel_rfl) (by kernel_rfl) (by kernel_rfl) (by rfl) (v := ?_) (fun _ _ _ h => h) hHeld (fun w hSw => ?_) ?_
          rotate_left
          · (try dsimp only at hSw); go_simp <;> (with_reducible rfl)
          (try simp only [Act.put, List.setIfInBounds_toArray, List.set_cons_zero, List.set_cons_succ])
          refine rg_in 6 rfl (by kernel_rfl) (by kernel_rfl) (by kernel_rfl) (by rfl) (v := ?_) (fun _ _ _ h => h) hHeld (fun w hSw => ?_) ?_
          rotate_left
          · (try dsimp only at hSw); go_simp <;> (with_reducible rfl)
          (try simp only [Act.put, List.setIfInBounds_toArray, List.set_cons_zero, List.set_cons_succ])
          refine rg_in 7 rfl (by kernel_rfl) (by kernel_rfl) (by kernel_rfl) (by rfl) (v := ?_) (fun _ _ _ h => h) hHeld (fun w hSw => ?_) ?_
          rotate_left
          · (try dsimp only at hSw); go_simp <;> (with_reducible rfl)
          (try simp only [Act.put, List.setIfInBounds_toArray, List.set_cons_zero, List.set_cons_succ])
          refine rg_in 8 rfl (by kernel_rfl) (by kernel_rfl) (by kernel_rfl) (by rfl) (v := ?_) (fun _ _ _ h => h) hHeld (fun w hSw => ?_) ?_
          rotate_left
          · (try dsimp only at hSw); go_simp <;> (with_reducible rfl)
          (try simp only [Act.put, List.setIfInBounds_toArray, List.set_cons_zero, List.set_cons_succ])
          refine rg_do 9 rfl (by kernel_rfl) (by rfl) (fun K hK => ?_)
          go_simp
          (go_at_call 9; (with_reducible refine (hsm.out _ hHeld).mono ?_); (rintro e w109 ⟨rfl, hb9⟩))
          refine hK.out _ _ (mS_call hb9 hHeld rfl) (fun hHeld => ?_)
          clear hK K
          (try simp only [Act.put, List.setIfInBounds_toArray, List.set_cons_zero, List.set_cons_succ])
          refine rg_in 10 rfl (by kernel_rfl) (by kernel_rfl) (by kernel_rfl) (by rfl) (v := ?_) (fun _ _ _ h => h) hHeld (fun w hSw => ?_) ?_
          rotate_left
          · (try dsimp only at hSw); go_simp <;> (with_reducible rfl)
          (try simp only [Act.put, List.setIfInBounds_toArray, List.set_cons_zero, List.set_cons_succ])
          refine rg_in 11 rfl (by kernel_rfl) (by kernel_rfl) (by kernel_rfl) (by rfl) (v := ?_) (fun _ _ _ h => h) hHeld (fun w hSw => ?_) ?_
          rotate_left
          · (try dsimp only at hSw); go_simp <;> (with_reducible rfl)
          (try simp only [Act.put, List.setIfInBounds_toArray, List.set_cons_zero, List.set_cons_succ])
          refine wpAnyH_done (by kernel_rfl) ?_ _
          have hbe := bel_next Hx7.out hHeld
          clear l3 lv0 lv1 lv2 lv3 lv4 lk0 lk1 lk2 lk3 lk4
          go_wp2
          go_roundw
          case rel => exact ⟨1, by omega, by first | rfl | go_num, hbe⟩
          case measure => simp [intOf]
        · have lc := lc1 wq hbq
          have p0 := la0 wq hbq
          have p1 := la1 wq hbq
          have p2 := la2 wq hbq
          have p3 := la3 wq hbq
          have p4 := la4 wq hbq
          have p5 := la5 wq hbq
          have ht := HT4.out wq
          clear HT1 HT2 HT3 HT4 hq
          go_wp2_with fail
          refine ht.mono ?_
          rintro e w6 ⟨rfl, hb6⟩
          have hx7 := bel_alloc (bel_next hbq hb6) (.cells #[.int .i64 k1, .int .i64 x1, .string ⟨#[]⟩, .slice none 0 0, .slice none 0 0] 39)
          have sv := Lib.hid (VFive.new w6 (.int .i64 k1) (.int .i64 x1) (.string ⟨#[]⟩) (.slice none 0 0) (.slice none 0 0) 39 w6.heap.size rfl)
          clear ht hb6 hbq p0 p1 p2 p3 p4 p5 lc
          go_upto_region 20 with fail
          generalize (w6.alloc (.cells #[.int .i64 k1, .int .i64 x1, .string ⟨#[]⟩, .slice none 0 0, .slice none 0 0] 39)) = w7 at *
          generalize w6.heap.size = g14 at *
          have l3 : ∀ W, Below w7.heap.size w7 W → W.cell? ⟨g10, 3, none⟩ = some (.slice (some ⟨gk, 0, none⟩) 5 5) := fun W h => ls3 W (bel_next hx7 h)
          have lv0 : ∀ W, Below w7.heap.size w7 W → W.cell? ⟨g14, 0, none⟩ = some (.int .i64 k1) := fun W h => (sv.out.later h).1.1
          have lv1 : ∀ W, Below w7.heap.size w7 W → W.cell? ⟨g14, 1, none⟩ = some (.int .i64 x1) := fun W h => (sv.out.later h).1.2.1
          have lv2 : ∀ W, Below w7.heap.size w7 W → W.cell? ⟨g14, 2, none⟩ = some (.string ⟨#[]⟩) := fun W h => (sv.out.later h).1.2.2.1
          have lv3 : ∀ W, Below w7.heap.size w7 W → W.cell? ⟨g14, 3, none⟩ = some (.slice none 0 0) := fun W h => (sv.out.later h).1.2.2.2.1
          have lv4 : ∀ W, Below w7.heap.size w7 W → W.cell? ⟨g14, 4, none⟩ = some (.slice none 0 0) := fun W h => (sv.out.later h).1.2.2.2.2
          have lk0 : ∀ W, Below w7.heap.size w7 W → W.cell? ⟨gk, 5, none⟩ = some (.int .i64 k1) := fun W h => by
            obtain ⟨b', off', e0, _, hcl⟩ := (Hk.out W (bel_next hx7 h)).2 (by decide)
            injection e0 with e0
            injection e0 with e1 e2
            subst e1
            subst e2
            have := hcl 5 _ rfl
            simpa only [Nat.zero_add] using this
          have lk1 : ∀ W, Below w7.heap.size w7 W → W.cell? ⟨gk, 6, none⟩ = some (.int .i64 x1) := fun W h => by
            obtain ⟨b', off', e0, _, hcl⟩ := (Hk.out W (bel_next hx7 h)).2 (by decide)
            injection e0 with e0
            injection e0 with e1 e2
            subst e1
            subst e2
            have := hcl 6 _ rfl
            simpa only [Nat.zero_add] using this
          have lk2 : ∀ W, Below w7.heap.size w7 W → W.cell? ⟨gk, 7, none⟩ = some (.string ⟨#[]⟩) := fun W h => by
            obtain ⟨b', off', e0, _, hcl⟩ := (Hk.out W (bel_next hx7 h)).2 (by decide)
            injection e0 with e0
            injection e0 with e1 e2
            subst e1
            subst e2
            have := hcl 7 _ rfl
            simpa only [Nat.zero_add] using this
          have lk3 : ∀ W, Below w7.heap.size w7 W → W.cell? ⟨gk, 8, none⟩ = some (.slice none 0 0) := fun W h => by
            obtain ⟨b', off', e0, _, hcl⟩ := (Hk.out W (bel_next hx7 h)).2 (by decide)
            injection e0 with e0
            injection e0 with e1 e2
            subst e1
            subst e2
            have := hcl 8 _ rfl
            simpa only [Nat.zero_add] using this
          have lk4 : ∀ W, Below w7.heap.size w7 W → W.cell? ⟨gk, 9, none⟩ = some (.slice none 0 0) := fun W h => by
            obtain ⟨b', off', e0, _, hcl⟩ := (Hk.out W (bel_next hx7 h)).2 (by decide)
            injection e0 with e0
            injection e0 with e1 e2
            subst e1
            subst e2
            have := hcl 9 _ rfl
            simpa only [Nat.zero_add] using this
          have hsm := Lib.hid (fun W (h : Below w7.heap.size w7 W) => hS1.out W (bel_next hx5 (bel_next hx7 h)))
          have Hx7 := Lib.hid hx7
          clear hx7 sv la0 la1 la2 la3 la4 la5 ls0 ls1 ls2 ls3 ls4 lc0 lc1 lc2 lc3 lc4 hS0 hS1 hS2 hS4 HlS HSo Hk Hs
          refine wp_region_held_drew (S := fun W => Below w7.heap.size w7 W) (by kernel_rfl) (below_drewN (Below.refl _ _) 1) (fun hHeld => ?_)
          refine rg_in 0 rfl (by kernel_rfl) (by kernel_rfl) (by kernel_rfl) (by rfl) (v := ?_) (fun _ _ _ h => h) hHeld (fun w hSw => ?_) ?_
          rotate_left
          · (try dsimp only at hSw); go_simp <;> (with_reducible rfl)
          (try simp only [Act.put, List.setIfInBounds_toArray, List.set_cons_zero, List.set_cons_succ])
          refine rg_in 1 rfl (by kernel_rfl) (by kernel_rfl) (by kernel_rfl) (by rfl) (v := ?_) (fun _ _ _ h => h) hHeld (fun w hSw => ?_) ?_
          rotate_left
          · (try dsimp only at hSw); go_simp <;> (with_reducible rfl)
          (try simp only [Act.put, List.setIfInBounds_toArray, List.set_cons_zero, List.set_cons_succ])
          refine rg_in 2 rfl (by kernel_rfl) (by kernel_rfl) (by kernel_rfl) (by rfl) (v := ?_) (fun _ _ _ h => h) hHeld (fun w hSw => ?_) ?_
          rotate_left
          · (try dsimp only at hSw); go_simp <;> (with_reducible rfl)
          (try simp only [Act.put, List.setIfInBounds_toArray, List.set_cons_zero, List.set_cons_succ])
          refine rg_in 3 rfl (by kernel_rfl) (by kernel_rfl) (by kernel_rfl) (by rfl) (v := ?_) (fun _ _ _ h => h) hHeld (fun w hSw => ?_) ?_
          rotate_left
          · (try dsimp only at hSw); go_simp <;> (with_reducible rfl)
          (try simp only [Act.put, List.setIfInBounds_toArray, List.set_cons_zero, List.set_cons_succ])
          refine rg_in 4 rfl (by kernel_rfl) (by kernel_rfl) (by kernel_rfl) (by rfl) (v := ?_) (fun _ _ _ h => h) hHeld (fun w hSw => ?_) ?_
          rotate_left
          · (try dsimp only at hSw); go_simp <;> (with_reducible rfl)
          (try simp only [Act.put, List.setIfInBounds_toArray, List.set_cons_zero, List.set_cons_succ])
          refine rg_in 5 rfl (by kernel_rfl) (by kernel_rfl) (by kernel_rfl) (by rfl) (v := ?_) (fun _ _ _ h => h) hHeld (fun w hSw => ?_) ?_
          rotate_left
          · (try dsimp only at hSw); go_simp <;> (with_reducible rfl)
          (try simp only [Act.put, List.setIfInBounds_toArray, List.set_cons_zero, List.set_cons_succ])
          refine rg_in 6 rfl (by kernel_rfl) (by kernel_rfl) (by kernel_rfl) (by rfl) (v := ?_) (fun _ _ _ h => h) hHeld (fun w hSw => ?_) ?_
          rotate_left
          · (try dsimp only at hSw); go_simp <;> (with_reducible rfl)
          (try simp only [Act.put, List.setIfInBounds_toArray, List.set_cons_zero, List.set_cons_succ])
          refine rg_in 7 rfl (by kernel_rfl) (by kernel_rfl) (by kernel_rfl) (by rfl) (v := ?_) (fun _ _ _ h => h) hHeld (fun w hSw => ?_) ?_
          rotate_left
          · (try dsimp only at hSw); go_simp <;> (with_reducible rfl)
          (try simp only [Act.put, List.setIfInBounds_toArray, List.set_cons_zero, List.set_cons_succ])
          refine rg_in 8 rfl (by kernel_rfl) (by kernel_rfl) (by kernel_rfl) (by rfl) (v := ?_) (fun _ _ _ h => h) hHeld (fun w hSw => ?_) ?_
          rotate_left
          · (try dsimp only at hSw); go_simp <;> (with_reducible rfl)
          (try simp only [Act.put, List.setIfInBounds_toArray, List.set_cons_zero, List.set_cons_succ])
          refine rg_do 9 rfl (by kernel_rfl) (by rfl) (fun K hK => ?_)
          go_simp
          (go_at_call 9; (with_reducible refine (hsm.out _ hHeld).mono ?_); (rintro e w109 ⟨rfl, hb9⟩))
          refine hK.out _ _ (mS_call hb9 hHeld rfl) (fun hHeld => ?_)
          clear hK K
          (try simp only [Act.put, List.setIfInBounds_toArray, List.set_cons_zero, List.set_cons_succ])
          refine rg_in 10 rfl (by kernel_rfl) (by kernel_rfl) (by kernel_rfl) (by rfl) (v := ?_) (fun _ _ _ h => h) hHeld (fun w hSw => ?_) ?_
          rotate_left
          · (try dsimp only at hSw); go_simp <;> (with_reducible rfl)
          (try simp only [Act.put, List.setIfInBounds_toArray, List.set_cons_zero, List.set_cons_succ])
          refine rg_in 11 rfl (by kernel_rfl) (by kernel_rfl) (by kernel_rfl) (by rfl) (v := ?_) (fun _ _ _ h => h) hHeld (fun w hSw => ?_) ?_
          rotate_left
          · (try dsimp only at hSw); go_simp <;> (with_reducible rfl)
          (try simp only [Act.put, List.setIfInBounds_toArray, List.set_cons_zero, List.set_cons_succ])
          refine wpAnyH_done (by kernel_rfl) ?_ _
          have hbe := bel_next Hx7.out hHeld
          clear l3 lv0 lv1 lv2 lv3 lv4 lk0 lk1 lk2 lk3 lk4
          go_wp2
          go_roundw
          case rel => exact ⟨2, by omega, by first | rfl | go_num, hbe⟩
          case measure => simp [intOf]
        · have lc := lc2 wq hbq
          have p0 := la0 wq hbq
          have p1 := la1 wq hbq
          have p2 := la2 wq hbq
          have p3 := la3 wq hbq
          have p4 := la4 wq hbq
          have p5 := la5 wq hbq
          have ht := HT3.out wq
          clear HT1 HT2 HT3 HT4 hq
          go_wp2_with fail
          refine ht.mono ?_
          rintro e w6 ⟨rfl, hb6⟩
          have hx7 := bel_alloc (bel_next hbq hb6) (.cells #[.int .i64 k2, .int .i64 x2, .string ⟨#[]⟩, .slice none 0 0, .slice none 0 0] 39)
          have sv := Lib.hid (VFive.new w6 (.int .i64 k2) (.int .i64 x2) (.string ⟨#[]⟩) (.slice none 0 0) (.slice none 0 0) 39 w6.heap.size rfl)
          clear ht hb6 hbq p0 p1 p2 p3 p4 p5 lc
          go_upto_region 20 with fail
          generalize (w6.alloc (.cells #[.int .i64 k2, .int .i64 x2, .string ⟨#[]⟩, .slice none 0 0, .slice none 0 0] 39)) = w7 at *
          generalize w6.heap.size = g14 at *
          have l3 : ∀ W, Below w7.heap.size w7 W → W.cell? ⟨g10, 3, none⟩ = some (.slice (some ⟨gk, 0, none⟩) 5 5) := fun W h => ls3 W (bel_next hx7 h)
          have lv0 : ∀ W, Below w7.heap.size w7 W → W.cell? ⟨g14, 0, none⟩ = some (.int .i64 k2) := fun W h => (sv.out.later h).1.1
          have lv1 : ∀ W, Below w7.heap.size w7 W → W.cell? ⟨g14, 1, none⟩ = some (.int .i64 x2) := fun W h => (sv.out.later h).1.2.1
          have lv2 : ∀ W, Below w7.heap.size w7 W → W.cell? ⟨g14, 2, none⟩ = some (.string ⟨#[]⟩) := fun W h => (sv.out.later h).1.2.2.1
          have lv3 : ∀ W, Below w7.heap.size w7 W → W.cell? ⟨g14, 3, none⟩ = some (.slice none 0 0) := fun W h => (sv.out.later h).1.2.2.2.1
          have lv4 : ∀ W, Below w7.heap.size w7 W → W.cell? ⟨g14, 4, none⟩ = some (.slice none 0 0) := fun W h => (sv.out.later h).1.2.2.2.2
          have lk0 : ∀ W, Below w7.heap.size w7 W → W.cell? ⟨gk, 10, none⟩ = some (.int .i64 k2) := fun W h => by
            obtain ⟨b', off', e0, _, hcl⟩ := (Hk.out W (bel_next hx7 h)).2 (by decide)
            injection e0 with e0
            injection e0 with e1 e2
            subst e1
            subst e2
            have := hcl 10 _ rfl
            simpa only [Nat.zero_add] using this
          have lk1 : ∀ W, Below w7.heap.size w7 W → W.cell? ⟨gk, 11, none⟩ = some (.int .i64 x2) := fun W h => by
            obtain ⟨b', off', e0, _, hcl⟩ := (Hk.out W (bel_next hx7 h)).2 (by decide)
            injection e0 with e0
            injection e0 with e1 e2
            subst e1
            subst e2
            have := hcl 11 _ rfl
            simpa only [Nat.zero_add] using this
          have lk2 : ∀ W, Below w7.heap.size w7 W → W.cell? ⟨gk, 12, none⟩ = some (.string ⟨#[]⟩) := fun W h => by
            obtain ⟨b', off', e0, _, hcl⟩ := (Hk.out W (bel_next hx7 h)).2 (by decide)
            injection e0 with e0
            injection e0 with e1 e2
            subst e1
            subst e2
            have := hcl 12 _ rfl
            simpa only [Nat.zero_add] using this
          have lk3 : ∀ W, Below w7.heap.size w7 W → W.cell? ⟨gk, 13, none⟩ = some (.slice none 0 0) := fun W h => by
            obtain ⟨b', off', e0, _, hcl⟩ := (Hk.out W (bel_next hx7 h)).2 (by decide)
            injection e0 with e0
            injection e0 with e1 e2
            subst e1
            subst e2
            have := hcl 13 _ rfl
            simpa only [Nat.zero_add] using this
          have lk4 : ∀ W, Below w7.heap.size w7 W → W.cell? ⟨gk, 14, none⟩ = some (.slice none 0 0) := fun W h => by
            obtain ⟨b', off', e0, _, hcl⟩ := (Hk.out W (bel_next hx7 h)).2 (by decide)
            injection e0 with e0
            injection e0 with e1 e2
            subst e1
            subst e2
            have := hcl 14 _ rfl
            simpa only [Nat.zero_add] using this
          have hsm := Lib.hid (fun W (h : Below w7.heap.size w7 W) => hS2.out W (bel_next hx5 (bel_next hx7 h)))
          have Hx7 := Lib.hid hx7
          clear hx7 sv la0 la1 la2 la3 la4 la5 ls0 ls1 ls2 ls3 ls4 lc0 lc1 lc2 lc3 lc4 hS0 hS1 hS2 hS4 HlS HSo Hk Hs
          refine wp_region_held_drew (S := fun W => Below w7.heap.size w7 W) (by kernel_rfl) (below_drewN (Below.refl _ _) 1) (fun hHeld => ?_)
          refine rg_in 0 rfl (by kernel_rfl) (by kernel_rfl) (by kernel_rfl) (by rfl) (v := ?_) (fun _ _ _ h => h) hHeld (fun w hSw => ?_) ?_
          rotate_left
          · (try dsimp only at hSw); go_simp <;> (with_reducible rfl)
          (try simp only [Act.put, List.setIfInBounds_toArray, List.set_cons_zero, List.set_cons_succ])
          refine rg_in 1 rfl (by kernel_rfl) (by kernel_rfl) (by kernel_rfl) (by rfl) (v := ?_) (fun _ _ _ h => h) hHeld (fun w hSw => ?_) ?_
          rotate_left
          · (try dsimp only at hSw); go_simp <;> (with_reducible rfl)
          (try simp only [Act.put, List.setIfInBounds_toArray, List.set_cons_zero, List.set_cons_succ])
          refine rg_in 2 rfl (by kernel_rfl) (by kernel_rfl) (by kernel_rfl) (by rfl) (v := ?_) (fun _ _ _ h => h) hHeld (fun w hSw => ?_) ?_
          rotate_left
          · (try dsimp only at hSw); go_simp <;> (with_reducible rfl)
          (try simp only [Act.put, List.setIfInBounds_toArray, List.set_cons_zero, List.set_cons_succ])
          refine rg_in 3 rfl (by kernel_rfl) (by kernel_rfl) (by kernel_rfl) (by rfl) (v := ?_) (fun _ _ _ h => h) hHeld (fun w hSw => ?_) ?_
          rotate_left
          · (try dsimp only at hSw); go_simp <;> (with_reducible rfl)
          (try simp only [Act.put, List.setIfInBounds_toArray, List.set_cons_zero, List.set_cons_succ])
          refine rg_in 4 rfl (by kernel_rfl) (by kernel_rfl) (by kernel_rfl) (by rfl) (v := ?_) (fun _ _ _ h => h) hHeld (fun w hSw => ?_) ?_
          rotate_left
          · (try dsimp only at hSw); go_simp <;> (with_reducible rfl)
          (try simp only [Act.put, List.setIfInBounds_toArray, List.set_cons_zero, List.set_cons_succ])
          refine rg_in 5 rfl (by kernel_rfl) (by kernel_rfl) (by kernel_rfl) (by rfl) (v := ?_) (fun _ _ _ h => h) hHeld (fun w hSw => ?_) ?_
          rotate_left
          · (try dsimp only at hSw); go_simp <;> (with_reducible rfl)
          (try simp only [Act.put, List.setIfInBounds_toArray, List.set_cons_zero, List.set_cons_succ])
          refine rg_in 6 rfl (by kernel_rfl) (by kernel_rfl) (by kernel_rfl) (by rfl) (v := ?_) (fun _ _ _ h => h) hHeld (fun w hSw => ?_) ?_
          rotate_left
          · (try dsimp only at hSw); go_simp <;> (with_reducible rfl)
          (try simp only [Act.put, List.setIfInBounds_toArray, List.set_cons_zero, List.set_cons_succ])
          refine rg_in 7 rfl (by kernel_rfl) (by kernel_rfl) (by kernel_rfl) (by rfl) (v := ?_) (fun _ _ _ h => h) hHeld (fun w hSw => ?_) ?_
          rotate_left
          · (try dsimp only at hSw); go_simp <;> (with_reducible rfl)
          (try simp only [Act.put, List.setIfInBounds_toArray, List.set_cons_zero, List.set_cons_succ])
          refine rg_in 8 rfl (by kernel_rfl) (by kernel_rfl) (by kernel_rfl) (by rfl) (v := ?_) (fun _ _ _ h => h) hHeld (fun w hSw => ?_) ?_
          rotate_left
          · (try dsimp only at hSw); go_simp <;> (with_reducible rfl)
          (try simp only [Act.put, List.setIfInBounds_toArray, List.set_cons_zero, List.set_cons_succ])
          refine rg_do 9 rfl (by kernel_rfl) (by rfl) (fun K hK => ?_)
          go_simp
          (go_at_call 9; (with_reducible refine (hsm.out _ hHeld).mono ?_); (rintro e w109 ⟨rfl, hb9⟩))
          refine hK.out _ _ (mS_call hb9 hHeld rfl) (fun hHeld => ?_)
          clear hK K
          (try simp only [Act.put, List.setIfInBounds_toArray, List.set_cons_zero, List.set_cons_succ])
          refine rg_in 10 rfl (by kernel_rfl) (by kernel_rfl) (by kernel_rfl) (by rfl) (v := ?_) (fun _ _ _ h => h) hHeld (fun w hSw => ?_) ?_
          rotate_left
          · (try dsimp only at hSw); go_simp <;> (with_reducible rfl)
          (try simp only [Act.put, List.setIfInBounds_toArray, List.set_cons_zero, List.set_cons_succ])
          refine rg_in 11 rfl (by kernel_rfl) (by kernel_rfl) (by kernel_rfl) (by rfl) (v := ?_) (fun _ _ _ h => h) hHeld (fun w hSw => ?_) ?_
          rotate_left
          · (try dsimp only at hSw); go_simp <;> (with_reducible rfl)
          (try simp only [Act.put, List.setIfInBounds_toArray, List.set_cons_zero, List.set_cons_succ])
          refine wpAnyH_done (by kernel_rfl) ?_ _
          have hbe := bel_next Hx7.out hHeld
          clear l3 lv0 lv1 lv2 lv3 lv4 lk0 lk1 lk2 lk3 lk4
          go_wp2
          go_roundw
          case rel => exact ⟨3, by omega, by first | rfl | go_num, hbe⟩
          case measure => simp [intOf]
        · have lc := lc3 wq hbq
          have p0 := la0 wq hbq
          have p1 := la1 wq hbq
          have p2 := la2 wq hbq
          have p3 := la3 wq hbq
          have p4 := la4 wq hbq
          have p5 := la5 wq hbq
          have ht := HT1.out wq
          clear HT1 HT2 HT3 HT4 hq
          go_wp2_with fail
          refine ht.mono ?_
          rintro e w6 ⟨rfl, hb6⟩
          have hx7 := bel_alloc (bel_next hbq hb6) (.cells #[.int .i64 3, .int .i64 ai, .string ⟨#[]⟩, .slice none 0 0, .slice none 0 0] 39)
          have sv := Lib.hid (VFive.new w6 (.int .i64 3) (.int .i64 ai) (.string ⟨#[]⟩) (.slice none 0 0) (.slice none 0 0) 39 w6.heap.size rfl)
          clear ht hb6 hbq p0 p1 p2 p3 p4 p5 lc
          go_upto_region 20 with fail
          generalize (w6.alloc (.cells #[.int .i64 3, .int .i64 ai, .string ⟨#[]⟩, .slice none 0 0, .slice none 0 0] 39)) = w7 at *
          generalize w6.heap.size = g14 at *
          have l3 : ∀ W, Below w7.heap.size w7 W → W.cell? ⟨g10, 3, none⟩ = some (.slice (some ⟨gk, 0, none⟩) 5 5) := fun W h => ls3 W (bel_next hx7 h)
          have lv0 : ∀ W, Below w7.heap.size w7 W → W.cell? ⟨g14, 0, none⟩ = some (.int .i64 3) := fun W h => (sv.out.later h).1.1
          have lv1 : ∀ W, Below w7.heap.size w7 W → W.cell? ⟨g14, 1, none⟩ = some (.int .i64 ai) := fun W h => (sv.out.later h).1.2.1
          have lv2 : ∀ W, Below w7.heap.size w7 W → W.cell? ⟨g14, 2, none⟩ = some (.string ⟨#[]⟩) := fun W h => (sv.out.later h).1.2.2.1
          have lv3 : ∀ W, Below w7.heap.size w7 W → W.cell? ⟨g14, 3, none⟩ = some (.slice none 0 0) := fun W h => (sv.out.later h).1.2.2.2.1
          have lv4 : ∀ W, Below w7.heap.size w7 W → W.cell? ⟨g14, 4, none⟩ = some (.slice none 0 0) := fun W h => (sv.out.later h).1.2.2.2.2
          have lk0 : ∀ W, Below w7.heap.size w7 W → W.cell? ⟨gk, 15, none⟩ = some (.int .i64 3) := fun W h => by
            obtain ⟨b', off', e0, _, hcl⟩ := (Hk.out W (bel_next hx7 h)).2 (by decide)
            injection e0 with e0
            injection e0 with e1 e2
            subst e1
            subst e2
            have := hcl 15 _ rfl
            simpa only [Nat.zero_add] using this
          have lk1 : ∀ W, Below w7.heap.size w7 W → W.cell? ⟨gk, 16, none⟩ = some (.int .i64 ai) := fun W h => by
            obtain ⟨b', off', e0, _, hcl⟩ := (Hk.out W (bel_next hx7 h)).2 (by decide)
            injection e0 with e0
            injection e0 with e1 e2
            subst e1
            subst e2
            have := hcl 16 _ rfl
            simpa only [Nat.zero_add] using this
          have lk2 : ∀ W, Below w7.heap.size w7 W → W.cell? ⟨gk, 17, none⟩ = some (.string ⟨#[]⟩) := fun W h => by
            obtain ⟨b', off', e0, _, hcl⟩ := (Hk.out W (bel_next hx7 h)).2 (by decide)
            injection e0 with e0
            injection e0 with e1 e2
            subst e1
            subst e2
            have := hcl 17 _ rfl
            simpa only [Nat.zero_add] using this
          have lk3 : ∀ W, Below w7.heap.size w7 W → W.cell? ⟨gk, 18, none⟩ = some (.slice none 0 0) := fun W h => by
            obtain ⟨b', off', e0, _, hcl⟩ := (Hk.out W (bel_next hx7 h)).2 (by decide)
            injection e0 with e0
            injection e0 with e1 e2
            subst e1
            subst e2
            have := hcl 18 _ rfl
            simpa only [Nat.zero_add] using this
          have lk4 : ∀ W, Below w7.heap.size w7 W → W.cell? ⟨gk, 19, none⟩ = some (.slice none 0 0) := fun W h => by
            obtain ⟨b', off', e0, _, hcl⟩ := (Hk.out W (bel_next hx7 h)).2 (by decide)
            injection e0 with e0
            injection e0 with e1 e2
            subst e1
            subst e2
            have := hcl 19 _ rfl
            simpa only [Nat.zero_add] using this
          have hsm := Lib.hid (fun W (h : Below w7.heap.size w7 W) => hS0.out W (bel_next hx5 (bel_next hx7 h)))
          have Hx7 := Lib.hid hx7
          clear hx7 sv la0 la1 la2 la3 la4 la5 ls0 ls1 ls2 ls3 ls4 lc0 lc1 lc2 lc3 lc4 hS0 hS1 hS2 hS4 HlS HSo Hk Hs
          refine wp_region_held_drew (S := fun W => Below w7.heap.size w7 W) (by kernel_rfl) (below_drewN (Below.refl _ _) 1) (fun hHeld => ?_)
          refine rg_in 0 rfl (by kernel_rfl) (by kernel_rfl) (by kernel_rfl) (by rfl) (v := ?_) (fun _ _ _ h => h) hHeld (fun w hSw => ?_) ?_
          rotate_left
          · (try dsimp only at hSw); go_simp <;> (with_reducible rfl)
          (try simp only [Act.put, List.setIfInBounds_toArray, List.set_cons_zero, List.set_cons_succ])
          refine rg_in 1 rfl (by kernel_rfl) (by kernel_rfl) (by kernel_rfl) (by rfl) (v := ?_) (fun _ _ _ h => h) hHeld (fun w hSw => ?_) ?_
          rotate_left
          · (try dsimp only at hSw); go_simp <;> (with_reducible rfl)
          (try simp only [Act.put, List.setIfInBounds_toArray, List.set_cons_zero, List.set_cons_succ])
          refine rg_in 2 rfl (by kernel_rfl) (by kernel_rfl) (by kernel_rfl) (by rfl) (v := ?_) (fun _ _ _ h => h) hHeld (fun w hSw => ?_) ?_
          rotate_left
          · (try dsimp only at hSw); go_simp <;> (with_reducible rfl)
          (try simp only [Act.put, List.setIfInBounds_toArray, List.set_cons_zero, List.set_cons_succ])
          refine rg_in 3 rfl (by kernel_rfl) (by kernel_rfl) (by kernel_rfl) (by rfl) (v := ?_) (fun _ _ _ h => h) hHeld (fun w hSw => ?_) ?_
          rotate_left
          · (try dsimp only at hSw); go_simp <;> (with_reducible rfl)
          (try simp only [Act.put, List.setIfInBounds_toArray, List.set_cons_zero, List.set_cons_succ])
          refine rg_in 4 rfl (by kernel_rfl) (by kernel_rfl) (by kernel_rfl) (by rfl) (v := ?_) (fun _ _ _ h => h) hHeld (fun w hSw => ?_) ?_
          rotate_left
          · (try dsimp only at hSw); go_simp <;> (with_reducible rfl)
          (try simp only [Act.put, List.setIfInBounds_toArray, List.set_cons_zero, List.set_cons_succ])
          refine rg_in 5 rfl (by kernel_rfl) (by kernel_rfl) (by kernel_rfl) (by rfl) (v := ?_) (fun _ _ _ h => h) hHeld (fun w hSw => ?_) ?_
          rotate_left
          · (try dsimp only at hSw); go_simp <;> (with_reducible rfl)
          (try simp only [Act.put, List.setIfInBounds_toArray, List.set_cons_zero, List.set_cons_succ])
          refine rg_in 6 rfl (by kernel_rfl) (by kernel_rfl) (by kernel_rfl) (by rfl) (v := ?_) (fun _ _ _ h => h) hHeld (fun w hSw => ?_) ?_
          rotate_left
          · (try dsimp only at hSw); go_simp <;> (with_reducible rfl)
          (try simp only [Act.put, List.setIfInBounds_toArray, List.set_cons_zero, List.set_cons_succ])
          refine rg_in 7 rfl (by kernel_rfl) (by kernel_rfl) (by kernel_rfl) (by rfl) (v := ?_) (fun _ _ _ h => h) hHeld (fun w hSw => ?_) ?_
          rotate_left
          · (try dsimp only at hSw); go_simp <;> (with_reducible rfl)
          (try simp only [Act.put, List.setIfInBounds_toArray, List.set_cons_zero, List.set_cons_succ])
          refine rg_in 8 rfl (by kernel_rfl) (by kernel_rfl) (by kernel_rfl) (by rfl) (v := ?_) (fun _ _ _ h => h) hHeld (fun w hSw => ?_) ?_
          rotate_left
          · (try dsimp only at hSw); go_simp <;> (with_reducible rfl)
          (try simp only [Act.put, List.setIfInBounds_toArray, List.set_cons_zero, List.set_cons_succ])
          refine rg_do 9 rfl (by kernel_rfl) (by rfl) (fun K hK => ?_)
          go_simp
          (go_at_call 9; (with_reducible refine (hsm.out _ hHeld).mono ?_); (rintro e w109 ⟨rfl, hb9⟩))
          refine hK.out _ _ (mS_call hb9 hHeld rfl) (fun hHeld => ?_)
          clear hK K
          (try simp only [Act.put, List.setIfInBounds_toArray, List.set_cons_zero, List.set_cons_succ])
          refine rg_in 10 rfl (by kernel_rfl) (by kernel_rfl) (by kernel_rfl) (by rfl) (v := ?_) (fun _ _ _ h => h) hHeld (fun w hSw => ?_) ?_
          rotate_left
          · (try dsimp only at hSw); go_simp <;> (with_reducible rfl)
          (try simp only [Act.put, List.setIfInBounds_toArray, List.set_cons_zero, List.set_cons_succ])
          refine rg_in 11 rfl (by kernel_rfl) (by kernel_rfl) (by kernel_rfl) (by rfl) (v := ?_) (fun _ _ _ h => h) hHeld (fun w hSw => ?_) ?_
          rotate_left
          · (try dsimp only at hSw); go_simp <;> (with_reducible rfl)
          (try simp only [Act.put, List.setIfInBounds_toArray, List.set_cons_zero, List.set_cons_succ])
          refine wpAnyH_done (by kernel_rfl) ?_ _
          have hbe := bel_next Hx7.out hHeld
          clear l3 lv0 lv1 lv2 lv3 lv4 lk0 lk1 lk2 lk3 lk4
          go_wp2
          go_roundw
          case rel => exact ⟨4, by omega, by first | rfl | go_num, hbe⟩
          case measure => simp [intOf]
        · have lc := lc4 wq hbq
          have p0 := la0 wq hbq
          have p1 := la1 wq hbq
          have p2 := la2 wq hbq
          have p3 := la3 wq hbq
          have p4 := la4 wq hbq
          have p5 := la5 wq hbq
          have ht := HT2.out wq
          clear HT1 HT2 HT3 HT4 hq
          go_wp2_with fail
          refine ht.mono ?_
          rintro e w6 ⟨rfl, hb6⟩
          have hx7 := bel_alloc (bel_next hbq hb6) (.cells #[.int .i64 3, .int .i64 S, .string ⟨#[]⟩, .slice none 0 0, .slice none 0 0] 39)
          have sv := Lib.hid (VFive.new w6 (.int .i64 3) (.int .i64 S) (.string ⟨#[]⟩) (.slice none 0 0) (.slice none 0 0) 39 w6.heap.size rfl)
          clear ht hb6 hbq p0 p1 p2 p3 p4 p5 lc
          go_upto_region 20 with fail
          generalize (w6.alloc (.cells #[.int .i64 3, .int .i64 S, .string ⟨#[]⟩, .slice none 0 0, .slice none 0 0] 39)) = w7 at *
          generalize w6.heap.size = g14 at *
          have l3 : ∀ W, Below w7.heap.size w7 W → W.cell? ⟨g10, 3, none⟩ = some (.slice (some ⟨gk, 0, none⟩) 5 5) := fun W h => ls3 W (bel_next hx7 h)
          have lv0 : ∀ W, Below w7.heap.size w7 W → W.cell? ⟨g14, 0, none⟩ = some (.int .i64 3) := fun W h => (sv.out.later h).1.1
          have lv1 : ∀ W, Below w7.heap.size w7 W → W.cell? ⟨g14, 1, none⟩ = some (.int .i64 S) := fun W h => (sv.out.later h).1.2.1
          have lv2 : ∀ W, Below w7.heap.size w7 W → W.cell? ⟨g14, 2, none⟩ = some (.string ⟨#[]⟩) := fun W h => (sv.out.later h).1.2.2.1
          have lv3 : ∀ W, Below w7.heap.size w7 W → W.cell? ⟨g14, 3, none⟩ = some (.slice none 0 0) := fun W h => (sv.out.later h).1.2.2.2.1
          have lv4 : ∀ W, Below w7.heap.size w7 W → W.cell? ⟨g14, 4, none⟩ = some (.slice none 0 0) := fun W h => (sv.out.later h).1.2.2.2.2
          have lk0 : ∀ W, Below w7.heap.size w7 W → W.cell? ⟨gk, 20, none⟩ = some (.int .i64 3) := fun W h => by
            obtain ⟨b', off', e0, _, hcl⟩ := (Hk.out W (bel_next hx7 h)).2 (by decide)
            injection e0 with e0
            injection e0 with e1 e2
            subst e1
            subst e2
            have := hcl 20 _ rfl
            simpa only [Nat.zero_add] using this
          have lk1 : ∀ W, Below w7.heap.size w7 W → W.cell? ⟨gk, 21, none⟩ = some (.int .i64 S) := fun W h => by
            obtain ⟨b', off', e0, _, hcl⟩ := (Hk.out W (bel_next hx7 h)).2 (by decide)
            injection e0 with e0
            injection e0 with e1 e2
            subst e1
            subst e2
            have := hcl 21 _ rfl
            simpa only [Nat.zero_add] using this
          have lk2 : ∀ W, Below w7.heap.size w7 W → W.cell? ⟨gk, 22, none⟩ = some (.string ⟨#[]⟩) := fun W h => by
            obtain ⟨b', off', e0, _, hcl⟩ := (Hk.out W (bel_next hx7 h)).2 (by decide)
            injection e0 with e0
            injection e0 with e1 e2
            subst e1
            subst e2
            have := hcl 22 _ rfl
            simpa only [Nat.zero_add] using this
          have lk3 : ∀ W, Below w7.heap.size w7 W → W.cell? ⟨gk, 23, none⟩ = some (.slice none 0 0) := fun W h => by
            obtain ⟨b', off', e0, _, hcl⟩ := (Hk.out W (bel_next hx7 h)).2 (by decide)
            injection e0 with e0
            injection e0 with e1 e2
            subst e1
            subst e2
            have := hcl 23 _ rfl
            simpa only [Nat.zero_add] using this
          have lk4 : ∀ W, Below w7.heap.size w7 W → W.cell? ⟨gk, 24, none⟩ = some (.slice none 0 0) := fun W h => by
            obtain ⟨b', off', e0, _, hcl⟩ := (Hk.out W (bel_next hx7 h)).2 (by decide)
            injection e0 with e0
            injection e0 with e1 e2
            subst e1
            subst e2
            have := hcl 24 _ rfl
            simpa only [Nat.zero_add] using this
          have hsm := Lib.hid (fun W (h : Below w7.heap.size w7 W) => hS4.out W (bel_next hx5 (bel_next hx7 h)))
          have Hx7 := Lib.hid hx7
          clear hx7 sv la0 la1 la2 la3 la4 la5 ls0 ls1 ls2 ls3 ls4 lc0 lc1 lc2 lc3 lc4 hS0 hS1 hS2 hS4 HlS HSo Hk Hs
          refine wp_region_held_drew (S := fun W => Below w7.heap.size w7 W) (by kernel_rfl) (below_drewN (Below.refl _ _) 1) (fun hHeld => ?_)
          refine rg_in 0 rfl (by kernel_rfl) (by kernel_rfl) (by kernel_rfl) (by rfl) (v := ?_) (fun _ _ _ h => h) hHeld (fun w hSw => ?_) ?_
          rotate_left
          · (try dsimp only at hSw); go_simp <;> (with_reducible rfl)
          (try simp only [Act.put, List.setIfInBounds_toArray, List.set_cons_zero, List.set_cons_succ])
          refine rg_in 1 rfl (by kernel_rfl) (by kernel_rfl) (by kernel_rfl) (by rfl) (v := ?_) (fun _ _ _ h => h) hHeld (fun w hSw => ?_) ?_
          rotate_left
          · (try dsimp only at hSw); go_simp <;> (with_reducible rfl)
          (try simp only [Act.put, List.setIfInBounds_toArray, List.set_cons_zero, List.set_cons_succ])
          refine rg_in 2 rfl (by kernel_rfl) (by kernel_rfl) (by kernel_rfl) (by rfl) (v := ?_) (fun _ _ _ h => h) hHeld (fun w hSw => ?_) ?_
          rotate_left
          · (try dsimp only at hSw); go_simp <;> (with_reducible rfl)
          (try simp only [Act.put, List.setIfInBounds_toArray, List.set_cons_zero, List.set_cons_succ])
          refine rg_in 3 rfl (by kernel_rfl) (by kernel_rfl) (by kernel_rfl) (by rfl) (v := ?_) (fun _ _ _ h => h) hHeld (fun w hSw => ?_) ?_
          rotate_left
          · (try dsimp only at hSw); go_simp <;> (with_reducible rfl)
          (try simp only [Act.put, List.setIfInBounds_toArray, List.set_cons_zero, List.set_cons_succ])
          refine rg_in 4 rfl (by kernel_rfl) (by kernel_rfl) (by kernel_rfl) (by rfl) (v := ?_) (fun _ _ _ h => h) hHeld (fun w hSw => ?_) ?_
          rotate_left
          · (try dsimp only at hSw); go_simp <;> (with_reducible rfl)
          (try simp only [Act.put, List.setIfInBounds_toArray, List.set_cons_zero, List.set_cons_succ])
          refine rg_in 5 rfl (by kernel_rfl) (by kernel_rfl) (by kernel_rfl) (by rfl) (v := ?_) (fun _ _ _ h => h) hHeld (fun w hSw => ?_) ?_
          rotate_left
          · (try dsimp only at hSw); go_simp <;> (with_reducible rfl)
          (try simp only [Act.put, List.setIfInBounds_toArray, List.set_cons_zero, List.set_cons_succ])
          refine rg_in 6 rfl (by kernel_rfl) (by kernel_rfl) (by kernel_rfl) (by rfl) (v := ?_) (fun _ _ _ h => h) hHeld (fun w hSw => ?_) ?_
          rotate_left
          · (try dsimp only at hSw); go_simp <;> (with_reducible rfl)
          (try simp only [Act.put, List.setIfInBounds_toArray, List.set_cons_zero, List.set_cons_succ])
          refine rg_in 7 rfl (by kernel_rfl) (by kernel_rfl) (by kernel_rfl) (by rfl) (v := ?_) (fun _ _ _ h => h) hHeld (fun w hSw => ?_) ?_
          rotate_left
          · (try dsimp only at hSw); go_simp <;> (with_reducible rfl)
          (try simp only [Act.put, List.setIfInBounds_toArray, List.set_cons_zero, List.set_cons_succ])
          refine rg_in 8 rfl (by kernel_rfl) (by kernel_rfl) (by kernel_rfl) (by rfl) (v := ?_) (fun _ _ _ h => h) hHeld (fun w hSw => ?_) ?_
          rotate_left
          · (try dsimp only at hSw); go_simp <;> (with_reducible rfl)
          (try simp only [Act.put, List.setIfInBounds_toArray, List.set_cons_zero, List.set_cons_succ])
          refine rg_do 9 rfl (by kernel_rfl) (by rfl) (fun K hK => ?_)
          go_simp
          (go_at_call 9; (with_reducible refine (hsm.out _ hHeld).mono ?_); (rintro e w109 ⟨rfl, hb9⟩))
          refine hK.out _ _ (mS_call hb9 hHeld rfl) (fun hHeld => ?_)
          clear hK K
          (try simp only [Act.put, List.setIfInBounds_toArray, List.set_cons_zero, List.set_cons_succ])
          refine rg_in 10 rfl (by kernel_rfl) (by kernel_rfl) (by kernel_rfl) (by rfl) (v := ?_) (fun _ _ _ h => h) hHeld (fun w hSw => ?_) ?_
          rotate_left
          · (try dsimp only at hSw); go_simp <;> (with_reducible rfl)
          (try simp only [Act.put, List.setIfInBounds_toArray, List.set_cons_zero, List.set_cons_succ])
          refine rg_in 11 rfl (by kernel_rfl) (by kernel_rfl) (by kernel_rfl) (by rfl) (v := ?_) (fun _ _ _ h => h) hHeld (fun w hSw => ?_) ?_
          rotate_left
          · (try dsimp only at hSw); go_simp <;> (with_reducible rfl)
          (try simp only [Act.put, List.setIfInBounds_toArray, List.set_cons_zero, List.set_cons_succ])
          refine wpAnyH_done (by kernel_rfl) ?_ _
          have hbe := bel_next Hx7.out hHeld
          clear l3 lv0 lv1 lv2 lv3 lv4 lk0 lk1 lk2 lk3 lk4
          go_wp2
          go_roundw
          case rel => exact ⟨5, by omega, by first | rfl | go_num, hbe⟩
          case measure => simp [intOf]
        · have hk5 := Hk.out wq hbq
          have hs5 := Hs.out wq hbq
          have hbw := bel_next hx5 hbq
          have hck := vcheck_any _ _ (statT gk gs ai k1 x1 k2 x2 ai S) (HlS.out gk gs wq hk5 hs5) (Nat.le_refl _) (HTx.out _ hbw).1 (HTx.out _ hbw).2
          rw [HSo.out gk gs, if_pos rfl] at hck
          simp only [VT.agg, statT] at hck
          obtain ⟨b', off', e0, _, hcl⟩ := hk5.2 (by decide)
          injection e0 with e0
          injection e0 with e1 e2
          subst e1
          subst e2
          have ky := hcl 21 (.int .i64 S) rfl
          simp only [Nat.zero_add] at ky
          have p0 := ls0 wq hbq
          have p1 := ls1 wq hbq
          have p2 := ls2 wq hbq
          have p3 := ls3 wq hbq
          have p4 := ls4 wq hbq
          clear hk5 hs5 hcl HT1 HT2 HT3 HT4 hS0 hS1 hS2 hS4 la0 la1 la2 la3 la4 la5 ls0 ls1 ls2 ls3 ls4 lc0 lc1 lc2 lc3 lc4 HlS HSo Hk Hs hq
          go_wp2_with fail
          refine hck.mono ?_
          rintro e w8 ⟨rfl, hb8⟩
          go_wp2
          go_ret
          exact ⟨rfl, bel_next hbw hb8⟩
theorem monoidSmall_walk (W : World) (A : Option Addr) (n c : Nat) (l : List Int) (h : Shows W W.heap.size 1 A n (l.map (.int .i32))) (hwf : ∀ z ∈ l, (Lit.int .i32 z).wf = true) (_ : A = none → c = 0) (hn : n ≤ c) (hc : c ≤ maxLen) (h1 : UTab W) (h2 : STab W) :
    Calls Tryd.prog 4 #[.slice A n c] W fun e W' => e = .returned (.bool true) ∧ Below W.heap.size W W' :=
  msmall_any A n c l W h hwf hn hc h1 h2
end Go.Proofs.YtinaecmpigenoaaDoor
