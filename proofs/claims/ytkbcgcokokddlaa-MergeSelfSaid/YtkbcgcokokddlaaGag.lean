import Derived.Test.YtkbcgcokokddlaaGaf
import Derived.Test.YtkbcgcokokddlaaGad
import Derived.Deep.CutBlock
import Derived.Deep.LoopGhost
import Derived.Handy
import Derived.WalkMore
/-
  Layer 15: the law's few: rows of edits in memory of their own.
-/
namespace Go.Proofs.Ytkbcgcokokddlaa
open Go.RowKit
set_option linter.unusedVariables false
set_option linter.unusedSimpArgs false

/-- An edit with rows of its own. -/
structure OwnX (W : World) (D : Nat) (x : EdT) : Prop where
  key : W.ownsRow D 5 1 (.slice x.k.A x.k.n x.k.c) x.k.n (x.k.l.map bv)
  val : W.ownsRow D 5 1 (.slice x.v.A x.v.n x.v.c) x.v.n (x.v.l.map bv)
  num : -9223372036854775808 ≤ x.n ∧ x.n ≤ 9223372036854775807
theorem pc_own {W : World} {D : Nat} {p : PcT} (h : W.ownsRow D 5 1 (.slice p.A p.n p.c) p.n (p.l.map bv)) : p.Ok W W.heap.size := by
  obtain ⟨h1, h2, h3⟩ := own_heads h
  exact ⟨Bytes.own h, h1, h2, h3⟩
theorem OwnX.ok {W : World} {D : Nat} {x : EdT} (h : OwnX W D x) : x.Ok W W.heap.size := ⟨pc_own h.key, pc_own h.val, h.num⟩
theorem OwnX.later {W W' : World} {D : Nat} {x : EdT} (h : OwnX W D x) (hb : Below W.heap.size W W') : OwnX W' D x := ⟨own_later h.key hb, own_later h.val hb, h.num⟩
theorem OwnX.base {W : World} {D D' : Nat} {x : EdT} (h : OwnX W D x) (hD : D' ≤ D) : OwnX W D' x := ⟨own_base h.key hD, own_base h.val hD, h.num⟩
theorem own_other {W W' : World} {D D' size size' n n' : Nat} {e e' : TypeId} {v v' : Value} {xs xs' : List Value} (h : W.ownsRow D e size v n xs) (hv : W.ownsRow D' e' size' v' n' xs') (hne : e ≠ e') (hg : W.grownBy W' v'.ownBlock) : W'.ownsRow D e size v n xs := by
  refine h.kept hg ?_
  rcases h.2 with ⟨e, -⟩ | ⟨g, cap, cur, e, h1, h2, -⟩
  · rw [e]; exact .inl rfl
  · rw [e]; exact .inr (own_blk_ne hv h2 hne)
theorem OwnX.other {W W' : World} {D D' size n : Nat} {e : TypeId} {x : EdT} {v : Value} {xs : List Value} (h : OwnX W D x) (hv : W.ownsRow D' e size v n xs) (hne : 5 ≠ e) (hg : W.grownBy W' v.ownBlock) : OwnX W' D x :=
  ⟨own_other h.key hv hne hg, own_other h.val hv hne hg, h.num⟩
/-- A row of edits in memory of its own, their rows too. -/
structure OwnL (W : World) (D : Nat) (X : EsT) : Prop where
  row : W.ownsRow D 49 5 (.slice X.A X.n X.c) X.n (X.E.flatMap EdT.cells)
  all : ∀ x ∈ X.E, OwnX W D x
theorem OwnL.lie {W : World} {D : Nat} {X : EsT} (h : OwnL W D X) : X.Lie W W.heap.size := by
  obtain ⟨h1, h2, h3⟩ := own_heads h.row
  exact ⟨Shows.own h.row, fun x hx => (h.all x hx).ok, h1, h2, h3⟩
theorem OwnL.none (W : World) (D : Nat) : OwnL W D ⟨Option.none, 0, 0, []⟩ := ⟨World.ownsRow_nil _ _ _ _, nofun⟩
theorem OwnL.later {W W' : World} {D : Nat} {X : EsT} (h : OwnL W D X) (hb : Below W.heap.size W W') : OwnL W' D X := ⟨own_later h.row hb, fun x hx => (h.all x hx).later hb⟩
theorem OwnL.base {W : World} {D D' : Nat} {X : EsT} (h : OwnL W D X) (hD : D' ≤ D) : OwnL W D' X := ⟨own_base h.row hD, fun x hx => (h.all x hx).base hD⟩
theorem OwnL.other {W W' : World} {D D' size n : Nat} {e : TypeId} {X : EsT} {v : Value} {xs : List Value} (h : OwnL W D X) (hv : W.ownsRow D' e size v n xs) (h8 : 5 ≠ e) (hE : 49 ≠ e) (hg : W.grownBy W' v.ownBlock) : OwnL W' D X :=
  ⟨own_other h.row hv hE hg, fun x hx => (h.all x hx).other hv h8 hg⟩
theorem OwnL.len {W : World} {D : Nat} {X : EsT} (h : OwnL W D X) : X.E.length = X.n := by
  have := h.row.1
  rw [flatN_len EdT.cells 5 (fun _ => rfl)] at this
  omega
theorem OwnL.snoc {W W' : World} {D n c c' : Nat} {A A' : Option Addr} {E : List EdT} {x : EdT} (h : OwnL W D ⟨A, n, c, E⟩) (hx : OwnX W D x) (hg : W.grownBy W' (Value.slice A n c).ownBlock) (hown : W'.ownsRow D 49 5 (.slice A' (n + 1) c') (n + 1) (E.flatMap EdT.cells ++ x.cells)) : OwnL W' D ⟨A', n + 1, c', E ++ [x]⟩ := by
  refine ⟨?_, fun y hy => ?_⟩
  · show W'.ownsRow D _ 5 _ (n + 1) ((E ++ [x]).flatMap EdT.cells)
    rw [List.flatMap_append, List.flatMap_singleton]
    exact hown
  · rcases List.mem_append.1 hy with hy | hy
    · exact (h.all y hy).other h.row (by decide) hg
    · rw [List.mem_singleton.1 hy]
      exact hx.other h.row (by decide) hg
theorem own_setK {W : World} {base k size n : Nat} {e : TypeId} {v : Value} {xs : List Value} (h : W.ownsRow base e size v n xs) (hk : k < base) (i : Nat) (u : Value) : (W.setCell ⟨k, i, none⟩ u).ownsRow base e size v n xs := by
  have hb := (Below.refl 0 W).setCell (p := ⟨k, i, none⟩) (Nat.zero_le _) u
  have hg : W.grownBy (W.setCell ⟨k, i, none⟩ u) (some k) := ⟨hb.os, hb.tape, hb.output, hb.size, fun j _ hj => Below.heap_setCell W ⟨k, i, none⟩ u j (fun e => hj (by rw [e]))⟩
  refine h.kept hg ?_
  rcases h.2 with ⟨e, -⟩ | ⟨g, cap, cur, e, h1, h2, -⟩
  · rw [e]; exact .inl rfl
  · rw [e]
    refine .inr (fun he => ?_)
    have : g = k := Option.some.inj he
    omega
section
variable {W : World} {k : Nat} {a b c d e v v0 v2 : Value} {t : TypeId}
theorem few_one0 (h : W.heap[k]? = some (.cells #[a, b, c, d, e] t (0, 0))) : (W.setCell ⟨k, 0, none⟩ v).heap[k]? = some (.cells #[v, b, c, d, e] t (0, 0)) := heap_setCell_same W k 0 _ t v h
theorem few_one2 (h : W.heap[k]? = some (.cells #[a, b, c, d, e] t (0, 0))) : (W.setCell ⟨k, 2, none⟩ v).heap[k]? = some (.cells #[a, b, v, d, e] t (0, 0)) := heap_setCell_same W k 2 _ t v h
theorem few_two (h : W.heap[k]? = some (.cells #[a, b, c, d, e] t (0, 0))) : ((W.setCell ⟨k, 0, none⟩ v0).setCell ⟨k, 2, none⟩ v2).heap[k]? = some (.cells #[v0, b, v2, d, e] t (0, 0)) := few_one2 (few_one0 h)
theorem few_rev (h : W.heap[k]? = some (.cells #[a, b, c, d, e] t (0, 0))) : ((W.setCell ⟨k, 2, none⟩ v2).setCell ⟨k, 0, none⟩ v0).heap[k]? = some (.cells #[v0, b, v2, d, e] t (0, 0)) := few_one0 (few_one2 h)
end
/-- An edit, its key and its value not much longer than they may be. -/
def fewS (e : EdS) : EdS := ⟨e.k.take 121, e.put, e.v.take 101, e.b, e.n⟩
theorem take_min {l : List UInt8} {n m c : Nat} (hl : l.length = n) (hm : m = min n c) : l.take m = l.take c := by
  rcases Nat.le_total n c with h | h
  · rw [show m = n by omega, List.take_of_length_le (by omega), List.take_of_length_le (by omega)]
  · rw [show m = c by omega]
def FewP (l : List EdS) (W : World) (e : Ending) (W' : World) : Prop := Below W.heap.size W W' ∧ ∃ Y : EsT, e = .returned (.slice Y.A Y.n Y.c) ∧ Y.s = l ∧ OwnL W' W.heap.size Y
set_option maxRecDepth 20000 in
set_option maxHeartbeats 4000000 in
theorem mfew_any (X : EsT) (most : Nat) (B : Nat) (w : World) (hX : X.Lie w B) (hB : B ≤ w.heap.size) (hm : most ≤ 1048576) :
    Calls Try.prog 11 #[.slice X.A X.n X.c, .int .i64 most] w (FewP ((X.s.take most).map fewS) w) := by
  obtain ⟨XA, n, Xc, E⟩ := X
  have hlen := hX.len
  have hfit := hX.fit
  have hmax := hX.most
  simp only at hlen hfit hmax ⊢
  unfold maxLen at hmax
  obtain ⟨r, hr⟩ : ∃ r, r = min n most := ⟨_, rfl⟩
  have hrn : r ≤ n := by omega
  have hrm : r ≤ most := by omega
  have e1 : min (n : Int) (most : Int) = (r : Int) := by omega
  have e2 : (if (most : Int) < (n : Int) then (most : Int) else (n : Int)) = (r : Int) := by split <;> omega
  have HTK : Hid ((E.map EdT.s).take most = (E.map EdT.s).take r) := Lib.hid (by
    rcases Nat.le_total n most with h | h
    · rw [show r = n by omega, List.take_of_length_le (by rw [List.length_map]; omega), List.take_of_length_le (by rw [List.length_map]; omega)]
    · rw [show r = most by omega])
  have i1 : (r : Int) ≤ (n : Int) := by omega
  have i2 : (n : Int) ≤ (Xc : Int) := by omega
  have i3 : (r : Int) ≤ (Xc : Int) := by omega
  have i4 : (0 : Int) ≤ (r : Int) := by omega
  have HX := Lib.hid hX
  have HB := Lib.hid hB
  have HL := Lib.hid hlen
  have HRN := Lib.hid hrn
  obtain ⟨i0, hi0, hz0, hz1, hz2⟩ := edit_info
  obtain ⟨TL, hTL⟩ : ∃ TL, ((E.map EdT.s).take most).map fewS = TL := ⟨_, rfl⟩
  show Calls _ _ _ _ (FewP (((E.map EdT.s).take most).map fewS) w)
  rw [hTL]
  have HTL := Lib.hid hTL
  clear hX hB hlen e1 e2 hTL
  go_enter Try.func11, Try.ntmps11
  go_upto_region 2 with fail
  go_cut [13, 14, 15] (fun p q s wx => p = .slice XA r Xc ∧ q = .int .i64 r ∧ s = .int .i64 0 ∧ w = wx)
  case first =>
    by_cases hmn : most < n
    · have hrr : most = r := by omega
      clear hr
      subst hrr
      go_wp2
      go_meet
      case rel => exact ⟨rfl, rfl, rfl, rfl⟩
    · have hrr : n = r := by omega
      clear hr
      subst hrr
      go_wp2
      go_meet
      case rel => exact ⟨rfl, rfl, rfl, rfl⟩
  obtain ⟨rfl, rfl, rfl, hw0⟩ := hcut
  subst hw0
  clear hr
  go_wp2_with fail
  go_loopw [5, 15] (fun o s wr => ∃ (i : Nat) (Z : EsT), o = .slice Z.A Z.n Z.c ∧ s = .int .i64 i ∧ i ≤ r ∧ Z.n = i ∧ Hid (OwnL wr w.heap.size Z) ∧ Hid (Z.s = ((E.take i).map EdT.s).map fewS) ∧ Hid (Below w.heap.size w wr)) (fun _ s _ => r - (intOf s).toNat)
  case atStart => exact ⟨0, ⟨none, 0, 0, []⟩, rfl, rfl, Nat.zero_le _, rfl, Lib.hid (OwnL.none _ _), Lib.hid rfl, Lib.hid (Below.refl _ _)⟩
  case round =>
    obtain ⟨i, ⟨ZA, Zn, Zc, ZE⟩, rfl, rfl, hi, hZn, HO, HZ, HBr⟩ := hrel
    simp only at hZn ⊢
    subst hZn
    by_cases hin : Zn < r
    · obtain ⟨b, off, y, hA, hbb, hy, v0, v1, v2, v3, v4⟩ := ed_at (HX.out.later (HBr.out.mono HB.out)).row (i := Zn) (show Zn < n by omega)
      have hyo := ((HX.out.later (HBr.out.mono HB.out)).all y (List.mem_of_getElem? hy))
      simp only at hA hy
      subst hA
      have hin' : (Zn : Int) < (r : Int) := by omega
      have w3 : wrap64 ((Zn : Int) + 1) = ((Zn + 1 : Nat) : Int) := by unfold wrap64; omega
      have hb4 := bel_alloc (Below.refl wr.heap.size wr) (.cells #[.slice y.k.A y.k.n y.k.c, .bool y.put, .slice y.v.A y.v.n y.v.c, .bool y.b, .int .i64 y.n] 49)
      have HX4 := Lib.hid (heap_alloc_new wr (.cells #[.slice y.k.A y.k.n y.k.c, .bool y.put, .slice y.v.A y.v.n y.v.c, .bool y.b, .int .i64 y.n] 49))
      have HOf : Hid (∀ W, Below wr.heap.size wr W → OwnL W w.heap.size ⟨ZA, Zn, Zc, ZE⟩) := Lib.hid (fun W h => HO.out.later h)
      have HBW4 := Lib.hid hb4
      have HB4 := Lib.hid (HBr.out.trans (hb4.mono HBr.out.size))
      have HYO := Lib.hid (hyo.later (hb4.mono (Nat.le_trans HB.out HBr.out.size)))
      have HBk : Hid (B ≤ wr.heap.size) := Lib.hid (Nat.le_trans HB.out HBr.out.size)
      have HDk : Hid (w.heap.size ≤ wr.heap.size) := Lib.hid HBr.out.size
      have HK7 : Hid (wr.heap.size ≤ (wr.alloc (.cells #[.slice y.k.A y.k.n y.k.c, .bool y.put, .slice y.v.A y.v.n y.v.c, .bool y.b, .int .i64 y.n] 49)).heap.size) := Lib.hid hb4.size
      have HYY := Lib.hid hy
      have HIN := Lib.hid hin
      clear hbb hy hyo hi hin hb4
      go_upto_region 5 with fail
      generalize wr.alloc (.cells #[.slice y.k.A y.k.n y.k.c, .bool y.put, .slice y.v.A y.v.n y.v.c, .bool y.b, .int .i64 y.n] 49) = W4 at *
      generalize wr.heap.size = k7 at *
      have HK8 : Hid (k7 < W4.heap.size) := Lib.hid (blk_lt HX4.out)
      obtain ⟨mk, hmk⟩ : ∃ mk, mk = min y.k.n 121 := ⟨_, rfl⟩
      obtain ⟨mv, hmv⟩ : ∃ mv, mv = min y.v.n 101 := ⟨_, rfl⟩
      have hkk := HYO.out.key
      have hvv := HYO.out.val
      have HC1 : Hid (∀ W, Below W4.heap.size W4 W → Calls Try.prog 32 #[.slice y.k.A mk y.k.c] W (GivesBytes 5 (y.k.l.take 121) W)) := Lib.hid (fun W h => by
        rw [← take_min hkk.len hmk]
        exact clone_any y.k.A mk y.k.c _ B W ((hkk.here.first (by omega)).below (h.mono (Nat.le_trans HBk.out HK7.out))) hkk.nil (Nat.le_trans HBk.out (Nat.le_trans HK7.out h.size)) (by omega))
      have HC2 : Hid (∀ W, Below W4.heap.size W4 W → Calls Try.prog 32 #[.slice y.v.A mv y.v.c] W (GivesBytes 5 (y.v.l.take 101) W)) := Lib.hid (fun W h => by
        rw [← take_min hvv.len hmv]
        exact clone_any y.v.A mv y.v.c _ B W ((hvv.here.first (by omega)).below (h.mono (Nat.le_trans HBk.out HK7.out))) hvv.nil (Nat.le_trans HBk.out (Nat.le_trans HK7.out h.size)) (by omega))
      have e1 : min (y.k.n : Int) 121 = (mk : Int) := by omega
      have e2 : (if (121 : Int) < (y.k.n : Int) then (121 : Int) else (y.k.n : Int)) = (mk : Int) := by split <;> omega
      have e3 : min (y.v.n : Int) 101 = (mv : Int) := by omega
      have e4 : (if (101 : Int) < (y.v.n : Int) then (101 : Int) else (y.v.n : Int)) = (mv : Int) := by split <;> omega
      have j1 : (mk : Int) ≤ (y.k.n : Int) := by omega
      have j2 : (y.k.n : Int) ≤ (y.k.c : Int) := by have := hkk.fits; omega
      have j3 : (mk : Int) ≤ (y.k.c : Int) := by omega
      have j4 : (0 : Int) ≤ (mk : Int) := by omega
      have l1 : (mv : Int) ≤ (y.v.n : Int) := by omega
      have l2 : (y.v.n : Int) ≤ (y.v.c : Int) := by have := hvv.fits; omega
      have l3 : (mv : Int) ≤ (y.v.c : Int) := by omega
      have l4 : (0 : Int) ≤ (mv : Int) := by omega
      have m1 : y.k.c ≤ 9223372036854775807 := by have h := hkk.most; unfold maxLen at h; exact h
      have m2 : y.v.c ≤ 9223372036854775807 := by have h := hvv.most; unfold maxLen at h; exact h
      have b0 : ∀ W, Below W4.heap.size W4 W → W.cell? ⟨k7, 0, none⟩ = some (.slice y.k.A y.k.n y.k.c) := fun W h => (five_blk (blk_later HX4.out h)).1.1
      have b2 : ∀ W, Below W4.heap.size W4 W → W.cell? ⟨k7, 2, none⟩ = some (.slice y.v.A y.v.n y.v.c) := fun W h => (five_blk (blk_later HX4.out h)).1.2.2.1
      clear hmk hmv hkk hvv v0 v1 v2 v3 v4
      go_cut [] (fun wx => ∃ (A1 : Option Addr) (n1 c1 : Nat) (A2 : Option Addr) (n2 c2 : Nat), wx.heap[k7]? = some (.cells #[.slice A1 n1 c1, .bool y.put, .slice A2 n2 c2, .bool y.b, .int .i64 y.n] 49 (0, 0)) ∧ wx.ownsRow k7 5 1 (.slice A1 n1 c1) n1 ((y.k.l.take 121).map bv) ∧ wx.ownsRow k7 5 1 (.slice A2 n2 c2) n2 ((y.v.l.take 101).map bv) ∧ Below k7 W4 wx)
      case first =>
        refine rl_begin (fun W => Below k7 W4 W) (fun W => Below W4.heap.size W4 W) [17, 19] (by kernel_rfl) (below_drewN (Below.refl _ _) 1) (below_drewN (Below.refl _ _) 1) (fun hHeld => ?_)
        have hS0 := hHeld.2 (by kernel_rfl)
        refine rl_inA 0 rfl (by kernel_rfl) (by kernel_rfl) (by kernel_rfl) (by rfl) (by rfl) (v := ?_) (fun _ _ _ h => h) hHeld (fun w hSw => ?_) ?_
        rotate_left
        · (try dsimp only at hSw); go_simp <;> (with_reducible rfl)
        (try simp only [Act.put, List.setIfInBounds_toArray, List.set_cons_zero, List.set_cons_succ])
        refine rl_in 1 rfl (by kernel_rfl) (by kernel_rfl) (by kernel_rfl) (by rfl) (by kernel_rfl) (by kernel_rfl) (by rfl) (v := ?_) (fun _ _ _ h => h) hHeld (fun w hSw => ?_) ?_
        rotate_left
        · (try dsimp only at hSw); go_simp <;> (with_reducible rfl)
        (try simp only [Act.put, List.setIfInBounds_toArray, List.set_cons_zero, List.set_cons_succ])
        refine rl_inA 2 rfl (by kernel_rfl) (by kernel_rfl) (by kernel_rfl) (by rfl) (by rfl) (v := ?_) (fun _ _ _ h => h) hHeld (fun w hSw => ?_) ?_
        rotate_left
        · (try dsimp only at hSw); go_simp <;> (with_reducible rfl)
        (try simp only [Act.put, List.setIfInBounds_toArray, List.set_cons_zero, List.set_cons_succ])
        refine rl_in 3 rfl (by kernel_rfl) (by kernel_rfl) (by kernel_rfl) (by rfl) (by kernel_rfl) (by kernel_rfl) (by rfl) (v := ?_) (fun _ _ _ h => h) hHeld (fun w hSw => ?_) ?_
        rotate_left
        · (try dsimp only at hSw); go_simp <;> (with_reducible rfl)
        (try simp only [Act.put, List.setIfInBounds_toArray, List.set_cons_zero, List.set_cons_succ])
        refine rl_inA 4 rfl (by kernel_rfl) (by kernel_rfl) (by kernel_rfl) (by rfl) (by rfl) (v := ?_) (fun _ _ _ h => h) hHeld (fun w hSw => ?_) ?_
        rotate_left
        · (try dsimp only at hSw); go_simp <;> (with_reducible rfl)
        (try simp only [Act.put, List.setIfInBounds_toArray, List.set_cons_zero, List.set_cons_succ])
        refine rl_inA 5 rfl (by kernel_rfl) (by kernel_rfl) (by kernel_rfl) (by rfl) (by rfl) (v := ?_) (fun _ _ _ h => h) hHeld (fun w hSw => ?_) ?_
        rotate_left
        · (try dsimp only at hSw); go_simp <;> (with_reducible rfl)
        (try simp only [Act.put, List.setIfInBounds_toArray, List.set_cons_zero, List.set_cons_succ])
        refine rl_inA 6 rfl (by kernel_rfl) (by kernel_rfl) (by kernel_rfl) (by rfl) (by rfl) (v := ?_) (fun _ _ _ h => h) hHeld (fun w hSw => ?_) ?_
        rotate_left
        · (try dsimp only at hSw); go_simp <;> (with_reducible rfl)
        (try simp only [Act.put, List.setIfInBounds_toArray, List.set_cons_zero, List.set_cons_succ])
        refine rl_inA 8 rfl (by kernel_rfl) (by kernel_rfl) (by kernel_rfl) (by rfl) (by rfl) (v := ?_) (fun _ _ _ h => h) hHeld (fun w hSw => ?_) ?_
        rotate_left
        · (try dsimp only at hSw); go_simp <;> (with_reducible rfl)
        (try simp only [Act.put, List.setIfInBounds_toArray, List.set_cons_zero, List.set_cons_succ])
        refine rl_in 9 rfl (by kernel_rfl) (by kernel_rfl) (by kernel_rfl) (by rfl) (by kernel_rfl) (by kernel_rfl) (by rfl) (v := ?_) (fun _ _ _ h => h) hHeld (fun w hSw => ?_) ?_
        rotate_left
        · (try dsimp only at hSw); go_simp <;> (with_reducible rfl)
        (try simp only [Act.put, List.setIfInBounds_toArray, List.set_cons_zero, List.set_cons_succ])
        refine rl_inA 10 rfl (by kernel_rfl) (by kernel_rfl) (by kernel_rfl) (by rfl) (by rfl) (v := ?_) (fun _ _ _ h => h) hHeld (fun w hSw => ?_) ?_
        rotate_left
        · (try dsimp only at hSw); go_simp <;> (with_reducible rfl)
        (try simp only [Act.put, List.setIfInBounds_toArray, List.set_cons_zero, List.set_cons_succ])
        refine rl_in 11 rfl (by kernel_rfl) (by kernel_rfl) (by kernel_rfl) (by rfl) (by kernel_rfl) (by kernel_rfl) (by rfl) (v := ?_) (fun _ _ _ h => h) hHeld (fun w hSw => ?_) ?_
        rotate_left
        · (try dsimp only at hSw); go_simp <;> (with_reducible rfl)
        (try simp only [Act.put, List.setIfInBounds_toArray, List.set_cons_zero, List.set_cons_succ])
        refine rl_inA 12 rfl (by kernel_rfl) (by kernel_rfl) (by kernel_rfl) (by rfl) (by rfl) (v := ?_) (fun _ _ _ h => h) hHeld (fun w hSw => ?_) ?_
        rotate_left
        · (try dsimp only at hSw); go_simp <;> (with_reducible rfl)
        (try simp only [Act.put, List.setIfInBounds_toArray, List.set_cons_zero, List.set_cons_succ])
        refine rl_inA 13 rfl (by kernel_rfl) (by kernel_rfl) (by kernel_rfl) (by rfl) (by rfl) (v := ?_) (fun _ _ _ h => h) hHeld (fun w hSw => ?_) ?_
        rotate_left
        · (try dsimp only at hSw); go_simp <;> (with_reducible rfl)
        (try simp only [Act.put, List.setIfInBounds_toArray, List.set_cons_zero, List.set_cons_succ])
        refine rl_inA 14 rfl (by kernel_rfl) (by kernel_rfl) (by kernel_rfl) (by rfl) (by rfl) (v := ?_) (fun _ _ _ h => h) hHeld (fun w hSw => ?_) ?_
        rotate_left
        · (try dsimp only at hSw); go_simp <;> (with_reducible rfl)
        (try simp only [Act.put, List.setIfInBounds_toArray, List.set_cons_zero, List.set_cons_succ])
        refine rl_do 7 rfl (by kernel_rfl) (by rfl) (fun K hK => ?_)
        go_simp
        (go_at_call 32; (with_reducible refine (HC1.out _ hS0).mono ?_); (rintro e w107 ⟨A7, n7, c7, rfl, hown7, hb7⟩))
        have hk7 := Nat.le_of_lt (Nat.lt_of_lt_of_le HK8.out hS0.size)
        have hk7L := Nat.lt_of_lt_of_le HK8.out hS0.size
        refine hK.out _ _ ⟨(hHeld.1.trans (hb7.mono (Nat.le_trans HK7.out hHeld.1.size))), fun _ => (hS0.trans (hb7.mono hS0.size))⟩ (fun hHeld => ?_)
        clear hK K
        have hS0 := hHeld.2 (by kernel_rfl)
        (try simp only [Act.put, List.setIfInBounds_toArray, List.set_cons_zero, List.set_cons_succ])
        refine rl_inA 16 rfl (by kernel_rfl) (by kernel_rfl) (by kernel_rfl) (by rfl) (by rfl) (v := ?_) (fun _ _ _ h => h) hHeld (fun w hSw => ?_) ?_
        rotate_left
        · (try dsimp only at hSw); go_simp <;> (with_reducible rfl)
        (try simp only [Act.put, List.setIfInBounds_toArray, List.set_cons_zero, List.set_cons_succ])
        refine rl_do 15 rfl (by kernel_rfl) (by rfl) (fun K hK => ?_)
        go_simp
        (go_at_call 32; (with_reducible refine (HC2.out _ hS0).mono ?_); (rintro e w115 ⟨A15, n15, c15, rfl, hown15, hb15⟩))
        have hk15' := Nat.le_of_lt (Nat.lt_of_lt_of_le HK8.out hS0.size)
        have hk15'L := Nat.lt_of_lt_of_le HK8.out hS0.size
        refine hK.out _ _ ⟨(hHeld.1.trans (hb15.mono (Nat.le_trans HK7.out hHeld.1.size))), fun _ => (hS0.trans (hb15.mono hS0.size))⟩ (fun hHeld => ?_)
        clear hK K
        have hS0 := hHeld.2 (by kernel_rfl)
        (try simp only [Act.put, List.setIfInBounds_toArray, List.set_cons_zero, List.set_cons_succ])
        refine rl_do 17 rfl (by kernel_rfl) (by rfl) (fun K hK => ?_)
        have hbx := blk_later HX4.out hS0
        obtain ⟨⟨x0, x1, x2, x3, x4⟩, f0, f1, f2, f3, f4⟩ := five_blk hbx
        go_simp
        clear x0 x1 x2 x3 x4 f0 f1 f2 f3 f4
        refine hK.out _ _ ⟨(hHeld.1.setCell (p := ⟨k7, 0, none⟩) (Nat.le_refl _) _), (fun h => Bool.noConfusion ((show bef _ _ = false by kernel_rfl).symm.trans h))⟩ (fun hHeld => ?_)
        clear hK K
        (try simp only [Act.put, List.setIfInBounds_toArray, List.set_cons_zero, List.set_cons_succ])
        refine rl_inA 18 rfl (by kernel_rfl) (by kernel_rfl) (by kernel_rfl) (by rfl) (by rfl) (v := ?_) (fun _ _ _ h => h) hHeld (fun w hSw => ?_) ?_
        rotate_left
        · (try dsimp only at hSw); go_simp <;> (with_reducible rfl)
        (try simp only [Act.put, List.setIfInBounds_toArray, List.set_cons_zero, List.set_cons_succ])
        refine rl_do 19 rfl (by kernel_rfl) (by rfl) (fun K hK => ?_)
        obtain ⟨⟨x0, x1, x2, x3, x4⟩, f0, f1, f2, f3, f4⟩ := five_blk (few_one0 (v := (.slice A7 n7 c7)) hbx)
        go_simp
        clear x0 x1 x2 x3 x4 f0 f1 f2 f3 f4
        refine hK.out _ _ ⟨(hHeld.1.setCell (p := ⟨k7, 2, none⟩) (Nat.le_refl _) _), (fun h => Bool.noConfusion ((show bef _ _ = false by kernel_rfl).symm.trans h))⟩ (fun hHeld => ?_)
        clear hK K
        (try simp only [Act.put, List.setIfInBounds_toArray, List.set_cons_zero, List.set_cons_succ])
        refine rl_done (by kernel_rfl) ?_ _
        have HF := Lib.hid hHeld.1
        have HBX := Lib.hid (few_two (v0 := (.slice A7 n7 c7)) (v2 := (.slice A15 n15 c15)) hbx)
        have HO1 := Lib.hid (own_setK (own_setK (own_later hown7 hb15) hk7L 0 (.slice A7 n7 c7)) hk7L 2 (.slice A15 n15 c15))
        have HO2 := Lib.hid (own_setK (own_setK hown15 hk15'L 0 (.slice A7 n7 c7)) hk15'L 2 (.slice A15 n15 c15))
        clear hHeld hbx hown7 hown15 hb7 hb15
        go_wp2_with fail
        go_meet
        case rel => exact ⟨_, _, _, _, _, _, HBX.out, own_base HO1.out hk7, own_base HO2.out hk15', HF.out⟩
      case rest =>
        obtain ⟨A1, n1, c1, A2, n2, c2, hbx, ho1, ho2, hbc⟩ := hcut
        obtain ⟨⟨x0, x1, x2, x3, x4⟩, -⟩ := five_blk hbx
        have HXw : Hid (OwnX wc w.heap.size ⟨⟨A1, n1, c1, y.k.l.take 121⟩, y.put, ⟨A2, n2, c2, y.v.l.take 101⟩, y.b, y.n⟩) := Lib.hid ⟨own_base ho1 HDk.out, own_base ho2 HDk.out, HYO.out.num⟩
        have HO5 : Hid (OwnL wc w.heap.size ⟨ZA, Zn, Zc, ZE⟩) := Lib.hid (HOf.out wc (HBW4.out.trans hbc))
        have HB5 := Lib.hid (HB4.out.trans (hbc.mono HDk.out))
        have hbC := bel_alloc (Below.refl wc.heap.size wc) (.cells #[.slice A1 n1 c1, .bool y.put, .slice A2 n2 c2, .bool y.b, .int .i64 y.n] 49)
        have hsC := ed_new wc ⟨⟨A1, n1, c1, y.k.l.take 121⟩, y.put, ⟨A2, n2, c2, y.v.l.take 101⟩, y.b, y.n⟩
        have hown := own_later HO5.out.row hbC
        have g1 : Zn + 1 ≤ maxLen := by have := HIN.out; have := HRN.out; unfold maxLen; omega
        have g2 : (Zn + 1) * 72 ≤ 140737488355328 := by have := HIN.out; omega
        have g3 : w.heap.size ≤ (wc.alloc (.cells #[.slice A1 n1 c1, .bool y.put, .slice A2 n2 c2, .bool y.b, .int .i64 y.n] 49)).heap.size := Nat.le_trans HB5.out.size hbC.size
        have h1c := cells_ed1 [(⟨⟨A1, n1, c1, y.k.l.take 121⟩, y.put, ⟨A2, n2, c2, y.v.l.take 101⟩, y.b, y.n⟩ : EdT)]
        rw [List.flatMap_singleton] at h1c
        have HBC := Lib.hid hbC
        clear hbC hbx ho1 ho2 hbc b0 b2 HC1 HC2 e1 e2 e3 e4 j1 j2 j3 j4 l1 l2 l3 l4 m1 m2 HB4
        go_wp2_with (at_builtin; refine wpList_append_shows _ rfl _ _ 22 rfl w.heap.size 49 i0 (.agg #[.slice none 0 0, .bool false, .slice none 0 0, .bool false, .int .i64 0]) 5 72 Try.underlying22 hi0 hz0 hz1 hz2 rfl (by decide) _ _ _ rfl hown (wc.heap.size + 1) _ 1 _ _ rfl hsC h1c g1 g2 g3 ?_; intro A9 c9 w9 hown9 hgrow9 hb9; have HON9 := Lib.hid hown9; have HG9 := Lib.hid hgrow9; have HB9 := Lib.hid ((HB5.out.trans (HBC.out.mono HB5.out.size)).trans hb9); clear hown9 hgrow9 hb9 hown hsC g1 g2 g3 h1c x0 x1 x2 x3 x4)
        have HO9 : Hid (OwnL w9 w.heap.size ⟨A9, Zn + 1, c9, ZE ++ [⟨⟨A1, n1, c1, y.k.l.take 121⟩, y.put, ⟨A2, n2, c2, y.v.l.take 101⟩, y.b, y.n⟩]⟩) := Lib.hid ((HO5.out.later HBC.out).snoc (HXw.out.later HBC.out) HG9.out HON9.out)
        have HZ9 : Hid (EsT.s ⟨A9, Zn + 1, c9, ZE ++ [⟨⟨A1, n1, c1, y.k.l.take 121⟩, y.put, ⟨A2, n2, c2, y.v.l.take 101⟩, y.b, y.n⟩]⟩ = ((E.take (Zn + 1)).map EdT.s).map fewS) := Lib.hid (by
          have htk : E.take (Zn + 1) = E.take Zn ++ [y] := by rw [List.take_add_one, HYY.out]; rfl
          rw [htk, List.map_append, List.map_append, ← HZ.out]
          unfold EsT.s
          rw [List.map_append]
          rfl)
        go_roundw
        case rel => exact ⟨Zn + 1, ⟨A9, Zn + 1, c9, ZE ++ [⟨⟨A1, n1, c1, y.k.l.take 121⟩, y.put, ⟨A2, n2, c2, y.v.l.take 101⟩, y.b, y.n⟩]⟩, rfl, by first | rfl | go_num, HIN.out, rfl, HO9, HZ9, HB9⟩
        case measure => have := HIN.out; simp [intOf]; omega
    · have e : Zn = r := by omega
      subst e
      have hin' : ¬ (Zn : Int) < (Zn : Int) := by omega
      have HP : Hid (FewP TL w (.returned (.slice ZA Zn Zc)) wr) := Lib.hid ⟨HBr.out, ⟨ZA, Zn, Zc, ZE⟩, rfl, by rw [HZ.out, ← HTL.out, HTK.out, List.map_take], HO.out⟩
      clear hin hi
      go_wp2
      go_ret
      exact HP.out
end Go.Proofs.Ytkbcgcokokddlaa
/-
  Layer 15: merged.
-/
namespace Go.Proofs.Ytkbcgcokokddlaa
open Go.RowKit
set_option linter.unusedVariables false
set_option linter.unusedSimpArgs false

/-- What merging rows hands back. -/
def MrgP (L : List (List EdS)) (B : Nat) (W : World) (e : Ending) (W' : World) : Prop :=
  Below W.heap.size W W' ∧ ((512 < (sortE L.flatten).length ∧ e = .returned (.tuple #[.slice none 0 0, .int .i64 3])) ∨
    ((sortE L.flatten).length ≤ 512 ∧ ∃ X : EsT, e = .returned (.tuple #[X.val, .int .i64 0]) ∧ X.s = sortE L.flatten ∧ OwnE W' W.heap.size B X))
set_option maxRecDepth 20000 in
set_option maxHeartbeats 2000000 in
theorem merged_any (A : Option Addr) (n c B : Nat) (L : List EsT) (W : World) (hS : Shows W B 1 A n (L.map EsT.val)) (hL : ∀ X ∈ L, X.Lie W B) (hB : B ≤ W.heap.size) (hn : n ≤ 1048576) (hinc : ∀ X ∈ L, Inc X.s) :
    Calls Try.prog 39 #[.slice A n c] W (MrgP (L.map EsT.s) B W) := by
  have hl : L.length = n := by have := hS.1; simpa using this
  have hb0 := bel_alloc (Below.refl W.heap.size W) (.cells #[.slice none 0 0] 73)
  have hq0 : QMem (W.alloc (.cells #[.slice none 0 0] 73)) W.heap.size W.heap.size B none 0 [] :=
    ⟨heap_alloc_new W _, World.ownsRow_nil _ _ _ _, nofun, hB, hB⟩
  obtain ⟨q, hqe⟩ : ∃ q, W.heap.size = q := ⟨_, rfl⟩
  rw [hqe] at hb0 hq0 hB
  have HB0 := Lib.hid hb0
  have HQ0 := Lib.hid hq0
  have HS := Lib.hid hS
  have HL := Lib.hid hL
  have HI := Lib.hid hinc
  have HB := Lib.hid hB
  have HLn := Lib.hid hl
  have HQE := Lib.hid hqe
  clear hS hL hinc hB hl hb0 hq0 hqe
  go_enter Try.func39, Try.ntmps39
  go_wp2_with fail
  go_step3
  go_upto_block 0 with fail
  generalize W.alloc (.cells #[.slice none 0 0] 73) = W1 at *
  rw [HQE.out]
  go_cut [] (fun wx => ∃ A' c' R, Hid (Below q W wx) ∧ Hid (QMem wx q q B A' c' R) ∧ Hid (R.map RsT.s = startR 0 (L.map EsT.s)) ∧ R.length ≤ n)
  case first =>
    go_wp2_with fail
    go_loopw [15] (fun y wr => ∃ (i : Nat) (A' : Option Addr) (c' : Nat) (R : List RsT), y = .int .i64 i ∧ i ≤ n ∧ Hid (Below q W wr) ∧ Hid (QMem wr q q B A' c' R) ∧ Hid (R.map RsT.s = startR 0 ((L.take i).map EsT.s)) ∧ R.length ≤ i) (fun y _ => n - (intOf y).toNat)
    case atStart => exact ⟨0, none, 0, [], rfl, Nat.zero_le _, HB0, HQ0, Lib.hid rfl, Nat.le_refl _⟩
    case round =>
      obtain ⟨i, A', c', R, rfl, hi, HB1, HQ1, HR1, hRi⟩ := hrel
      by_cases hin : i < n
      · obtain ⟨b, off, X, hA, hbB, hX, hc⟩ := es_at (HS.out.below (HB1.out.mono HB.out)) hin
        have hin' : (i : Int) < (n : Int) := by omega
        have hXL := List.mem_of_getElem? hX
        have hlie := (HL.out X hXL).later (HB1.out.mono HB.out)
        have hXe := hlie.len
        have htake : (L.take (i + 1)).map EsT.s = (L.take i).map EsT.s ++ [X.s] := by rw [List.take_add_one, hX, List.map_append]; rfl
        have hlt : ((L.take i).map EsT.s).length = i := by rw [List.length_map, List.length_take]; have := HLn.out; omega
        have hqs := HQ1.out.box
        have hqB : B ≤ wr.heap.size := Nat.le_trans (by rw [HQE.out]; exact HB.out) HB1.out.size
        have HX := Lib.hid hlie
        by_cases h0 : X.n = 0
        · have hs0 : X.s = [] := by unfold EsT.s; rw [List.eq_nil_of_length_eq_zero (hXe.trans h0)]; rfl
          have HR2 : Hid (R.map RsT.s = startR 0 ((L.take (i + 1)).map EsT.s)) := Lib.hid (by rw [htake, startR_snoc, hs0, if_pos rfl, List.append_nil]; exact HR1.out)
          have h0' : ¬ (0 : Int) < (X.n : Int) := by omega
          subst hA
          clear hX hXL hlie htake hlt hqs h0 hs0 hXe
          go_wp2_with fail
          go_roundw
          case rel => exact ⟨i + 1, A', c', R, by first | rfl | go_num, hin, HB1, HQ1, HR2, by omega⟩
          case measure => simp [intOf]; omega
        · have hs0 : X.s ≠ [] := by
            unfold EsT.s
            intro h
            have := congrArg List.length h
            rw [List.length_map] at this
            exact h0 (hXe.symm.trans this)
          have HR2 : Hid ((R ++ [(⟨X, i⟩ : RsT)]).map RsT.s = startR 0 ((L.take (i + 1)).map EsT.s)) := Lib.hid (by
            rw [htake, startR_snoc, if_neg hs0, List.map_append, HR1.out, Nat.zero_add, hlt]
            rfl)
          have h0' : (0 : Int) < (X.n : Int) := by omega
          have hxo : (⟨X, i⟩ : RsT).Ok wr B := ⟨hlie, fun e => hs0 (by unfold EsT.s; rw [e]; rfl), by show i ≤ maxLen; unfold maxLen; omega⟩
          obtain ⟨i0, hi0, hz0, hz1, hz2⟩ := rest_info
          obtain ⟨C0, hC0⟩ : ∃ C0, wr.alloc (.cells #[.slice X.A X.n X.c, .int .i64 i] 75) = C0 := ⟨_, rfl⟩
          have hbC := bel_alloc (Below.refl wr.heap.size wr) (.cells #[.slice X.A X.n X.c, .int .i64 i] 75)
          have hsC : Shows (wr.alloc (.cells #[.slice X.A X.n X.c, .int .i64 i] 75)) (wr.heap.size + 1) 2 (some ⟨wr.heap.size, 0, none⟩) 1 ((⟨X, i⟩ : RsT).cells) :=
            ⟨rfl, fun _ => ⟨wr.heap.size, 0, rfl, by omega, fun j u hu => by rw [Nat.zero_add, cell_of_row _ _ j _ _ _ (heap_alloc_new wr _)]; simpa [RsT.cells] using hu⟩⟩
          have hown := own_later HQ1.out.row hbC
          have hql : q < wr.heap.size := blk_lt hqs
          have hR48 : R.length ≤ 1048576 := by omega
          have g1 : R.length + 1 ≤ maxLen := by unfold maxLen; omega
          have g2 : (R.length + 1) * 32 ≤ 140737488355328 := by omega
          have g3 : q ≤ (wr.alloc (.cells #[.slice X.A X.n X.c, .int .i64 i] 75)).heap.size := Nat.le_trans (Nat.le_of_lt hql) hbC.size
          obtain ⟨q0, qf⟩ := one_blk hqs
          have h1c := cells_rs1 [(⟨X, i⟩ : RsT)]
          rw [List.flatMap_singleton] at h1c
          have HXO := Lib.hid hxo
          have HQB := Lib.hid hqB
          have HBC := Lib.hid hbC
          rw [hA] at *
          clear hX hXL hlie htake hlt hqs h0 hs0 hXe hxo hC0 hqB HX hA
          go_wp2_with (at_builtin; refine wpList_append_shows _ rfl _ _ 69 rfl q 75 i0 (.agg #[.slice none 0 0, .int .i64 0]) 2 32 Try.underlying69 hi0 hz0 hz1 hz2 rfl (by decide) _ _ _ rfl hown (wr.heap.size + 1) _ 1 _ _ rfl hsC h1c g1 g2 g3 ?_; intro A7 c7 w7 hown7 hgrow7 hb7; have hp7 := HQ1.out.push HQB.out HBC.out hgrow7 (hb7.mono HB.out) hown7 HXO.out; obtain ⟨q7, f7⟩ := one_blk hp7.1; have HP7 := Lib.hid hp7.2; have HB7 : Hid (Below q W (w7.setCell ⟨q, 0, none⟩ (.slice A7 (R.length + 1) c7))) := Lib.hid ((((HB1.out.trans (HBC.out.mono (Nat.le_of_lt hql))).trans hb7)).setCell (p := ⟨q, 0, none⟩) (Nat.le_refl _) _); clear hp7 hown7 hgrow7 hb7 hown hsC g1 g2 g3 h1c q0 qf hc)
          go_roundw
          case rel => exact ⟨i + 1, A7, c7, R ++ [⟨X, i⟩], by first | rfl | go_num, hin, HB7, HP7, HR2, by rw [List.length_append, List.length_singleton]; omega⟩
          case measure => simp [intOf]; omega
      · have e : i = n := by omega
        subst e
        have HR2 : Hid (R.map RsT.s = startR 0 (L.map EsT.s)) := Lib.hid (by rw [HR1.out, List.take_of_length_le (by have := HLn.out; omega)])
        have hin' : ¬ (i : Int) < (i : Int) := by omega
        clear hin hi
        go_wp2_with fail
        go_meet
        case rel => exact ⟨A', c', R, HB1, HQ1, HR2, hRi⟩
  case rest =>
    obtain ⟨A', c', R, HB1, HQ1, HR1, hRn⟩ := hcut
    have hqw : q ≤ wc.heap.size := Nat.le_trans (Nat.le_of_eq HQE.out.symm) HB1.out.size
    have hin := qinit_any q q B c' A' R wc HQ1.out (Nat.le_trans HB.out hqw) hqw (Nat.le_refl _) (by omega)
    clear hqw
    go_wp2_with fail
    refine hin.mono ?_
    rintro e W2 ⟨rfl, hb2, R2, hq2, hp2, hh2⟩
    have HB2 := Lib.hid (HB1.out.trans hb2)
    have HQ2 := Lib.hid hq2
    have HH2 := Lib.hid hh2
    have HRun : Hid (Run (L.map EsT.s) (R2.map RsT.s) []) := Lib.hid (by
      refine (run_start (L.map EsT.s)).perm ?_
      rw [← HR1.out]
      exact (hp2.map RsT.s).symm)
    have hR2 : R2.length ≤ 1048576 := by rw [hp2.length_eq]; omega
    clear hin hb2 hq2 hp2 hh2 HB0 HQ0
    go_wp2_with fail
    go_step3
    go_wp2_with fail
    go_loopg [7] (cntR (R2.map RsT.s)) (fun k y wr => ∃ (Y : EsT) (A' : Option Addr) (c' : Nat) (R : List RsT), y = .slice Y.A Y.n Y.c ∧ k = cntR (R.map RsT.s) ∧ Y.n ≤ 512 ∧ R.length ≤ 1048576 ∧ Hid (Below q W wr) ∧ Hid (QMem wr q q B A' c' R) ∧ Hid (OwnE wr q B Y) ∧ Hid (HeapF (gR R) R.length 0) ∧ Hid (Run (L.map EsT.s) (R.map RsT.s) Y.s))
    case atStart => exact ⟨⟨none, 0, 0, []⟩, A', c', R2, rfl, rfl, by decide, hR2, HB2, HQ2, Lib.hid (OwnE.none _ _ _), HH2, HRun⟩
    case round =>
      clear HB1 HQ1 HR1 HB2 HQ2 HH2 HRun hR2 hRn
      clear A' c' R
      obtain ⟨Y, A', c', R, rfl, rfl, hY, hRn, HB1, HQ1, HO1, HH1, HRun⟩ := hrel
      have hln := qlen_any q R.length c' A' wr HQ1.out.box
      cases R with
      | nil =>
        have HE : Hid (Y.s = sortE (L.map EsT.s).flatten) := Lib.hid (run_end (fun s hs => by
          obtain ⟨X, hX, rfl⟩ := List.mem_map.1 hs
          exact HI.out X hX) HRun.out)
        have HP : Hid (MrgP (L.map EsT.s) B W (.returned (.tuple #[.slice Y.A Y.n Y.c, .int .i64 0])) wr) := Lib.hid (by
          refine ⟨by rw [HQE.out]; exact HB1.out, .inr ⟨?_, Y, rfl, HE.out, by rw [HQE.out]; exact HO1.out⟩⟩
          rw [← HE.out]
          unfold EsT.s
          rw [List.length_map, HO1.out.len]
          exact hY)
        rw [List.length_nil] at hln
        clear HE HB1 HQ1 HO1 HH1 HRun hY
        go_wp2_with fail
        refine hln.mono ?_
        rintro e w1 ⟨rfl, rfl⟩
        go_wp2
        (try rw [Exit.noGoto_ret])
        refine bodyPost_ret (v := .tuple #[.slice Y.A Y.n Y.c, .int .i64 0]) ?_ rfl HP.out
        simp [results, Try.results39, go_sem, *]
      | cons r0 R0 =>
        obtain ⟨g, cap, hv, hgq, hgl⟩ := HQ1.out.row.form (by rw [List.length_cons]; omega)
        have hAg : A' = some ⟨g, 0, none⟩ := by injection hv
        subst hAg
        have hqw : q ≤ wr.heap.size := Nat.le_trans (Nat.le_of_eq HQE.out.symm) HB1.out.size
        have hBw : B ≤ wr.heap.size := Nat.le_trans HB.out hqw
        have hok := HQ1.out.all r0 List.mem_cons_self
        obtain ⟨e, t, he⟩ : ∃ e t, r0.r.E = e :: t := List.exists_cons_of_ne_nil hok.some
        have heo := hok.lie.all e (by rw [he]; exact List.mem_cons_self)
        have hnx := next_any q g q B c' r0 R0 wr HQ1.out hBw hRn HH1.out e t he
        have hs0 : r0.s = (e.s :: t.map EdT.s, r0.p) := by unfold RsT.s EsT.s; rw [he]; rfl
        have hRun := HRun.out
        rw [List.map_cons, hs0] at hRun
        have hmin : ∀ r ∈ R0.map RsT.s, ¬ LtR r (e.s :: t.map EdT.s, r0.p) := by
          have h1 := HH1.out
          unfold gR at h1
          rw [List.map_cons, hs0] at h1
          refine heap_min ?_
          rw [List.length_cons, List.length_map]
          rw [List.length_cons] at h1
          exact h1
        have hcnt : cntR (lessR (t.map EdT.s) r0.p (R0.map RsT.s)) + 1 = cntR ((r0 :: R0).map RsT.s) := by rw [List.map_cons, hs0]; exact cntR_less _ _ _ _
        have hlen0 : (0 : Int) < ((r0 :: R0).length : Int) := by rw [List.length_cons]; omega
        have HRun2 := Lib.hid hRun
        have HMin := Lib.hid hmin
        have HCnt := Lib.hid hcnt
        have HN := Lib.hid hnx
        have HBw := Lib.hid hBw
        have HQw := Lib.hid hqw
        have HEO := Lib.hid heo
        have HGQ := Lib.hid hgq
        have HRN := Lib.hid hRn
        obtain ⟨n0, hn0⟩ : ∃ n0, (r0 :: R0).length = n0 := ⟨_, rfl⟩
        rw [hn0] at hln hlen0
        clear hv hok he hnx hs0 hRun hmin hcnt hBw hqw heo hgq hgl hn0 hRn
        go_wp2_with fail
        refine hln.mono ?_
        rintro e1 w1 ⟨rfl, rfl⟩
        clear hln
        go_wp2_with fail
        refine HN.out.mono ?_
        rintro e1 W3 ⟨rfl, hT3, R3, hq3, hp3, hh3⟩
        have hqw3 : q ≤ W3.heap.size := Nat.le_trans HQw.out hT3.size
        have hB3 : Below q W W3 := HB1.out.trans (hT3.below HQw.out (Nat.le_refl _) HGQ.out)
        have hO3 := HO1.out.tu HQ1.out hT3 HBw.out
        have hb34 := bel_alloc (Below.refl W3.heap.size W3) (.cells #[.slice e.k.A e.k.n e.k.c, .bool e.put, .slice e.v.A e.v.n e.v.c, .bool e.b, .int .i64 e.n] 49)
        have hX4 := heap_alloc_new W3 (.cells #[.slice e.k.A e.k.n e.k.c, .bool e.put, .slice e.v.A e.v.n e.v.c, .bool e.b, .int .i64 e.n] 49)
        have hEO3 := HEO.out.later (hT3.below HBw.out (Nat.le_trans HB.out (Nat.le_refl _)) (Nat.le_trans HB.out HGQ.out))
        have hBw3 : B ≤ W3.heap.size := Nat.le_trans HB.out hqw3
        have hcn : cntR (R3.map RsT.s) + 1 = cntR ((r0 :: R0).map RsT.s) := by rw [cntR_perm hp3]; exact HCnt.out
        have hR3n : R3.length ≤ 1048576 := by
          have h1 := hp3.length_eq
          rw [List.length_map] at h1
          have h2 := HRN.out
          rw [List.length_cons] at h2
          unfold lessR at h1
          split at h1
          · rw [List.length_map] at h1; omega
          · rw [List.length_cons, List.length_map] at h1; omega
        have HT3 := Lib.hid hT3
        have HQ4 := Lib.hid (hq3.later hBw3 hb34)
        have HO4 := Lib.hid (hO3.later hBw3 hb34)
        have HB4 := Lib.hid (hB3.trans (hb34.mono hqw3))
        have HP3 := Lib.hid hp3
        have HH3 := Lib.hid hh3
        have HX4 := Lib.hid hX4
        have HEO4 := Lib.hid (hEO3.later (hb34.mono hBw3))
        have HBw4 := Lib.hid (Nat.le_trans hBw3 hb34.size)
        have HCN := Lib.hid hcn
        have HR3N := Lib.hid hR3n
        have HQw4 := Lib.hid (Nat.le_trans hqw3 hb34.size)
        clear hT3 hq3 hp3 hh3 hqw3 hB3 hO3 hb34 hX4 hEO3 hBw3 hcn hR3n HN HO1 HB1 HQ1 HH1 HRun
        unfold EdT.agg
        go_upto_region 14 with fail
        generalize W3.alloc (.cells #[.slice e.k.A e.k.n e.k.c, .bool e.put, .slice e.v.A e.v.n e.v.c, .bool e.b, .int .i64 e.n] 49) = W4 at *
        generalize W3.heap.size = k9 at *
        have HK9 : Hid (k9 < W4.heap.size) := Lib.hid (blk_lt HX4.out)
        obtain ⟨YA, Yn, Yc, YE⟩ := Y
        obtain ⟨Ys, hYs⟩ : ∃ Ys, EsT.s ⟨YA, Yn, Yc, YE⟩ = Ys := ⟨_, rfl⟩
        have HYS := Lib.hid hYs
        rw [hYs] at HRun2
        clear hYs
        simp only at hY ⊢
        go_cut [52] (fun s wx => ∃ st : Bool, s = .bool st ∧ Hid (st = true ↔ ∃ x, Ys.getLast? = some x ∧ x.k = e.s.k) ∧ Hid (Below W4.heap.size W4 wx))
        case first =>
          have hYl := HO4.out.len
          simp only at hYl
          obtain ⟨⟨x0, -⟩, -⟩ := five_blk HX4.out
          by_cases h0 : Yn = 0
          · subst h0
            have HNo : Hid (false = true ↔ ∃ x, Ys.getLast? = some x ∧ x.k = e.s.k) := Lib.hid (by
              rw [← HYS.out]
              unfold EsT.s
              rw [List.eq_nil_of_length_eq_zero hYl]
              simp)
            clear hYl
            go_quiet (fail)
            go_wp2_with fail
            go_meet
            case rel => exact ⟨false, rfl, HNo, Lib.hid (below_drewN (Below.refl _ _) _)⟩
          · obtain ⟨m, hm⟩ : ∃ m, Yn = m + 1 := ⟨Yn - 1, by omega⟩
            obtain ⟨b, off, x, hYA, hbb, hx, c0, -⟩ := ed_at (i := m) (HO4.out.lie HBw4.out).row (by simp only; omega)
            simp only at hYA
            subst hYA
            obtain ⟨st, hst⟩ : ∃ st, sameB x.k.l e.k.l = st := ⟨_, rfl⟩
            have hxo := HO4.out.all x (List.mem_of_getElem? hx)
            have hbe := fun (j : Nat) => bequal_any x.k.A e.k.A x.k.n x.k.c e.k.n e.k.c x.k.l e.k.l B B (W4.drewN j) (hxo.key.here.below (below_drewN (Below.refl B W4) j)) (HEO4.out.key.here.below (below_drewN (Below.refl B W4) j)) st hst
            have HYes : Hid (st = true ↔ ∃ x, Ys.getLast? = some x ∧ x.k = e.s.k) := Lib.hid (by
              rw [← HYS.out, ← hst]
              unfold EsT.s sameB
              rw [decide_eq_true_iff, List.getLast?_map, List.getLast?_eq_getElem?, hYl, hm, Nat.add_sub_cancel, hx]
              constructor
              · intro h
                exact ⟨_, rfl, h⟩
              · rintro ⟨y, hy, h⟩
                cases hy
                exact h)
            have i0 : 0 < Yn := by omega
            have w1 : wrap64 ((Yn : Int) - 1) = (m : Int) := by unfold wrap64; have := hY; omega
            have w2 : IntKind.i64.wrap ((Yn : Int) - 1) = (m : Int) := by rw [IntKind.wrap_i64]; omega
            have i1 : (m : Int) < (Yn : Int) := by omega
            clear hm hYl hbb hx hst hxo h0
            go_quiet ((go_at_call 45; exact Calls.quiet_of_same ((hbe _).mono fun _ _ h => ⟨h.1, h.2.symm⟩)))
            go_wp2_with fail
            go_meet
            case rel => exact ⟨st, rfl, HYes, Lib.hid (below_drewN (Below.refl _ _) _)⟩
        case rest =>
          obtain ⟨st, rfl, HST, HBc⟩ := hcut
          have HQ5 := Lib.hid (HQ4.out.later HBw4.out HBc.out)
          have HO5 := Lib.hid (HO4.out.later HBw4.out HBc.out)
          have HB5 := Lib.hid (HB4.out.trans (HBc.out.mono HQw4.out))
          have HX5 := Lib.hid (blk_later HX4.out HBc.out)
          have HBw5 := Lib.hid (Nat.le_trans HBw4.out HBc.out.size)
          have HQw5 := Lib.hid (Nat.le_trans HQw4.out HBc.out.size)
          have HEO5 := Lib.hid (HEO4.out.later (HBc.out.mono HBw4.out))
          have HIE : Hid (∀ s ∈ L.map EsT.s, Inc s) := Lib.hid (fun s hs => by
            obtain ⟨X, hX, rfl⟩ := List.mem_map.1 hs
            exact HI.out X hX)
          clear HQ4 HO4 HB4 HX4 HBw4 HQw4 HEO4 HBc HT3 HEO HBw HQw
          cases st
          · have hno : ∀ x, Ys.getLast? = some x → x.k ≠ e.s.k := fun x hx hk => Bool.noConfusion (HST.out.2 ⟨x, hx, hk⟩)
            have hlen5 : Ys.length = Yn := by
              rw [← HYS.out]
              unfold EsT.s
              rw [List.length_map]
              exact HO5.out.len
            by_cases h512 : Yn = 512
            · subst h512
              have HP : Hid (MrgP (L.map EsT.s) B W (.returned (.tuple #[.slice none 0 0, .int .i64 3])) wc) := Lib.hid (by
                refine ⟨by rw [HQE.out]; exact HB5.out, .inl ⟨?_, rfl⟩⟩
                have := run_long HIE.out HRun2.out HMin.out hno
                rw [hlen5] at this
                exact this)
              clear hno hlen5 hY
              go_wp2
              (try rw [Exit.noGoto_ret])
              refine bodyPost_ret (v := .tuple #[.slice none 0 0, .int .i64 3]) ?_ rfl HP.out
              simp [results, Try.results39, go_sem, *]
            · have hne : ((Yn : Int) == (512 : Int)) = false := by simp; omega
              have HRun3 : Hid (Run (L.map EsT.s) (R3.map RsT.s) (Ys ++ [e.s])) := Lib.hid ((run_new HIE.out HRun2.out HMin.out hno).perm HP3.out.symm)
              obtain ⟨⟨x0, x1, x2, x3, x4⟩, -⟩ := five_blk HX5.out
              obtain ⟨i0, hi0, hz0, hz1, hz2⟩ := edit_info
              have hbC := bel_alloc (Below.refl wc.heap.size wc) (.cells #[.slice e.k.A e.k.n e.k.c, .bool e.put, .slice e.v.A e.v.n e.v.c, .bool e.b, .int .i64 e.n] 49)
              have hsC : Shows (wc.alloc (.cells #[.slice e.k.A e.k.n e.k.c, .bool e.put, .slice e.v.A e.v.n e.v.c, .bool e.b, .int .i64 e.n] 49)) (wc.heap.size + 1) 5 (some ⟨wc.heap.size, 0, none⟩) 1 e.cells :=
                ⟨rfl, fun _ => ⟨wc.heap.size, 0, rfl, by omega, fun j u hu => by rw [Nat.zero_add, cell_of_row _ _ j _ _ _ (heap_alloc_new wc _)]; simpa [EdT.cells] using hu⟩⟩
              have hown := own_later HO5.out.row hbC
              simp only at hown
              have g1 : Yn + 1 ≤ maxLen := by unfold maxLen; omega
              have g2 : (Yn + 1) * 72 ≤ 140737488355328 := by omega
              have g3 : q ≤ (wc.alloc (.cells #[.slice e.k.A e.k.n e.k.c, .bool e.put, .slice e.v.A e.v.n e.v.c, .bool e.b, .int .i64 e.n] 49)).heap.size := Nat.le_trans HQw5.out hbC.size
              have h1c := cells_ed1 [e]
              rw [List.flatMap_singleton] at h1c
              have HBC := Lib.hid hbC
              have HY1 : Hid (Yn + 1 ≤ 512) := Lib.hid (by omega)
              clear hno hlen5 hbC h512 hY
              go_wp2_with (at_builtin; refine wpList_append_shows _ rfl _ _ 22 rfl q 49 i0 (.agg #[.slice none 0 0, .bool false, .slice none 0 0, .bool false, .int .i64 0]) 5 72 Try.underlying22 hi0 hz0 hz1 hz2 rfl (by decide) _ _ _ rfl hown (wc.heap.size + 1) _ 1 _ _ rfl hsC h1c g1 g2 g3 ?_; intro A7 c7 w7 hown7 hgrow7 hb7; have HO7 := Lib.hid hown7; have HG7 := Lib.hid hgrow7; have HB7 := Lib.hid hb7; clear hown7 hgrow7 hb7 hown hsC g1 g2 g3 h1c)
              have HQ7 : Hid (QMem w7 q q B (some ⟨g, 0, none⟩) c' R3) := Lib.hid ((HQ5.out.later HBw5.out HBC.out).kept (own_later HO5.out.row HBC.out) HG7.out (HB7.out.mono HB.out))
              have HO7' : Hid (OwnE w7 q B ⟨A7, Yn + 1, c7, YE ++ [e]⟩) := Lib.hid (by
                refine ⟨?_, fun x hx => ?_⟩
                · show w7.ownsRow q _ 5 _ (Yn + 1) ((YE ++ [e]).flatMap EdT.cells)
                  rw [List.flatMap_append, List.flatMap_singleton]
                  exact HO7.out
                · have hbb : Below B wc w7 := (HBC.out.mono HBw5.out).trans (HB7.out.mono HB.out)
                  rcases List.mem_append.1 hx with hx | hx
                  · exact (HO5.out.all x hx).later hbb
                  · rw [List.mem_singleton.1 hx]
                    exact HEO5.out.later hbb)
              have HYS7 : Hid (EsT.s ⟨A7, Yn + 1, c7, YE ++ [e]⟩ = Ys ++ [e.s]) := Lib.hid (by
                rw [← HYS.out]
                unfold EsT.s
                rw [List.map_append]
                rfl)
              have HBF : Hid (Below q W w7) := Lib.hid ((HB5.out.trans (HBC.out.mono HQw5.out)).trans HB7.out)
              go_roundg (cntR (R3.map RsT.s))
              case rel => exact ⟨⟨A7, Yn + 1, c7, YE ++ [e]⟩, some ⟨g, 0, none⟩, c', R3, by first | rfl | simp, rfl, HY1.out, HR3N.out, HBF, HQ7, HO7', HH3, by rw [HYS7.out]; exact HRun3⟩
              case measure => have := HCN.out; omega
          · have HRun3 : Hid (Run (L.map EsT.s) (R3.map RsT.s) Ys) := Lib.hid (by
              obtain ⟨x, hx, hk⟩ := HST.out.1 rfl
              obtain ⟨ys, hys⟩ := List.getLast?_eq_some_iff.1 hx
              exact (run_same HRun2.out HMin.out (by rw [hys]; exact List.mem_append_right _ List.mem_cons_self) hk).perm HP3.out.symm)
            go_wp2_with fail
            go_roundg (cntR (R3.map RsT.s))
            case rel => exact ⟨⟨YA, Yn, Yc, YE⟩, some ⟨g, 0, none⟩, c', R3, rfl, rfl, hY, HR3N.out, HB5, HQ5, HO5, HH3, by rw [HYS.out]; exact HRun3⟩
            case measure =>
              have h := HCN.out
              rw [List.map_cons] at h
              first | omega | exact Nat.lt_of_succ_le (Nat.le_of_eq h)
end Go.Proofs.Ytkbcgcokokddlaa
