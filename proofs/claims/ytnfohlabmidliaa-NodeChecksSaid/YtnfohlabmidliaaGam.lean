import Derived.Test.YtnfohlabmidliaaGal
import Derived.Test.YtnfohlabmidliaaGag
import Derived.Test.YtnfohlabmidliaaGac
/-
  Layer 14: own.
-/
namespace Go.Proofs.Ytnfohlabmidliaa
open Go.RowKit
set_option linter.unusedVariables false
set_option linter.unusedSimpArgs false

theorem NBox.set1 {W : World} {g : Nat} {a b c : Value} (h : NBox W g a b c) (u : Value) : NBox (W.setCell ⟨g, 1, none⟩ u) g a u c := by
  obtain ⟨⟨r0, r1, r2⟩, f0, f1, f2⟩ := h
  exact ⟨⟨(World.cell?_setCell_other W _ _ _ (by simp)).trans r0, World.cell?_setCell_same W _ _ r1, (World.cell?_setCell_other W _ _ _ (by simp)).trans r2⟩, by simpa using f0, by simpa using f1, by simpa using f2⟩
theorem NBox.set2 {W : World} {g : Nat} {a b c : Value} (h : NBox W g a b c) (u : Value) : NBox (W.setCell ⟨g, 2, none⟩ u) g a b u := by
  obtain ⟨⟨r0, r1, r2⟩, f0, f1, f2⟩ := h
  exact ⟨⟨(World.cell?_setCell_other W _ _ _ (by simp)).trans r0, (World.cell?_setCell_other W _ _ _ (by simp)).trans r1, World.cell?_setCell_same W _ _ r2⟩, by simpa using f0, by simpa using f1, by simpa using f2⟩
theorem NBox.other {W : World} {g j k : Nat} {a b c : Value} (h : NBox W g a b c) (hne : g ≠ j) (u : Value) : NBox (W.setCell ⟨j, k, none⟩ u) g a b c := by
  obtain ⟨⟨r0, r1, r2⟩, f0, f1, f2⟩ := h
  exact ⟨⟨(World.cell?_setCell_other W _ _ _ (by simp [hne])).trans r0, (World.cell?_setCell_other W _ _ _ (by simp [hne])).trans r1, (World.cell?_setCell_other W _ _ _ (by simp [hne])).trans r2⟩, by simpa using f0, by simpa using f1, by simpa using f2⟩
/-- The rows of a node, cloned. -/
def Own2 (X : NoT) (m1 m2 N : Nat) (w wx : World) : Prop :=
  ∃ (A1 : Option Addr) (c1 : Nat) (A2 : Option Addr) (c2 : Nat), NBox wx N (.bool X.leaf) (.slice A1 m1 c1) (.slice A2 m2 c2) ∧ NBox wx (N + 1) (.bool false) (.slice none 0 0) (.slice none 0 0) ∧ wx.ownsRow (N + 2) 58 4 (.slice A1 m1 c1) m1 ((X.I.take m1).flatMap ItT.cells) ∧ wx.ownsRow (N + 2) 60 8 (.slice A2 m2 c2) m2 ((X.K.take m2).flatMap KiT.cells) ∧ Below N w wx ∧ N + 2 ≤ wx.heap.size
theorem flat_first {α : Type} (f : α → List Value) (d : Nat) (hf : ∀ x, (f x).length = d) : ∀ (L : List α) (m : Nat), (L.flatMap f).take (m * d) = (L.take m).flatMap f
  | [], m => by simp
  | x :: L, 0 => by simp
  | x :: L, m + 1 => by
    rw [List.flatMap_cons, List.take_succ_cons, List.flatMap_cons, List.take_append, hf, List.take_of_length_le (by rw [hf, Nat.succ_mul]; omega), show (m + 1) * d - d = m * d by rw [Nat.succ_mul]; omega, flat_first f d hf L m]
theorem it_cell {W : World} {D g n c i : Nat} {L : List ItT} {x : ItT} (h : W.ownsRow D 58 4 (.slice (some ⟨g, 0, none⟩) n c) n (L.flatMap ItT.cells)) (hx : L[i]? = some x) (j : Nat) (hj : j < 4) : W.cell? ⟨g, i * 4 + j, none⟩ = (x.cells)[j]? := by
  have hl : i < L.length := (List.getElem?_eq_some_iff.1 hx).1
  have hn : L.length = n := by have := h.1; rw [flatN_len ItT.cells 4 (fun _ => rfl)] at this; omega
  obtain ⟨b, off, he, _, hc⟩ := (Shows.own h).2 (by omega)
  injection he with he
  injection he with e1 e2
  subst e1 e2
  have hh := flatN_at ItT.cells 4 (fun _ => rfl) L i x hx j hj
  obtain ⟨v, hv⟩ : ∃ v, (x.cells)[j]? = some v := ⟨_, List.getElem?_eq_getElem (by show j < 4; exact hj)⟩
  rw [hv] at hh ⊢
  rw [← hc (i * 4 + j) v hh, Nat.zero_add]
theorem nbox4 {W : World} {g : Nat} {a b c d : Value} {t : TypeId} (h : W.heap[g]? = some (.cells #[a, b, c, d] t (0, 0))) : (W.cell? ⟨g, 0, none⟩ = some a ∧ W.cell? ⟨g, 1, none⟩ = some b ∧ W.cell? ⟨g, 2, none⟩ = some c ∧ W.cell? ⟨g, 3, none⟩ = some d) ∧ True := by
  refine ⟨⟨?_, ?_, ?_, ?_⟩, trivial⟩
  · rw [cell_of_row _ _ _ _ _ _ h]; rfl
  · rw [cell_of_row _ _ _ _ _ _ h]; rfl
  · rw [cell_of_row _ _ _ _ _ _ h]; rfl
  · rw [cell_of_row _ _ _ _ _ _ h]; rfl
theorem cells3_off {W : World} {N g g5 k : Nat} {a b c u : Value} (h : W.cell? ⟨N, 1, none⟩ = some a ∧ W.cell? ⟨g5, 0, none⟩ = some b ∧ W.cell? ⟨g5, 1, none⟩ = some c) (h1 : N ≠ g) (h2 : g5 ≠ g) : (W.setCell ⟨g, k, none⟩ u).cell? ⟨N, 1, none⟩ = some a ∧ (W.setCell ⟨g, k, none⟩ u).cell? ⟨g5, 0, none⟩ = some b ∧ (W.setCell ⟨g, k, none⟩ u).cell? ⟨g5, 1, none⟩ = some c :=
  ⟨(World.cell?_setCell_other W _ _ _ (by simp [h1])).trans h.1, (World.cell?_setCell_other W _ _ _ (by simp [h2])).trans h.2.1, (World.cell?_setCell_other W _ _ _ (by simp [h2])).trans h.2.2⟩
/-- Where a round over the items begins. -/
def RndO (X : NoT) (A1 : Option Addr) (c1 : Nat) (A2 : Option Addr) (c2 m1 m2 N : Nat) (w : World) (i : Nat) (wr : World) : Prop :=
  ∃ J : List ItT, J.length = i ∧ NBox wr N (.bool X.leaf) (.slice A1 m1 c1) (.slice A2 m2 c2) ∧ NBox wr (N + 1) (.bool false) (.slice none 0 0) (.slice none 0 0) ∧ wr.ownsRow (N + 2) 58 4 (.slice A1 m1 c1) m1 ((J ++ (X.I.take m1).drop i).flatMap ItT.cells) ∧ OwnI wr (N + 2) J ∧ J.map ItT.s = (X.I.take i).map (fun x => cutI x.s) ∧ wr.ownsRow (N + 2) 60 8 (.slice A2 m2 c2) m2 ((X.K.take m2).flatMap KiT.cells) ∧ Below N w wr ∧ N + 2 ≤ wr.heap.size
theorem own_store {W : World} {D D' n n' c g j s : Nat} {t t' : TypeId} {v : Value} {xs ys : List Value} {u : Value} (h : W.ownsRow D t' s v n' ys) (ho : W.ownsRow D' t 4 (.slice (some ⟨g, 0, none⟩) n c) n xs) (ht : t ≠ t') : (W.setCell ⟨g, j, none⟩ u).ownsRow D t' s v n' ys :=
  h.kept (World.ownsRow.stored ho j u).2 (by
    rcases h.2 with ⟨e, _⟩ | ⟨b, cap, cur, e, _, hh, _⟩
    · rw [e]; exact .inl rfl
    · rw [e]
      exact .inr (own_blk_ne ho hh (Ne.symm ht)))
theorem own_round {w W : World} {X : NoT} {A1 A2 : Option Addr} {g c1 c2 m1 m2 i nk nv ck cv : Nat} {Bk Bv : Option Addr} {J : List ItT} {x : ItT} (hlt : i < m1) (hJ : J.length = i) (hx : X.I[i]? = some x)
    (hn1 : NBox W w.heap.size (.bool X.leaf) (.slice (some ⟨g, 0, none⟩) m1 c1) (.slice A2 m2 c2)) (hn2 : NBox W (w.heap.size + 1) (.bool false) (.slice none 0 0) (.slice none 0 0))
    (ho : W.ownsRow (w.heap.size + 2) 58 4 (.slice (some ⟨g, 0, none⟩) m1 c1) m1 ((J ++ (X.I.take m1).drop i).flatMap ItT.cells)) (hoJ : OwnI W (w.heap.size + 2) J) (hJs : J.map ItT.s = (X.I.take i).map (fun x => cutI x.s))
    (ho2 : W.ownsRow (w.heap.size + 2) 60 8 (.slice A2 m2 c2) m2 ((X.K.take m2).flatMap KiT.cells)) (hbz : Below w.heap.size w W) (hsz : w.heap.size + 2 ≤ W.heap.size) (hg : w.heap.size + 2 ≤ g)
    (hk : W.ownsRow (w.heap.size + 2) 5 1 (.slice Bk nk ck) nk ((x.k.l.take 121).map bv)) (hv : W.ownsRow (w.heap.size + 2) 5 1 (.slice Bv nv cv) nv ((x.v.l.take 121).map bv)) (hnum : R64 x.n) :
    RndO X (some ⟨g, 0, none⟩) c1 A2 c2 m1 m2 w.heap.size w (i + 1) ((W.setCell ⟨g, i * 4, none⟩ (.slice Bk nk ck)).setCell ⟨g, i * 4 + 1, none⟩ (.slice Bv nv cv)) := by
  have hd : (X.I.take m1).drop i = x :: (X.I.take m1).drop (i + 1) := dropN (by rw [List.getElem?_take, if_pos hlt]; exact hx)
  rw [hd] at ho
  have h1 := (World.ownsRow.stored ho (i * 4) (.slice Bk nk ck)).1
  have e1 := set_flat ItT.cells 4 0 (fun _ => rfl) (by decide) J ((X.I.take m1).drop (i + 1)) x ⟨⟨Bk, nk, ck, x.k.l.take 121⟩, x.v, x.b, x.n⟩ (.slice Bk nk ck) rfl
  rw [hJ, show i * 4 + 0 = i * 4 from rfl] at e1
  rw [e1] at h1
  have h2 := (World.ownsRow.stored h1 (i * 4 + 1) (.slice Bv nv cv)).1
  have e2 := set_flat ItT.cells 4 1 (fun _ => rfl) (by decide) J ((X.I.take m1).drop (i + 1)) ⟨⟨Bk, nk, ck, x.k.l.take 121⟩, x.v, x.b, x.n⟩ ⟨⟨Bk, nk, ck, x.k.l.take 121⟩, ⟨Bv, nv, cv, x.v.l.take 121⟩, x.b, x.n⟩ (.slice Bv nv cv) rfl
  rw [hJ] at e2
  rw [e2] at h2
  refine ⟨J ++ [⟨⟨Bk, nk, ck, x.k.l.take 121⟩, ⟨Bv, nv, cv, x.v.l.take 121⟩, x.b, x.n⟩], by rw [List.length_append, hJ]; rfl, (hn1.other (by omega) _).other (by omega) _, (hn2.other (by omega) _).other (by omega) _, ?_, ?_, ?_, own_store (own_store ho2 ho (by decide)) h1 (by decide), (hbz.setCell (by show w.heap.size ≤ g; omega) _).setCell (by show w.heap.size ≤ g; omega) _, by rw [size_set, size_set]; exact hsz⟩
  · rw [List.append_assoc]; exact h2
  · have hJ2 := (hoJ.store (j := i * 4) (u := .slice Bk nk ck) ho (by decide)).store (j := i * 4 + 1) (u := .slice Bv nv cv) h1 (by decide)
    intro y hy
    rcases List.mem_append.1 hy with h | h
    · exact hJ2 y h
    · obtain rfl := List.mem_singleton.1 h
      exact ⟨own_store (own_store hk ho (by decide)) h1 (by decide), own_store (own_store hv ho (by decide)) h1 (by decide), hnum⟩
  · rw [List.map_append, hJs, takeN hx, List.map_append]
    rfl
theorem ki_cell {W : World} {D g n c i : Nat} {L : List KiT} {x : KiT} (h : W.ownsRow D 60 8 (.slice (some ⟨g, 0, none⟩) n c) n (L.flatMap KiT.cells)) (hx : L[i]? = some x) (j : Nat) (hj : j < 8) : W.cell? ⟨g, i * 8 + j, none⟩ = (x.cells)[j]? := by
  have hl : i < L.length := (List.getElem?_eq_some_iff.1 hx).1
  have hn : L.length = n := by have := h.1; rw [flatN_len KiT.cells 8 (fun _ => rfl)] at this; omega
  obtain ⟨b, off, he, _, hc⟩ := (Shows.own h).2 (by omega)
  injection he with he
  injection he with e1 e2
  subst e1 e2
  have hh := flatN_at KiT.cells 8 (fun _ => rfl) L i x hx j hj
  obtain ⟨v, hv⟩ : ∃ v, (x.cells)[j]? = some v := ⟨_, List.getElem?_eq_getElem (by show j < 8; exact hj)⟩
  rw [hv] at hh ⊢
  rw [← hc (i * 8 + j) v hh, Nat.zero_add]
theorem cells2_off {W : World} {N g g5 k : Nat} {a b u : Value} (h : W.cell? ⟨N, 2, none⟩ = some a ∧ W.cell? ⟨g5, 0, none⟩ = some b) (h1 : N ≠ g) (h2 : g5 ≠ g) : (W.setCell ⟨g, k, none⟩ u).cell? ⟨N, 2, none⟩ = some a ∧ (W.setCell ⟨g, k, none⟩ u).cell? ⟨g5, 0, none⟩ = some b :=
  ⟨(World.cell?_setCell_other W _ _ _ (by simp [h1])).trans h.1, (World.cell?_setCell_other W _ _ _ (by simp [h2])).trans h.2⟩
theorem own_store8 {W : World} {D D' n n' c g j s : Nat} {t t' : TypeId} {v : Value} {xs ys : List Value} {u : Value} (h : W.ownsRow D t' s v n' ys) (ho : W.ownsRow D' t 8 (.slice (some ⟨g, 0, none⟩) n c) n xs) (ht : t ≠ t') : (W.setCell ⟨g, j, none⟩ u).ownsRow D t' s v n' ys :=
  h.kept (World.ownsRow.stored ho j u).2 (by
    rcases h.2 with ⟨e, _⟩ | ⟨b, cap, cur, e, _, hh, _⟩
    · rw [e]; exact .inl rfl
    · rw [e]
      exact .inr (own_blk_ne ho hh (Ne.symm ht)))
/-- Where a round over the kids begins. -/
def RndQ (X : NoT) (I' : List ItT) (A1 : Option Addr) (c1 : Nat) (A2 : Option Addr) (c2 m1 m2 N : Nat) (w : World) (i : Nat) (wr : World) : Prop :=
  ∃ J : List KiT, J.length = i ∧ NBox wr N (.bool X.leaf) (.slice A1 m1 c1) (.slice A2 m2 c2) ∧ NBox wr (N + 1) (.bool false) (.slice none 0 0) (.slice none 0 0) ∧ wr.ownsRow (N + 2) 58 4 (.slice A1 m1 c1) m1 (I'.flatMap ItT.cells) ∧ OwnI wr (N + 2) I' ∧ wr.ownsRow (N + 2) 60 8 (.slice A2 m2 c2) m2 ((J ++ (X.K.take m2).drop i).flatMap KiT.cells) ∧ OwnK wr (N + 2) J ∧ J.map KiT.s = (X.K.take i).map (fun x => cutK x.s) ∧ Below N w wr ∧ N + 2 ≤ wr.heap.size
theorem own_end {w W : World} {Y : NoT} {s : NoS} (h1 : W.ownsRow (w.heap.size + 2) 58 4 (.slice Y.iA Y.iN Y.iC) Y.iN (Y.I.flatMap ItT.cells)) (h2 : W.ownsRow (w.heap.size + 2) 60 8 (.slice Y.kA Y.kN Y.kC) Y.kN (Y.K.flatMap KiT.cells)) (h3 : OwnI W (w.heap.size + 2) Y.I) (h4 : OwnK W (w.heap.size + 2) Y.K) (h5 : Y.s = s) {u0 u1 u2 : Value} :
    OwnN s Y w.heap.size (((W.setCell ⟨w.heap.size + 1, 0, none⟩ u0).setCell ⟨w.heap.size + 1, 1, none⟩ u1).setCell ⟨w.heap.size + 1, 2, none⟩ u2) := by
  have hlt : w.heap.size + 1 < w.heap.size + 2 := by omega
  have k1 := ownsRow_setCell_below (ownsRow_setCell_below (ownsRow_setCell_below h1 (a := ⟨w.heap.size + 1, 0, none⟩) hlt u0) (a := ⟨w.heap.size + 1, 1, none⟩) hlt u1) (a := ⟨w.heap.size + 1, 2, none⟩) hlt u2
  have k2 := ownsRow_setCell_below (ownsRow_setCell_below (ownsRow_setCell_below h2 (a := ⟨w.heap.size + 1, 0, none⟩) hlt u0) (a := ⟨w.heap.size + 1, 1, none⟩) hlt u1) (a := ⟨w.heap.size + 1, 2, none⟩) hlt u2
  have k3 := ((h3.below (a := ⟨w.heap.size + 1, 0, none⟩) hlt u0).below (a := ⟨w.heap.size + 1, 1, none⟩) hlt u1).below (a := ⟨w.heap.size + 1, 2, none⟩) hlt u2
  have k4 := ((h4.below (a := ⟨w.heap.size + 1, 0, none⟩) hlt u0).below (a := ⟨w.heap.size + 1, 1, none⟩) hlt u1).below (a := ⟨w.heap.size + 1, 2, none⟩) hlt u2
  have hb : w.heap.size ≤ w.heap.size + 2 := by omega
  exact ⟨own_base k1 hb, own_base k2 hb, fun x hx => ⟨own_base (k3 x hx).1 hb, own_base (k3 x hx).2.1 hb, (k3 x hx).2.2⟩, fun x hx => ⟨own_base (k4 x hx).1 hb, (k4 x hx).2⟩, h5⟩
theorem own_roundK {w W : World} {X : NoT} {A1 : Option Addr} {g c1 c2 m1 m2 i nk ck : Nat} {Bk : Option Addr} {I' : List ItT} {J : List KiT} {x : KiT} (hlt : i < m2) (hJ : J.length = i) (hx : X.K[i]? = some x)
    (hn1 : NBox W w.heap.size (.bool X.leaf) (.slice A1 m1 c1) (.slice (some ⟨g, 0, none⟩) m2 c2)) (hn2 : NBox W (w.heap.size + 1) (.bool false) (.slice none 0 0) (.slice none 0 0))
    (ho1 : W.ownsRow (w.heap.size + 2) 58 4 (.slice A1 m1 c1) m1 (I'.flatMap ItT.cells)) (hoI : OwnI W (w.heap.size + 2) I')
    (ho : W.ownsRow (w.heap.size + 2) 60 8 (.slice (some ⟨g, 0, none⟩) m2 c2) m2 ((J ++ (X.K.take m2).drop i).flatMap KiT.cells)) (hoJ : OwnK W (w.heap.size + 2) J) (hJs : J.map KiT.s = (X.K.take i).map (fun x => cutK x.s))
    (hbz : Below w.heap.size w W) (hsz : w.heap.size + 2 ≤ W.heap.size) (hg : w.heap.size + 2 ≤ g)
    (hk : W.ownsRow (w.heap.size + 2) 5 1 (.slice Bk nk ck) nk ((x.k.l.take 121).map bv)) (hpr : R64 x.a ∧ x.r.ok) :
    RndQ X I' A1 c1 (some ⟨g, 0, none⟩) c2 m1 m2 w.heap.size w (i + 1) (W.setCell ⟨g, i * 8, none⟩ (.slice Bk nk ck)) := by
  have hd : (X.K.take m2).drop i = x :: (X.K.take m2).drop (i + 1) := dropN (by rw [List.getElem?_take, if_pos hlt]; exact hx)
  rw [hd] at ho
  have h1 := (World.ownsRow.stored ho (i * 8) (.slice Bk nk ck)).1
  have e1 := set_flat KiT.cells 8 0 (fun _ => rfl) (by decide) J ((X.K.take m2).drop (i + 1)) x ⟨⟨Bk, nk, ck, x.k.l.take 121⟩, x.a, x.r⟩ (.slice Bk nk ck) rfl
  rw [hJ, show i * 8 + 0 = i * 8 from rfl] at e1
  rw [e1] at h1
  refine ⟨J ++ [⟨⟨Bk, nk, ck, x.k.l.take 121⟩, x.a, x.r⟩], by rw [List.length_append, hJ]; rfl, hn1.other (by omega) _, hn2.other (by omega) _, own_store8 ho1 ho (by decide), hoI.store ho (by decide), ?_, ?_, ?_, hbz.setCell (by show w.heap.size ≤ g; omega) _, by rw [size_set]; exact hsz⟩
  · rw [List.append_assoc]; exact h1
  · have hJ2 := hoJ.store (j := i * 8) (u := .slice Bk nk ck) ho (by decide)
    intro y hy
    rcases List.mem_append.1 hy with h | h
    · exact hJ2 y h
    · obtain rfl := List.mem_singleton.1 h
      exact ⟨own_store8 hk ho (by decide), hpr⟩
  · rw [List.map_append, hJs, takeN hx, List.map_append]
    rfl
set_option maxRecDepth 20000 in
set_option maxHeartbeats 8000000 in
theorem nown_any (X : NoT) (B : Nat) (w : World) (hX : LieN w B X) (hB : B ≤ w.heap.size) :
    Calls Try.prog 12 #[X.agg] w (OwnP X w) := by
  obtain ⟨m1, hm1⟩ : ∃ m : Nat, m = min X.iN 7 := ⟨_, rfl⟩
  obtain ⟨m2, hm2⟩ : ∃ m : Nat, m = min X.kN 7 := ⟨_, rfl⟩
  have hmi : m1 ≤ X.iN := by omega
  have hmk : m2 ≤ X.kN := by omega
  have hb0 := bel_alloc (bel_alloc (Below.refl w.heap.size w) (.cells #[.bool X.leaf, .slice X.iA X.iN X.iC, .slice X.kA X.kN X.kC] 25)) (.cells #[.bool false, .slice none 0 0, .slice none 0 0] 25)
  have hn1 := (NBox.new w (.bool X.leaf) (.slice X.iA X.iN X.iC) (.slice X.kA X.kN X.kC) 25).later (bel_alloc (Below.refl _ _) (.cells #[.bool false, .slice none 0 0, .slice none 0 0] 25))
  have hn2 := NBox.new (w.alloc (.cells #[.bool X.leaf, .slice X.iA X.iN X.iC, .slice X.kA X.kN X.kC] 25)) (.bool false) (.slice none 0 0) (.slice none 0 0) 25
  rw [World.size_alloc] at hn2
  have hsz : ((w.alloc (.cells #[.bool X.leaf, .slice X.iA X.iN X.iC, .slice X.kA X.kN X.kC] 25)).alloc (.cells #[.bool false, .slice none 0 0, .slice none 0 0] 25)).heap.size = w.heap.size + 2 := by rw [World.size_alloc, World.size_alloc]
  have HL := Lib.hid (hX.later (hb0.mono hB))
  have HX0 := Lib.hid hX
  have HNN := Lib.hid (And.intro hn1 hn2)
  have e1 : min (X.iN : Int) 7 = (m1 : Int) := by omega
  have e2 : (if (7 : Int) < (X.iN : Int) then (7 : Int) else (X.iN : Int)) = (m1 : Int) := by split <;> omega
  have e3 : min (X.kN : Int) 7 = (m2 : Int) := by omega
  have e4 : (if (7 : Int) < (X.kN : Int) then (7 : Int) else (X.kN : Int)) = (m2 : Int) := by split <;> omega
  have i1 : (m1 : Int) ≤ (X.iN : Int) := by omega
  have i2 : (X.iN : Int) ≤ (X.iC : Int) := by have := hX.ifit; omega
  have i3 : (m1 : Int) ≤ (X.iC : Int) := by omega
  have i4 : X.iC ≤ 9223372036854775807 := by have h := hX.imost; unfold maxLen at h; exact h
  have k1 : (m2 : Int) ≤ (X.kN : Int) := by omega
  have k2 : (X.kN : Int) ≤ (X.kC : Int) := by have := hX.kfit; omega
  have k3 : (m2 : Int) ≤ (X.kC : Int) := by omega
  have k4 : X.kC ≤ 9223372036854775807 := by have h := hX.kmost; unfold maxLen at h; exact h
  have hagg : X.agg = .agg #[.bool X.leaf, .slice X.iA X.iN X.iC, .slice X.kA X.kN X.kC] := rfl
  rw [hagg]
  have HM1 := Lib.hid (show X.I.take m1 = X.I.take 7 by
    have := hX.ilen
    rcases Nat.le_total X.iN 7 with h | h
    · rw [show m1 = X.iN by omega, List.take_of_length_le (by omega), List.take_of_length_le (by omega)]
    · rw [show m1 = 7 by omega])
  have HM2 := Lib.hid (show X.K.take m2 = X.K.take 7 by
    have := hX.klen
    rcases Nat.le_total X.kN 7 with h | h
    · rw [show m2 = X.kN by omega, List.take_of_length_le (by omega), List.take_of_length_le (by omega)]
    · rw [show m2 = 7 by omega])
  have hm17 : m1 ≤ 7 := by omega
  have hm27 : m2 ≤ 7 := by omega
  clear hX hn1 hn2 hagg hm1 hm2
  go_enter Try.func12, Try.ntmps12
  go_upto_region 2 with fail
  generalize (w.alloc (.cells #[.bool X.leaf, .slice X.iA X.iN X.iC, .slice X.kA X.kN X.kC] 25)).alloc (.cells #[.bool false, .slice none 0 0, .slice none 0 0] 25) = W1 at *
  have HB := Lib.hid (fun W (h : Below W1.heap.size W1 W) => And.intro (HNN.out.1.later h) (HNN.out.2.later h))
  have HCI := Lib.hid (fun W (h : Below W1.heap.size W1 W) => cloneI_any X.iA m1 X.iC B (X.I.take m1) W (by have h9 := ((HL.out.later (h.mono (by omega))).irow.first hmi); rw [flat_first ItT.cells 4 (fun _ => rfl)] at h9; exact h9) HL.out.inil (Nat.le_trans hB (Nat.le_trans hb0.size h.size)) (by omega))
  have HCK := Lib.hid (fun W (h : Below W1.heap.size W1 W) => cloneK_any X.kA m2 X.kC B (X.K.take m2) W (by have h9 := ((HL.out.later (h.mono (by omega))).krow.first hmk); rw [flat_first KiT.cells 8 (fun _ => rfl)] at h9; exact h9) HL.out.knil (Nat.le_trans hB (Nat.le_trans hb0.size h.size)) (by omega))
  have hbw : Below W1.heap.size W1 W1.drew := below_drewN (Below.refl W1.heap.size W1) 1
  go_cut [] (fun wx => Own2 X m1 m2 w.heap.size w wx)
  case first =>
    refine wp_region_held_drew (S := fun _ => True) (by kernel_rfl) trivial (fun hHeld => ?_)
    refine rg_in 0 rfl (by kernel_rfl) (by kernel_rfl) (by kernel_rfl) (by rfl) (v := ?_) (fun _ _ _ h => h) hHeld (fun w hSw => ?_) ?_
    rotate_left
    · (try dsimp only at hSw); go_simp <;> (with_reducible rfl)
    (try simp only [Act.put, List.setIfInBounds_toArray, List.set_cons_zero, List.set_cons_succ])
    refine rg_in 2 rfl (by kernel_rfl) (by kernel_rfl) (by kernel_rfl) (by rfl) (v := ?_) (fun _ _ _ h => h) hHeld (fun w hSw => ?_) ?_
    rotate_left
    · (try dsimp only at hSw); go_simp <;> (with_reducible rfl)
    (try simp only [Act.put, List.setIfInBounds_toArray, List.set_cons_zero, List.set_cons_succ])
    refine rg_in 8 rfl (by kernel_rfl) (by kernel_rfl) (by kernel_rfl) (by rfl) (v := ?_) (fun _ _ _ h => h) hHeld (fun w hSw => ?_) ?_
    rotate_left
    · (try dsimp only at hSw); go_simp <;> (with_reducible rfl)
    (try simp only [Act.put, List.setIfInBounds_toArray, List.set_cons_zero, List.set_cons_succ])
    refine rg_in 10 rfl (by kernel_rfl) (by kernel_rfl) (by kernel_rfl) (by rfl) (v := ?_) (fun _ _ _ h => h) hHeld (fun w hSw => ?_) ?_
    rotate_left
    · (try dsimp only at hSw); go_simp <;> (with_reducible rfl)
    (try simp only [Act.put, List.setIfInBounds_toArray, List.set_cons_zero, List.set_cons_succ])
    refine wpAnyH_ready (rs := [1, 3, 9, 11]) (by kernel_rfl) (by simp) ?_
    refine rg_cons rfl (by rfl) (fun K hK => ?_) ?_
    · have hV := HB.out _ (Below.refl W1.heap.size W1)
      have hcl := hV.1.1.2.1
      go_simp
      clear hcl hV
      refine hK.out _ _ trivial (fun hHeld => ?_)
      clear hK K
      (try simp only [Act.put, List.setIfInBounds_toArray, List.set_cons_zero, List.set_cons_succ])
      refine wpAnyH_ready (rs := [3, 9, 11]) (by kernel_rfl) (by simp) ?_
      refine rg_cons rfl (by rfl) (fun K hK => ?_) ?_
      · have hV := HB.out _ (Below.refl W1.heap.size W1)
        have hcl := hV.1.1.2.1
        go_simp
        clear hcl hV
        refine hK.out _ _ trivial (fun hHeld => ?_)
        clear hK K
        (try simp only [Act.put, List.setIfInBounds_toArray, List.set_cons_zero, List.set_cons_succ])
        refine rg_in 4 rfl (by kernel_rfl) (by kernel_rfl) (by kernel_rfl) (by rfl) (v := ?_) (fun _ _ _ h => h) hHeld (fun w hSw => ?_) ?_
        rotate_left
        · (try dsimp only at hSw); go_simp <;> (with_reducible rfl)
        (try simp only [Act.put, List.setIfInBounds_toArray, List.set_cons_zero, List.set_cons_succ])
        refine rg_in 5 rfl (by kernel_rfl) (by kernel_rfl) (by kernel_rfl) (by rfl) (v := ?_) (fun _ _ _ h => h) hHeld (fun w hSw => ?_) ?_
        rotate_left
        · (try dsimp only at hSw); go_simp <;> (with_reducible rfl)
        (try simp only [Act.put, List.setIfInBounds_toArray, List.set_cons_zero, List.set_cons_succ])
        refine rg_in 6 rfl (by kernel_rfl) (by kernel_rfl) (by kernel_rfl) (by rfl) (v := ?_) (fun _ _ _ h => h) hHeld (fun w hSw => ?_) ?_
        rotate_left
        · (try dsimp only at hSw); go_simp <;> (with_reducible rfl)
        (try simp only [Act.put, List.setIfInBounds_toArray, List.set_cons_zero, List.set_cons_succ])
        refine wpAnyH_ready (rs := [7, 9, 11]) (by kernel_rfl) (by simp) ?_
        refine rg_cons rfl (by rfl) (fun K hK => ?_) ?_
        · have hcI := HCI.out _ hbw
          go_simp
          (go_at_call 34; (with_reducible refine hcI.mono ?_); (rintro e w107 ⟨A1, c1, rfl, hO1, hb7⟩))
          have hs1 := Below.size hbw
          clear hcI
          refine hK.out _ _ trivial (fun hHeld => ?_)
          clear hK K
          (try simp only [Act.put, List.setIfInBounds_toArray, List.set_cons_zero, List.set_cons_succ])
          refine wpAnyH_ready (rs := [9, 11]) (by kernel_rfl) (by simp) ?_
          refine rg_cons rfl (by rfl) (fun K hK => ?_) ?_
          · have hV := HB.out _ (bel_next hbw hb7)
            have hcl := hV.1.1.2.2
            go_simp
            clear hcl hV
            refine hK.out _ _ trivial (fun hHeld => ?_)
            clear hK K
            (try simp only [Act.put, List.setIfInBounds_toArray, List.set_cons_zero, List.set_cons_succ])
            refine rg_do 11 rfl (by kernel_rfl) (by rfl) (fun K hK => ?_)
            have hV := HB.out _ (bel_next hbw hb7)
            have hcl := hV.1.1.2.2
            go_simp
            clear hcl hV
            refine hK.out _ _ trivial (fun hHeld => ?_)
            clear hK K
            (try simp only [Act.put, List.setIfInBounds_toArray, List.set_cons_zero, List.set_cons_succ])
            refine rg_in 12 rfl (by kernel_rfl) (by kernel_rfl) (by kernel_rfl) (by rfl) (v := ?_) (fun _ _ _ h => h) hHeld (fun w hSw => ?_) ?_
            rotate_left
            · (try dsimp only at hSw); go_simp <;> (with_reducible rfl)
            (try simp only [Act.put, List.setIfInBounds_toArray, List.set_cons_zero, List.set_cons_succ])
            refine rg_in 13 rfl (by kernel_rfl) (by kernel_rfl) (by kernel_rfl) (by rfl) (v := ?_) (fun _ _ _ h => h) hHeld (fun w hSw => ?_) ?_
            rotate_left
            · (try dsimp only at hSw); go_simp <;> (with_reducible rfl)
            (try simp only [Act.put, List.setIfInBounds_toArray, List.set_cons_zero, List.set_cons_succ])
            refine rg_in 14 rfl (by kernel_rfl) (by kernel_rfl) (by kernel_rfl) (by rfl) (v := ?_) (fun _ _ _ h => h) hHeld (fun w hSw => ?_) ?_
            rotate_left
            · (try dsimp only at hSw); go_simp <;> (with_reducible rfl)
            (try simp only [Act.put, List.setIfInBounds_toArray, List.set_cons_zero, List.set_cons_succ])
            refine rg_in 16 rfl (by kernel_rfl) (by kernel_rfl) (by kernel_rfl) (by rfl) (v := ?_) (fun _ _ _ h => h) hHeld (fun w hSw => ?_) ?_
            rotate_left
            · (try dsimp only at hSw); go_simp <;> (with_reducible rfl)
            (try simp only [Act.put, List.setIfInBounds_toArray, List.set_cons_zero, List.set_cons_succ])
            refine rg_do 15 rfl (by kernel_rfl) (by rfl) (fun K hK => ?_)
            have hcK := HCK.out _ (bel_next hbw hb7)
            go_simp
            (go_at_call 35; (with_reducible refine hcK.mono ?_); (rintro e w115 ⟨A2, c2, rfl, hO2, hb15⟩))
            have hs2 := Below.size (bel_next hbw hb7)
            clear hcK
            refine hK.out _ _ trivial (fun hHeld => ?_)
            clear hK K
            (try simp only [Act.put, List.setIfInBounds_toArray, List.set_cons_zero, List.set_cons_succ])
            refine rg_do 17 rfl (by kernel_rfl) (by rfl) (fun K hK => ?_)
            have hV := HB.out _ (bel_next (bel_next hbw hb7) hb15)
            have hc1 := hV.1.1.2.1
            have hf1 := hV.1.2.2.1
            go_simp
            clear hc1 hf1
            refine hK.out _ _ trivial (fun hHeld => ?_)
            clear hK K
            (try simp only [Act.put, List.setIfInBounds_toArray, List.set_cons_zero, List.set_cons_succ])
            refine rg_in 18 rfl (by kernel_rfl) (by kernel_rfl) (by kernel_rfl) (by rfl) (v := ?_) (fun _ _ _ h => h) hHeld (fun w hSw => ?_) ?_
            rotate_left
            · (try dsimp only at hSw); go_simp <;> (with_reducible rfl)
            (try simp only [Act.put, List.setIfInBounds_toArray, List.set_cons_zero, List.set_cons_succ])
            refine rg_do 19 rfl (by kernel_rfl) (by rfl) (fun K hK => ?_)
            have hc2 := hV.1.1.2.2
            have hf2 := hV.1.2.2.2
            go_simp
            clear hc2 hf2
            refine hK.out _ _ trivial (fun hHeld => ?_)
            clear hK K
            (try simp only [Act.put, List.setIfInBounds_toArray, List.set_cons_zero, List.set_cons_succ])
            refine wpAnyH_done (by kernel_rfl) ?_ _
            have hb9 := (bel_next (bel_next hbw hb7) hb15)
            have hn1 := (hV.1.set1 (.slice A1 m1 c1)).set2 (.slice A2 m2 c2)
            have hn2 := (hV.2.other (k := 1) (j := w.heap.size) (by omega) (.slice A1 m1 c1)).other (k := 2) (j := w.heap.size) (by omega) (.slice A2 m2 c2)
            have ho1 := ownsRow_setCell_below (ownsRow_setCell_below (own_base (own_later hO1 hb15) (show w.heap.size + 2 ≤ _ by omega)) (a := ⟨w.heap.size, 1, none⟩) (by show w.heap.size < _; omega) (.slice A1 m1 c1)) (a := ⟨w.heap.size, 2, none⟩) (by show w.heap.size < _; omega) (.slice A2 m2 c2)
            have ho2 := ownsRow_setCell_below (ownsRow_setCell_below (own_base hO2 (show w.heap.size + 2 ≤ _ by omega)) (a := ⟨w.heap.size, 1, none⟩) (by show w.heap.size < _; omega) (.slice A1 m1 c1)) (a := ⟨w.heap.size, 2, none⟩) (by show w.heap.size < _; omega) (.slice A2 m2 c2)
            have hbz := ((hb0.trans (hb9.mono hb0.size)).setCell (p := ⟨w.heap.size, 1, none⟩) (Nat.le_refl _) (.slice A1 m1 c1)).setCell (p := ⟨w.heap.size, 2, none⟩) (Nat.le_refl _) (.slice A2 m2 c2)
            have hszz := hb9.size
            have HM := Lib.hid (show Own2 X m1 m2 w.heap.size w _ from ⟨A1, c1, A2, c2, hn1, hn2, ho1, ho2, hbz, by rw [size_set, size_set]; omega⟩)
            clear hHeld hV hn1 hn2 ho1 ho2 hbz hO1 hO2
            go_wp2_with fail
            go_meet
            case rel => exact HM.out
          refine rg_cons rfl (by rfl) (fun K hK => ?_) ?_
          · have hV := HB.out _ (bel_next hbw hb7)
            have hcl := hV.1.1.2.2
            go_simp
            clear hcl hV
            refine hK.out _ _ trivial (fun hHeld => ?_)
            clear hK K
            (try simp only [Act.put, List.setIfInBounds_toArray, List.set_cons_zero, List.set_cons_succ])
            refine rg_in 12 rfl (by kernel_rfl) (by kernel_rfl) (by kernel_rfl) (by rfl) (v := ?_) (fun _ _ _ h => h) hHeld (fun w hSw => ?_) ?_
            rotate_left
            · (try dsimp only at hSw); go_simp <;> (with_reducible rfl)
            (try simp only [Act.put, List.setIfInBounds_toArray, List.set_cons_zero, List.set_cons_succ])
            refine rg_in 13 rfl (by kernel_rfl) (by kernel_rfl) (by kernel_rfl) (by rfl) (v := ?_) (fun _ _ _ h => h) hHeld (fun w hSw => ?_) ?_
            rotate_left
            · (try dsimp only at hSw); go_simp <;> (with_reducible rfl)
            (try simp only [Act.put, List.setIfInBounds_toArray, List.set_cons_zero, List.set_cons_succ])
            refine rg_do 9 rfl (by kernel_rfl) (by rfl) (fun K hK => ?_)
            have hV := HB.out _ (bel_next hbw hb7)
            have hcl := hV.1.1.2.2
            go_simp
            clear hcl hV
            refine hK.out _ _ trivial (fun hHeld => ?_)
            clear hK K
            (try simp only [Act.put, List.setIfInBounds_toArray, List.set_cons_zero, List.set_cons_succ])
            refine rg_in 14 rfl (by kernel_rfl) (by kernel_rfl) (by kernel_rfl) (by rfl) (v := ?_) (fun _ _ _ h => h) hHeld (fun w hSw => ?_) ?_
            rotate_left
            · (try dsimp only at hSw); go_simp <;> (with_reducible rfl)
            (try simp only [Act.put, List.setIfInBounds_toArray, List.set_cons_zero, List.set_cons_succ])
            refine rg_in 16 rfl (by kernel_rfl) (by kernel_rfl) (by kernel_rfl) (by rfl) (v := ?_) (fun _ _ _ h => h) hHeld (fun w hSw => ?_) ?_
            rotate_left
            · (try dsimp only at hSw); go_simp <;> (with_reducible rfl)
            (try simp only [Act.put, List.setIfInBounds_toArray, List.set_cons_zero, List.set_cons_succ])
            refine rg_do 15 rfl (by kernel_rfl) (by rfl) (fun K hK => ?_)
            have hcK := HCK.out _ (bel_next hbw hb7)
            go_simp
            (go_at_call 35; (with_reducible refine hcK.mono ?_); (rintro e w115 ⟨A2, c2, rfl, hO2, hb15⟩))
            have hs2 := Below.size (bel_next hbw hb7)
            clear hcK
            refine hK.out _ _ trivial (fun hHeld => ?_)
            clear hK K
            (try simp only [Act.put, List.setIfInBounds_toArray, List.set_cons_zero, List.set_cons_succ])
            refine rg_do 17 rfl (by kernel_rfl) (by rfl) (fun K hK => ?_)
            have hV := HB.out _ (bel_next (bel_next hbw hb7) hb15)
            have hc1 := hV.1.1.2.1
            have hf1 := hV.1.2.2.1
            go_simp
            clear hc1 hf1
            refine hK.out _ _ trivial (fun hHeld => ?_)
            clear hK K
            (try simp only [Act.put, List.setIfInBounds_toArray, List.set_cons_zero, List.set_cons_succ])
            refine rg_in 18 rfl (by kernel_rfl) (by kernel_rfl) (by kernel_rfl) (by rfl) (v := ?_) (fun _ _ _ h => h) hHeld (fun w hSw => ?_) ?_
            rotate_left
            · (try dsimp only at hSw); go_simp <;> (with_reducible rfl)
            (try simp only [Act.put, List.setIfInBounds_toArray, List.set_cons_zero, List.set_cons_succ])
            refine rg_do 19 rfl (by kernel_rfl) (by rfl) (fun K hK => ?_)
            have hc2 := hV.1.1.2.2
            have hf2 := hV.1.2.2.2
            go_simp
            clear hc2 hf2
            refine hK.out _ _ trivial (fun hHeld => ?_)
            clear hK K
            (try simp only [Act.put, List.setIfInBounds_toArray, List.set_cons_zero, List.set_cons_succ])
            refine wpAnyH_done (by kernel_rfl) ?_ _
            have hb9 := (bel_next (bel_next hbw hb7) hb15)
            have hn1 := (hV.1.set1 (.slice A1 m1 c1)).set2 (.slice A2 m2 c2)
            have hn2 := (hV.2.other (k := 1) (j := w.heap.size) (by omega) (.slice A1 m1 c1)).other (k := 2) (j := w.heap.size) (by omega) (.slice A2 m2 c2)
            have ho1 := ownsRow_setCell_below (ownsRow_setCell_below (own_base (own_later hO1 hb15) (show w.heap.size + 2 ≤ _ by omega)) (a := ⟨w.heap.size, 1, none⟩) (by show w.heap.size < _; omega) (.slice A1 m1 c1)) (a := ⟨w.heap.size, 2, none⟩) (by show w.heap.size < _; omega) (.slice A2 m2 c2)
            have ho2 := ownsRow_setCell_below (ownsRow_setCell_below (own_base hO2 (show w.heap.size + 2 ≤ _ by omega)) (a := ⟨w.heap.size, 1, none⟩) (by show w.heap.size < _; omega) (.slice A1 m1 c1)) (a := ⟨w.heap.size, 2, none⟩) (by show w.heap.size < _; omega) (.slice A2 m2 c2)
            have hbz := ((hb0.trans (hb9.mono hb0.size)).setCell (p := ⟨w.heap.size, 1, none⟩) (Nat.le_refl _) (.slice A1 m1 c1)).setCell (p := ⟨w.heap.size, 2, none⟩) (Nat.le_refl _) (.slice A2 m2 c2)
            have hszz := hb9.size
            have HM := Lib.hid (show Own2 X m1 m2 w.heap.size w _ from ⟨A1, c1, A2, c2, hn1, hn2, ho1, ho2, hbz, by rw [size_set, size_set]; omega⟩)
            clear hHeld hV hn1 hn2 ho1 ho2 hbz hO1 hO2
            go_wp2_with fail
            go_meet
            case rel => exact HM.out
          exact AllReadyH.nil
        refine rg_cons rfl (by rfl) (fun K hK => ?_) ?_
        · have hV := HB.out _ (Below.refl W1.heap.size W1)
          have hcl := hV.1.1.2.2
          go_simp
          clear hcl hV
          refine hK.out _ _ trivial (fun hHeld => ?_)
          clear hK K
          (try simp only [Act.put, List.setIfInBounds_toArray, List.set_cons_zero, List.set_cons_succ])
          refine wpAnyH_ready (rs := [7, 11]) (by kernel_rfl) (by simp) ?_
          refine rg_cons rfl (by rfl) (fun K hK => ?_) ?_
          · have hcI := HCI.out _ hbw
            go_simp
            (go_at_call 34; (with_reducible refine hcI.mono ?_); (rintro e w107 ⟨A1, c1, rfl, hO1, hb7⟩))
            have hs1 := Below.size hbw
            clear hcI
            refine hK.out _ _ trivial (fun hHeld => ?_)
            clear hK K
            (try simp only [Act.put, List.setIfInBounds_toArray, List.set_cons_zero, List.set_cons_succ])
            refine rg_do 11 rfl (by kernel_rfl) (by rfl) (fun K hK => ?_)
            have hV := HB.out _ (bel_next hbw hb7)
            have hcl := hV.1.1.2.2
            go_simp
            clear hcl hV
            refine hK.out _ _ trivial (fun hHeld => ?_)
            clear hK K
            (try simp only [Act.put, List.setIfInBounds_toArray, List.set_cons_zero, List.set_cons_succ])
            refine rg_in 12 rfl (by kernel_rfl) (by kernel_rfl) (by kernel_rfl) (by rfl) (v := ?_) (fun _ _ _ h => h) hHeld (fun w hSw => ?_) ?_
            rotate_left
            · (try dsimp only at hSw); go_simp <;> (with_reducible rfl)
            (try simp only [Act.put, List.setIfInBounds_toArray, List.set_cons_zero, List.set_cons_succ])
            refine rg_in 13 rfl (by kernel_rfl) (by kernel_rfl) (by kernel_rfl) (by rfl) (v := ?_) (fun _ _ _ h => h) hHeld (fun w hSw => ?_) ?_
            rotate_left
            · (try dsimp only at hSw); go_simp <;> (with_reducible rfl)
            (try simp only [Act.put, List.setIfInBounds_toArray, List.set_cons_zero, List.set_cons_succ])
            refine rg_in 14 rfl (by kernel_rfl) (by kernel_rfl) (by kernel_rfl) (by rfl) (v := ?_) (fun _ _ _ h => h) hHeld (fun w hSw => ?_) ?_
            rotate_left
            · (try dsimp only at hSw); go_simp <;> (with_reducible rfl)
            (try simp only [Act.put, List.setIfInBounds_toArray, List.set_cons_zero, List.set_cons_succ])
            refine rg_in 16 rfl (by kernel_rfl) (by kernel_rfl) (by kernel_rfl) (by rfl) (v := ?_) (fun _ _ _ h => h) hHeld (fun w hSw => ?_) ?_
            rotate_left
            · (try dsimp only at hSw); go_simp <;> (with_reducible rfl)
            (try simp only [Act.put, List.setIfInBounds_toArray, List.set_cons_zero, List.set_cons_succ])
            refine rg_do 15 rfl (by kernel_rfl) (by rfl) (fun K hK => ?_)
            have hcK := HCK.out _ (bel_next hbw hb7)
            go_simp
            (go_at_call 35; (with_reducible refine hcK.mono ?_); (rintro e w115 ⟨A2, c2, rfl, hO2, hb15⟩))
            have hs2 := Below.size (bel_next hbw hb7)
            clear hcK
            refine hK.out _ _ trivial (fun hHeld => ?_)
            clear hK K
            (try simp only [Act.put, List.setIfInBounds_toArray, List.set_cons_zero, List.set_cons_succ])
            refine rg_do 17 rfl (by kernel_rfl) (by rfl) (fun K hK => ?_)
            have hV := HB.out _ (bel_next (bel_next hbw hb7) hb15)
            have hc1 := hV.1.1.2.1
            have hf1 := hV.1.2.2.1
            go_simp
            clear hc1 hf1
            refine hK.out _ _ trivial (fun hHeld => ?_)
            clear hK K
            (try simp only [Act.put, List.setIfInBounds_toArray, List.set_cons_zero, List.set_cons_succ])
            refine rg_in 18 rfl (by kernel_rfl) (by kernel_rfl) (by kernel_rfl) (by rfl) (v := ?_) (fun _ _ _ h => h) hHeld (fun w hSw => ?_) ?_
            rotate_left
            · (try dsimp only at hSw); go_simp <;> (with_reducible rfl)
            (try simp only [Act.put, List.setIfInBounds_toArray, List.set_cons_zero, List.set_cons_succ])
            refine rg_do 19 rfl (by kernel_rfl) (by rfl) (fun K hK => ?_)
            have hc2 := hV.1.1.2.2
            have hf2 := hV.1.2.2.2
            go_simp
            clear hc2 hf2
            refine hK.out _ _ trivial (fun hHeld => ?_)
            clear hK K
            (try simp only [Act.put, List.setIfInBounds_toArray, List.set_cons_zero, List.set_cons_succ])
            refine wpAnyH_done (by kernel_rfl) ?_ _
            have hb9 := (bel_next (bel_next hbw hb7) hb15)
            have hn1 := (hV.1.set1 (.slice A1 m1 c1)).set2 (.slice A2 m2 c2)
            have hn2 := (hV.2.other (k := 1) (j := w.heap.size) (by omega) (.slice A1 m1 c1)).other (k := 2) (j := w.heap.size) (by omega) (.slice A2 m2 c2)
            have ho1 := ownsRow_setCell_below (ownsRow_setCell_below (own_base (own_later hO1 hb15) (show w.heap.size + 2 ≤ _ by omega)) (a := ⟨w.heap.size, 1, none⟩) (by show w.heap.size < _; omega) (.slice A1 m1 c1)) (a := ⟨w.heap.size, 2, none⟩) (by show w.heap.size < _; omega) (.slice A2 m2 c2)
            have ho2 := ownsRow_setCell_below (ownsRow_setCell_below (own_base hO2 (show w.heap.size + 2 ≤ _ by omega)) (a := ⟨w.heap.size, 1, none⟩) (by show w.heap.size < _; omega) (.slice A1 m1 c1)) (a := ⟨w.heap.size, 2, none⟩) (by show w.heap.size < _; omega) (.slice A2 m2 c2)
            have hbz := ((hb0.trans (hb9.mono hb0.size)).setCell (p := ⟨w.heap.size, 1, none⟩) (Nat.le_refl _) (.slice A1 m1 c1)).setCell (p := ⟨w.heap.size, 2, none⟩) (Nat.le_refl _) (.slice A2 m2 c2)
            have hszz := hb9.size
            have HM := Lib.hid (show Own2 X m1 m2 w.heap.size w _ from ⟨A1, c1, A2, c2, hn1, hn2, ho1, ho2, hbz, by rw [size_set, size_set]; omega⟩)
            clear hHeld hV hn1 hn2 ho1 ho2 hbz hO1 hO2
            go_wp2_with fail
            go_meet
            case rel => exact HM.out
          refine rg_cons rfl (by rfl) (fun K hK => ?_) ?_
          · have hV := HB.out _ (Below.refl W1.heap.size W1)
            have hcl := hV.1.1.2.2
            go_simp
            clear hcl hV
            refine hK.out _ _ trivial (fun hHeld => ?_)
            clear hK K
            (try simp only [Act.put, List.setIfInBounds_toArray, List.set_cons_zero, List.set_cons_succ])
            refine rg_in 12 rfl (by kernel_rfl) (by kernel_rfl) (by kernel_rfl) (by rfl) (v := ?_) (fun _ _ _ h => h) hHeld (fun w hSw => ?_) ?_
            rotate_left
            · (try dsimp only at hSw); go_simp <;> (with_reducible rfl)
            (try simp only [Act.put, List.setIfInBounds_toArray, List.set_cons_zero, List.set_cons_succ])
            refine rg_in 13 rfl (by kernel_rfl) (by kernel_rfl) (by kernel_rfl) (by rfl) (v := ?_) (fun _ _ _ h => h) hHeld (fun w hSw => ?_) ?_
            rotate_left
            · (try dsimp only at hSw); go_simp <;> (with_reducible rfl)
            (try simp only [Act.put, List.setIfInBounds_toArray, List.set_cons_zero, List.set_cons_succ])
            refine rg_in 14 rfl (by kernel_rfl) (by kernel_rfl) (by kernel_rfl) (by rfl) (v := ?_) (fun _ _ _ h => h) hHeld (fun w hSw => ?_) ?_
            rotate_left
            · (try dsimp only at hSw); go_simp <;> (with_reducible rfl)
            (try simp only [Act.put, List.setIfInBounds_toArray, List.set_cons_zero, List.set_cons_succ])
            refine rg_do 7 rfl (by kernel_rfl) (by rfl) (fun K hK => ?_)
            have hcI := HCI.out _ hbw
            go_simp
            (go_at_call 34; (with_reducible refine hcI.mono ?_); (rintro e w107 ⟨A1, c1, rfl, hO1, hb7⟩))
            have hs1 := Below.size hbw
            clear hcI
            refine hK.out _ _ trivial (fun hHeld => ?_)
            clear hK K
            (try simp only [Act.put, List.setIfInBounds_toArray, List.set_cons_zero, List.set_cons_succ])
            refine rg_in 16 rfl (by kernel_rfl) (by kernel_rfl) (by kernel_rfl) (by rfl) (v := ?_) (fun _ _ _ h => h) hHeld (fun w hSw => ?_) ?_
            rotate_left
            · (try dsimp only at hSw); go_simp <;> (with_reducible rfl)
            (try simp only [Act.put, List.setIfInBounds_toArray, List.set_cons_zero, List.set_cons_succ])
            refine rg_do 15 rfl (by kernel_rfl) (by rfl) (fun K hK => ?_)
            have hcK := HCK.out _ (bel_next hbw hb7)
            go_simp
            (go_at_call 35; (with_reducible refine hcK.mono ?_); (rintro e w115 ⟨A2, c2, rfl, hO2, hb15⟩))
            have hs2 := Below.size (bel_next hbw hb7)
            clear hcK
            refine hK.out _ _ trivial (fun hHeld => ?_)
            clear hK K
            (try simp only [Act.put, List.setIfInBounds_toArray, List.set_cons_zero, List.set_cons_succ])
            refine rg_do 17 rfl (by kernel_rfl) (by rfl) (fun K hK => ?_)
            have hV := HB.out _ (bel_next (bel_next hbw hb7) hb15)
            have hc1 := hV.1.1.2.1
            have hf1 := hV.1.2.2.1
            go_simp
            clear hc1 hf1
            refine hK.out _ _ trivial (fun hHeld => ?_)
            clear hK K
            (try simp only [Act.put, List.setIfInBounds_toArray, List.set_cons_zero, List.set_cons_succ])
            refine rg_in 18 rfl (by kernel_rfl) (by kernel_rfl) (by kernel_rfl) (by rfl) (v := ?_) (fun _ _ _ h => h) hHeld (fun w hSw => ?_) ?_
            rotate_left
            · (try dsimp only at hSw); go_simp <;> (with_reducible rfl)
            (try simp only [Act.put, List.setIfInBounds_toArray, List.set_cons_zero, List.set_cons_succ])
            refine rg_do 19 rfl (by kernel_rfl) (by rfl) (fun K hK => ?_)
            have hc2 := hV.1.1.2.2
            have hf2 := hV.1.2.2.2
            go_simp
            clear hc2 hf2
            refine hK.out _ _ trivial (fun hHeld => ?_)
            clear hK K
            (try simp only [Act.put, List.setIfInBounds_toArray, List.set_cons_zero, List.set_cons_succ])
            refine wpAnyH_done (by kernel_rfl) ?_ _
            have hb9 := (bel_next (bel_next hbw hb7) hb15)
            have hn1 := (hV.1.set1 (.slice A1 m1 c1)).set2 (.slice A2 m2 c2)
            have hn2 := (hV.2.other (k := 1) (j := w.heap.size) (by omega) (.slice A1 m1 c1)).other (k := 2) (j := w.heap.size) (by omega) (.slice A2 m2 c2)
            have ho1 := ownsRow_setCell_below (ownsRow_setCell_below (own_base (own_later hO1 hb15) (show w.heap.size + 2 ≤ _ by omega)) (a := ⟨w.heap.size, 1, none⟩) (by show w.heap.size < _; omega) (.slice A1 m1 c1)) (a := ⟨w.heap.size, 2, none⟩) (by show w.heap.size < _; omega) (.slice A2 m2 c2)
            have ho2 := ownsRow_setCell_below (ownsRow_setCell_below (own_base hO2 (show w.heap.size + 2 ≤ _ by omega)) (a := ⟨w.heap.size, 1, none⟩) (by show w.heap.size < _; omega) (.slice A1 m1 c1)) (a := ⟨w.heap.size, 2, none⟩) (by show w.heap.size < _; omega) (.slice A2 m2 c2)
            have hbz := ((hb0.trans (hb9.mono hb0.size)).setCell (p := ⟨w.heap.size, 1, none⟩) (Nat.le_refl _) (.slice A1 m1 c1)).setCell (p := ⟨w.heap.size, 2, none⟩) (Nat.le_refl _) (.slice A2 m2 c2)
            have hszz := hb9.size
            have HM := Lib.hid (show Own2 X m1 m2 w.heap.size w _ from ⟨A1, c1, A2, c2, hn1, hn2, ho1, ho2, hbz, by rw [size_set, size_set]; omega⟩)
            clear hHeld hV hn1 hn2 ho1 ho2 hbz hO1 hO2
            go_wp2_with fail
            go_meet
            case rel => exact HM.out
          exact AllReadyH.nil
        refine rg_cons rfl (by rfl) (fun K hK => ?_) ?_
        · have hV := HB.out _ (Below.refl W1.heap.size W1)
          have hcl := hV.1.1.2.2
          go_simp
          clear hcl hV
          refine hK.out _ _ trivial (fun hHeld => ?_)
          clear hK K
          (try simp only [Act.put, List.setIfInBounds_toArray, List.set_cons_zero, List.set_cons_succ])
          refine rg_in 12 rfl (by kernel_rfl) (by kernel_rfl) (by kernel_rfl) (by rfl) (v := ?_) (fun _ _ _ h => h) hHeld (fun w hSw => ?_) ?_
          rotate_left
          · (try dsimp only at hSw); go_simp <;> (with_reducible rfl)
          (try simp only [Act.put, List.setIfInBounds_toArray, List.set_cons_zero, List.set_cons_succ])
          refine rg_in 13 rfl (by kernel_rfl) (by kernel_rfl) (by kernel_rfl) (by rfl) (v := ?_) (fun _ _ _ h => h) hHeld (fun w hSw => ?_) ?_
          rotate_left
          · (try dsimp only at hSw); go_simp <;> (with_reducible rfl)
          (try simp only [Act.put, List.setIfInBounds_toArray, List.set_cons_zero, List.set_cons_succ])
          refine wpAnyH_ready (rs := [7, 9]) (by kernel_rfl) (by simp) ?_
          refine rg_cons rfl (by rfl) (fun K hK => ?_) ?_
          · have hcI := HCI.out _ hbw
            go_simp
            (go_at_call 34; (with_reducible refine hcI.mono ?_); (rintro e w107 ⟨A1, c1, rfl, hO1, hb7⟩))
            have hs1 := Below.size hbw
            clear hcI
            refine hK.out _ _ trivial (fun hHeld => ?_)
            clear hK K
            (try simp only [Act.put, List.setIfInBounds_toArray, List.set_cons_zero, List.set_cons_succ])
            refine rg_do 9 rfl (by kernel_rfl) (by rfl) (fun K hK => ?_)
            have hV := HB.out _ (bel_next hbw hb7)
            have hcl := hV.1.1.2.2
            go_simp
            clear hcl hV
            refine hK.out _ _ trivial (fun hHeld => ?_)
            clear hK K
            (try simp only [Act.put, List.setIfInBounds_toArray, List.set_cons_zero, List.set_cons_succ])
            refine rg_in 14 rfl (by kernel_rfl) (by kernel_rfl) (by kernel_rfl) (by rfl) (v := ?_) (fun _ _ _ h => h) hHeld (fun w hSw => ?_) ?_
            rotate_left
            · (try dsimp only at hSw); go_simp <;> (with_reducible rfl)
            (try simp only [Act.put, List.setIfInBounds_toArray, List.set_cons_zero, List.set_cons_succ])
            refine rg_in 16 rfl (by kernel_rfl) (by kernel_rfl) (by kernel_rfl) (by rfl) (v := ?_) (fun _ _ _ h => h) hHeld (fun w hSw => ?_) ?_
            rotate_left
            · (try dsimp only at hSw); go_simp <;> (with_reducible rfl)
            (try simp only [Act.put, List.setIfInBounds_toArray, List.set_cons_zero, List.set_cons_succ])
            refine rg_do 15 rfl (by kernel_rfl) (by rfl) (fun K hK => ?_)
            have hcK := HCK.out _ (bel_next hbw hb7)
            go_simp
            (go_at_call 35; (with_reducible refine hcK.mono ?_); (rintro e w115 ⟨A2, c2, rfl, hO2, hb15⟩))
            have hs2 := Below.size (bel_next hbw hb7)
            clear hcK
            refine hK.out _ _ trivial (fun hHeld => ?_)
            clear hK K
            (try simp only [Act.put, List.setIfInBounds_toArray, List.set_cons_zero, List.set_cons_succ])
            refine rg_do 17 rfl (by kernel_rfl) (by rfl) (fun K hK => ?_)
            have hV := HB.out _ (bel_next (bel_next hbw hb7) hb15)
            have hc1 := hV.1.1.2.1
            have hf1 := hV.1.2.2.1
            go_simp
            clear hc1 hf1
            refine hK.out _ _ trivial (fun hHeld => ?_)
            clear hK K
            (try simp only [Act.put, List.setIfInBounds_toArray, List.set_cons_zero, List.set_cons_succ])
            refine rg_in 18 rfl (by kernel_rfl) (by kernel_rfl) (by kernel_rfl) (by rfl) (v := ?_) (fun _ _ _ h => h) hHeld (fun w hSw => ?_) ?_
            rotate_left
            · (try dsimp only at hSw); go_simp <;> (with_reducible rfl)
            (try simp only [Act.put, List.setIfInBounds_toArray, List.set_cons_zero, List.set_cons_succ])
            refine rg_do 19 rfl (by kernel_rfl) (by rfl) (fun K hK => ?_)
            have hc2 := hV.1.1.2.2
            have hf2 := hV.1.2.2.2
            go_simp
            clear hc2 hf2
            refine hK.out _ _ trivial (fun hHeld => ?_)
            clear hK K
            (try simp only [Act.put, List.setIfInBounds_toArray, List.set_cons_zero, List.set_cons_succ])
            refine wpAnyH_done (by kernel_rfl) ?_ _
            have hb9 := (bel_next (bel_next hbw hb7) hb15)
            have hn1 := (hV.1.set1 (.slice A1 m1 c1)).set2 (.slice A2 m2 c2)
            have hn2 := (hV.2.other (k := 1) (j := w.heap.size) (by omega) (.slice A1 m1 c1)).other (k := 2) (j := w.heap.size) (by omega) (.slice A2 m2 c2)
            have ho1 := ownsRow_setCell_below (ownsRow_setCell_below (own_base (own_later hO1 hb15) (show w.heap.size + 2 ≤ _ by omega)) (a := ⟨w.heap.size, 1, none⟩) (by show w.heap.size < _; omega) (.slice A1 m1 c1)) (a := ⟨w.heap.size, 2, none⟩) (by show w.heap.size < _; omega) (.slice A2 m2 c2)
            have ho2 := ownsRow_setCell_below (ownsRow_setCell_below (own_base hO2 (show w.heap.size + 2 ≤ _ by omega)) (a := ⟨w.heap.size, 1, none⟩) (by show w.heap.size < _; omega) (.slice A1 m1 c1)) (a := ⟨w.heap.size, 2, none⟩) (by show w.heap.size < _; omega) (.slice A2 m2 c2)
            have hbz := ((hb0.trans (hb9.mono hb0.size)).setCell (p := ⟨w.heap.size, 1, none⟩) (Nat.le_refl _) (.slice A1 m1 c1)).setCell (p := ⟨w.heap.size, 2, none⟩) (Nat.le_refl _) (.slice A2 m2 c2)
            have hszz := hb9.size
            have HM := Lib.hid (show Own2 X m1 m2 w.heap.size w _ from ⟨A1, c1, A2, c2, hn1, hn2, ho1, ho2, hbz, by rw [size_set, size_set]; omega⟩)
            clear hHeld hV hn1 hn2 ho1 ho2 hbz hO1 hO2
            go_wp2_with fail
            go_meet
            case rel => exact HM.out
          refine rg_cons rfl (by rfl) (fun K hK => ?_) ?_
          · have hV := HB.out _ (Below.refl W1.heap.size W1)
            have hcl := hV.1.1.2.2
            go_simp
            clear hcl hV
            refine hK.out _ _ trivial (fun hHeld => ?_)
            clear hK K
            (try simp only [Act.put, List.setIfInBounds_toArray, List.set_cons_zero, List.set_cons_succ])
            refine rg_in 14 rfl (by kernel_rfl) (by kernel_rfl) (by kernel_rfl) (by rfl) (v := ?_) (fun _ _ _ h => h) hHeld (fun w hSw => ?_) ?_
            rotate_left
            · (try dsimp only at hSw); go_simp <;> (with_reducible rfl)
            (try simp only [Act.put, List.setIfInBounds_toArray, List.set_cons_zero, List.set_cons_succ])
            refine rg_do 7 rfl (by kernel_rfl) (by rfl) (fun K hK => ?_)
            have hcI := HCI.out _ hbw
            go_simp
            (go_at_call 34; (with_reducible refine hcI.mono ?_); (rintro e w107 ⟨A1, c1, rfl, hO1, hb7⟩))
            have hs1 := Below.size hbw
            clear hcI
            refine hK.out _ _ trivial (fun hHeld => ?_)
            clear hK K
            (try simp only [Act.put, List.setIfInBounds_toArray, List.set_cons_zero, List.set_cons_succ])
            refine rg_in 16 rfl (by kernel_rfl) (by kernel_rfl) (by kernel_rfl) (by rfl) (v := ?_) (fun _ _ _ h => h) hHeld (fun w hSw => ?_) ?_
            rotate_left
            · (try dsimp only at hSw); go_simp <;> (with_reducible rfl)
            (try simp only [Act.put, List.setIfInBounds_toArray, List.set_cons_zero, List.set_cons_succ])
            refine rg_do 15 rfl (by kernel_rfl) (by rfl) (fun K hK => ?_)
            have hcK := HCK.out _ (bel_next hbw hb7)
            go_simp
            (go_at_call 35; (with_reducible refine hcK.mono ?_); (rintro e w115 ⟨A2, c2, rfl, hO2, hb15⟩))
            have hs2 := Below.size (bel_next hbw hb7)
            clear hcK
            refine hK.out _ _ trivial (fun hHeld => ?_)
            clear hK K
            (try simp only [Act.put, List.setIfInBounds_toArray, List.set_cons_zero, List.set_cons_succ])
            refine rg_do 17 rfl (by kernel_rfl) (by rfl) (fun K hK => ?_)
            have hV := HB.out _ (bel_next (bel_next hbw hb7) hb15)
            have hc1 := hV.1.1.2.1
            have hf1 := hV.1.2.2.1
            go_simp
            clear hc1 hf1
            refine hK.out _ _ trivial (fun hHeld => ?_)
            clear hK K
            (try simp only [Act.put, List.setIfInBounds_toArray, List.set_cons_zero, List.set_cons_succ])
            refine rg_in 18 rfl (by kernel_rfl) (by kernel_rfl) (by kernel_rfl) (by rfl) (v := ?_) (fun _ _ _ h => h) hHeld (fun w hSw => ?_) ?_
            rotate_left
            · (try dsimp only at hSw); go_simp <;> (with_reducible rfl)
            (try simp only [Act.put, List.setIfInBounds_toArray, List.set_cons_zero, List.set_cons_succ])
            refine rg_do 19 rfl (by kernel_rfl) (by rfl) (fun K hK => ?_)
            have hc2 := hV.1.1.2.2
            have hf2 := hV.1.2.2.2
            go_simp
            clear hc2 hf2
            refine hK.out _ _ trivial (fun hHeld => ?_)
            clear hK K
            (try simp only [Act.put, List.setIfInBounds_toArray, List.set_cons_zero, List.set_cons_succ])
            refine wpAnyH_done (by kernel_rfl) ?_ _
            have hb9 := (bel_next (bel_next hbw hb7) hb15)
            have hn1 := (hV.1.set1 (.slice A1 m1 c1)).set2 (.slice A2 m2 c2)
            have hn2 := (hV.2.other (k := 1) (j := w.heap.size) (by omega) (.slice A1 m1 c1)).other (k := 2) (j := w.heap.size) (by omega) (.slice A2 m2 c2)
            have ho1 := ownsRow_setCell_below (ownsRow_setCell_below (own_base (own_later hO1 hb15) (show w.heap.size + 2 ≤ _ by omega)) (a := ⟨w.heap.size, 1, none⟩) (by show w.heap.size < _; omega) (.slice A1 m1 c1)) (a := ⟨w.heap.size, 2, none⟩) (by show w.heap.size < _; omega) (.slice A2 m2 c2)
            have ho2 := ownsRow_setCell_below (ownsRow_setCell_below (own_base hO2 (show w.heap.size + 2 ≤ _ by omega)) (a := ⟨w.heap.size, 1, none⟩) (by show w.heap.size < _; omega) (.slice A1 m1 c1)) (a := ⟨w.heap.size, 2, none⟩) (by show w.heap.size < _; omega) (.slice A2 m2 c2)
            have hbz := ((hb0.trans (hb9.mono hb0.size)).setCell (p := ⟨w.heap.size, 1, none⟩) (Nat.le_refl _) (.slice A1 m1 c1)).setCell (p := ⟨w.heap.size, 2, none⟩) (Nat.le_refl _) (.slice A2 m2 c2)
            have hszz := hb9.size
            have HM := Lib.hid (show Own2 X m1 m2 w.heap.size w _ from ⟨A1, c1, A2, c2, hn1, hn2, ho1, ho2, hbz, by rw [size_set, size_set]; omega⟩)
            clear hHeld hV hn1 hn2 ho1 ho2 hbz hO1 hO2
            go_wp2_with fail
            go_meet
            case rel => exact HM.out
          exact AllReadyH.nil
        exact AllReadyH.nil
      refine rg_cons rfl (by rfl) (fun K hK => ?_) ?_
      · have hV := HB.out _ (Below.refl W1.heap.size W1)
        have hcl := hV.1.1.2.2
        go_simp
        clear hcl hV
        refine hK.out _ _ trivial (fun hHeld => ?_)
        clear hK K
        (try simp only [Act.put, List.setIfInBounds_toArray, List.set_cons_zero, List.set_cons_succ])
        refine wpAnyH_ready (rs := [3, 11]) (by kernel_rfl) (by simp) ?_
        refine rg_cons rfl (by rfl) (fun K hK => ?_) ?_
        · have hV := HB.out _ (Below.refl W1.heap.size W1)
          have hcl := hV.1.1.2.1
          go_simp
          clear hcl hV
          refine hK.out _ _ trivial (fun hHeld => ?_)
          clear hK K
          (try simp only [Act.put, List.setIfInBounds_toArray, List.set_cons_zero, List.set_cons_succ])
          refine rg_in 4 rfl (by kernel_rfl) (by kernel_rfl) (by kernel_rfl) (by rfl) (v := ?_) (fun _ _ _ h => h) hHeld (fun w hSw => ?_) ?_
          rotate_left
          · (try dsimp only at hSw); go_simp <;> (with_reducible rfl)
          (try simp only [Act.put, List.setIfInBounds_toArray, List.set_cons_zero, List.set_cons_succ])
          refine rg_in 5 rfl (by kernel_rfl) (by kernel_rfl) (by kernel_rfl) (by rfl) (v := ?_) (fun _ _ _ h => h) hHeld (fun w hSw => ?_) ?_
          rotate_left
          · (try dsimp only at hSw); go_simp <;> (with_reducible rfl)
          (try simp only [Act.put, List.setIfInBounds_toArray, List.set_cons_zero, List.set_cons_succ])
          refine rg_in 6 rfl (by kernel_rfl) (by kernel_rfl) (by kernel_rfl) (by rfl) (v := ?_) (fun _ _ _ h => h) hHeld (fun w hSw => ?_) ?_
          rotate_left
          · (try dsimp only at hSw); go_simp <;> (with_reducible rfl)
          (try simp only [Act.put, List.setIfInBounds_toArray, List.set_cons_zero, List.set_cons_succ])
          refine wpAnyH_ready (rs := [7, 11]) (by kernel_rfl) (by simp) ?_
          refine rg_cons rfl (by rfl) (fun K hK => ?_) ?_
          · have hcI := HCI.out _ hbw
            go_simp
            (go_at_call 34; (with_reducible refine hcI.mono ?_); (rintro e w107 ⟨A1, c1, rfl, hO1, hb7⟩))
            have hs1 := Below.size hbw
            clear hcI
            refine hK.out _ _ trivial (fun hHeld => ?_)
            clear hK K
            (try simp only [Act.put, List.setIfInBounds_toArray, List.set_cons_zero, List.set_cons_succ])
            refine rg_do 11 rfl (by kernel_rfl) (by rfl) (fun K hK => ?_)
            have hV := HB.out _ (bel_next hbw hb7)
            have hcl := hV.1.1.2.2
            go_simp
            clear hcl hV
            refine hK.out _ _ trivial (fun hHeld => ?_)
            clear hK K
            (try simp only [Act.put, List.setIfInBounds_toArray, List.set_cons_zero, List.set_cons_succ])
            refine rg_in 12 rfl (by kernel_rfl) (by kernel_rfl) (by kernel_rfl) (by rfl) (v := ?_) (fun _ _ _ h => h) hHeld (fun w hSw => ?_) ?_
            rotate_left
            · (try dsimp only at hSw); go_simp <;> (with_reducible rfl)
            (try simp only [Act.put, List.setIfInBounds_toArray, List.set_cons_zero, List.set_cons_succ])
            refine rg_in 13 rfl (by kernel_rfl) (by kernel_rfl) (by kernel_rfl) (by rfl) (v := ?_) (fun _ _ _ h => h) hHeld (fun w hSw => ?_) ?_
            rotate_left
            · (try dsimp only at hSw); go_simp <;> (with_reducible rfl)
            (try simp only [Act.put, List.setIfInBounds_toArray, List.set_cons_zero, List.set_cons_succ])
            refine rg_in 14 rfl (by kernel_rfl) (by kernel_rfl) (by kernel_rfl) (by rfl) (v := ?_) (fun _ _ _ h => h) hHeld (fun w hSw => ?_) ?_
            rotate_left
            · (try dsimp only at hSw); go_simp <;> (with_reducible rfl)
            (try simp only [Act.put, List.setIfInBounds_toArray, List.set_cons_zero, List.set_cons_succ])
            refine rg_in 16 rfl (by kernel_rfl) (by kernel_rfl) (by kernel_rfl) (by rfl) (v := ?_) (fun _ _ _ h => h) hHeld (fun w hSw => ?_) ?_
            rotate_left
            · (try dsimp only at hSw); go_simp <;> (with_reducible rfl)
            (try simp only [Act.put, List.setIfInBounds_toArray, List.set_cons_zero, List.set_cons_succ])
            refine rg_do 15 rfl (by kernel_rfl) (by rfl) (fun K hK => ?_)
            have hcK := HCK.out _ (bel_next hbw hb7)
            go_simp
            (go_at_call 35; (with_reducible refine hcK.mono ?_); (rintro e w115 ⟨A2, c2, rfl, hO2, hb15⟩))
            have hs2 := Below.size (bel_next hbw hb7)
            clear hcK
            refine hK.out _ _ trivial (fun hHeld => ?_)
            clear hK K
            (try simp only [Act.put, List.setIfInBounds_toArray, List.set_cons_zero, List.set_cons_succ])
            refine rg_do 17 rfl (by kernel_rfl) (by rfl) (fun K hK => ?_)
            have hV := HB.out _ (bel_next (bel_next hbw hb7) hb15)
            have hc1 := hV.1.1.2.1
            have hf1 := hV.1.2.2.1
            go_simp
            clear hc1 hf1
            refine hK.out _ _ trivial (fun hHeld => ?_)
            clear hK K
            (try simp only [Act.put, List.setIfInBounds_toArray, List.set_cons_zero, List.set_cons_succ])
            refine rg_in 18 rfl (by kernel_rfl) (by kernel_rfl) (by kernel_rfl) (by rfl) (v := ?_) (fun _ _ _ h => h) hHeld (fun w hSw => ?_) ?_
            rotate_left
            · (try dsimp only at hSw); go_simp <;> (with_reducible rfl)
            (try simp only [Act.put, List.setIfInBounds_toArray, List.set_cons_zero, List.set_cons_succ])
            refine rg_do 19 rfl (by kernel_rfl) (by rfl) (fun K hK => ?_)
            have hc2 := hV.1.1.2.2
            have hf2 := hV.1.2.2.2
            go_simp
            clear hc2 hf2
            refine hK.out _ _ trivial (fun hHeld => ?_)
            clear hK K
            (try simp only [Act.put, List.setIfInBounds_toArray, List.set_cons_zero, List.set_cons_succ])
            refine wpAnyH_done (by kernel_rfl) ?_ _
            have hb9 := (bel_next (bel_next hbw hb7) hb15)
            have hn1 := (hV.1.set1 (.slice A1 m1 c1)).set2 (.slice A2 m2 c2)
            have hn2 := (hV.2.other (k := 1) (j := w.heap.size) (by omega) (.slice A1 m1 c1)).other (k := 2) (j := w.heap.size) (by omega) (.slice A2 m2 c2)
            have ho1 := ownsRow_setCell_below (ownsRow_setCell_below (own_base (own_later hO1 hb15) (show w.heap.size + 2 ≤ _ by omega)) (a := ⟨w.heap.size, 1, none⟩) (by show w.heap.size < _; omega) (.slice A1 m1 c1)) (a := ⟨w.heap.size, 2, none⟩) (by show w.heap.size < _; omega) (.slice A2 m2 c2)
            have ho2 := ownsRow_setCell_below (ownsRow_setCell_below (own_base hO2 (show w.heap.size + 2 ≤ _ by omega)) (a := ⟨w.heap.size, 1, none⟩) (by show w.heap.size < _; omega) (.slice A1 m1 c1)) (a := ⟨w.heap.size, 2, none⟩) (by show w.heap.size < _; omega) (.slice A2 m2 c2)
            have hbz := ((hb0.trans (hb9.mono hb0.size)).setCell (p := ⟨w.heap.size, 1, none⟩) (Nat.le_refl _) (.slice A1 m1 c1)).setCell (p := ⟨w.heap.size, 2, none⟩) (Nat.le_refl _) (.slice A2 m2 c2)
            have hszz := hb9.size
            have HM := Lib.hid (show Own2 X m1 m2 w.heap.size w _ from ⟨A1, c1, A2, c2, hn1, hn2, ho1, ho2, hbz, by rw [size_set, size_set]; omega⟩)
            clear hHeld hV hn1 hn2 ho1 ho2 hbz hO1 hO2
            go_wp2_with fail
            go_meet
            case rel => exact HM.out
          refine rg_cons rfl (by rfl) (fun K hK => ?_) ?_
          · have hV := HB.out _ (Below.refl W1.heap.size W1)
            have hcl := hV.1.1.2.2
            go_simp
            clear hcl hV
            refine hK.out _ _ trivial (fun hHeld => ?_)
            clear hK K
            (try simp only [Act.put, List.setIfInBounds_toArray, List.set_cons_zero, List.set_cons_succ])
            refine rg_in 12 rfl (by kernel_rfl) (by kernel_rfl) (by kernel_rfl) (by rfl) (v := ?_) (fun _ _ _ h => h) hHeld (fun w hSw => ?_) ?_
            rotate_left
            · (try dsimp only at hSw); go_simp <;> (with_reducible rfl)
            (try simp only [Act.put, List.setIfInBounds_toArray, List.set_cons_zero, List.set_cons_succ])
            refine rg_in 13 rfl (by kernel_rfl) (by kernel_rfl) (by kernel_rfl) (by rfl) (v := ?_) (fun _ _ _ h => h) hHeld (fun w hSw => ?_) ?_
            rotate_left
            · (try dsimp only at hSw); go_simp <;> (with_reducible rfl)
            (try simp only [Act.put, List.setIfInBounds_toArray, List.set_cons_zero, List.set_cons_succ])
            refine rg_in 14 rfl (by kernel_rfl) (by kernel_rfl) (by kernel_rfl) (by rfl) (v := ?_) (fun _ _ _ h => h) hHeld (fun w hSw => ?_) ?_
            rotate_left
            · (try dsimp only at hSw); go_simp <;> (with_reducible rfl)
            (try simp only [Act.put, List.setIfInBounds_toArray, List.set_cons_zero, List.set_cons_succ])
            refine rg_do 7 rfl (by kernel_rfl) (by rfl) (fun K hK => ?_)
            have hcI := HCI.out _ hbw
            go_simp
            (go_at_call 34; (with_reducible refine hcI.mono ?_); (rintro e w107 ⟨A1, c1, rfl, hO1, hb7⟩))
            have hs1 := Below.size hbw
            clear hcI
            refine hK.out _ _ trivial (fun hHeld => ?_)
            clear hK K
            (try simp only [Act.put, List.setIfInBounds_toArray, List.set_cons_zero, List.set_cons_succ])
            refine rg_in 16 rfl (by kernel_rfl) (by kernel_rfl) (by kernel_rfl) (by rfl) (v := ?_) (fun _ _ _ h => h) hHeld (fun w hSw => ?_) ?_
            rotate_left
            · (try dsimp only at hSw); go_simp <;> (with_reducible rfl)
            (try simp only [Act.put, List.setIfInBounds_toArray, List.set_cons_zero, List.set_cons_succ])
            refine rg_do 15 rfl (by kernel_rfl) (by rfl) (fun K hK => ?_)
            have hcK := HCK.out _ (bel_next hbw hb7)
            go_simp
            (go_at_call 35; (with_reducible refine hcK.mono ?_); (rintro e w115 ⟨A2, c2, rfl, hO2, hb15⟩))
            have hs2 := Below.size (bel_next hbw hb7)
            clear hcK
            refine hK.out _ _ trivial (fun hHeld => ?_)
            clear hK K
            (try simp only [Act.put, List.setIfInBounds_toArray, List.set_cons_zero, List.set_cons_succ])
            refine rg_do 17 rfl (by kernel_rfl) (by rfl) (fun K hK => ?_)
            have hV := HB.out _ (bel_next (bel_next hbw hb7) hb15)
            have hc1 := hV.1.1.2.1
            have hf1 := hV.1.2.2.1
            go_simp
            clear hc1 hf1
            refine hK.out _ _ trivial (fun hHeld => ?_)
            clear hK K
            (try simp only [Act.put, List.setIfInBounds_toArray, List.set_cons_zero, List.set_cons_succ])
            refine rg_in 18 rfl (by kernel_rfl) (by kernel_rfl) (by kernel_rfl) (by rfl) (v := ?_) (fun _ _ _ h => h) hHeld (fun w hSw => ?_) ?_
            rotate_left
            · (try dsimp only at hSw); go_simp <;> (with_reducible rfl)
            (try simp only [Act.put, List.setIfInBounds_toArray, List.set_cons_zero, List.set_cons_succ])
            refine rg_do 19 rfl (by kernel_rfl) (by rfl) (fun K hK => ?_)
            have hc2 := hV.1.1.2.2
            have hf2 := hV.1.2.2.2
            go_simp
            clear hc2 hf2
            refine hK.out _ _ trivial (fun hHeld => ?_)
            clear hK K
            (try simp only [Act.put, List.setIfInBounds_toArray, List.set_cons_zero, List.set_cons_succ])
            refine wpAnyH_done (by kernel_rfl) ?_ _
            have hb9 := (bel_next (bel_next hbw hb7) hb15)
            have hn1 := (hV.1.set1 (.slice A1 m1 c1)).set2 (.slice A2 m2 c2)
            have hn2 := (hV.2.other (k := 1) (j := w.heap.size) (by omega) (.slice A1 m1 c1)).other (k := 2) (j := w.heap.size) (by omega) (.slice A2 m2 c2)
            have ho1 := ownsRow_setCell_below (ownsRow_setCell_below (own_base (own_later hO1 hb15) (show w.heap.size + 2 ≤ _ by omega)) (a := ⟨w.heap.size, 1, none⟩) (by show w.heap.size < _; omega) (.slice A1 m1 c1)) (a := ⟨w.heap.size, 2, none⟩) (by show w.heap.size < _; omega) (.slice A2 m2 c2)
            have ho2 := ownsRow_setCell_below (ownsRow_setCell_below (own_base hO2 (show w.heap.size + 2 ≤ _ by omega)) (a := ⟨w.heap.size, 1, none⟩) (by show w.heap.size < _; omega) (.slice A1 m1 c1)) (a := ⟨w.heap.size, 2, none⟩) (by show w.heap.size < _; omega) (.slice A2 m2 c2)
            have hbz := ((hb0.trans (hb9.mono hb0.size)).setCell (p := ⟨w.heap.size, 1, none⟩) (Nat.le_refl _) (.slice A1 m1 c1)).setCell (p := ⟨w.heap.size, 2, none⟩) (Nat.le_refl _) (.slice A2 m2 c2)
            have hszz := hb9.size
            have HM := Lib.hid (show Own2 X m1 m2 w.heap.size w _ from ⟨A1, c1, A2, c2, hn1, hn2, ho1, ho2, hbz, by rw [size_set, size_set]; omega⟩)
            clear hHeld hV hn1 hn2 ho1 ho2 hbz hO1 hO2
            go_wp2_with fail
            go_meet
            case rel => exact HM.out
          exact AllReadyH.nil
        refine rg_cons rfl (by rfl) (fun K hK => ?_) ?_
        · have hV := HB.out _ (Below.refl W1.heap.size W1)
          have hcl := hV.1.1.2.2
          go_simp
          clear hcl hV
          refine hK.out _ _ trivial (fun hHeld => ?_)
          clear hK K
          (try simp only [Act.put, List.setIfInBounds_toArray, List.set_cons_zero, List.set_cons_succ])
          refine rg_in 12 rfl (by kernel_rfl) (by kernel_rfl) (by kernel_rfl) (by rfl) (v := ?_) (fun _ _ _ h => h) hHeld (fun w hSw => ?_) ?_
          rotate_left
          · (try dsimp only at hSw); go_simp <;> (with_reducible rfl)
          (try simp only [Act.put, List.setIfInBounds_toArray, List.set_cons_zero, List.set_cons_succ])
          refine rg_in 13 rfl (by kernel_rfl) (by kernel_rfl) (by kernel_rfl) (by rfl) (v := ?_) (fun _ _ _ h => h) hHeld (fun w hSw => ?_) ?_
          rotate_left
          · (try dsimp only at hSw); go_simp <;> (with_reducible rfl)
          (try simp only [Act.put, List.setIfInBounds_toArray, List.set_cons_zero, List.set_cons_succ])
          refine rg_in 14 rfl (by kernel_rfl) (by kernel_rfl) (by kernel_rfl) (by rfl) (v := ?_) (fun _ _ _ h => h) hHeld (fun w hSw => ?_) ?_
          rotate_left
          · (try dsimp only at hSw); go_simp <;> (with_reducible rfl)
          (try simp only [Act.put, List.setIfInBounds_toArray, List.set_cons_zero, List.set_cons_succ])
          refine rg_do 3 rfl (by kernel_rfl) (by rfl) (fun K hK => ?_)
          have hV := HB.out _ (Below.refl W1.heap.size W1)
          have hcl := hV.1.1.2.1
          go_simp
          clear hcl hV
          refine hK.out _ _ trivial (fun hHeld => ?_)
          clear hK K
          (try simp only [Act.put, List.setIfInBounds_toArray, List.set_cons_zero, List.set_cons_succ])
          refine rg_in 4 rfl (by kernel_rfl) (by kernel_rfl) (by kernel_rfl) (by rfl) (v := ?_) (fun _ _ _ h => h) hHeld (fun w hSw => ?_) ?_
          rotate_left
          · (try dsimp only at hSw); go_simp <;> (with_reducible rfl)
          (try simp only [Act.put, List.setIfInBounds_toArray, List.set_cons_zero, List.set_cons_succ])
          refine rg_in 5 rfl (by kernel_rfl) (by kernel_rfl) (by kernel_rfl) (by rfl) (v := ?_) (fun _ _ _ h => h) hHeld (fun w hSw => ?_) ?_
          rotate_left
          · (try dsimp only at hSw); go_simp <;> (with_reducible rfl)
          (try simp only [Act.put, List.setIfInBounds_toArray, List.set_cons_zero, List.set_cons_succ])
          refine rg_in 6 rfl (by kernel_rfl) (by kernel_rfl) (by kernel_rfl) (by rfl) (v := ?_) (fun _ _ _ h => h) hHeld (fun w hSw => ?_) ?_
          rotate_left
          · (try dsimp only at hSw); go_simp <;> (with_reducible rfl)
          (try simp only [Act.put, List.setIfInBounds_toArray, List.set_cons_zero, List.set_cons_succ])
          refine rg_do 7 rfl (by kernel_rfl) (by rfl) (fun K hK => ?_)
          have hcI := HCI.out _ hbw
          go_simp
          (go_at_call 34; (with_reducible refine hcI.mono ?_); (rintro e w107 ⟨A1, c1, rfl, hO1, hb7⟩))
          have hs1 := Below.size hbw
          clear hcI
          refine hK.out _ _ trivial (fun hHeld => ?_)
          clear hK K
          (try simp only [Act.put, List.setIfInBounds_toArray, List.set_cons_zero, List.set_cons_succ])
          refine rg_in 16 rfl (by kernel_rfl) (by kernel_rfl) (by kernel_rfl) (by rfl) (v := ?_) (fun _ _ _ h => h) hHeld (fun w hSw => ?_) ?_
          rotate_left
          · (try dsimp only at hSw); go_simp <;> (with_reducible rfl)
          (try simp only [Act.put, List.setIfInBounds_toArray, List.set_cons_zero, List.set_cons_succ])
          refine rg_do 15 rfl (by kernel_rfl) (by rfl) (fun K hK => ?_)
          have hcK := HCK.out _ (bel_next hbw hb7)
          go_simp
          (go_at_call 35; (with_reducible refine hcK.mono ?_); (rintro e w115 ⟨A2, c2, rfl, hO2, hb15⟩))
          have hs2 := Below.size (bel_next hbw hb7)
          clear hcK
          refine hK.out _ _ trivial (fun hHeld => ?_)
          clear hK K
          (try simp only [Act.put, List.setIfInBounds_toArray, List.set_cons_zero, List.set_cons_succ])
          refine rg_do 17 rfl (by kernel_rfl) (by rfl) (fun K hK => ?_)
          have hV := HB.out _ (bel_next (bel_next hbw hb7) hb15)
          have hc1 := hV.1.1.2.1
          have hf1 := hV.1.2.2.1
          go_simp
          clear hc1 hf1
          refine hK.out _ _ trivial (fun hHeld => ?_)
          clear hK K
          (try simp only [Act.put, List.setIfInBounds_toArray, List.set_cons_zero, List.set_cons_succ])
          refine rg_in 18 rfl (by kernel_rfl) (by kernel_rfl) (by kernel_rfl) (by rfl) (v := ?_) (fun _ _ _ h => h) hHeld (fun w hSw => ?_) ?_
          rotate_left
          · (try dsimp only at hSw); go_simp <;> (with_reducible rfl)
          (try simp only [Act.put, List.setIfInBounds_toArray, List.set_cons_zero, List.set_cons_succ])
          refine rg_do 19 rfl (by kernel_rfl) (by rfl) (fun K hK => ?_)
          have hc2 := hV.1.1.2.2
          have hf2 := hV.1.2.2.2
          go_simp
          clear hc2 hf2
          refine hK.out _ _ trivial (fun hHeld => ?_)
          clear hK K
          (try simp only [Act.put, List.setIfInBounds_toArray, List.set_cons_zero, List.set_cons_succ])
          refine wpAnyH_done (by kernel_rfl) ?_ _
          have hb9 := (bel_next (bel_next hbw hb7) hb15)
          have hn1 := (hV.1.set1 (.slice A1 m1 c1)).set2 (.slice A2 m2 c2)
          have hn2 := (hV.2.other (k := 1) (j := w.heap.size) (by omega) (.slice A1 m1 c1)).other (k := 2) (j := w.heap.size) (by omega) (.slice A2 m2 c2)
          have ho1 := ownsRow_setCell_below (ownsRow_setCell_below (own_base (own_later hO1 hb15) (show w.heap.size + 2 ≤ _ by omega)) (a := ⟨w.heap.size, 1, none⟩) (by show w.heap.size < _; omega) (.slice A1 m1 c1)) (a := ⟨w.heap.size, 2, none⟩) (by show w.heap.size < _; omega) (.slice A2 m2 c2)
          have ho2 := ownsRow_setCell_below (ownsRow_setCell_below (own_base hO2 (show w.heap.size + 2 ≤ _ by omega)) (a := ⟨w.heap.size, 1, none⟩) (by show w.heap.size < _; omega) (.slice A1 m1 c1)) (a := ⟨w.heap.size, 2, none⟩) (by show w.heap.size < _; omega) (.slice A2 m2 c2)
          have hbz := ((hb0.trans (hb9.mono hb0.size)).setCell (p := ⟨w.heap.size, 1, none⟩) (Nat.le_refl _) (.slice A1 m1 c1)).setCell (p := ⟨w.heap.size, 2, none⟩) (Nat.le_refl _) (.slice A2 m2 c2)
          have hszz := hb9.size
          have HM := Lib.hid (show Own2 X m1 m2 w.heap.size w _ from ⟨A1, c1, A2, c2, hn1, hn2, ho1, ho2, hbz, by rw [size_set, size_set]; omega⟩)
          clear hHeld hV hn1 hn2 ho1 ho2 hbz hO1 hO2
          go_wp2_with fail
          go_meet
          case rel => exact HM.out
        exact AllReadyH.nil
      refine rg_cons rfl (by rfl) (fun K hK => ?_) ?_
      · have hV := HB.out _ (Below.refl W1.heap.size W1)
        have hcl := hV.1.1.2.2
        go_simp
        clear hcl hV
        refine hK.out _ _ trivial (fun hHeld => ?_)
        clear hK K
        (try simp only [Act.put, List.setIfInBounds_toArray, List.set_cons_zero, List.set_cons_succ])
        refine rg_in 12 rfl (by kernel_rfl) (by kernel_rfl) (by kernel_rfl) (by rfl) (v := ?_) (fun _ _ _ h => h) hHeld (fun w hSw => ?_) ?_
        rotate_left
        · (try dsimp only at hSw); go_simp <;> (with_reducible rfl)
        (try simp only [Act.put, List.setIfInBounds_toArray, List.set_cons_zero, List.set_cons_succ])
        refine rg_in 13 rfl (by kernel_rfl) (by kernel_rfl) (by kernel_rfl) (by rfl) (v := ?_) (fun _ _ _ h => h) hHeld (fun w hSw => ?_) ?_
        rotate_left
        · (try dsimp only at hSw); go_simp <;> (with_reducible rfl)
        (try simp only [Act.put, List.setIfInBounds_toArray, List.set_cons_zero, List.set_cons_succ])
        refine wpAnyH_ready (rs := [3, 9]) (by kernel_rfl) (by simp) ?_
        refine rg_cons rfl (by rfl) (fun K hK => ?_) ?_
        · have hV := HB.out _ (Below.refl W1.heap.size W1)
          have hcl := hV.1.1.2.1
          go_simp
          clear hcl hV
          refine hK.out _ _ trivial (fun hHeld => ?_)
          clear hK K
          (try simp only [Act.put, List.setIfInBounds_toArray, List.set_cons_zero, List.set_cons_succ])
          refine rg_in 4 rfl (by kernel_rfl) (by kernel_rfl) (by kernel_rfl) (by rfl) (v := ?_) (fun _ _ _ h => h) hHeld (fun w hSw => ?_) ?_
          rotate_left
          · (try dsimp only at hSw); go_simp <;> (with_reducible rfl)
          (try simp only [Act.put, List.setIfInBounds_toArray, List.set_cons_zero, List.set_cons_succ])
          refine rg_in 5 rfl (by kernel_rfl) (by kernel_rfl) (by kernel_rfl) (by rfl) (v := ?_) (fun _ _ _ h => h) hHeld (fun w hSw => ?_) ?_
          rotate_left
          · (try dsimp only at hSw); go_simp <;> (with_reducible rfl)
          (try simp only [Act.put, List.setIfInBounds_toArray, List.set_cons_zero, List.set_cons_succ])
          refine rg_in 6 rfl (by kernel_rfl) (by kernel_rfl) (by kernel_rfl) (by rfl) (v := ?_) (fun _ _ _ h => h) hHeld (fun w hSw => ?_) ?_
          rotate_left
          · (try dsimp only at hSw); go_simp <;> (with_reducible rfl)
          (try simp only [Act.put, List.setIfInBounds_toArray, List.set_cons_zero, List.set_cons_succ])
          refine wpAnyH_ready (rs := [7, 9]) (by kernel_rfl) (by simp) ?_
          refine rg_cons rfl (by rfl) (fun K hK => ?_) ?_
          · have hcI := HCI.out _ hbw
            go_simp
            (go_at_call 34; (with_reducible refine hcI.mono ?_); (rintro e w107 ⟨A1, c1, rfl, hO1, hb7⟩))
            have hs1 := Below.size hbw
            clear hcI
            refine hK.out _ _ trivial (fun hHeld => ?_)
            clear hK K
            (try simp only [Act.put, List.setIfInBounds_toArray, List.set_cons_zero, List.set_cons_succ])
            refine rg_do 9 rfl (by kernel_rfl) (by rfl) (fun K hK => ?_)
            have hV := HB.out _ (bel_next hbw hb7)
            have hcl := hV.1.1.2.2
            go_simp
            clear hcl hV
            refine hK.out _ _ trivial (fun hHeld => ?_)
            clear hK K
            (try simp only [Act.put, List.setIfInBounds_toArray, List.set_cons_zero, List.set_cons_succ])
            refine rg_in 14 rfl (by kernel_rfl) (by kernel_rfl) (by kernel_rfl) (by rfl) (v := ?_) (fun _ _ _ h => h) hHeld (fun w hSw => ?_) ?_
            rotate_left
            · (try dsimp only at hSw); go_simp <;> (with_reducible rfl)
            (try simp only [Act.put, List.setIfInBounds_toArray, List.set_cons_zero, List.set_cons_succ])
            refine rg_in 16 rfl (by kernel_rfl) (by kernel_rfl) (by kernel_rfl) (by rfl) (v := ?_) (fun _ _ _ h => h) hHeld (fun w hSw => ?_) ?_
            rotate_left
            · (try dsimp only at hSw); go_simp <;> (with_reducible rfl)
            (try simp only [Act.put, List.setIfInBounds_toArray, List.set_cons_zero, List.set_cons_succ])
            refine rg_do 15 rfl (by kernel_rfl) (by rfl) (fun K hK => ?_)
            have hcK := HCK.out _ (bel_next hbw hb7)
            go_simp
            (go_at_call 35; (with_reducible refine hcK.mono ?_); (rintro e w115 ⟨A2, c2, rfl, hO2, hb15⟩))
            have hs2 := Below.size (bel_next hbw hb7)
            clear hcK
            refine hK.out _ _ trivial (fun hHeld => ?_)
            clear hK K
            (try simp only [Act.put, List.setIfInBounds_toArray, List.set_cons_zero, List.set_cons_succ])
            refine rg_do 17 rfl (by kernel_rfl) (by rfl) (fun K hK => ?_)
            have hV := HB.out _ (bel_next (bel_next hbw hb7) hb15)
            have hc1 := hV.1.1.2.1
            have hf1 := hV.1.2.2.1
            go_simp
            clear hc1 hf1
            refine hK.out _ _ trivial (fun hHeld => ?_)
            clear hK K
            (try simp only [Act.put, List.setIfInBounds_toArray, List.set_cons_zero, List.set_cons_succ])
            refine rg_in 18 rfl (by kernel_rfl) (by kernel_rfl) (by kernel_rfl) (by rfl) (v := ?_) (fun _ _ _ h => h) hHeld (fun w hSw => ?_) ?_
            rotate_left
            · (try dsimp only at hSw); go_simp <;> (with_reducible rfl)
            (try simp only [Act.put, List.setIfInBounds_toArray, List.set_cons_zero, List.set_cons_succ])
            refine rg_do 19 rfl (by kernel_rfl) (by rfl) (fun K hK => ?_)
            have hc2 := hV.1.1.2.2
            have hf2 := hV.1.2.2.2
            go_simp
            clear hc2 hf2
            refine hK.out _ _ trivial (fun hHeld => ?_)
            clear hK K
            (try simp only [Act.put, List.setIfInBounds_toArray, List.set_cons_zero, List.set_cons_succ])
            refine wpAnyH_done (by kernel_rfl) ?_ _
            have hb9 := (bel_next (bel_next hbw hb7) hb15)
            have hn1 := (hV.1.set1 (.slice A1 m1 c1)).set2 (.slice A2 m2 c2)
            have hn2 := (hV.2.other (k := 1) (j := w.heap.size) (by omega) (.slice A1 m1 c1)).other (k := 2) (j := w.heap.size) (by omega) (.slice A2 m2 c2)
            have ho1 := ownsRow_setCell_below (ownsRow_setCell_below (own_base (own_later hO1 hb15) (show w.heap.size + 2 ≤ _ by omega)) (a := ⟨w.heap.size, 1, none⟩) (by show w.heap.size < _; omega) (.slice A1 m1 c1)) (a := ⟨w.heap.size, 2, none⟩) (by show w.heap.size < _; omega) (.slice A2 m2 c2)
            have ho2 := ownsRow_setCell_below (ownsRow_setCell_below (own_base hO2 (show w.heap.size + 2 ≤ _ by omega)) (a := ⟨w.heap.size, 1, none⟩) (by show w.heap.size < _; omega) (.slice A1 m1 c1)) (a := ⟨w.heap.size, 2, none⟩) (by show w.heap.size < _; omega) (.slice A2 m2 c2)
            have hbz := ((hb0.trans (hb9.mono hb0.size)).setCell (p := ⟨w.heap.size, 1, none⟩) (Nat.le_refl _) (.slice A1 m1 c1)).setCell (p := ⟨w.heap.size, 2, none⟩) (Nat.le_refl _) (.slice A2 m2 c2)
            have hszz := hb9.size
            have HM := Lib.hid (show Own2 X m1 m2 w.heap.size w _ from ⟨A1, c1, A2, c2, hn1, hn2, ho1, ho2, hbz, by rw [size_set, size_set]; omega⟩)
            clear hHeld hV hn1 hn2 ho1 ho2 hbz hO1 hO2
            go_wp2_with fail
            go_meet
            case rel => exact HM.out
          refine rg_cons rfl (by rfl) (fun K hK => ?_) ?_
          · have hV := HB.out _ (Below.refl W1.heap.size W1)
            have hcl := hV.1.1.2.2
            go_simp
            clear hcl hV
            refine hK.out _ _ trivial (fun hHeld => ?_)
            clear hK K
            (try simp only [Act.put, List.setIfInBounds_toArray, List.set_cons_zero, List.set_cons_succ])
            refine rg_in 14 rfl (by kernel_rfl) (by kernel_rfl) (by kernel_rfl) (by rfl) (v := ?_) (fun _ _ _ h => h) hHeld (fun w hSw => ?_) ?_
            rotate_left
            · (try dsimp only at hSw); go_simp <;> (with_reducible rfl)
            (try simp only [Act.put, List.setIfInBounds_toArray, List.set_cons_zero, List.set_cons_succ])
            refine rg_do 7 rfl (by kernel_rfl) (by rfl) (fun K hK => ?_)
            have hcI := HCI.out _ hbw
            go_simp
            (go_at_call 34; (with_reducible refine hcI.mono ?_); (rintro e w107 ⟨A1, c1, rfl, hO1, hb7⟩))
            have hs1 := Below.size hbw
            clear hcI
            refine hK.out _ _ trivial (fun hHeld => ?_)
            clear hK K
            (try simp only [Act.put, List.setIfInBounds_toArray, List.set_cons_zero, List.set_cons_succ])
            refine rg_in 16 rfl (by kernel_rfl) (by kernel_rfl) (by kernel_rfl) (by rfl) (v := ?_) (fun _ _ _ h => h) hHeld (fun w hSw => ?_) ?_
            rotate_left
            · (try dsimp only at hSw); go_simp <;> (with_reducible rfl)
            (try simp only [Act.put, List.setIfInBounds_toArray, List.set_cons_zero, List.set_cons_succ])
            refine rg_do 15 rfl (by kernel_rfl) (by rfl) (fun K hK => ?_)
            have hcK := HCK.out _ (bel_next hbw hb7)
            go_simp
            (go_at_call 35; (with_reducible refine hcK.mono ?_); (rintro e w115 ⟨A2, c2, rfl, hO2, hb15⟩))
            have hs2 := Below.size (bel_next hbw hb7)
            clear hcK
            refine hK.out _ _ trivial (fun hHeld => ?_)
            clear hK K
            (try simp only [Act.put, List.setIfInBounds_toArray, List.set_cons_zero, List.set_cons_succ])
            refine rg_do 17 rfl (by kernel_rfl) (by rfl) (fun K hK => ?_)
            have hV := HB.out _ (bel_next (bel_next hbw hb7) hb15)
            have hc1 := hV.1.1.2.1
            have hf1 := hV.1.2.2.1
            go_simp
            clear hc1 hf1
            refine hK.out _ _ trivial (fun hHeld => ?_)
            clear hK K
            (try simp only [Act.put, List.setIfInBounds_toArray, List.set_cons_zero, List.set_cons_succ])
            refine rg_in 18 rfl (by kernel_rfl) (by kernel_rfl) (by kernel_rfl) (by rfl) (v := ?_) (fun _ _ _ h => h) hHeld (fun w hSw => ?_) ?_
            rotate_left
            · (try dsimp only at hSw); go_simp <;> (with_reducible rfl)
            (try simp only [Act.put, List.setIfInBounds_toArray, List.set_cons_zero, List.set_cons_succ])
            refine rg_do 19 rfl (by kernel_rfl) (by rfl) (fun K hK => ?_)
            have hc2 := hV.1.1.2.2
            have hf2 := hV.1.2.2.2
            go_simp
            clear hc2 hf2
            refine hK.out _ _ trivial (fun hHeld => ?_)
            clear hK K
            (try simp only [Act.put, List.setIfInBounds_toArray, List.set_cons_zero, List.set_cons_succ])
            refine wpAnyH_done (by kernel_rfl) ?_ _
            have hb9 := (bel_next (bel_next hbw hb7) hb15)
            have hn1 := (hV.1.set1 (.slice A1 m1 c1)).set2 (.slice A2 m2 c2)
            have hn2 := (hV.2.other (k := 1) (j := w.heap.size) (by omega) (.slice A1 m1 c1)).other (k := 2) (j := w.heap.size) (by omega) (.slice A2 m2 c2)
            have ho1 := ownsRow_setCell_below (ownsRow_setCell_below (own_base (own_later hO1 hb15) (show w.heap.size + 2 ≤ _ by omega)) (a := ⟨w.heap.size, 1, none⟩) (by show w.heap.size < _; omega) (.slice A1 m1 c1)) (a := ⟨w.heap.size, 2, none⟩) (by show w.heap.size < _; omega) (.slice A2 m2 c2)
            have ho2 := ownsRow_setCell_below (ownsRow_setCell_below (own_base hO2 (show w.heap.size + 2 ≤ _ by omega)) (a := ⟨w.heap.size, 1, none⟩) (by show w.heap.size < _; omega) (.slice A1 m1 c1)) (a := ⟨w.heap.size, 2, none⟩) (by show w.heap.size < _; omega) (.slice A2 m2 c2)
            have hbz := ((hb0.trans (hb9.mono hb0.size)).setCell (p := ⟨w.heap.size, 1, none⟩) (Nat.le_refl _) (.slice A1 m1 c1)).setCell (p := ⟨w.heap.size, 2, none⟩) (Nat.le_refl _) (.slice A2 m2 c2)
            have hszz := hb9.size
            have HM := Lib.hid (show Own2 X m1 m2 w.heap.size w _ from ⟨A1, c1, A2, c2, hn1, hn2, ho1, ho2, hbz, by rw [size_set, size_set]; omega⟩)
            clear hHeld hV hn1 hn2 ho1 ho2 hbz hO1 hO2
            go_wp2_with fail
            go_meet
            case rel => exact HM.out
          exact AllReadyH.nil
        refine rg_cons rfl (by rfl) (fun K hK => ?_) ?_
        · have hV := HB.out _ (Below.refl W1.heap.size W1)
          have hcl := hV.1.1.2.2
          go_simp
          clear hcl hV
          refine hK.out _ _ trivial (fun hHeld => ?_)
          clear hK K
          (try simp only [Act.put, List.setIfInBounds_toArray, List.set_cons_zero, List.set_cons_succ])
          refine rg_in 14 rfl (by kernel_rfl) (by kernel_rfl) (by kernel_rfl) (by rfl) (v := ?_) (fun _ _ _ h => h) hHeld (fun w hSw => ?_) ?_
          rotate_left
          · (try dsimp only at hSw); go_simp <;> (with_reducible rfl)
          (try simp only [Act.put, List.setIfInBounds_toArray, List.set_cons_zero, List.set_cons_succ])
          refine rg_do 3 rfl (by kernel_rfl) (by rfl) (fun K hK => ?_)
          have hV := HB.out _ (Below.refl W1.heap.size W1)
          have hcl := hV.1.1.2.1
          go_simp
          clear hcl hV
          refine hK.out _ _ trivial (fun hHeld => ?_)
          clear hK K
          (try simp only [Act.put, List.setIfInBounds_toArray, List.set_cons_zero, List.set_cons_succ])
          refine rg_in 4 rfl (by kernel_rfl) (by kernel_rfl) (by kernel_rfl) (by rfl) (v := ?_) (fun _ _ _ h => h) hHeld (fun w hSw => ?_) ?_
          rotate_left
          · (try dsimp only at hSw); go_simp <;> (with_reducible rfl)
          (try simp only [Act.put, List.setIfInBounds_toArray, List.set_cons_zero, List.set_cons_succ])
          refine rg_in 5 rfl (by kernel_rfl) (by kernel_rfl) (by kernel_rfl) (by rfl) (v := ?_) (fun _ _ _ h => h) hHeld (fun w hSw => ?_) ?_
          rotate_left
          · (try dsimp only at hSw); go_simp <;> (with_reducible rfl)
          (try simp only [Act.put, List.setIfInBounds_toArray, List.set_cons_zero, List.set_cons_succ])
          refine rg_in 6 rfl (by kernel_rfl) (by kernel_rfl) (by kernel_rfl) (by rfl) (v := ?_) (fun _ _ _ h => h) hHeld (fun w hSw => ?_) ?_
          rotate_left
          · (try dsimp only at hSw); go_simp <;> (with_reducible rfl)
          (try simp only [Act.put, List.setIfInBounds_toArray, List.set_cons_zero, List.set_cons_succ])
          refine rg_do 7 rfl (by kernel_rfl) (by rfl) (fun K hK => ?_)
          have hcI := HCI.out _ hbw
          go_simp
          (go_at_call 34; (with_reducible refine hcI.mono ?_); (rintro e w107 ⟨A1, c1, rfl, hO1, hb7⟩))
          have hs1 := Below.size hbw
          clear hcI
          refine hK.out _ _ trivial (fun hHeld => ?_)
          clear hK K
          (try simp only [Act.put, List.setIfInBounds_toArray, List.set_cons_zero, List.set_cons_succ])
          refine rg_in 16 rfl (by kernel_rfl) (by kernel_rfl) (by kernel_rfl) (by rfl) (v := ?_) (fun _ _ _ h => h) hHeld (fun w hSw => ?_) ?_
          rotate_left
          · (try dsimp only at hSw); go_simp <;> (with_reducible rfl)
          (try simp only [Act.put, List.setIfInBounds_toArray, List.set_cons_zero, List.set_cons_succ])
          refine rg_do 15 rfl (by kernel_rfl) (by rfl) (fun K hK => ?_)
          have hcK := HCK.out _ (bel_next hbw hb7)
          go_simp
          (go_at_call 35; (with_reducible refine hcK.mono ?_); (rintro e w115 ⟨A2, c2, rfl, hO2, hb15⟩))
          have hs2 := Below.size (bel_next hbw hb7)
          clear hcK
          refine hK.out _ _ trivial (fun hHeld => ?_)
          clear hK K
          (try simp only [Act.put, List.setIfInBounds_toArray, List.set_cons_zero, List.set_cons_succ])
          refine rg_do 17 rfl (by kernel_rfl) (by rfl) (fun K hK => ?_)
          have hV := HB.out _ (bel_next (bel_next hbw hb7) hb15)
          have hc1 := hV.1.1.2.1
          have hf1 := hV.1.2.2.1
          go_simp
          clear hc1 hf1
          refine hK.out _ _ trivial (fun hHeld => ?_)
          clear hK K
          (try simp only [Act.put, List.setIfInBounds_toArray, List.set_cons_zero, List.set_cons_succ])
          refine rg_in 18 rfl (by kernel_rfl) (by kernel_rfl) (by kernel_rfl) (by rfl) (v := ?_) (fun _ _ _ h => h) hHeld (fun w hSw => ?_) ?_
          rotate_left
          · (try dsimp only at hSw); go_simp <;> (with_reducible rfl)
          (try simp only [Act.put, List.setIfInBounds_toArray, List.set_cons_zero, List.set_cons_succ])
          refine rg_do 19 rfl (by kernel_rfl) (by rfl) (fun K hK => ?_)
          have hc2 := hV.1.1.2.2
          have hf2 := hV.1.2.2.2
          go_simp
          clear hc2 hf2
          refine hK.out _ _ trivial (fun hHeld => ?_)
          clear hK K
          (try simp only [Act.put, List.setIfInBounds_toArray, List.set_cons_zero, List.set_cons_succ])
          refine wpAnyH_done (by kernel_rfl) ?_ _
          have hb9 := (bel_next (bel_next hbw hb7) hb15)
          have hn1 := (hV.1.set1 (.slice A1 m1 c1)).set2 (.slice A2 m2 c2)
          have hn2 := (hV.2.other (k := 1) (j := w.heap.size) (by omega) (.slice A1 m1 c1)).other (k := 2) (j := w.heap.size) (by omega) (.slice A2 m2 c2)
          have ho1 := ownsRow_setCell_below (ownsRow_setCell_below (own_base (own_later hO1 hb15) (show w.heap.size + 2 ≤ _ by omega)) (a := ⟨w.heap.size, 1, none⟩) (by show w.heap.size < _; omega) (.slice A1 m1 c1)) (a := ⟨w.heap.size, 2, none⟩) (by show w.heap.size < _; omega) (.slice A2 m2 c2)
          have ho2 := ownsRow_setCell_below (ownsRow_setCell_below (own_base hO2 (show w.heap.size + 2 ≤ _ by omega)) (a := ⟨w.heap.size, 1, none⟩) (by show w.heap.size < _; omega) (.slice A1 m1 c1)) (a := ⟨w.heap.size, 2, none⟩) (by show w.heap.size < _; omega) (.slice A2 m2 c2)
          have hbz := ((hb0.trans (hb9.mono hb0.size)).setCell (p := ⟨w.heap.size, 1, none⟩) (Nat.le_refl _) (.slice A1 m1 c1)).setCell (p := ⟨w.heap.size, 2, none⟩) (Nat.le_refl _) (.slice A2 m2 c2)
          have hszz := hb9.size
          have HM := Lib.hid (show Own2 X m1 m2 w.heap.size w _ from ⟨A1, c1, A2, c2, hn1, hn2, ho1, ho2, hbz, by rw [size_set, size_set]; omega⟩)
          clear hHeld hV hn1 hn2 ho1 ho2 hbz hO1 hO2
          go_wp2_with fail
          go_meet
          case rel => exact HM.out
        exact AllReadyH.nil
      exact AllReadyH.nil
    refine rg_cons rfl (by rfl) (fun K hK => ?_) ?_
    · have hV := HB.out _ (Below.refl W1.heap.size W1)
      have hcl := hV.1.1.2.1
      go_simp
      clear hcl hV
      refine hK.out _ _ trivial (fun hHeld => ?_)
      clear hK K
      (try simp only [Act.put, List.setIfInBounds_toArray, List.set_cons_zero, List.set_cons_succ])
      refine rg_in 4 rfl (by kernel_rfl) (by kernel_rfl) (by kernel_rfl) (by rfl) (v := ?_) (fun _ _ _ h => h) hHeld (fun w hSw => ?_) ?_
      rotate_left
      · (try dsimp only at hSw); go_simp <;> (with_reducible rfl)
      (try simp only [Act.put, List.setIfInBounds_toArray, List.set_cons_zero, List.set_cons_succ])
      refine rg_in 5 rfl (by kernel_rfl) (by kernel_rfl) (by kernel_rfl) (by rfl) (v := ?_) (fun _ _ _ h => h) hHeld (fun w hSw => ?_) ?_
      rotate_left
      · (try dsimp only at hSw); go_simp <;> (with_reducible rfl)
      (try simp only [Act.put, List.setIfInBounds_toArray, List.set_cons_zero, List.set_cons_succ])
      refine wpAnyH_ready (rs := [1, 9, 11]) (by kernel_rfl) (by simp) ?_
      refine rg_cons rfl (by rfl) (fun K hK => ?_) ?_
      · have hV := HB.out _ (Below.refl W1.heap.size W1)
        have hcl := hV.1.1.2.1
        go_simp
        clear hcl hV
        refine hK.out _ _ trivial (fun hHeld => ?_)
        clear hK K
        (try simp only [Act.put, List.setIfInBounds_toArray, List.set_cons_zero, List.set_cons_succ])
        refine rg_in 6 rfl (by kernel_rfl) (by kernel_rfl) (by kernel_rfl) (by rfl) (v := ?_) (fun _ _ _ h => h) hHeld (fun w hSw => ?_) ?_
        rotate_left
        · (try dsimp only at hSw); go_simp <;> (with_reducible rfl)
        (try simp only [Act.put, List.setIfInBounds_toArray, List.set_cons_zero, List.set_cons_succ])
        refine wpAnyH_ready (rs := [7, 9, 11]) (by kernel_rfl) (by simp) ?_
        refine rg_cons rfl (by rfl) (fun K hK => ?_) ?_
        · have hcI := HCI.out _ hbw
          go_simp
          (go_at_call 34; (with_reducible refine hcI.mono ?_); (rintro e w107 ⟨A1, c1, rfl, hO1, hb7⟩))
          have hs1 := Below.size hbw
          clear hcI
          refine hK.out _ _ trivial (fun hHeld => ?_)
          clear hK K
          (try simp only [Act.put, List.setIfInBounds_toArray, List.set_cons_zero, List.set_cons_succ])
          refine wpAnyH_ready (rs := [9, 11]) (by kernel_rfl) (by simp) ?_
          refine rg_cons rfl (by rfl) (fun K hK => ?_) ?_
          · have hV := HB.out _ (bel_next hbw hb7)
            have hcl := hV.1.1.2.2
            go_simp
            clear hcl hV
            refine hK.out _ _ trivial (fun hHeld => ?_)
            clear hK K
            (try simp only [Act.put, List.setIfInBounds_toArray, List.set_cons_zero, List.set_cons_succ])
            refine rg_do 11 rfl (by kernel_rfl) (by rfl) (fun K hK => ?_)
            have hV := HB.out _ (bel_next hbw hb7)
            have hcl := hV.1.1.2.2
            go_simp
            clear hcl hV
            refine hK.out _ _ trivial (fun hHeld => ?_)
            clear hK K
            (try simp only [Act.put, List.setIfInBounds_toArray, List.set_cons_zero, List.set_cons_succ])
            refine rg_in 12 rfl (by kernel_rfl) (by kernel_rfl) (by kernel_rfl) (by rfl) (v := ?_) (fun _ _ _ h => h) hHeld (fun w hSw => ?_) ?_
            rotate_left
            · (try dsimp only at hSw); go_simp <;> (with_reducible rfl)
            (try simp only [Act.put, List.setIfInBounds_toArray, List.set_cons_zero, List.set_cons_succ])
            refine rg_in 13 rfl (by kernel_rfl) (by kernel_rfl) (by kernel_rfl) (by rfl) (v := ?_) (fun _ _ _ h => h) hHeld (fun w hSw => ?_) ?_
            rotate_left
            · (try dsimp only at hSw); go_simp <;> (with_reducible rfl)
            (try simp only [Act.put, List.setIfInBounds_toArray, List.set_cons_zero, List.set_cons_succ])
            refine rg_in 14 rfl (by kernel_rfl) (by kernel_rfl) (by kernel_rfl) (by rfl) (v := ?_) (fun _ _ _ h => h) hHeld (fun w hSw => ?_) ?_
            rotate_left
            · (try dsimp only at hSw); go_simp <;> (with_reducible rfl)
            (try simp only [Act.put, List.setIfInBounds_toArray, List.set_cons_zero, List.set_cons_succ])
            refine rg_in 16 rfl (by kernel_rfl) (by kernel_rfl) (by kernel_rfl) (by rfl) (v := ?_) (fun _ _ _ h => h) hHeld (fun w hSw => ?_) ?_
            rotate_left
            · (try dsimp only at hSw); go_simp <;> (with_reducible rfl)
            (try simp only [Act.put, List.setIfInBounds_toArray, List.set_cons_zero, List.set_cons_succ])
            refine rg_do 15 rfl (by kernel_rfl) (by rfl) (fun K hK => ?_)
            have hcK := HCK.out _ (bel_next hbw hb7)
            go_simp
            (go_at_call 35; (with_reducible refine hcK.mono ?_); (rintro e w115 ⟨A2, c2, rfl, hO2, hb15⟩))
            have hs2 := Below.size (bel_next hbw hb7)
            clear hcK
            refine hK.out _ _ trivial (fun hHeld => ?_)
            clear hK K
            (try simp only [Act.put, List.setIfInBounds_toArray, List.set_cons_zero, List.set_cons_succ])
            refine rg_do 17 rfl (by kernel_rfl) (by rfl) (fun K hK => ?_)
            have hV := HB.out _ (bel_next (bel_next hbw hb7) hb15)
            have hc1 := hV.1.1.2.1
            have hf1 := hV.1.2.2.1
            go_simp
            clear hc1 hf1
            refine hK.out _ _ trivial (fun hHeld => ?_)
            clear hK K
            (try simp only [Act.put, List.setIfInBounds_toArray, List.set_cons_zero, List.set_cons_succ])
            refine rg_in 18 rfl (by kernel_rfl) (by kernel_rfl) (by kernel_rfl) (by rfl) (v := ?_) (fun _ _ _ h => h) hHeld (fun w hSw => ?_) ?_
            rotate_left
            · (try dsimp only at hSw); go_simp <;> (with_reducible rfl)
            (try simp only [Act.put, List.setIfInBounds_toArray, List.set_cons_zero, List.set_cons_succ])
            refine rg_do 19 rfl (by kernel_rfl) (by rfl) (fun K hK => ?_)
            have hc2 := hV.1.1.2.2
            have hf2 := hV.1.2.2.2
            go_simp
            clear hc2 hf2
            refine hK.out _ _ trivial (fun hHeld => ?_)
            clear hK K
            (try simp only [Act.put, List.setIfInBounds_toArray, List.set_cons_zero, List.set_cons_succ])
            refine wpAnyH_done (by kernel_rfl) ?_ _
            have hb9 := (bel_next (bel_next hbw hb7) hb15)
            have hn1 := (hV.1.set1 (.slice A1 m1 c1)).set2 (.slice A2 m2 c2)
            have hn2 := (hV.2.other (k := 1) (j := w.heap.size) (by omega) (.slice A1 m1 c1)).other (k := 2) (j := w.heap.size) (by omega) (.slice A2 m2 c2)
            have ho1 := ownsRow_setCell_below (ownsRow_setCell_below (own_base (own_later hO1 hb15) (show w.heap.size + 2 ≤ _ by omega)) (a := ⟨w.heap.size, 1, none⟩) (by show w.heap.size < _; omega) (.slice A1 m1 c1)) (a := ⟨w.heap.size, 2, none⟩) (by show w.heap.size < _; omega) (.slice A2 m2 c2)
            have ho2 := ownsRow_setCell_below (ownsRow_setCell_below (own_base hO2 (show w.heap.size + 2 ≤ _ by omega)) (a := ⟨w.heap.size, 1, none⟩) (by show w.heap.size < _; omega) (.slice A1 m1 c1)) (a := ⟨w.heap.size, 2, none⟩) (by show w.heap.size < _; omega) (.slice A2 m2 c2)
            have hbz := ((hb0.trans (hb9.mono hb0.size)).setCell (p := ⟨w.heap.size, 1, none⟩) (Nat.le_refl _) (.slice A1 m1 c1)).setCell (p := ⟨w.heap.size, 2, none⟩) (Nat.le_refl _) (.slice A2 m2 c2)
            have hszz := hb9.size
            have HM := Lib.hid (show Own2 X m1 m2 w.heap.size w _ from ⟨A1, c1, A2, c2, hn1, hn2, ho1, ho2, hbz, by rw [size_set, size_set]; omega⟩)
            clear hHeld hV hn1 hn2 ho1 ho2 hbz hO1 hO2
            go_wp2_with fail
            go_meet
            case rel => exact HM.out
          refine rg_cons rfl (by rfl) (fun K hK => ?_) ?_
          · have hV := HB.out _ (bel_next hbw hb7)
            have hcl := hV.1.1.2.2
            go_simp
            clear hcl hV
            refine hK.out _ _ trivial (fun hHeld => ?_)
            clear hK K
            (try simp only [Act.put, List.setIfInBounds_toArray, List.set_cons_zero, List.set_cons_succ])
            refine rg_in 12 rfl (by kernel_rfl) (by kernel_rfl) (by kernel_rfl) (by rfl) (v := ?_) (fun _ _ _ h => h) hHeld (fun w hSw => ?_) ?_
            rotate_left
            · (try dsimp only at hSw); go_simp <;> (with_reducible rfl)
            (try simp only [Act.put, List.setIfInBounds_toArray, List.set_cons_zero, List.set_cons_succ])
            refine rg_in 13 rfl (by kernel_rfl) (by kernel_rfl) (by kernel_rfl) (by rfl) (v := ?_) (fun _ _ _ h => h) hHeld (fun w hSw => ?_) ?_
            rotate_left
            · (try dsimp only at hSw); go_simp <;> (with_reducible rfl)
            (try simp only [Act.put, List.setIfInBounds_toArray, List.set_cons_zero, List.set_cons_succ])
            refine rg_do 9 rfl (by kernel_rfl) (by rfl) (fun K hK => ?_)
            have hV := HB.out _ (bel_next hbw hb7)
            have hcl := hV.1.1.2.2
            go_simp
            clear hcl hV
            refine hK.out _ _ trivial (fun hHeld => ?_)
            clear hK K
            (try simp only [Act.put, List.setIfInBounds_toArray, List.set_cons_zero, List.set_cons_succ])
            refine rg_in 14 rfl (by kernel_rfl) (by kernel_rfl) (by kernel_rfl) (by rfl) (v := ?_) (fun _ _ _ h => h) hHeld (fun w hSw => ?_) ?_
            rotate_left
            · (try dsimp only at hSw); go_simp <;> (with_reducible rfl)
            (try simp only [Act.put, List.setIfInBounds_toArray, List.set_cons_zero, List.set_cons_succ])
            refine rg_in 16 rfl (by kernel_rfl) (by kernel_rfl) (by kernel_rfl) (by rfl) (v := ?_) (fun _ _ _ h => h) hHeld (fun w hSw => ?_) ?_
            rotate_left
            · (try dsimp only at hSw); go_simp <;> (with_reducible rfl)
            (try simp only [Act.put, List.setIfInBounds_toArray, List.set_cons_zero, List.set_cons_succ])
            refine rg_do 15 rfl (by kernel_rfl) (by rfl) (fun K hK => ?_)
            have hcK := HCK.out _ (bel_next hbw hb7)
            go_simp
            (go_at_call 35; (with_reducible refine hcK.mono ?_); (rintro e w115 ⟨A2, c2, rfl, hO2, hb15⟩))
            have hs2 := Below.size (bel_next hbw hb7)
            clear hcK
            refine hK.out _ _ trivial (fun hHeld => ?_)
            clear hK K
            (try simp only [Act.put, List.setIfInBounds_toArray, List.set_cons_zero, List.set_cons_succ])
            refine rg_do 17 rfl (by kernel_rfl) (by rfl) (fun K hK => ?_)
            have hV := HB.out _ (bel_next (bel_next hbw hb7) hb15)
            have hc1 := hV.1.1.2.1
            have hf1 := hV.1.2.2.1
            go_simp
            clear hc1 hf1
            refine hK.out _ _ trivial (fun hHeld => ?_)
            clear hK K
            (try simp only [Act.put, List.setIfInBounds_toArray, List.set_cons_zero, List.set_cons_succ])
            refine rg_in 18 rfl (by kernel_rfl) (by kernel_rfl) (by kernel_rfl) (by rfl) (v := ?_) (fun _ _ _ h => h) hHeld (fun w hSw => ?_) ?_
            rotate_left
            · (try dsimp only at hSw); go_simp <;> (with_reducible rfl)
            (try simp only [Act.put, List.setIfInBounds_toArray, List.set_cons_zero, List.set_cons_succ])
            refine rg_do 19 rfl (by kernel_rfl) (by rfl) (fun K hK => ?_)
            have hc2 := hV.1.1.2.2
            have hf2 := hV.1.2.2.2
            go_simp
            clear hc2 hf2
            refine hK.out _ _ trivial (fun hHeld => ?_)
            clear hK K
            (try simp only [Act.put, List.setIfInBounds_toArray, List.set_cons_zero, List.set_cons_succ])
            refine wpAnyH_done (by kernel_rfl) ?_ _
            have hb9 := (bel_next (bel_next hbw hb7) hb15)
            have hn1 := (hV.1.set1 (.slice A1 m1 c1)).set2 (.slice A2 m2 c2)
            have hn2 := (hV.2.other (k := 1) (j := w.heap.size) (by omega) (.slice A1 m1 c1)).other (k := 2) (j := w.heap.size) (by omega) (.slice A2 m2 c2)
            have ho1 := ownsRow_setCell_below (ownsRow_setCell_below (own_base (own_later hO1 hb15) (show w.heap.size + 2 ≤ _ by omega)) (a := ⟨w.heap.size, 1, none⟩) (by show w.heap.size < _; omega) (.slice A1 m1 c1)) (a := ⟨w.heap.size, 2, none⟩) (by show w.heap.size < _; omega) (.slice A2 m2 c2)
            have ho2 := ownsRow_setCell_below (ownsRow_setCell_below (own_base hO2 (show w.heap.size + 2 ≤ _ by omega)) (a := ⟨w.heap.size, 1, none⟩) (by show w.heap.size < _; omega) (.slice A1 m1 c1)) (a := ⟨w.heap.size, 2, none⟩) (by show w.heap.size < _; omega) (.slice A2 m2 c2)
            have hbz := ((hb0.trans (hb9.mono hb0.size)).setCell (p := ⟨w.heap.size, 1, none⟩) (Nat.le_refl _) (.slice A1 m1 c1)).setCell (p := ⟨w.heap.size, 2, none⟩) (Nat.le_refl _) (.slice A2 m2 c2)
            have hszz := hb9.size
            have HM := Lib.hid (show Own2 X m1 m2 w.heap.size w _ from ⟨A1, c1, A2, c2, hn1, hn2, ho1, ho2, hbz, by rw [size_set, size_set]; omega⟩)
            clear hHeld hV hn1 hn2 ho1 ho2 hbz hO1 hO2
            go_wp2_with fail
            go_meet
            case rel => exact HM.out
          exact AllReadyH.nil
        refine rg_cons rfl (by rfl) (fun K hK => ?_) ?_
        · have hV := HB.out _ (Below.refl W1.heap.size W1)
          have hcl := hV.1.1.2.2
          go_simp
          clear hcl hV
          refine hK.out _ _ trivial (fun hHeld => ?_)
          clear hK K
          (try simp only [Act.put, List.setIfInBounds_toArray, List.set_cons_zero, List.set_cons_succ])
          refine wpAnyH_ready (rs := [7, 11]) (by kernel_rfl) (by simp) ?_
          refine rg_cons rfl (by rfl) (fun K hK => ?_) ?_
          · have hcI := HCI.out _ hbw
            go_simp
            (go_at_call 34; (with_reducible refine hcI.mono ?_); (rintro e w107 ⟨A1, c1, rfl, hO1, hb7⟩))
            have hs1 := Below.size hbw
            clear hcI
            refine hK.out _ _ trivial (fun hHeld => ?_)
            clear hK K
            (try simp only [Act.put, List.setIfInBounds_toArray, List.set_cons_zero, List.set_cons_succ])
            refine rg_do 11 rfl (by kernel_rfl) (by rfl) (fun K hK => ?_)
            have hV := HB.out _ (bel_next hbw hb7)
            have hcl := hV.1.1.2.2
            go_simp
            clear hcl hV
            refine hK.out _ _ trivial (fun hHeld => ?_)
            clear hK K
            (try simp only [Act.put, List.setIfInBounds_toArray, List.set_cons_zero, List.set_cons_succ])
            refine rg_in 12 rfl (by kernel_rfl) (by kernel_rfl) (by kernel_rfl) (by rfl) (v := ?_) (fun _ _ _ h => h) hHeld (fun w hSw => ?_) ?_
            rotate_left
            · (try dsimp only at hSw); go_simp <;> (with_reducible rfl)
            (try simp only [Act.put, List.setIfInBounds_toArray, List.set_cons_zero, List.set_cons_succ])
            refine rg_in 13 rfl (by kernel_rfl) (by kernel_rfl) (by kernel_rfl) (by rfl) (v := ?_) (fun _ _ _ h => h) hHeld (fun w hSw => ?_) ?_
            rotate_left
            · (try dsimp only at hSw); go_simp <;> (with_reducible rfl)
            (try simp only [Act.put, List.setIfInBounds_toArray, List.set_cons_zero, List.set_cons_succ])
            refine rg_in 14 rfl (by kernel_rfl) (by kernel_rfl) (by kernel_rfl) (by rfl) (v := ?_) (fun _ _ _ h => h) hHeld (fun w hSw => ?_) ?_
            rotate_left
            · (try dsimp only at hSw); go_simp <;> (with_reducible rfl)
            (try simp only [Act.put, List.setIfInBounds_toArray, List.set_cons_zero, List.set_cons_succ])
            refine rg_in 16 rfl (by kernel_rfl) (by kernel_rfl) (by kernel_rfl) (by rfl) (v := ?_) (fun _ _ _ h => h) hHeld (fun w hSw => ?_) ?_
            rotate_left
            · (try dsimp only at hSw); go_simp <;> (with_reducible rfl)
            (try simp only [Act.put, List.setIfInBounds_toArray, List.set_cons_zero, List.set_cons_succ])
            refine rg_do 15 rfl (by kernel_rfl) (by rfl) (fun K hK => ?_)
            have hcK := HCK.out _ (bel_next hbw hb7)
            go_simp
            (go_at_call 35; (with_reducible refine hcK.mono ?_); (rintro e w115 ⟨A2, c2, rfl, hO2, hb15⟩))
            have hs2 := Below.size (bel_next hbw hb7)
            clear hcK
            refine hK.out _ _ trivial (fun hHeld => ?_)
            clear hK K
            (try simp only [Act.put, List.setIfInBounds_toArray, List.set_cons_zero, List.set_cons_succ])
            refine rg_do 17 rfl (by kernel_rfl) (by rfl) (fun K hK => ?_)
            have hV := HB.out _ (bel_next (bel_next hbw hb7) hb15)
            have hc1 := hV.1.1.2.1
            have hf1 := hV.1.2.2.1
            go_simp
            clear hc1 hf1
            refine hK.out _ _ trivial (fun hHeld => ?_)
            clear hK K
            (try simp only [Act.put, List.setIfInBounds_toArray, List.set_cons_zero, List.set_cons_succ])
            refine rg_in 18 rfl (by kernel_rfl) (by kernel_rfl) (by kernel_rfl) (by rfl) (v := ?_) (fun _ _ _ h => h) hHeld (fun w hSw => ?_) ?_
            rotate_left
            · (try dsimp only at hSw); go_simp <;> (with_reducible rfl)
            (try simp only [Act.put, List.setIfInBounds_toArray, List.set_cons_zero, List.set_cons_succ])
            refine rg_do 19 rfl (by kernel_rfl) (by rfl) (fun K hK => ?_)
            have hc2 := hV.1.1.2.2
            have hf2 := hV.1.2.2.2
            go_simp
            clear hc2 hf2
            refine hK.out _ _ trivial (fun hHeld => ?_)
            clear hK K
            (try simp only [Act.put, List.setIfInBounds_toArray, List.set_cons_zero, List.set_cons_succ])
            refine wpAnyH_done (by kernel_rfl) ?_ _
            have hb9 := (bel_next (bel_next hbw hb7) hb15)
            have hn1 := (hV.1.set1 (.slice A1 m1 c1)).set2 (.slice A2 m2 c2)
            have hn2 := (hV.2.other (k := 1) (j := w.heap.size) (by omega) (.slice A1 m1 c1)).other (k := 2) (j := w.heap.size) (by omega) (.slice A2 m2 c2)
            have ho1 := ownsRow_setCell_below (ownsRow_setCell_below (own_base (own_later hO1 hb15) (show w.heap.size + 2 ≤ _ by omega)) (a := ⟨w.heap.size, 1, none⟩) (by show w.heap.size < _; omega) (.slice A1 m1 c1)) (a := ⟨w.heap.size, 2, none⟩) (by show w.heap.size < _; omega) (.slice A2 m2 c2)
            have ho2 := ownsRow_setCell_below (ownsRow_setCell_below (own_base hO2 (show w.heap.size + 2 ≤ _ by omega)) (a := ⟨w.heap.size, 1, none⟩) (by show w.heap.size < _; omega) (.slice A1 m1 c1)) (a := ⟨w.heap.size, 2, none⟩) (by show w.heap.size < _; omega) (.slice A2 m2 c2)
            have hbz := ((hb0.trans (hb9.mono hb0.size)).setCell (p := ⟨w.heap.size, 1, none⟩) (Nat.le_refl _) (.slice A1 m1 c1)).setCell (p := ⟨w.heap.size, 2, none⟩) (Nat.le_refl _) (.slice A2 m2 c2)
            have hszz := hb9.size
            have HM := Lib.hid (show Own2 X m1 m2 w.heap.size w _ from ⟨A1, c1, A2, c2, hn1, hn2, ho1, ho2, hbz, by rw [size_set, size_set]; omega⟩)
            clear hHeld hV hn1 hn2 ho1 ho2 hbz hO1 hO2
            go_wp2_with fail
            go_meet
            case rel => exact HM.out
          refine rg_cons rfl (by rfl) (fun K hK => ?_) ?_
          · have hV := HB.out _ (Below.refl W1.heap.size W1)
            have hcl := hV.1.1.2.2
            go_simp
            clear hcl hV
            refine hK.out _ _ trivial (fun hHeld => ?_)
            clear hK K
            (try simp only [Act.put, List.setIfInBounds_toArray, List.set_cons_zero, List.set_cons_succ])
            refine rg_in 12 rfl (by kernel_rfl) (by kernel_rfl) (by kernel_rfl) (by rfl) (v := ?_) (fun _ _ _ h => h) hHeld (fun w hSw => ?_) ?_
            rotate_left
            · (try dsimp only at hSw); go_simp <;> (with_reducible rfl)
            (try simp only [Act.put, List.setIfInBounds_toArray, List.set_cons_zero, List.set_cons_succ])
            refine rg_in 13 rfl (by kernel_rfl) (by kernel_rfl) (by kernel_rfl) (by rfl) (v := ?_) (fun _ _ _ h => h) hHeld (fun w hSw => ?_) ?_
            rotate_left
            · (try dsimp only at hSw); go_simp <;> (with_reducible rfl)
            (try simp only [Act.put, List.setIfInBounds_toArray, List.set_cons_zero, List.set_cons_succ])
            refine rg_in 14 rfl (by kernel_rfl) (by kernel_rfl) (by kernel_rfl) (by rfl) (v := ?_) (fun _ _ _ h => h) hHeld (fun w hSw => ?_) ?_
            rotate_left
            · (try dsimp only at hSw); go_simp <;> (with_reducible rfl)
            (try simp only [Act.put, List.setIfInBounds_toArray, List.set_cons_zero, List.set_cons_succ])
            refine rg_do 7 rfl (by kernel_rfl) (by rfl) (fun K hK => ?_)
            have hcI := HCI.out _ hbw
            go_simp
            (go_at_call 34; (with_reducible refine hcI.mono ?_); (rintro e w107 ⟨A1, c1, rfl, hO1, hb7⟩))
            have hs1 := Below.size hbw
            clear hcI
            refine hK.out _ _ trivial (fun hHeld => ?_)
            clear hK K
            (try simp only [Act.put, List.setIfInBounds_toArray, List.set_cons_zero, List.set_cons_succ])
            refine rg_in 16 rfl (by kernel_rfl) (by kernel_rfl) (by kernel_rfl) (by rfl) (v := ?_) (fun _ _ _ h => h) hHeld (fun w hSw => ?_) ?_
            rotate_left
            · (try dsimp only at hSw); go_simp <;> (with_reducible rfl)
            (try simp only [Act.put, List.setIfInBounds_toArray, List.set_cons_zero, List.set_cons_succ])
            refine rg_do 15 rfl (by kernel_rfl) (by rfl) (fun K hK => ?_)
            have hcK := HCK.out _ (bel_next hbw hb7)
            go_simp
            (go_at_call 35; (with_reducible refine hcK.mono ?_); (rintro e w115 ⟨A2, c2, rfl, hO2, hb15⟩))
            have hs2 := Below.size (bel_next hbw hb7)
            clear hcK
            refine hK.out _ _ trivial (fun hHeld => ?_)
            clear hK K
            (try simp only [Act.put, List.setIfInBounds_toArray, List.set_cons_zero, List.set_cons_succ])
            refine rg_do 17 rfl (by kernel_rfl) (by rfl) (fun K hK => ?_)
            have hV := HB.out _ (bel_next (bel_next hbw hb7) hb15)
            have hc1 := hV.1.1.2.1
            have hf1 := hV.1.2.2.1
            go_simp
            clear hc1 hf1
            refine hK.out _ _ trivial (fun hHeld => ?_)
            clear hK K
            (try simp only [Act.put, List.setIfInBounds_toArray, List.set_cons_zero, List.set_cons_succ])
            refine rg_in 18 rfl (by kernel_rfl) (by kernel_rfl) (by kernel_rfl) (by rfl) (v := ?_) (fun _ _ _ h => h) hHeld (fun w hSw => ?_) ?_
            rotate_left
            · (try dsimp only at hSw); go_simp <;> (with_reducible rfl)
            (try simp only [Act.put, List.setIfInBounds_toArray, List.set_cons_zero, List.set_cons_succ])
            refine rg_do 19 rfl (by kernel_rfl) (by rfl) (fun K hK => ?_)
            have hc2 := hV.1.1.2.2
            have hf2 := hV.1.2.2.2
            go_simp
            clear hc2 hf2
            refine hK.out _ _ trivial (fun hHeld => ?_)
            clear hK K
            (try simp only [Act.put, List.setIfInBounds_toArray, List.set_cons_zero, List.set_cons_succ])
            refine wpAnyH_done (by kernel_rfl) ?_ _
            have hb9 := (bel_next (bel_next hbw hb7) hb15)
            have hn1 := (hV.1.set1 (.slice A1 m1 c1)).set2 (.slice A2 m2 c2)
            have hn2 := (hV.2.other (k := 1) (j := w.heap.size) (by omega) (.slice A1 m1 c1)).other (k := 2) (j := w.heap.size) (by omega) (.slice A2 m2 c2)
            have ho1 := ownsRow_setCell_below (ownsRow_setCell_below (own_base (own_later hO1 hb15) (show w.heap.size + 2 ≤ _ by omega)) (a := ⟨w.heap.size, 1, none⟩) (by show w.heap.size < _; omega) (.slice A1 m1 c1)) (a := ⟨w.heap.size, 2, none⟩) (by show w.heap.size < _; omega) (.slice A2 m2 c2)
            have ho2 := ownsRow_setCell_below (ownsRow_setCell_below (own_base hO2 (show w.heap.size + 2 ≤ _ by omega)) (a := ⟨w.heap.size, 1, none⟩) (by show w.heap.size < _; omega) (.slice A1 m1 c1)) (a := ⟨w.heap.size, 2, none⟩) (by show w.heap.size < _; omega) (.slice A2 m2 c2)
            have hbz := ((hb0.trans (hb9.mono hb0.size)).setCell (p := ⟨w.heap.size, 1, none⟩) (Nat.le_refl _) (.slice A1 m1 c1)).setCell (p := ⟨w.heap.size, 2, none⟩) (Nat.le_refl _) (.slice A2 m2 c2)
            have hszz := hb9.size
            have HM := Lib.hid (show Own2 X m1 m2 w.heap.size w _ from ⟨A1, c1, A2, c2, hn1, hn2, ho1, ho2, hbz, by rw [size_set, size_set]; omega⟩)
            clear hHeld hV hn1 hn2 ho1 ho2 hbz hO1 hO2
            go_wp2_with fail
            go_meet
            case rel => exact HM.out
          exact AllReadyH.nil
        refine rg_cons rfl (by rfl) (fun K hK => ?_) ?_
        · have hV := HB.out _ (Below.refl W1.heap.size W1)
          have hcl := hV.1.1.2.2
          go_simp
          clear hcl hV
          refine hK.out _ _ trivial (fun hHeld => ?_)
          clear hK K
          (try simp only [Act.put, List.setIfInBounds_toArray, List.set_cons_zero, List.set_cons_succ])
          refine rg_in 12 rfl (by kernel_rfl) (by kernel_rfl) (by kernel_rfl) (by rfl) (v := ?_) (fun _ _ _ h => h) hHeld (fun w hSw => ?_) ?_
          rotate_left
          · (try dsimp only at hSw); go_simp <;> (with_reducible rfl)
          (try simp only [Act.put, List.setIfInBounds_toArray, List.set_cons_zero, List.set_cons_succ])
          refine rg_in 13 rfl (by kernel_rfl) (by kernel_rfl) (by kernel_rfl) (by rfl) (v := ?_) (fun _ _ _ h => h) hHeld (fun w hSw => ?_) ?_
          rotate_left
          · (try dsimp only at hSw); go_simp <;> (with_reducible rfl)
          (try simp only [Act.put, List.setIfInBounds_toArray, List.set_cons_zero, List.set_cons_succ])
          refine wpAnyH_ready (rs := [7, 9]) (by kernel_rfl) (by simp) ?_
          refine rg_cons rfl (by rfl) (fun K hK => ?_) ?_
          · have hcI := HCI.out _ hbw
            go_simp
            (go_at_call 34; (with_reducible refine hcI.mono ?_); (rintro e w107 ⟨A1, c1, rfl, hO1, hb7⟩))
            have hs1 := Below.size hbw
            clear hcI
            refine hK.out _ _ trivial (fun hHeld => ?_)
            clear hK K
            (try simp only [Act.put, List.setIfInBounds_toArray, List.set_cons_zero, List.set_cons_succ])
            refine rg_do 9 rfl (by kernel_rfl) (by rfl) (fun K hK => ?_)
            have hV := HB.out _ (bel_next hbw hb7)
            have hcl := hV.1.1.2.2
            go_simp
            clear hcl hV
            refine hK.out _ _ trivial (fun hHeld => ?_)
            clear hK K
            (try simp only [Act.put, List.setIfInBounds_toArray, List.set_cons_zero, List.set_cons_succ])
            refine rg_in 14 rfl (by kernel_rfl) (by kernel_rfl) (by kernel_rfl) (by rfl) (v := ?_) (fun _ _ _ h => h) hHeld (fun w hSw => ?_) ?_
            rotate_left
            · (try dsimp only at hSw); go_simp <;> (with_reducible rfl)
            (try simp only [Act.put, List.setIfInBounds_toArray, List.set_cons_zero, List.set_cons_succ])
            refine rg_in 16 rfl (by kernel_rfl) (by kernel_rfl) (by kernel_rfl) (by rfl) (v := ?_) (fun _ _ _ h => h) hHeld (fun w hSw => ?_) ?_
            rotate_left
            · (try dsimp only at hSw); go_simp <;> (with_reducible rfl)
            (try simp only [Act.put, List.setIfInBounds_toArray, List.set_cons_zero, List.set_cons_succ])
            refine rg_do 15 rfl (by kernel_rfl) (by rfl) (fun K hK => ?_)
            have hcK := HCK.out _ (bel_next hbw hb7)
            go_simp
            (go_at_call 35; (with_reducible refine hcK.mono ?_); (rintro e w115 ⟨A2, c2, rfl, hO2, hb15⟩))
            have hs2 := Below.size (bel_next hbw hb7)
            clear hcK
            refine hK.out _ _ trivial (fun hHeld => ?_)
            clear hK K
            (try simp only [Act.put, List.setIfInBounds_toArray, List.set_cons_zero, List.set_cons_succ])
            refine rg_do 17 rfl (by kernel_rfl) (by rfl) (fun K hK => ?_)
            have hV := HB.out _ (bel_next (bel_next hbw hb7) hb15)
            have hc1 := hV.1.1.2.1
            have hf1 := hV.1.2.2.1
            go_simp
            clear hc1 hf1
            refine hK.out _ _ trivial (fun hHeld => ?_)
            clear hK K
            (try simp only [Act.put, List.setIfInBounds_toArray, List.set_cons_zero, List.set_cons_succ])
            refine rg_in 18 rfl (by kernel_rfl) (by kernel_rfl) (by kernel_rfl) (by rfl) (v := ?_) (fun _ _ _ h => h) hHeld (fun w hSw => ?_) ?_
            rotate_left
            · (try dsimp only at hSw); go_simp <;> (with_reducible rfl)
            (try simp only [Act.put, List.setIfInBounds_toArray, List.set_cons_zero, List.set_cons_succ])
            refine rg_do 19 rfl (by kernel_rfl) (by rfl) (fun K hK => ?_)
            have hc2 := hV.1.1.2.2
            have hf2 := hV.1.2.2.2
            go_simp
            clear hc2 hf2
            refine hK.out _ _ trivial (fun hHeld => ?_)
            clear hK K
            (try simp only [Act.put, List.setIfInBounds_toArray, List.set_cons_zero, List.set_cons_succ])
            refine wpAnyH_done (by kernel_rfl) ?_ _
            have hb9 := (bel_next (bel_next hbw hb7) hb15)
            have hn1 := (hV.1.set1 (.slice A1 m1 c1)).set2 (.slice A2 m2 c2)
            have hn2 := (hV.2.other (k := 1) (j := w.heap.size) (by omega) (.slice A1 m1 c1)).other (k := 2) (j := w.heap.size) (by omega) (.slice A2 m2 c2)
            have ho1 := ownsRow_setCell_below (ownsRow_setCell_below (own_base (own_later hO1 hb15) (show w.heap.size + 2 ≤ _ by omega)) (a := ⟨w.heap.size, 1, none⟩) (by show w.heap.size < _; omega) (.slice A1 m1 c1)) (a := ⟨w.heap.size, 2, none⟩) (by show w.heap.size < _; omega) (.slice A2 m2 c2)
            have ho2 := ownsRow_setCell_below (ownsRow_setCell_below (own_base hO2 (show w.heap.size + 2 ≤ _ by omega)) (a := ⟨w.heap.size, 1, none⟩) (by show w.heap.size < _; omega) (.slice A1 m1 c1)) (a := ⟨w.heap.size, 2, none⟩) (by show w.heap.size < _; omega) (.slice A2 m2 c2)
            have hbz := ((hb0.trans (hb9.mono hb0.size)).setCell (p := ⟨w.heap.size, 1, none⟩) (Nat.le_refl _) (.slice A1 m1 c1)).setCell (p := ⟨w.heap.size, 2, none⟩) (Nat.le_refl _) (.slice A2 m2 c2)
            have hszz := hb9.size
            have HM := Lib.hid (show Own2 X m1 m2 w.heap.size w _ from ⟨A1, c1, A2, c2, hn1, hn2, ho1, ho2, hbz, by rw [size_set, size_set]; omega⟩)
            clear hHeld hV hn1 hn2 ho1 ho2 hbz hO1 hO2
            go_wp2_with fail
            go_meet
            case rel => exact HM.out
          refine rg_cons rfl (by rfl) (fun K hK => ?_) ?_
          · have hV := HB.out _ (Below.refl W1.heap.size W1)
            have hcl := hV.1.1.2.2
            go_simp
            clear hcl hV
            refine hK.out _ _ trivial (fun hHeld => ?_)
            clear hK K
            (try simp only [Act.put, List.setIfInBounds_toArray, List.set_cons_zero, List.set_cons_succ])
            refine rg_in 14 rfl (by kernel_rfl) (by kernel_rfl) (by kernel_rfl) (by rfl) (v := ?_) (fun _ _ _ h => h) hHeld (fun w hSw => ?_) ?_
            rotate_left
            · (try dsimp only at hSw); go_simp <;> (with_reducible rfl)
            (try simp only [Act.put, List.setIfInBounds_toArray, List.set_cons_zero, List.set_cons_succ])
            refine rg_do 7 rfl (by kernel_rfl) (by rfl) (fun K hK => ?_)
            have hcI := HCI.out _ hbw
            go_simp
            (go_at_call 34; (with_reducible refine hcI.mono ?_); (rintro e w107 ⟨A1, c1, rfl, hO1, hb7⟩))
            have hs1 := Below.size hbw
            clear hcI
            refine hK.out _ _ trivial (fun hHeld => ?_)
            clear hK K
            (try simp only [Act.put, List.setIfInBounds_toArray, List.set_cons_zero, List.set_cons_succ])
            refine rg_in 16 rfl (by kernel_rfl) (by kernel_rfl) (by kernel_rfl) (by rfl) (v := ?_) (fun _ _ _ h => h) hHeld (fun w hSw => ?_) ?_
            rotate_left
            · (try dsimp only at hSw); go_simp <;> (with_reducible rfl)
            (try simp only [Act.put, List.setIfInBounds_toArray, List.set_cons_zero, List.set_cons_succ])
            refine rg_do 15 rfl (by kernel_rfl) (by rfl) (fun K hK => ?_)
            have hcK := HCK.out _ (bel_next hbw hb7)
            go_simp
            (go_at_call 35; (with_reducible refine hcK.mono ?_); (rintro e w115 ⟨A2, c2, rfl, hO2, hb15⟩))
            have hs2 := Below.size (bel_next hbw hb7)
            clear hcK
            refine hK.out _ _ trivial (fun hHeld => ?_)
            clear hK K
            (try simp only [Act.put, List.setIfInBounds_toArray, List.set_cons_zero, List.set_cons_succ])
            refine rg_do 17 rfl (by kernel_rfl) (by rfl) (fun K hK => ?_)
            have hV := HB.out _ (bel_next (bel_next hbw hb7) hb15)
            have hc1 := hV.1.1.2.1
            have hf1 := hV.1.2.2.1
            go_simp
            clear hc1 hf1
            refine hK.out _ _ trivial (fun hHeld => ?_)
            clear hK K
            (try simp only [Act.put, List.setIfInBounds_toArray, List.set_cons_zero, List.set_cons_succ])
            refine rg_in 18 rfl (by kernel_rfl) (by kernel_rfl) (by kernel_rfl) (by rfl) (v := ?_) (fun _ _ _ h => h) hHeld (fun w hSw => ?_) ?_
            rotate_left
            · (try dsimp only at hSw); go_simp <;> (with_reducible rfl)
            (try simp only [Act.put, List.setIfInBounds_toArray, List.set_cons_zero, List.set_cons_succ])
            refine rg_do 19 rfl (by kernel_rfl) (by rfl) (fun K hK => ?_)
            have hc2 := hV.1.1.2.2
            have hf2 := hV.1.2.2.2
            go_simp
            clear hc2 hf2
            refine hK.out _ _ trivial (fun hHeld => ?_)
            clear hK K
            (try simp only [Act.put, List.setIfInBounds_toArray, List.set_cons_zero, List.set_cons_succ])
            refine wpAnyH_done (by kernel_rfl) ?_ _
            have hb9 := (bel_next (bel_next hbw hb7) hb15)
            have hn1 := (hV.1.set1 (.slice A1 m1 c1)).set2 (.slice A2 m2 c2)
            have hn2 := (hV.2.other (k := 1) (j := w.heap.size) (by omega) (.slice A1 m1 c1)).other (k := 2) (j := w.heap.size) (by omega) (.slice A2 m2 c2)
            have ho1 := ownsRow_setCell_below (ownsRow_setCell_below (own_base (own_later hO1 hb15) (show w.heap.size + 2 ≤ _ by omega)) (a := ⟨w.heap.size, 1, none⟩) (by show w.heap.size < _; omega) (.slice A1 m1 c1)) (a := ⟨w.heap.size, 2, none⟩) (by show w.heap.size < _; omega) (.slice A2 m2 c2)
            have ho2 := ownsRow_setCell_below (ownsRow_setCell_below (own_base hO2 (show w.heap.size + 2 ≤ _ by omega)) (a := ⟨w.heap.size, 1, none⟩) (by show w.heap.size < _; omega) (.slice A1 m1 c1)) (a := ⟨w.heap.size, 2, none⟩) (by show w.heap.size < _; omega) (.slice A2 m2 c2)
            have hbz := ((hb0.trans (hb9.mono hb0.size)).setCell (p := ⟨w.heap.size, 1, none⟩) (Nat.le_refl _) (.slice A1 m1 c1)).setCell (p := ⟨w.heap.size, 2, none⟩) (Nat.le_refl _) (.slice A2 m2 c2)
            have hszz := hb9.size
            have HM := Lib.hid (show Own2 X m1 m2 w.heap.size w _ from ⟨A1, c1, A2, c2, hn1, hn2, ho1, ho2, hbz, by rw [size_set, size_set]; omega⟩)
            clear hHeld hV hn1 hn2 ho1 ho2 hbz hO1 hO2
            go_wp2_with fail
            go_meet
            case rel => exact HM.out
          exact AllReadyH.nil
        exact AllReadyH.nil
      refine rg_cons rfl (by rfl) (fun K hK => ?_) ?_
      · have hV := HB.out _ (Below.refl W1.heap.size W1)
        have hcl := hV.1.1.2.2
        go_simp
        clear hcl hV
        refine hK.out _ _ trivial (fun hHeld => ?_)
        clear hK K
        (try simp only [Act.put, List.setIfInBounds_toArray, List.set_cons_zero, List.set_cons_succ])
        refine wpAnyH_ready (rs := [1, 11]) (by kernel_rfl) (by simp) ?_
        refine rg_cons rfl (by rfl) (fun K hK => ?_) ?_
        · have hV := HB.out _ (Below.refl W1.heap.size W1)
          have hcl := hV.1.1.2.1
          go_simp
          clear hcl hV
          refine hK.out _ _ trivial (fun hHeld => ?_)
          clear hK K
          (try simp only [Act.put, List.setIfInBounds_toArray, List.set_cons_zero, List.set_cons_succ])
          refine rg_in 6 rfl (by kernel_rfl) (by kernel_rfl) (by kernel_rfl) (by rfl) (v := ?_) (fun _ _ _ h => h) hHeld (fun w hSw => ?_) ?_
          rotate_left
          · (try dsimp only at hSw); go_simp <;> (with_reducible rfl)
          (try simp only [Act.put, List.setIfInBounds_toArray, List.set_cons_zero, List.set_cons_succ])
          refine wpAnyH_ready (rs := [7, 11]) (by kernel_rfl) (by simp) ?_
          refine rg_cons rfl (by rfl) (fun K hK => ?_) ?_
          · have hcI := HCI.out _ hbw
            go_simp
            (go_at_call 34; (with_reducible refine hcI.mono ?_); (rintro e w107 ⟨A1, c1, rfl, hO1, hb7⟩))
            have hs1 := Below.size hbw
            clear hcI
            refine hK.out _ _ trivial (fun hHeld => ?_)
            clear hK K
            (try simp only [Act.put, List.setIfInBounds_toArray, List.set_cons_zero, List.set_cons_succ])
            refine rg_do 11 rfl (by kernel_rfl) (by rfl) (fun K hK => ?_)
            have hV := HB.out _ (bel_next hbw hb7)
            have hcl := hV.1.1.2.2
            go_simp
            clear hcl hV
            refine hK.out _ _ trivial (fun hHeld => ?_)
            clear hK K
            (try simp only [Act.put, List.setIfInBounds_toArray, List.set_cons_zero, List.set_cons_succ])
            refine rg_in 12 rfl (by kernel_rfl) (by kernel_rfl) (by kernel_rfl) (by rfl) (v := ?_) (fun _ _ _ h => h) hHeld (fun w hSw => ?_) ?_
            rotate_left
            · (try dsimp only at hSw); go_simp <;> (with_reducible rfl)
            (try simp only [Act.put, List.setIfInBounds_toArray, List.set_cons_zero, List.set_cons_succ])
            refine rg_in 13 rfl (by kernel_rfl) (by kernel_rfl) (by kernel_rfl) (by rfl) (v := ?_) (fun _ _ _ h => h) hHeld (fun w hSw => ?_) ?_
            rotate_left
            · (try dsimp only at hSw); go_simp <;> (with_reducible rfl)
            (try simp only [Act.put, List.setIfInBounds_toArray, List.set_cons_zero, List.set_cons_succ])
            refine rg_in 14 rfl (by kernel_rfl) (by kernel_rfl) (by kernel_rfl) (by rfl) (v := ?_) (fun _ _ _ h => h) hHeld (fun w hSw => ?_) ?_
            rotate_left
            · (try dsimp only at hSw); go_simp <;> (with_reducible rfl)
            (try simp only [Act.put, List.setIfInBounds_toArray, List.set_cons_zero, List.set_cons_succ])
            refine rg_in 16 rfl (by kernel_rfl) (by kernel_rfl) (by kernel_rfl) (by rfl) (v := ?_) (fun _ _ _ h => h) hHeld (fun w hSw => ?_) ?_
            rotate_left
            · (try dsimp only at hSw); go_simp <;> (with_reducible rfl)
            (try simp only [Act.put, List.setIfInBounds_toArray, List.set_cons_zero, List.set_cons_succ])
            refine rg_do 15 rfl (by kernel_rfl) (by rfl) (fun K hK => ?_)
            have hcK := HCK.out _ (bel_next hbw hb7)
            go_simp
            (go_at_call 35; (with_reducible refine hcK.mono ?_); (rintro e w115 ⟨A2, c2, rfl, hO2, hb15⟩))
            have hs2 := Below.size (bel_next hbw hb7)
            clear hcK
            refine hK.out _ _ trivial (fun hHeld => ?_)
            clear hK K
            (try simp only [Act.put, List.setIfInBounds_toArray, List.set_cons_zero, List.set_cons_succ])
            refine rg_do 17 rfl (by kernel_rfl) (by rfl) (fun K hK => ?_)
            have hV := HB.out _ (bel_next (bel_next hbw hb7) hb15)
            have hc1 := hV.1.1.2.1
            have hf1 := hV.1.2.2.1
            go_simp
            clear hc1 hf1
            refine hK.out _ _ trivial (fun hHeld => ?_)
            clear hK K
            (try simp only [Act.put, List.setIfInBounds_toArray, List.set_cons_zero, List.set_cons_succ])
            refine rg_in 18 rfl (by kernel_rfl) (by kernel_rfl) (by kernel_rfl) (by rfl) (v := ?_) (fun _ _ _ h => h) hHeld (fun w hSw => ?_) ?_
            rotate_left
            · (try dsimp only at hSw); go_simp <;> (with_reducible rfl)
            (try simp only [Act.put, List.setIfInBounds_toArray, List.set_cons_zero, List.set_cons_succ])
            refine rg_do 19 rfl (by kernel_rfl) (by rfl) (fun K hK => ?_)
            have hc2 := hV.1.1.2.2
            have hf2 := hV.1.2.2.2
            go_simp
            clear hc2 hf2
            refine hK.out _ _ trivial (fun hHeld => ?_)
            clear hK K
            (try simp only [Act.put, List.setIfInBounds_toArray, List.set_cons_zero, List.set_cons_succ])
            refine wpAnyH_done (by kernel_rfl) ?_ _
            have hb9 := (bel_next (bel_next hbw hb7) hb15)
            have hn1 := (hV.1.set1 (.slice A1 m1 c1)).set2 (.slice A2 m2 c2)
            have hn2 := (hV.2.other (k := 1) (j := w.heap.size) (by omega) (.slice A1 m1 c1)).other (k := 2) (j := w.heap.size) (by omega) (.slice A2 m2 c2)
            have ho1 := ownsRow_setCell_below (ownsRow_setCell_below (own_base (own_later hO1 hb15) (show w.heap.size + 2 ≤ _ by omega)) (a := ⟨w.heap.size, 1, none⟩) (by show w.heap.size < _; omega) (.slice A1 m1 c1)) (a := ⟨w.heap.size, 2, none⟩) (by show w.heap.size < _; omega) (.slice A2 m2 c2)
            have ho2 := ownsRow_setCell_below (ownsRow_setCell_below (own_base hO2 (show w.heap.size + 2 ≤ _ by omega)) (a := ⟨w.heap.size, 1, none⟩) (by show w.heap.size < _; omega) (.slice A1 m1 c1)) (a := ⟨w.heap.size, 2, none⟩) (by show w.heap.size < _; omega) (.slice A2 m2 c2)
            have hbz := ((hb0.trans (hb9.mono hb0.size)).setCell (p := ⟨w.heap.size, 1, none⟩) (Nat.le_refl _) (.slice A1 m1 c1)).setCell (p := ⟨w.heap.size, 2, none⟩) (Nat.le_refl _) (.slice A2 m2 c2)
            have hszz := hb9.size
            have HM := Lib.hid (show Own2 X m1 m2 w.heap.size w _ from ⟨A1, c1, A2, c2, hn1, hn2, ho1, ho2, hbz, by rw [size_set, size_set]; omega⟩)
            clear hHeld hV hn1 hn2 ho1 ho2 hbz hO1 hO2
            go_wp2_with fail
            go_meet
            case rel => exact HM.out
          refine rg_cons rfl (by rfl) (fun K hK => ?_) ?_
          · have hV := HB.out _ (Below.refl W1.heap.size W1)
            have hcl := hV.1.1.2.2
            go_simp
            clear hcl hV
            refine hK.out _ _ trivial (fun hHeld => ?_)
            clear hK K
            (try simp only [Act.put, List.setIfInBounds_toArray, List.set_cons_zero, List.set_cons_succ])
            refine rg_in 12 rfl (by kernel_rfl) (by kernel_rfl) (by kernel_rfl) (by rfl) (v := ?_) (fun _ _ _ h => h) hHeld (fun w hSw => ?_) ?_
            rotate_left
            · (try dsimp only at hSw); go_simp <;> (with_reducible rfl)
            (try simp only [Act.put, List.setIfInBounds_toArray, List.set_cons_zero, List.set_cons_succ])
            refine rg_in 13 rfl (by kernel_rfl) (by kernel_rfl) (by kernel_rfl) (by rfl) (v := ?_) (fun _ _ _ h => h) hHeld (fun w hSw => ?_) ?_
            rotate_left
            · (try dsimp only at hSw); go_simp <;> (with_reducible rfl)
            (try simp only [Act.put, List.setIfInBounds_toArray, List.set_cons_zero, List.set_cons_succ])
            refine rg_in 14 rfl (by kernel_rfl) (by kernel_rfl) (by kernel_rfl) (by rfl) (v := ?_) (fun _ _ _ h => h) hHeld (fun w hSw => ?_) ?_
            rotate_left
            · (try dsimp only at hSw); go_simp <;> (with_reducible rfl)
            (try simp only [Act.put, List.setIfInBounds_toArray, List.set_cons_zero, List.set_cons_succ])
            refine rg_do 7 rfl (by kernel_rfl) (by rfl) (fun K hK => ?_)
            have hcI := HCI.out _ hbw
            go_simp
            (go_at_call 34; (with_reducible refine hcI.mono ?_); (rintro e w107 ⟨A1, c1, rfl, hO1, hb7⟩))
            have hs1 := Below.size hbw
            clear hcI
            refine hK.out _ _ trivial (fun hHeld => ?_)
            clear hK K
            (try simp only [Act.put, List.setIfInBounds_toArray, List.set_cons_zero, List.set_cons_succ])
            refine rg_in 16 rfl (by kernel_rfl) (by kernel_rfl) (by kernel_rfl) (by rfl) (v := ?_) (fun _ _ _ h => h) hHeld (fun w hSw => ?_) ?_
            rotate_left
            · (try dsimp only at hSw); go_simp <;> (with_reducible rfl)
            (try simp only [Act.put, List.setIfInBounds_toArray, List.set_cons_zero, List.set_cons_succ])
            refine rg_do 15 rfl (by kernel_rfl) (by rfl) (fun K hK => ?_)
            have hcK := HCK.out _ (bel_next hbw hb7)
            go_simp
            (go_at_call 35; (with_reducible refine hcK.mono ?_); (rintro e w115 ⟨A2, c2, rfl, hO2, hb15⟩))
            have hs2 := Below.size (bel_next hbw hb7)
            clear hcK
            refine hK.out _ _ trivial (fun hHeld => ?_)
            clear hK K
            (try simp only [Act.put, List.setIfInBounds_toArray, List.set_cons_zero, List.set_cons_succ])
            refine rg_do 17 rfl (by kernel_rfl) (by rfl) (fun K hK => ?_)
            have hV := HB.out _ (bel_next (bel_next hbw hb7) hb15)
            have hc1 := hV.1.1.2.1
            have hf1 := hV.1.2.2.1
            go_simp
            clear hc1 hf1
            refine hK.out _ _ trivial (fun hHeld => ?_)
            clear hK K
            (try simp only [Act.put, List.setIfInBounds_toArray, List.set_cons_zero, List.set_cons_succ])
            refine rg_in 18 rfl (by kernel_rfl) (by kernel_rfl) (by kernel_rfl) (by rfl) (v := ?_) (fun _ _ _ h => h) hHeld (fun w hSw => ?_) ?_
            rotate_left
            · (try dsimp only at hSw); go_simp <;> (with_reducible rfl)
            (try simp only [Act.put, List.setIfInBounds_toArray, List.set_cons_zero, List.set_cons_succ])
            refine rg_do 19 rfl (by kernel_rfl) (by rfl) (fun K hK => ?_)
            have hc2 := hV.1.1.2.2
            have hf2 := hV.1.2.2.2
            go_simp
            clear hc2 hf2
            refine hK.out _ _ trivial (fun hHeld => ?_)
            clear hK K
            (try simp only [Act.put, List.setIfInBounds_toArray, List.set_cons_zero, List.set_cons_succ])
            refine wpAnyH_done (by kernel_rfl) ?_ _
            have hb9 := (bel_next (bel_next hbw hb7) hb15)
            have hn1 := (hV.1.set1 (.slice A1 m1 c1)).set2 (.slice A2 m2 c2)
            have hn2 := (hV.2.other (k := 1) (j := w.heap.size) (by omega) (.slice A1 m1 c1)).other (k := 2) (j := w.heap.size) (by omega) (.slice A2 m2 c2)
            have ho1 := ownsRow_setCell_below (ownsRow_setCell_below (own_base (own_later hO1 hb15) (show w.heap.size + 2 ≤ _ by omega)) (a := ⟨w.heap.size, 1, none⟩) (by show w.heap.size < _; omega) (.slice A1 m1 c1)) (a := ⟨w.heap.size, 2, none⟩) (by show w.heap.size < _; omega) (.slice A2 m2 c2)
            have ho2 := ownsRow_setCell_below (ownsRow_setCell_below (own_base hO2 (show w.heap.size + 2 ≤ _ by omega)) (a := ⟨w.heap.size, 1, none⟩) (by show w.heap.size < _; omega) (.slice A1 m1 c1)) (a := ⟨w.heap.size, 2, none⟩) (by show w.heap.size < _; omega) (.slice A2 m2 c2)
            have hbz := ((hb0.trans (hb9.mono hb0.size)).setCell (p := ⟨w.heap.size, 1, none⟩) (Nat.le_refl _) (.slice A1 m1 c1)).setCell (p := ⟨w.heap.size, 2, none⟩) (Nat.le_refl _) (.slice A2 m2 c2)
            have hszz := hb9.size
            have HM := Lib.hid (show Own2 X m1 m2 w.heap.size w _ from ⟨A1, c1, A2, c2, hn1, hn2, ho1, ho2, hbz, by rw [size_set, size_set]; omega⟩)
            clear hHeld hV hn1 hn2 ho1 ho2 hbz hO1 hO2
            go_wp2_with fail
            go_meet
            case rel => exact HM.out
          exact AllReadyH.nil
        refine rg_cons rfl (by rfl) (fun K hK => ?_) ?_
        · have hV := HB.out _ (Below.refl W1.heap.size W1)
          have hcl := hV.1.1.2.2
          go_simp
          clear hcl hV
          refine hK.out _ _ trivial (fun hHeld => ?_)
          clear hK K
          (try simp only [Act.put, List.setIfInBounds_toArray, List.set_cons_zero, List.set_cons_succ])
          refine rg_in 12 rfl (by kernel_rfl) (by kernel_rfl) (by kernel_rfl) (by rfl) (v := ?_) (fun _ _ _ h => h) hHeld (fun w hSw => ?_) ?_
          rotate_left
          · (try dsimp only at hSw); go_simp <;> (with_reducible rfl)
          (try simp only [Act.put, List.setIfInBounds_toArray, List.set_cons_zero, List.set_cons_succ])
          refine rg_in 13 rfl (by kernel_rfl) (by kernel_rfl) (by kernel_rfl) (by rfl) (v := ?_) (fun _ _ _ h => h) hHeld (fun w hSw => ?_) ?_
          rotate_left
          · (try dsimp only at hSw); go_simp <;> (with_reducible rfl)
          (try simp only [Act.put, List.setIfInBounds_toArray, List.set_cons_zero, List.set_cons_succ])
          refine rg_in 14 rfl (by kernel_rfl) (by kernel_rfl) (by kernel_rfl) (by rfl) (v := ?_) (fun _ _ _ h => h) hHeld (fun w hSw => ?_) ?_
          rotate_left
          · (try dsimp only at hSw); go_simp <;> (with_reducible rfl)
          (try simp only [Act.put, List.setIfInBounds_toArray, List.set_cons_zero, List.set_cons_succ])
          refine rg_do 1 rfl (by kernel_rfl) (by rfl) (fun K hK => ?_)
          have hV := HB.out _ (Below.refl W1.heap.size W1)
          have hcl := hV.1.1.2.1
          go_simp
          clear hcl hV
          refine hK.out _ _ trivial (fun hHeld => ?_)
          clear hK K
          (try simp only [Act.put, List.setIfInBounds_toArray, List.set_cons_zero, List.set_cons_succ])
          refine rg_in 6 rfl (by kernel_rfl) (by kernel_rfl) (by kernel_rfl) (by rfl) (v := ?_) (fun _ _ _ h => h) hHeld (fun w hSw => ?_) ?_
          rotate_left
          · (try dsimp only at hSw); go_simp <;> (with_reducible rfl)
          (try simp only [Act.put, List.setIfInBounds_toArray, List.set_cons_zero, List.set_cons_succ])
          refine rg_do 7 rfl (by kernel_rfl) (by rfl) (fun K hK => ?_)
          have hcI := HCI.out _ hbw
          go_simp
          (go_at_call 34; (with_reducible refine hcI.mono ?_); (rintro e w107 ⟨A1, c1, rfl, hO1, hb7⟩))
          have hs1 := Below.size hbw
          clear hcI
          refine hK.out _ _ trivial (fun hHeld => ?_)
          clear hK K
          (try simp only [Act.put, List.setIfInBounds_toArray, List.set_cons_zero, List.set_cons_succ])
          refine rg_in 16 rfl (by kernel_rfl) (by kernel_rfl) (by kernel_rfl) (by rfl) (v := ?_) (fun _ _ _ h => h) hHeld (fun w hSw => ?_) ?_
          rotate_left
          · (try dsimp only at hSw); go_simp <;> (with_reducible rfl)
          (try simp only [Act.put, List.setIfInBounds_toArray, List.set_cons_zero, List.set_cons_succ])
          refine rg_do 15 rfl (by kernel_rfl) (by rfl) (fun K hK => ?_)
          have hcK := HCK.out _ (bel_next hbw hb7)
          go_simp
          (go_at_call 35; (with_reducible refine hcK.mono ?_); (rintro e w115 ⟨A2, c2, rfl, hO2, hb15⟩))
          have hs2 := Below.size (bel_next hbw hb7)
          clear hcK
          refine hK.out _ _ trivial (fun hHeld => ?_)
          clear hK K
          (try simp only [Act.put, List.setIfInBounds_toArray, List.set_cons_zero, List.set_cons_succ])
          refine rg_do 17 rfl (by kernel_rfl) (by rfl) (fun K hK => ?_)
          have hV := HB.out _ (bel_next (bel_next hbw hb7) hb15)
          have hc1 := hV.1.1.2.1
          have hf1 := hV.1.2.2.1
          go_simp
          clear hc1 hf1
          refine hK.out _ _ trivial (fun hHeld => ?_)
          clear hK K
          (try simp only [Act.put, List.setIfInBounds_toArray, List.set_cons_zero, List.set_cons_succ])
          refine rg_in 18 rfl (by kernel_rfl) (by kernel_rfl) (by kernel_rfl) (by rfl) (v := ?_) (fun _ _ _ h => h) hHeld (fun w hSw => ?_) ?_
          rotate_left
          · (try dsimp only at hSw); go_simp <;> (with_reducible rfl)
          (try simp only [Act.put, List.setIfInBounds_toArray, List.set_cons_zero, List.set_cons_succ])
          refine rg_do 19 rfl (by kernel_rfl) (by rfl) (fun K hK => ?_)
          have hc2 := hV.1.1.2.2
          have hf2 := hV.1.2.2.2
          go_simp
          clear hc2 hf2
          refine hK.out _ _ trivial (fun hHeld => ?_)
          clear hK K
          (try simp only [Act.put, List.setIfInBounds_toArray, List.set_cons_zero, List.set_cons_succ])
          refine wpAnyH_done (by kernel_rfl) ?_ _
          have hb9 := (bel_next (bel_next hbw hb7) hb15)
          have hn1 := (hV.1.set1 (.slice A1 m1 c1)).set2 (.slice A2 m2 c2)
          have hn2 := (hV.2.other (k := 1) (j := w.heap.size) (by omega) (.slice A1 m1 c1)).other (k := 2) (j := w.heap.size) (by omega) (.slice A2 m2 c2)
          have ho1 := ownsRow_setCell_below (ownsRow_setCell_below (own_base (own_later hO1 hb15) (show w.heap.size + 2 ≤ _ by omega)) (a := ⟨w.heap.size, 1, none⟩) (by show w.heap.size < _; omega) (.slice A1 m1 c1)) (a := ⟨w.heap.size, 2, none⟩) (by show w.heap.size < _; omega) (.slice A2 m2 c2)
          have ho2 := ownsRow_setCell_below (ownsRow_setCell_below (own_base hO2 (show w.heap.size + 2 ≤ _ by omega)) (a := ⟨w.heap.size, 1, none⟩) (by show w.heap.size < _; omega) (.slice A1 m1 c1)) (a := ⟨w.heap.size, 2, none⟩) (by show w.heap.size < _; omega) (.slice A2 m2 c2)
          have hbz := ((hb0.trans (hb9.mono hb0.size)).setCell (p := ⟨w.heap.size, 1, none⟩) (Nat.le_refl _) (.slice A1 m1 c1)).setCell (p := ⟨w.heap.size, 2, none⟩) (Nat.le_refl _) (.slice A2 m2 c2)
          have hszz := hb9.size
          have HM := Lib.hid (show Own2 X m1 m2 w.heap.size w _ from ⟨A1, c1, A2, c2, hn1, hn2, ho1, ho2, hbz, by rw [size_set, size_set]; omega⟩)
          clear hHeld hV hn1 hn2 ho1 ho2 hbz hO1 hO2
          go_wp2_with fail
          go_meet
          case rel => exact HM.out
        exact AllReadyH.nil
      refine rg_cons rfl (by rfl) (fun K hK => ?_) ?_
      · have hV := HB.out _ (Below.refl W1.heap.size W1)
        have hcl := hV.1.1.2.2
        go_simp
        clear hcl hV
        refine hK.out _ _ trivial (fun hHeld => ?_)
        clear hK K
        (try simp only [Act.put, List.setIfInBounds_toArray, List.set_cons_zero, List.set_cons_succ])
        refine rg_in 12 rfl (by kernel_rfl) (by kernel_rfl) (by kernel_rfl) (by rfl) (v := ?_) (fun _ _ _ h => h) hHeld (fun w hSw => ?_) ?_
        rotate_left
        · (try dsimp only at hSw); go_simp <;> (with_reducible rfl)
        (try simp only [Act.put, List.setIfInBounds_toArray, List.set_cons_zero, List.set_cons_succ])
        refine rg_in 13 rfl (by kernel_rfl) (by kernel_rfl) (by kernel_rfl) (by rfl) (v := ?_) (fun _ _ _ h => h) hHeld (fun w hSw => ?_) ?_
        rotate_left
        · (try dsimp only at hSw); go_simp <;> (with_reducible rfl)
        (try simp only [Act.put, List.setIfInBounds_toArray, List.set_cons_zero, List.set_cons_succ])
        refine wpAnyH_ready (rs := [1, 9]) (by kernel_rfl) (by simp) ?_
        refine rg_cons rfl (by rfl) (fun K hK => ?_) ?_
        · have hV := HB.out _ (Below.refl W1.heap.size W1)
          have hcl := hV.1.1.2.1
          go_simp
          clear hcl hV
          refine hK.out _ _ trivial (fun hHeld => ?_)
          clear hK K
          (try simp only [Act.put, List.setIfInBounds_toArray, List.set_cons_zero, List.set_cons_succ])
          refine rg_in 6 rfl (by kernel_rfl) (by kernel_rfl) (by kernel_rfl) (by rfl) (v := ?_) (fun _ _ _ h => h) hHeld (fun w hSw => ?_) ?_
          rotate_left
          · (try dsimp only at hSw); go_simp <;> (with_reducible rfl)
          (try simp only [Act.put, List.setIfInBounds_toArray, List.set_cons_zero, List.set_cons_succ])
          refine wpAnyH_ready (rs := [7, 9]) (by kernel_rfl) (by simp) ?_
          refine rg_cons rfl (by rfl) (fun K hK => ?_) ?_
          · have hcI := HCI.out _ hbw
            go_simp
            (go_at_call 34; (with_reducible refine hcI.mono ?_); (rintro e w107 ⟨A1, c1, rfl, hO1, hb7⟩))
            have hs1 := Below.size hbw
            clear hcI
            refine hK.out _ _ trivial (fun hHeld => ?_)
            clear hK K
            (try simp only [Act.put, List.setIfInBounds_toArray, List.set_cons_zero, List.set_cons_succ])
            refine rg_do 9 rfl (by kernel_rfl) (by rfl) (fun K hK => ?_)
            have hV := HB.out _ (bel_next hbw hb7)
            have hcl := hV.1.1.2.2
            go_simp
            clear hcl hV
            refine hK.out _ _ trivial (fun hHeld => ?_)
            clear hK K
            (try simp only [Act.put, List.setIfInBounds_toArray, List.set_cons_zero, List.set_cons_succ])
            refine rg_in 14 rfl (by kernel_rfl) (by kernel_rfl) (by kernel_rfl) (by rfl) (v := ?_) (fun _ _ _ h => h) hHeld (fun w hSw => ?_) ?_
            rotate_left
            · (try dsimp only at hSw); go_simp <;> (with_reducible rfl)
            (try simp only [Act.put, List.setIfInBounds_toArray, List.set_cons_zero, List.set_cons_succ])
            refine rg_in 16 rfl (by kernel_rfl) (by kernel_rfl) (by kernel_rfl) (by rfl) (v := ?_) (fun _ _ _ h => h) hHeld (fun w hSw => ?_) ?_
            rotate_left
            · (try dsimp only at hSw); go_simp <;> (with_reducible rfl)
            (try simp only [Act.put, List.setIfInBounds_toArray, List.set_cons_zero, List.set_cons_succ])
            refine rg_do 15 rfl (by kernel_rfl) (by rfl) (fun K hK => ?_)
            have hcK := HCK.out _ (bel_next hbw hb7)
            go_simp
            (go_at_call 35; (with_reducible refine hcK.mono ?_); (rintro e w115 ⟨A2, c2, rfl, hO2, hb15⟩))
            have hs2 := Below.size (bel_next hbw hb7)
            clear hcK
            refine hK.out _ _ trivial (fun hHeld => ?_)
            clear hK K
            (try simp only [Act.put, List.setIfInBounds_toArray, List.set_cons_zero, List.set_cons_succ])
            refine rg_do 17 rfl (by kernel_rfl) (by rfl) (fun K hK => ?_)
            have hV := HB.out _ (bel_next (bel_next hbw hb7) hb15)
            have hc1 := hV.1.1.2.1
            have hf1 := hV.1.2.2.1
            go_simp
            clear hc1 hf1
            refine hK.out _ _ trivial (fun hHeld => ?_)
            clear hK K
            (try simp only [Act.put, List.setIfInBounds_toArray, List.set_cons_zero, List.set_cons_succ])
            refine rg_in 18 rfl (by kernel_rfl) (by kernel_rfl) (by kernel_rfl) (by rfl) (v := ?_) (fun _ _ _ h => h) hHeld (fun w hSw => ?_) ?_
            rotate_left
            · (try dsimp only at hSw); go_simp <;> (with_reducible rfl)
            (try simp only [Act.put, List.setIfInBounds_toArray, List.set_cons_zero, List.set_cons_succ])
            refine rg_do 19 rfl (by kernel_rfl) (by rfl) (fun K hK => ?_)
            have hc2 := hV.1.1.2.2
            have hf2 := hV.1.2.2.2
            go_simp
            clear hc2 hf2
            refine hK.out _ _ trivial (fun hHeld => ?_)
            clear hK K
            (try simp only [Act.put, List.setIfInBounds_toArray, List.set_cons_zero, List.set_cons_succ])
            refine wpAnyH_done (by kernel_rfl) ?_ _
            have hb9 := (bel_next (bel_next hbw hb7) hb15)
            have hn1 := (hV.1.set1 (.slice A1 m1 c1)).set2 (.slice A2 m2 c2)
            have hn2 := (hV.2.other (k := 1) (j := w.heap.size) (by omega) (.slice A1 m1 c1)).other (k := 2) (j := w.heap.size) (by omega) (.slice A2 m2 c2)
            have ho1 := ownsRow_setCell_below (ownsRow_setCell_below (own_base (own_later hO1 hb15) (show w.heap.size + 2 ≤ _ by omega)) (a := ⟨w.heap.size, 1, none⟩) (by show w.heap.size < _; omega) (.slice A1 m1 c1)) (a := ⟨w.heap.size, 2, none⟩) (by show w.heap.size < _; omega) (.slice A2 m2 c2)
            have ho2 := ownsRow_setCell_below (ownsRow_setCell_below (own_base hO2 (show w.heap.size + 2 ≤ _ by omega)) (a := ⟨w.heap.size, 1, none⟩) (by show w.heap.size < _; omega) (.slice A1 m1 c1)) (a := ⟨w.heap.size, 2, none⟩) (by show w.heap.size < _; omega) (.slice A2 m2 c2)
            have hbz := ((hb0.trans (hb9.mono hb0.size)).setCell (p := ⟨w.heap.size, 1, none⟩) (Nat.le_refl _) (.slice A1 m1 c1)).setCell (p := ⟨w.heap.size, 2, none⟩) (Nat.le_refl _) (.slice A2 m2 c2)
            have hszz := hb9.size
            have HM := Lib.hid (show Own2 X m1 m2 w.heap.size w _ from ⟨A1, c1, A2, c2, hn1, hn2, ho1, ho2, hbz, by rw [size_set, size_set]; omega⟩)
            clear hHeld hV hn1 hn2 ho1 ho2 hbz hO1 hO2
            go_wp2_with fail
            go_meet
            case rel => exact HM.out
          refine rg_cons rfl (by rfl) (fun K hK => ?_) ?_
          · have hV := HB.out _ (Below.refl W1.heap.size W1)
            have hcl := hV.1.1.2.2
            go_simp
            clear hcl hV
            refine hK.out _ _ trivial (fun hHeld => ?_)
            clear hK K
            (try simp only [Act.put, List.setIfInBounds_toArray, List.set_cons_zero, List.set_cons_succ])
            refine rg_in 14 rfl (by kernel_rfl) (by kernel_rfl) (by kernel_rfl) (by rfl) (v := ?_) (fun _ _ _ h => h) hHeld (fun w hSw => ?_) ?_
            rotate_left
            · (try dsimp only at hSw); go_simp <;> (with_reducible rfl)
            (try simp only [Act.put, List.setIfInBounds_toArray, List.set_cons_zero, List.set_cons_succ])
            refine rg_do 7 rfl (by kernel_rfl) (by rfl) (fun K hK => ?_)
            have hcI := HCI.out _ hbw
            go_simp
            (go_at_call 34; (with_reducible refine hcI.mono ?_); (rintro e w107 ⟨A1, c1, rfl, hO1, hb7⟩))
            have hs1 := Below.size hbw
            clear hcI
            refine hK.out _ _ trivial (fun hHeld => ?_)
            clear hK K
            (try simp only [Act.put, List.setIfInBounds_toArray, List.set_cons_zero, List.set_cons_succ])
            refine rg_in 16 rfl (by kernel_rfl) (by kernel_rfl) (by kernel_rfl) (by rfl) (v := ?_) (fun _ _ _ h => h) hHeld (fun w hSw => ?_) ?_
            rotate_left
            · (try dsimp only at hSw); go_simp <;> (with_reducible rfl)
            (try simp only [Act.put, List.setIfInBounds_toArray, List.set_cons_zero, List.set_cons_succ])
            refine rg_do 15 rfl (by kernel_rfl) (by rfl) (fun K hK => ?_)
            have hcK := HCK.out _ (bel_next hbw hb7)
            go_simp
            (go_at_call 35; (with_reducible refine hcK.mono ?_); (rintro e w115 ⟨A2, c2, rfl, hO2, hb15⟩))
            have hs2 := Below.size (bel_next hbw hb7)
            clear hcK
            refine hK.out _ _ trivial (fun hHeld => ?_)
            clear hK K
            (try simp only [Act.put, List.setIfInBounds_toArray, List.set_cons_zero, List.set_cons_succ])
            refine rg_do 17 rfl (by kernel_rfl) (by rfl) (fun K hK => ?_)
            have hV := HB.out _ (bel_next (bel_next hbw hb7) hb15)
            have hc1 := hV.1.1.2.1
            have hf1 := hV.1.2.2.1
            go_simp
            clear hc1 hf1
            refine hK.out _ _ trivial (fun hHeld => ?_)
            clear hK K
            (try simp only [Act.put, List.setIfInBounds_toArray, List.set_cons_zero, List.set_cons_succ])
            refine rg_in 18 rfl (by kernel_rfl) (by kernel_rfl) (by kernel_rfl) (by rfl) (v := ?_) (fun _ _ _ h => h) hHeld (fun w hSw => ?_) ?_
            rotate_left
            · (try dsimp only at hSw); go_simp <;> (with_reducible rfl)
            (try simp only [Act.put, List.setIfInBounds_toArray, List.set_cons_zero, List.set_cons_succ])
            refine rg_do 19 rfl (by kernel_rfl) (by rfl) (fun K hK => ?_)
            have hc2 := hV.1.1.2.2
            have hf2 := hV.1.2.2.2
            go_simp
            clear hc2 hf2
            refine hK.out _ _ trivial (fun hHeld => ?_)
            clear hK K
            (try simp only [Act.put, List.setIfInBounds_toArray, List.set_cons_zero, List.set_cons_succ])
            refine wpAnyH_done (by kernel_rfl) ?_ _
            have hb9 := (bel_next (bel_next hbw hb7) hb15)
            have hn1 := (hV.1.set1 (.slice A1 m1 c1)).set2 (.slice A2 m2 c2)
            have hn2 := (hV.2.other (k := 1) (j := w.heap.size) (by omega) (.slice A1 m1 c1)).other (k := 2) (j := w.heap.size) (by omega) (.slice A2 m2 c2)
            have ho1 := ownsRow_setCell_below (ownsRow_setCell_below (own_base (own_later hO1 hb15) (show w.heap.size + 2 ≤ _ by omega)) (a := ⟨w.heap.size, 1, none⟩) (by show w.heap.size < _; omega) (.slice A1 m1 c1)) (a := ⟨w.heap.size, 2, none⟩) (by show w.heap.size < _; omega) (.slice A2 m2 c2)
            have ho2 := ownsRow_setCell_below (ownsRow_setCell_below (own_base hO2 (show w.heap.size + 2 ≤ _ by omega)) (a := ⟨w.heap.size, 1, none⟩) (by show w.heap.size < _; omega) (.slice A1 m1 c1)) (a := ⟨w.heap.size, 2, none⟩) (by show w.heap.size < _; omega) (.slice A2 m2 c2)
            have hbz := ((hb0.trans (hb9.mono hb0.size)).setCell (p := ⟨w.heap.size, 1, none⟩) (Nat.le_refl _) (.slice A1 m1 c1)).setCell (p := ⟨w.heap.size, 2, none⟩) (Nat.le_refl _) (.slice A2 m2 c2)
            have hszz := hb9.size
            have HM := Lib.hid (show Own2 X m1 m2 w.heap.size w _ from ⟨A1, c1, A2, c2, hn1, hn2, ho1, ho2, hbz, by rw [size_set, size_set]; omega⟩)
            clear hHeld hV hn1 hn2 ho1 ho2 hbz hO1 hO2
            go_wp2_with fail
            go_meet
            case rel => exact HM.out
          exact AllReadyH.nil
        refine rg_cons rfl (by rfl) (fun K hK => ?_) ?_
        · have hV := HB.out _ (Below.refl W1.heap.size W1)
          have hcl := hV.1.1.2.2
          go_simp
          clear hcl hV
          refine hK.out _ _ trivial (fun hHeld => ?_)
          clear hK K
          (try simp only [Act.put, List.setIfInBounds_toArray, List.set_cons_zero, List.set_cons_succ])
          refine rg_in 14 rfl (by kernel_rfl) (by kernel_rfl) (by kernel_rfl) (by rfl) (v := ?_) (fun _ _ _ h => h) hHeld (fun w hSw => ?_) ?_
          rotate_left
          · (try dsimp only at hSw); go_simp <;> (with_reducible rfl)
          (try simp only [Act.put, List.setIfInBounds_toArray, List.set_cons_zero, List.set_cons_succ])
          refine rg_do 1 rfl (by kernel_rfl) (by rfl) (fun K hK => ?_)
          have hV := HB.out _ (Below.refl W1.heap.size W1)
          have hcl := hV.1.1.2.1
          go_simp
          clear hcl hV
          refine hK.out _ _ trivial (fun hHeld => ?_)
          clear hK K
          (try simp only [Act.put, List.setIfInBounds_toArray, List.set_cons_zero, List.set_cons_succ])
          refine rg_in 6 rfl (by kernel_rfl) (by kernel_rfl) (by kernel_rfl) (by rfl) (v := ?_) (fun _ _ _ h => h) hHeld (fun w hSw => ?_) ?_
          rotate_left
          · (try dsimp only at hSw); go_simp <;> (with_reducible rfl)
          (try simp only [Act.put, List.setIfInBounds_toArray, List.set_cons_zero, List.set_cons_succ])
          refine rg_do 7 rfl (by kernel_rfl) (by rfl) (fun K hK => ?_)
          have hcI := HCI.out _ hbw
          go_simp
          (go_at_call 34; (with_reducible refine hcI.mono ?_); (rintro e w107 ⟨A1, c1, rfl, hO1, hb7⟩))
          have hs1 := Below.size hbw
          clear hcI
          refine hK.out _ _ trivial (fun hHeld => ?_)
          clear hK K
          (try simp only [Act.put, List.setIfInBounds_toArray, List.set_cons_zero, List.set_cons_succ])
          refine rg_in 16 rfl (by kernel_rfl) (by kernel_rfl) (by kernel_rfl) (by rfl) (v := ?_) (fun _ _ _ h => h) hHeld (fun w hSw => ?_) ?_
          rotate_left
          · (try dsimp only at hSw); go_simp <;> (with_reducible rfl)
          (try simp only [Act.put, List.setIfInBounds_toArray, List.set_cons_zero, List.set_cons_succ])
          refine rg_do 15 rfl (by kernel_rfl) (by rfl) (fun K hK => ?_)
          have hcK := HCK.out _ (bel_next hbw hb7)
          go_simp
          (go_at_call 35; (with_reducible refine hcK.mono ?_); (rintro e w115 ⟨A2, c2, rfl, hO2, hb15⟩))
          have hs2 := Below.size (bel_next hbw hb7)
          clear hcK
          refine hK.out _ _ trivial (fun hHeld => ?_)
          clear hK K
          (try simp only [Act.put, List.setIfInBounds_toArray, List.set_cons_zero, List.set_cons_succ])
          refine rg_do 17 rfl (by kernel_rfl) (by rfl) (fun K hK => ?_)
          have hV := HB.out _ (bel_next (bel_next hbw hb7) hb15)
          have hc1 := hV.1.1.2.1
          have hf1 := hV.1.2.2.1
          go_simp
          clear hc1 hf1
          refine hK.out _ _ trivial (fun hHeld => ?_)
          clear hK K
          (try simp only [Act.put, List.setIfInBounds_toArray, List.set_cons_zero, List.set_cons_succ])
          refine rg_in 18 rfl (by kernel_rfl) (by kernel_rfl) (by kernel_rfl) (by rfl) (v := ?_) (fun _ _ _ h => h) hHeld (fun w hSw => ?_) ?_
          rotate_left
          · (try dsimp only at hSw); go_simp <;> (with_reducible rfl)
          (try simp only [Act.put, List.setIfInBounds_toArray, List.set_cons_zero, List.set_cons_succ])
          refine rg_do 19 rfl (by kernel_rfl) (by rfl) (fun K hK => ?_)
          have hc2 := hV.1.1.2.2
          have hf2 := hV.1.2.2.2
          go_simp
          clear hc2 hf2
          refine hK.out _ _ trivial (fun hHeld => ?_)
          clear hK K
          (try simp only [Act.put, List.setIfInBounds_toArray, List.set_cons_zero, List.set_cons_succ])
          refine wpAnyH_done (by kernel_rfl) ?_ _
          have hb9 := (bel_next (bel_next hbw hb7) hb15)
          have hn1 := (hV.1.set1 (.slice A1 m1 c1)).set2 (.slice A2 m2 c2)
          have hn2 := (hV.2.other (k := 1) (j := w.heap.size) (by omega) (.slice A1 m1 c1)).other (k := 2) (j := w.heap.size) (by omega) (.slice A2 m2 c2)
          have ho1 := ownsRow_setCell_below (ownsRow_setCell_below (own_base (own_later hO1 hb15) (show w.heap.size + 2 ≤ _ by omega)) (a := ⟨w.heap.size, 1, none⟩) (by show w.heap.size < _; omega) (.slice A1 m1 c1)) (a := ⟨w.heap.size, 2, none⟩) (by show w.heap.size < _; omega) (.slice A2 m2 c2)
          have ho2 := ownsRow_setCell_below (ownsRow_setCell_below (own_base hO2 (show w.heap.size + 2 ≤ _ by omega)) (a := ⟨w.heap.size, 1, none⟩) (by show w.heap.size < _; omega) (.slice A1 m1 c1)) (a := ⟨w.heap.size, 2, none⟩) (by show w.heap.size < _; omega) (.slice A2 m2 c2)
          have hbz := ((hb0.trans (hb9.mono hb0.size)).setCell (p := ⟨w.heap.size, 1, none⟩) (Nat.le_refl _) (.slice A1 m1 c1)).setCell (p := ⟨w.heap.size, 2, none⟩) (Nat.le_refl _) (.slice A2 m2 c2)
          have hszz := hb9.size
          have HM := Lib.hid (show Own2 X m1 m2 w.heap.size w _ from ⟨A1, c1, A2, c2, hn1, hn2, ho1, ho2, hbz, by rw [size_set, size_set]; omega⟩)
          clear hHeld hV hn1 hn2 ho1 ho2 hbz hO1 hO2
          go_wp2_with fail
          go_meet
          case rel => exact HM.out
        exact AllReadyH.nil
      exact AllReadyH.nil
    refine rg_cons rfl (by rfl) (fun K hK => ?_) ?_
    · have hV := HB.out _ (Below.refl W1.heap.size W1)
      have hcl := hV.1.1.2.2
      go_simp
      clear hcl hV
      refine hK.out _ _ trivial (fun hHeld => ?_)
      clear hK K
      (try simp only [Act.put, List.setIfInBounds_toArray, List.set_cons_zero, List.set_cons_succ])
      refine wpAnyH_ready (rs := [1, 3, 11]) (by kernel_rfl) (by simp) ?_
      refine rg_cons rfl (by rfl) (fun K hK => ?_) ?_
      · have hV := HB.out _ (Below.refl W1.heap.size W1)
        have hcl := hV.1.1.2.1
        go_simp
        clear hcl hV
        refine hK.out _ _ trivial (fun hHeld => ?_)
        clear hK K
        (try simp only [Act.put, List.setIfInBounds_toArray, List.set_cons_zero, List.set_cons_succ])
        refine wpAnyH_ready (rs := [3, 11]) (by kernel_rfl) (by simp) ?_
        refine rg_cons rfl (by rfl) (fun K hK => ?_) ?_
        · have hV := HB.out _ (Below.refl W1.heap.size W1)
          have hcl := hV.1.1.2.1
          go_simp
          clear hcl hV
          refine hK.out _ _ trivial (fun hHeld => ?_)
          clear hK K
          (try simp only [Act.put, List.setIfInBounds_toArray, List.set_cons_zero, List.set_cons_succ])
          refine rg_in 4 rfl (by kernel_rfl) (by kernel_rfl) (by kernel_rfl) (by rfl) (v := ?_) (fun _ _ _ h => h) hHeld (fun w hSw => ?_) ?_
          rotate_left
          · (try dsimp only at hSw); go_simp <;> (with_reducible rfl)
          (try simp only [Act.put, List.setIfInBounds_toArray, List.set_cons_zero, List.set_cons_succ])
          refine rg_in 5 rfl (by kernel_rfl) (by kernel_rfl) (by kernel_rfl) (by rfl) (v := ?_) (fun _ _ _ h => h) hHeld (fun w hSw => ?_) ?_
          rotate_left
          · (try dsimp only at hSw); go_simp <;> (with_reducible rfl)
          (try simp only [Act.put, List.setIfInBounds_toArray, List.set_cons_zero, List.set_cons_succ])
          refine rg_in 6 rfl (by kernel_rfl) (by kernel_rfl) (by kernel_rfl) (by rfl) (v := ?_) (fun _ _ _ h => h) hHeld (fun w hSw => ?_) ?_
          rotate_left
          · (try dsimp only at hSw); go_simp <;> (with_reducible rfl)
          (try simp only [Act.put, List.setIfInBounds_toArray, List.set_cons_zero, List.set_cons_succ])
          refine wpAnyH_ready (rs := [7, 11]) (by kernel_rfl) (by simp) ?_
          refine rg_cons rfl (by rfl) (fun K hK => ?_) ?_
          · have hcI := HCI.out _ hbw
            go_simp
            (go_at_call 34; (with_reducible refine hcI.mono ?_); (rintro e w107 ⟨A1, c1, rfl, hO1, hb7⟩))
            have hs1 := Below.size hbw
            clear hcI
            refine hK.out _ _ trivial (fun hHeld => ?_)
            clear hK K
            (try simp only [Act.put, List.setIfInBounds_toArray, List.set_cons_zero, List.set_cons_succ])
            refine rg_do 11 rfl (by kernel_rfl) (by rfl) (fun K hK => ?_)
            have hV := HB.out _ (bel_next hbw hb7)
            have hcl := hV.1.1.2.2
            go_simp
            clear hcl hV
            refine hK.out _ _ trivial (fun hHeld => ?_)
            clear hK K
            (try simp only [Act.put, List.setIfInBounds_toArray, List.set_cons_zero, List.set_cons_succ])
            refine rg_in 12 rfl (by kernel_rfl) (by kernel_rfl) (by kernel_rfl) (by rfl) (v := ?_) (fun _ _ _ h => h) hHeld (fun w hSw => ?_) ?_
            rotate_left
            · (try dsimp only at hSw); go_simp <;> (with_reducible rfl)
            (try simp only [Act.put, List.setIfInBounds_toArray, List.set_cons_zero, List.set_cons_succ])
            refine rg_in 13 rfl (by kernel_rfl) (by kernel_rfl) (by kernel_rfl) (by rfl) (v := ?_) (fun _ _ _ h => h) hHeld (fun w hSw => ?_) ?_
            rotate_left
            · (try dsimp only at hSw); go_simp <;> (with_reducible rfl)
            (try simp only [Act.put, List.setIfInBounds_toArray, List.set_cons_zero, List.set_cons_succ])
            refine rg_in 14 rfl (by kernel_rfl) (by kernel_rfl) (by kernel_rfl) (by rfl) (v := ?_) (fun _ _ _ h => h) hHeld (fun w hSw => ?_) ?_
            rotate_left
            · (try dsimp only at hSw); go_simp <;> (with_reducible rfl)
            (try simp only [Act.put, List.setIfInBounds_toArray, List.set_cons_zero, List.set_cons_succ])
            refine rg_in 16 rfl (by kernel_rfl) (by kernel_rfl) (by kernel_rfl) (by rfl) (v := ?_) (fun _ _ _ h => h) hHeld (fun w hSw => ?_) ?_
            rotate_left
            · (try dsimp only at hSw); go_simp <;> (with_reducible rfl)
            (try simp only [Act.put, List.setIfInBounds_toArray, List.set_cons_zero, List.set_cons_succ])
            refine rg_do 15 rfl (by kernel_rfl) (by rfl) (fun K hK => ?_)
            have hcK := HCK.out _ (bel_next hbw hb7)
            go_simp
            (go_at_call 35; (with_reducible refine hcK.mono ?_); (rintro e w115 ⟨A2, c2, rfl, hO2, hb15⟩))
            have hs2 := Below.size (bel_next hbw hb7)
            clear hcK
            refine hK.out _ _ trivial (fun hHeld => ?_)
            clear hK K
            (try simp only [Act.put, List.setIfInBounds_toArray, List.set_cons_zero, List.set_cons_succ])
            refine rg_do 17 rfl (by kernel_rfl) (by rfl) (fun K hK => ?_)
            have hV := HB.out _ (bel_next (bel_next hbw hb7) hb15)
            have hc1 := hV.1.1.2.1
            have hf1 := hV.1.2.2.1
            go_simp
            clear hc1 hf1
            refine hK.out _ _ trivial (fun hHeld => ?_)
            clear hK K
            (try simp only [Act.put, List.setIfInBounds_toArray, List.set_cons_zero, List.set_cons_succ])
            refine rg_in 18 rfl (by kernel_rfl) (by kernel_rfl) (by kernel_rfl) (by rfl) (v := ?_) (fun _ _ _ h => h) hHeld (fun w hSw => ?_) ?_
            rotate_left
            · (try dsimp only at hSw); go_simp <;> (with_reducible rfl)
            (try simp only [Act.put, List.setIfInBounds_toArray, List.set_cons_zero, List.set_cons_succ])
            refine rg_do 19 rfl (by kernel_rfl) (by rfl) (fun K hK => ?_)
            have hc2 := hV.1.1.2.2
            have hf2 := hV.1.2.2.2
            go_simp
            clear hc2 hf2
            refine hK.out _ _ trivial (fun hHeld => ?_)
            clear hK K
            (try simp only [Act.put, List.setIfInBounds_toArray, List.set_cons_zero, List.set_cons_succ])
            refine wpAnyH_done (by kernel_rfl) ?_ _
            have hb9 := (bel_next (bel_next hbw hb7) hb15)
            have hn1 := (hV.1.set1 (.slice A1 m1 c1)).set2 (.slice A2 m2 c2)
            have hn2 := (hV.2.other (k := 1) (j := w.heap.size) (by omega) (.slice A1 m1 c1)).other (k := 2) (j := w.heap.size) (by omega) (.slice A2 m2 c2)
            have ho1 := ownsRow_setCell_below (ownsRow_setCell_below (own_base (own_later hO1 hb15) (show w.heap.size + 2 ≤ _ by omega)) (a := ⟨w.heap.size, 1, none⟩) (by show w.heap.size < _; omega) (.slice A1 m1 c1)) (a := ⟨w.heap.size, 2, none⟩) (by show w.heap.size < _; omega) (.slice A2 m2 c2)
            have ho2 := ownsRow_setCell_below (ownsRow_setCell_below (own_base hO2 (show w.heap.size + 2 ≤ _ by omega)) (a := ⟨w.heap.size, 1, none⟩) (by show w.heap.size < _; omega) (.slice A1 m1 c1)) (a := ⟨w.heap.size, 2, none⟩) (by show w.heap.size < _; omega) (.slice A2 m2 c2)
            have hbz := ((hb0.trans (hb9.mono hb0.size)).setCell (p := ⟨w.heap.size, 1, none⟩) (Nat.le_refl _) (.slice A1 m1 c1)).setCell (p := ⟨w.heap.size, 2, none⟩) (Nat.le_refl _) (.slice A2 m2 c2)
            have hszz := hb9.size
            have HM := Lib.hid (show Own2 X m1 m2 w.heap.size w _ from ⟨A1, c1, A2, c2, hn1, hn2, ho1, ho2, hbz, by rw [size_set, size_set]; omega⟩)
            clear hHeld hV hn1 hn2 ho1 ho2 hbz hO1 hO2
            go_wp2_with fail
            go_meet
            case rel => exact HM.out
          refine rg_cons rfl (by rfl) (fun K hK => ?_) ?_
          · have hV := HB.out _ (Below.refl W1.heap.size W1)
            have hcl := hV.1.1.2.2
            go_simp
            clear hcl hV
            refine hK.out _ _ trivial (fun hHeld => ?_)
            clear hK K
            (try simp only [Act.put, List.setIfInBounds_toArray, List.set_cons_zero, List.set_cons_succ])
            refine rg_in 12 rfl (by kernel_rfl) (by kernel_rfl) (by kernel_rfl) (by rfl) (v := ?_) (fun _ _ _ h => h) hHeld (fun w hSw => ?_) ?_
            rotate_left
            · (try dsimp only at hSw); go_simp <;> (with_reducible rfl)
            (try simp only [Act.put, List.setIfInBounds_toArray, List.set_cons_zero, List.set_cons_succ])
            refine rg_in 13 rfl (by kernel_rfl) (by kernel_rfl) (by kernel_rfl) (by rfl) (v := ?_) (fun _ _ _ h => h) hHeld (fun w hSw => ?_) ?_
            rotate_left
            · (try dsimp only at hSw); go_simp <;> (with_reducible rfl)
            (try simp only [Act.put, List.setIfInBounds_toArray, List.set_cons_zero, List.set_cons_succ])
            refine rg_in 14 rfl (by kernel_rfl) (by kernel_rfl) (by kernel_rfl) (by rfl) (v := ?_) (fun _ _ _ h => h) hHeld (fun w hSw => ?_) ?_
            rotate_left
            · (try dsimp only at hSw); go_simp <;> (with_reducible rfl)
            (try simp only [Act.put, List.setIfInBounds_toArray, List.set_cons_zero, List.set_cons_succ])
            refine rg_do 7 rfl (by kernel_rfl) (by rfl) (fun K hK => ?_)
            have hcI := HCI.out _ hbw
            go_simp
            (go_at_call 34; (with_reducible refine hcI.mono ?_); (rintro e w107 ⟨A1, c1, rfl, hO1, hb7⟩))
            have hs1 := Below.size hbw
            clear hcI
            refine hK.out _ _ trivial (fun hHeld => ?_)
            clear hK K
            (try simp only [Act.put, List.setIfInBounds_toArray, List.set_cons_zero, List.set_cons_succ])
            refine rg_in 16 rfl (by kernel_rfl) (by kernel_rfl) (by kernel_rfl) (by rfl) (v := ?_) (fun _ _ _ h => h) hHeld (fun w hSw => ?_) ?_
            rotate_left
            · (try dsimp only at hSw); go_simp <;> (with_reducible rfl)
            (try simp only [Act.put, List.setIfInBounds_toArray, List.set_cons_zero, List.set_cons_succ])
            refine rg_do 15 rfl (by kernel_rfl) (by rfl) (fun K hK => ?_)
            have hcK := HCK.out _ (bel_next hbw hb7)
            go_simp
            (go_at_call 35; (with_reducible refine hcK.mono ?_); (rintro e w115 ⟨A2, c2, rfl, hO2, hb15⟩))
            have hs2 := Below.size (bel_next hbw hb7)
            clear hcK
            refine hK.out _ _ trivial (fun hHeld => ?_)
            clear hK K
            (try simp only [Act.put, List.setIfInBounds_toArray, List.set_cons_zero, List.set_cons_succ])
            refine rg_do 17 rfl (by kernel_rfl) (by rfl) (fun K hK => ?_)
            have hV := HB.out _ (bel_next (bel_next hbw hb7) hb15)
            have hc1 := hV.1.1.2.1
            have hf1 := hV.1.2.2.1
            go_simp
            clear hc1 hf1
            refine hK.out _ _ trivial (fun hHeld => ?_)
            clear hK K
            (try simp only [Act.put, List.setIfInBounds_toArray, List.set_cons_zero, List.set_cons_succ])
            refine rg_in 18 rfl (by kernel_rfl) (by kernel_rfl) (by kernel_rfl) (by rfl) (v := ?_) (fun _ _ _ h => h) hHeld (fun w hSw => ?_) ?_
            rotate_left
            · (try dsimp only at hSw); go_simp <;> (with_reducible rfl)
            (try simp only [Act.put, List.setIfInBounds_toArray, List.set_cons_zero, List.set_cons_succ])
            refine rg_do 19 rfl (by kernel_rfl) (by rfl) (fun K hK => ?_)
            have hc2 := hV.1.1.2.2
            have hf2 := hV.1.2.2.2
            go_simp
            clear hc2 hf2
            refine hK.out _ _ trivial (fun hHeld => ?_)
            clear hK K
            (try simp only [Act.put, List.setIfInBounds_toArray, List.set_cons_zero, List.set_cons_succ])
            refine wpAnyH_done (by kernel_rfl) ?_ _
            have hb9 := (bel_next (bel_next hbw hb7) hb15)
            have hn1 := (hV.1.set1 (.slice A1 m1 c1)).set2 (.slice A2 m2 c2)
            have hn2 := (hV.2.other (k := 1) (j := w.heap.size) (by omega) (.slice A1 m1 c1)).other (k := 2) (j := w.heap.size) (by omega) (.slice A2 m2 c2)
            have ho1 := ownsRow_setCell_below (ownsRow_setCell_below (own_base (own_later hO1 hb15) (show w.heap.size + 2 ≤ _ by omega)) (a := ⟨w.heap.size, 1, none⟩) (by show w.heap.size < _; omega) (.slice A1 m1 c1)) (a := ⟨w.heap.size, 2, none⟩) (by show w.heap.size < _; omega) (.slice A2 m2 c2)
            have ho2 := ownsRow_setCell_below (ownsRow_setCell_below (own_base hO2 (show w.heap.size + 2 ≤ _ by omega)) (a := ⟨w.heap.size, 1, none⟩) (by show w.heap.size < _; omega) (.slice A1 m1 c1)) (a := ⟨w.heap.size, 2, none⟩) (by show w.heap.size < _; omega) (.slice A2 m2 c2)
            have hbz := ((hb0.trans (hb9.mono hb0.size)).setCell (p := ⟨w.heap.size, 1, none⟩) (Nat.le_refl _) (.slice A1 m1 c1)).setCell (p := ⟨w.heap.size, 2, none⟩) (Nat.le_refl _) (.slice A2 m2 c2)
            have hszz := hb9.size
            have HM := Lib.hid (show Own2 X m1 m2 w.heap.size w _ from ⟨A1, c1, A2, c2, hn1, hn2, ho1, ho2, hbz, by rw [size_set, size_set]; omega⟩)
            clear hHeld hV hn1 hn2 ho1 ho2 hbz hO1 hO2
            go_wp2_with fail
            go_meet
            case rel => exact HM.out
          exact AllReadyH.nil
        refine rg_cons rfl (by rfl) (fun K hK => ?_) ?_
        · have hV := HB.out _ (Below.refl W1.heap.size W1)
          have hcl := hV.1.1.2.2
          go_simp
          clear hcl hV
          refine hK.out _ _ trivial (fun hHeld => ?_)
          clear hK K
          (try simp only [Act.put, List.setIfInBounds_toArray, List.set_cons_zero, List.set_cons_succ])
          refine rg_in 12 rfl (by kernel_rfl) (by kernel_rfl) (by kernel_rfl) (by rfl) (v := ?_) (fun _ _ _ h => h) hHeld (fun w hSw => ?_) ?_
          rotate_left
          · (try dsimp only at hSw); go_simp <;> (with_reducible rfl)
          (try simp only [Act.put, List.setIfInBounds_toArray, List.set_cons_zero, List.set_cons_succ])
          refine rg_in 13 rfl (by kernel_rfl) (by kernel_rfl) (by kernel_rfl) (by rfl) (v := ?_) (fun _ _ _ h => h) hHeld (fun w hSw => ?_) ?_
          rotate_left
          · (try dsimp only at hSw); go_simp <;> (with_reducible rfl)
          (try simp only [Act.put, List.setIfInBounds_toArray, List.set_cons_zero, List.set_cons_succ])
          refine rg_in 14 rfl (by kernel_rfl) (by kernel_rfl) (by kernel_rfl) (by rfl) (v := ?_) (fun _ _ _ h => h) hHeld (fun w hSw => ?_) ?_
          rotate_left
          · (try dsimp only at hSw); go_simp <;> (with_reducible rfl)
          (try simp only [Act.put, List.setIfInBounds_toArray, List.set_cons_zero, List.set_cons_succ])
          refine rg_do 3 rfl (by kernel_rfl) (by rfl) (fun K hK => ?_)
          have hV := HB.out _ (Below.refl W1.heap.size W1)
          have hcl := hV.1.1.2.1
          go_simp
          clear hcl hV
          refine hK.out _ _ trivial (fun hHeld => ?_)
          clear hK K
          (try simp only [Act.put, List.setIfInBounds_toArray, List.set_cons_zero, List.set_cons_succ])
          refine rg_in 4 rfl (by kernel_rfl) (by kernel_rfl) (by kernel_rfl) (by rfl) (v := ?_) (fun _ _ _ h => h) hHeld (fun w hSw => ?_) ?_
          rotate_left
          · (try dsimp only at hSw); go_simp <;> (with_reducible rfl)
          (try simp only [Act.put, List.setIfInBounds_toArray, List.set_cons_zero, List.set_cons_succ])
          refine rg_in 5 rfl (by kernel_rfl) (by kernel_rfl) (by kernel_rfl) (by rfl) (v := ?_) (fun _ _ _ h => h) hHeld (fun w hSw => ?_) ?_
          rotate_left
          · (try dsimp only at hSw); go_simp <;> (with_reducible rfl)
          (try simp only [Act.put, List.setIfInBounds_toArray, List.set_cons_zero, List.set_cons_succ])
          refine rg_in 6 rfl (by kernel_rfl) (by kernel_rfl) (by kernel_rfl) (by rfl) (v := ?_) (fun _ _ _ h => h) hHeld (fun w hSw => ?_) ?_
          rotate_left
          · (try dsimp only at hSw); go_simp <;> (with_reducible rfl)
          (try simp only [Act.put, List.setIfInBounds_toArray, List.set_cons_zero, List.set_cons_succ])
          refine rg_do 7 rfl (by kernel_rfl) (by rfl) (fun K hK => ?_)
          have hcI := HCI.out _ hbw
          go_simp
          (go_at_call 34; (with_reducible refine hcI.mono ?_); (rintro e w107 ⟨A1, c1, rfl, hO1, hb7⟩))
          have hs1 := Below.size hbw
          clear hcI
          refine hK.out _ _ trivial (fun hHeld => ?_)
          clear hK K
          (try simp only [Act.put, List.setIfInBounds_toArray, List.set_cons_zero, List.set_cons_succ])
          refine rg_in 16 rfl (by kernel_rfl) (by kernel_rfl) (by kernel_rfl) (by rfl) (v := ?_) (fun _ _ _ h => h) hHeld (fun w hSw => ?_) ?_
          rotate_left
          · (try dsimp only at hSw); go_simp <;> (with_reducible rfl)
          (try simp only [Act.put, List.setIfInBounds_toArray, List.set_cons_zero, List.set_cons_succ])
          refine rg_do 15 rfl (by kernel_rfl) (by rfl) (fun K hK => ?_)
          have hcK := HCK.out _ (bel_next hbw hb7)
          go_simp
          (go_at_call 35; (with_reducible refine hcK.mono ?_); (rintro e w115 ⟨A2, c2, rfl, hO2, hb15⟩))
          have hs2 := Below.size (bel_next hbw hb7)
          clear hcK
          refine hK.out _ _ trivial (fun hHeld => ?_)
          clear hK K
          (try simp only [Act.put, List.setIfInBounds_toArray, List.set_cons_zero, List.set_cons_succ])
          refine rg_do 17 rfl (by kernel_rfl) (by rfl) (fun K hK => ?_)
          have hV := HB.out _ (bel_next (bel_next hbw hb7) hb15)
          have hc1 := hV.1.1.2.1
          have hf1 := hV.1.2.2.1
          go_simp
          clear hc1 hf1
          refine hK.out _ _ trivial (fun hHeld => ?_)
          clear hK K
          (try simp only [Act.put, List.setIfInBounds_toArray, List.set_cons_zero, List.set_cons_succ])
          refine rg_in 18 rfl (by kernel_rfl) (by kernel_rfl) (by kernel_rfl) (by rfl) (v := ?_) (fun _ _ _ h => h) hHeld (fun w hSw => ?_) ?_
          rotate_left
          · (try dsimp only at hSw); go_simp <;> (with_reducible rfl)
          (try simp only [Act.put, List.setIfInBounds_toArray, List.set_cons_zero, List.set_cons_succ])
          refine rg_do 19 rfl (by kernel_rfl) (by rfl) (fun K hK => ?_)
          have hc2 := hV.1.1.2.2
          have hf2 := hV.1.2.2.2
          go_simp
          clear hc2 hf2
          refine hK.out _ _ trivial (fun hHeld => ?_)
          clear hK K
          (try simp only [Act.put, List.setIfInBounds_toArray, List.set_cons_zero, List.set_cons_succ])
          refine wpAnyH_done (by kernel_rfl) ?_ _
          have hb9 := (bel_next (bel_next hbw hb7) hb15)
          have hn1 := (hV.1.set1 (.slice A1 m1 c1)).set2 (.slice A2 m2 c2)
          have hn2 := (hV.2.other (k := 1) (j := w.heap.size) (by omega) (.slice A1 m1 c1)).other (k := 2) (j := w.heap.size) (by omega) (.slice A2 m2 c2)
          have ho1 := ownsRow_setCell_below (ownsRow_setCell_below (own_base (own_later hO1 hb15) (show w.heap.size + 2 ≤ _ by omega)) (a := ⟨w.heap.size, 1, none⟩) (by show w.heap.size < _; omega) (.slice A1 m1 c1)) (a := ⟨w.heap.size, 2, none⟩) (by show w.heap.size < _; omega) (.slice A2 m2 c2)
          have ho2 := ownsRow_setCell_below (ownsRow_setCell_below (own_base hO2 (show w.heap.size + 2 ≤ _ by omega)) (a := ⟨w.heap.size, 1, none⟩) (by show w.heap.size < _; omega) (.slice A1 m1 c1)) (a := ⟨w.heap.size, 2, none⟩) (by show w.heap.size < _; omega) (.slice A2 m2 c2)
          have hbz := ((hb0.trans (hb9.mono hb0.size)).setCell (p := ⟨w.heap.size, 1, none⟩) (Nat.le_refl _) (.slice A1 m1 c1)).setCell (p := ⟨w.heap.size, 2, none⟩) (Nat.le_refl _) (.slice A2 m2 c2)
          have hszz := hb9.size
          have HM := Lib.hid (show Own2 X m1 m2 w.heap.size w _ from ⟨A1, c1, A2, c2, hn1, hn2, ho1, ho2, hbz, by rw [size_set, size_set]; omega⟩)
          clear hHeld hV hn1 hn2 ho1 ho2 hbz hO1 hO2
          go_wp2_with fail
          go_meet
          case rel => exact HM.out
        exact AllReadyH.nil
      refine rg_cons rfl (by rfl) (fun K hK => ?_) ?_
      · have hV := HB.out _ (Below.refl W1.heap.size W1)
        have hcl := hV.1.1.2.1
        go_simp
        clear hcl hV
        refine hK.out _ _ trivial (fun hHeld => ?_)
        clear hK K
        (try simp only [Act.put, List.setIfInBounds_toArray, List.set_cons_zero, List.set_cons_succ])
        refine rg_in 4 rfl (by kernel_rfl) (by kernel_rfl) (by kernel_rfl) (by rfl) (v := ?_) (fun _ _ _ h => h) hHeld (fun w hSw => ?_) ?_
        rotate_left
        · (try dsimp only at hSw); go_simp <;> (with_reducible rfl)
        (try simp only [Act.put, List.setIfInBounds_toArray, List.set_cons_zero, List.set_cons_succ])
        refine rg_in 5 rfl (by kernel_rfl) (by kernel_rfl) (by kernel_rfl) (by rfl) (v := ?_) (fun _ _ _ h => h) hHeld (fun w hSw => ?_) ?_
        rotate_left
        · (try dsimp only at hSw); go_simp <;> (with_reducible rfl)
        (try simp only [Act.put, List.setIfInBounds_toArray, List.set_cons_zero, List.set_cons_succ])
        refine wpAnyH_ready (rs := [1, 11]) (by kernel_rfl) (by simp) ?_
        refine rg_cons rfl (by rfl) (fun K hK => ?_) ?_
        · have hV := HB.out _ (Below.refl W1.heap.size W1)
          have hcl := hV.1.1.2.1
          go_simp
          clear hcl hV
          refine hK.out _ _ trivial (fun hHeld => ?_)
          clear hK K
          (try simp only [Act.put, List.setIfInBounds_toArray, List.set_cons_zero, List.set_cons_succ])
          refine rg_in 6 rfl (by kernel_rfl) (by kernel_rfl) (by kernel_rfl) (by rfl) (v := ?_) (fun _ _ _ h => h) hHeld (fun w hSw => ?_) ?_
          rotate_left
          · (try dsimp only at hSw); go_simp <;> (with_reducible rfl)
          (try simp only [Act.put, List.setIfInBounds_toArray, List.set_cons_zero, List.set_cons_succ])
          refine wpAnyH_ready (rs := [7, 11]) (by kernel_rfl) (by simp) ?_
          refine rg_cons rfl (by rfl) (fun K hK => ?_) ?_
          · have hcI := HCI.out _ hbw
            go_simp
            (go_at_call 34; (with_reducible refine hcI.mono ?_); (rintro e w107 ⟨A1, c1, rfl, hO1, hb7⟩))
            have hs1 := Below.size hbw
            clear hcI
            refine hK.out _ _ trivial (fun hHeld => ?_)
            clear hK K
            (try simp only [Act.put, List.setIfInBounds_toArray, List.set_cons_zero, List.set_cons_succ])
            refine rg_do 11 rfl (by kernel_rfl) (by rfl) (fun K hK => ?_)
            have hV := HB.out _ (bel_next hbw hb7)
            have hcl := hV.1.1.2.2
            go_simp
            clear hcl hV
            refine hK.out _ _ trivial (fun hHeld => ?_)
            clear hK K
            (try simp only [Act.put, List.setIfInBounds_toArray, List.set_cons_zero, List.set_cons_succ])
            refine rg_in 12 rfl (by kernel_rfl) (by kernel_rfl) (by kernel_rfl) (by rfl) (v := ?_) (fun _ _ _ h => h) hHeld (fun w hSw => ?_) ?_
            rotate_left
            · (try dsimp only at hSw); go_simp <;> (with_reducible rfl)
            (try simp only [Act.put, List.setIfInBounds_toArray, List.set_cons_zero, List.set_cons_succ])
            refine rg_in 13 rfl (by kernel_rfl) (by kernel_rfl) (by kernel_rfl) (by rfl) (v := ?_) (fun _ _ _ h => h) hHeld (fun w hSw => ?_) ?_
            rotate_left
            · (try dsimp only at hSw); go_simp <;> (with_reducible rfl)
            (try simp only [Act.put, List.setIfInBounds_toArray, List.set_cons_zero, List.set_cons_succ])
            refine rg_in 14 rfl (by kernel_rfl) (by kernel_rfl) (by kernel_rfl) (by rfl) (v := ?_) (fun _ _ _ h => h) hHeld (fun w hSw => ?_) ?_
            rotate_left
            · (try dsimp only at hSw); go_simp <;> (with_reducible rfl)
            (try simp only [Act.put, List.setIfInBounds_toArray, List.set_cons_zero, List.set_cons_succ])
            refine rg_in 16 rfl (by kernel_rfl) (by kernel_rfl) (by kernel_rfl) (by rfl) (v := ?_) (fun _ _ _ h => h) hHeld (fun w hSw => ?_) ?_
            rotate_left
            · (try dsimp only at hSw); go_simp <;> (with_reducible rfl)
            (try simp only [Act.put, List.setIfInBounds_toArray, List.set_cons_zero, List.set_cons_succ])
            refine rg_do 15 rfl (by kernel_rfl) (by rfl) (fun K hK => ?_)
            have hcK := HCK.out _ (bel_next hbw hb7)
            go_simp
            (go_at_call 35; (with_reducible refine hcK.mono ?_); (rintro e w115 ⟨A2, c2, rfl, hO2, hb15⟩))
            have hs2 := Below.size (bel_next hbw hb7)
            clear hcK
            refine hK.out _ _ trivial (fun hHeld => ?_)
            clear hK K
            (try simp only [Act.put, List.setIfInBounds_toArray, List.set_cons_zero, List.set_cons_succ])
            refine rg_do 17 rfl (by kernel_rfl) (by rfl) (fun K hK => ?_)
            have hV := HB.out _ (bel_next (bel_next hbw hb7) hb15)
            have hc1 := hV.1.1.2.1
            have hf1 := hV.1.2.2.1
            go_simp
            clear hc1 hf1
            refine hK.out _ _ trivial (fun hHeld => ?_)
            clear hK K
            (try simp only [Act.put, List.setIfInBounds_toArray, List.set_cons_zero, List.set_cons_succ])
            refine rg_in 18 rfl (by kernel_rfl) (by kernel_rfl) (by kernel_rfl) (by rfl) (v := ?_) (fun _ _ _ h => h) hHeld (fun w hSw => ?_) ?_
            rotate_left
            · (try dsimp only at hSw); go_simp <;> (with_reducible rfl)
            (try simp only [Act.put, List.setIfInBounds_toArray, List.set_cons_zero, List.set_cons_succ])
            refine rg_do 19 rfl (by kernel_rfl) (by rfl) (fun K hK => ?_)
            have hc2 := hV.1.1.2.2
            have hf2 := hV.1.2.2.2
            go_simp
            clear hc2 hf2
            refine hK.out _ _ trivial (fun hHeld => ?_)
            clear hK K
            (try simp only [Act.put, List.setIfInBounds_toArray, List.set_cons_zero, List.set_cons_succ])
            refine wpAnyH_done (by kernel_rfl) ?_ _
            have hb9 := (bel_next (bel_next hbw hb7) hb15)
            have hn1 := (hV.1.set1 (.slice A1 m1 c1)).set2 (.slice A2 m2 c2)
            have hn2 := (hV.2.other (k := 1) (j := w.heap.size) (by omega) (.slice A1 m1 c1)).other (k := 2) (j := w.heap.size) (by omega) (.slice A2 m2 c2)
            have ho1 := ownsRow_setCell_below (ownsRow_setCell_below (own_base (own_later hO1 hb15) (show w.heap.size + 2 ≤ _ by omega)) (a := ⟨w.heap.size, 1, none⟩) (by show w.heap.size < _; omega) (.slice A1 m1 c1)) (a := ⟨w.heap.size, 2, none⟩) (by show w.heap.size < _; omega) (.slice A2 m2 c2)
            have ho2 := ownsRow_setCell_below (ownsRow_setCell_below (own_base hO2 (show w.heap.size + 2 ≤ _ by omega)) (a := ⟨w.heap.size, 1, none⟩) (by show w.heap.size < _; omega) (.slice A1 m1 c1)) (a := ⟨w.heap.size, 2, none⟩) (by show w.heap.size < _; omega) (.slice A2 m2 c2)
            have hbz := ((hb0.trans (hb9.mono hb0.size)).setCell (p := ⟨w.heap.size, 1, none⟩) (Nat.le_refl _) (.slice A1 m1 c1)).setCell (p := ⟨w.heap.size, 2, none⟩) (Nat.le_refl _) (.slice A2 m2 c2)
            have hszz := hb9.size
            have HM := Lib.hid (show Own2 X m1 m2 w.heap.size w _ from ⟨A1, c1, A2, c2, hn1, hn2, ho1, ho2, hbz, by rw [size_set, size_set]; omega⟩)
            clear hHeld hV hn1 hn2 ho1 ho2 hbz hO1 hO2
            go_wp2_with fail
            go_meet
            case rel => exact HM.out
          refine rg_cons rfl (by rfl) (fun K hK => ?_) ?_
          · have hV := HB.out _ (Below.refl W1.heap.size W1)
            have hcl := hV.1.1.2.2
            go_simp
            clear hcl hV
            refine hK.out _ _ trivial (fun hHeld => ?_)
            clear hK K
            (try simp only [Act.put, List.setIfInBounds_toArray, List.set_cons_zero, List.set_cons_succ])
            refine rg_in 12 rfl (by kernel_rfl) (by kernel_rfl) (by kernel_rfl) (by rfl) (v := ?_) (fun _ _ _ h => h) hHeld (fun w hSw => ?_) ?_
            rotate_left
            · (try dsimp only at hSw); go_simp <;> (with_reducible rfl)
            (try simp only [Act.put, List.setIfInBounds_toArray, List.set_cons_zero, List.set_cons_succ])
            refine rg_in 13 rfl (by kernel_rfl) (by kernel_rfl) (by kernel_rfl) (by rfl) (v := ?_) (fun _ _ _ h => h) hHeld (fun w hSw => ?_) ?_
            rotate_left
            · (try dsimp only at hSw); go_simp <;> (with_reducible rfl)
            (try simp only [Act.put, List.setIfInBounds_toArray, List.set_cons_zero, List.set_cons_succ])
            refine rg_in 14 rfl (by kernel_rfl) (by kernel_rfl) (by kernel_rfl) (by rfl) (v := ?_) (fun _ _ _ h => h) hHeld (fun w hSw => ?_) ?_
            rotate_left
            · (try dsimp only at hSw); go_simp <;> (with_reducible rfl)
            (try simp only [Act.put, List.setIfInBounds_toArray, List.set_cons_zero, List.set_cons_succ])
            refine rg_do 7 rfl (by kernel_rfl) (by rfl) (fun K hK => ?_)
            have hcI := HCI.out _ hbw
            go_simp
            (go_at_call 34; (with_reducible refine hcI.mono ?_); (rintro e w107 ⟨A1, c1, rfl, hO1, hb7⟩))
            have hs1 := Below.size hbw
            clear hcI
            refine hK.out _ _ trivial (fun hHeld => ?_)
            clear hK K
            (try simp only [Act.put, List.setIfInBounds_toArray, List.set_cons_zero, List.set_cons_succ])
            refine rg_in 16 rfl (by kernel_rfl) (by kernel_rfl) (by kernel_rfl) (by rfl) (v := ?_) (fun _ _ _ h => h) hHeld (fun w hSw => ?_) ?_
            rotate_left
            · (try dsimp only at hSw); go_simp <;> (with_reducible rfl)
            (try simp only [Act.put, List.setIfInBounds_toArray, List.set_cons_zero, List.set_cons_succ])
            refine rg_do 15 rfl (by kernel_rfl) (by rfl) (fun K hK => ?_)
            have hcK := HCK.out _ (bel_next hbw hb7)
            go_simp
            (go_at_call 35; (with_reducible refine hcK.mono ?_); (rintro e w115 ⟨A2, c2, rfl, hO2, hb15⟩))
            have hs2 := Below.size (bel_next hbw hb7)
            clear hcK
            refine hK.out _ _ trivial (fun hHeld => ?_)
            clear hK K
            (try simp only [Act.put, List.setIfInBounds_toArray, List.set_cons_zero, List.set_cons_succ])
            refine rg_do 17 rfl (by kernel_rfl) (by rfl) (fun K hK => ?_)
            have hV := HB.out _ (bel_next (bel_next hbw hb7) hb15)
            have hc1 := hV.1.1.2.1
            have hf1 := hV.1.2.2.1
            go_simp
            clear hc1 hf1
            refine hK.out _ _ trivial (fun hHeld => ?_)
            clear hK K
            (try simp only [Act.put, List.setIfInBounds_toArray, List.set_cons_zero, List.set_cons_succ])
            refine rg_in 18 rfl (by kernel_rfl) (by kernel_rfl) (by kernel_rfl) (by rfl) (v := ?_) (fun _ _ _ h => h) hHeld (fun w hSw => ?_) ?_
            rotate_left
            · (try dsimp only at hSw); go_simp <;> (with_reducible rfl)
            (try simp only [Act.put, List.setIfInBounds_toArray, List.set_cons_zero, List.set_cons_succ])
            refine rg_do 19 rfl (by kernel_rfl) (by rfl) (fun K hK => ?_)
            have hc2 := hV.1.1.2.2
            have hf2 := hV.1.2.2.2
            go_simp
            clear hc2 hf2
            refine hK.out _ _ trivial (fun hHeld => ?_)
            clear hK K
            (try simp only [Act.put, List.setIfInBounds_toArray, List.set_cons_zero, List.set_cons_succ])
            refine wpAnyH_done (by kernel_rfl) ?_ _
            have hb9 := (bel_next (bel_next hbw hb7) hb15)
            have hn1 := (hV.1.set1 (.slice A1 m1 c1)).set2 (.slice A2 m2 c2)
            have hn2 := (hV.2.other (k := 1) (j := w.heap.size) (by omega) (.slice A1 m1 c1)).other (k := 2) (j := w.heap.size) (by omega) (.slice A2 m2 c2)
            have ho1 := ownsRow_setCell_below (ownsRow_setCell_below (own_base (own_later hO1 hb15) (show w.heap.size + 2 ≤ _ by omega)) (a := ⟨w.heap.size, 1, none⟩) (by show w.heap.size < _; omega) (.slice A1 m1 c1)) (a := ⟨w.heap.size, 2, none⟩) (by show w.heap.size < _; omega) (.slice A2 m2 c2)
            have ho2 := ownsRow_setCell_below (ownsRow_setCell_below (own_base hO2 (show w.heap.size + 2 ≤ _ by omega)) (a := ⟨w.heap.size, 1, none⟩) (by show w.heap.size < _; omega) (.slice A1 m1 c1)) (a := ⟨w.heap.size, 2, none⟩) (by show w.heap.size < _; omega) (.slice A2 m2 c2)
            have hbz := ((hb0.trans (hb9.mono hb0.size)).setCell (p := ⟨w.heap.size, 1, none⟩) (Nat.le_refl _) (.slice A1 m1 c1)).setCell (p := ⟨w.heap.size, 2, none⟩) (Nat.le_refl _) (.slice A2 m2 c2)
            have hszz := hb9.size
            have HM := Lib.hid (show Own2 X m1 m2 w.heap.size w _ from ⟨A1, c1, A2, c2, hn1, hn2, ho1, ho2, hbz, by rw [size_set, size_set]; omega⟩)
            clear hHeld hV hn1 hn2 ho1 ho2 hbz hO1 hO2
            go_wp2_with fail
            go_meet
            case rel => exact HM.out
          exact AllReadyH.nil
        refine rg_cons rfl (by rfl) (fun K hK => ?_) ?_
        · have hV := HB.out _ (Below.refl W1.heap.size W1)
          have hcl := hV.1.1.2.2
          go_simp
          clear hcl hV
          refine hK.out _ _ trivial (fun hHeld => ?_)
          clear hK K
          (try simp only [Act.put, List.setIfInBounds_toArray, List.set_cons_zero, List.set_cons_succ])
          refine rg_in 12 rfl (by kernel_rfl) (by kernel_rfl) (by kernel_rfl) (by rfl) (v := ?_) (fun _ _ _ h => h) hHeld (fun w hSw => ?_) ?_
          rotate_left
          · (try dsimp only at hSw); go_simp <;> (with_reducible rfl)
          (try simp only [Act.put, List.setIfInBounds_toArray, List.set_cons_zero, List.set_cons_succ])
          refine rg_in 13 rfl (by kernel_rfl) (by kernel_rfl) (by kernel_rfl) (by rfl) (v := ?_) (fun _ _ _ h => h) hHeld (fun w hSw => ?_) ?_
          rotate_left
          · (try dsimp only at hSw); go_simp <;> (with_reducible rfl)
          (try simp only [Act.put, List.setIfInBounds_toArray, List.set_cons_zero, List.set_cons_succ])
          refine rg_in 14 rfl (by kernel_rfl) (by kernel_rfl) (by kernel_rfl) (by rfl) (v := ?_) (fun _ _ _ h => h) hHeld (fun w hSw => ?_) ?_
          rotate_left
          · (try dsimp only at hSw); go_simp <;> (with_reducible rfl)
          (try simp only [Act.put, List.setIfInBounds_toArray, List.set_cons_zero, List.set_cons_succ])
          refine rg_do 1 rfl (by kernel_rfl) (by rfl) (fun K hK => ?_)
          have hV := HB.out _ (Below.refl W1.heap.size W1)
          have hcl := hV.1.1.2.1
          go_simp
          clear hcl hV
          refine hK.out _ _ trivial (fun hHeld => ?_)
          clear hK K
          (try simp only [Act.put, List.setIfInBounds_toArray, List.set_cons_zero, List.set_cons_succ])
          refine rg_in 6 rfl (by kernel_rfl) (by kernel_rfl) (by kernel_rfl) (by rfl) (v := ?_) (fun _ _ _ h => h) hHeld (fun w hSw => ?_) ?_
          rotate_left
          · (try dsimp only at hSw); go_simp <;> (with_reducible rfl)
          (try simp only [Act.put, List.setIfInBounds_toArray, List.set_cons_zero, List.set_cons_succ])
          refine rg_do 7 rfl (by kernel_rfl) (by rfl) (fun K hK => ?_)
          have hcI := HCI.out _ hbw
          go_simp
          (go_at_call 34; (with_reducible refine hcI.mono ?_); (rintro e w107 ⟨A1, c1, rfl, hO1, hb7⟩))
          have hs1 := Below.size hbw
          clear hcI
          refine hK.out _ _ trivial (fun hHeld => ?_)
          clear hK K
          (try simp only [Act.put, List.setIfInBounds_toArray, List.set_cons_zero, List.set_cons_succ])
          refine rg_in 16 rfl (by kernel_rfl) (by kernel_rfl) (by kernel_rfl) (by rfl) (v := ?_) (fun _ _ _ h => h) hHeld (fun w hSw => ?_) ?_
          rotate_left
          · (try dsimp only at hSw); go_simp <;> (with_reducible rfl)
          (try simp only [Act.put, List.setIfInBounds_toArray, List.set_cons_zero, List.set_cons_succ])
          refine rg_do 15 rfl (by kernel_rfl) (by rfl) (fun K hK => ?_)
          have hcK := HCK.out _ (bel_next hbw hb7)
          go_simp
          (go_at_call 35; (with_reducible refine hcK.mono ?_); (rintro e w115 ⟨A2, c2, rfl, hO2, hb15⟩))
          have hs2 := Below.size (bel_next hbw hb7)
          clear hcK
          refine hK.out _ _ trivial (fun hHeld => ?_)
          clear hK K
          (try simp only [Act.put, List.setIfInBounds_toArray, List.set_cons_zero, List.set_cons_succ])
          refine rg_do 17 rfl (by kernel_rfl) (by rfl) (fun K hK => ?_)
          have hV := HB.out _ (bel_next (bel_next hbw hb7) hb15)
          have hc1 := hV.1.1.2.1
          have hf1 := hV.1.2.2.1
          go_simp
          clear hc1 hf1
          refine hK.out _ _ trivial (fun hHeld => ?_)
          clear hK K
          (try simp only [Act.put, List.setIfInBounds_toArray, List.set_cons_zero, List.set_cons_succ])
          refine rg_in 18 rfl (by kernel_rfl) (by kernel_rfl) (by kernel_rfl) (by rfl) (v := ?_) (fun _ _ _ h => h) hHeld (fun w hSw => ?_) ?_
          rotate_left
          · (try dsimp only at hSw); go_simp <;> (with_reducible rfl)
          (try simp only [Act.put, List.setIfInBounds_toArray, List.set_cons_zero, List.set_cons_succ])
          refine rg_do 19 rfl (by kernel_rfl) (by rfl) (fun K hK => ?_)
          have hc2 := hV.1.1.2.2
          have hf2 := hV.1.2.2.2
          go_simp
          clear hc2 hf2
          refine hK.out _ _ trivial (fun hHeld => ?_)
          clear hK K
          (try simp only [Act.put, List.setIfInBounds_toArray, List.set_cons_zero, List.set_cons_succ])
          refine wpAnyH_done (by kernel_rfl) ?_ _
          have hb9 := (bel_next (bel_next hbw hb7) hb15)
          have hn1 := (hV.1.set1 (.slice A1 m1 c1)).set2 (.slice A2 m2 c2)
          have hn2 := (hV.2.other (k := 1) (j := w.heap.size) (by omega) (.slice A1 m1 c1)).other (k := 2) (j := w.heap.size) (by omega) (.slice A2 m2 c2)
          have ho1 := ownsRow_setCell_below (ownsRow_setCell_below (own_base (own_later hO1 hb15) (show w.heap.size + 2 ≤ _ by omega)) (a := ⟨w.heap.size, 1, none⟩) (by show w.heap.size < _; omega) (.slice A1 m1 c1)) (a := ⟨w.heap.size, 2, none⟩) (by show w.heap.size < _; omega) (.slice A2 m2 c2)
          have ho2 := ownsRow_setCell_below (ownsRow_setCell_below (own_base hO2 (show w.heap.size + 2 ≤ _ by omega)) (a := ⟨w.heap.size, 1, none⟩) (by show w.heap.size < _; omega) (.slice A1 m1 c1)) (a := ⟨w.heap.size, 2, none⟩) (by show w.heap.size < _; omega) (.slice A2 m2 c2)
          have hbz := ((hb0.trans (hb9.mono hb0.size)).setCell (p := ⟨w.heap.size, 1, none⟩) (Nat.le_refl _) (.slice A1 m1 c1)).setCell (p := ⟨w.heap.size, 2, none⟩) (Nat.le_refl _) (.slice A2 m2 c2)
          have hszz := hb9.size
          have HM := Lib.hid (show Own2 X m1 m2 w.heap.size w _ from ⟨A1, c1, A2, c2, hn1, hn2, ho1, ho2, hbz, by rw [size_set, size_set]; omega⟩)
          clear hHeld hV hn1 hn2 ho1 ho2 hbz hO1 hO2
          go_wp2_with fail
          go_meet
          case rel => exact HM.out
        exact AllReadyH.nil
      refine rg_cons rfl (by rfl) (fun K hK => ?_) ?_
      · have hV := HB.out _ (Below.refl W1.heap.size W1)
        have hcl := hV.1.1.2.2
        go_simp
        clear hcl hV
        refine hK.out _ _ trivial (fun hHeld => ?_)
        clear hK K
        (try simp only [Act.put, List.setIfInBounds_toArray, List.set_cons_zero, List.set_cons_succ])
        refine rg_in 12 rfl (by kernel_rfl) (by kernel_rfl) (by kernel_rfl) (by rfl) (v := ?_) (fun _ _ _ h => h) hHeld (fun w hSw => ?_) ?_
        rotate_left
        · (try dsimp only at hSw); go_simp <;> (with_reducible rfl)
        (try simp only [Act.put, List.setIfInBounds_toArray, List.set_cons_zero, List.set_cons_succ])
        refine rg_in 13 rfl (by kernel_rfl) (by kernel_rfl) (by kernel_rfl) (by rfl) (v := ?_) (fun _ _ _ h => h) hHeld (fun w hSw => ?_) ?_
        rotate_left
        · (try dsimp only at hSw); go_simp <;> (with_reducible rfl)
        (try simp only [Act.put, List.setIfInBounds_toArray, List.set_cons_zero, List.set_cons_succ])
        refine rg_in 14 rfl (by kernel_rfl) (by kernel_rfl) (by kernel_rfl) (by rfl) (v := ?_) (fun _ _ _ h => h) hHeld (fun w hSw => ?_) ?_
        rotate_left
        · (try dsimp only at hSw); go_simp <;> (with_reducible rfl)
        (try simp only [Act.put, List.setIfInBounds_toArray, List.set_cons_zero, List.set_cons_succ])
        refine wpAnyH_ready (rs := [1, 3]) (by kernel_rfl) (by simp) ?_
        refine rg_cons rfl (by rfl) (fun K hK => ?_) ?_
        · have hV := HB.out _ (Below.refl W1.heap.size W1)
          have hcl := hV.1.1.2.1
          go_simp
          clear hcl hV
          refine hK.out _ _ trivial (fun hHeld => ?_)
          clear hK K
          (try simp only [Act.put, List.setIfInBounds_toArray, List.set_cons_zero, List.set_cons_succ])
          refine rg_do 3 rfl (by kernel_rfl) (by rfl) (fun K hK => ?_)
          have hV := HB.out _ (Below.refl W1.heap.size W1)
          have hcl := hV.1.1.2.1
          go_simp
          clear hcl hV
          refine hK.out _ _ trivial (fun hHeld => ?_)
          clear hK K
          (try simp only [Act.put, List.setIfInBounds_toArray, List.set_cons_zero, List.set_cons_succ])
          refine rg_in 4 rfl (by kernel_rfl) (by kernel_rfl) (by kernel_rfl) (by rfl) (v := ?_) (fun _ _ _ h => h) hHeld (fun w hSw => ?_) ?_
          rotate_left
          · (try dsimp only at hSw); go_simp <;> (with_reducible rfl)
          (try simp only [Act.put, List.setIfInBounds_toArray, List.set_cons_zero, List.set_cons_succ])
          refine rg_in 5 rfl (by kernel_rfl) (by kernel_rfl) (by kernel_rfl) (by rfl) (v := ?_) (fun _ _ _ h => h) hHeld (fun w hSw => ?_) ?_
          rotate_left
          · (try dsimp only at hSw); go_simp <;> (with_reducible rfl)
          (try simp only [Act.put, List.setIfInBounds_toArray, List.set_cons_zero, List.set_cons_succ])
          refine rg_in 6 rfl (by kernel_rfl) (by kernel_rfl) (by kernel_rfl) (by rfl) (v := ?_) (fun _ _ _ h => h) hHeld (fun w hSw => ?_) ?_
          rotate_left
          · (try dsimp only at hSw); go_simp <;> (with_reducible rfl)
          (try simp only [Act.put, List.setIfInBounds_toArray, List.set_cons_zero, List.set_cons_succ])
          refine rg_do 7 rfl (by kernel_rfl) (by rfl) (fun K hK => ?_)
          have hcI := HCI.out _ hbw
          go_simp
          (go_at_call 34; (with_reducible refine hcI.mono ?_); (rintro e w107 ⟨A1, c1, rfl, hO1, hb7⟩))
          have hs1 := Below.size hbw
          clear hcI
          refine hK.out _ _ trivial (fun hHeld => ?_)
          clear hK K
          (try simp only [Act.put, List.setIfInBounds_toArray, List.set_cons_zero, List.set_cons_succ])
          refine rg_in 16 rfl (by kernel_rfl) (by kernel_rfl) (by kernel_rfl) (by rfl) (v := ?_) (fun _ _ _ h => h) hHeld (fun w hSw => ?_) ?_
          rotate_left
          · (try dsimp only at hSw); go_simp <;> (with_reducible rfl)
          (try simp only [Act.put, List.setIfInBounds_toArray, List.set_cons_zero, List.set_cons_succ])
          refine rg_do 15 rfl (by kernel_rfl) (by rfl) (fun K hK => ?_)
          have hcK := HCK.out _ (bel_next hbw hb7)
          go_simp
          (go_at_call 35; (with_reducible refine hcK.mono ?_); (rintro e w115 ⟨A2, c2, rfl, hO2, hb15⟩))
          have hs2 := Below.size (bel_next hbw hb7)
          clear hcK
          refine hK.out _ _ trivial (fun hHeld => ?_)
          clear hK K
          (try simp only [Act.put, List.setIfInBounds_toArray, List.set_cons_zero, List.set_cons_succ])
          refine rg_do 17 rfl (by kernel_rfl) (by rfl) (fun K hK => ?_)
          have hV := HB.out _ (bel_next (bel_next hbw hb7) hb15)
          have hc1 := hV.1.1.2.1
          have hf1 := hV.1.2.2.1
          go_simp
          clear hc1 hf1
          refine hK.out _ _ trivial (fun hHeld => ?_)
          clear hK K
          (try simp only [Act.put, List.setIfInBounds_toArray, List.set_cons_zero, List.set_cons_succ])
          refine rg_in 18 rfl (by kernel_rfl) (by kernel_rfl) (by kernel_rfl) (by rfl) (v := ?_) (fun _ _ _ h => h) hHeld (fun w hSw => ?_) ?_
          rotate_left
          · (try dsimp only at hSw); go_simp <;> (with_reducible rfl)
          (try simp only [Act.put, List.setIfInBounds_toArray, List.set_cons_zero, List.set_cons_succ])
          refine rg_do 19 rfl (by kernel_rfl) (by rfl) (fun K hK => ?_)
          have hc2 := hV.1.1.2.2
          have hf2 := hV.1.2.2.2
          go_simp
          clear hc2 hf2
          refine hK.out _ _ trivial (fun hHeld => ?_)
          clear hK K
          (try simp only [Act.put, List.setIfInBounds_toArray, List.set_cons_zero, List.set_cons_succ])
          refine wpAnyH_done (by kernel_rfl) ?_ _
          have hb9 := (bel_next (bel_next hbw hb7) hb15)
          have hn1 := (hV.1.set1 (.slice A1 m1 c1)).set2 (.slice A2 m2 c2)
          have hn2 := (hV.2.other (k := 1) (j := w.heap.size) (by omega) (.slice A1 m1 c1)).other (k := 2) (j := w.heap.size) (by omega) (.slice A2 m2 c2)
          have ho1 := ownsRow_setCell_below (ownsRow_setCell_below (own_base (own_later hO1 hb15) (show w.heap.size + 2 ≤ _ by omega)) (a := ⟨w.heap.size, 1, none⟩) (by show w.heap.size < _; omega) (.slice A1 m1 c1)) (a := ⟨w.heap.size, 2, none⟩) (by show w.heap.size < _; omega) (.slice A2 m2 c2)
          have ho2 := ownsRow_setCell_below (ownsRow_setCell_below (own_base hO2 (show w.heap.size + 2 ≤ _ by omega)) (a := ⟨w.heap.size, 1, none⟩) (by show w.heap.size < _; omega) (.slice A1 m1 c1)) (a := ⟨w.heap.size, 2, none⟩) (by show w.heap.size < _; omega) (.slice A2 m2 c2)
          have hbz := ((hb0.trans (hb9.mono hb0.size)).setCell (p := ⟨w.heap.size, 1, none⟩) (Nat.le_refl _) (.slice A1 m1 c1)).setCell (p := ⟨w.heap.size, 2, none⟩) (Nat.le_refl _) (.slice A2 m2 c2)
          have hszz := hb9.size
          have HM := Lib.hid (show Own2 X m1 m2 w.heap.size w _ from ⟨A1, c1, A2, c2, hn1, hn2, ho1, ho2, hbz, by rw [size_set, size_set]; omega⟩)
          clear hHeld hV hn1 hn2 ho1 ho2 hbz hO1 hO2
          go_wp2_with fail
          go_meet
          case rel => exact HM.out
        refine rg_cons rfl (by rfl) (fun K hK => ?_) ?_
        · have hV := HB.out _ (Below.refl W1.heap.size W1)
          have hcl := hV.1.1.2.1
          go_simp
          clear hcl hV
          refine hK.out _ _ trivial (fun hHeld => ?_)
          clear hK K
          (try simp only [Act.put, List.setIfInBounds_toArray, List.set_cons_zero, List.set_cons_succ])
          refine rg_in 4 rfl (by kernel_rfl) (by kernel_rfl) (by kernel_rfl) (by rfl) (v := ?_) (fun _ _ _ h => h) hHeld (fun w hSw => ?_) ?_
          rotate_left
          · (try dsimp only at hSw); go_simp <;> (with_reducible rfl)
          (try simp only [Act.put, List.setIfInBounds_toArray, List.set_cons_zero, List.set_cons_succ])
          refine rg_in 5 rfl (by kernel_rfl) (by kernel_rfl) (by kernel_rfl) (by rfl) (v := ?_) (fun _ _ _ h => h) hHeld (fun w hSw => ?_) ?_
          rotate_left
          · (try dsimp only at hSw); go_simp <;> (with_reducible rfl)
          (try simp only [Act.put, List.setIfInBounds_toArray, List.set_cons_zero, List.set_cons_succ])
          refine rg_do 1 rfl (by kernel_rfl) (by rfl) (fun K hK => ?_)
          have hV := HB.out _ (Below.refl W1.heap.size W1)
          have hcl := hV.1.1.2.1
          go_simp
          clear hcl hV
          refine hK.out _ _ trivial (fun hHeld => ?_)
          clear hK K
          (try simp only [Act.put, List.setIfInBounds_toArray, List.set_cons_zero, List.set_cons_succ])
          refine rg_in 6 rfl (by kernel_rfl) (by kernel_rfl) (by kernel_rfl) (by rfl) (v := ?_) (fun _ _ _ h => h) hHeld (fun w hSw => ?_) ?_
          rotate_left
          · (try dsimp only at hSw); go_simp <;> (with_reducible rfl)
          (try simp only [Act.put, List.setIfInBounds_toArray, List.set_cons_zero, List.set_cons_succ])
          refine rg_do 7 rfl (by kernel_rfl) (by rfl) (fun K hK => ?_)
          have hcI := HCI.out _ hbw
          go_simp
          (go_at_call 34; (with_reducible refine hcI.mono ?_); (rintro e w107 ⟨A1, c1, rfl, hO1, hb7⟩))
          have hs1 := Below.size hbw
          clear hcI
          refine hK.out _ _ trivial (fun hHeld => ?_)
          clear hK K
          (try simp only [Act.put, List.setIfInBounds_toArray, List.set_cons_zero, List.set_cons_succ])
          refine rg_in 16 rfl (by kernel_rfl) (by kernel_rfl) (by kernel_rfl) (by rfl) (v := ?_) (fun _ _ _ h => h) hHeld (fun w hSw => ?_) ?_
          rotate_left
          · (try dsimp only at hSw); go_simp <;> (with_reducible rfl)
          (try simp only [Act.put, List.setIfInBounds_toArray, List.set_cons_zero, List.set_cons_succ])
          refine rg_do 15 rfl (by kernel_rfl) (by rfl) (fun K hK => ?_)
          have hcK := HCK.out _ (bel_next hbw hb7)
          go_simp
          (go_at_call 35; (with_reducible refine hcK.mono ?_); (rintro e w115 ⟨A2, c2, rfl, hO2, hb15⟩))
          have hs2 := Below.size (bel_next hbw hb7)
          clear hcK
          refine hK.out _ _ trivial (fun hHeld => ?_)
          clear hK K
          (try simp only [Act.put, List.setIfInBounds_toArray, List.set_cons_zero, List.set_cons_succ])
          refine rg_do 17 rfl (by kernel_rfl) (by rfl) (fun K hK => ?_)
          have hV := HB.out _ (bel_next (bel_next hbw hb7) hb15)
          have hc1 := hV.1.1.2.1
          have hf1 := hV.1.2.2.1
          go_simp
          clear hc1 hf1
          refine hK.out _ _ trivial (fun hHeld => ?_)
          clear hK K
          (try simp only [Act.put, List.setIfInBounds_toArray, List.set_cons_zero, List.set_cons_succ])
          refine rg_in 18 rfl (by kernel_rfl) (by kernel_rfl) (by kernel_rfl) (by rfl) (v := ?_) (fun _ _ _ h => h) hHeld (fun w hSw => ?_) ?_
          rotate_left
          · (try dsimp only at hSw); go_simp <;> (with_reducible rfl)
          (try simp only [Act.put, List.setIfInBounds_toArray, List.set_cons_zero, List.set_cons_succ])
          refine rg_do 19 rfl (by kernel_rfl) (by rfl) (fun K hK => ?_)
          have hc2 := hV.1.1.2.2
          have hf2 := hV.1.2.2.2
          go_simp
          clear hc2 hf2
          refine hK.out _ _ trivial (fun hHeld => ?_)
          clear hK K
          (try simp only [Act.put, List.setIfInBounds_toArray, List.set_cons_zero, List.set_cons_succ])
          refine wpAnyH_done (by kernel_rfl) ?_ _
          have hb9 := (bel_next (bel_next hbw hb7) hb15)
          have hn1 := (hV.1.set1 (.slice A1 m1 c1)).set2 (.slice A2 m2 c2)
          have hn2 := (hV.2.other (k := 1) (j := w.heap.size) (by omega) (.slice A1 m1 c1)).other (k := 2) (j := w.heap.size) (by omega) (.slice A2 m2 c2)
          have ho1 := ownsRow_setCell_below (ownsRow_setCell_below (own_base (own_later hO1 hb15) (show w.heap.size + 2 ≤ _ by omega)) (a := ⟨w.heap.size, 1, none⟩) (by show w.heap.size < _; omega) (.slice A1 m1 c1)) (a := ⟨w.heap.size, 2, none⟩) (by show w.heap.size < _; omega) (.slice A2 m2 c2)
          have ho2 := ownsRow_setCell_below (ownsRow_setCell_below (own_base hO2 (show w.heap.size + 2 ≤ _ by omega)) (a := ⟨w.heap.size, 1, none⟩) (by show w.heap.size < _; omega) (.slice A1 m1 c1)) (a := ⟨w.heap.size, 2, none⟩) (by show w.heap.size < _; omega) (.slice A2 m2 c2)
          have hbz := ((hb0.trans (hb9.mono hb0.size)).setCell (p := ⟨w.heap.size, 1, none⟩) (Nat.le_refl _) (.slice A1 m1 c1)).setCell (p := ⟨w.heap.size, 2, none⟩) (Nat.le_refl _) (.slice A2 m2 c2)
          have hszz := hb9.size
          have HM := Lib.hid (show Own2 X m1 m2 w.heap.size w _ from ⟨A1, c1, A2, c2, hn1, hn2, ho1, ho2, hbz, by rw [size_set, size_set]; omega⟩)
          clear hHeld hV hn1 hn2 ho1 ho2 hbz hO1 hO2
          go_wp2_with fail
          go_meet
          case rel => exact HM.out
        exact AllReadyH.nil
      exact AllReadyH.nil
    refine rg_cons rfl (by rfl) (fun K hK => ?_) ?_
    · have hV := HB.out _ (Below.refl W1.heap.size W1)
      have hcl := hV.1.1.2.2
      go_simp
      clear hcl hV
      refine hK.out _ _ trivial (fun hHeld => ?_)
      clear hK K
      (try simp only [Act.put, List.setIfInBounds_toArray, List.set_cons_zero, List.set_cons_succ])
      refine rg_in 12 rfl (by kernel_rfl) (by kernel_rfl) (by kernel_rfl) (by rfl) (v := ?_) (fun _ _ _ h => h) hHeld (fun w hSw => ?_) ?_
      rotate_left
      · (try dsimp only at hSw); go_simp <;> (with_reducible rfl)
      (try simp only [Act.put, List.setIfInBounds_toArray, List.set_cons_zero, List.set_cons_succ])
      refine rg_in 13 rfl (by kernel_rfl) (by kernel_rfl) (by kernel_rfl) (by rfl) (v := ?_) (fun _ _ _ h => h) hHeld (fun w hSw => ?_) ?_
      rotate_left
      · (try dsimp only at hSw); go_simp <;> (with_reducible rfl)
      (try simp only [Act.put, List.setIfInBounds_toArray, List.set_cons_zero, List.set_cons_succ])
      refine wpAnyH_ready (rs := [1, 3, 9]) (by kernel_rfl) (by simp) ?_
      refine rg_cons rfl (by rfl) (fun K hK => ?_) ?_
      · have hV := HB.out _ (Below.refl W1.heap.size W1)
        have hcl := hV.1.1.2.1
        go_simp
        clear hcl hV
        refine hK.out _ _ trivial (fun hHeld => ?_)
        clear hK K
        (try simp only [Act.put, List.setIfInBounds_toArray, List.set_cons_zero, List.set_cons_succ])
        refine wpAnyH_ready (rs := [3, 9]) (by kernel_rfl) (by simp) ?_
        refine rg_cons rfl (by rfl) (fun K hK => ?_) ?_
        · have hV := HB.out _ (Below.refl W1.heap.size W1)
          have hcl := hV.1.1.2.1
          go_simp
          clear hcl hV
          refine hK.out _ _ trivial (fun hHeld => ?_)
          clear hK K
          (try simp only [Act.put, List.setIfInBounds_toArray, List.set_cons_zero, List.set_cons_succ])
          refine rg_in 4 rfl (by kernel_rfl) (by kernel_rfl) (by kernel_rfl) (by rfl) (v := ?_) (fun _ _ _ h => h) hHeld (fun w hSw => ?_) ?_
          rotate_left
          · (try dsimp only at hSw); go_simp <;> (with_reducible rfl)
          (try simp only [Act.put, List.setIfInBounds_toArray, List.set_cons_zero, List.set_cons_succ])
          refine rg_in 5 rfl (by kernel_rfl) (by kernel_rfl) (by kernel_rfl) (by rfl) (v := ?_) (fun _ _ _ h => h) hHeld (fun w hSw => ?_) ?_
          rotate_left
          · (try dsimp only at hSw); go_simp <;> (with_reducible rfl)
          (try simp only [Act.put, List.setIfInBounds_toArray, List.set_cons_zero, List.set_cons_succ])
          refine rg_in 6 rfl (by kernel_rfl) (by kernel_rfl) (by kernel_rfl) (by rfl) (v := ?_) (fun _ _ _ h => h) hHeld (fun w hSw => ?_) ?_
          rotate_left
          · (try dsimp only at hSw); go_simp <;> (with_reducible rfl)
          (try simp only [Act.put, List.setIfInBounds_toArray, List.set_cons_zero, List.set_cons_succ])
          refine wpAnyH_ready (rs := [7, 9]) (by kernel_rfl) (by simp) ?_
          refine rg_cons rfl (by rfl) (fun K hK => ?_) ?_
          · have hcI := HCI.out _ hbw
            go_simp
            (go_at_call 34; (with_reducible refine hcI.mono ?_); (rintro e w107 ⟨A1, c1, rfl, hO1, hb7⟩))
            have hs1 := Below.size hbw
            clear hcI
            refine hK.out _ _ trivial (fun hHeld => ?_)
            clear hK K
            (try simp only [Act.put, List.setIfInBounds_toArray, List.set_cons_zero, List.set_cons_succ])
            refine rg_do 9 rfl (by kernel_rfl) (by rfl) (fun K hK => ?_)
            have hV := HB.out _ (bel_next hbw hb7)
            have hcl := hV.1.1.2.2
            go_simp
            clear hcl hV
            refine hK.out _ _ trivial (fun hHeld => ?_)
            clear hK K
            (try simp only [Act.put, List.setIfInBounds_toArray, List.set_cons_zero, List.set_cons_succ])
            refine rg_in 14 rfl (by kernel_rfl) (by kernel_rfl) (by kernel_rfl) (by rfl) (v := ?_) (fun _ _ _ h => h) hHeld (fun w hSw => ?_) ?_
            rotate_left
            · (try dsimp only at hSw); go_simp <;> (with_reducible rfl)
            (try simp only [Act.put, List.setIfInBounds_toArray, List.set_cons_zero, List.set_cons_succ])
            refine rg_in 16 rfl (by kernel_rfl) (by kernel_rfl) (by kernel_rfl) (by rfl) (v := ?_) (fun _ _ _ h => h) hHeld (fun w hSw => ?_) ?_
            rotate_left
            · (try dsimp only at hSw); go_simp <;> (with_reducible rfl)
            (try simp only [Act.put, List.setIfInBounds_toArray, List.set_cons_zero, List.set_cons_succ])
            refine rg_do 15 rfl (by kernel_rfl) (by rfl) (fun K hK => ?_)
            have hcK := HCK.out _ (bel_next hbw hb7)
            go_simp
            (go_at_call 35; (with_reducible refine hcK.mono ?_); (rintro e w115 ⟨A2, c2, rfl, hO2, hb15⟩))
            have hs2 := Below.size (bel_next hbw hb7)
            clear hcK
            refine hK.out _ _ trivial (fun hHeld => ?_)
            clear hK K
            (try simp only [Act.put, List.setIfInBounds_toArray, List.set_cons_zero, List.set_cons_succ])
            refine rg_do 17 rfl (by kernel_rfl) (by rfl) (fun K hK => ?_)
            have hV := HB.out _ (bel_next (bel_next hbw hb7) hb15)
            have hc1 := hV.1.1.2.1
            have hf1 := hV.1.2.2.1
            go_simp
            clear hc1 hf1
            refine hK.out _ _ trivial (fun hHeld => ?_)
            clear hK K
            (try simp only [Act.put, List.setIfInBounds_toArray, List.set_cons_zero, List.set_cons_succ])
            refine rg_in 18 rfl (by kernel_rfl) (by kernel_rfl) (by kernel_rfl) (by rfl) (v := ?_) (fun _ _ _ h => h) hHeld (fun w hSw => ?_) ?_
            rotate_left
            · (try dsimp only at hSw); go_simp <;> (with_reducible rfl)
            (try simp only [Act.put, List.setIfInBounds_toArray, List.set_cons_zero, List.set_cons_succ])
            refine rg_do 19 rfl (by kernel_rfl) (by rfl) (fun K hK => ?_)
            have hc2 := hV.1.1.2.2
            have hf2 := hV.1.2.2.2
            go_simp
            clear hc2 hf2
            refine hK.out _ _ trivial (fun hHeld => ?_)
            clear hK K
            (try simp only [Act.put, List.setIfInBounds_toArray, List.set_cons_zero, List.set_cons_succ])
            refine wpAnyH_done (by kernel_rfl) ?_ _
            have hb9 := (bel_next (bel_next hbw hb7) hb15)
            have hn1 := (hV.1.set1 (.slice A1 m1 c1)).set2 (.slice A2 m2 c2)
            have hn2 := (hV.2.other (k := 1) (j := w.heap.size) (by omega) (.slice A1 m1 c1)).other (k := 2) (j := w.heap.size) (by omega) (.slice A2 m2 c2)
            have ho1 := ownsRow_setCell_below (ownsRow_setCell_below (own_base (own_later hO1 hb15) (show w.heap.size + 2 ≤ _ by omega)) (a := ⟨w.heap.size, 1, none⟩) (by show w.heap.size < _; omega) (.slice A1 m1 c1)) (a := ⟨w.heap.size, 2, none⟩) (by show w.heap.size < _; omega) (.slice A2 m2 c2)
            have ho2 := ownsRow_setCell_below (ownsRow_setCell_below (own_base hO2 (show w.heap.size + 2 ≤ _ by omega)) (a := ⟨w.heap.size, 1, none⟩) (by show w.heap.size < _; omega) (.slice A1 m1 c1)) (a := ⟨w.heap.size, 2, none⟩) (by show w.heap.size < _; omega) (.slice A2 m2 c2)
            have hbz := ((hb0.trans (hb9.mono hb0.size)).setCell (p := ⟨w.heap.size, 1, none⟩) (Nat.le_refl _) (.slice A1 m1 c1)).setCell (p := ⟨w.heap.size, 2, none⟩) (Nat.le_refl _) (.slice A2 m2 c2)
            have hszz := hb9.size
            have HM := Lib.hid (show Own2 X m1 m2 w.heap.size w _ from ⟨A1, c1, A2, c2, hn1, hn2, ho1, ho2, hbz, by rw [size_set, size_set]; omega⟩)
            clear hHeld hV hn1 hn2 ho1 ho2 hbz hO1 hO2
            go_wp2_with fail
            go_meet
            case rel => exact HM.out
          refine rg_cons rfl (by rfl) (fun K hK => ?_) ?_
          · have hV := HB.out _ (Below.refl W1.heap.size W1)
            have hcl := hV.1.1.2.2
            go_simp
            clear hcl hV
            refine hK.out _ _ trivial (fun hHeld => ?_)
            clear hK K
            (try simp only [Act.put, List.setIfInBounds_toArray, List.set_cons_zero, List.set_cons_succ])
            refine rg_in 14 rfl (by kernel_rfl) (by kernel_rfl) (by kernel_rfl) (by rfl) (v := ?_) (fun _ _ _ h => h) hHeld (fun w hSw => ?_) ?_
            rotate_left
            · (try dsimp only at hSw); go_simp <;> (with_reducible rfl)
            (try simp only [Act.put, List.setIfInBounds_toArray, List.set_cons_zero, List.set_cons_succ])
            refine rg_do 7 rfl (by kernel_rfl) (by rfl) (fun K hK => ?_)
            have hcI := HCI.out _ hbw
            go_simp
            (go_at_call 34; (with_reducible refine hcI.mono ?_); (rintro e w107 ⟨A1, c1, rfl, hO1, hb7⟩))
            have hs1 := Below.size hbw
            clear hcI
            refine hK.out _ _ trivial (fun hHeld => ?_)
            clear hK K
            (try simp only [Act.put, List.setIfInBounds_toArray, List.set_cons_zero, List.set_cons_succ])
            refine rg_in 16 rfl (by kernel_rfl) (by kernel_rfl) (by kernel_rfl) (by rfl) (v := ?_) (fun _ _ _ h => h) hHeld (fun w hSw => ?_) ?_
            rotate_left
            · (try dsimp only at hSw); go_simp <;> (with_reducible rfl)
            (try simp only [Act.put, List.setIfInBounds_toArray, List.set_cons_zero, List.set_cons_succ])
            refine rg_do 15 rfl (by kernel_rfl) (by rfl) (fun K hK => ?_)
            have hcK := HCK.out _ (bel_next hbw hb7)
            go_simp
            (go_at_call 35; (with_reducible refine hcK.mono ?_); (rintro e w115 ⟨A2, c2, rfl, hO2, hb15⟩))
            have hs2 := Below.size (bel_next hbw hb7)
            clear hcK
            refine hK.out _ _ trivial (fun hHeld => ?_)
            clear hK K
            (try simp only [Act.put, List.setIfInBounds_toArray, List.set_cons_zero, List.set_cons_succ])
            refine rg_do 17 rfl (by kernel_rfl) (by rfl) (fun K hK => ?_)
            have hV := HB.out _ (bel_next (bel_next hbw hb7) hb15)
            have hc1 := hV.1.1.2.1
            have hf1 := hV.1.2.2.1
            go_simp
            clear hc1 hf1
            refine hK.out _ _ trivial (fun hHeld => ?_)
            clear hK K
            (try simp only [Act.put, List.setIfInBounds_toArray, List.set_cons_zero, List.set_cons_succ])
            refine rg_in 18 rfl (by kernel_rfl) (by kernel_rfl) (by kernel_rfl) (by rfl) (v := ?_) (fun _ _ _ h => h) hHeld (fun w hSw => ?_) ?_
            rotate_left
            · (try dsimp only at hSw); go_simp <;> (with_reducible rfl)
            (try simp only [Act.put, List.setIfInBounds_toArray, List.set_cons_zero, List.set_cons_succ])
            refine rg_do 19 rfl (by kernel_rfl) (by rfl) (fun K hK => ?_)
            have hc2 := hV.1.1.2.2
            have hf2 := hV.1.2.2.2
            go_simp
            clear hc2 hf2
            refine hK.out _ _ trivial (fun hHeld => ?_)
            clear hK K
            (try simp only [Act.put, List.setIfInBounds_toArray, List.set_cons_zero, List.set_cons_succ])
            refine wpAnyH_done (by kernel_rfl) ?_ _
            have hb9 := (bel_next (bel_next hbw hb7) hb15)
            have hn1 := (hV.1.set1 (.slice A1 m1 c1)).set2 (.slice A2 m2 c2)
            have hn2 := (hV.2.other (k := 1) (j := w.heap.size) (by omega) (.slice A1 m1 c1)).other (k := 2) (j := w.heap.size) (by omega) (.slice A2 m2 c2)
            have ho1 := ownsRow_setCell_below (ownsRow_setCell_below (own_base (own_later hO1 hb15) (show w.heap.size + 2 ≤ _ by omega)) (a := ⟨w.heap.size, 1, none⟩) (by show w.heap.size < _; omega) (.slice A1 m1 c1)) (a := ⟨w.heap.size, 2, none⟩) (by show w.heap.size < _; omega) (.slice A2 m2 c2)
            have ho2 := ownsRow_setCell_below (ownsRow_setCell_below (own_base hO2 (show w.heap.size + 2 ≤ _ by omega)) (a := ⟨w.heap.size, 1, none⟩) (by show w.heap.size < _; omega) (.slice A1 m1 c1)) (a := ⟨w.heap.size, 2, none⟩) (by show w.heap.size < _; omega) (.slice A2 m2 c2)
            have hbz := ((hb0.trans (hb9.mono hb0.size)).setCell (p := ⟨w.heap.size, 1, none⟩) (Nat.le_refl _) (.slice A1 m1 c1)).setCell (p := ⟨w.heap.size, 2, none⟩) (Nat.le_refl _) (.slice A2 m2 c2)
            have hszz := hb9.size
            have HM := Lib.hid (show Own2 X m1 m2 w.heap.size w _ from ⟨A1, c1, A2, c2, hn1, hn2, ho1, ho2, hbz, by rw [size_set, size_set]; omega⟩)
            clear hHeld hV hn1 hn2 ho1 ho2 hbz hO1 hO2
            go_wp2_with fail
            go_meet
            case rel => exact HM.out
          exact AllReadyH.nil
        refine rg_cons rfl (by rfl) (fun K hK => ?_) ?_
        · have hV := HB.out _ (Below.refl W1.heap.size W1)
          have hcl := hV.1.1.2.2
          go_simp
          clear hcl hV
          refine hK.out _ _ trivial (fun hHeld => ?_)
          clear hK K
          (try simp only [Act.put, List.setIfInBounds_toArray, List.set_cons_zero, List.set_cons_succ])
          refine rg_in 14 rfl (by kernel_rfl) (by kernel_rfl) (by kernel_rfl) (by rfl) (v := ?_) (fun _ _ _ h => h) hHeld (fun w hSw => ?_) ?_
          rotate_left
          · (try dsimp only at hSw); go_simp <;> (with_reducible rfl)
          (try simp only [Act.put, List.setIfInBounds_toArray, List.set_cons_zero, List.set_cons_succ])
          refine rg_do 3 rfl (by kernel_rfl) (by rfl) (fun K hK => ?_)
          have hV := HB.out _ (Below.refl W1.heap.size W1)
          have hcl := hV.1.1.2.1
          go_simp
          clear hcl hV
          refine hK.out _ _ trivial (fun hHeld => ?_)
          clear hK K
          (try simp only [Act.put, List.setIfInBounds_toArray, List.set_cons_zero, List.set_cons_succ])
          refine rg_in 4 rfl (by kernel_rfl) (by kernel_rfl) (by kernel_rfl) (by rfl) (v := ?_) (fun _ _ _ h => h) hHeld (fun w hSw => ?_) ?_
          rotate_left
          · (try dsimp only at hSw); go_simp <;> (with_reducible rfl)
          (try simp only [Act.put, List.setIfInBounds_toArray, List.set_cons_zero, List.set_cons_succ])
          refine rg_in 5 rfl (by kernel_rfl) (by kernel_rfl) (by kernel_rfl) (by rfl) (v := ?_) (fun _ _ _ h => h) hHeld (fun w hSw => ?_) ?_
          rotate_left
          · (try dsimp only at hSw); go_simp <;> (with_reducible rfl)
          (try simp only [Act.put, List.setIfInBounds_toArray, List.set_cons_zero, List.set_cons_succ])
          refine rg_in 6 rfl (by kernel_rfl) (by kernel_rfl) (by kernel_rfl) (by rfl) (v := ?_) (fun _ _ _ h => h) hHeld (fun w hSw => ?_) ?_
          rotate_left
          · (try dsimp only at hSw); go_simp <;> (with_reducible rfl)
          (try simp only [Act.put, List.setIfInBounds_toArray, List.set_cons_zero, List.set_cons_succ])
          refine rg_do 7 rfl (by kernel_rfl) (by rfl) (fun K hK => ?_)
          have hcI := HCI.out _ hbw
          go_simp
          (go_at_call 34; (with_reducible refine hcI.mono ?_); (rintro e w107 ⟨A1, c1, rfl, hO1, hb7⟩))
          have hs1 := Below.size hbw
          clear hcI
          refine hK.out _ _ trivial (fun hHeld => ?_)
          clear hK K
          (try simp only [Act.put, List.setIfInBounds_toArray, List.set_cons_zero, List.set_cons_succ])
          refine rg_in 16 rfl (by kernel_rfl) (by kernel_rfl) (by kernel_rfl) (by rfl) (v := ?_) (fun _ _ _ h => h) hHeld (fun w hSw => ?_) ?_
          rotate_left
          · (try dsimp only at hSw); go_simp <;> (with_reducible rfl)
          (try simp only [Act.put, List.setIfInBounds_toArray, List.set_cons_zero, List.set_cons_succ])
          refine rg_do 15 rfl (by kernel_rfl) (by rfl) (fun K hK => ?_)
          have hcK := HCK.out _ (bel_next hbw hb7)
          go_simp
          (go_at_call 35; (with_reducible refine hcK.mono ?_); (rintro e w115 ⟨A2, c2, rfl, hO2, hb15⟩))
          have hs2 := Below.size (bel_next hbw hb7)
          clear hcK
          refine hK.out _ _ trivial (fun hHeld => ?_)
          clear hK K
          (try simp only [Act.put, List.setIfInBounds_toArray, List.set_cons_zero, List.set_cons_succ])
          refine rg_do 17 rfl (by kernel_rfl) (by rfl) (fun K hK => ?_)
          have hV := HB.out _ (bel_next (bel_next hbw hb7) hb15)
          have hc1 := hV.1.1.2.1
          have hf1 := hV.1.2.2.1
          go_simp
          clear hc1 hf1
          refine hK.out _ _ trivial (fun hHeld => ?_)
          clear hK K
          (try simp only [Act.put, List.setIfInBounds_toArray, List.set_cons_zero, List.set_cons_succ])
          refine rg_in 18 rfl (by kernel_rfl) (by kernel_rfl) (by kernel_rfl) (by rfl) (v := ?_) (fun _ _ _ h => h) hHeld (fun w hSw => ?_) ?_
          rotate_left
          · (try dsimp only at hSw); go_simp <;> (with_reducible rfl)
          (try simp only [Act.put, List.setIfInBounds_toArray, List.set_cons_zero, List.set_cons_succ])
          refine rg_do 19 rfl (by kernel_rfl) (by rfl) (fun K hK => ?_)
          have hc2 := hV.1.1.2.2
          have hf2 := hV.1.2.2.2
          go_simp
          clear hc2 hf2
          refine hK.out _ _ trivial (fun hHeld => ?_)
          clear hK K
          (try simp only [Act.put, List.setIfInBounds_toArray, List.set_cons_zero, List.set_cons_succ])
          refine wpAnyH_done (by kernel_rfl) ?_ _
          have hb9 := (bel_next (bel_next hbw hb7) hb15)
          have hn1 := (hV.1.set1 (.slice A1 m1 c1)).set2 (.slice A2 m2 c2)
          have hn2 := (hV.2.other (k := 1) (j := w.heap.size) (by omega) (.slice A1 m1 c1)).other (k := 2) (j := w.heap.size) (by omega) (.slice A2 m2 c2)
          have ho1 := ownsRow_setCell_below (ownsRow_setCell_below (own_base (own_later hO1 hb15) (show w.heap.size + 2 ≤ _ by omega)) (a := ⟨w.heap.size, 1, none⟩) (by show w.heap.size < _; omega) (.slice A1 m1 c1)) (a := ⟨w.heap.size, 2, none⟩) (by show w.heap.size < _; omega) (.slice A2 m2 c2)
          have ho2 := ownsRow_setCell_below (ownsRow_setCell_below (own_base hO2 (show w.heap.size + 2 ≤ _ by omega)) (a := ⟨w.heap.size, 1, none⟩) (by show w.heap.size < _; omega) (.slice A1 m1 c1)) (a := ⟨w.heap.size, 2, none⟩) (by show w.heap.size < _; omega) (.slice A2 m2 c2)
          have hbz := ((hb0.trans (hb9.mono hb0.size)).setCell (p := ⟨w.heap.size, 1, none⟩) (Nat.le_refl _) (.slice A1 m1 c1)).setCell (p := ⟨w.heap.size, 2, none⟩) (Nat.le_refl _) (.slice A2 m2 c2)
          have hszz := hb9.size
          have HM := Lib.hid (show Own2 X m1 m2 w.heap.size w _ from ⟨A1, c1, A2, c2, hn1, hn2, ho1, ho2, hbz, by rw [size_set, size_set]; omega⟩)
          clear hHeld hV hn1 hn2 ho1 ho2 hbz hO1 hO2
          go_wp2_with fail
          go_meet
          case rel => exact HM.out
        exact AllReadyH.nil
      refine rg_cons rfl (by rfl) (fun K hK => ?_) ?_
      · have hV := HB.out _ (Below.refl W1.heap.size W1)
        have hcl := hV.1.1.2.1
        go_simp
        clear hcl hV
        refine hK.out _ _ trivial (fun hHeld => ?_)
        clear hK K
        (try simp only [Act.put, List.setIfInBounds_toArray, List.set_cons_zero, List.set_cons_succ])
        refine rg_in 4 rfl (by kernel_rfl) (by kernel_rfl) (by kernel_rfl) (by rfl) (v := ?_) (fun _ _ _ h => h) hHeld (fun w hSw => ?_) ?_
        rotate_left
        · (try dsimp only at hSw); go_simp <;> (with_reducible rfl)
        (try simp only [Act.put, List.setIfInBounds_toArray, List.set_cons_zero, List.set_cons_succ])
        refine rg_in 5 rfl (by kernel_rfl) (by kernel_rfl) (by kernel_rfl) (by rfl) (v := ?_) (fun _ _ _ h => h) hHeld (fun w hSw => ?_) ?_
        rotate_left
        · (try dsimp only at hSw); go_simp <;> (with_reducible rfl)
        (try simp only [Act.put, List.setIfInBounds_toArray, List.set_cons_zero, List.set_cons_succ])
        refine wpAnyH_ready (rs := [1, 9]) (by kernel_rfl) (by simp) ?_
        refine rg_cons rfl (by rfl) (fun K hK => ?_) ?_
        · have hV := HB.out _ (Below.refl W1.heap.size W1)
          have hcl := hV.1.1.2.1
          go_simp
          clear hcl hV
          refine hK.out _ _ trivial (fun hHeld => ?_)
          clear hK K
          (try simp only [Act.put, List.setIfInBounds_toArray, List.set_cons_zero, List.set_cons_succ])
          refine rg_in 6 rfl (by kernel_rfl) (by kernel_rfl) (by kernel_rfl) (by rfl) (v := ?_) (fun _ _ _ h => h) hHeld (fun w hSw => ?_) ?_
          rotate_left
          · (try dsimp only at hSw); go_simp <;> (with_reducible rfl)
          (try simp only [Act.put, List.setIfInBounds_toArray, List.set_cons_zero, List.set_cons_succ])
          refine wpAnyH_ready (rs := [7, 9]) (by kernel_rfl) (by simp) ?_
          refine rg_cons rfl (by rfl) (fun K hK => ?_) ?_
          · have hcI := HCI.out _ hbw
            go_simp
            (go_at_call 34; (with_reducible refine hcI.mono ?_); (rintro e w107 ⟨A1, c1, rfl, hO1, hb7⟩))
            have hs1 := Below.size hbw
            clear hcI
            refine hK.out _ _ trivial (fun hHeld => ?_)
            clear hK K
            (try simp only [Act.put, List.setIfInBounds_toArray, List.set_cons_zero, List.set_cons_succ])
            refine rg_do 9 rfl (by kernel_rfl) (by rfl) (fun K hK => ?_)
            have hV := HB.out _ (bel_next hbw hb7)
            have hcl := hV.1.1.2.2
            go_simp
            clear hcl hV
            refine hK.out _ _ trivial (fun hHeld => ?_)
            clear hK K
            (try simp only [Act.put, List.setIfInBounds_toArray, List.set_cons_zero, List.set_cons_succ])
            refine rg_in 14 rfl (by kernel_rfl) (by kernel_rfl) (by kernel_rfl) (by rfl) (v := ?_) (fun _ _ _ h => h) hHeld (fun w hSw => ?_) ?_
            rotate_left
            · (try dsimp only at hSw); go_simp <;> (with_reducible rfl)
            (try simp only [Act.put, List.setIfInBounds_toArray, List.set_cons_zero, List.set_cons_succ])
            refine rg_in 16 rfl (by kernel_rfl) (by kernel_rfl) (by kernel_rfl) (by rfl) (v := ?_) (fun _ _ _ h => h) hHeld (fun w hSw => ?_) ?_
            rotate_left
            · (try dsimp only at hSw); go_simp <;> (with_reducible rfl)
            (try simp only [Act.put, List.setIfInBounds_toArray, List.set_cons_zero, List.set_cons_succ])
            refine rg_do 15 rfl (by kernel_rfl) (by rfl) (fun K hK => ?_)
            have hcK := HCK.out _ (bel_next hbw hb7)
            go_simp
            (go_at_call 35; (with_reducible refine hcK.mono ?_); (rintro e w115 ⟨A2, c2, rfl, hO2, hb15⟩))
            have hs2 := Below.size (bel_next hbw hb7)
            clear hcK
            refine hK.out _ _ trivial (fun hHeld => ?_)
            clear hK K
            (try simp only [Act.put, List.setIfInBounds_toArray, List.set_cons_zero, List.set_cons_succ])
            refine rg_do 17 rfl (by kernel_rfl) (by rfl) (fun K hK => ?_)
            have hV := HB.out _ (bel_next (bel_next hbw hb7) hb15)
            have hc1 := hV.1.1.2.1
            have hf1 := hV.1.2.2.1
            go_simp
            clear hc1 hf1
            refine hK.out _ _ trivial (fun hHeld => ?_)
            clear hK K
            (try simp only [Act.put, List.setIfInBounds_toArray, List.set_cons_zero, List.set_cons_succ])
            refine rg_in 18 rfl (by kernel_rfl) (by kernel_rfl) (by kernel_rfl) (by rfl) (v := ?_) (fun _ _ _ h => h) hHeld (fun w hSw => ?_) ?_
            rotate_left
            · (try dsimp only at hSw); go_simp <;> (with_reducible rfl)
            (try simp only [Act.put, List.setIfInBounds_toArray, List.set_cons_zero, List.set_cons_succ])
            refine rg_do 19 rfl (by kernel_rfl) (by rfl) (fun K hK => ?_)
            have hc2 := hV.1.1.2.2
            have hf2 := hV.1.2.2.2
            go_simp
            clear hc2 hf2
            refine hK.out _ _ trivial (fun hHeld => ?_)
            clear hK K
            (try simp only [Act.put, List.setIfInBounds_toArray, List.set_cons_zero, List.set_cons_succ])
            refine wpAnyH_done (by kernel_rfl) ?_ _
            have hb9 := (bel_next (bel_next hbw hb7) hb15)
            have hn1 := (hV.1.set1 (.slice A1 m1 c1)).set2 (.slice A2 m2 c2)
            have hn2 := (hV.2.other (k := 1) (j := w.heap.size) (by omega) (.slice A1 m1 c1)).other (k := 2) (j := w.heap.size) (by omega) (.slice A2 m2 c2)
            have ho1 := ownsRow_setCell_below (ownsRow_setCell_below (own_base (own_later hO1 hb15) (show w.heap.size + 2 ≤ _ by omega)) (a := ⟨w.heap.size, 1, none⟩) (by show w.heap.size < _; omega) (.slice A1 m1 c1)) (a := ⟨w.heap.size, 2, none⟩) (by show w.heap.size < _; omega) (.slice A2 m2 c2)
            have ho2 := ownsRow_setCell_below (ownsRow_setCell_below (own_base hO2 (show w.heap.size + 2 ≤ _ by omega)) (a := ⟨w.heap.size, 1, none⟩) (by show w.heap.size < _; omega) (.slice A1 m1 c1)) (a := ⟨w.heap.size, 2, none⟩) (by show w.heap.size < _; omega) (.slice A2 m2 c2)
            have hbz := ((hb0.trans (hb9.mono hb0.size)).setCell (p := ⟨w.heap.size, 1, none⟩) (Nat.le_refl _) (.slice A1 m1 c1)).setCell (p := ⟨w.heap.size, 2, none⟩) (Nat.le_refl _) (.slice A2 m2 c2)
            have hszz := hb9.size
            have HM := Lib.hid (show Own2 X m1 m2 w.heap.size w _ from ⟨A1, c1, A2, c2, hn1, hn2, ho1, ho2, hbz, by rw [size_set, size_set]; omega⟩)
            clear hHeld hV hn1 hn2 ho1 ho2 hbz hO1 hO2
            go_wp2_with fail
            go_meet
            case rel => exact HM.out
          refine rg_cons rfl (by rfl) (fun K hK => ?_) ?_
          · have hV := HB.out _ (Below.refl W1.heap.size W1)
            have hcl := hV.1.1.2.2
            go_simp
            clear hcl hV
            refine hK.out _ _ trivial (fun hHeld => ?_)
            clear hK K
            (try simp only [Act.put, List.setIfInBounds_toArray, List.set_cons_zero, List.set_cons_succ])
            refine rg_in 14 rfl (by kernel_rfl) (by kernel_rfl) (by kernel_rfl) (by rfl) (v := ?_) (fun _ _ _ h => h) hHeld (fun w hSw => ?_) ?_
            rotate_left
            · (try dsimp only at hSw); go_simp <;> (with_reducible rfl)
            (try simp only [Act.put, List.setIfInBounds_toArray, List.set_cons_zero, List.set_cons_succ])
            refine rg_do 7 rfl (by kernel_rfl) (by rfl) (fun K hK => ?_)
            have hcI := HCI.out _ hbw
            go_simp
            (go_at_call 34; (with_reducible refine hcI.mono ?_); (rintro e w107 ⟨A1, c1, rfl, hO1, hb7⟩))
            have hs1 := Below.size hbw
            clear hcI
            refine hK.out _ _ trivial (fun hHeld => ?_)
            clear hK K
            (try simp only [Act.put, List.setIfInBounds_toArray, List.set_cons_zero, List.set_cons_succ])
            refine rg_in 16 rfl (by kernel_rfl) (by kernel_rfl) (by kernel_rfl) (by rfl) (v := ?_) (fun _ _ _ h => h) hHeld (fun w hSw => ?_) ?_
            rotate_left
            · (try dsimp only at hSw); go_simp <;> (with_reducible rfl)
            (try simp only [Act.put, List.setIfInBounds_toArray, List.set_cons_zero, List.set_cons_succ])
            refine rg_do 15 rfl (by kernel_rfl) (by rfl) (fun K hK => ?_)
            have hcK := HCK.out _ (bel_next hbw hb7)
            go_simp
            (go_at_call 35; (with_reducible refine hcK.mono ?_); (rintro e w115 ⟨A2, c2, rfl, hO2, hb15⟩))
            have hs2 := Below.size (bel_next hbw hb7)
            clear hcK
            refine hK.out _ _ trivial (fun hHeld => ?_)
            clear hK K
            (try simp only [Act.put, List.setIfInBounds_toArray, List.set_cons_zero, List.set_cons_succ])
            refine rg_do 17 rfl (by kernel_rfl) (by rfl) (fun K hK => ?_)
            have hV := HB.out _ (bel_next (bel_next hbw hb7) hb15)
            have hc1 := hV.1.1.2.1
            have hf1 := hV.1.2.2.1
            go_simp
            clear hc1 hf1
            refine hK.out _ _ trivial (fun hHeld => ?_)
            clear hK K
            (try simp only [Act.put, List.setIfInBounds_toArray, List.set_cons_zero, List.set_cons_succ])
            refine rg_in 18 rfl (by kernel_rfl) (by kernel_rfl) (by kernel_rfl) (by rfl) (v := ?_) (fun _ _ _ h => h) hHeld (fun w hSw => ?_) ?_
            rotate_left
            · (try dsimp only at hSw); go_simp <;> (with_reducible rfl)
            (try simp only [Act.put, List.setIfInBounds_toArray, List.set_cons_zero, List.set_cons_succ])
            refine rg_do 19 rfl (by kernel_rfl) (by rfl) (fun K hK => ?_)
            have hc2 := hV.1.1.2.2
            have hf2 := hV.1.2.2.2
            go_simp
            clear hc2 hf2
            refine hK.out _ _ trivial (fun hHeld => ?_)
            clear hK K
            (try simp only [Act.put, List.setIfInBounds_toArray, List.set_cons_zero, List.set_cons_succ])
            refine wpAnyH_done (by kernel_rfl) ?_ _
            have hb9 := (bel_next (bel_next hbw hb7) hb15)
            have hn1 := (hV.1.set1 (.slice A1 m1 c1)).set2 (.slice A2 m2 c2)
            have hn2 := (hV.2.other (k := 1) (j := w.heap.size) (by omega) (.slice A1 m1 c1)).other (k := 2) (j := w.heap.size) (by omega) (.slice A2 m2 c2)
            have ho1 := ownsRow_setCell_below (ownsRow_setCell_below (own_base (own_later hO1 hb15) (show w.heap.size + 2 ≤ _ by omega)) (a := ⟨w.heap.size, 1, none⟩) (by show w.heap.size < _; omega) (.slice A1 m1 c1)) (a := ⟨w.heap.size, 2, none⟩) (by show w.heap.size < _; omega) (.slice A2 m2 c2)
            have ho2 := ownsRow_setCell_below (ownsRow_setCell_below (own_base hO2 (show w.heap.size + 2 ≤ _ by omega)) (a := ⟨w.heap.size, 1, none⟩) (by show w.heap.size < _; omega) (.slice A1 m1 c1)) (a := ⟨w.heap.size, 2, none⟩) (by show w.heap.size < _; omega) (.slice A2 m2 c2)
            have hbz := ((hb0.trans (hb9.mono hb0.size)).setCell (p := ⟨w.heap.size, 1, none⟩) (Nat.le_refl _) (.slice A1 m1 c1)).setCell (p := ⟨w.heap.size, 2, none⟩) (Nat.le_refl _) (.slice A2 m2 c2)
            have hszz := hb9.size
            have HM := Lib.hid (show Own2 X m1 m2 w.heap.size w _ from ⟨A1, c1, A2, c2, hn1, hn2, ho1, ho2, hbz, by rw [size_set, size_set]; omega⟩)
            clear hHeld hV hn1 hn2 ho1 ho2 hbz hO1 hO2
            go_wp2_with fail
            go_meet
            case rel => exact HM.out
          exact AllReadyH.nil
        refine rg_cons rfl (by rfl) (fun K hK => ?_) ?_
        · have hV := HB.out _ (Below.refl W1.heap.size W1)
          have hcl := hV.1.1.2.2
          go_simp
          clear hcl hV
          refine hK.out _ _ trivial (fun hHeld => ?_)
          clear hK K
          (try simp only [Act.put, List.setIfInBounds_toArray, List.set_cons_zero, List.set_cons_succ])
          refine rg_in 14 rfl (by kernel_rfl) (by kernel_rfl) (by kernel_rfl) (by rfl) (v := ?_) (fun _ _ _ h => h) hHeld (fun w hSw => ?_) ?_
          rotate_left
          · (try dsimp only at hSw); go_simp <;> (with_reducible rfl)
          (try simp only [Act.put, List.setIfInBounds_toArray, List.set_cons_zero, List.set_cons_succ])
          refine rg_do 1 rfl (by kernel_rfl) (by rfl) (fun K hK => ?_)
          have hV := HB.out _ (Below.refl W1.heap.size W1)
          have hcl := hV.1.1.2.1
          go_simp
          clear hcl hV
          refine hK.out _ _ trivial (fun hHeld => ?_)
          clear hK K
          (try simp only [Act.put, List.setIfInBounds_toArray, List.set_cons_zero, List.set_cons_succ])
          refine rg_in 6 rfl (by kernel_rfl) (by kernel_rfl) (by kernel_rfl) (by rfl) (v := ?_) (fun _ _ _ h => h) hHeld (fun w hSw => ?_) ?_
          rotate_left
          · (try dsimp only at hSw); go_simp <;> (with_reducible rfl)
          (try simp only [Act.put, List.setIfInBounds_toArray, List.set_cons_zero, List.set_cons_succ])
          refine rg_do 7 rfl (by kernel_rfl) (by rfl) (fun K hK => ?_)
          have hcI := HCI.out _ hbw
          go_simp
          (go_at_call 34; (with_reducible refine hcI.mono ?_); (rintro e w107 ⟨A1, c1, rfl, hO1, hb7⟩))
          have hs1 := Below.size hbw
          clear hcI
          refine hK.out _ _ trivial (fun hHeld => ?_)
          clear hK K
          (try simp only [Act.put, List.setIfInBounds_toArray, List.set_cons_zero, List.set_cons_succ])
          refine rg_in 16 rfl (by kernel_rfl) (by kernel_rfl) (by kernel_rfl) (by rfl) (v := ?_) (fun _ _ _ h => h) hHeld (fun w hSw => ?_) ?_
          rotate_left
          · (try dsimp only at hSw); go_simp <;> (with_reducible rfl)
          (try simp only [Act.put, List.setIfInBounds_toArray, List.set_cons_zero, List.set_cons_succ])
          refine rg_do 15 rfl (by kernel_rfl) (by rfl) (fun K hK => ?_)
          have hcK := HCK.out _ (bel_next hbw hb7)
          go_simp
          (go_at_call 35; (with_reducible refine hcK.mono ?_); (rintro e w115 ⟨A2, c2, rfl, hO2, hb15⟩))
          have hs2 := Below.size (bel_next hbw hb7)
          clear hcK
          refine hK.out _ _ trivial (fun hHeld => ?_)
          clear hK K
          (try simp only [Act.put, List.setIfInBounds_toArray, List.set_cons_zero, List.set_cons_succ])
          refine rg_do 17 rfl (by kernel_rfl) (by rfl) (fun K hK => ?_)
          have hV := HB.out _ (bel_next (bel_next hbw hb7) hb15)
          have hc1 := hV.1.1.2.1
          have hf1 := hV.1.2.2.1
          go_simp
          clear hc1 hf1
          refine hK.out _ _ trivial (fun hHeld => ?_)
          clear hK K
          (try simp only [Act.put, List.setIfInBounds_toArray, List.set_cons_zero, List.set_cons_succ])
          refine rg_in 18 rfl (by kernel_rfl) (by kernel_rfl) (by kernel_rfl) (by rfl) (v := ?_) (fun _ _ _ h => h) hHeld (fun w hSw => ?_) ?_
          rotate_left
          · (try dsimp only at hSw); go_simp <;> (with_reducible rfl)
          (try simp only [Act.put, List.setIfInBounds_toArray, List.set_cons_zero, List.set_cons_succ])
          refine rg_do 19 rfl (by kernel_rfl) (by rfl) (fun K hK => ?_)
          have hc2 := hV.1.1.2.2
          have hf2 := hV.1.2.2.2
          go_simp
          clear hc2 hf2
          refine hK.out _ _ trivial (fun hHeld => ?_)
          clear hK K
          (try simp only [Act.put, List.setIfInBounds_toArray, List.set_cons_zero, List.set_cons_succ])
          refine wpAnyH_done (by kernel_rfl) ?_ _
          have hb9 := (bel_next (bel_next hbw hb7) hb15)
          have hn1 := (hV.1.set1 (.slice A1 m1 c1)).set2 (.slice A2 m2 c2)
          have hn2 := (hV.2.other (k := 1) (j := w.heap.size) (by omega) (.slice A1 m1 c1)).other (k := 2) (j := w.heap.size) (by omega) (.slice A2 m2 c2)
          have ho1 := ownsRow_setCell_below (ownsRow_setCell_below (own_base (own_later hO1 hb15) (show w.heap.size + 2 ≤ _ by omega)) (a := ⟨w.heap.size, 1, none⟩) (by show w.heap.size < _; omega) (.slice A1 m1 c1)) (a := ⟨w.heap.size, 2, none⟩) (by show w.heap.size < _; omega) (.slice A2 m2 c2)
          have ho2 := ownsRow_setCell_below (ownsRow_setCell_below (own_base hO2 (show w.heap.size + 2 ≤ _ by omega)) (a := ⟨w.heap.size, 1, none⟩) (by show w.heap.size < _; omega) (.slice A1 m1 c1)) (a := ⟨w.heap.size, 2, none⟩) (by show w.heap.size < _; omega) (.slice A2 m2 c2)
          have hbz := ((hb0.trans (hb9.mono hb0.size)).setCell (p := ⟨w.heap.size, 1, none⟩) (Nat.le_refl _) (.slice A1 m1 c1)).setCell (p := ⟨w.heap.size, 2, none⟩) (Nat.le_refl _) (.slice A2 m2 c2)
          have hszz := hb9.size
          have HM := Lib.hid (show Own2 X m1 m2 w.heap.size w _ from ⟨A1, c1, A2, c2, hn1, hn2, ho1, ho2, hbz, by rw [size_set, size_set]; omega⟩)
          clear hHeld hV hn1 hn2 ho1 ho2 hbz hO1 hO2
          go_wp2_with fail
          go_meet
          case rel => exact HM.out
        exact AllReadyH.nil
      refine rg_cons rfl (by rfl) (fun K hK => ?_) ?_
      · have hV := HB.out _ (Below.refl W1.heap.size W1)
        have hcl := hV.1.1.2.2
        go_simp
        clear hcl hV
        refine hK.out _ _ trivial (fun hHeld => ?_)
        clear hK K
        (try simp only [Act.put, List.setIfInBounds_toArray, List.set_cons_zero, List.set_cons_succ])
        refine rg_in 14 rfl (by kernel_rfl) (by kernel_rfl) (by kernel_rfl) (by rfl) (v := ?_) (fun _ _ _ h => h) hHeld (fun w hSw => ?_) ?_
        rotate_left
        · (try dsimp only at hSw); go_simp <;> (with_reducible rfl)
        (try simp only [Act.put, List.setIfInBounds_toArray, List.set_cons_zero, List.set_cons_succ])
        refine wpAnyH_ready (rs := [1, 3]) (by kernel_rfl) (by simp) ?_
        refine rg_cons rfl (by rfl) (fun K hK => ?_) ?_
        · have hV := HB.out _ (Below.refl W1.heap.size W1)
          have hcl := hV.1.1.2.1
          go_simp
          clear hcl hV
          refine hK.out _ _ trivial (fun hHeld => ?_)
          clear hK K
          (try simp only [Act.put, List.setIfInBounds_toArray, List.set_cons_zero, List.set_cons_succ])
          refine rg_do 3 rfl (by kernel_rfl) (by rfl) (fun K hK => ?_)
          have hV := HB.out _ (Below.refl W1.heap.size W1)
          have hcl := hV.1.1.2.1
          go_simp
          clear hcl hV
          refine hK.out _ _ trivial (fun hHeld => ?_)
          clear hK K
          (try simp only [Act.put, List.setIfInBounds_toArray, List.set_cons_zero, List.set_cons_succ])
          refine rg_in 4 rfl (by kernel_rfl) (by kernel_rfl) (by kernel_rfl) (by rfl) (v := ?_) (fun _ _ _ h => h) hHeld (fun w hSw => ?_) ?_
          rotate_left
          · (try dsimp only at hSw); go_simp <;> (with_reducible rfl)
          (try simp only [Act.put, List.setIfInBounds_toArray, List.set_cons_zero, List.set_cons_succ])
          refine rg_in 5 rfl (by kernel_rfl) (by kernel_rfl) (by kernel_rfl) (by rfl) (v := ?_) (fun _ _ _ h => h) hHeld (fun w hSw => ?_) ?_
          rotate_left
          · (try dsimp only at hSw); go_simp <;> (with_reducible rfl)
          (try simp only [Act.put, List.setIfInBounds_toArray, List.set_cons_zero, List.set_cons_succ])
          refine rg_in 6 rfl (by kernel_rfl) (by kernel_rfl) (by kernel_rfl) (by rfl) (v := ?_) (fun _ _ _ h => h) hHeld (fun w hSw => ?_) ?_
          rotate_left
          · (try dsimp only at hSw); go_simp <;> (with_reducible rfl)
          (try simp only [Act.put, List.setIfInBounds_toArray, List.set_cons_zero, List.set_cons_succ])
          refine rg_do 7 rfl (by kernel_rfl) (by rfl) (fun K hK => ?_)
          have hcI := HCI.out _ hbw
          go_simp
          (go_at_call 34; (with_reducible refine hcI.mono ?_); (rintro e w107 ⟨A1, c1, rfl, hO1, hb7⟩))
          have hs1 := Below.size hbw
          clear hcI
          refine hK.out _ _ trivial (fun hHeld => ?_)
          clear hK K
          (try simp only [Act.put, List.setIfInBounds_toArray, List.set_cons_zero, List.set_cons_succ])
          refine rg_in 16 rfl (by kernel_rfl) (by kernel_rfl) (by kernel_rfl) (by rfl) (v := ?_) (fun _ _ _ h => h) hHeld (fun w hSw => ?_) ?_
          rotate_left
          · (try dsimp only at hSw); go_simp <;> (with_reducible rfl)
          (try simp only [Act.put, List.setIfInBounds_toArray, List.set_cons_zero, List.set_cons_succ])
          refine rg_do 15 rfl (by kernel_rfl) (by rfl) (fun K hK => ?_)
          have hcK := HCK.out _ (bel_next hbw hb7)
          go_simp
          (go_at_call 35; (with_reducible refine hcK.mono ?_); (rintro e w115 ⟨A2, c2, rfl, hO2, hb15⟩))
          have hs2 := Below.size (bel_next hbw hb7)
          clear hcK
          refine hK.out _ _ trivial (fun hHeld => ?_)
          clear hK K
          (try simp only [Act.put, List.setIfInBounds_toArray, List.set_cons_zero, List.set_cons_succ])
          refine rg_do 17 rfl (by kernel_rfl) (by rfl) (fun K hK => ?_)
          have hV := HB.out _ (bel_next (bel_next hbw hb7) hb15)
          have hc1 := hV.1.1.2.1
          have hf1 := hV.1.2.2.1
          go_simp
          clear hc1 hf1
          refine hK.out _ _ trivial (fun hHeld => ?_)
          clear hK K
          (try simp only [Act.put, List.setIfInBounds_toArray, List.set_cons_zero, List.set_cons_succ])
          refine rg_in 18 rfl (by kernel_rfl) (by kernel_rfl) (by kernel_rfl) (by rfl) (v := ?_) (fun _ _ _ h => h) hHeld (fun w hSw => ?_) ?_
          rotate_left
          · (try dsimp only at hSw); go_simp <;> (with_reducible rfl)
          (try simp only [Act.put, List.setIfInBounds_toArray, List.set_cons_zero, List.set_cons_succ])
          refine rg_do 19 rfl (by kernel_rfl) (by rfl) (fun K hK => ?_)
          have hc2 := hV.1.1.2.2
          have hf2 := hV.1.2.2.2
          go_simp
          clear hc2 hf2
          refine hK.out _ _ trivial (fun hHeld => ?_)
          clear hK K
          (try simp only [Act.put, List.setIfInBounds_toArray, List.set_cons_zero, List.set_cons_succ])
          refine wpAnyH_done (by kernel_rfl) ?_ _
          have hb9 := (bel_next (bel_next hbw hb7) hb15)
          have hn1 := (hV.1.set1 (.slice A1 m1 c1)).set2 (.slice A2 m2 c2)
          have hn2 := (hV.2.other (k := 1) (j := w.heap.size) (by omega) (.slice A1 m1 c1)).other (k := 2) (j := w.heap.size) (by omega) (.slice A2 m2 c2)
          have ho1 := ownsRow_setCell_below (ownsRow_setCell_below (own_base (own_later hO1 hb15) (show w.heap.size + 2 ≤ _ by omega)) (a := ⟨w.heap.size, 1, none⟩) (by show w.heap.size < _; omega) (.slice A1 m1 c1)) (a := ⟨w.heap.size, 2, none⟩) (by show w.heap.size < _; omega) (.slice A2 m2 c2)
          have ho2 := ownsRow_setCell_below (ownsRow_setCell_below (own_base hO2 (show w.heap.size + 2 ≤ _ by omega)) (a := ⟨w.heap.size, 1, none⟩) (by show w.heap.size < _; omega) (.slice A1 m1 c1)) (a := ⟨w.heap.size, 2, none⟩) (by show w.heap.size < _; omega) (.slice A2 m2 c2)
          have hbz := ((hb0.trans (hb9.mono hb0.size)).setCell (p := ⟨w.heap.size, 1, none⟩) (Nat.le_refl _) (.slice A1 m1 c1)).setCell (p := ⟨w.heap.size, 2, none⟩) (Nat.le_refl _) (.slice A2 m2 c2)
          have hszz := hb9.size
          have HM := Lib.hid (show Own2 X m1 m2 w.heap.size w _ from ⟨A1, c1, A2, c2, hn1, hn2, ho1, ho2, hbz, by rw [size_set, size_set]; omega⟩)
          clear hHeld hV hn1 hn2 ho1 ho2 hbz hO1 hO2
          go_wp2_with fail
          go_meet
          case rel => exact HM.out
        refine rg_cons rfl (by rfl) (fun K hK => ?_) ?_
        · have hV := HB.out _ (Below.refl W1.heap.size W1)
          have hcl := hV.1.1.2.1
          go_simp
          clear hcl hV
          refine hK.out _ _ trivial (fun hHeld => ?_)
          clear hK K
          (try simp only [Act.put, List.setIfInBounds_toArray, List.set_cons_zero, List.set_cons_succ])
          refine rg_in 4 rfl (by kernel_rfl) (by kernel_rfl) (by kernel_rfl) (by rfl) (v := ?_) (fun _ _ _ h => h) hHeld (fun w hSw => ?_) ?_
          rotate_left
          · (try dsimp only at hSw); go_simp <;> (with_reducible rfl)
          (try simp only [Act.put, List.setIfInBounds_toArray, List.set_cons_zero, List.set_cons_succ])
          refine rg_in 5 rfl (by kernel_rfl) (by kernel_rfl) (by kernel_rfl) (by rfl) (v := ?_) (fun _ _ _ h => h) hHeld (fun w hSw => ?_) ?_
          rotate_left
          · (try dsimp only at hSw); go_simp <;> (with_reducible rfl)
          (try simp only [Act.put, List.setIfInBounds_toArray, List.set_cons_zero, List.set_cons_succ])
          refine rg_do 1 rfl (by kernel_rfl) (by rfl) (fun K hK => ?_)
          have hV := HB.out _ (Below.refl W1.heap.size W1)
          have hcl := hV.1.1.2.1
          go_simp
          clear hcl hV
          refine hK.out _ _ trivial (fun hHeld => ?_)
          clear hK K
          (try simp only [Act.put, List.setIfInBounds_toArray, List.set_cons_zero, List.set_cons_succ])
          refine rg_in 6 rfl (by kernel_rfl) (by kernel_rfl) (by kernel_rfl) (by rfl) (v := ?_) (fun _ _ _ h => h) hHeld (fun w hSw => ?_) ?_
          rotate_left
          · (try dsimp only at hSw); go_simp <;> (with_reducible rfl)
          (try simp only [Act.put, List.setIfInBounds_toArray, List.set_cons_zero, List.set_cons_succ])
          refine rg_do 7 rfl (by kernel_rfl) (by rfl) (fun K hK => ?_)
          have hcI := HCI.out _ hbw
          go_simp
          (go_at_call 34; (with_reducible refine hcI.mono ?_); (rintro e w107 ⟨A1, c1, rfl, hO1, hb7⟩))
          have hs1 := Below.size hbw
          clear hcI
          refine hK.out _ _ trivial (fun hHeld => ?_)
          clear hK K
          (try simp only [Act.put, List.setIfInBounds_toArray, List.set_cons_zero, List.set_cons_succ])
          refine rg_in 16 rfl (by kernel_rfl) (by kernel_rfl) (by kernel_rfl) (by rfl) (v := ?_) (fun _ _ _ h => h) hHeld (fun w hSw => ?_) ?_
          rotate_left
          · (try dsimp only at hSw); go_simp <;> (with_reducible rfl)
          (try simp only [Act.put, List.setIfInBounds_toArray, List.set_cons_zero, List.set_cons_succ])
          refine rg_do 15 rfl (by kernel_rfl) (by rfl) (fun K hK => ?_)
          have hcK := HCK.out _ (bel_next hbw hb7)
          go_simp
          (go_at_call 35; (with_reducible refine hcK.mono ?_); (rintro e w115 ⟨A2, c2, rfl, hO2, hb15⟩))
          have hs2 := Below.size (bel_next hbw hb7)
          clear hcK
          refine hK.out _ _ trivial (fun hHeld => ?_)
          clear hK K
          (try simp only [Act.put, List.setIfInBounds_toArray, List.set_cons_zero, List.set_cons_succ])
          refine rg_do 17 rfl (by kernel_rfl) (by rfl) (fun K hK => ?_)
          have hV := HB.out _ (bel_next (bel_next hbw hb7) hb15)
          have hc1 := hV.1.1.2.1
          have hf1 := hV.1.2.2.1
          go_simp
          clear hc1 hf1
          refine hK.out _ _ trivial (fun hHeld => ?_)
          clear hK K
          (try simp only [Act.put, List.setIfInBounds_toArray, List.set_cons_zero, List.set_cons_succ])
          refine rg_in 18 rfl (by kernel_rfl) (by kernel_rfl) (by kernel_rfl) (by rfl) (v := ?_) (fun _ _ _ h => h) hHeld (fun w hSw => ?_) ?_
          rotate_left
          · (try dsimp only at hSw); go_simp <;> (with_reducible rfl)
          (try simp only [Act.put, List.setIfInBounds_toArray, List.set_cons_zero, List.set_cons_succ])
          refine rg_do 19 rfl (by kernel_rfl) (by rfl) (fun K hK => ?_)
          have hc2 := hV.1.1.2.2
          have hf2 := hV.1.2.2.2
          go_simp
          clear hc2 hf2
          refine hK.out _ _ trivial (fun hHeld => ?_)
          clear hK K
          (try simp only [Act.put, List.setIfInBounds_toArray, List.set_cons_zero, List.set_cons_succ])
          refine wpAnyH_done (by kernel_rfl) ?_ _
          have hb9 := (bel_next (bel_next hbw hb7) hb15)
          have hn1 := (hV.1.set1 (.slice A1 m1 c1)).set2 (.slice A2 m2 c2)
          have hn2 := (hV.2.other (k := 1) (j := w.heap.size) (by omega) (.slice A1 m1 c1)).other (k := 2) (j := w.heap.size) (by omega) (.slice A2 m2 c2)
          have ho1 := ownsRow_setCell_below (ownsRow_setCell_below (own_base (own_later hO1 hb15) (show w.heap.size + 2 ≤ _ by omega)) (a := ⟨w.heap.size, 1, none⟩) (by show w.heap.size < _; omega) (.slice A1 m1 c1)) (a := ⟨w.heap.size, 2, none⟩) (by show w.heap.size < _; omega) (.slice A2 m2 c2)
          have ho2 := ownsRow_setCell_below (ownsRow_setCell_below (own_base hO2 (show w.heap.size + 2 ≤ _ by omega)) (a := ⟨w.heap.size, 1, none⟩) (by show w.heap.size < _; omega) (.slice A1 m1 c1)) (a := ⟨w.heap.size, 2, none⟩) (by show w.heap.size < _; omega) (.slice A2 m2 c2)
          have hbz := ((hb0.trans (hb9.mono hb0.size)).setCell (p := ⟨w.heap.size, 1, none⟩) (Nat.le_refl _) (.slice A1 m1 c1)).setCell (p := ⟨w.heap.size, 2, none⟩) (Nat.le_refl _) (.slice A2 m2 c2)
          have hszz := hb9.size
          have HM := Lib.hid (show Own2 X m1 m2 w.heap.size w _ from ⟨A1, c1, A2, c2, hn1, hn2, ho1, ho2, hbz, by rw [size_set, size_set]; omega⟩)
          clear hHeld hV hn1 hn2 ho1 ho2 hbz hO1 hO2
          go_wp2_with fail
          go_meet
          case rel => exact HM.out
        exact AllReadyH.nil
      exact AllReadyH.nil
    exact AllReadyH.nil
  case rest =>
    obtain ⟨A1, c1, A2, c2, hn1, hn2, ho1, ho2, hbz, hsz2⟩ := hcut
    rename World => wc
    have HR0 := Lib.hid (show RndO X A1 c1 A2 c2 m1 m2 w.heap.size w 0 wc from ⟨[], rfl, hn1, hn2, by rw [List.nil_append, List.drop_zero]; exact ho1, fun x hx => (List.not_mem_nil hx).elim, rfl, ho2, hbz, hsz2⟩)
    obtain ⟨⟨q0, q1, q2⟩, -⟩ := hn1
    clear hn2 ho1 ho2 hbz hsz2 HB HCI HCK hbw
    go_wp2_with fail
    go_loopw [29] (fun y wr => ∃ i : Nat, i ≤ m1 ∧ y = .int .i64 i ∧ Hid (RndO X A1 c1 A2 c2 m1 m2 w.heap.size w i wr)) (fun y _ => m1 - (intOf y).toNat)
    case atStart => exact ⟨0, Nat.zero_le _, rfl, HR0⟩
    case round =>
      clear q0 q1 q2 HR0
      obtain ⟨i, hi, rfl, HR⟩ := hrel
      obtain ⟨J, hJ, hn1, hn2, ho1, hoJ, hJs, ho2, hbz, hsz2⟩ := HR.out
      have hnb := hn1
      obtain ⟨⟨q0, q1, q2⟩, -⟩ := hn1
      by_cases hlt : i < m1
      · have hlt' : (i : Int) < (m1 : Int) := by omega
        obtain ⟨g, cap, hv, hgb, hgl⟩ := ho1.form (by omega)
        injection hv with hv1 hv2 hv3
        subst hv1
        subst hv3
        obtain ⟨b', off', x, hA, _, hx, x0, x1, x2, x3⟩ := it_at (Shows.own ho1) hlt
        injection hA with hA
        injection hA with hA1 hA2
        subst hA1
        subst hA2
        simp only [Nat.zero_add] at x0 x1 x2 x3
        have hix := hx
        have hxX : X.I[i]? = some x := by
          rw [List.getElem?_append_right (by omega), hJ, Nat.sub_self, List.getElem?_drop, Nat.add_zero, List.getElem?_take, if_pos hlt] at hx
          exact hx
        have HJ := Lib.hid hJ
        have HJS := Lib.hid hJs
        have hxo := HX0.out.items x (List.mem_of_getElem? hxX)
        have HXX := Lib.hid hxX
        clear hJ hJs HR hx hxX
        have hbD0 := bel_alloc (Below.refl wr.heap.size wr) (.cells #[.slice x.k.A x.k.n x.k.c, .slice x.v.A x.v.n x.v.c, .bool x.b, .int .i64 x.n] 58)
        have hblk := heap_alloc_new wr (.cells #[.slice x.k.A x.k.n x.k.c, .slice x.v.A x.v.n x.v.c, .bool x.b, .int .i64 x.n] 58)
        have HN1 := Lib.hid (hnb.later hbD0)
        have HN2 := Lib.hid (hn2.later hbD0)
        have HO1 := Lib.hid (own_later ho1 hbD0)
        have HO2 := Lib.hid (own_later ho2 hbD0)
        have HOJ := Lib.hid (hoJ.later hbD0)
        have HBZ := Lib.hid (hbz.trans (hbD0.mono (by omega)))
        have hs5 := hbD0.size
        clear hnb hn2 ho1 ho2 hoJ hbz
        go_upto_region 6 with fail
        clear x0 x1 x2 x3 q0 q1 q2
        obtain ⟨g5, hg5⟩ : ∃ g5, wr.heap.size = g5 := ⟨_, rfl⟩
        generalize wr.alloc (.cells #[.slice x.k.A x.k.n x.k.c, .slice x.v.A x.v.n x.v.c, .bool x.b, .int .i64 x.n] 58) = W5 at *
        rw [hg5] at hblk hgl hsz2 hs5 ⊢
        clear hg5 hbD0
        obtain ⟨⟨r0, r1, r2, r3⟩, -⟩ := nbox4 hblk
        obtain ⟨⟨q0, q1, q2⟩, -⟩ := HN1.out
        have hgN : w.heap.size ≠ g := by omega
        have hg5g : g5 ≠ g := by omega
        have hbD : Below W5.heap.size W5 W5.drew := below_drewN (Below.refl W5.heap.size W5) 1
        have hOD : W5.drew.ownsRow (w.heap.size + 2) 58 4 (.slice (some ⟨g, 0, none⟩) m1 c1) m1 ((J ++ (X.I.take m1).drop i).flatMap ItT.cells) := HO1.out.drew
        have HCFk := Lib.hid (fun W (h : Below W5.heap.size W5 W) => nfew_any x.k B W (hxo.key.later ((HBZ.out.mono hB).trans (h.mono (by omega)))) (by have := h.size; omega))
        have HCFv := Lib.hid (fun W (h : Below W5.heap.size W5 W) => nfew_any x.v B W (hxo.val.later ((HBZ.out.mono hB).trans (h.mono (by omega)))) (by have := h.size; omega))
        have HNUM := Lib.hid hxo.num
        clear hxo
        refine wp_region_held_drew (S := fun W => W.cell? ⟨w.heap.size, 1, none⟩ = some (.slice (some ⟨g, 0, none⟩) m1 c1) ∧ W.cell? ⟨g5, 0, none⟩ = some (.slice x.k.A x.k.n x.k.c) ∧ W.cell? ⟨g5, 1, none⟩ = some (.slice x.v.A x.v.n x.v.c)) (by kernel_rfl) ⟨q1, r0, r1⟩ (fun hHeld => ?_)
        refine rg_in 0 rfl (by kernel_rfl) (by kernel_rfl) (by kernel_rfl) (by rfl) (v := ?_) (fun _ _ _ h => h) hHeld (fun w hSw => ?_) ?_
        rotate_left
        · (try dsimp only at hSw); go_simp <;> (with_reducible rfl)
        (try simp only [Act.put, List.setIfInBounds_toArray, List.set_cons_zero, List.set_cons_succ])
        refine rg_in 1 rfl (by kernel_rfl) (by kernel_rfl) (by kernel_rfl) (by rfl) (v := ?_) (fun _ _ _ h => h) hHeld (fun w hSw => ?_) ?_
        rotate_left
        · (try dsimp only at hSw); go_simp <;> (with_reducible rfl)
        (try simp only [Act.put, List.setIfInBounds_toArray, List.set_cons_zero, List.set_cons_succ])
        refine rg_in 2 rfl (by kernel_rfl) (by kernel_rfl) (by kernel_rfl) (by rfl) (v := ?_) (fun _ _ _ h => h) hHeld (fun w hSw => ?_) ?_
        rotate_left
        · (try dsimp only at hSw); go_simp <;> (with_reducible rfl)
        (try simp only [Act.put, List.setIfInBounds_toArray, List.set_cons_zero, List.set_cons_succ])
        refine rg_in 3 rfl (by kernel_rfl) (by kernel_rfl) (by kernel_rfl) (by rfl) (v := ?_) (fun _ _ _ h => h) hHeld (fun w hSw => ?_) ?_
        rotate_left
        · (try dsimp only at hSw); go_simp <;> (with_reducible rfl)
        (try simp only [Act.put, List.setIfInBounds_toArray, List.set_cons_zero, List.set_cons_succ])
        refine rg_in 4 rfl (by kernel_rfl) (by kernel_rfl) (by kernel_rfl) (by rfl) (v := ?_) (fun _ _ _ h => h) hHeld (fun w hSw => ?_) ?_
        rotate_left
        · (try dsimp only at hSw); go_simp <;> (with_reducible rfl)
        (try simp only [Act.put, List.setIfInBounds_toArray, List.set_cons_zero, List.set_cons_succ])
        refine rg_in 5 rfl (by kernel_rfl) (by kernel_rfl) (by kernel_rfl) (by rfl) (v := ?_) (fun _ _ _ h => h) hHeld (fun w hSw => ?_) ?_
        rotate_left
        · (try dsimp only at hSw); go_simp <;> (with_reducible rfl)
        (try simp only [Act.put, List.setIfInBounds_toArray, List.set_cons_zero, List.set_cons_succ])
        refine rg_in 6 rfl (by kernel_rfl) (by kernel_rfl) (by kernel_rfl) (by rfl) (v := ?_) (fun _ _ _ h => h) hHeld (fun w hSw => ?_) ?_
        rotate_left
        · (try dsimp only at hSw); go_simp <;> (with_reducible rfl)
        (try simp only [Act.put, List.setIfInBounds_toArray, List.set_cons_zero, List.set_cons_succ])
        refine rg_in 7 rfl (by kernel_rfl) (by kernel_rfl) (by kernel_rfl) (by rfl) (v := ?_) (fun _ _ _ h => h) hHeld (fun w hSw => ?_) ?_
        rotate_left
        · (try dsimp only at hSw); go_simp <;> (with_reducible rfl)
        (try simp only [Act.put, List.setIfInBounds_toArray, List.set_cons_zero, List.set_cons_succ])
        refine rg_in 8 rfl (by kernel_rfl) (by kernel_rfl) (by kernel_rfl) (by rfl) (v := ?_) (fun _ _ _ h => h) hHeld (fun w hSw => ?_) ?_
        rotate_left
        · (try dsimp only at hSw); go_simp <;> (with_reducible rfl)
        (try simp only [Act.put, List.setIfInBounds_toArray, List.set_cons_zero, List.set_cons_succ])
        refine rg_in 10 rfl (by kernel_rfl) (by kernel_rfl) (by kernel_rfl) (by rfl) (v := ?_) (fun _ _ _ h => h) hHeld (fun w hSw => ?_) ?_
        rotate_left
        · (try dsimp only at hSw); go_simp <;> (with_reducible rfl)
        (try simp only [Act.put, List.setIfInBounds_toArray, List.set_cons_zero, List.set_cons_succ])
        refine rg_in 11 rfl (by kernel_rfl) (by kernel_rfl) (by kernel_rfl) (by rfl) (v := ?_) (fun _ _ _ h => h) hHeld (fun w hSw => ?_) ?_
        rotate_left
        · (try dsimp only at hSw); go_simp <;> (with_reducible rfl)
        (try simp only [Act.put, List.setIfInBounds_toArray, List.set_cons_zero, List.set_cons_succ])
        refine rg_in 12 rfl (by kernel_rfl) (by kernel_rfl) (by kernel_rfl) (by rfl) (v := ?_) (fun _ _ _ h => h) hHeld (fun w hSw => ?_) ?_
        rotate_left
        · (try dsimp only at hSw); go_simp <;> (with_reducible rfl)
        (try simp only [Act.put, List.setIfInBounds_toArray, List.set_cons_zero, List.set_cons_succ])
        refine rg_do 9 rfl (by kernel_rfl) (by rfl) (fun K hK => ?_)
        have hcFk := HCFk.out _ hbD
        go_simp
        (go_at_call 33; (with_reducible refine hcFk.mono ?_); (rintro e w109 ⟨Bk, nk, ck, rfl, hPk, hb9⟩))
        clear hcFk
        refine hK.out _ _ ⟨mkept_later hb9 hHeld.1, mkept_later hb9 hHeld.2.1, mkept_later hb9 hHeld.2.2⟩ (fun hHeld => ?_)
        clear hK K
        (try simp only [Act.put, List.setIfInBounds_toArray, List.set_cons_zero, List.set_cons_succ])
        refine rg_do 13 rfl (by kernel_rfl) (by rfl) (fun K hK => ?_)
        have hcFv := HCFv.out _ (bel_next hbD hb9)
        go_simp
        (go_at_call 33; (with_reducible refine hcFv.mono ?_); (rintro e w113 ⟨Bv, nv, cv, rfl, hPv, hb13⟩))
        clear hcFv
        refine hK.out _ _ ⟨mkept_later hb13 hHeld.1, mkept_later hb13 hHeld.2.1, mkept_later hb13 hHeld.2.2⟩ (fun hHeld => ?_)
        clear hK K
        (try simp only [Act.put, List.setIfInBounds_toArray, List.set_cons_zero, List.set_cons_succ])
        refine rg_in 14 rfl (by kernel_rfl) (by kernel_rfl) (by kernel_rfl) (by rfl) (v := ?_) (fun _ _ _ h => h) hHeld (fun w hSw => ?_) ?_
        rotate_left
        · (try dsimp only at hSw); go_simp <;> (with_reducible rfl)
        (try simp only [Act.put, List.setIfInBounds_toArray, List.set_cons_zero, List.set_cons_succ])
        refine rg_in 15 rfl (by kernel_rfl) (by kernel_rfl) (by kernel_rfl) (by rfl) (v := ?_) (fun _ _ _ h => h) hHeld (fun w hSw => ?_) ?_
        rotate_left
        · (try dsimp only at hSw); go_simp <;> (with_reducible rfl)
        (try simp only [Act.put, List.setIfInBounds_toArray, List.set_cons_zero, List.set_cons_succ])
        refine rg_do 16 rfl (by kernel_rfl) (by rfl) (fun K hK => ?_)
        have hbq := bel_next (bel_next hbD hb9) hb13
        have hOq := own_later hOD (bel_next hb9 hb13)
        have hcl := it_cell hOq hix 0 (by decide)
        have hcf := World.ownsRow.frozenAt hOq (i * 4)
        have hcl1 := it_cell hOq hix 1 (by decide)
        have hcf1 := World.ownsRow.frozenAt hOq (i * 4 + 1)
        simp only [Nat.add_zero] at hcl
        go_simp
        refine hK.out _ _ (cells3_off hHeld hgN hg5g) (fun hHeld => ?_)
        clear hK K
        (try simp only [Act.put, List.setIfInBounds_toArray, List.set_cons_zero, List.set_cons_succ])
        refine rg_in 17 rfl (by kernel_rfl) (by kernel_rfl) (by kernel_rfl) (by rfl) (v := ?_) (fun _ _ _ h => h) hHeld (fun w hSw => ?_) ?_
        rotate_left
        · (try dsimp only at hSw); go_simp <;> (with_reducible rfl)
        (try simp only [Act.put, List.setIfInBounds_toArray, List.set_cons_zero, List.set_cons_succ])
        refine rg_in 18 rfl (by kernel_rfl) (by kernel_rfl) (by kernel_rfl) (by rfl) (v := ?_) (fun _ _ _ h => h) hHeld (fun w hSw => ?_) ?_
        rotate_left
        · (try dsimp only at hSw); go_simp <;> (with_reducible rfl)
        (try simp only [Act.put, List.setIfInBounds_toArray, List.set_cons_zero, List.set_cons_succ])
        refine rg_do 19 rfl (by kernel_rfl) (by rfl) (fun K hK => ?_)
        go_simp
        refine hK.out _ _ (cells3_off hHeld hgN hg5g) (fun hHeld => ?_)
        clear hK K
        (try simp only [Act.put, List.setIfInBounds_toArray, List.set_cons_zero, List.set_cons_succ])
        refine wpAnyH_done (by kernel_rfl) ?_ _
        have hbQ := bel_next (bel_next hbD hb9) hb13
        have hk9 := own_later (own_base hPk (show w.heap.size + 2 ≤ _ by have h9 : W5.drew.heap.size = W5.heap.size := rfl; omega)) hb13
        have hv9 := own_base hPv (show w.heap.size + 2 ≤ _ by have h8 := hb9.size; have h9 : W5.drew.heap.size = W5.heap.size := rfl; omega)
        have hdone := Lib.hid (own_round (w := w) (X := X) (A1 := some ⟨g, 0, none⟩) (c1 := c1) (A2 := A2) (c2 := c2) (m1 := m1) (m2 := m2) (i := i) (J := J) (x := x) hlt HJ.out HXX.out (HN1.out.later hbQ) (HN2.out.later hbQ) hOq (HOJ.out.later hbQ) HJS.out (own_later HO2.out hbQ) (HBZ.out.trans (hbQ.mono (by omega))) (by have h8 := hbQ.size; omega) hgb hk9 hv9 HNUM.out)
        clear hHeld hcl hcf hcl1 hcf1 hOq hk9 hv9 hPk hPv hOD q0 q1 q2 r0 r1 r2 r3
        go_wp2_with fail
        go_roundw
        case rel => first | exact ⟨i + 1, by omega, by go_num, hdone⟩ | exact ⟨_, _, _, ⟨i + 1, by omega, by go_num, hdone⟩, rfl, rfl, rfl⟩
        case measure => simp [intOf]; omega
      · obtain ⟨J, hJ, hn1, hn2, ho1, hoJ, hJs, ho2, hbz, hsz2⟩ := HR.out
        have hi7 : m1 = i := by omega
        subst hi7
        have ho1' : wr.ownsRow (w.heap.size + 2) 58 4 (.slice A1 m1 c1) m1 (J.flatMap ItT.cells) := by
          rw [show (X.I.take m1).drop m1 = [] from List.drop_of_length_le (by rw [List.length_take]; omega), List.append_nil] at ho1
          exact ho1
        have HJI := Lib.hid (And.intro hJ hJs)
        have HR0 := Lib.hid (show RndQ X J A1 c1 A2 c2 m1 m2 w.heap.size w 0 wr from ⟨[], rfl, hn1, hn2, ho1', hoJ, by rw [List.nil_append, List.drop_zero]; exact ho2, fun x hx => (List.not_mem_nil hx).elim, rfl, hbz, hsz2⟩)
        obtain ⟨⟨q0, q1, q2⟩, -⟩ := hn1
        obtain ⟨I', hI'⟩ : ∃ I', J = I' := ⟨_, rfl⟩
        rw [hI'] at HR0 HJI
        clear HR hn2 ho1 ho1' hoJ hJ hJs ho2 hbz hsz2 hlt hI'
        go_wp2_with fail
        go_loopw [56] (fun y wx => ∃ k : Nat, k ≤ m2 ∧ y = .int .i64 k ∧ Hid (RndQ X I' A1 c1 A2 c2 m1 m2 w.heap.size w k wx)) (fun y _ => m2 - (intOf y).toNat)
        case atStart => exact ⟨0, Nat.zero_le _, rfl, HR0⟩
        case round =>
          clear q0 q1 q2 HR0
          rename World => wk
          obtain ⟨i, hi2, rfl, HR⟩ := hrel
          obtain ⟨J, hJ, hn1, hn2, ho1, hoI, ho2, hoJ, hJs, hbz, hsz2⟩ := HR.out
          have hnb := hn1
          obtain ⟨⟨q0, q1, q2⟩, -⟩ := hn1
          by_cases hlt : i < m2
          · have hlt' : (i : Int) < (m2 : Int) := by omega
            obtain ⟨g, cap, hv, hgb, hgl⟩ := ho2.form (by omega)
            injection hv with hv1 hv2 hv3
            subst hv1
            subst hv3
            obtain ⟨b', off', x, hA, _, hx, x0, x1, x2, x3, x4, x5, x6, x7⟩ := ki_at (Shows.own ho2) hlt
            injection hA with hA
            injection hA with hA1 hA2
            subst hA1
            subst hA2
            simp only [Nat.zero_add] at x0 x1 x2 x3 x4 x5 x6 x7
            have hix := hx
            have hxX : X.K[i]? = some x := by
              rw [List.getElem?_append_right (by omega), hJ, Nat.sub_self, List.getElem?_drop, Nat.add_zero, List.getElem?_take, if_pos hlt] at hx
              exact hx
            have HJ := Lib.hid hJ
            have HJS := Lib.hid hJs
            have hxo := HX0.out.kids x (List.mem_of_getElem? hxX)
            have HXX := Lib.hid hxX
            clear hJ hJs HR hx hxX
            have hbD0 := bel_alloc (Below.refl wk.heap.size wk) (.cells #[.slice x.k.A x.k.n x.k.c, .int .i64 x.a, .int .i64 x.r.c, .int .i64 x.r.i, .int .i64 (hiI x.r.v), .int .u64 (loI x.r.v), .int .i64 x.r.l, .int .i64 x.r.m] 60)
            have hblk := heap_alloc_new wk (.cells #[.slice x.k.A x.k.n x.k.c, .int .i64 x.a, .int .i64 x.r.c, .int .i64 x.r.i, .int .i64 (hiI x.r.v), .int .u64 (loI x.r.v), .int .i64 x.r.l, .int .i64 x.r.m] 60)
            have HN1 := Lib.hid (hnb.later hbD0)
            have HN2 := Lib.hid (hn2.later hbD0)
            have HO1 := Lib.hid (own_later ho1 hbD0)
            have HOI := Lib.hid (hoI.later hbD0)
            have HO2 := Lib.hid (own_later ho2 hbD0)
            have HOJ := Lib.hid (hoJ.later hbD0)
            have HBZ := Lib.hid (hbz.trans (hbD0.mono (by omega)))
            have hs5 := hbD0.size
            clear hnb hn2 ho1 ho2 hoJ hoI hbz
            go_upto_region 11 with fail
            clear x0 x1 x2 x3 x4 x5 x6 x7 q0 q1 q2
            obtain ⟨g5, hg5⟩ : ∃ g5, wk.heap.size = g5 := ⟨_, rfl⟩
            generalize wk.alloc (.cells #[.slice x.k.A x.k.n x.k.c, .int .i64 x.a, .int .i64 x.r.c, .int .i64 x.r.i, .int .i64 (hiI x.r.v), .int .u64 (loI x.r.v), .int .i64 x.r.l, .int .i64 x.r.m] 60) = W5 at *
            rw [hg5] at hblk hgl hsz2 hs5 ⊢
            clear hg5 hbD0
            have r0 : W5.cell? ⟨g5, 0, none⟩ = some (.slice x.k.A x.k.n x.k.c) := by rw [cell_of_row _ _ _ _ _ _ hblk]; rfl
            obtain ⟨⟨q0, q1, q2⟩, -⟩ := HN1.out
            have hgN : w.heap.size ≠ g := by omega
            have hg5g : g5 ≠ g := by omega
            have hbD : Below W5.heap.size W5 W5.drew := below_drewN (Below.refl W5.heap.size W5) 1
            have hOD : W5.drew.ownsRow (w.heap.size + 2) 60 8 (.slice (some ⟨g, 0, none⟩) m2 c2) m2 ((J ++ (X.K.take m2).drop i).flatMap KiT.cells) := HO2.out.drew
            have HCFk := Lib.hid (fun W (h : Below W5.heap.size W5 W) => nfew_any x.k B W (hxo.key.later ((HBZ.out.mono hB).trans (h.mono (by omega)))) (by have := h.size; omega))
            have HPR := Lib.hid (And.intro hxo.pos hxo.red)
            clear hxo
            refine wp_region_held_drew (S := fun W => W.cell? ⟨w.heap.size, 2, none⟩ = some (.slice (some ⟨g, 0, none⟩) m2 c2) ∧ W.cell? ⟨g5, 0, none⟩ = some (.slice x.k.A x.k.n x.k.c)) (by kernel_rfl) ⟨q2, r0⟩ (fun hHeld => ?_)
            refine rg_in 0 rfl (by kernel_rfl) (by kernel_rfl) (by kernel_rfl) (by rfl) (v := ?_) (fun _ _ _ h => h) hHeld (fun w hSw => ?_) ?_
            rotate_left
            · (try dsimp only at hSw); go_simp <;> (with_reducible rfl)
            (try simp only [Act.put, List.setIfInBounds_toArray, List.set_cons_zero, List.set_cons_succ])
            refine rg_in 1 rfl (by kernel_rfl) (by kernel_rfl) (by kernel_rfl) (by rfl) (v := ?_) (fun _ _ _ h => h) hHeld (fun w hSw => ?_) ?_
            rotate_left
            · (try dsimp only at hSw); go_simp <;> (with_reducible rfl)
            (try simp only [Act.put, List.setIfInBounds_toArray, List.set_cons_zero, List.set_cons_succ])
            refine rg_in 2 rfl (by kernel_rfl) (by kernel_rfl) (by kernel_rfl) (by rfl) (v := ?_) (fun _ _ _ h => h) hHeld (fun w hSw => ?_) ?_
            rotate_left
            · (try dsimp only at hSw); go_simp <;> (with_reducible rfl)
            (try simp only [Act.put, List.setIfInBounds_toArray, List.set_cons_zero, List.set_cons_succ])
            refine rg_in 3 rfl (by kernel_rfl) (by kernel_rfl) (by kernel_rfl) (by rfl) (v := ?_) (fun _ _ _ h => h) hHeld (fun w hSw => ?_) ?_
            rotate_left
            · (try dsimp only at hSw); go_simp <;> (with_reducible rfl)
            (try simp only [Act.put, List.setIfInBounds_toArray, List.set_cons_zero, List.set_cons_succ])
            refine rg_in 4 rfl (by kernel_rfl) (by kernel_rfl) (by kernel_rfl) (by rfl) (v := ?_) (fun _ _ _ h => h) hHeld (fun w hSw => ?_) ?_
            rotate_left
            · (try dsimp only at hSw); go_simp <;> (with_reducible rfl)
            (try simp only [Act.put, List.setIfInBounds_toArray, List.set_cons_zero, List.set_cons_succ])
            refine rg_in 5 rfl (by kernel_rfl) (by kernel_rfl) (by kernel_rfl) (by rfl) (v := ?_) (fun _ _ _ h => h) hHeld (fun w hSw => ?_) ?_
            rotate_left
            · (try dsimp only at hSw); go_simp <;> (with_reducible rfl)
            (try simp only [Act.put, List.setIfInBounds_toArray, List.set_cons_zero, List.set_cons_succ])
            refine rg_do 6 rfl (by kernel_rfl) (by rfl) (fun K hK => ?_)
            have hcFk := HCFk.out _ hbD
            go_simp
            (go_at_call 33; (with_reducible refine hcFk.mono ?_); (rintro e w106 ⟨Bk, nk, ck, rfl, hPk, hb6⟩))
            clear hcFk
            refine hK.out _ _ ⟨mkept_later hb6 hHeld.1, mkept_later hb6 hHeld.2⟩ (fun hHeld => ?_)
            clear hK K
            (try simp only [Act.put, List.setIfInBounds_toArray, List.set_cons_zero, List.set_cons_succ])
            refine rg_in 7 rfl (by kernel_rfl) (by kernel_rfl) (by kernel_rfl) (by rfl) (v := ?_) (fun _ _ _ h => h) hHeld (fun w hSw => ?_) ?_
            rotate_left
            · (try dsimp only at hSw); go_simp <;> (with_reducible rfl)
            (try simp only [Act.put, List.setIfInBounds_toArray, List.set_cons_zero, List.set_cons_succ])
            refine rg_in 8 rfl (by kernel_rfl) (by kernel_rfl) (by kernel_rfl) (by rfl) (v := ?_) (fun _ _ _ h => h) hHeld (fun w hSw => ?_) ?_
            rotate_left
            · (try dsimp only at hSw); go_simp <;> (with_reducible rfl)
            (try simp only [Act.put, List.setIfInBounds_toArray, List.set_cons_zero, List.set_cons_succ])
            refine rg_do 9 rfl (by kernel_rfl) (by rfl) (fun K hK => ?_)
            have hOq := own_later hOD hb6
            have hcl := ki_cell hOq hix 0 (by decide)
            have hcf := World.ownsRow.frozenAt hOq (i * 8)
            simp only [Nat.add_zero] at hcl
            go_simp
            refine hK.out _ _ (cells2_off hHeld hgN hg5g) (fun hHeld => ?_)
            clear hK K
            (try simp only [Act.put, List.setIfInBounds_toArray, List.set_cons_zero, List.set_cons_succ])
            refine wpAnyH_done (by kernel_rfl) ?_ _
            have hbQ := bel_next hbD hb6
            have hk9 := own_base hPk (show w.heap.size + 2 ≤ _ by have h9 : W5.drew.heap.size = W5.heap.size := rfl; omega)
            have hdone := Lib.hid (own_roundK (w := w) (X := X) (A1 := A1) (c1 := c1) (c2 := c2) (m1 := m1) (m2 := m2) (i := i) (I' := I') (J := J) (x := x) hlt HJ.out HXX.out (HN1.out.later hbQ) (HN2.out.later hbQ) (own_later HO1.out hbQ) (HOI.out.later hbQ) hOq (HOJ.out.later hbQ) HJS.out (HBZ.out.trans (hbQ.mono (by omega))) (by have h8 := hbQ.size; omega) hgb hk9 HPR.out)
            clear hHeld hcl hcf hOq hk9 hPk hOD q0 q1 q2 r0
            go_wp2_with fail
            go_roundw
            case rel => first | exact ⟨i + 1, by omega, by go_num, hdone⟩ | exact ⟨_, _, _, ⟨i + 1, by omega, by go_num, hdone⟩, rfl, rfl, rfl⟩
            case measure => simp [intOf]; omega
          · have hi8 : m2 = i := by omega
            subst hi8
            have ho2' : wk.ownsRow (w.heap.size + 2) 60 8 (.slice A2 m2 c2) m2 (J.flatMap KiT.cells) := by
              rw [show (X.K.take m2).drop m2 = [] from List.drop_of_length_le (by rw [List.length_take]; omega), List.append_nil] at ho2
              exact ho2
            have hsaid : NoT.s ⟨X.leaf, A1, m1, c1, I', A2, m2, c2, J⟩ = X.cut := by
              unfold NoT.s NoT.cut
              simp only
              rw [HJI.out.2, hJs, HM1.out, HM2.out]
            have hfin := Lib.hid (own_end (Y := ⟨X.leaf, A1, m1, c1, I', A2, m2, c2, J⟩) (s := X.cut) ho1 ho2' hoI hoJ hsaid (u0 := .bool X.leaf) (u1 := .slice A1 m1 c1) (u2 := .slice A2 m2 c2))
            obtain ⟨⟨j0, j1, j2⟩, f0, f1, f2⟩ := hn2
            have hbe := ((hbz.setCell (p := ⟨w.heap.size + 1, 0, none⟩) (by show w.heap.size ≤ w.heap.size + 1; omega) (.bool X.leaf)).setCell (p := ⟨w.heap.size + 1, 1, none⟩) (by show w.heap.size ≤ w.heap.size + 1; omega) (.slice A1 m1 c1)).setCell (p := ⟨w.heap.size + 1, 2, none⟩) (by show w.heap.size ≤ w.heap.size + 1; omega) (.slice A2 m2 c2)
            clear HR ho1 ho2 ho2' hoI hoJ hsaid hnb hJ hJs hbz hlt
            go_wp2
            refine bodyPost_ret (v := .agg #[.bool X.leaf, .slice A1 m1 c1, .slice A2 m2 c2]) ?_ rfl ⟨hbe, ⟨X.leaf, A1, m1, c1, I', A2, m2, c2, J⟩, rfl, hfin.out⟩
            simp [results, Try.results12, go_sem, *]
end Go.Proofs.Ytnfohlabmidliaa
