/-
  Layer 4: Object, whatever sorts its pairs.
-/
import Derived.Test.YtnldiemggabdkaaDoorValU
import Derived.Lib.OwnKind
import Derived.Lib.BufferWrite
namespace Go.Proofs.YtnldiemggabdkaaDoor
open Go.RowKit
set_option linter.unusedVariables false

theorem own_ne {W : World} {b1 b2 : Nat} {e1 e2 : TypeId} {s1 s2 n1 n2 : Nat} {v1 v2 : Value} {x1 x2 : List Value} (h1 : W.ownsRow b1 e1 s1 v1 n1 x1) (h2 : W.ownsRow b2 e2 s2 v2 n2 x2) (he : e1 ≠ e2) : v1.ownBlock = none ∨ v1.ownBlock ≠ v2.ownBlock := by
  cases h : v1.ownBlock with
  | none => exact .inl rfl
  | some g =>
    refine .inr fun e => ?_
    obtain ⟨c, fz, k1⟩ := Lib.ownsRow_kind h1 g h
    obtain ⟨c', fz', k2⟩ := Lib.ownsRow_kind h2 g e.symm
    rw [k1] at k2
    injection k2 with k2
    injection k2 with _ k2
    exact he k2
theorem pflat_len (l : List PT) : (l.flatMap pCells).length = l.length * 6 := by
  induction l with
  | nil => rfl
  | cons x l ih => rw [List.flatMap_cons, List.length_append, ih, pCells_len, List.length_cons]; omega
theorem pflat_get : ∀ (l : List PT) (i j : Nat) (hi : i < l.length) (_ : j < 6), (l.flatMap pCells)[i * 6 + j]? = (pCells (l[i]'hi))[j]?
  | x :: l, 0, j, _, hj => by
    rw [List.flatMap_cons, List.getElem?_append_left (by rw [pCells_len]; omega)]
    simp
  | x :: l, i + 1, j, hi, hj => by
    have e : (i + 1) * 6 + j = (pCells x).length + (i * 6 + j) := by rw [pCells_len]; omega
    rw [List.flatMap_cons, e, List.getElem?_append_right (by omega), Nat.add_sub_cancel_left, pflat_get l i j (by simpa using hi) hj]
    simp
/-- The six cells of a pair at an address. -/
def Cell6 (w : World) (b o : Nat) (x : ByteArray) : VT → Prop
  | .mk k n s cA cn cc kA kn kc _ _ =>
    w.cell? ⟨b, o, none⟩ = some (.string x) ∧ w.cell? ⟨b, o + 1, none⟩ = some (.int .i64 k) ∧ w.cell? ⟨b, o + 2, none⟩ = some (.int .i64 n) ∧ w.cell? ⟨b, o + 3, none⟩ = some (.string s) ∧ w.cell? ⟨b, o + 4, none⟩ = some (.slice cA cn cc) ∧ w.cell? ⟨b, o + 5, none⟩ = some (.slice kA kn kc)
theorem pair_at {w : World} {B : Nat} {A : Option Addr} {n : Nat} {l : List PT} (h : Shows w B 6 A n (l.flatMap pCells)) {i : Nat} (hi : i < n) :
    ∃ b off x T, A = some ⟨b, off, none⟩ ∧ b < B ∧ l[i]? = some (x, T) ∧ Cell6 w b (off + i * 6) x T := by
  obtain ⟨b, off, rfl, hb, hc⟩ := h.2 (by omega)
  have hl : i < l.length := by have := h.1; rw [pflat_len] at this; omega
  have hg := fun j (hj : j < 6) => pflat_get l i j hl hj
  refine ⟨b, off, l[i].1, l[i].2, rfl, hb, List.getElem?_eq_getElem hl, ?_⟩
  cases hx : l[i] with
  | mk x T =>
    cases T with
    | mk k n s cA cn cc kA kn kc keys kids =>
      rw [hx] at hg
      exact ⟨hc (i * 6 + 0) _ ((hg 0 (by omega)).trans rfl), hc (i * 6 + 1) _ ((hg 1 (by omega)).trans rfl), hc (i * 6 + 2) _ ((hg 2 (by omega)).trans rfl), hc (i * 6 + 3) _ ((hg 3 (by omega)).trans rfl), hc (i * 6 + 4) _ ((hg 4 (by omega)).trans rfl), hc (i * 6 + 5) _ ((hg 5 (by omega)).trans rfl)⟩
theorem pairs_len {w : World} {B : Nat} {A : Option Addr} {n : Nat} {l : List PT} (h : Shows w B 6 A n (l.flatMap pCells)) : l.length = n := by have := h.1; rw [pflat_len] at this; omega
theorem VFive.set4 {w : World} {g : Nat} {a b c d e e' : Value} (h : VFive w g a b c d e) : VFive (w.setCell ⟨g, 4, none⟩ e') g a b c d e' := by
  obtain ⟨⟨r0, r1, r2, r3, r4⟩, f0, f1, f2, f3, f4⟩ := h
  exact ⟨⟨by simp [go_sem, *], by simp [go_sem, *], by simp [go_sem, *], by simp [go_sem, *], by simp [go_sem, *]⟩, by simp [go_sem, *], by simp [go_sem, *], by simp [go_sem, *], by simp [go_sem, *], by simp [go_sem, *]⟩
theorem VFive.set3 {w : World} {g : Nat} {a b c d e d' : Value} (h : VFive w g a b c d e) : VFive (w.setCell ⟨g, 3, none⟩ d') g a b c d' e := by
  obtain ⟨⟨r0, r1, r2, r3, r4⟩, f0, f1, f2, f3, f4⟩ := h
  exact ⟨⟨by simp [go_sem, *], by simp [go_sem, *], by simp [go_sem, *], by simp [go_sem, *], by simp [go_sem, *]⟩, by simp [go_sem, *], by simp [go_sem, *], by simp [go_sem, *], by simp [go_sem, *], by simp [go_sem, *]⟩
theorem VFive.upto {w w1 : World} {g B : Nat} {a b c d e : Value} (h : VFive w g a b c d e) (hb : Below B w w1) (hg : g < B) (hB : B ≤ w.heap.size) : VFive w1 g a b c d e := by
  refine h.keep (hb.block g hg)
/-- Object half done. -/
structure ObjJ (W : World) (rb vb : Nat) (L : List PT) (j : Nat) (kA cA : Option Addr) (kc cc : Nat) : Prop where
  v : VFive W vb (.int .i64 6) (.int .i64 0) (.string ⟨#[]⟩) (.slice cA j cc) (.slice kA j kc)
  r : VFive W rb (.int .i64 0) (.int .i64 0) (.string ⟨#[]⟩) (.slice none 0 0) (.slice none 0 0)
  ks : W.ownsRow (vb + 1) 9 1 (.slice kA j kc) j ((L.take j).map fun p => Value.string p.1)
  cs : W.ownsRow (vb + 1) 25 5 (.slice cA j cc) j ((L.take j).flatMap fun p => p.2.cells)
theorem ObjJ.later {W W' : World} {rb vb : Nat} {L : List PT} {j : Nat} {kA cA : Option Addr} {kc cc : Nat} (h : ObjJ W rb vb L j kA cA kc cc) (hb : Below W.heap.size W W') : ObjJ W' rb vb L j kA cA kc cc :=
  ⟨h.v.later hb, h.r.later hb, own_below h.ks hb, own_below h.cs hb⟩
theorem VFive.lt {w : World} {g : Nat} {a b c d e : Value} (h : VFive w g a b c d e) : g < w.heap.size := World.block_lt_of_cell? w _ h.1.1
theorem own_set {W : World} {b vb i : Nat} {e : TypeId} {s n : Nat} {v u : Value} {x : List Value} (h : W.ownsRow b e s v n x) (hv : vb < b) : (W.setCell ⟨vb, i, none⟩ u).ownsRow b e s v n x :=
  h.kept (Lib.grownBy_setCell W vb i u) (by
    cases hq : v.ownBlock with
    | none => exact .inl rfl
    | some g => exact .inr fun e => by injection e with e; have := (h.lt g hq).1; omega)
/-- Has a list of pairs two keys in a row that are one? -/
def keyAt (L : List PT) (i : Nat) : ByteArray := (L.map Prod.fst).getD i ⟨#[]⟩
def dupJ (L : List PT) (j : Nat) : Bool := decide (0 < j) && ((keyAt L (j - 1)).toList == (keyAt L j).toList)
theorem keyAt_of {L : List PT} {i : Nat} {x : ByteArray} {T : VT} (h : L[i]? = some (x, T)) : keyAt L i = x := by
  unfold keyAt
  rw [List.getD_eq_getElem?_getD, List.getElem?_map, h]; rfl
theorem shows5_new (W : World) (a b c d e : Value) (t : TypeId) (g : Nat) (hg : W.heap.size = g) : Shows (W.alloc (.cells #[a, b, c, d, e] t)) (g + 1) 5 (some ⟨g, 0, none⟩) 1 [a, b, c, d, e] := by
  subst hg
  refine ⟨rfl, fun _ => ⟨W.heap.size, 0, rfl, Nat.lt_succ_self _, fun i v hv => ?_⟩⟩
  rw [Nat.zero_add]
  exact (Box.new W #[a, b, c, d, e] t i v (by simpa using hv)).1
theorem ptake_snoc {L : List PT} {j : Nat} {p : PT} (h : L[j]? = some p) : L.take (j + 1) = L.take j ++ [p] := by
  rw [List.take_add_one, h]; rfl
section
variable {W0 wc W7 W9 : World} {rb vb : Nat} {L : List PT} {j : Nat} {kA cA A7 A9 : Option Addr} {kc cc c7 c9 : Nat} {x : ByteArray} {T : VT}
/-- The pair's own box. -/
def PBox (W : World) (pb : Nat) (x : ByteArray) (T : VT) : Prop := W.heap[pb]? = some (.cells (.mk (pCells (x, T))) 48 (0, 0))
theorem obj_one (hJ : ObjJ wc rb vb L j kA cA kc cc) (hrb : rb < vb) (hvb : vb < wc.heap.size) {pb : Nat} (hp : PBox wc pb x T) {o : Obj}
    (hg7 : (wc.alloc o).grownBy W7 (Value.slice kA j kc).ownBlock) (hb7 : Below (vb + 1) (wc.alloc o) W7) (hown7 : W7.ownsRow (vb + 1) 9 1 (.slice A7 (j + 1) c7) (j + 1) ((L.take j).map (fun p => Value.string p.1) ++ [.string x])) (u : Value) :
    VFive W7 vb (.int .i64 6) (.int .i64 0) (.string ⟨#[]⟩) (.slice cA j cc) (.slice kA j kc) ∧ VFive W7 rb (.int .i64 0) (.int .i64 0) (.string ⟨#[]⟩) (.slice none 0 0) (.slice none 0 0) ∧ PBox W7 pb x T ∧
      (W7.setCell ⟨vb, 4, none⟩ u).ownsRow (vb + 1) 9 1 (.slice A7 (j + 1) c7) (j + 1) ((L.take j).map (fun p => Value.string p.1) ++ [.string x]) ∧
      (W7.setCell ⟨vb, 4, none⟩ u).ownsRow (vb + 1) 25 5 (.slice cA j cc) j ((L.take j).flatMap fun p => p.2.cells) := by
  have hs : (wc.alloc o).heap.size = wc.heap.size + 1 := World.size_alloc _ _
  have hpl : pb < wc.heap.size := (Array.getElem?_eq_some_iff.1 hp).1
  refine ⟨(hJ.v.alloc o).upto hb7 (Nat.lt_succ_self _) (by omega), (hJ.r.alloc o).upto hb7 (by omega) (by omega), ?_, own_set hown7 (Nat.lt_succ_self _), own_set ((hJ.cs.alloc o).kept hg7 (own_ne (hJ.cs.alloc o) (hJ.ks.alloc o) (by decide))) (Nat.lt_succ_self _)⟩
  show W7.heap[pb]? = _
  have hq : (wc.alloc o).heap[pb]? = some (.cells (.mk (pCells (x, T))) 48 (0, 0)) := (Below.heap_alloc wc o pb hpl).trans hp
  rw [hg7.block pb (by omega) (fun e => by
    obtain ⟨c, fz, k⟩ := Lib.ownsRow_kind (hJ.ks.alloc o) pb e.symm
    rw [hq] at k
    injection k with k
    injection k with _ k
    exact absurd k (by decide))]
  exact hq
theorem obj_two (hv7 : VFive W7 vb (.int .i64 6) (.int .i64 0) (.string ⟨#[]⟩) (.slice cA j cc) (.slice kA j kc)) (hr7 : VFive W7 rb (.int .i64 0) (.int .i64 0) (.string ⟨#[]⟩) (.slice none 0 0) (.slice none 0 0)) (hrb : rb < vb) (hp : L[j]? = some (x, T))
    (hk : (W7.setCell ⟨vb, 4, none⟩ (.slice A7 (j + 1) c7)).ownsRow (vb + 1) 9 1 (.slice A7 (j + 1) c7) (j + 1) ((L.take j).map (fun p => Value.string p.1) ++ [.string x]))
    (hc : (W7.setCell ⟨vb, 4, none⟩ (.slice A7 (j + 1) c7)).ownsRow (vb + 1) 25 5 (.slice cA j cc) j ((L.take j).flatMap fun p => p.2.cells)) {o : Obj}
    (hg9 : ((W7.setCell ⟨vb, 4, none⟩ (.slice A7 (j + 1) c7)).alloc o).grownBy W9 (Value.slice cA j cc).ownBlock) (hb9 : Below (vb + 1) ((W7.setCell ⟨vb, 4, none⟩ (.slice A7 (j + 1) c7)).alloc o) W9)
    (hown9 : W9.ownsRow (vb + 1) 25 5 (.slice A9 (j + 1) c9) (j + 1) ((L.take j).flatMap (fun p => p.2.cells) ++ T.cells)) :
    VFive W9 vb (.int .i64 6) (.int .i64 0) (.string ⟨#[]⟩) (.slice cA j cc) (.slice A7 (j + 1) c7) ∧ ObjJ (W9.setCell ⟨vb, 3, none⟩ (.slice A9 (j + 1) c9)) rb vb L (j + 1) A7 A9 c7 c9 := by
  have hv8 := (hv7.set4 (e' := .slice A7 (j + 1) c7)).alloc o
  have hr8 := (hr7.keep (Below.heap_setCell W7 ⟨vb, 4, none⟩ (.slice A7 (j + 1) c7) rb (by show rb ≠ vb; omega))).alloc o
  have hl8 := hv8.lt
  have hv9 := hv8.upto hb9 (Nat.lt_succ_self _) (by omega)
  have hr9 := hr8.upto hb9 (by omega) (by omega)
  refine ⟨hv9, hv9.set3, hr9.keep (Below.heap_setCell W9 ⟨vb, 3, none⟩ (.slice A9 (j + 1) c9) rb (by show rb ≠ vb; omega)), ?_, ?_⟩
  · rw [ptake_snoc hp, List.map_append]
    exact own_set ((hk.alloc o).kept hg9 (own_ne (hk.alloc o) (hc.alloc o) (by decide))) (Nat.lt_succ_self _)
  · rw [ptake_snoc hp, List.flatMap_append]
    exact own_set (by simpa using hown9) (Nat.lt_succ_self _)
theorem obj_bel {B0 : Nat} {o o' : Obj} {u u' : Value} (h : Below B0 W0 wc) (hv : B0 ≤ vb) (hs : B0 ≤ wc.heap.size) (hb7 : Below (vb + 1) (wc.alloc o) W7) (hb9 : Below (vb + 1) ((W7.setCell ⟨vb, 4, none⟩ u).alloc o') W9) : Below B0 W0 (W9.setCell ⟨vb, 3, none⟩ u') := by
  have h1 := h.alloc hs o
  have h2 := h1.trans (hb7.mono (by omega))
  have h3 := h2.setCell (p := ⟨vb, 4, none⟩) hv u
  have h4 := h3.alloc (by have := hb7.size; rw [World.size_alloc] at this; rw [size_set]; omega) o'
  exact (h4.trans (hb9.mono (by omega))).setCell hv u'
end
theorem own_set5 {W : World} {b g : Nat} {e : TypeId} {s n : Nat} {v a1 a2 a3 a4 a5 : Value} {x : List Value} (h : W.ownsRow b e s v n x) (hv : g < b) : (((((W.setCell ⟨g, 0, none⟩ a1).setCell ⟨g, 1, none⟩ a2).setCell ⟨g, 2, none⟩ a3).setCell ⟨g, 3, none⟩ a4).setCell ⟨g, 4, none⟩ a5).ownsRow b e s v n x :=
  own_set (own_set (own_set (own_set (own_set h hv) hv) hv) hv) hv
theorem flat_map {L : List PT} : L.flatMap (fun p => p.2.cells) = (L.map Prod.snd).flatMap VT.cells := by rw [List.flatMap_map]
theorem obj_lie {W : World} {b b' n kc cc : Nat} {kA cA : Option Addr} {L : List PT} (hk : W.ownsRow b 9 1 (.slice kA n kc) n (L.map fun p => Value.string p.1)) (hc : W.ownsRow b' 25 5 (.slice cA n cc) n (L.flatMap fun p => p.2.cells))
    (hL : ∀ p ∈ L, Lie W W.heap.size p.2 ∧ p.1.size ≤ maxLen) : Lie W W.heap.size (.mk 6 0 ⟨#[]⟩ cA n cc kA n kc (L.map Prod.fst) (L.map Prod.snd)) := by
  have hk1 : n ≤ kc ∧ kc ≤ maxLen ∧ (kA = none → kc = 0) := by
    rcases hk.2 with ⟨h, _⟩ | ⟨g, cap, cur, h, _, _, h1, h2, _⟩
    · injection h with h1 h2 h3; subst h1 h2 h3; exact ⟨Nat.le_refl _, Nat.zero_le _, fun _ => rfl⟩
    · injection h with e1 e2 e3; subst e1 e3; exact ⟨h1, h2, fun h => by cases h⟩
  have hc1 : n ≤ cc ∧ cc ≤ maxLen ∧ (cA = none → cc = 0) := by
    rcases hc.2 with ⟨h, _⟩ | ⟨g, cap, cur, h, _, _, h1, h2, _⟩
    · injection h with h1 h2 h3; subst h1 h2 h3; exact ⟨Nat.le_refl _, Nat.zero_le _, fun _ => rfl⟩
    · injection h with e1 e2 e3; subst e1 e3; exact ⟨h1, h2, fun h => by cases h⟩
  refine .mk (by rw [← flat_map]; exact Shows.own hc) (by rw [List.map_map]; exact Shows.own hk) ⟨by decide, by decide, by decide, hc1.1, hc1.2.1, hc1.2.2, hk1.1, hk1.2.1, hk1.2.2, ?_⟩ ?_
  · intro x hx
    obtain ⟨p, hp, rfl⟩ := List.mem_map.1 hx
    exact (hL p hp).2
  · intro x hx
    obtain ⟨p, hp, rfl⟩ := List.mem_map.1 hx
    exact (hL p hp).1
set_option maxRecDepth 20000 in
set_option maxHeartbeats 4000000 in
theorem object_any (A : Option Addr) (n c : Nat) (L L' : List PT) (B : Nat) (w : World) (h : Shows w B 6 A n (L.flatMap pCells)) (hA : A = none → c = 0) (hB : B ≤ w.heap.size) (hn : n ≤ 1000) (hl : L'.length = n)
    (hL : ∀ p ∈ L', Lie w B p.2 ∧ p.1.size ≤ maxLen) (htab : UTab w) (hst : STab w)
    (hsort : ∀ A c W base, W.ownsRow base 48 6 (.slice A n c) n (L.flatMap pCells) → base ≤ W.heap.size → Calls Tryd.prog 48 #[.slice A n c, .func (.func 49) #[] #[]] W fun e w' => e = .returned (.tuple #[]) ∧ Below base W w' ∧ Hid (Shows w' w'.heap.size 6 A n (L'.flatMap pCells))) :
    Calls Tryd.prog 30 #[.slice A n c] w fun e w' => Below w.heap.size w w' ∧
      (((∃ j, j < n ∧ dupJ L' j = true) ∧ e = .returned (.tuple #[zV, .int .i64 141])) ∨
       ((∀ j, j < n → dupJ L' j = false) ∧ ∃ kA kc cA cc, Lie w' w'.heap.size (.mk 6 0 ⟨#[]⟩ cA n cc kA n kc (L'.map Prod.fst) (L'.map Prod.snd)) ∧
        e = .returned (.tuple #[if VT.ok (.mk 6 0 ⟨#[]⟩ cA n cc kA n kc (L'.map Prod.fst) (L'.map Prod.snd)) = true then VT.agg (.mk 6 0 ⟨#[]⟩ cA n cc kA n kc (L'.map Prod.fst) (L'.map Prod.snd)) else zV, .int .i64 (if VT.ok (.mk 6 0 ⟨#[]⟩ cA n cc kA n kc (L'.map Prod.fst) (L'.map Prod.snd)) = true then 0 else 140)]))) := by
  have hb0 := bel_alloc (Below.refl w.heap.size w) (.cells #[.int .i64 0, .int .i64 0, .string ⟨#[]⟩, .slice none 0 0, .slice none 0 0] 25)
  have hr0 : VFive (w.alloc (.cells #[.int .i64 0, .int .i64 0, .string ⟨#[]⟩, .slice none 0 0, .slice none 0 0] 25)) w.heap.size (.int .i64 0) (.int .i64 0) (.string ⟨#[]⟩) (.slice none 0 0) (.slice none 0 0) := VFive.new _ _ _ _ _ _ _ _ rfl
  have hcl := cloneP_any A n c _ B _ (h.below (hb0.mono hB)) (pcells_one L) hA (Nat.le_trans hB hb0.size) hn
  unfold GivesRow at hcl
  have Hr0 := Lib.hid hr0
  have Hsort := Lib.hid hsort
  have HL := Lib.hid hL
  have Hl := Lib.hid hl
  obtain ⟨i1, hi1, hz1, hs1, hy1⟩ := vstr_info
  obtain ⟨i5, hi5, hz5, hs5, hy5⟩ := val_info
  clear hr0 hsort hL hl h
  go_enter Tryd.func30, Tryd.ntmps30
  go_wp2_with fail
  refine hcl.mono ?_
  rintro e w1 ⟨A1, c1, rfl, hown, hb1⟩
  have hb01 := bel_next hb0 hb1
  have hs1' := hb1.size
  have Hr1 := Lib.hid (Hr0.out.later hb1)
  go_wp2_with fail
  refine (Hsort.out A1 c1 w1 _ hown hs1').mono ?_
  rintro e w2 ⟨rfl, hb2, hS2⟩
  have Hr2 := Lib.hid (Hr1.out.upto hb2 (by simp) hs1')
  have hb02 : Below w.heap.size w w2 := hb01.trans (hb2.mono (by simp))
  have hsz2 := hb02.size
  have Hrlt := Hr2.out.lt
  clear hcl hown hb1 hb2 hs1' Hr0 Hr1 hb01
  have hJ0 : ObjJ (w2.alloc (.cells #[.int .i64 6, .int .i64 0, .string ⟨#[]⟩, .slice none 0 0, .slice none 0 0] 25)) w.heap.size w2.heap.size L' 0 none none 0 0 := ⟨VFive.new _ _ _ _ _ _ _ _ rfl, Hr2.out.alloc _, World.ownsRow_nil _ _ _ _, World.ownsRow_nil _ _ _ _⟩
  have hb3 := bel_alloc hb02 (.cells #[.int .i64 6, .int .i64 0, .string ⟨#[]⟩, .slice none 0 0, .slice none 0 0] 25)
  have hb23 := bel_alloc (Below.refl w2.heap.size w2) (.cells #[.int .i64 6, .int .i64 0, .string ⟨#[]⟩, .slice none 0 0, .slice none 0 0] 25)
  have HJ0 := Lib.hid hJ0
  clear hJ0
  go_wp2
  go_loopw [15] (fun i wr => ∃ (j : Nat) (kA cA : Option Addr) (kc cc : Nat), j ≤ n ∧ i = .int .i64 j ∧ Hid (∀ q, q < j → dupJ L' q = false) ∧ Hid (ObjJ wr w.heap.size w2.heap.size L' j kA cA kc cc) ∧ Below w.heap.size w wr ∧ Below w2.heap.size w2 wr) (fun i _ => n - (intOf i).toNat)
  case atStart => exact ⟨0, none, none, 0, 0, Nat.zero_le _, rfl, Lib.hid (fun q h => by omega), HJ0, hb3, hb23⟩
  case round =>
    obtain ⟨j, kA, cA, kc, cc, hj, rfl, HD, HJ, hbr, hb2r⟩ := hrel
    by_cases hlt : j < n
    · obtain ⟨b, off, x, T, rfl, hbb, hp, h6⟩ := pair_at (hS2.out.below hb2r) hlt
      have hlt' : (j : Int) < n := by omega
      have hj0 : (0 : Int) ≤ j := by omega
      obtain ⟨tk, tn, ts, tcA, tcn, tcc, tkA, tkn, tkc, tkeys, tkids⟩ := T
      obtain ⟨g0, g1, g2, g3, g4, g5⟩ := h6
      have Hp := Lib.hid hp
      clear hp
      go_wp2
      have hbp := bel_alloc (Below.refl wr.heap.size wr) (.cells #[.string x, .int .i64 tk, .int .i64 tn, .string ts, .slice tcA tcn tcc, .slice tkA tkn tkc] 48)
      have hpb : (wr.alloc (.cells #[.string x, .int .i64 tk, .int .i64 tn, .string ts, .slice tcA tcn tcc, .slice tkA tkn tkc] 48)).heap[wr.heap.size]? = some (.cells #[.string x, .int .i64 tk, .int .i64 tn, .string ts, .slice tcA tcn tcc, .slice tkA tkn tkc] 48 (0, 0)) := World.alloc_heap_new wr _
      have HJp := Lib.hid (HJ.out.later hbp)
      have hSp := Lib.hid ((hS2.out.below hb2r).below (hbp.mono hb2r.size))
      have hbrp := bel_next hbr hbp
      have hb2p := hb2r.trans (hbp.mono hb2r.size)
      have hszp : (wr.alloc (.cells #[.string x, .int .i64 tk, .int .i64 tn, .string ts, .slice tcA tcn tcc, .slice tkA tkn tkc] 48)).heap.size = wr.heap.size + 1 := World.size_alloc _ _
      have hprt : wr.heap.size < wr.heap.size + 1 := Nat.lt_succ_self _
      have hg2 := hb2r.size
      have hvl := HJ.out.v.lt
      generalize (wr.alloc (.cells #[.string x, .int .i64 tk, .int .i64 tn, .string ts, .slice tcA tcn tcc, .slice tkA tkn tkc] 48)) = Wp at *
      clear g0 g1 g2 g3 g4 g5 HJ hbr hb2r hbp
      go_cut [32] (fun s wx => s = .bool (dupJ L' j) ∧ Below Wp.heap.size Wp wx)
      case first =>
        have hk := keyAt_of Hp.out
        have c0 : Wp.cell? ⟨wr.heap.size, 0, none⟩ = some (.string x) := by simp [World.cell?, hpb]
        by_cases h0 : j = 0
        · subst h0
          have hd := Lib.hid (show dupJ L' 0 = false from rfl)
          go_quiet (fail)
          go_wp2
          go_meet
          case rel => exact ⟨by rw [hd.out], below_drewN (Below.refl _ _) _⟩
        · obtain ⟨b', off', x', T', e, _, hp', h6'⟩ := pair_at hSp.out (i := j - 1) (by omega)
          injection e with e
          injection e with e1 e2
          subst e1; subst e2
          obtain ⟨uk, un, us, ucA, ucn, ucc, ukA, ukn, ukc, ukeys, ukids⟩ := T'
          obtain ⟨p0, -⟩ := h6'
          have hd := Lib.hid (show dupJ L' j = (x'.toList == x.toList) by unfold dupJ; rw [hk, keyAt_of hp', decide_eq_true (by omega)]; rfl)
          have hjm : ((j : Int) - 1).toNat = j - 1 := by omega
          have hjp : (0 : Int) < j := by omega
          have hjn : 0 < j := by omega
          have hjw : RowKit.wrap64 ((j : Int) - 1) = (j : Int) - 1 := by unfold RowKit.wrap64; omega
          clear hp' hk
          go_quiet (fail)
          go_wp2
          go_meet
          case rel => exact ⟨by rw [hd.out], below_drewN (Below.refl _ _) _⟩
      case rest =>
        obtain ⟨rfl, hbc⟩ := hcut
        have HJc := Lib.hid (HJp.out.later hbc)
        have hpc : PBox wc wr.heap.size x (.mk tk tn ts tcA tcn tcc tkA tkn tkc tkeys tkids) := (hbc.block _ (by omega)).trans hpb
        have hbrc := bel_next hbrp hbc
        have hb2c := hb2p.trans (hbc.mono hb2p.size)
        have hszc := hbc.size
        have hszc2 := hbrc.size
        have hrb : w.heap.size < w2.heap.size := Hrlt
        clear hpb HJp hSp hbrp hb2p hbc
        cases hd : dupJ L' j
        · have hpb : wc.heap[wr.heap.size]? = some (.cells #[.string x, .int .i64 tk, .int .i64 tn, .string ts, .slice tcA tcn tcc, .slice tkA tkn tkc] 48 (0, 0)) := hpc
          have p0 : wc.cell? ⟨wr.heap.size, 0, none⟩ = some (.string x) := by simp [World.cell?, hpb]
          obtain ⟨⟨v0, v1, v2, v3, v4⟩, f0, f1, f2, f3, f4⟩ := HJc.out.v
          have HD' := Lib.hid (show ∀ q, q < j + 1 → dupJ L' q = false from fun q h => if e : q = j then e ▸ hd else HD.out q (by omega))
          clear hd hpb
          have hnew : Shows (wc.alloc (.cells #[.string x] 9)) (wc.heap.size + 1) 1 (some ⟨wc.heap.size, 0, none⟩) 1 [.string x] := ⟨rfl, fun _ => ⟨wc.heap.size, 0, rfl, Nat.lt_succ_self _, fun i v hv => by
            have hi : i < 1 := (List.getElem?_eq_some_iff.1 hv).1
            obtain rfl : i = 0 := by omega
            simp at hv; subst hv
            have := (Box.new wc #[.string x] 9 0 (.string x) (by simp)).1
            exact this⟩⟩
          go_wp2_with (first
            | (at_builtin; refine wpList_append_shows _ rfl _ _ 23 rfl (w2.heap.size + 1) 9 i1 (.string ⟨#[]⟩) 1 16 Tryd.underlying23 hi1 hz1 hs1 hy1 rfl (by decide) _ _ _ rfl (HJc.out.ks.alloc _) (wc.heap.size + 1) _ 1 1 [.string x] rfl hnew (by simp [Value.oneCell']) (by unfold maxLen; omega) (by omega) (by simp; omega) ?_; intro A7 c7 W7 hown7 hgrow7 hb7; obtain ⟨hv7, hr7, hp7, hk8, hc8⟩ := obj_one HJc.out hrb (by omega) hpc hgrow7 hb7 hown7 (.slice A7 (j + 1) c7); have hpb7 : W7.heap[wr.heap.size]? = some (.cells #[.string x, .int .i64 tk, .int .i64 tn, .string ts, .slice tcA tcn tcc, .slice tkA tkn tkc] 48 (0, 0)) := hp7; have q1 : W7.cell? ⟨wr.heap.size, 1, none⟩ = some (.int .i64 tk) := by { simp [World.cell?, hpb7] }; have q2 : W7.cell? ⟨wr.heap.size, 2, none⟩ = some (.int .i64 tn) := by { simp [World.cell?, hpb7] }; have q3 : W7.cell? ⟨wr.heap.size, 3, none⟩ = some (.string ts) := by { simp [World.cell?, hpb7] }; have q4 : W7.cell? ⟨wr.heap.size, 4, none⟩ = some (.slice tcA tcn tcc) := by { simp [World.cell?, hpb7] }; have q5 : W7.cell? ⟨wr.heap.size, 5, none⟩ = some (.slice tkA tkn tkc) := by { simp [World.cell?, hpb7] }; have Hv7 := Lib.hid hv7; obtain ⟨⟨a0, a1, a2, a3, a4⟩, b0, b1, b2, b3, b4⟩ := hv7; have n1 : (wr.heap.size = w2.heap.size) = False := by { simp; omega }; clear hpb7 hp7)
            | (at_builtin; have hnew5 : Shows ((W7.setCell ⟨w2.heap.size, 4, none⟩ (.slice A7 (j + 1) c7)).alloc (.cells #[.int .i64 tk, .int .i64 tn, .string ts, .slice tcA tcn tcc, .slice tkA tkn tkc] 25)) (W7.heap.size + 1) 5 (some ⟨W7.heap.size, 0, none⟩) 1 [.int .i64 tk, .int .i64 tn, .string ts, .slice tcA tcn tcc, .slice tkA tkn tkc] := shows5_new _ _ _ _ _ _ _ _ (by simp [World.setCell]); refine wpList_append_shows _ rfl _ _ 22 rfl (w2.heap.size + 1) 25 i5 (.agg #[.int .i64 0, .int .i64 0, .string ⟨#[]⟩, .slice none 0 0, .slice none 0 0]) 5 80 Tryd.underlying22 hi5 hz5 hs5 hy5 rfl (by decide) _ _ _ rfl (hc8.alloc _) (W7.heap.size + 1) _ 1 1 _ rfl hnew5 (by simp [Value.oneCell']) (by unfold maxLen; omega) (by omega) (by have := hb7.size; rw [World.size_alloc] at this; rw [World.size_alloc, size_set]; omega) ?_; intro A9 c9 W9 hown9 hgrow9 hb9; obtain ⟨hv9, hJ9⟩ := obj_two Hv7.out hr7 hrb Hp.out hk8 hc8 hgrow9 hb9 hown9; have HJ9 := Lib.hid hJ9; have hbA := Lib.hid (obj_bel (u' := .slice A9 (j + 1) c9) hbrc (Nat.le_of_lt hrb) (by omega) hb7 hb9); have hbB := Lib.hid (obj_bel (u' := .slice A9 (j + 1) c9) hb2c (Nat.le_refl _) (by omega) hb7 hb9); obtain ⟨⟨k0, k1, k2, k3, k4⟩, l0, l1, l2, l3, l4⟩ := hv9)
            | fail)
          go_roundw
          case rel => exact ⟨j + 1, A7, A9, c7, c9, by omega, by go_num, HD', HJ9, hbA.out, hbB.out⟩
          case measure => simp [intOf]; omega
        · have HDup := Lib.hid (show ∃ j, j < n ∧ dupJ L' j = true from ⟨j, hlt, hd⟩)
          obtain ⟨⟨e0, e1, e2, e3, e4⟩, f0, f1, f2, f3, f4⟩ := HJc.out.r
          have hle0 : w.heap.size ≤ w.heap.size := Nat.le_refl _
          clear hd
          go_wp2
          refine bodyPost_ret (v := .tuple #[.agg #[.int .i64 0, .int .i64 0, .string ⟨#[]⟩, .slice none 0 0, .slice none 0 0], .int .i64 141]) ?_ rfl ⟨vbelow_set5 hbrc hle0, .inl ⟨HDup.out, rfl⟩⟩
          simp [results, Tryd.results30, go_sem, *]
    · have hjn : j = n := by omega
      subst hjn
      have htk : L'.take j = L' := List.take_of_length_le (by rw [Hl.out]; exact Nat.le_refl _)
      have hJe := HJ.out
      have hks := hJe.ks
      have hcs := hJe.cs
      rw [htk] at hks hcs
      have hLie : Lie wr wr.heap.size (.mk 6 0 ⟨#[]⟩ cA j cc kA j kc (L'.map Prod.fst) (L'.map Prod.snd)) := obj_lie hks hcs (fun p hp => ⟨(HL.out p hp).1.later (hbr.mono hB) |>.more (Nat.le_trans hB hbr.size), (HL.out p hp).2⟩)
      have hch := checked_any wr.heap.size wr _ hLie (Nat.le_refl _) (htab.below hbr htab.lt) (hst.below hbr hst.lt)
      have HLie := Lib.hid hLie
      have HDn := Lib.hid HD.out
      simp only [VT.agg] at hch
      obtain ⟨⟨v0, v1, v2, v3, v4⟩, -⟩ := hJe.v
      have Hr := Lib.hid hJe.r
      have Hks := Lib.hid hks
      have Hcs := Lib.hid hcs
      have hle0 : w.heap.size ≤ w.heap.size := Nat.le_refl _
      have hrb : w.heap.size < w2.heap.size + 1 := Nat.lt_succ_of_lt Hrlt
      clear hJe hks hcs htk hLie
      cases hok : VT.ok (.mk 6 0 ⟨#[]⟩ cA j cc kA j kc (L'.map Prod.fst) (L'.map Prod.snd))
      · rw [hok] at hch
        simp only [Bool.false_eq_true, if_false, zV] at hch
        have Hok := Lib.hid hok
        clear hok
        go_wp2_with fail
        refine hch.mono ?_
        rintro e w5 ⟨rfl, hb5⟩
        obtain ⟨⟨e0, e1, e2, e3, e4⟩, f0, f1, f2, f3, f4⟩ := Hr.out.later hb5
        have hb6 := bel_next hbr hb5
        have hk5 := Lib.hid (own_below Hks.out hb5)
        have hc5 := Lib.hid (own_below Hcs.out hb5)
        clear v0 v1 v2 v3 v4
        go_wp2
        have hbf := vbelow_set5 (a := .int .i64 0) (b := .int .i64 0) (c := .string ⟨#[]⟩) (d := .slice none 0 0) (e := .slice none 0 0) hb6 hle0
        refine bodyPost_ret (v := .tuple #[.agg #[.int .i64 0, .int .i64 0, .string ⟨#[]⟩, .slice none 0 0, .slice none 0 0], .int .i64 140]) ?_ rfl ⟨hbf, .inr ⟨HDn.out, kA, kc, cA, cc, obj_lie (own_set5 hk5.out hrb) (own_set5 hc5.out hrb) (fun p hp => ⟨((HL.out p hp).1.later (hbf.mono hB)).more (Nat.le_trans hB hbf.size), (HL.out p hp).2⟩), by rw [Hok.out]; rfl⟩⟩
        simp [results, Tryd.results30, go_sem, *]
      · rw [hok] at hch
        simp only [if_true] at hch
        have Hok := Lib.hid hok
        clear hok
        go_wp2_with fail
        refine hch.mono ?_
        rintro e w5 ⟨rfl, hb5⟩
        obtain ⟨⟨e0, e1, e2, e3, e4⟩, f0, f1, f2, f3, f4⟩ := Hr.out.later hb5
        have hb6 := bel_next hbr hb5
        have hk5 := Lib.hid (own_below Hks.out hb5)
        have hc5 := Lib.hid (own_below Hcs.out hb5)
        clear v0 v1 v2 v3 v4
        go_wp2
        have hbf := vbelow_set5 (a := .int .i64 6) (b := .int .i64 0) (c := .string ⟨#[]⟩) (d := .slice cA j cc) (e := .slice kA j kc) hb6 hle0
        refine bodyPost_ret (v := .tuple #[.agg #[.int .i64 6, .int .i64 0, .string ⟨#[]⟩, .slice cA j cc, .slice kA j kc], .int .i64 0]) ?_ rfl ⟨hbf, .inr ⟨HDn.out, kA, kc, cA, cc, obj_lie (own_set5 hk5.out hrb) (own_set5 hc5.out hrb) (fun p hp => ⟨((HL.out p hp).1.later (hbf.mono hB)).more (Nat.le_trans hB hbf.size), (HL.out p hp).2⟩), by rw [Hok.out]; rfl⟩⟩
        simp [results, Tryd.results30, go_sem, *]
end Go.Proofs.YtnldiemggabdkaaDoor
