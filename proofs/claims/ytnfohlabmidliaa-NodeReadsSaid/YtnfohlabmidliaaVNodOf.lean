import Derived.Test.YtnfohlabmidliaaVNodOa
/-
  Plain: an encoding is read as the node that it is of.
-/
namespace Go.Proofs.Ytnfohlabmidliaa
open Go.RowKit
set_option linter.unusedVariables false

theorem itemsO_put : ∀ (L : List ItT) (r : List UInt8), (∀ x ∈ L, x.okB = true ∧ R64 x.n) → Nod.itemsO L.length ((L.map ItT.s).flatMap ItS.put ++ r) = some (L.map ItT.s, r)
  | [], r, _ => rfl
  | x :: L, r, h => by
    have hx := h x (List.mem_cons_self ..)
    have h1 := it_okB hx.1
    rw [List.map_cons, List.flatMap_cons, List.append_assoc, List.length_cons, items_yes (Nod.item_put x.s _ (by show x.k.l.length ≤ 255; omega) (by show x.v.l.length ≤ 255; omega) hx.2), itemsO_put L r fun y hy => h y (List.mem_cons_of_mem _ hy)]
    rfl
theorem kidsO_put : ∀ (L : List KiT) (r : List UInt8), (∀ x ∈ L, x.okB = true ∧ x.r.ok) → Nod.kidsO L.length ((L.map KiT.s).flatMap KiS.put ++ r) = some (L.map KiT.s, r)
  | [], r, _ => rfl
  | x :: L, r, h => by
    have hx := h x (List.mem_cons_self ..)
    have h1 := ki_okB hx.1
    have h2 := valid_bounds x.r h1.2.2.1
    rw [List.map_cons, List.flatMap_cons, List.append_assoc, List.length_cons, kids_yes (Nod.kid_put x.s _ (by show x.k.l.length ≤ 255; omega) (by show 0 ≤ x.a ∧ x.a < 4294967296; omega) (by show 0 ≤ x.r.c ∧ x.r.c < 4294967296; omega) (by show 0 ≤ x.r.i ∧ x.r.i < 4294967296; omega) hx.2), kidsO_put L r fun y hy => h y (List.mem_cons_of_mem _ hy)]
    rfl
/-- An encoding, read; with something behind it, not. -/
theorem enc_read {w : World} {B : Nat} {X : NoT} (hX : LieN w B X) (h : X.okB = true) (r : List UInt8) : readO (X.enc ++ r) = if r = [] then some X.s else none := by
  obtain ⟨hs, hr, -⟩ := okB_parts h
  have hall := runOk_all _ _ hr
  have hn : X.ents.length ≤ 6 := (shape_len hX hs).1
  have e0 : X.enc ++ r = Nod.hiL (markN X.leaf).toNat 1 ++ (Nod.hiL X.ents.length 1 ++ (X.ents.flatMap EnT.put ++ r)) := by
    unfold NoT.enc
    rw [Nod.hi_one, Nod.hi_one, UInt8.ofNat_toNat]
    simp
  have h1 := Nod.num_hi 1 (markN X.leaf).toNat (Nod.hiL X.ents.length 1 ++ (X.ents.flatMap EnT.put ++ r)) (by have := (markN X.leaf).toNat_lt; omega)
  have h2 := Nod.num_hi 1 X.ents.length (X.ents.flatMap EnT.put ++ r) (by show _ < 256; omega)
  have hshape := hs
  unfold NoT.shape at hshape
  cases hl : X.leaf
  · have hen : X.ents = X.K.map .ki := by unfold NoT.ents; rw [hl, if_neg Bool.false_ne_true]
    rw [hl, if_neg Bool.false_ne_true] at hshape
    have hsh := of_decide_eq_true hshape
    have hI : X.I = [] := List.eq_nil_of_length_eq_zero (by rw [hX.ilen]; exact hsh.1)
    rw [e0]
    rw [hl] at h1 ⊢
    rw [read_inner h1 h2, hen, flat_ki, List.length_map, kidsO_put X.K r fun x hx => ⟨hall (.ki x) (by rw [hen]; exact List.mem_map.2 ⟨x, hx, rfl⟩), (hX.kids x hx).red⟩]
    show (if r = [] then some (⟨false, [], X.K.map KiT.s⟩ : NoS) else none) = _
    unfold NoT.s
    rw [hl, hI]
    rfl
  · have hen : X.ents = X.I.map .it := by unfold NoT.ents; rw [hl, if_pos rfl]
    rw [hl, if_pos rfl] at hshape
    have hsh := of_decide_eq_true hshape
    have hK : X.K = [] := List.eq_nil_of_length_eq_zero (by rw [hX.klen]; exact hsh.1)
    rw [e0]
    rw [hl] at h1 ⊢
    rw [read_leaf h1 h2, hen, flat_it, List.length_map, itemsO_put X.I r fun x hx => ⟨hall (.it x) (by rw [hen]; exact List.mem_map.2 ⟨x, hx, rfl⟩), (hX.items x hx).num⟩]
    show (if r = [] then some (⟨true, X.I.map ItT.s, []⟩ : NoS) else none) = _
    unfold NoT.s
    rw [hl, hK]
    rfl
end Go.Proofs.Ytnfohlabmidliaa
