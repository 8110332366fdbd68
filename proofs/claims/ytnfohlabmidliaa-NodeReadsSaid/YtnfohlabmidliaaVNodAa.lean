import Derived.Test.YtnfohlabmidliaaGaf
import Derived.Test.YtnfohlabmidliaaVMonAE
import Derived.Test.YtnfohlabmidliaaVMonAC
/-
  Layer 14, plain: the reduction of a leaf, and of its parts.
-/
namespace Go.Proofs.Ytnfohlabmidliaa
open Go.RowKit
set_option linter.unusedVariables false

/-- An item as a row of layer 13. -/
def ItT.row (x : ItT) : ItemT := ⟨x.k.A, x.k.n, x.k.c, x.v.A, x.v.n, x.v.c, x.b, x.n⟩
theorem row_one (x : ItT) : x.row.one = x.red := rfl
theorem fold_rows : ∀ (L : List ItT) (a : RedT), (L.map ItT.red).foldl RedT.join a = (L.map ItT.row).foldl (fun a x => a.join x.one) a
  | [], a => rfl
  | x :: L, a => by
    rw [List.map_cons, List.map_cons, List.foldl_cons, List.foldl_cons, row_one]
    exact fold_rows L _
/-- The reduction of items. -/
def itR (L : List ItT) : RedT := allR (L.map ItT.row)
theorem itR_c (L : List ItT) : (itR L).c = L.length := by
  unfold itR
  rw [(allR_count _).2, List.length_map]
theorem all_items {L : List ItT} (h : L.length ≤ 1000) : jall (L.map ItT.red) = (itR L, 0) := by
  have hf : foldR (L.map ItT.red) = itR L := fold_rows L RedT.zero
  rw [← hf]
  refine jall_fold _ ?_ ?_
  · intro p hp
    obtain ⟨x, _, rfl⟩ := List.mem_map.1 hp
    exact one_is x.row
  · rw [hf, itR_c]
    omega
theorem itR_append (L M : List ItT) : itR (L ++ M) = (itR L).join (itR M) := by
  unfold itR
  rw [List.map_append, allR_append]
theorem itR_ok {L : List ItT} (hx : ∀ x ∈ L, R64 x.n) (h : L.length ≤ 1000) : (itR L).valid = true ∧ (itR L).ok := by
  have hk := allOk (L.map ItT.row) (by intro y hy; obtain ⟨x, hx', rfl⟩ := List.mem_map.1 hy; exact hx x hx') (by rw [List.length_map]; exact h)
  exact ⟨hk.valid, hk.ok (by rw [List.length_map]; exact h)⟩
theorem runOk_none : ∀ (L : List EnT) (p : Option (List UInt8)), runOk p L = true → runOk none L = true
  | [], _, _ => rfl
  | x :: L, none, h => h
  | x :: L, some q, h => by
    unfold runOk at h ⊢
    simp only [Bool.and_eq_true] at h ⊢
    exact ⟨h.1, h.2.2⟩
theorem runOk_front : ∀ (L M : List EnT) (p : Option (List UInt8)), runOk p (L ++ M) = true → runOk p L = true
  | [], _, p, _ => by cases p <;> rfl
  | x :: L, M, none, h => by
    rw [List.cons_append] at h
    unfold runOk at h ⊢
    simp only [Bool.and_eq_true] at h ⊢
    exact ⟨h.1, runOk_front L M _ h.2⟩
  | x :: L, M, some q, h => by
    rw [List.cons_append] at h
    unfold runOk at h ⊢
    simp only [Bool.and_eq_true] at h ⊢
    exact ⟨h.1, h.2.1, runOk_front L M _ h.2.2⟩
theorem runOk_back : ∀ (L M : List EnT) (p : Option (List UInt8)), runOk p (L ++ M) = true → runOk none M = true
  | [], M, p, h => runOk_none M p h
  | x :: L, M, none, h => by
    rw [List.cons_append] at h
    unfold runOk at h
    simp only [Bool.and_eq_true] at h
    exact runOk_back L M _ h.2
  | x :: L, M, some q, h => by
    rw [List.cons_append] at h
    unfold runOk at h
    simp only [Bool.and_eq_true] at h
    exact runOk_back L M _ h.2.2
/-- A leaf of items. -/
def leafT (A : Option Addr) (n c : Nat) (L : List ItT) : NoT := ⟨true, A, n, c, L, none, 0, 0, []⟩
theorem leaf_ok {A : Option Addr} {n c : Nat} {L : List ItT} (h1 : 1 ≤ n) (h2 : n ≤ 6) (hl : L.length = n) (hr : runOk none (L.map EnT.it) = true) : (leafT A n c L).okB = true ∧ (leafT A n c L).all = (itR L, 0) := by
  have ha : (leafT A n c L).all = (itR L, 0) := by
    show jall ((L.map EnT.it).map EnT.red) = _
    rw [List.map_map]
    exact all_items (L := L) (by omega)
  refine ⟨?_, ha⟩
  unfold NoT.okB
  rw [ha]
  simp only [Bool.and_eq_true, decide_eq_true_eq, and_true]
  exact ⟨by unfold NoT.shape leafT; simp; omega, hr⟩
/-- What a leaf that may be, of two items at least, says of its parts. -/
theorem leaf_parts {X : NoT} (hok : X.okB = true) (hl : X.leaf = true) (hn : X.I.length = X.iN) (hx : ∀ x ∈ X.I, R64 x.n) : 1 ≤ X.iN ∧ X.iN ≤ 6 ∧ X.all = (itR X.I, 0) ∧ runOk none (X.I.map EnT.it) = true := by
  obtain ⟨h1, h2, h3⟩ := okB_parts hok
  unfold NoT.shape at h1
  rw [if_pos hl] at h1
  have h1 := of_decide_eq_true h1
  have he : X.ents = X.I.map EnT.it := by unfold NoT.ents; rw [if_pos hl]
  refine ⟨h1.2.1, h1.2.2, ?_, by rw [← he]; exact h2⟩
  unfold NoT.all
  rw [he, List.map_map]
  exact all_items (L := X.I) (by omega)
end Go.Proofs.Ytnfohlabmidliaa
