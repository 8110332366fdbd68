import Derived.Test.YtnfohlabmidliaaVNodOf
import Derived.Test.YtnfohlabmidliaaVNodOa
import Derived.Test.YtnfohlabmidliaaGak
/-
  Layer 14, plain: how long an encoding is; a part of it is none's.
-/
namespace Go.Proofs.Ytnfohlabmidliaa
open Go.RowKit
set_option linter.unusedVariables false

theorem nshows_new (w : World) (C : Array Value) (t : TypeId) (m size : Nat) (hl : C.toList.length = m * size) : Shows (w.alloc (.cells C t)) (w.heap.size + 1) size (some ⟨w.heap.size, 0, none⟩) m C.toList :=
  ⟨hl, fun _ => ⟨w.heap.size, 0, rfl, by omega, fun j u hu => by rw [Nat.zero_add, World.cell?_alloc_new]; simpa using hu⟩⟩
/-- '[]T{x}'. -/
theorem enc_len {w : World} {B : Nat} {X : NoT} (hX : LieN w B X) (h : X.okB = true) : X.enc.length ≤ 1442 := by
  obtain ⟨hs, hr, -⟩ := okB_parts h
  have hall := runOk_all _ _ hr
  have hn := (shape_len hX hs).1
  have key : ∀ L : List EnT, (∀ x ∈ L, x.okB = true) → (L.flatMap EnT.put).length ≤ 240 * L.length := by
    intro L
    induction L with
    | nil => intro _; simp
    | cons x L ih =>
      intro hL
      rw [List.flatMap_cons, List.length_append, List.length_cons]
      have h1 := put_len (hL x List.mem_cons_self)
      have h2 := ih fun y hy => hL y (List.mem_cons_of_mem _ hy)
      omega
  unfold NoT.enc
  rw [List.length_append]
  have := key _ hall
  simp only [List.length_cons, List.length_nil]
  omega
theorem cut_bad {w wz : World} {B Bz : Nat} {X Z : NoT} (hX : LieN w B X) (h : X.okB = true) {i : Nat} (hi : i < X.enc.length) (hZ : LieN wz Bz Z) (hr : readO (X.enc.take i) = some Z.s) (hz : Z.okB = true) : False := by
  have he : Z.enc = X.enc.take i := read_enc hr
  have h1 := enc_read hZ hz (X.enc.drop i)
  rw [he, List.take_append_drop] at h1
  have h2 := enc_read hX h []
  rw [List.append_nil, if_pos rfl] at h2
  rw [h2, if_neg (by intro hd; have := List.drop_eq_nil_iff.1 hd; omega)] at h1
  cases h1
theorem more_bad {w : World} {B : Nat} {X : NoT} (hX : LieN w B X) (h : X.okB = true) (b : UInt8) : readO (X.enc ++ [b]) = none := by
  rw [enc_read hX h, if_neg (by simp)]
theorem back_same {w : World} {B : Nat} {X Z : NoT} (hX : LieN w B X) (h : X.okB = true) (hz : Z.okB = true) (hr : readO X.enc = some Z.s) : sameN Z X = true := by
  have h2 := enc_read hX h []
  rw [List.append_nil, if_pos rfl, hr] at h2
  have he : Z.enc = X.enc := enc_s (Option.some.inj h2)
  unfold sameN
  rw [h, hz, he]
  show sameB X.enc X.enc = true
  unfold sameB
  exact decide_eq_true rfl
end Go.Proofs.Ytnfohlabmidliaa
