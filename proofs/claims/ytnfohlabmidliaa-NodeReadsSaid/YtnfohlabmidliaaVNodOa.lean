import Derived.Test.YtnfohlabmidliaaGak
/-
  bytes.Clone; what is read is laid so again.
-/
namespace Go.Proofs.Ytnfohlabmidliaa
open Go.RowKit
set_option linter.unusedVariables false

set_option maxRecDepth 20000 in
set_option maxHeartbeats 2000000 in
theorem nbclone_any (A : Option Addr) (n c : Nat) (l : List UInt8) (B : Nat) (w : World) (h : Bytes w B A n l) (hA : A = none → c = 0) (hB : B ≤ w.heap.size) (hn : n ≤ 1000000) :
    Calls Try.prog 30 #[.slice A n c] w (GivesBytes 5 l w) := by
  have hnil := fun (W : World) (a : Option Addr) (n c : Nat) => Lib.run_eql_slice_nil (P := Try.prog) W 32 5 a n c 0 0 Try.underlying32
  rcases A with _ | a
  · obtain rfl := hA rfl
    obtain ⟨rfl, rfl⟩ := bytes_nil h
    go_enter Try.func30, Try.ntmps30
    go_wp2
    go_ret
    exact ⟨none, 0, 0, rfl, World.ownsRow_nil _ _ _ _, Below.refl _ _⟩
  obtain ⟨i0, hi, hz0, hz1, hz2⟩ := u8_info
  have own0 := World.ownsRow_lit (base := w.heap.size) (e := 5) (size := 1) w #[] 0 (Nat.le_refl _) (Nat.zero_le _) (by simp)
  have hb := bel_alloc (Below.refl w.heap.size w) (.cells #[] 5)
  have hs := (h.more hB).alloc (Nat.le_refl _) (.cells #[] 5)
  have hz : w.heap.size ≤ (w.alloc (.cells #[] 5)).heap.size := hb.size
  have g1 : 0 + n ≤ maxLen := by unfold maxLen; omega
  have g2 : (0 + n) * 1 ≤ 140737488355328 := by omega
  clear h
  go_enter Try.func30, Try.ntmps30
  go_wp2_with (at_builtin; refine wpList_append_shows _ rfl _ _ 32 rfl w.heap.size 5 i0 (.int .u8 0) 1 1 Try.underlying32 hi hz0 hz1 hz2 rfl (by decide) _ _ _ rfl own0 w.heap.size _ n _ (l.map bv) rfl hs (bv_one l) g1 g2 hz ?_; intro A7 c7 w7 hown7 hgrow7 hb7; have HO7 := Lib.hid hown7; have hb8 := hb.trans hb7; clear hown7 hgrow7 own0 hs hz hb7)
  go_ret
  have ho := HO7.out
  rw [Nat.zero_add, List.nil_append] at ho
  exact ⟨A7, n, c7, by first | rfl | simp, ho, hb8⟩
theorem put_it (x : ItT) : (EnT.it x).put = x.s.put := rfl
theorem items_some : ∀ (n : Nat) (b : List UInt8) (l : List ItS) (r : List UInt8), Nod.itemsO n b = some (l, r) → b = l.flatMap ItS.put ++ r ∧ l.length = n
  | 0, b, l, r, h => by
    unfold Nod.itemsO at h
    injection h with h
    injection h with h1 h2
    subst h1 h2
    exact ⟨rfl, rfl⟩
  | n + 1, b, l, r, h => by
    unfold Nod.itemsO at h
    cases hi : Nod.itemO b with
    | none => rw [hi] at h; cases h
    | some x =>
      rw [hi] at h
      have h' : ((Nod.itemsO n x.2).bind fun l => some (x.1 :: l.1, l.2)) = some (l, r) := h
      cases hl : Nod.itemsO n x.2 with
      | none => rw [hl] at h'; cases h'
      | some q =>
        rw [hl] at h'
        injection h' with h'
        injection h' with h1 h2
        subst h1 h2
        obtain ⟨e1, -⟩ := Nod.item_some (x := x.1) (r := x.2) hi
        obtain ⟨e2, hn⟩ := items_some n x.2 q.1 q.2 hl
        exact ⟨by rw [e1, List.flatMap_cons, List.append_assoc, ← e2], by rw [List.length_cons, hn]⟩
theorem kids_some : ∀ (n : Nat) (b : List UInt8) (l : List KiS) (r : List UInt8), Nod.kidsO n b = some (l, r) → b = l.flatMap KiS.put ++ r ∧ l.length = n
  | 0, b, l, r, h => by
    unfold Nod.kidsO at h
    injection h with h
    injection h with h1 h2
    subst h1 h2
    exact ⟨rfl, rfl⟩
  | n + 1, b, l, r, h => by
    unfold Nod.kidsO at h
    cases hi : Nod.kidO b with
    | none => rw [hi] at h; cases h
    | some x =>
      rw [hi] at h
      have h' : ((Nod.kidsO n x.2).bind fun l => some (x.1 :: l.1, l.2)) = some (l, r) := h
      cases hl : Nod.kidsO n x.2 with
      | none => rw [hl] at h'; cases h'
      | some q =>
        rw [hl] at h'
        injection h' with h'
        injection h' with h1 h2
        subst h1 h2
        obtain ⟨e1, -⟩ := Nod.kid_some (x := x.1) (r := x.2) hi
        obtain ⟨e2, hn⟩ := kids_some n x.2 q.1 q.2 hl
        exact ⟨by rw [e1, List.flatMap_cons, List.append_assoc, ← e2], by rw [List.length_cons, hn]⟩
theorem flat_it (L : List ItT) : (L.map EnT.it).flatMap EnT.put = (L.map ItT.s).flatMap ItS.put := by
  induction L with
  | nil => rfl
  | cons x L ih => rw [List.map_cons, List.flatMap_cons, ih, List.map_cons, List.flatMap_cons]; rfl
theorem flat_ki (L : List KiT) : (L.map EnT.ki).flatMap EnT.put = (L.map KiT.s).flatMap KiS.put := by
  induction L with
  | nil => rfl
  | cons x L ih => rw [List.map_cons, List.flatMap_cons, ih, List.map_cons, List.flatMap_cons]; rfl
/-- Bytes that are read are the node's. -/
theorem read_enc {b : List UInt8} {X : NoT} (h : readO b = some X.s) : X.enc = b := by
  cases h1 : Nod.numO 1 b with
  | none => rw [read_no1 h1] at h; cases h
  | some m =>
    obtain ⟨m, r1⟩ := m
    cases h2 : Nod.numO 1 r1 with
    | none => rw [read_no3 h1 h2] at h; cases h
    | some c =>
      obtain ⟨c, r2⟩ := c
      obtain ⟨e1, _⟩ := Nod.num_some h1
      obtain ⟨e2, hc⟩ := Nod.num_some h2
      by_cases hm1 : m = 1
      · subst hm1
        rw [read_leaf h1 h2] at h
        cases hi : Nod.itemsO c r2 with
        | none => rw [hi] at h; cases h
        | some p =>
          rw [hi] at h
          have h' : (if p.2 = [] then some (⟨true, p.1, []⟩ : NoS) else none) = some X.s := h
          by_cases hp : p.2 = []
          · rw [if_pos hp] at h'
            have hs := Option.some.inj h'
            obtain ⟨e3, hl⟩ := items_some c r2 p.1 p.2 hi
            have hlf : X.leaf = true := (congrArg NoS.leaf hs).symm
            have hI : X.I.map ItT.s = p.1 := (congrArg NoS.I hs).symm
            unfold NoT.enc NoT.ents
            rw [hlf, if_pos rfl, flat_it, List.length_map, hI, show X.I.length = c by rw [← hl, ← hI, List.length_map], e1, e2, e3, hp, List.append_nil, Nod.hi_one, Nod.hi_one]
            rfl
          · rw [if_neg hp] at h'; cases h'
      · by_cases hm2 : m = 2
        · subst hm2
          rw [read_inner h1 h2] at h
          cases hi : Nod.kidsO c r2 with
          | none => rw [hi] at h; cases h
          | some p =>
            rw [hi] at h
            have h' : (if p.2 = [] then some (⟨false, [], p.1⟩ : NoS) else none) = some X.s := h
            by_cases hp : p.2 = []
            · rw [if_pos hp] at h'
              have hs := Option.some.inj h'
              obtain ⟨e3, hl⟩ := kids_some c r2 p.1 p.2 hi
              have hlf : X.leaf = false := (congrArg NoS.leaf hs).symm
              have hK : X.K.map KiT.s = p.1 := (congrArg NoS.K hs).symm
              unfold NoT.enc NoT.ents
              rw [hlf, if_neg Bool.false_ne_true, flat_ki, List.length_map, hK, show X.K.length = c by rw [← hl, ← hK, List.length_map], e1, e2, e3, hp, List.append_nil, Nod.hi_one, Nod.hi_one]
              rfl
            · rw [if_neg hp] at h'; cases h'
        · rw [read_no2 h1 hm1 hm2] at h; cases h
end Go.Proofs.Ytnfohlabmidliaa
