/-
  Layer 10, plain: right files stay right, whatever is done; durable bytes stay. A file in a variable.
-/
import Derived.Test.YthoenmggjbojoaaFilAK
namespace Go.Proofs.Ythoenmggjbojoaa
open Go.RowKit
set_option linter.unusedVariables false

def FileS.right (S : FileS) : Bool := S.loose.all (fun l => !(l.length == 0)) && (decide (-1 ≤ S.fuse) && (decide (-1 ≤ S.fault) && ((!S.off || S.fuse == -1) && decide (S.all.length ≤ 524288))))
theorem rightS {S : FileS} : S.right = true ↔ (∀ l ∈ S.loose, l ≠ []) ∧ -1 ≤ S.fuse ∧ -1 ≤ S.fault ∧ (S.off = true → S.fuse = -1) ∧ S.all.length ≤ 524288 := by
  unfold FileS.right
  simp only [Bool.and_eq_true, decide_eq_true_eq, List.all_eq_true, Bool.or_eq_true, Bool.not_eq_true', beq_iff_eq, beq_eq_false_iff_ne]
  constructor
  · rintro ⟨h1, h2, h3, h4, h5⟩
    refine ⟨fun l hl e => h1 l hl (by rw [e]; rfl), h2, h3, fun ho => ?_, h5⟩
    rcases h4 with h4 | h4
    · rw [ho] at h4; cases h4
    · exact h4
  · rintro ⟨h1, h2, h3, h4, h5⟩
    refine ⟨fun l hl e => h1 l hl (List.eq_nil_of_length_eq_zero e), h2, h3, ?_, h5⟩
    cases ho : S.off
    · exact .inl rfl
    · exact .inr (h4 ho)
theorem right_s {w : World} {B : Nat} {X : FileT} (h : LieF w B X) : X.right = X.s.right := by
  have hall : X.s.all = X.all := all_s X
  have e : X.all.length = X.F.n + sumN X.L := by unfold FileT.all; rw [List.length_append, h.firm.len, sumN_len h.loose]
  obtain ⟨h1, h2⟩ := lenGo_is X.L X.F.n
  unfold FileT.right FileS.right
  rw [hall, show decide (X.long ≤ 524288) = decide (X.all.length ≤ 524288) from by
    apply decide_eq_decide.2
    unfold FileT.long
    by_cases hs : X.F.n + sumN X.L ≤ 524288
    · rw [h1 hs, e]
    · have := h2 (by omega); omega]
  congr 1
  show X.L.all (fun p => !(p.n == 0)) = (X.L.map (·.l)).all (fun l => !(l.length == 0))
  rw [List.all_map, Bool.eq_iff_iff, List.all_eq_true, List.all_eq_true]
  constructor
  · intro q p hp
    have := q p hp
    rw [← (h.loose p hp).len] at this
    exact this
  · intro q p hp
    have := q p hp
    rw [← (h.loose p hp).len]
    exact this
theorem long_s {w : World} {B : Nat} {X : FileT} (h : LieF w B X) (hr : X.right = true) : X.long = X.s.all.length := by rw [all_s]; exact (right_all h hr).1
theorem all_len (S : FileS) : S.all.length = S.firm.length + S.loose.flatten.length := by unfold FileS.all; exact List.length_append
theorem asked_right {S : FileS} (h : S.right = true) (more : Nat) : (S.asked S.all.length more).1.right = true := by
  obtain ⟨h1, h2, h3, h4, h5⟩ := rightS.1 h
  have h6 : (S.asked S.all.length more).1.all = S.all := by
    obtain ⟨e1, e2⟩ := asked_same S S.all.length more
    generalize S.asked S.all.length more = q at *
    unfold FileS.all
    rw [e1, e2]
  have h7 := asked_same S S.all.length more
  refine rightS.2 ⟨by rw [h7.2]; exact h1, ?_, ?_, ?_, by rw [h6]; exact h5⟩
  all_goals
    unfold FileS.asked
    split
    · assumption
    · split
      · assumption
      · split
        · first | assumption | exact Int.le_refl _
        · dsimp only
          split
          · first | exact Int.le_refl _ | (intro _; rfl) | (show -1 ≤ (if 0 < S.fault then S.fault - 1 else S.fault); split <;> omega)
          · first | (show -1 ≤ (if 0 < S.fault then S.fault - 1 else S.fault); split <;> omega) | (show -1 ≤ (if 0 < S.fuse then S.fuse - 1 else S.fuse); split <;> omega) | (intro ho; have := h4 ho; omega) | (intro ho; exact absurd ho (by assumption))
theorem asked_fits {S : FileS} {long more : Nat} (h : (S.asked long more).2 = 0) : long + more ≤ 524288 := by
  unfold FileS.asked at h
  split at h
  · cases h
  · split at h
    · cases h
    · omega
theorem append_right {S : FileS} (h : S.right = true) {b : List UInt8} (hb : b ≠ []) : (S.append S.all.length b).1.right = true := by
  have ha := asked_right h b.length
  unfold FileS.append
  split
  · rename_i h0
    obtain ⟨h1, h2, h3, h4, h5⟩ := rightS.1 ha
    have h7 := asked_same S S.all.length b.length
    have hf := asked_fits h0
    refine rightS.2 ⟨?_, h2, h3, h4, ?_⟩
    · intro l hl
      rcases List.mem_append.1 hl with hl | hl
      · rw [← h7.2] at hl; exact h1 l hl
      · obtain rfl := List.mem_singleton.1 hl
        exact hb
    · generalize S.asked S.all.length b.length = q at *
      rw [all_len] at hf
      show (q.1.firm ++ (S.loose ++ [b]).flatten).length ≤ 524288
      rw [h7.1, List.flatten_append, List.length_append, List.length_append]
      simp only [List.flatten_cons, List.flatten_nil, List.append_nil]
      omega
  · exact ha
theorem sync_right {S : FileS} (h : S.right = true) : (S.sync S.all.length).1.right = true := by
  have ha := asked_right h 0
  have h5' := (rightS.1 h).2.2.2.2
  unfold FileS.sync
  split
  · obtain ⟨h1, h2, h3, h4, h5⟩ := rightS.1 ha
    refine rightS.2 ⟨fun l hl => (List.not_mem_nil hl).elim, h2, h3, h4, ?_⟩
    show (S.all ++ ([] : List (List UInt8)).flatten).length ≤ 524288
    rw [List.flatten_nil, List.append_nil]
    exact h5'
  · exact ha
theorem crashGo_len (keep : List Bool) (tear cut : Int) : ∀ (L : List (List UInt8)) (i a : Nat) (f : List UInt8), f.length ≤ a → f <+: crashGo keep tear cut L i a f ∧ (crashGo keep tear cut L i a f).length ≤ a + L.flatten.length
  | [], i, a, f, h => by simp [crashGo]; exact h
  | l :: L, i, a, f, h => by
    have hs := survN_le l i keep tear cut
    unfold crashGo
    rw [List.flatten_cons, List.length_append]
    by_cases h0 : 0 < survN l i keep tear cut
    · rw [if_pos h0]
      have hl : (f ++ zerosU (a - f.length) ++ l.take (survN l i keep tear cut)).length ≤ a + l.length := by
        rw [List.length_append, List.length_append, zerosU_len, List.length_take]
        omega
      obtain ⟨h1, h2⟩ := crashGo_len keep tear cut L (i + 1) (a + l.length) _ hl
      refine ⟨?_, by omega⟩
      rw [List.append_assoc] at h1
      exact (List.prefix_append _ _).trans (by rw [List.append_assoc]; exact h1)
    · rw [if_neg h0]
      obtain ⟨h1, h2⟩ := crashGo_len keep tear cut L (i + 1) (a + l.length) f (by omega)
      exact ⟨h1, by omega⟩
theorem crash_right {S : FileS} (h : S.right = true) (keep : List Bool) (tear cut : Int) : (S.crash keep tear cut).right = true := by
  have h5 := (rightS.1 h).2.2.2.2
  rw [all_len] at h5
  refine rightS.2 ⟨fun l hl => (List.not_mem_nil hl).elim, Int.le_refl _, Int.le_refl _, fun h => (by cases h), ?_⟩
  show (crashGo keep tear cut S.loose 0 S.firm.length S.firm ++ ([] : List (List UInt8)).flatten).length ≤ 524288
  rw [List.flatten_nil, List.append_nil]
  have := (crashGo_len keep tear cut S.loose 0 S.firm.length S.firm (Nat.le_refl _)).2
  omega
theorem doS_right {S : FileS} (h : S.right = true) (x : DeedT) (hb : x.bytes.l.length = x.bytes.n) : (doS S S.all.length x).1.right = true := by
  obtain ⟨h1, h2, h3, h4, h5⟩ := rightS.1 h
  unfold doS
  split
  · exact sync_right h
  · split
    · split
      · exact h
      · exact rightS.2 ⟨h1, by show -1 ≤ max x.n (-1); omega, h3, fun h => (by cases h), h5⟩
    · split
      · split
        · exact h
        · exact rightS.2 ⟨h1, h2, by show -1 ≤ max x.n (-1); omega, fun h => (by cases h), h5⟩
      · split
        · exact crash_right h _ _ _
        · split
          · exact h
          · exact append_right h (fun e => by rw [e] at hb; simp at hb; omega)
theorem asked_errs (S : FileS) (long more : Nat) : (S.asked long more).2 = 0 ∨ (S.asked long more).2 = 8 ∨ (S.asked long more).2 = 9 ∨ (S.asked long more).2 = 10 := by
  unfold FileS.asked
  split
  · exact .inr (.inr (.inr rfl))
  · split
    · exact .inr (.inl rfl)
    · split
      · exact .inr (.inr (.inl rfl))
      · dsimp only
        split
        · exact .inr (.inr (.inr rfl))
        · exact .inl rfl
theorem n200 {k : Int} (h : (k == 200) = false) : k ≠ 200 := beq_eq_false_iff_ne.1 h
/-- Durable bytes stay; an operation is refused as an invalid argument only if it is an Append of nothing. -/
theorem doS_stays (S : FileS) (long : Nat) (x : DeedT) : S.firm <+: (doS S long x).1.firm ∧ ((doS S long x).2 ≠ 200) ∧ ((doS S long x).2 = 2 → whichN x.kind < 3 ∧ x.bytes.n = 0) := by
  have hq := (which_is x.kind).2
  have ha : ∀ more, S.firm <+: (S.asked long more).1.firm ∧ (S.asked long more).2 ≠ 200 ∧ (S.asked long more).2 ≠ 2 := fun more => by
    refine ⟨by rw [(asked_same S long more).1]; exact List.prefix_refl _, ?_, ?_⟩
    · rcases asked_errs S long more with h | h | h | h <;> rw [h] <;> decide
    · rcases asked_errs S long more with h | h | h | h <;> rw [h] <;> decide
  unfold doS
  split
  · unfold FileS.sync
    split
    · exact ⟨by show S.firm <+: S.all; unfold FileS.all; exact List.prefix_append _ _, n200 rfl, fun h => by cases h⟩
    · exact ⟨(ha 0).1, (ha 0).2.1, fun h => absurd h (ha 0).2.2⟩
  · split
    · split
      · exact ⟨List.prefix_refl _, n200 rfl, fun h => by cases h⟩
      · exact ⟨List.prefix_refl _, n200 rfl, fun h => by cases h⟩
    · split
      · split
        · exact ⟨List.prefix_refl _, n200 rfl, fun h => by cases h⟩
        · exact ⟨List.prefix_refl _, n200 rfl, fun h => by cases h⟩
      · split
        · exact ⟨(crashGo_len _ _ _ _ _ _ _ (Nat.le_refl _)).1, n200 rfl, fun h => by cases h⟩
        · split
          · exact ⟨List.prefix_refl _, n200 rfl, fun _ => ⟨by omega, by assumption⟩⟩
          · unfold FileS.append
            split
            · exact ⟨by rw [(asked_same S long _).1]; exact List.prefix_refl _, n200 rfl, fun h => by cases h⟩
            · exact ⟨(ha _).1, (ha _).2.1, fun h => absurd h (ha _).2.2⟩
/-- A file in a variable. -/
structure FAt (W : World) (g : Nat) (X : FileT) : Prop where
  v : FVar W g (.slice X.F.A X.F.n X.F.c) (.slice X.lA X.ln X.lc) (.int .i64 X.fuse) (.int .i64 X.fault) (.bool X.off)
  l : LieF W W.heap.size X
  a : AwayF X g
theorem FAt.new {w : World} {X : FileT} (h : LieF w w.heap.size X) (t : TypeId) : FAt (w.alloc (.cells #[.slice X.F.A X.F.n X.F.c, .slice X.lA X.ln X.lc, .int .i64 X.fuse, .int .i64 X.fault, .bool X.off] t)) w.heap.size X :=
  ⟨FVar.new _ _ _ _ _ _ _, (h.later ((Below.refl _ _).alloc (Nat.le_refl _) _)).more (by simp), h.away (Nat.le_refl _)⟩
theorem FAt.later {W W' : World} {g : Nat} {X : FileT} (h : FAt W g X) (hb : Below W.heap.size W W') : FAt W' g X := ⟨h.v.later hb, (h.l.later hb).more hb.size, h.a⟩
theorem FVar.set5 {W : World} {g : Nat} {a b c d e a' b' c' d' e' : Value} (h : FVar W g a b c d e) : FVar (set5F W g a' b' c' d' e') g a' b' c' d' e' :=
  ((((h.set0 a').set1 b').set2 c').set3 d').set4 e'
theorem FAt.set {W : World} {g : Nat} {a b c d e : Value} {Y : FileT} (h : FVar W g a b c d e) (hl : LieF W W.heap.size Y) (ha : AwayF Y g) :
    FAt (set5F W g (.slice Y.F.A Y.F.n Y.F.c) (.slice Y.lA Y.ln Y.lc) (.int .i64 Y.fuse) (.int .i64 Y.fault) (.bool Y.off)) g Y :=
  ⟨h.set5, lie_res hl ha, ha⟩
end Go.Proofs.Ythoenmggjbojoaa
