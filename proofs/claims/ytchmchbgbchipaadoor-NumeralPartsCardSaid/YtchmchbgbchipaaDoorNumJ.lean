/-
  Layer 3, plain: a numeral with a point or an exponent.
-/
import Derived.Test.YtchmchbgbchipaaDoorNumI
namespace Go.Proofs.YtchmchbgbchipaaDoor

/-- The parts that make a numeral no integer. -/
def partL : Nat → List UInt8
  | 0 => [46]
  | 1 => [101]
  | 2 => [69]
  | 3 => [101, 43]
  | 4 => [69, 45]
  | _ => [46, 48, 101]
theorem tail_frac (rest : List UInt8) (h2 : tk [101, 69] rest (runP rest 0) = false) : restP ([46] ++ rest) 0 = (1 + runP rest 0, true, decide (runP rest 0 ≠ 0)) := by
  have h1 : tk [46] ([46] ++ rest) 0 = true := tk_head _ _ _
  have hr : runP ([46] ++ rest) (0 + 1) = 1 + runP rest 0 := run_behind [46] rest 0
  by_cases h0 : runP rest 0 = 0
  · rw [rest_point h1 (by rw [hr, h0]), h0]; rfl
  · rw [rest_frac (frac_yes h1 (by rw [hr]; omega)), hr]
    have he : tk [101, 69] ([46] ++ rest) (1 + runP rest 0) = false := by
      have := tk_behind [101, 69] [46] rest (runP rest 0)
      rw [← h2]; exact this
    rw [expo_none he]
    simp [h0]
/-- Behind e or E at a place, with a sign or none. -/
theorem expo_mark (x rest : List UInt8) (c : UInt8) (sg : List UInt8) (hc : c = 101 ∨ c = 69) (hs : sg = [] ∧ tk [43, 45] rest 0 = false ∨ sg = [43] ∨ sg = [45]) :
    expoP (x ++ (c :: (sg ++ rest))) x.length = (x.length + (1 + (sg.length + runP rest 0)), true, decide (runP rest 0 ≠ 0)) := by
  have hb := expo_behind x (c :: (sg ++ rest)) 0
  rw [Nat.add_zero] at hb
  rw [hb]
  have h1 : tk [101, 69] (c :: (sg ++ rest)) 0 = true := by
    rw [tk_head]
    rcases hc with rfl | rfl <;> decide
  have hst : stepP [43, 45] (c :: (sg ++ rest)) (0 + 1) = 1 + sg.length := by
    have h := step_behind [43, 45] [c] (sg ++ rest) 0
    have h' : stepP [43, 45] (c :: (sg ++ rest)) (0 + 1) = 1 + stepP [43, 45] (sg ++ rest) 0 := h
    rw [h']
    rcases hs with ⟨rfl, hs⟩ | rfl | rfl
    · rw [List.nil_append, step_no hs]; rfl
    · rw [step_yes (show tk [43, 45] ([43] ++ rest) 0 = true from tk_head _ _ _)]; rfl
    · rw [step_yes (show tk [43, 45] ([45] ++ rest) 0 = true from tk_head _ _ _)]; rfl
  have hr : runP (c :: (sg ++ rest)) (1 + sg.length) = 1 + (sg.length + runP rest 0) := by
    have h := run_behind ([c] ++ sg) rest 0
    rw [List.append_assoc] at h
    have h' : runP (c :: (sg ++ rest)) (([c] ++ sg).length + 0) = ([c] ++ sg).length + runP rest 0 := h
    rw [List.length_append, List.length_singleton, Nat.add_zero] at h'
    rw [h']; omega
  by_cases h0 : runP rest 0 = 0
  · rw [expo_no h1 (by rw [hst, hr, h0]; omega), hst, h0]
    rfl
  · rw [expo_yes h1 (by rw [hst, hr]; omega), hst, hr]
    simp [h0]
theorem rest_mark (rest : List UInt8) (c : UInt8) (sg : List UInt8) (hc : c = 101 ∨ c = 69) (hs : sg = [] ∧ tk [43, 45] rest 0 = false ∨ sg = [43] ∨ sg = [45]) :
    restP (c :: (sg ++ rest)) 0 = (1 + (sg.length + runP rest 0), true, decide (runP rest 0 ≠ 0)) := by
  have h46 : tk [46] (c :: (sg ++ rest)) 0 = false := by
    rw [tk_head]
    rcases hc with rfl | rfl <;> decide
  have he := expo_mark [] rest c sg hc hs
  rw [List.nil_append, List.length_nil, Nat.zero_add] at he
  rw [rest_frac (frac_none h46), he]
  rfl
theorem tail_both (rest : List UInt8) (hs : tk [43, 45] rest 0 = false) : restP ([46, 48] ++ (101 :: ([] ++ rest))) 0 = (2 + (1 + (0 + runP rest 0)), true, decide (runP rest 0 ≠ 0)) := by
  have h1 : tk [46] ([46, 48] ++ (101 :: ([] ++ rest))) 0 = true := tk_head _ _ _
  have hd1 : tk dset ([46, 48] ++ (101 :: ([] ++ rest))) (0 + 1) = true := tk_behind dset [46] (48 :: (101 :: ([] ++ rest))) 0
  have hd2 : tk dset ([46, 48] ++ (101 :: ([] ++ rest))) (0 + 1 + 1) = false := by
    have := tk_behind dset [46, 48] (101 :: ([] ++ rest)) 0
    rw [tk_head] at this
    exact this.trans (by decide)
  have hr : runP ([46, 48] ++ (101 :: ([] ++ rest))) (0 + 1) = 2 := by rw [run_yes hd1, run_no hd2]
  have he := expo_mark [46, 48] rest 101 [] (.inl rfl) (.inl ⟨rfl, hs⟩)
  rw [rest_frac (frac_yes h1 (by rw [hr]; decide)), hr]
  have he' : expoP ([46, 48] ++ (101 :: ([] ++ rest))) 2 = (2 + (1 + (0 + runP rest 0)), true, decide (runP rest 0 ≠ 0)) := he
  rw [he']
  rfl
/-- A part, and what stands behind. -/
theorem rest_parts (k : Nat) (rest : List UInt8) (hs : tk [43, 45] rest 0 = false) (h2 : tk [101, 69] rest (runP rest 0) = false) :
    restP (partL k ++ rest) 0 = ((partL k).length + runP rest 0, true, decide (runP rest 0 ≠ 0)) := by
  match k with
  | 0 => exact tail_frac rest h2
  | 1 => have := rest_mark rest 101 [] (.inl rfl) (.inl ⟨rfl, hs⟩); rw [show partL 1 ++ rest = 101 :: ([] ++ rest) from rfl, this]; simp [partL]
  | 2 => have := rest_mark rest 69 [] (.inr rfl) (.inl ⟨rfl, hs⟩); rw [show partL 2 ++ rest = 69 :: ([] ++ rest) from rfl, this]; simp [partL]
  | 3 => have := rest_mark rest 101 [43] (.inl rfl) (.inr (.inl rfl)); rw [show partL 3 ++ rest = 101 :: ([43] ++ rest) from rfl, this]; simp [partL]; omega
  | 4 => have := rest_mark rest 69 [45] (.inr rfl) (.inr (.inr rfl)); rw [show partL 4 ++ rest = 69 :: ([45] ++ rest) from rfl, this]; simp [partL]; omega
  | k + 5 => have := tail_both rest hs; rw [show partL (k + 5) ++ rest = [46, 48] ++ (101 :: ([] ++ rest)) from rfl, this]; simp [partL]; omega
theorem part_head (k : Nat) (rest : List UInt8) : noDigit (partL k ++ rest) := by
  unfold noDigit
  match k with
  | 0 => exact (tk_head _ _ _).trans (by decide)
  | 1 => exact (tk_head _ _ _).trans (by decide)
  | 2 => exact (tk_head _ _ _).trans (by decide)
  | 3 => exact (tk_head _ _ _).trans (by decide)
  | 4 => exact (tk_head _ _ _).trans (by decide)
  | k + 5 => exact (tk_head _ _ _).trans (by decide)
theorem scan_parts (n : Int) (k : Nat) (rest : List UInt8) (hs : tk [43, 45] rest 0 = false) (h2 : tk [101, 69] rest (runP rest 0) = false) :
    scanP (Lib.itoa n ++ (partL k ++ rest)) 0 = ((Lib.itoa n).length + ((partL k).length + runP rest 0), true, decide (runP rest 0 ≠ 0)) := by
  rw [scan_itoa n _ (.inr (part_head k rest)), rest_parts k rest hs h2]
theorem read_parts_no (n : Int) (k : Nat) (rest : List UInt8) (hs : tk [43, 45] rest 0 = false) (hr : runP rest 0 = 0) (h2 : tk [101, 69] rest 0 = false) :
    readT (Lib.itoa n ++ (partL k ++ rest)) 0 = (0, (Lib.itoa n).length + (partL k).length, 7) := by
  have h := scan_parts n k rest hs (by rw [hr]; exact h2)
  rw [hr] at h
  rw [readT_no (by rw [h]; rfl), h]; rfl
theorem read_parts_yes (n : Int) (k d : Nat) :
    readT (Lib.itoa n ++ (partL k ++ (Lib.decDigits d ++ [120]))) 0 = (0, 0, 130) := by
  obtain ⟨h1, h2, h3, _⟩ := dec_digits d d (Nat.le_refl _)
  have hr : runP (Lib.decDigits d ++ [120]) 0 = (Lib.decDigits d).length := by
    rw [run_digits _ _ h1, run_no (by decide)]; rfl
  have hpos : (Lib.decDigits d).length ≠ 0 := fun e => h2 (List.eq_nil_of_length_eq_zero e)
  have hs : tk [43, 45] (Lib.decDigits d ++ [120]) 0 = false := by
    rcases hx : Lib.decDigits d with _ | ⟨a, r⟩
    · exact absurd hx h2
    · rw [hx] at h1
      have := (isDg_iff a).1 (h1 a (by simp))
      rw [List.cons_append, tk_head, Bool.eq_false_iff]
      intro e
      have e2 : a = 43 ∨ a = 45 := by simpa using e
      rcases e2 with rfl | rfl
      · exact absurd this.1 (by decide)
      · exact absurd this.1 (by decide)
  have he : tk [101, 69] (Lib.decDigits d ++ [120]) (runP (Lib.decDigits d ++ [120]) 0) = false := by
    rw [hr]
    have := tk_behind [101, 69] (Lib.decDigits d) [120] 0
    rw [Nat.add_zero] at this
    rw [this]; decide
  have h := scan_parts n k _ hs he
  rw [hr] at h
  exact readT_part (by rw [h]; simp [hpos]) (by rw [h])
end Go.Proofs.YtchmchbgbchipaaDoor
