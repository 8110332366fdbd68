/-
  Layer 1, plain: code points, their bytes, and the reading of them. No program in sight.
-/
import Derived.Test.YtnldiemggabdkaaDoorW
namespace Go.Proofs.YtnldiemggabdkaaDoor

/-- Is a number a code point? -/
def isCp (n : Int) : Bool := decide (0 ≤ n) && decide (n ≤ 1114111) && !(decide (55296 ≤ n) && decide (n ≤ 57343))
theorem isCp_iff (n : Int) : isCp n = true ↔ (0 ≤ n ∧ n ≤ 1114111) ∧ (n < 55296 ∨ 57343 < n) := by
  unfold isCp; simp
def b8 (n : Nat) : UInt8 := UInt8.ofNat n
theorem b8_toNat (n : Nat) (h : n < 256) : (b8 n).toNat = n := by unfold b8; rw [UInt8.toNat_ofNat']; omega
theorem b8_of (x : UInt8) : b8 x.toNat = x := by unfold b8; simp
/-- A code point's bytes. -/
def encL (c : Nat) : List UInt8 :=
  if c < 128 then [b8 c]
  else if c < 2048 then [b8 (192 + c / 64), b8 (128 + c % 64)]
  else if c < 65536 then [b8 (224 + c / 4096), b8 (128 + c / 64 % 64), b8 (128 + c % 64)]
  else [b8 (240 + c / 262144), b8 (128 + c / 4096 % 64), b8 (128 + c / 64 % 64), b8 (128 + c % 64)]
/-- Is a byte one that goes on? -/
def cont (x : UInt8) : Bool := decide (128 ≤ x.toNat) && decide (x.toNat < 192)
theorem cont_iff (x : UInt8) : cont x = true ↔ 128 ≤ x.toNat ∧ x.toNat < 192 := by unfold cont; simp
def okIf (b : Bool) (c n : Nat) : Nat × Nat := if b then (c, n) else (0, 0)
/-- The code point whose bytes begin a row, and how many they are; (0, 0): none's do. -/
def decL (l : List UInt8) : Nat × Nat :=
  match l with
  | [] => (0, 0)
  | a :: r =>
    if a.toNat < 128 then (a.toNat, 1)
    else if a.toNat < 192 then (0, 0)
    else if a.toNat < 224 then
      match r with
      | b :: _ => let c := (a.toNat - 192) * 64 + (b.toNat - 128); okIf (cont b && decide (128 ≤ c)) c 2
      | _ => (0, 0)
    else if a.toNat < 240 then
      match r with
      | b :: d :: _ => let c := ((a.toNat - 224) * 64 + (b.toNat - 128)) * 64 + (d.toNat - 128); okIf (cont b && cont d && decide (2048 ≤ c) && isCp c) c 3
      | _ => (0, 0)
    else if a.toNat < 248 then
      match r with
      | b :: d :: e :: _ => let c := (((a.toNat - 240) * 64 + (b.toNat - 128)) * 64 + (d.toNat - 128)) * 64 + (e.toNat - 128); okIf (cont b && cont d && cont e && decide (65536 ≤ c) && isCp c) c 4
      | _ => (0, 0)
    else (0, 0)

theorem encL_len (c : Nat) : (encL c).length = if c < 128 then 1 else if c < 2048 then 2 else if c < 65536 then 3 else 4 := by
  unfold encL; split
  · rfl
  · split
    · rfl
    · split <;> rfl
theorem encL_len_pos (c : Nat) : 1 ≤ (encL c).length ∧ (encL c).length ≤ 4 := by rw [encL_len]; split <;> (try split) <;> (try split) <;> omega

theorem okIf_yes {b : Bool} {c n c' n' : Nat} (h : okIf b c n = (c', n')) (h0 : n' ≠ 0) : b = true ∧ c = c' ∧ n = n' := by
  unfold okIf at h
  cases b
  · rw [if_neg (by simp)] at h; injection h with h1 h2; omega
  · rw [if_pos rfl] at h; injection h with h1 h2; exact ⟨rfl, h1, h2⟩
theorem okIf_true (c n : Nat) : okIf true c n = (c, n) := rfl
theorem okIf_zero {b : Bool} {c n : Nat} (h : (okIf b c n).2 = 0) (hn : n ≠ 0) : okIf b c n = (0, 0) := by
  cases b
  · rfl
  · rw [okIf_true] at h; exact absurd h hn

/-- The bytes of a code point, whatever stands behind them, are read as it. -/
theorem dec_enc (c : Nat) (h : isCp c = true) (r : List UInt8) : decL (encL c ++ r) = (c, (encL c).length) := by
  have hc := (isCp_iff _).1 h
  rw [encL_len]
  unfold encL
  by_cases h1 : c < 128
  · rw [if_pos h1, if_pos h1]
    show decL (b8 c :: r) = _
    simp only [decL]
    rw [b8_toNat _ (by omega), if_pos h1]
  · rw [if_neg h1, if_neg h1]
    by_cases h2 : c < 2048
    · rw [if_pos h2, if_pos h2]
      show decL (b8 _ :: b8 _ :: r) = _
      simp only [decL]
      simp only [b8_toNat (192 + c / 64) (by omega), b8_toNat (128 + c % 64) (by omega), cont]
      rw [if_neg (by omega), if_neg (by omega), if_pos (by omega)]
      have e : (192 + c / 64 - 192) * 64 + (128 + c % 64 - 128) = c := by omega
      rw [e]
      simp only [okIf]
      rw [if_pos (by simp; omega)]
    · rw [if_neg h2, if_neg h2]
      by_cases h3 : c < 65536
      · rw [if_pos h3, if_pos h3]
        show decL (b8 _ :: b8 _ :: b8 _ :: r) = _
        simp only [decL]
        simp only [b8_toNat (224 + c / 4096) (by omega), b8_toNat (128 + c % 64) (by omega), b8_toNat (128 + c / 64 % 64) (by omega), cont]
        rw [if_neg (by omega), if_neg (by omega), if_neg (by omega), if_pos (by omega)]
        have e : ((224 + c / 4096 - 224) * 64 + (128 + c / 64 % 64 - 128)) * 64 + (128 + c % 64 - 128) = c := by omega
        rw [e, h]
        simp only [okIf]
        rw [if_pos (by simp; omega)]
      · rw [if_neg h3, if_neg h3]
        show decL (b8 _ :: b8 _ :: b8 _ :: b8 _ :: r) = _
        simp only [decL]
        simp only [b8_toNat (240 + c / 262144) (by omega), b8_toNat (128 + c % 64) (by omega), b8_toNat (128 + c / 64 % 64) (by omega), b8_toNat (128 + c / 4096 % 64) (by omega), cont]
        rw [if_neg (by omega), if_neg (by omega), if_neg (by omega), if_neg (by omega), if_pos (by omega)]
        have e : (((240 + c / 262144 - 240) * 64 + (128 + c / 4096 % 64 - 128)) * 64 + (128 + c / 64 % 64 - 128)) * 64 + (128 + c % 64 - 128) = c := by omega
        rw [e, h]
        simp only [okIf]
        rw [if_pos (by simp; omega)]

theorem b8_eq {x : UInt8} {n : Nat} (h : x.toNat = n) : x = b8 n := by rw [← h, b8_of]
/-- What is read is a code point, and what it was read from are its bytes. -/
theorem enc_dec {l : List UInt8} {c n : Nat} (h : decL l = (c, n)) (hn : n ≠ 0) : isCp c = true ∧ ∃ r, l = encL c ++ r ∧ n = (encL c).length := by
  rcases l with _ | ⟨a, r⟩
  · injection h with _ h2; omega
  simp only [decL] at h
  have ha := a.toNat_lt
  by_cases h1 : a.toNat < 128
  · rw [if_pos h1] at h
    injection h with h2 h3
    subst h2
    refine ⟨by rw [isCp_iff]; omega, r, ?_, by rw [encL_len, if_pos h1]; omega⟩
    unfold encL
    rw [if_pos h1, b8_of]
    rfl
  · rw [if_neg h1] at h
    by_cases h2 : a.toNat < 192
    · rw [if_pos h2] at h; injection h with _ h3; omega
    rw [if_neg h2] at h
    by_cases h3 : a.toNat < 224
    · rw [if_pos h3] at h
      rcases r with _ | ⟨b, r⟩
      · injection h with _ h4; omega
      obtain ⟨k, e, e2⟩ := okIf_yes h hn
      simp only [Bool.and_eq_true, cont_iff, decide_eq_true_eq] at k
      have hc : c < 2048 := by omega
      have hc0 : ¬ c < 128 := by omega
      refine ⟨by rw [isCp_iff]; omega, r, ?_, by rw [encL_len, if_neg hc0, if_pos hc]; omega⟩
      unfold encL
      rw [if_neg hc0, if_pos hc, b8_eq (x := a) (n := 192 + c / 64) (by omega), b8_eq (x := b) (n := 128 + c % 64) (by omega)]
      rfl
    · rw [if_neg h3] at h
      by_cases h4 : a.toNat < 240
      · rw [if_pos h4] at h
        rcases r with _ | ⟨b, _ | ⟨d, r⟩⟩
        · injection h with _ h4; omega
        · injection h with _ h4; omega
        obtain ⟨k, e, e2⟩ := okIf_yes h hn
        simp only [Bool.and_eq_true, cont_iff, decide_eq_true_eq] at k
        rw [e] at k
        have hc : c < 65536 := by omega
        have hc0 : ¬ c < 2048 := by omega
        refine ⟨k.2, r, ?_, by rw [encL_len, if_neg (by omega), if_neg hc0, if_pos hc]; omega⟩
        unfold encL
        rw [if_neg (by omega), if_neg hc0, if_pos hc, b8_eq (x := a) (n := 224 + c / 4096) (by omega), b8_eq (x := b) (n := 128 + c / 64 % 64) (by omega), b8_eq (x := d) (n := 128 + c % 64) (by omega)]
        rfl
      · rw [if_neg h4] at h
        by_cases h5 : a.toNat < 248
        · rw [if_pos h5] at h
          rcases r with _ | ⟨b, _ | ⟨d, _ | ⟨e, r⟩⟩⟩
          · injection h with _ h4; omega
          · injection h with _ h4; omega
          · injection h with _ h4; omega
          obtain ⟨k, e1, e2⟩ := okIf_yes h hn
          simp only [Bool.and_eq_true, cont_iff, decide_eq_true_eq] at k
          rw [e1] at k
          have hc0 : ¬ c < 65536 := by omega
          have hcp := (isCp_iff _).1 k.2
          refine ⟨k.2, r, ?_, by rw [encL_len, if_neg (by omega), if_neg (by omega), if_neg hc0]; omega⟩
          unfold encL
          rw [if_neg (by omega), if_neg (by omega), if_neg hc0, b8_eq (x := a) (n := 240 + c / 262144) (by omega), b8_eq (x := b) (n := 128 + c / 4096 % 64) (by omega), b8_eq (x := d) (n := 128 + c / 64 % 64) (by omega), b8_eq (x := e) (n := 128 + c % 64) (by omega)]
          rfl
        · rw [if_neg h5] at h; injection h with _ h6; omega

theorem dec_zero {l : List UInt8} (h : (decL l).2 = 0) : decL l = (0, 0) := by
  rcases l with _ | ⟨a, r⟩
  · rfl
  simp only [decL] at h ⊢
  by_cases h1 : a.toNat < 128
  · rw [if_pos h1] at h; simp at h
  · rw [if_neg h1] at h ⊢
    by_cases h2 : a.toNat < 192
    · rw [if_pos h2]
    rw [if_neg h2] at h ⊢
    by_cases h3 : a.toNat < 224
    · rw [if_pos h3] at h ⊢
      rcases r with _ | ⟨b, r⟩
      · rfl
      exact okIf_zero h (by omega)
    · rw [if_neg h3] at h ⊢
      by_cases h4 : a.toNat < 240
      · rw [if_pos h4] at h ⊢
        rcases r with _ | ⟨b, _ | ⟨d, r⟩⟩
        · rfl
        · rfl
        exact okIf_zero h (by omega)
      · rw [if_neg h4] at h ⊢
        by_cases h5 : a.toNat < 248
        · rw [if_pos h5] at h ⊢
          rcases r with _ | ⟨b, _ | ⟨d, _ | ⟨e, r⟩⟩⟩
          · rfl
          · rfl
          · rfl
          exact okIf_zero h (by omega)
        · rw [if_neg h5]
theorem dec_nil : decL [] = (0, 0) := rfl
theorem dec_le (l : List UInt8) : (decL l).2 ≤ l.length := by
  by_cases h : (decL l).2 = 0
  · omega
  · obtain ⟨_, r, e, e2⟩ := enc_dec (l := l) (c := (decL l).1) (n := (decL l).2) rfl h
    rw [e2]
    have : l.length = (encL (decL l).1).length + r.length := by rw [← List.length_append, ← e]
    omega
theorem dec_le4 (l : List UInt8) : (decL l).2 ≤ 4 := by
  by_cases h : (decL l).2 = 0
  · omega
  · obtain ⟨_, r, _, e2⟩ := enc_dec (l := l) (c := (decL l).1) (n := (decL l).2) rfl h
    have := encL_len_pos (decL l).1
    omega

/-- The code points of a row, as far as it is right, and how many bytes they take. -/
def ptsL (l : List UInt8) : List Nat × Nat :=
  if (decL l).2 = 0 then ([], 0)
  else ((decL l).1 :: (ptsL (l.drop (decL l).2)).1, (decL l).2 + (ptsL (l.drop (decL l).2)).2)
termination_by l.length
decreasing_by
  all_goals
    have := dec_le l
    rw [List.length_drop]
    omega
theorem pts_zero {l : List UInt8} (h : (decL l).2 = 0) : ptsL l = ([], 0) := by rw [ptsL, if_pos h]
theorem pts_step {l : List UInt8} (h : (decL l).2 ≠ 0) : ptsL l = ((decL l).1 :: (ptsL (l.drop (decL l).2)).1, (decL l).2 + (ptsL (l.drop (decL l).2)).2) := by rw [ptsL, if_neg h]
def textL (cps : List Nat) : List UInt8 := (cps.map encL).flatten
theorem textL_nil : textL [] = [] := rfl
theorem textL_cons (c : Nat) (l : List Nat) : textL (c :: l) = encL c ++ textL l := by simp [textL]
theorem textL_append (l m : List Nat) : textL (l ++ m) = textL l ++ textL m := by simp [textL]
theorem textL_one (c : Nat) : textL [c] = encL c := by simp [textL]
def allCp (l : List Nat) : Prop := ∀ c ∈ l, isCp c = true

theorem pts_text : ∀ (cps : List Nat) (r : List UInt8), allCp cps → ptsL (textL cps ++ r) = (cps ++ (ptsL r).1, (textL cps).length + (ptsL r).2)
  | [], r, _ => by simp [textL_nil]
  | c :: cps, r, h => by
    have hc := h c (by simp)
    have hp := encL_len_pos c
    have hd := dec_enc c hc (textL cps ++ r)
    rw [textL_cons, List.append_assoc, pts_step (by rw [hd]; simp only; omega), hd]
    simp only [List.drop_left]
    rw [pts_text cps r (fun x hx => h x (by simp [hx]))]
    simp only [List.cons_append, List.length_append]
    rw [Nat.add_assoc]
/-- What was read: a text, and behind it nothing that begins one. -/
theorem pts_is : ∀ (n : Nat) (l : List UInt8), l.length ≤ n → allCp (ptsL l).1 ∧ l = textL (ptsL l).1 ++ l.drop (ptsL l).2 ∧ (ptsL l).2 = (textL (ptsL l).1).length ∧ (decL (l.drop (ptsL l).2)).2 = 0
  | n, l, hl => by
    by_cases h : (decL l).2 = 0
    · rw [pts_zero h]
      exact ⟨fun _ hx => by simp at hx, by simp [textL_nil], by simp [textL_nil], by simpa using h⟩
    · obtain ⟨hc, r, e, e2⟩ := enc_dec (l := l) (c := (decL l).1) (n := (decL l).2) rfl h
      have hle := dec_le l
      match n, hl with
      | 0, hl => omega
      | n + 1, hl =>
        obtain ⟨i1, i2, i3, i4⟩ := pts_is n (l.drop (decL l).2) (by rw [List.length_drop]; omega)
        have hd : l.drop (decL l).2 = r := by
          generalize hk : (decL l).2 = k at e2
          generalize (decL l).1 = c at e e2
          rw [e2, e]
          exact List.drop_left
        rw [pts_step h]
        simp only
        refine ⟨?_, ?_, ?_, ?_⟩
        · intro x hx
          rcases List.mem_cons.1 hx with rfl | hx
          · exact hc
          · exact i1 x hx
        · rw [textL_cons, ← List.drop_drop, List.append_assoc, ← i2, hd, ← e]
        · rw [textL_cons, List.length_append, ← i3, ← e2]
        · rw [← List.drop_drop]; exact i4
theorem pts_le (l : List UInt8) : (ptsL l).2 ≤ l.length := by
  obtain ⟨_, h, h2, _⟩ := pts_is l.length l (Nat.le_refl _)
  have := congrArg List.length h
  rw [List.length_append] at this
  omega
theorem enc_inj {c d : Nat} (hc : isCp c = true) (hd : isCp d = true) (h : encL c = encL d) : c = d := by
  have h1 := dec_enc c hc []
  have h2 := dec_enc d hd []
  rw [h] at h1
  rw [h1] at h2
  injection h2
theorem text_inj {l m : List Nat} (hl : allCp l) (hm : allCp m) (h : textL l = textL m) : l = m := by
  have h1 := pts_text l [] hl
  have h2 := pts_text m [] hm
  rw [h] at h1
  rw [h1] at h2
  simp only [pts_zero (l := []) rfl, List.append_nil] at h2
  injection h2
end Go.Proofs.YtnldiemggabdkaaDoor
