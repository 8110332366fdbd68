/-
  Layer 10, plain: what is left behind a loss of power, byte by byte.
-/
import Derived.Test.YthoenmggjbojoaaFilAP
namespace Go.Proofs.Ythoenmggjbojoaa
open Go.RowKit
set_option linter.unusedVariables false

/-- Noughts where nothing stayed, and never the last byte. -/
def GapZ (R : List UInt8) (lo hi : Nat) : Prop := ∀ q, lo ≤ q → q < hi → q < R.length → R[q]? = some 0 ∧ q ≠ R.length - 1
def ByteZ (R : List UInt8) (st : Bool) (q : Nat) (x : UInt8) : Prop :=
  (st = true → q < R.length ∧ R[q]? = some x) ∧ (st = false → q < R.length → R[q]? = some 0 ∧ q ≠ R.length - 1)
theorem crash_bytes (keep : List Bool) (tear cut : Int) : ∀ (L : List (List UInt8)) (i a : Nat) (f R : List UInt8), f.length ≤ a → crashGo keep tear cut L i a f = R →
    f <+: R ∧ GapZ R f.length a ∧ ∀ (j : Nat) (l : List UInt8), L[j]? = some l → ∀ (k : Nat) (x : UInt8), l[k]? = some x → ByteZ R (stayB (i + j) k keep tear cut) (a + (L.take j).flatten.length + k) x
  | [], i, a, f, R, hf, h => by
    have hR : f = R := h
    subst hR
    exact ⟨List.prefix_refl _, fun q h1 h2 h3 => absurd h3 (by omega), fun j l hl => by simp at hl⟩
  | l0 :: L, i, a, f, R, hf, h => by
    have hs := survN_le l0 i keep tear cut
    have hst := fun k hk => stay_iff l0 i k keep tear cut hk
    unfold crashGo at h
    generalize survN l0 i keep tear cut = s at *
    by_cases h0 : 0 < s
    · rw [if_pos h0] at h
      have hl : (f ++ zerosU (a - f.length) ++ l0.take s).length = a + s := by
        rw [List.length_append, List.length_append, zerosU_len, List.length_take]
        omega
      obtain ⟨p1, p2, p3⟩ := crash_bytes keep tear cut L (i + 1) (a + l0.length) _ R (by omega) h
      have hlen := p1.length_le
      rw [hl] at p2 hlen
      have hget : ∀ q, q < a + s → R[q]? = (f ++ zerosU (a - f.length) ++ l0.take s)[q]? := fun q hq => by
        obtain ⟨t, ht⟩ := p1
        rw [← ht, List.getElem?_append_left (by rw [hl]; exact hq)]
      refine ⟨(List.prefix_append f _).trans (by rw [← List.append_assoc]; exact p1), fun q h1 h2 h3 => ?_, ?_⟩
      · refine ⟨?_, by omega⟩
        rw [hget q (by omega), List.append_assoc, List.getElem?_append_right h1, List.getElem?_append_left (by rw [zerosU_len]; omega)]
        unfold zerosU
        rw [List.getElem?_replicate, if_pos (by omega)]
      · intro j l hj k x hk
        match j, hj with
        | 0, hj =>
          cases hj
          have hkl := (List.getElem?_eq_some_iff.1 hk).1
          rw [List.take_zero, List.flatten_nil, List.length_nil, Nat.add_zero, Nat.add_zero, hst k hkl]
          refine ⟨fun h => ?_, fun h h2 => ?_⟩
          · have hks : k < s := of_decide_eq_true h
            refine ⟨by omega, ?_⟩
            rw [hget _ (by omega), List.getElem?_append_right (by rw [List.length_append, zerosU_len]; omega), List.length_append, zerosU_len, show a + k - (f.length + (a - f.length)) = k by omega, List.getElem?_take, if_pos hks]
            exact hk
          · have hks : ¬ k < s := of_decide_eq_false h
            exact p2 (a + k) (by omega) (by omega) h2
        | j + 1, hj =>
          have := p3 j l hj k x hk
          rw [List.take_succ_cons, List.flatten_cons, List.length_append]
          rw [show i + 1 + j = i + (j + 1) by omega, show a + l0.length + (L.take j).flatten.length + k = a + (l0.length + (L.take j).flatten.length) + k by omega] at this
          exact this
    · rw [if_neg h0] at h
      obtain ⟨p1, p2, p3⟩ := crash_bytes keep tear cut L (i + 1) (a + l0.length) f R (by omega) h
      refine ⟨p1, fun q h1 h2 h3 => p2 q h1 (by omega) h3, ?_⟩
      intro j l hj k x hk
      match j, hj with
      | 0, hj =>
        cases hj
        have hkl := (List.getElem?_eq_some_iff.1 hk).1
        rw [List.take_zero, List.flatten_nil, List.length_nil, Nat.add_zero, Nat.add_zero, hst k hkl]
        refine ⟨fun h => absurd (of_decide_eq_true h) (by omega), fun h h2 => p2 (a + k) (by omega) (by omega) h2⟩
      | j + 1, hj =>
        have := p3 j l hj k x hk
        rw [List.take_succ_cons, List.flatten_cons, List.length_append]
        rw [show i + 1 + j = i + (j + 1) by omega, show a + l0.length + (L.take j).flatten.length + k = a + (l0.length + (L.take j).flatten.length) + k by omega] at this
        exact this
/-- A byte's place, and what becomes of it. -/
theorem crash_at {X : FileT} {w : World} {B : Nat} (hL : LieF w B X) {keep : List Bool} {tear cut : Int} {R : List UInt8} (hR : crashGo keep tear cut X.s.loose 0 X.s.firm.length X.s.firm = R) {i : Nat} {p : PcT} (hp : X.L[i]? = some p) {k : Nat} {x : UInt8} (hk : p.l[k]? = some x) :
    ByteZ R (stayB i k keep tear cut) (X.F.n + sumN (X.L.take i) + k) x := by
  have h := (crash_bytes keep tear cut X.s.loose 0 X.s.firm.length X.s.firm R (Nat.le_refl _) hR).2.2 i p.l (by show (X.L.map (·.l))[i]? = some p.l; rw [List.getElem?_map, hp]; rfl) k x hk
  have e : ((X.s.loose.take i).flatten).length = sumN (X.L.take i) := by
    show (((X.L.map (·.l)).take i).flatten).length = _
    rw [← List.map_take, ← sumN_len (w := w) (B := B) (fun q hq => hL.loose q (List.mem_of_mem_take hq))]
    rfl
  rw [Nat.zero_add, e, show X.s.firm.length = X.F.n from hL.firm.len] at h
  exact h
theorem plain_step2 (fi : List UInt8) (lo : List (List UInt8)) (long : Nat) (x : DeedT) (h3 : whichN x.kind ≤ 3) (hb : whichN x.kind < 3 → x.bytes.n ≠ 0) :
    doS ⟨fi, lo, -1, -1, false⟩ long x = (⟨fi, lo, -1, -1, false⟩, 8) ∨ ∃ fi' lo', doS ⟨fi, lo, -1, -1, false⟩ long x = (⟨fi', lo', -1, -1, false⟩, 0) := by
  obtain ⟨more, fi', lo', h⟩ := doS_op x h3 hb fi lo long
  rw [h]
  unfold opS
  rw [asked_plain]
  by_cases hf : 524288 < long + more
  · exact .inl (by simp [hf])
  · exact .inr ⟨fi', lo', by simp [hf]⟩
end Go.Proofs.Ythoenmggjbojoaa
