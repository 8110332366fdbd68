/-
  Layer 4: objects of pairs in whatever order.
-/
import Derived.Test.YtnldiemggabdkaaDoorValAB
namespace Go.Proofs.YtnldiemggabdkaaDoor
open Go.RowKit
set_option linter.unusedVariables false

/-- Keys ascend, none twice. -/
def StrictP (L : List PT) : Prop := L.Pairwise fun p q => vless p.1 q.1 = true
theorem strict_unique : ∀ (A B : List PT), A.Perm B → StrictP A → StrictP B → A = B
  | [], B, h, _, _ => (List.Perm.nil_eq h)
  | a :: A, [], h, _, _ => absurd h.length_eq (by simp)
  | a :: A, b :: B, h, hA, hB => by
    have hA' := List.pairwise_cons.1 hA
    have hB' := List.pairwise_cons.1 hB
    have e : a = b := by
      have h1 : a ∈ b :: B := h.mem_iff.1 (List.mem_cons_self ..)
      have h2 : b ∈ a :: A := h.mem_iff.2 (List.mem_cons_self ..)
      rcases List.mem_cons.1 h1 with h1 | h1
      · exact h1
      · rcases List.mem_cons.1 h2 with h2 | h2
        · exact h2.symm
        · have g1 := hB'.1 a h1
          have g2 := hA'.1 b h2
          have := vless_tr g1 g2
          rw [vless_irr] at this
          cases this
    subst e
    rw [strict_unique A B ((List.perm_cons a).1 h) hA'.2 hB'.2]
def NoTwice (L : List PT) : Prop := (L.map Prod.fst).Nodup
theorem noTwice_perm {A B : List PT} (h : A.Perm B) : NoTwice A ↔ NoTwice B := (h.map Prod.fst).nodup_iff
theorem key_at_eq {L : List PT} {i : Nat} (hi : i < L.length) : keyAt L i = L[i].1 := by
  unfold keyAt
  rw [List.getD_eq_getElem?_getD, List.getElem?_map, List.getElem?_eq_getElem hi]
  rfl
theorem strict_of {L : List PT} (hs : ∀ i j (hij : i < j) (hj : j < L.length), vless (L[j]).1 (L[i]'(by omega)).1 = false) (hn : NoTwice L) : StrictP L := by
  unfold StrictP
  rw [List.pairwise_iff_getElem]
  intro i j hi hj hij
  have h1 := hs i j hij hj
  cases h2 : vless (L[i]).1 (L[j]).1 with
  | true => rfl
  | false =>
    exfalso
    have e : (L[i]).1 = (L[j]).1 := by
      have := vtri _ _ h2 h1
      rw [ByteArray.toList_eq, ByteArray.toList_eq] at this
      cases hx : (L[i]).1; cases hy : (L[j]).1
      rw [hx, hy] at this
      simp at this
      rw [this]
    unfold NoTwice at hn
    rw [List.nodup_iff_pairwise_ne, List.pairwise_iff_getElem] at hn
    have := hn i j (by simpa using hi) (by simpa using hj) hij
    simp at this
    exact this e
theorem noTwice_iff {L : List PT} (hs : ∀ i j (hij : i < j) (hj : j < L.length), vless (L[j]).1 (L[i]'(by omega)).1 = false) : NoTwice L ↔ ∀ j, j < L.length → dupJ L j = false := by
  constructor
  · intro hn j hj
    have hst := strict_of hs hn
    unfold dupJ
    rcases Nat.eq_zero_or_pos j with rfl | hp
    · simp
    · have h2 : keyAt L (j - 1) ≠ keyAt L j := by
        rw [key_at_eq hj, key_at_eq (show j - 1 < L.length by omega)]
        unfold StrictP at hst
        rw [List.pairwise_iff_getElem] at hst
        exact vless_ne (hst (j - 1) j (by omega) hj (by omega))
      simp only [Bool.and_eq_false_imp]
      intro _
      exact str_ne h2
  · intro hd
    have hadj : ∀ j (hj : j < L.length), 0 < j → vless (L[j - 1]'(by omega)).1 (L[j]).1 = true := by
      intro j hj hp
      have h1 := hs (j - 1) j (by omega) hj
      have h2 := hd j hj
      unfold dupJ at h2
      rw [key_at_eq hj, key_at_eq (show j - 1 < L.length by omega)] at h2
      cases h3 : vless (L[j - 1]'(by omega)).1 (L[j]).1 with
      | true => rfl
      | false =>
        exfalso
        have := vtri _ _ h3 h1
        rw [this] at h2
        simp [hp] at h2
    have hlt : ∀ d i (h : i + d + 1 < L.length), vless (L[i]'(by omega)).1 (L[i + d + 1]).1 = true := by
      intro d
      induction d with
      | zero => intro i h; exact hadj (i + 1) h (by omega)
      | succ d ih => intro i h; exact vless_tr (ih i (by omega)) (hadj (i + d + 1 + 1) (by omega) (by omega))
    unfold NoTwice
    rw [List.nodup_iff_pairwise_ne, List.pairwise_iff_getElem]
    intro i j hi hj hij
    simp only [List.getElem_map]
    have hj' : j < L.length := by simpa using hj
    have := hlt (j - i - 1) i (by omega)
    have e : i + (j - i - 1) + 1 = j := by omega
    simp only [e] at this
    exact vless_ne this
theorem srtP_noTwice (L : List PT) : NoTwice L ↔ ∀ j, j < L.length → dupJ (srtP L) j = false := by
  rw [← noTwice_perm (srtP_perm L), noTwice_iff (srtP_sorted L), srtP_len]
theorem srtP_strict {L : List PT} (h : NoTwice L) : StrictP (srtP L) := strict_of (srtP_sorted L) ((noTwice_perm (srtP_perm L)).2 h)
theorem srtP_unique {L M : List PT} (h : L.Perm M) (hn : NoTwice L) : srtP L = srtP M :=
  strict_unique _ _ ((srtP_perm L).trans (h.trans (srtP_perm M).symm)) (srtP_strict hn) (srtP_strict ((noTwice_perm h).1 hn))
/-- The pairs from one on, backward, round. -/
def rotL (L : List PT) (r : Nat) : List PT := (L.take (r + 1)).reverse ++ (L.drop (r + 1)).reverse
theorem rotL_perm (L : List PT) (r : Nat) : (rotL L r).Perm L := by
  have h := ((L.take (r + 1)).reverse_perm).append ((L.drop (r + 1)).reverse_perm)
  rw [List.take_append_drop] at h
  exact h
theorem rotL_at {L : List PT} {n r i : Nat} (hL : L.length = n) (hr : r < n) (hi : i < n) : (rotL L r)[i]? = L[(r + n - i) % n]? := by
  unfold rotL
  have h1 : (L.take (r + 1)).reverse.length = r + 1 := by simp; omega
  rcases Nat.lt_or_ge r i with h | h
  · have e : (r + n - i) % n = r + n - i := Nat.mod_eq_of_lt (by omega)
    rw [e, List.getElem?_append_right (by omega), h1, List.getElem?_reverse (by simp; omega), List.getElem?_drop]
    congr 1
    simp
    omega
  · have e : (r + n - i) % n = r - i := by
      have : r + n - i = (r - i) + n := by omega
      rw [this, Nat.add_mod_right]
      exact Nat.mod_eq_of_lt (by omega)
    rw [e, List.getElem?_append_left (by omega), List.getElem?_reverse (by simp; omega), List.getElem?_take]
    simp only [List.length_take]
    rw [if_pos (by omega)]
    congr 1
    omega
theorem rotL_len (L : List PT) (r : Nat) : (rotL L r).length = L.length := (rotL_perm L r).length_eq

/-- The object of pairs that ascend. -/
abbrev obV (cA : Option Addr) (n cc : Nat) (kA : Option Addr) (kc : Nat) (S : List PT) : VT := .mk 6 0 ⟨#[]⟩ cA n cc kA n kc (S.map Prod.fst) (S.map Prod.snd)
def obok (n : Nat) (S : List PT) : Bool := (obV none n 0 none 0 S).ok
theorem ob_ok (cA : Option Addr) (n cc : Nat) (kA : Option Addr) (kc : Nat) (S : List PT) : (obV cA n cc kA kc S).ok = obok n S := by
  unfold obok VT.ok
  rw [dep_mk, cnt_mk, all_mk, dep_mk, cnt_mk, all_mk]
  rfl
theorem ob_get {cA : Option Addr} {n cc : Nat} {kA : Option Addr} {kc : Nat} {S : List PT} (hs : StrictP S) {p : PT} (hp : p ∈ S) : (obV cA n cc kA kc S).get p.1 = some p.2 := by
  obtain ⟨i, hi, rfl⟩ := List.getElem_of_mem hp
  show (if (6 : Int) = 6 then getK (S.map Prod.fst) (S.map Prod.snd) _ else none) = _
  rw [if_pos rfl, getK_some _ _ _ i (by simpa using hi) (by simpa using hi) (by rw [← key_at_eq hi]; rfl) ?_]
  · rw [List.getElem?_map, List.getElem?_eq_getElem hi]; rfl
  · intro j hj
    have hj' : j < S.length := by omega
    have e : (S.map Prod.fst).getD j ⟨#[]⟩ = S[j].1 := key_at_eq hj'
    rw [e]
    unfold StrictP at hs
    rw [List.pairwise_iff_getElem] at hs
    exact vless_ne (hs j i hj' hi hj)
theorem ob_same {cA cA' : Option Addr} {n cc cc' : Nat} {kA kA' : Option Addr} {kc kc' : Nat} {S : List PT} (h : obok n S = true) : sameR (obV cA n cc kA kc S) (obV cA' n cc' kA' kc' S) = true := by
  unfold sameR
  rw [ob_ok, ob_ok, h, (sameV_iff _ _).2 (by rw [e_mk, e_mk])]
  rfl
theorem object_srt (A : Option Addr) (n c : Nat) (L : List PT) (B : Nat) (w : World) (h : Shows w B 6 A n (L.flatMap pCells)) (hA : A = none → c = 0) (hB : B ≤ w.heap.size) (hn : n ≤ 1000)
    (hL : ∀ p ∈ L, Lie w B p.2 ∧ p.1.size ≤ maxLen) (htab : UTab w) (hst : STab w) :
    Calls Tryd.prog 30 #[.slice A n c] w fun e w' => Below w.heap.size w w' ∧
      ((¬ NoTwice L ∧ e = .returned (.tuple #[.agg #[.int .i64 0, .int .i64 0, .string ⟨#[]⟩, .slice none 0 0, .slice none 0 0], .int .i64 141])) ∨
       (NoTwice L ∧ ∃ kA kc cA cc, Lie w' w'.heap.size (obV cA n cc kA kc (srtP L)) ∧
        ((obok n (srtP L) = true ∧ e = .returned (.tuple #[.agg #[.int .i64 6, .int .i64 0, .string ⟨#[]⟩, .slice cA n cc, .slice kA n kc], .int .i64 0])) ∨
         (obok n (srtP L) = false ∧ e = .returned (.tuple #[.agg #[.int .i64 0, .int .i64 0, .string ⟨#[]⟩, .slice none 0 0, .slice none 0 0], .int .i64 140]))))) := by
  have hlen := pairs_len h
  refine (object_any A n c L (srtP L) B w h hA hB hn (by rw [srtP_len, hlen]) (fun p hp => hL p ((srtP_perm L).mem_iff.1 hp)) htab hst (fun A c W base ho hb => sortP_any A n c base L W ho hb hn)).mono ?_
  rintro e w' ⟨hb, h1⟩
  refine ⟨hb, ?_⟩
  rcases h1 with ⟨⟨j, hj, hd⟩, rfl⟩ | ⟨hd, kA, kc, cA, cc, hLie, rfl⟩
  · refine .inl ⟨fun hn' => ?_, rfl⟩
    rw [(srtP_noTwice L).1 hn' j (by omega)] at hd
    cases hd
  · refine .inr ⟨(srtP_noTwice L).2 fun j hj => hd j (by omega), kA, kc, cA, cc, hLie, ?_⟩
    have e := ob_ok cA n cc kA kc (srtP L)
    cases hk : obok n (srtP L)
    · rw [hk] at e
      refine .inr ⟨rfl, ?_⟩
      rw [if_neg (by rw [e]; decide), if_neg (by rw [e]; decide)]
      rfl
    · rw [hk] at e
      refine .inl ⟨rfl, ?_⟩
      rw [if_pos e, if_pos e]
      rfl
end Go.Proofs.YtnldiemggabdkaaDoor
