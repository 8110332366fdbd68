import Derived.Test.YtlknmpnjhbdlhaaDoorGab
import Derived.Test.YtlknmpnjhbdlhaaDoorGaa
import Derived.Deep.RegionHeld3
import Derived.ArgAppend
import Derived.Deep.MidRow
import Derived.ChangeKeysEq
import Derived.Laws.CopyRow
import Derived.Laws.CopyOwn
import Derived.Laws.StructEq
/-
  Layer 11, plain: how the program reads a record: within a window, and no further than it must.
-/
namespace Go.Proofs.YtlknmpnjhbdlhaaDoor.Fra
set_option linter.unusedVariables false

/-- How many of k offsets from n on are no marks. -/
def dataC (n k : Nat) : Nat := k - ((n + k + 63) / 64 - (n + 63) / 64)
theorem dataC_zero (n : Nat) : dataC n 0 = 0 := by unfold dataC; omega
theorem dataC_at {n : Nat} (k : Nat) (h : n % 64 = 0) : dataC n (k + 1) = dataC (n + 1) k := by unfold dataC; omega
theorem dataC_in {n : Nat} (k : Nat) (h : n % 64 ≠ 0) : dataC n (k + 1) = dataC (n + 1) k + 1 := by unfold dataC; omega
theorem past_take : ∀ (r : List UInt8) (n k : Nat), pastP n (r.take k) = (pastP n r).take (dataC n k)
  | [], n, k => by rw [List.take_nil, pastP_nil, List.take_nil]
  | x :: r, n, 0 => by rw [List.take_zero, pastP_nil, dataC_zero, List.take_zero]
  | x :: r, n, k + 1 => by
    rw [List.take_succ_cons]
    by_cases h : n % 64 = 0
    · by_cases hx : x = 0
      · subst hx
        rw [pastP_at _ h, pastP_at _ h, past_take r (n + 1) k, dataC_at k h]
      · rw [pastP_off _ h hx, pastP_off _ h hx, List.take_nil]
    · rw [pastP_in x _ h, pastP_in x _ h, past_take r (n + 1) k, dataC_in k h, List.take_succ_cons]
/-- What is beyond the longest record does not matter. -/
theorem getP_take (p : List (UInt8 × Nat)) (j : Nat) (hj : 4102 ≤ j) : getP (p.take j) = getP p := by
  by_cases hp : p.length ≤ j
  · rw [List.take_of_length_le hp]
  · have hl : (p.take j).length = j := by rw [List.length_take]; omega
    have hm : (p.take j).map Prod.fst = (p.map Prod.fst).take j := List.map_take
    have h0 : ((p.map Prod.fst).take j).getD 0 0 = (p.map Prod.fst).getD 0 0 := by rw [List.getD_eq_getElem?_getD, List.getElem?_take_of_lt (by omega), ← List.getD_eq_getElem?_getD]
    have h1 : ((p.map Prod.fst).take j).getD 1 0 = (p.map Prod.fst).getD 1 0 := by rw [List.getD_eq_getElem?_getD, List.getElem?_take_of_lt (by omega), ← List.getD_eq_getElem?_getD]
    unfold getP
    simp only [hm, hl, h0, h1]
    generalize ((p.map Prod.fst).getD 0 0).toNat * 256 + ((p.map Prod.fst).getD 1 0).toNat = n
    by_cases hn : n < 1 ∨ 4096 < n
    · rw [if_pos (show j < 7 ∨ n < 1 ∨ 4096 < n ∨ j < 6 + n by omega), if_pos (show p.length < 7 ∨ n < 1 ∨ 4096 < n ∨ p.length < 6 + n by omega)]
    · rw [if_neg (show ¬ (j < 7 ∨ n < 1 ∨ 4096 < n ∨ j < 6 + n) by omega), if_neg (show ¬ (p.length < 7 ∨ n < 1 ∨ 4096 < n ∨ p.length < 6 + n) by omega)]
      rw [List.drop_take, List.take_take, List.take_take, show min n (j - 6) = n by omega, show min (6 + n) j = 6 + n by omega]
      rw [List.getD_eq_getElem?_getD, List.getElem?_take_of_lt (by omega), ← List.getD_eq_getElem?_getD]
/-- The window in which the program reads. -/
theorem window (all : List UInt8) (a m : Nat) (h64 : a % 64 ≠ 0) (hm : m = min 4288 (all.length - (a - a % 64))) (ha : a < all.length) : getP (pastP a (((all.drop (a - a % 64)).take m).drop (a % 64))) = getP (pastP a (all.drop a)) := by
  rw [List.drop_take, List.drop_drop, show a - a % 64 + a % 64 = a by omega]
  by_cases h : m = 4288
  · rw [past_take, getP_take]
    unfold dataC
    omega
  · rw [List.take_of_length_le]
    rw [List.length_drop]
    omega

/-- What the program reads: the bytes, the offset behind them; as long as more is wanted. -/
def rdGo : List (UInt8 × Nat) → List UInt8 → Nat → Nat → List UInt8 × Nat
  | [], out, next, _ => (out, next)
  | (b, e) :: p, out, next, size =>
    let out' := out ++ [b]
    let size' := if out'.length = 2 then 6 + ((out'.getD 0 0).toNat * 256 + (out'.getD 1 0).toNat) else size
    if 4102 < size' ∨ out'.length = size' then (out', e) else rdGo p out' e size'
theorem rdGo_nil (out : List UInt8) (next size : Nat) : rdGo [] out next size = (out, next) := rfl
/-- Behind the second byte. -/
theorem rdGo_more : ∀ (p : List (UInt8 × Nat)) (out : List UInt8) (next size : Nat), 2 ≤ out.length → out.length < size → size ≤ 4102 → rdGo p out next size = (out ++ (p.map Prod.fst).take (size - out.length), if p = [] then next else (p.getD (min (size - out.length) p.length - 1) (0, 0)).2)
  | [], out, next, size, h2, hs, hm => by simp [rdGo]
  | (b, e) :: p, out, next, size, h2, hs, hm => by
    have hl : (out ++ [b]).length = out.length + 1 := by simp
    unfold rdGo
    simp only [hl]
    rw [if_neg (show ¬ out.length + 1 = 2 by omega)]
    by_cases he : out.length + 1 = size
    · rw [if_pos (.inr he)]
      rw [show size - out.length = 1 by omega, List.map_cons, List.take_succ_cons, List.take_zero]
      simp only [List.length_cons]
      rw [show min 1 (p.length + 1) - 1 = 0 by omega]
      rfl
    · rw [if_neg (by omega), rdGo_more p _ _ _ (by omega) (by omega) hm, hl]
      rw [show size - out.length = size - (out.length + 1) + 1 by omega, List.map_cons, List.take_succ_cons, List.append_assoc]
      congr 1
      simp only [List.length_cons]
      cases p with
      | nil =>
        rw [if_pos rfl, if_neg (List.cons_ne_nil _ _)]
        simp only [List.length_nil]
        rw [show min (size - (out.length + 1) + 1) (0 + 1) - 1 = 0 by omega]
        rfl
      | cons q p =>
        rw [if_neg (List.cons_ne_nil _ _), if_neg (List.cons_ne_nil _ _)]
        simp only [List.length_cons]
        rw [show min (size - (out.length + 1) + 1) (p.length + 1 + 1) - 1 = (min (size - (out.length + 1)) (p.length + 1) - 1) + 1 by omega, List.getD_cons_succ]
/-- What the program makes of what it has read. -/
def takenL (b : List UInt8) (next : Nat) : Option (List UInt8 × Nat) :=
  let n := (b.getD 0 0).toNat * 256 + (b.getD 1 0).toNat
  if b.length ≤ 6 ∨ n < 1 ∨ 4096 < n ∨ b.length ≠ 6 + n then none
  else if (b.drop 2).take 4 = Crc.laid (Crc.more 0 (b.take 2 ++ b.drop 6)) then some (b.drop 6, next) else none
theorem encL_eq {b : List UInt8} {n : Nat} (hl : b.length = 6 + n) (hn : (b.getD 0 0).toNat * 256 + (b.getD 1 0).toNat = n) (h4 : n ≤ 4096) : (encL (b.drop 6) = b) ↔ ((b.drop 2).take 4 = Crc.laid (Crc.more 0 (b.take 2 ++ b.drop 6))) := by
  have hd : (b.drop 6).length = n := by rw [List.length_drop]; omega
  rcases b with _ | ⟨b0, _ | ⟨b1, _ | ⟨b2, _ | ⟨b3, _ | ⟨b4, _ | ⟨b5, r⟩⟩⟩⟩⟩⟩
  · simp at hl; omega
  · simp at hl; omega
  · simp at hl; omega
  · simp at hl; omega
  · simp at hl; omega
  · simp at hl; omega
  · have hs : sizeL n = [b0, b1] := by
      unfold sizeL
      have e : b0.toNat * 256 + b1.toNat = n := hn
      have l0 := b0.toNat_lt
      have l1 := b1.toNat_lt
      have e0 : UInt8.ofNat (n / 256) = b0 := by apply UInt8.toNat_inj.1; rw [UInt8.toNat_ofNat']; omega
      have e1 : UInt8.ofNat n = b1 := by apply UInt8.toNat_inj.1; rw [UInt8.toNat_ofNat']; omega
      rw [e0, e1]
    have hr : r.length = n := by simpa using hd
    show encL r = _ ↔ [b2, b3, b4, b5] = Crc.laid (Crc.more 0 ([b0, b1] ++ r))
    unfold encL
    rw [hr, hs]
    unfold Crc.laid
    constructor
    · intro h
      simp at h
      simp [h]
    · intro h
      simp at h
      simp [h]
theorem rd_get (p : List (UInt8 × Nat)) (a : Nat) : takenL (rdGo p [] a 7).1 (rdGo p [] a 7).2 = getP p := by
  match p with
  | [] => rfl
  | [(b0, e0)] =>
    have h : rdGo [(b0, e0)] [] a 7 = ([b0], e0) := by simp [rdGo]
    rw [h]; unfold takenL getP; simp
  | (b0, e0) :: (b1, e1) :: p =>
    obtain ⟨n, hn⟩ : ∃ n, b0.toNat * 256 + b1.toNat = n := ⟨_, rfl⟩
    have h1 : rdGo ((b0, e0) :: (b1, e1) :: p) [] a 7 = if 4102 < 6 + n ∨ 2 = 6 + n then ([b0, b1], e1) else rdGo p [b0, b1] e1 (6 + n) := by
      rw [rdGo]
      simp only [List.nil_append, List.length_cons, List.length_nil]
      rw [if_neg (show ¬ 0 + 1 = 2 by omega), if_neg (show ¬ (4102 < 7 ∨ 0 + 1 = 7) by omega), rdGo]
      simp only [List.cons_append, List.nil_append, List.length_cons, List.length_nil, List.getD_cons_zero, List.getD_cons_succ, hn]
      rw [if_pos trivial]
    have hg : getP ((b0, e0) :: (b1, e1) :: p) = if p.length + 2 < 7 ∨ n < 1 ∨ 4096 < n ∨ p.length + 2 < 6 + n then none
        else if encL (((b0 :: b1 :: p.map Prod.fst).drop 6).take n) = (b0 :: b1 :: p.map Prod.fst).take (6 + n) then some (((b0 :: b1 :: p.map Prod.fst).drop 6).take n, (((b0, e0) :: (b1, e1) :: p).getD (5 + n) (0, 0)).2) else none := by
      unfold getP
      simp only [List.map_cons, List.getD_cons_zero, List.getD_cons_succ, hn, List.length_cons]
    rw [h1, hg]
    by_cases hbig : 4096 < n
    · rw [if_pos (show 4102 < 6 + n ∨ 2 = 6 + n by omega), if_pos (show p.length + 2 < 7 ∨ n < 1 ∨ 4096 < n ∨ p.length + 2 < 6 + n by omega)]
      unfold takenL; simp
    · rw [if_neg (show ¬ (4102 < 6 + n ∨ 2 = 6 + n) by omega), rdGo_more p _ _ _ (by simp) (by simp; omega) (by omega)]
      simp only [List.length_cons, List.length_nil]
      rw [show 6 + n - (0 + 1 + 1) = 4 + n by omega]
      have hb0 : ([b0, b1] ++ (p.map Prod.fst).take (4 + n)) = (b0 :: b1 :: p.map Prod.fst).take (6 + n) := by
        rw [show 6 + n = 4 + n + 1 + 1 by omega, List.take_succ_cons, List.take_succ_cons]; rfl
      rw [hb0]
      have hlen : ((b0 :: b1 :: p.map Prod.fst).take (6 + n)).length = min (6 + n) (p.length + 2) := by rw [List.length_take]; simp
      have hd0 : ((b0 :: b1 :: p.map Prod.fst).take (6 + n)).getD 0 0 = b0 := by rw [show 6 + n = 5 + n + 1 by omega, List.take_succ_cons]; rfl
      have hd1 : ((b0 :: b1 :: p.map Prod.fst).take (6 + n)).getD 1 0 = b1 := by rw [show 6 + n = 4 + n + 1 + 1 by omega, List.take_succ_cons, List.take_succ_cons]; rfl
      unfold takenL
      simp only [hd0, hd1, hn, hlen]
      by_cases hok : p.length + 2 < 7 ∨ n < 1 ∨ p.length + 2 < 6 + n
      · rw [if_pos (show min (6 + n) (p.length + 2) ≤ 6 ∨ n < 1 ∨ 4096 < n ∨ min (6 + n) (p.length + 2) ≠ 6 + n by omega), if_pos (show p.length + 2 < 7 ∨ n < 1 ∨ 4096 < n ∨ p.length + 2 < 6 + n by omega)]
      · rw [if_neg (show ¬ (min (6 + n) (p.length + 2) ≤ 6 ∨ n < 1 ∨ 4096 < n ∨ min (6 + n) (p.length + 2) ≠ 6 + n) by omega), if_neg (show ¬ (p.length + 2 < 7 ∨ n < 1 ∨ 4096 < n ∨ p.length + 2 < 6 + n) by omega)]
        have hdr : ((b0 :: b1 :: p.map Prod.fst).drop 6).take n = ((b0 :: b1 :: p.map Prod.fst).take (6 + n)).drop 6 := by rw [List.drop_take, show 6 + n - 6 = n by omega]
        rw [hdr]
        have hq := encL_eq (b := (b0 :: b1 :: p.map Prod.fst).take (6 + n)) (n := n) (by rw [hlen]; omega) (by rw [hd0, hd1, hn]) (by omega)
        have hp : p ≠ [] := by rintro rfl; simp only [List.length_nil] at hok; omega
        rw [if_neg hp]
        have hnx : (p.getD (min (4 + n) p.length - 1) (0, 0)) = (((b0, e0) :: (b1, e1) :: p).getD (5 + n) (0, 0)) := by
          rw [show 5 + n = 3 + n + 1 + 1 by omega, List.getD_cons_succ, List.getD_cons_succ, show min (4 + n) p.length - 1 = 3 + n by omega]
        rw [hnx]
        by_cases he : encL (((b0 :: b1 :: p.map Prod.fst).take (6 + n)).drop 6) = (b0 :: b1 :: p.map Prod.fst).take (6 + n)
        · rw [if_pos he, if_pos (hq.1 he)]
        · rw [if_neg he, if_neg (fun h => he (hq.2 h))]
end Go.Proofs.YtlknmpnjhbdlhaaDoor.Fra
/-
  Layer 11, plain: a record appended to the bytes of a file.
-/
namespace Go.Proofs.YtlknmpnjhbdlhaaDoor.Fra
set_option linter.unusedVariables false

/-- How many bytes are passed to leave a block that is not for data. -/
def padN (all : List UInt8) : Nat := if all.length % 64 ≠ 0 ∧ all.getD (all.length - all.length % 64) 0 ≠ 0 then 64 - all.length % 64 else 0
/-- Where the first mark or byte goes. -/
def frontN (all : List UInt8) : Nat := all.length + padN all
/-- Where the record begins. -/
def atN (all : List UInt8) : Nat := if frontN all % 64 = 0 then frontN all + 1 else frontN all
/-- What is appended ahead of the record. -/
def aheadL (all : List UInt8) : List UInt8 := List.replicate (atN all - all.length) 0
/-- What is appended. -/
def pieceL (all b : List UInt8) : List UInt8 := aheadL all ++ layP (atN all) b
theorem atN_in (all : List UInt8) : atN all % 64 ≠ 0 := by
  unfold atN
  split
  · omega
  · assumption
theorem atN_ge (all : List UInt8) : all.length ≤ atN all := by unfold atN frontN; split <;> omega
theorem aheadL_len (all : List UInt8) : (aheadL all).length = atN all - all.length := by unfold aheadL; rw [List.length_replicate]
theorem piece_at (all b : List UInt8) : (all ++ aheadL all).length = atN all := by rw [List.length_append, aheadL_len]; have := atN_ge all; omega
theorem pad_case (all : List UInt8) : (padN all = 0 ∧ (all.length % 64 = 0 ∨ all.getD (all.length - all.length % 64) 0 = 0)) ∨ (all.length % 64 ≠ 0 ∧ padN all = 64 - all.length % 64) := by
  unfold padN
  by_cases h : all.length % 64 ≠ 0 ∧ all.getD (all.length - all.length % 64) 0 ≠ 0
  · rw [if_pos h]; exact .inr ⟨h.1, rfl⟩
  · rw [if_neg h]
    refine .inl ⟨rfl, ?_⟩
    by_cases h0 : all.length % 64 = 0
    · exact .inl h0
    · refine .inr (Classical.byContradiction fun h1 => h ⟨h0, h1⟩)
/-- The block in which the record begins is for data. -/
theorem start_mark (all r : List UInt8) : (all ++ aheadL all ++ r).getD (atN all - atN all % 64) 0 = 0 := by
  have hge := atN_ge all
  have hlen := piece_at all r
  rcases pad_case all with ⟨h0, h1⟩ | ⟨h0, h1⟩
  · by_cases h64 : all.length % 64 = 0
    · have ha : atN all = all.length + 1 := by unfold atN frontN; rw [h0, if_pos (by omega), Nat.add_zero]
      rw [ha, show all.length + 1 - (all.length + 1) % 64 = all.length by omega, List.getD_eq_getElem?_getD, List.append_assoc, List.getElem?_append_right (Nat.le_refl _), Nat.sub_self]
      unfold aheadL
      rw [ha, show all.length + 1 - all.length = 0 + 1 by omega, List.replicate_succ]
      rfl
    · have ha : atN all = all.length := by unfold atN frontN; rw [h0, if_neg (by omega)]; rfl
      have h2 := h1.resolve_left h64
      rw [ha, List.getD_eq_getElem?_getD, List.append_assoc, List.getElem?_append_left (by omega), ← List.getD_eq_getElem?_getD]
      exact h2
  · have hf : frontN all = all.length + (64 - all.length % 64) := by unfold frontN; rw [h1]
    have ha : atN all = all.length + (64 - all.length % 64) + 1 := by unfold atN; rw [hf, if_pos (by omega)]
    rw [ha, show all.length + (64 - all.length % 64) + 1 - (all.length + (64 - all.length % 64) + 1) % 64 = all.length + (64 - all.length % 64) by omega, List.getD_eq_getElem?_getD, List.append_assoc, List.getElem?_append_right (by omega)]
    unfold aheadL
    rw [ha, List.getElem?_append_left (by rw [List.length_replicate]; omega), List.getElem?_replicate]
    split <;> rfl
theorem start_yes (all b r : List UInt8) (hb : b ≠ []) : startB (all ++ (pieceL all b ++ r)) (atN all) = true := by
  have h1 := atN_in all
  have h2 := start_mark all (layP (atN all) b ++ r)
  have e : all ++ (pieceL all b ++ r) = all ++ aheadL all ++ (layP (atN all) b ++ r) := by unfold pieceL; simp
  rw [e]
  unfold startB
  rw [h2]
  have h3 : atN all < (all ++ aheadL all ++ (layP (atN all) b ++ r)).length := by
    rw [List.length_append, piece_at all [], List.length_append]
    have := (layP_ge b (atN all)).1
    have : 0 < b.length := List.length_pos_iff.2 hb
    omega
  have h4 : (atN all % 64 == 0) = false := beq_eq_false_iff_ne.2 h1
  rw [decide_eq_true h3, h4]
  rfl
theorem drop_at (all b r : List UInt8) : (all ++ (pieceL all b ++ r)).drop (atN all) = layP (atN all) b ++ r := by
  have e : all ++ (pieceL all b ++ r) = all ++ aheadL all ++ (layP (atN all) b ++ r) := by unfold pieceL; simp
  rw [e, ← piece_at all [], List.drop_left]
theorem piece_end (all b : List UInt8) : (all ++ pieceL all b).length = atN all + (layP (atN all) b).length := by
  have e : all ++ pieceL all b = all ++ aheadL all ++ layP (atN all) b := by unfold pieceL; simp
  rw [e, List.length_append, piece_at all []]
theorem encL_ne (l : List UInt8) : encL l ≠ [] := fun e => by have := congrArg List.length e; rw [encL_len] at this; simp at this
/-- What was appended is read, whatever is appended later. -/
theorem get_put (all l r : List UInt8) (h1 : 1 ≤ l.length) (h2 : l.length ≤ 4096) : getL (all ++ (pieceL all (encL l) ++ r)) (atN all) = some (l, (all ++ pieceL all (encL l)).length) := by
  unfold getL
  rw [if_pos (start_yes all _ r (encL_ne l)), drop_at, get_lay l h1 h2, piece_end]
/-- What is cut off is not read. -/
theorem get_torn (all l : List UInt8) (h1 : 1 ≤ l.length) (h2 : l.length ≤ 4096) (n : Nat) (ha : all.length ≤ n) (hn : n < (all ++ pieceL all (encL l)).length) : getL ((all ++ pieceL all (encL l)).take n) (atN all) = none := by
  have hl : ((all ++ pieceL all (encL l)).take n).length = n := by rw [List.length_take]; omega
  unfold getL
  by_cases hs : startB ((all ++ pieceL all (encL l)).take n) (atN all) = true
  · rw [if_pos hs]
    have hlt : atN all < n := by
      unfold startB at hs
      rw [hl] at hs
      simp only [Bool.and_eq_true, decide_eq_true_eq] at hs
      exact hs.1
    rw [List.drop_take]
    have hd := drop_at all (encL l) []
    rw [List.append_nil, List.append_nil] at hd
    rw [hd]
    rw [piece_end] at hn
    exact get_cut l h1 h2 _ _ (by omega)
  · rw [if_neg hs]
/-- Blocks that begin within what was appended are for data. -/
theorem piece_marks (all b : List UInt8) (i : Nat) (h1 : all.length ≤ i) (h64 : i % 64 = 0) (h2 : i < (all ++ pieceL all b).length) : (all ++ pieceL all b)[i]? = some 0 := by
  have e : all ++ pieceL all b = all ++ aheadL all ++ layP (atN all) b := by unfold pieceL; simp
  rw [piece_end] at h2
  rw [e]
  by_cases ha : i < atN all
  · rw [List.getElem?_append_left (by rw [piece_at all []]; exact ha), List.getElem?_append_right h1]
    unfold aheadL
    rw [List.getElem?_replicate, if_pos (by omega)]
  · rw [List.getElem?_append_right (by rw [piece_at all []]; omega), piece_at all []]
    exact lay_marks b (atN all) (i - atN all) (by omega) (by omega)
/-- How many bytes are appended at most. -/
theorem piece_len (all b : List UInt8) (hb : b.length ≤ 4102) : (pieceL all b).length ≤ 8300 := by
  have h1 := (layP_ge b (atN all)).2
  have h2 := aheadL_len all
  have h3 : atN all - all.length ≤ 65 := by
    unfold atN frontN padN
    split <;> split <;> omega
  unfold pieceL
  rw [List.length_append]
  omega
end Go.Proofs.YtlknmpnjhbdlhaaDoor.Fra
/-
  Layer 12, plain: blocks with turned bits; the last header among blocks; what is appended. No program in sight.
-/
namespace Go.Proofs.YtlknmpnjhbdlhaaDoor.Hdr
set_option linter.unusedVariables false

theorem more_xor (l : List UInt8) : Crc.more 0 l = 4294967295 ^^^ Crc.take 4294967295 l := by
  unfold Crc.more
  rw [Nat.sub_zero]
  exact Crc.comp _ (Crc.take_lt l (by decide))
theorem laid_take (t : Nat) (ht : t < 4294967296) (c : Nat) (hc : c < 4294967296) : Crc.take t (Crc.laid c) = Crc.stN 32 (t ^^^ c) := by
  unfold Crc.laid
  rw [take4, word_sum]
  congr 2
  simp only [UInt8.toNat_ofNat']
  omega
/-- All blocks of headers have one remainder. -/
theorem block_sum (g a : Nat) : Crc.take 4294967295 (blockL g a) = Crc.eat (Crc.stN 32 4294967295) 165 := by
  have ht := Crc.take_lt (preL g a) (s := 4294967295) (by decide)
  unfold blockL
  rw [Crc.take_append, Crc.take_append, Crc.take_one, laid_take _ ht _ (Crc.more_lt _ _), more_xor, Nat.xor_comm, Nat.xor_assoc, Nat.xor_self, Nat.xor_zero]
theorem says_is {b : List UInt8} {g a : Nat} (h : saysL b = some (g, a)) : b = blockL g a ∧ 1 ≤ g ∧ a < 524288 := by
  unfold saysL at h
  simp only at h
  split at h
  · rename_i hc
    obtain ⟨h1, h2, h3⟩ := hc
    injection h with h
    injection h with e1 e2
    rw [← e1, ← e2]
    exact ⟨h3.symm, h1, h2⟩
  · cases h
/-- Bits that are turned within 32 consecutive ones: no header's block. -/
theorem turned_says {g a f t : Nat} (ht : t < 4294967296) (h0 : t ≠ 0) (hf : f + 32 ≤ 512) : saysL (Fra.turnsL (blockL g a) f t 32) = none := by
  rcases hs : saysL (Fra.turnsL (blockL g a) f t 32) with _ | ⟨g', a'⟩
  · rfl
  exfalso
  obtain ⟨e, -, -⟩ := says_is hs
  have hl := block_len g a
  have hx := Fra.leX_turns (blockL g a) f t 32 (by omega)
  rw [Nat.mod_eq_of_lt (by simpa using ht)] at hx
  refine h0 (Fra.burst (Fra.turns_len (blockL g a) f t 32) hx ht (by omega) (s := 4294967295) ?_)
  rw [e, block_sum, block_sum]
theorem block_first (g a : Nat) : (blockL g a).getD 0 0 = 1 := rfl
theorem block_last (g a : Nat) : (blockL g a).getD 63 0 = 165 := by
  have h : (preL g a ++ Crc.laid (Crc.more 0 (preL g a))).length = 63 := by rw [List.length_append, pre_len]; rfl
  unfold blockL
  rw [List.getD_eq_getElem?_getD, List.getElem?_append_right (by omega), h]
  rfl
theorem says_first {b : List UInt8} (h : b.getD 0 0 ≠ 1) : saysL b = none := by
  rcases hs : saysL b with _ | ⟨g, a⟩
  · rfl
  · rw [(says_is hs).1, block_first] at h; exact absurd rfl h
theorem says_last {b : List UInt8} (h : b.getD 63 0 ≠ 165) : saysL b = none := by
  rcases hs : saysL b with _ | ⟨g, a⟩
  · rfl
  · rw [(says_is hs).1, block_last] at h; exact absurd rfl h

/-- A block of a row. -/
def blk (l : List UInt8) (i : Nat) : List UInt8 := (l.drop (64 * i)).take 64
theorem blk_at (l : List UInt8) (i j : Nat) (hj : j < 64) : (blk l i).getD j 0 = l.getD (64 * i + j) 0 := by
  unfold blk
  rw [List.getD_eq_getElem?_getD, List.getElem?_take_of_lt hj, List.getElem?_drop, ← List.getD_eq_getElem?_getD]
theorem blk_len (l : List UInt8) (i : Nat) (h : 64 * i + 64 ≤ l.length) : (blk l i).length = 64 := by
  unfold blk
  rw [List.length_take, List.length_drop]
  omega
/-- The last header of the first blocks, and where it stands. -/
def lastK (l : List UInt8) : Nat → Option (Nat × Nat × Nat)
  | 0 => none
  | k + 1 => match saysL (blk l k) with
    | some (g, a) => some (g, a, 64 * k)
    | none => lastK l k
/-- The last header of a row. -/
def lastH (l : List UInt8) : Option (Nat × Nat × Nat) := lastK l (l.length / 64)
theorem last_yes {l : List UInt8} {k g a : Nat} (h : saysL (blk l k) = some (g, a)) : lastK l (k + 1) = some (g, a, 64 * k) := by
  rw [lastK, h]
theorem last_no {l : List UInt8} {k : Nat} (h : saysL (blk l k) = none) : lastK l (k + 1) = lastK l k := by
  rw [lastK, h]
theorem last_skip (l : List UInt8) : ∀ (d k : Nat), (∀ i, k ≤ i → i < k + d → saysL (blk l i) = none) → lastK l (k + d) = lastK l k
  | 0, k, _ => rfl
  | d + 1, k, h => by
    rw [← Nat.add_assoc, last_no (h (k + d) (by omega) (by omega)), last_skip l d k fun i h1 h2 => h i h1 (by omega)]
theorem last_same {l m : List UInt8} : ∀ (k : Nat), (∀ i, i < k → blk l i = blk m i) → lastK l k = lastK m k
  | 0, _ => rfl
  | k + 1, h => by
    rw [lastK, lastK, h k (by omega), last_same k fun i hi => h i (by omega)]
theorem blk_front (l r : List UInt8) (i : Nat) (h : 64 * i + 64 ≤ l.length) : blk (l ++ r) i = blk l i := by
  unfold blk
  rw [List.drop_append_of_le_length (by omega), List.take_append_of_le_length (by rw [List.length_drop]; omega)]
/-- What is appended without a header: the last one stays. -/
theorem last_append (l r : List UInt8) (h : ∀ i, l.length / 64 ≤ i → i < (l ++ r).length / 64 → saysL (blk (l ++ r) i) = none) : lastH (l ++ r) = lastH l := by
  have hle : l.length / 64 ≤ (l ++ r).length / 64 := Nat.div_le_div_right (by rw [List.length_append]; omega)
  unfold lastH
  obtain ⟨d, hd⟩ : ∃ d, (l ++ r).length / 64 = l.length / 64 + d := ⟨_, (Nat.add_sub_cancel' hle).symm⟩
  rw [hd] at h ⊢
  rw [last_skip _ d _ h]
  exact last_same _ fun i hi => blk_front l r i (by omega)
/-- How many bytes are passed ahead of a header's block. -/
def gapN (n : Nat) : Nat := (64 - n % 64) % 64
/-- What is appended for a header. -/
def headL (n g a : Nat) : List UInt8 := List.replicate (gapN n) 0 ++ blockL g a
theorem head_len (n g a : Nat) : (headL n g a).length = gapN n + 64 := by unfold headL; rw [List.length_append, List.length_replicate, block_len]
theorem last_put (l : List UInt8) (g a : Nat) (h1 : 1 ≤ g) (hg : g < 18446744073709551616) (ha : a < 524288) : lastH (l ++ headL l.length g a) = some (g, a, l.length + gapN l.length) := by
  have hn : (l ++ headL l.length g a).length = l.length + gapN l.length + 64 := by rw [List.length_append, head_len]; omega
  obtain ⟨k, hk⟩ : ∃ k, l.length + gapN l.length = 64 * k := ⟨(l.length + gapN l.length) / 64, by unfold gapN; omega⟩
  have hb : blk (l ++ headL l.length g a) k = blockL g a := by
    have e : l ++ headL l.length g a = (l ++ List.replicate (gapN l.length) 0) ++ blockL g a := by unfold headL; rw [List.append_assoc]
    unfold blk
    rw [e, List.drop_append, List.drop_of_length_le (by rw [List.length_append, List.length_replicate]; omega), List.nil_append, List.length_append, List.length_replicate, hk, Nat.sub_self, List.drop_zero, List.take_of_length_le (by rw [block_len]; omega)]
  unfold lastH
  rw [hn, hk, show (64 * k + 64) / 64 = k + 1 by omega]
  exact last_yes (by rw [hb]; exact says_block g a h1 hg ha)
/-- A header's block that lacks a byte. -/
theorem last_cut (l : List UInt8) (g a c : Nat) (hc : c < gapN l.length + 64) : lastH (l ++ (headL l.length g a).take c) = lastH l := by
  apply last_append
  intro i h1 h2
  rw [List.length_append, List.length_take, head_len] at h2
  unfold gapN at hc h2
  apply says_last
  rw [blk_at _ _ _ (by omega), List.getD_eq_getElem?_getD, List.getElem?_append_right (by omega), List.getElem?_take_of_lt (by omega)]
  unfold headL
  rw [List.getElem?_append_left (by rw [List.length_replicate]; unfold gapN; omega), List.getElem?_replicate, if_pos (by unfold gapN; omega)]
  decide
/-- A record that is put. -/
theorem last_piece (l b : List UInt8) : lastH (l ++ Fra.pieceL l b) = lastH l := by
  apply last_append
  intro i h1 h2
  by_cases hi : l.length ≤ 64 * i
  · have h := Fra.piece_marks l b (64 * i) hi (by omega) (by omega)
    apply says_first
    rw [blk_at _ _ _ (by omega), Nat.add_zero, List.getD_eq_getElem?_getD, h]
    decide
  · have hi' : 64 * i = l.length - l.length % 64 := by omega
    rcases Fra.pad_case l with ⟨h0, h3⟩ | ⟨h0, h3⟩
    · have h4 := h3.resolve_left (by omega)
      apply says_first
      rw [blk_at _ _ _ (by omega), Nat.add_zero, List.getD_eq_getElem?_getD, List.getElem?_append_left (by omega), ← List.getD_eq_getElem?_getD, hi', h4]
      decide
    · have hat : l.length + (64 - l.length % 64) ≤ Fra.atN l := by unfold Fra.atN Fra.frontN; rw [h3]; split <;> omega
      apply says_last
      rw [blk_at _ _ _ (by omega), List.getD_eq_getElem?_getD, List.getElem?_append_right (by omega)]
      unfold Fra.pieceL
      rw [List.getElem?_append_left (by rw [Fra.aheadL_len]; omega)]
      unfold Fra.aheadL
      rw [List.getElem?_replicate, if_pos (by omega)]
      decide
end Go.Proofs.YtlknmpnjhbdlhaaDoor.Hdr
/-
  append onto a row of the call's own, the source given by 'Shows': nil, empty or not. No program in sight.
-/
namespace Go.Proofs.YtlknmpnjhbdlhaaDoor
open Go.RowKit

section
variable {P : Program} (w : World)

theorem run_append_shows (base : Nat) (t ty e : TypeId) (i : TypeInfo) (z : Value) (size bytes : Nat) (ht : P.underlying t = some (.slice e)) (hi : P.info? e = some i) (hz : i.zero = some z)
    (hsize : i.size = size) (hby : i.bytes = bytes) (hzs : z.cells.size = size) (hsz : 0 < size)
    (v : Value) (n : Nat) (xs : List Value) (hown : w.ownsRow base e size v n xs)
    (B : Nat) (A : Option Addr) (m c : Nat) (news : List Value) (hr : Shows w B size A m news) (h1 : ∀ u ∈ news, u.oneCell' = true)
    (h63 : n + m ≤ maxLen) (hbytes : (n + m) * bytes ≤ 140737488355328) (hbase : base ≤ w.heap.size) :
    ∃ A' c' w', (Builtin.append_ #[t, t] ty #[v, .slice A m c]).run P w = .ok (.slice A' (n + m) c') w' ∧ w'.ownsRow base e size (.slice A' (n + m) c') (n + m) (xs ++ news) ∧ w.grownBy w' v.ownBlock ∧ Below base w w' := by
  have key : ∃ v' w', (Builtin.append_ #[t, t] ty #[v, .slice A m c]).run P w = .ok v' w' ∧ w'.ownsRow base e size v' (n + m) (xs ++ news) ∧ w.grownBy w' v.ownBlock := by
    rcases A with _ | ad
    · have hm : m = 0 := by
        rcases Nat.eq_zero_or_pos m with h0 | h0
        · exact h0
        · obtain ⟨_, _, h, _⟩ := hr.2 h0
          cases h
      subst hm
      have hn : news = [] := List.eq_nil_of_length_eq_zero (by simpa using hr.1)
      subst hn
      refine ⟨v, w, ?_, by simpa using hown, World.grownBy.refl w _⟩
      rcases hown.2 with ⟨rfl, rfl⟩ | ⟨g, cap, cur, rfl, _, _, hnc, _⟩
      · simp [Builtin.append_, run_underlying ht, sizeOf, typeInfo, hi, Builtin.lenOf, Builtin.firstCells]
      · simp [Builtin.append_, run_underlying ht, sizeOf, typeInfo, hi, Builtin.lenOf, Builtin.firstCells, hnc, storeCells]
    · have hcells : ∀ j u, news[j]? = some u → w.cell? (ad.add j) = some u := by
        intro j u hu
        rcases Nat.eq_zero_or_pos m with h0 | h0
        · subst h0
          have hn : news = [] := List.eq_nil_of_length_eq_zero (by simpa using hr.1)
          subst hn
          simp at hu
        · obtain ⟨b, off, h, _, hc⟩ := hr.2 h0
          injection h with h
          subst h
          rw [addr_add]
          exact hc j u hu
      obtain ⟨v', w', hrun, h2, h3, _, _⟩ := run_append_own_at (P := P) w base t ty e i z size bytes ht hi hz hsize hby hzs hsz v n xs hown ad m c news hr.1 hcells h1 h63 hbytes hbase
      exact ⟨v', w', hrun, h2, h3⟩
  obtain ⟨v', w', hrun, h2, h3⟩ := key
  obtain ⟨A', c', rfl, _, _⟩ := own_form h2
  exact ⟨A', c', w', hrun, h2, h3, (Below.refl base w).grown h3 hbase fun k hk => (hown.lt k hk).1⟩

theorem wp_append_shows {o : Oper} {a : Act} {K : Act → World → Prop} {Q : Exit → Act → World → Prop} (s x : Operand) (t : TypeId)
    (ho : o.op = .call { callee := .builtin .append, args := #[s, x], argTypes := #[t, t] })
    (base : Nat) (e : TypeId) (i : TypeInfo) (z : Value) (size bytes : Nat) (ht : P.underlying t = some (.slice e)) (hi : P.info? e = some i) (hz : i.zero = some z)
    (hsize : i.size = size) (hby : i.bytes = bytes) (hzs : z.cells.size = size) (hsz : 0 < size)
    (v : Value) (n : Nat) (xs : List Value) (hs : a.eval s = v) (hown : w.ownsRow base e size v n xs)
    (B : Nat) (A : Option Addr) (m c : Nat) (news : List Value) (hx : a.eval x = .slice A m c) (hr : Shows w B size A m news) (h1 : ∀ u ∈ news, u.oneCell' = true)
    (h63 : n + m ≤ maxLen) (hbytes : (n + m) * bytes ≤ 140737488355328) (hbase : base ≤ w.heap.size)
    (h : ∀ A' c' w', w'.ownsRow base e size (.slice A' (n + m) c') (n + m) (xs ++ news) → w.grownBy w' v.ownBlock → Below base w w' → K (a.put o.dst (.slice A' (n + m) c')) w') :
    o.wp P a w K Q := by
  obtain ⟨A', c', w', hrun, h2, h3, h4⟩ := run_append_shows (P := P) w base t o.type e i z size bytes ht hi hz hsize hby hzs hsz v n xs hown B A m c news hr h1 h63 hbytes hbase
  unfold Oper.wp execOp
  simp only [ho, resolve, invoke, builtin, Sem.run_bind, Sem.run_pure, Result.andThen_ok, List.map_toArray, List.map_cons, List.map_nil, hs, hx, hrun]
  exact h A' c' w' h2 h3 h4

theorem wpList_append_shows {ops : Array Oper} {rest : List Oper} {o : Oper} {a : Act} {Q : Exit → Act → World → Prop} (hgd : o.guard = none) (s x : Operand) (t : TypeId)
    (ho : o.op = .call { callee := .builtin .append, args := #[s, x], argTypes := #[t, t] })
    (base : Nat) (e : TypeId) (i : TypeInfo) (z : Value) (size bytes : Nat) (ht : P.underlying t = some (.slice e)) (hi : P.info? e = some i) (hz : i.zero = some z)
    (hsize : i.size = size) (hby : i.bytes = bytes) (hzs : z.cells.size = size) (hsz : 0 < size)
    (v : Value) (n : Nat) (xs : List Value) (hs : a.eval s = v) (hown : w.ownsRow base e size v n xs)
    (B : Nat) (A : Option Addr) (m c : Nat) (news : List Value) (hx : a.eval x = .slice A m c) (hr : Shows w B size A m news) (h1 : ∀ u ∈ news, u.oneCell' = true)
    (h63 : n + m ≤ maxLen) (hbytes : (n + m) * bytes ≤ 140737488355328) (hbase : base ≤ w.heap.size)
    (h : ∀ A' c' w', w'.ownsRow base e size (.slice A' (n + m) c') (n + m) (xs ++ news) → w.grownBy w' v.ownBlock → Below base w w' → wpList P ops Q rest (a.put o.dst (.slice A' (n + m) c')) w') :
    wpList P ops Q (o :: rest) a w :=
  wpList_plain hgd fun _ hK => wp_append_shows w s x t ho base e i z size bytes ht hi hz hsize hby hzs hsz v n xs hs hown B A m c news hx hr h1 h63 hbytes hbase fun A' c' w' h2 h3 h4 => hK _ _ (h A' c' w' h2 h3 h4)

theorem step_append_shows {ops : Array Oper} {o : Oper} {a : Act} {K : Act → World → Prop} {Q : Exit → Act → World → Prop} {E : Prop} (hgd : o.guard = none) (s x : Operand) (t : TypeId)
    (ho : o.op = .call { callee := .builtin .append, args := #[s, x], argTypes := #[t, t] })
    (base : Nat) (e : TypeId) (i : TypeInfo) (z : Value) (size bytes : Nat) (ht : P.underlying t = some (.slice e)) (hi : P.info? e = some i) (hz : i.zero = some z)
    (hsize : i.size = size) (hby : i.bytes = bytes) (hzs : z.cells.size = size) (hsz : 0 < size)
    (v : Value) (n : Nat) (xs : List Value) (hs : a.eval s = v) (hown : w.ownsRow base e size v n xs)
    (B : Nat) (A : Option Addr) (m c : Nat) (news : List Value) (hx : a.eval x = .slice A m c) (hr : Shows w B size A m news) (h1 : ∀ u ∈ news, u.oneCell' = true)
    (h63 : n + m ≤ maxLen) (hbytes : (n + m) * bytes ≤ 140737488355328) (hbase : base ≤ w.heap.size)
    (h : ∀ A' c' w', w'.ownsRow base e size (.slice A' (n + m) c') (n + m) (xs ++ news) → w.grownBy w' v.ownBlock → Below base w w' → K (a.put o.dst (.slice A' (n + m) c')) w') :
    if Region.wanted o (yielded ops a.tmps) = true then Oper.wp P o a w K Q else E := by
  have hw : Region.wanted o (yielded ops a.tmps) = true := by simp [Region.wanted, hgd]
  rw [if_pos hw]
  exact wp_append_shows w s x t ho base e i z size bytes ht hi hz hsize hby hzs hsz v n xs hs hown B A m c news hx hr h1 h63 hbytes hbase h
end
end Go.Proofs.YtlknmpnjhbdlhaaDoor
/-
  A region that draws its order, walked by hand, operation by operation: taken first (wanted, or passed over), or carried out; steps that hand on an unnamed world with what it holds. No program in sight.
-/
namespace Go.Proofs.YtlknmpnjhbdlhaaDoor
open Go.RowKit
set_option linter.unusedVariables false

section
variable {P : Program} {l : List Oper} {Q : Exit → Act → World → Prop} {S : World → Prop}

/-- Operation i is wanted, and yields in every world that meets S: it is taken first. -/
theorem rg_in (i : Nat) {oi : Oper} {v : Value} {fuel : Nat} {listed : Array Bool} {a : Act} {w : World} (hi : l[i]? = some oi)
    (hs : Region.noSelect l.toArray = true) (hf : Region.free .any l.toArray listed i = true) (hr : (Region.ready .any l.toArray listed).contains i = true)
    (hw : Region.wanted oi (yielded l.toArray a.tmps) = true) (hQ : ∀ c a w, Q (.panic c) (a.put oi.dst v) w → Q (.panic c) a w) (hS : S w) (hv : ∀ w, S w → (execOp a.eval oi).run P w = .ok (.value v) w)
    (h : wpAnyH P .any l.toArray Q S fuel (listed.setIfInBounds i true) (a.put oi.dst v) w) : wpAnyH P .any l.toArray Q S (fuel + 1) listed a w :=
  wpAnyH_take (by rw [List.getElem?_toArray]; exact hi) hs hf hr hQ (.inl ⟨hw, hv⟩) hS h
/-- Operation i is not wanted: it is passed over. -/
theorem rg_off (i : Nat) {oi : Oper} {fuel : Nat} {listed : Array Bool} {a : Act} {w : World} (hi : l[i]? = some oi)
    (hs : Region.noSelect l.toArray = true) (hf : Region.free .any l.toArray listed i = true) (hr : (Region.ready .any l.toArray listed).contains i = true)
    (hw : Region.wanted oi (yielded l.toArray a.tmps) = false) (hQ : ∀ c a w, Q (.panic c) (a.put oi.dst undef) w → Q (.panic c) a w) (hS : S w)
    (h : wpAnyH P .any l.toArray Q S fuel (listed.setIfInBounds i true) (a.put oi.dst undef) w) : wpAnyH P .any l.toArray Q S (fuel + 1) listed a w :=
  wpAnyH_take (by rw [List.getElem?_toArray]; exact hi) hs hf hr hQ (.inr ⟨hw, rfl⟩) hS h
/-- Operation i alone may come up: it is carried out. -/
theorem rg_do (i : Nat) {oi : Oper} {fuel : Nat} {listed : Array Bool} {a : Act} {w : World} (hi : l[i]? = some oi)
    (hr : Region.ready .any l.toArray listed = [i])
    (hw : Region.wanted oi (yielded l.toArray a.tmps) = true)
    (h : ∀ K' : Act → World → Prop, Shut (∀ a w, S w → (S w → wpAnyH P .any l.toArray Q S fuel (listed.setIfInBounds i true) a w) → K' a w) → Oper.wp P oi a w K' Q) : wpAnyH P .any l.toArray Q S (fuel + 1) listed a w :=
  wpAnyH_ready hr (by simp) (AllReadyH.cons (by rw [List.getElem?_toArray]; exact hi) (fun K hK => by rw [if_pos hw]; exact h K hK) AllReadyH.nil)
/-- One of several that may come up. -/
theorem rg_cons {i : Nat} {oi : Oper} {rs : List Nat} {fuel : Nat} {listed : Array Bool} {a : Act} {w : World} (hi : l[i]? = some oi)
    (hw : Region.wanted oi (yielded l.toArray a.tmps) = true)
    (h : ∀ K' : Act → World → Prop, Shut (∀ a w, S w → (S w → wpAnyH P .any l.toArray Q S fuel (listed.setIfInBounds i true) a w) → K' a w) → Oper.wp P oi a w K' Q)
    (hs : AllReadyH P .any l.toArray Q S fuel listed a w rs) : AllReadyH P .any l.toArray Q S fuel listed a w (i :: rs) :=
  AllReadyH.cons (by rw [List.getElem?_toArray]; exact hi) (fun K hK => by rw [if_pos hw]; exact h K hK) hs
end

section
variable {P : Program} {w w' : World} {o : Oper} {a : Act} {K : Act → World → Prop} {Q : Exit → Act → World → Prop}
theorem blk_later {g : Nat} {x : Obj} (h : w.heap[g]? = some x) (hb : Below w.heap.size w w') : w'.heap[g]? = some x := (hb.block g (Array.getElem?_eq_some_iff.1 h).1).trans h
theorem blk_lt {g : Nat} {x : Obj} (h : w.heap[g]? = some x) : g < w.heap.size := (Array.getElem?_eq_some_iff.1 h).1
theorem blk_other {g : Nat} {x : Obj} {r : Option Nat} (h : w.heap[g]? = some x) (hg : w.grownBy w' r) (hne : some g ≠ r) : w'.heap[g]? = some x := (hg.block g (blk_lt h) hne).trans h
theorem own_later {base : Nat} {e : TypeId} {size n : Nat} {v : Value} {xs : List Value} (h : w.ownsRow base e size v n xs) (hb : Below w.heap.size w w') : w'.ownsRow base e size v n xs :=
  h.kept (row := none) ⟨hb.os, hb.tape, hb.output, hb.size, fun k hk _ => hb.block k hk⟩ (by cases hv : v.ownBlock; exact .inl rfl; exact .inr (by simp))
/-- A row of one element type and a block of another are apart. -/
theorem own_blk_ne {base g : Nat} {e t : TypeId} {size n : Nat} {v : Value} {xs : List Value} {C : Array Value} {fr : Nat × Nat} (h : w.ownsRow base e size v n xs) (hb : w.heap[g]? = some (.cells C t fr)) (hne : t ≠ e) : some g ≠ v.ownBlock := by
  rcases h.2 with ⟨rfl, _⟩ | ⟨k, cap, cur, rfl, _, hk, _⟩
  · simp [Value.ownBlock]
  · intro hg
    simp only [Value.ownBlock, Option.some.injEq] at hg
    subst hg
    rw [hb] at hk
    simp only [Option.some.injEq, Obj.cells.injEq] at hk
    exact hne hk.2.1
/-- '[]T{}'. -/
theorem step_row0 (t e : TypeId) (ho : o.op = .buildSlice t 0 #[]) (base size : Nat) (i : TypeInfo) (ht : P.underlying t = some (.slice e)) (hi : P.info? e = some i) (hbase : base ≤ w.heap.size)
    (h : ∀ g w', w.heap.size ≤ g → w'.ownsRow base e size (.slice (some ⟨g, 0, none⟩) 0 0) 0 [] → Below w.heap.size w w' → K (a.put o.dst (.slice (some ⟨g, 0, none⟩) 0 0)) w') : o.wp P a w K Q := by
  have h0 := h w.heap.size (w.alloc (.cells #[] e)) (Nat.le_refl _) (World.ownsRow_lit w #[] 0 hbase (Nat.zero_le _) (by simp)) ((Below.refl _ _).alloc (Nat.le_refl _) _)
  have hrun : (Instr.buildSlice t 0 #[]).run P w = .ok (.slice (some ⟨w.heap.size, 0, none⟩) 0 0) (w.alloc (.cells #[] e)) := by
    simp only [Instr.buildSlice, sizeOf, typeInfo]
    simp [run_underlying ht, hi, Instr.fill, newRow, Result.andThen]
    rw [Array.eq_empty_of_size_eq_zero (xs := Array.map (fun x => (default : Value)) (Array.range 0)) (by simp)]
  unfold Oper.wp execOp
  simp only [ho, List.map_toArray, List.map_nil, Sem.run_bind, Sem.run_pure, hrun, Result.andThen_ok]
  exact h0
/-- A new variable. -/
theorem step_alloc (t : TypeId) (ho : o.op = .alloc t) (i : TypeInfo) (z : Value) (hi : P.info? t = some i) (hz : i.zero = some z)
    (h : ∀ g w', w.heap.size ≤ g → w'.heap[g]? = some (.cells z.cells t) → Below w.heap.size w w' → K (a.put o.dst (.pointer (some ⟨g, 0, none⟩))) w') : o.wp P a w K Q := by
  have h0 := h w.heap.size (w.alloc (.cells z.cells t)) (Nat.le_refl _) (heap_alloc_new w _) ((Below.refl _ _).alloc (Nat.le_refl _) _)
  have hrun : (Instr.alloc t true (.tuple #[])).run P w = .ok (.pointer (some ⟨w.heap.size, 0, none⟩)) (w.alloc (.cells z.cells t)) := by
    simp only [Instr.alloc, zeroValue, typeInfo, newVar]
    simp [hi, hz, newRow, Result.andThen]
  unfold Oper.wp execOp
  simp only [ho, Sem.run_bind, Sem.run_pure, hrun, Result.andThen_ok]
  exact h0
/-- append onto '[]T{}'. -/
theorem step_app0 (s x : Operand) (t : TypeId) (ho : o.op = .call { callee := .builtin .append, args := #[s, x], argTypes := #[t, t] })
    (base : Nat) (e : TypeId) (i : TypeInfo) (z : Value) (size bytes : Nat) (ht : P.underlying t = some (.slice e)) (hi : P.info? e = some i) (hz : i.zero = some z)
    (hsize : i.size = size) (hby : i.bytes = bytes) (hzs : z.cells.size = size) (hsz : 0 < size)
    (g : Nat) (hs : a.eval s = .slice (some ⟨g, 0, none⟩) 0 0) (hown : w.ownsRow base e size (.slice (some ⟨g, 0, none⟩) 0 0) 0 [])
    (B : Nat) (A : Option Addr) (m c : Nat) (news : List Value) (hx : a.eval x = .slice A m c) (hr : Shows w B size A m news) (h1 : ∀ u ∈ news, u.oneCell' = true)
    (h63 : m ≤ maxLen) (hbytes : m * bytes ≤ 140737488355328) (hbase : base ≤ w.heap.size)
    (h : ∀ A' c' w', w'.ownsRow base e size (.slice A' m c') m news → Below w.heap.size w w' → K (a.put o.dst (.slice A' m c')) w') : o.wp P a w K Q := by
  rcases Nat.eq_zero_or_pos m with rfl | hm
  · obtain rfl : news = [] := List.eq_nil_of_length_eq_zero (by simpa using hr.1)
    have hrun : (Builtin.append_ #[t, t] o.type #[.slice (some ⟨g, 0, none⟩) 0 0, .slice A 0 c]).run P w = .ok (.slice (some ⟨g, 0, none⟩) 0 0) w := by
      cases A <;> simp [Builtin.append_, run_underlying ht, sizeOf, typeInfo, hi, Builtin.lenOf, Builtin.firstCells, loadCells, loadCellsFrom, storeCells, Result.andThen]
    unfold Oper.wp execOp
    simp only [ho, resolve, invoke, builtin, Sem.run_bind, Sem.run_pure, Result.andThen_ok, List.map_toArray, List.map_cons, List.map_nil, hs, hx, hrun]
    exact h _ _ w hown (Below.refl _ _)
  · obtain ⟨b, off, rfl, hb, hc⟩ := hr.2 hm
    obtain ⟨v', w', hrun, r1, r2⟩ := run_append_arg_grows (P := P) w t o.type e i z size bytes ht hi hz hsize hby hzs hsz ⟨g, 0, none⟩ 0 0 [] (by simp) (by simp) ⟨b, off, none⟩ m c news hr.1 (fun j u hu => by rw [addr_add]; exact hc j u hu) (by omega) (by omega) (by simpa using hbytes)
    unfold Oper.wp
    simp [execOp, ho, resolve, invoke, builtin, hs, hx, hrun, Result.andThen]
    have r1' : w'.ownsRow base e size v' m news := by
      simpa using own_base r1 hbase
    obtain ⟨A', c', rfl, _, _⟩ := own_form r1'
    exact h A' c' w' r1' ⟨r2.os, r2.tape, r2.output, r2.size, fun k hk => r2.block k hk (by simp)⟩
end
end Go.Proofs.YtlknmpnjhbdlhaaDoor
/-
  Arrays of bytes by value: a block that holds one, its load, its store, a copy into it, its comparison. No program in sight.
-/
namespace Go.Proofs.YtlknmpnjhbdlhaaDoor
open Go.RowKit
set_option linter.unusedVariables false

/-- An array of bytes, as a value. -/
def arrV (l : List UInt8) : Value := .agg ⟨l.map bv⟩
/-- A block holds an array of bytes. -/
def Arr (w : World) (g : Nat) (t : TypeId) (l : List UInt8) : Prop := w.heap[g]? = some (.cells ⟨l.map bv⟩ t (0, 0))
section
variable {w w' : World} {g : Nat} {t : TypeId} {l : List UInt8}
theorem Arr.lt (h : Arr w g t l) : g < w.heap.size := (Array.getElem?_eq_some_iff.1 h).1
theorem Arr.later (h : Arr w g t l) (hb : Below w.heap.size w w') : Arr w' g t l := blk_later h hb
theorem Arr.below {B : Nat} (h : Arr w g t l) (hg : g < B) (hb : Below B w w') : Arr w' g t l := (hb.block g hg).trans h
theorem Arr.drew (h : Arr w g t l) : Arr w.drew g t l := h
theorem Arr.drewN (h : Arr w g t l) (n : Nat) : Arr (w.drewN n) g t l := h
theorem Arr.alloc (h : Arr w g t l) (o : Obj) : Arr (w.alloc o) g t l := h.later ((Below.refl _ _).alloc (Nat.le_refl _) _)
theorem Arr.new (w : World) (t : TypeId) (l : List UInt8) : Arr (w.alloc (.cells ⟨l.map bv⟩ t)) w.heap.size t l := heap_alloc_new w _
theorem Arr.bytes (h : Arr w g t l) {B : Nat} (hB : g < B) : Bytes w B (some ⟨g, 0, none⟩) l.length l :=
  ⟨by simp, fun _ => ⟨g, 0, rfl, hB, fun j u hu => by
    rw [cell_of_row _ _ _ _ _ _ h, Nat.zero_add]
    simpa using hu⟩⟩
theorem Arr.cell (h : Arr w g t l) {j : Nat} (hj : j < l.length) : w.cell? ⟨g, j, none⟩ = some (.int .u8 (at8 l j)) := by
  rw [cell_of_row _ _ _ _ _ _ h]
  simpa using at8_bv hj
theorem Arr.soft (h : Arr w g t l) (j : Nat) : w.frozen? ⟨g, j, none⟩ = false := by
  have h' : w.heap[g]? = _ := h
  simp [World.frozen?, h']
end

section
variable {P : Program} {w : World} {g : Nat} {t : TypeId} {l m : List UInt8}
theorem run_loadArr {n : Nat} {e : TypeId} (hb : Arr w g t l) (hu : P.underlying t = some (.array n e)) (hi : (P.info? t).map (·.size) = some l.length) :
    (Instr.loadAt t (.pointer (some ⟨g, 0, none⟩))).run P w = .ok (arrV l) w :=
  run_loadAt_mid w g 0 t (l.map bv) _ (fun j v hv => by
    rw [cell_of_row _ _ _ _ _ _ hb, Nat.zero_add]
    simpa using hv) hu rfl (by rw [List.length_map]; exact hi)
theorem wp_loadArr {o : Oper} {a : Act} {K : Act → World → Prop} {Q : Exit → Act → World → Prop} (x : Operand) (ho : o.op = .load t x) (hx : a.eval x = .pointer (some ⟨g, 0, none⟩)) (hb : Arr w g t l)
    {n : Nat} {e : TypeId} (hu : P.underlying t = some (.array n e)) (hi : (P.info? t).map (·.size) = some l.length) (h : K (a.put o.dst (arrV l)) w) : o.wp P a w K Q := by
  have hr := run_loadArr (P := P) hb hu hi
  unfold Oper.wp execOp
  simp only [ho, hx, Sem.run_bind, Sem.run_pure, Result.andThen_ok, hr]
  exact h
theorem wpList_loadArr {ops : Array Oper} {rest : List Oper} {o : Oper} {a : Act} {Q : Exit → Act → World → Prop} (hgd : o.guard = none) (x : Operand) (ho : o.op = .load t x) (hx : a.eval x = .pointer (some ⟨g, 0, none⟩)) (hb : Arr w g t l)
    {n : Nat} {e : TypeId} (hu : P.underlying t = some (.array n e)) (hi : (P.info? t).map (·.size) = some l.length) (h : wpList P ops Q rest (a.put o.dst (arrV l)) w) : wpList P ops Q (o :: rest) a w :=
  wpList_plain hgd fun _ hK => wp_loadArr x ho hx hb hu hi (hK _ _ h)

/-- What a store into a block leaves. -/
structure OnlyB (g : Nat) (w w' : World) : Prop where
  size : w'.heap.size = w.heap.size
  other : ∀ k, k ≠ g → w'.heap[k]? = w.heap[k]?
  below : ∀ B, B ≤ g → Below B w w'
theorem setRow_only (w : World) (g : Nat) (cs : Array Value) : OnlyB g w (w.setRow g cs) :=
  ⟨by simp [World.setRow], fun k hk => by
    unfold World.setRow
    rw [Array.getElem?_modify, if_neg (fun e => hk e.symm)], fun B hB => below_setRow (Below.refl B w) hB cs⟩
theorem OnlyB.arr {g' : Nat} {w' : World} {t' : TypeId} {l' : List UInt8} (h : OnlyB g w w') (hb : Arr w g' t' l') (hne : g' ≠ g) : Arr w' g' t' l' := (h.other g' hne).trans hb
theorem OnlyB.cell {w' : World} (h : OnlyB g w w') {p : Addr} (hp : p.block ≠ g) : w'.cell? p = w.cell? p := World.cell?_of_block (h.other _ hp)
theorem OnlyB.bytes {w' : World} (h : OnlyB g w w') {B n : Nat} {A : Option Addr} {k : List UInt8} (hk : Bytes w B A n k) (hB : B ≤ g) : Bytes w' B A n k := hk.keep fun p hp => h.cell (by omega)
theorem run_storeArr (hb : Arr w g t l) (hi : (P.info? t).map (·.size) = some l.length) (hm : m.length = l.length) :
    ∃ w', (Instr.storeAt t (.pointer (some ⟨g, 0, none⟩)) (arrV m)).run P w = .ok () w' ∧ Arr w' g t m ∧ OnlyB g w w' := by
  refine ⟨w.setRow g ⟨m.map bv⟩, ?_, setRow_heap w g _ _ t _ hb, setRow_only w g _⟩
  simp only [Instr.storeAt, Instr.sureAddr, Sem.run_bind, Sem.run_pure, Result.andThen_ok, arrV]
  rw [run_storeVar_row _ _ t t ⟨l.map bv⟩ ⟨m.map bv⟩ hb (by simpa [hm] using hi) (by simp [hm]) (Array.all_eq_true_iff_forall_mem.2 fun v hv => bv_one m v (by simpa using hv))]
theorem wp_storeArr {o : Oper} {a : Act} {K : Act → World → Prop} {Q : Exit → Act → World → Prop} (x y : Operand) (ho : o.op = .store t x y) (hx : a.eval x = .pointer (some ⟨g, 0, none⟩)) (hy : a.eval y = arrV m) (hb : Arr w g t l)
    (hi : (P.info? t).map (·.size) = some l.length) (hm : m.length = l.length) (h : ∀ w', Arr w' g t m → OnlyB g w w' → K (a.put o.dst undef) w') : o.wp P a w K Q := by
  obtain ⟨w', hr, h1, h2⟩ := run_storeArr (P := P) hb hi hm
  unfold Oper.wp execOp
  simp only [ho, hx, hy, Sem.run_bind, hr, Result.andThen_ok, Sem.run_pure]
  exact h w' h1 h2
theorem wpList_storeArr {ops : Array Oper} {rest : List Oper} {o : Oper} {a : Act} {Q : Exit → Act → World → Prop} (hgd : o.guard = none) (x y : Operand) (ho : o.op = .store t x y) (hx : a.eval x = .pointer (some ⟨g, 0, none⟩)) (hy : a.eval y = arrV m) (hb : Arr w g t l)
    (hi : (P.info? t).map (·.size) = some l.length) (hm : m.length = l.length) (h : ∀ w', Arr w' g t m → OnlyB g w w' → wpList P ops Q rest (a.put o.dst undef) w') : wpList P ops Q (o :: rest) a w :=
  wpList_plain hgd fun _ hK => wp_storeArr x y ho hx hy hb hi hm fun w' h1 h2 => hK _ _ (h w' h1 h2)

/-- Bytes laid over bytes. -/
def overL (l : List UInt8) (k : List UInt8) : List UInt8 := k ++ l.drop k.length
theorem over_len {l k : List UInt8} (h : k.length ≤ l.length) : (overL l k).length = l.length := by
  unfold overL
  rw [List.length_append, List.length_drop]
  omega
/-- A copy over the beginning of an array. -/
theorem run_copyArr {dT sT ty e : TypeId} (hb : Arr w g t l) (dLen dCap : Nat) (B : Nat) (A : Option Addr) (n c : Nat) (k : List UInt8) (hk : Bytes w B A n k) (hn : 0 < n) (hd : n ≤ dLen) (hl : n ≤ l.length)
    (hu : P.underlying dT = some (.slice e)) (hs : (P.info? e).map (·.size) = some 1) :
    ∃ w', (Builtin.copy_ #[dT, sT] ty #[.slice (some ⟨g, 0, none⟩) dLen dCap, .slice A n c]).run P w = .ok (.int .i64 (n : Nat)) w' ∧ Arr w' g t (overL l k) ∧ OnlyB g w w' := by
  obtain ⟨b, off, rfl, hbB, hc⟩ := hk.2 hn
  have hkl := hk.len
  have hmin : Nat.min n dLen = n := Nat.min_eq_left hd
  have hr := run_copy_row P w dT sT ty e g 0 dLen dCap ⟨b, off, none⟩ n c ⟨l.map bv⟩ t (k.map bv) hu hs hb (by rw [List.length_map, hkl, hmin]) (fun j v hv => by rw [addr_add]; exact hc j v hv) (by simp; omega) (bv_one k)
  refine ⟨w.setRow g ⟨(overL l k).map bv⟩, ?_, setRow_heap w g _ _ t _ hb, setRow_only w g _⟩
  rw [hr]
  have e1 : goInt (k.map bv).length = .int .i64 (n : Nat) := by rw [List.length_map, hkl]; rfl
  rw [e1]
  congr 2
  unfold overL
  simp
theorem wpList_copyArr {ops : Array Oper} {rest : List Oper} {o : Oper} {a : Act} {Q : Exit → Act → World → Prop} (hgd : o.guard = none) (d s : Operand) (dT sT e : TypeId) (ho : o.op = .call { callee := .builtin .copy, args := #[d, s], argTypes := #[dT, sT] })
    (hb : Arr w g t l) (dLen dCap : Nat) (hd0 : a.eval d = .slice (some ⟨g, 0, none⟩) dLen dCap) (B : Nat) (A : Option Addr) (n c : Nat) (k : List UInt8) (hs0 : a.eval s = .slice A n c) (hk : Bytes w B A n k) (hn : 0 < n) (hd : n ≤ dLen) (hl : n ≤ l.length)
    (hu : P.underlying dT = some (.slice e)) (hs : (P.info? e).map (·.size) = some 1) (h : ∀ w', Arr w' g t (overL l k) → OnlyB g w w' → wpList P ops Q rest (a.put o.dst (.int .i64 (n : Nat))) w') : wpList P ops Q (o :: rest) a w :=
  wpList_plain hgd fun _ hK => by
    obtain ⟨w', hr, h1, h2⟩ := run_copyArr (P := P) (sT := sT) (ty := o.type) hb dLen dCap B A n c k hk hn hd hl hu hs
    unfold Oper.wp execOp
    simp only [ho, resolve, invoke, builtin, Sem.run_bind, Sem.run_pure, Result.andThen_ok, List.map_toArray, List.map_cons, List.map_nil, hd0, hs0, hr]
    exact hK _ _ (h w' h1 h2)
theorem step_copyArr {o : Oper} {a : Act} {K : Act → World → Prop} {Q : Exit → Act → World → Prop} (d s : Operand) (dT sT e : TypeId) (ho : o.op = .call { callee := .builtin .copy, args := #[d, s], argTypes := #[dT, sT] })
    (hb : Arr w g t l) (dLen dCap : Nat) (hd0 : a.eval d = .slice (some ⟨g, 0, none⟩) dLen dCap) (B : Nat) (A : Option Addr) (n c : Nat) (k : List UInt8) (hs0 : a.eval s = .slice A n c) (hk : Bytes w B A n k) (hn : 0 < n) (hd : n ≤ dLen) (hl : n ≤ l.length)
    (hu : P.underlying dT = some (.slice e)) (hs : (P.info? e).map (·.size) = some 1) (h : ∀ w', Arr w' g t (overL l k) → OnlyB g w w' → K (a.put o.dst (.int .i64 (n : Nat))) w') : o.wp P a w K Q := by
  obtain ⟨w', hr, h1, h2⟩ := run_copyArr (P := P) (sT := sT) (ty := o.type) hb dLen dCap B A n c k hk hn hd hl hu hs
  unfold Oper.wp execOp
  simp only [ho, resolve, invoke, builtin, Sem.run_bind, Sem.run_pure, Result.andThen_ok, List.map_toArray, List.map_cons, List.map_nil, hd0, hs0, hr]
  exact h w' h1 h2

theorem run_eqBytes (d : Nat) {e : TypeId} (he : P.underlying e = some (.int .u8)) (l m : List UInt8) (w : World) : ∀ is : List Nat, (∀ i ∈ is, i < l.length ∧ i < m.length) →
    (Op.eqItems (d + 1) e 1 ⟨l.map bv⟩ ⟨m.map bv⟩ is).run P w = .ok (is.all fun i => l.getD i 0 == m.getD i 0) w
  | [], _ => by simp [Op.eqItems]
  | i :: is, h => by
    obtain ⟨h1, h2⟩ := h i (by simp)
    have hp : P.plainKey e = true := by simp [Program.plainKey, he]
    have p1 : (part e ⟨l.map bv⟩ (i * 1)).run P w = .ok (.int .u8 (at8 l i)) w := run_part_plain w hp (by rw [Nat.mul_one]; simpa using at8_bv h1)
    have p2 : (part e ⟨m.map bv⟩ (i * 1)).run P w = .ok (.int .u8 (at8 m i)) w := run_part_plain w hp (by rw [Nat.mul_one]; simpa using at8_bv h2)
    have hq : (at8 l i == at8 m i) = (l.getD i 0 == m.getD i 0) := by
      rw [Bool.eq_iff_iff, beq_iff_eq, beq_iff_eq]
      exact ⟨at8_inj, fun e => by unfold at8; rw [e]⟩
    simp only [Op.eqItems, Sem.run_bind, p1, p2, Result.andThen_ok, run_equalIn_int w d e .u8 .u8 _ _ he, hq, List.all_cons]
    cases hb : (l.getD i 0 == m.getD i 0)
    · simp
    · simp only [Bool.true_and]
      exact run_eqBytes d he l m w is fun j hj => h j (by simp [hj])
theorem run_equalArr {n : Nat} {e : TypeId} {i : TypeInfo} (hu : P.underlying t = some (.array n e)) (he : P.underlying e = some (.int .u8)) (hi : P.info? e = some i) (hce : P.cellsOf e = 1) (hl : l.length = n) (hm : m.length = n) :
    (Op.equal t (arrV l) (arrV m)).run P w = .ok (decide (l = m)) w := by
  unfold Op.equal arrV
  rw [show Op.maxDepth = 9998 + 1 + 1 from rfl, run_equalIn_array w (9998 + 1) _ _ hu hi, hce, run_eqBytes 9998 he l m w _ (fun i hi => by have := List.mem_range.1 hi; omega)]
  congr 1
  rw [Bool.eq_iff_iff, decide_eq_true_iff, List.all_eq_true]
  constructor
  · intro h
    apply List.ext_getElem (by omega)
    intro i h1 h2
    have := h i (List.mem_range.2 (by omega))
    simpa [List.getD_eq_getElem?_getD, List.getElem?_eq_getElem h1, List.getElem?_eq_getElem h2] using this
  · rintro rfl i _
    simp
theorem wp_neqArr {o : Oper} {a : Act} {K : Act → World → Prop} {Q : Exit → Act → World → Prop} (x y : Operand) (r : TypeId) (ho : o.op = .binOp .neq t x y r) (hx : a.eval x = arrV l) (hy : a.eval y = arrV m)
    {n : Nat} {e : TypeId} {i : TypeInfo} (hu : P.underlying t = some (.array n e)) (he : P.underlying e = some (.int .u8)) (hi : P.info? e = some i) (hce : P.cellsOf e = 1) (hl : l.length = n) (hm : m.length = n) (hg : P.eqGuardType P.depth t = false)
    (h : K (a.put o.dst (.bool (!decide (l = m)))) w) : o.wp P a w K Q := by
  have hq := run_equalArr (P := P) (w := w) hu he hi hce hl hm
  have hgd : (eqGuard .neq t x y (arrV l) (arrV m)).run P w = .ok () w := run_eqGuard_agg w .neq t x y _ _ hg
  have hb : (binOp .neq t (arrV l) (arrV m)).run P w = .ok (.bool (!decide (l = m))) w := by
    show ((do pure (.bool (!(← Op.equal t (arrV l) (arrV m)))) : Sem Value)).run P w = _
    rw [Sem.run_bind, hq]
    rfl
  unfold Oper.wp execOp
  simp only [ho, hx, hy, Sem.run_bind, hgd, Result.andThen_ok, hb]
  exact h
theorem wp_eqArr {o : Oper} {a : Act} {K : Act → World → Prop} {Q : Exit → Act → World → Prop} (x y : Operand) (r : TypeId) (ho : o.op = .binOp .eql t x y r) (hx : a.eval x = arrV l) (hy : a.eval y = arrV m)
    {n : Nat} {e : TypeId} {i : TypeInfo} (hu : P.underlying t = some (.array n e)) (he : P.underlying e = some (.int .u8)) (hi : P.info? e = some i) (hce : P.cellsOf e = 1) (hl : l.length = n) (hm : m.length = n) (hg : P.eqGuardType P.depth t = false)
    (h : K (a.put o.dst (.bool (decide (l = m)))) w) : o.wp P a w K Q := by
  have hq := run_equalArr (P := P) (w := w) hu he hi hce hl hm
  have hgd : (eqGuard .eql t x y (arrV l) (arrV m)).run P w = .ok () w := run_eqGuard_agg w .eql t x y _ _ hg
  have hb : (binOp .eql t (arrV l) (arrV m)).run P w = .ok (.bool (decide (l = m))) w := by
    show ((do pure (.bool (← Op.equal t (arrV l) (arrV m))) : Sem Value)).run P w = _
    rw [Sem.run_bind, hq]
    rfl
  unfold Oper.wp execOp
  simp only [ho, hx, hy, Sem.run_bind, hgd, Result.andThen_ok, hb]
  exact h
end
end Go.Proofs.YtlknmpnjhbdlhaaDoor
