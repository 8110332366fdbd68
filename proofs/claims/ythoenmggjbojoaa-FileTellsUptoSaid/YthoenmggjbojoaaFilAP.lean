/-
  Layer 10, plain: the counts of operations before the power is lost, and before one is refused.
-/
import Derived.Test.YthoenmggjbojoaaFilAO
namespace Go.Proofs.Ythoenmggjbojoaa
open Go.RowKit
set_option linter.unusedVariables false

/-- An operation: what is asked, and what is then done. -/
def opS (S : FileS) (long more : Nat) (f : FileS → FileS) : FileS × Int := if (S.asked long more).2 = 0 then (f (S.asked long more).1, 0) else S.asked long more
/-- An Append or a Sync. -/
theorem doS_op (x : DeedT) (h3 : whichN x.kind ≤ 3) (hb : whichN x.kind < 3 → x.bytes.n ≠ 0) (fi : List UInt8) (lo : List (List UInt8)) (long : Nat) :
    ∃ more fi' lo', ∀ u v b, doS ⟨fi, lo, u, v, b⟩ long x = opS ⟨fi, lo, u, v, b⟩ long more (fun r => ⟨fi', lo', r.fuse, r.fault, r.off⟩) := by
  by_cases h : whichN x.kind = 3
  · refine ⟨0, fi ++ lo.flatten, [], fun u v b => ?_⟩
    unfold doS
    rw [if_pos h]
    rfl
  · refine ⟨x.bytes.l.length, fi, lo ++ [x.bytes.l], fun u v b => ?_⟩
    unfold doS
    rw [if_neg h, if_neg (by omega), if_neg (by omega), if_neg (by omega), if_neg (hb (by omega))]
    have e := asked_same ⟨fi, lo, u, v, b⟩ long x.bytes.l.length
    unfold FileS.append opS
    split
    · refine Prod.ext ?_ rfl
      dsimp only
      rw [e.1]
    · rfl
theorem asked_plain (fi : List UInt8) (lo : List (List UInt8)) (long more : Nat) : FileS.asked ⟨fi, lo, -1, -1, false⟩ long more = if 524288 < long + more then (⟨fi, lo, -1, -1, false⟩, 8) else (⟨fi, lo, -1, -1, false⟩, 0) := by
  unfold FileS.asked
  rw [if_neg (by show ¬ false = true; decide)]
  split
  · rfl
  · rfl
theorem asked_fuse (fi : List UInt8) (lo : List (List UInt8)) (k long more : Nat) : FileS.asked ⟨fi, lo, (k : Nat), -1, false⟩ long more = if 524288 < long + more then (⟨fi, lo, (k : Nat), -1, false⟩, 8) else if k = 0 then (⟨fi, lo, -1, -1, true⟩, 10) else (⟨fi, lo, ((k - 1 : Nat) : Int), -1, false⟩, 0) := by
  unfold FileS.asked
  rw [if_neg (by show ¬ false = true; decide)]
  split
  · rfl
  · rw [if_neg (by show ¬ (-1 : Int) = 0; decide)]
    dsimp only
    by_cases h : k = 0
    · rw [if_pos (by omega), if_pos h]; rfl
    · rw [if_neg (by omega), if_neg h, if_pos (by omega : (0 : Int) < (k : Int)), show ((k : Nat) : Int) - 1 = ((k - 1 : Nat) : Int) by omega]; rfl
theorem asked_fault (fi : List UInt8) (lo : List (List UInt8)) (k long more : Nat) : FileS.asked ⟨fi, lo, -1, (k : Nat), false⟩ long more = if 524288 < long + more then (⟨fi, lo, -1, (k : Nat), false⟩, 8) else if k = 0 then (⟨fi, lo, -1, -1, false⟩, 9) else (⟨fi, lo, -1, ((k - 1 : Nat) : Int), false⟩, 0) := by
  unfold FileS.asked
  rw [if_neg (by show ¬ false = true; decide)]
  split
  · rfl
  · by_cases h : k = 0
    · rw [if_pos (by show ((k : Nat) : Int) = 0; omega), if_pos h]
    · rw [if_neg (by show ¬ ((k : Nat) : Int) = 0; omega), if_neg h]
      dsimp only
      rw [if_neg (by decide), if_pos (by omega : (0 : Int) < (k : Int)), show ((k : Nat) : Int) - 1 = ((k - 1 : Nat) : Int) by omega]
      rfl
theorem asked_off (fi : List UInt8) (lo : List (List UInt8)) (u v : Int) (long more : Nat) : (FileS.asked ⟨fi, lo, u, v, true⟩ long more).2 = 10 := by
  unfold FileS.asked
  rw [if_pos rfl]
/-- An operation on a file that neither count holds back, and on one that so many are left to. -/
theorem counts_step (fi : List UInt8) (lo : List (List UInt8)) (k long : Nat) (x : DeedT) (h3 : whichN x.kind ≤ 3) (hb : whichN x.kind < 3 → x.bytes.n ≠ 0) :
    ((doS ⟨fi, lo, -1, -1, false⟩ long x).2 = 8 ∧ (doS ⟨fi, lo, (k : Nat), -1, false⟩ long x).2 = 8) ∨
    ((doS ⟨fi, lo, -1, -1, false⟩ long x).2 = 0 ∧ k = 0 ∧ doS ⟨fi, lo, (k : Nat), -1, false⟩ long x = (⟨fi, lo, -1, -1, true⟩, 10) ∧ (doS ⟨fi, lo, -1, -1, true⟩ long x).2 = 10) ∨
    (0 < k ∧ ∃ fi' lo', doS ⟨fi, lo, -1, -1, false⟩ long x = (⟨fi', lo', -1, -1, false⟩, 0) ∧ doS ⟨fi, lo, (k : Nat), -1, false⟩ long x = (⟨fi', lo', ((k - 1 : Nat) : Int), -1, false⟩, 0)) := by
  obtain ⟨more, fi', lo', h⟩ := doS_op x h3 hb fi lo long
  rw [h, h, h]
  unfold opS
  rw [asked_plain, asked_fuse]
  by_cases hf : 524288 < long + more
  · exact .inl ⟨by simp [hf], by simp [hf]⟩
  · by_cases hk : k = 0
    · exact .inr (.inl ⟨by simp [hf], hk, by simp [hf, hk], by rw [if_neg (by rw [asked_off]; decide)]; exact asked_off _ _ _ _ _ _⟩)
    · exact .inr (.inr ⟨by omega, fi', lo', by simp [hf], by simp [hf, hk]⟩)
theorem refuses_step (fi : List UInt8) (lo : List (List UInt8)) (k long : Nat) (x : DeedT) (h3 : whichN x.kind ≤ 3) (hb : whichN x.kind < 3 → x.bytes.n ≠ 0) :
    ((doS ⟨fi, lo, -1, -1, false⟩ long x).2 = 8 ∧ (doS ⟨fi, lo, -1, (k : Nat), false⟩ long x).2 = 8) ∨
    ((doS ⟨fi, lo, -1, -1, false⟩ long x).2 = 0 ∧ k = 0 ∧ doS ⟨fi, lo, -1, (k : Nat), false⟩ long x = (⟨fi, lo, -1, -1, false⟩, 9)) ∨
    (0 < k ∧ ∃ fi' lo', doS ⟨fi, lo, -1, -1, false⟩ long x = (⟨fi', lo', -1, -1, false⟩, 0) ∧ doS ⟨fi, lo, -1, (k : Nat), false⟩ long x = (⟨fi', lo', -1, ((k - 1 : Nat) : Int), false⟩, 0)) := by
  obtain ⟨more, fi', lo', h⟩ := doS_op x h3 hb fi lo long
  rw [h, h]
  unfold opS
  rw [asked_plain, asked_fault]
  by_cases hf : 524288 < long + more
  · exact .inl ⟨by simp [hf], by simp [hf]⟩
  · by_cases hk : k = 0
    · exact .inr (.inl ⟨by simp [hf], hk, by simp [hf, hk]⟩)
    · exact .inr (.inr ⟨by omega, fi', lo', by simp [hf], by simp [hf, hk]⟩)
theorem plain_step (fi : List UInt8) (lo : List (List UInt8)) (long : Nat) (x : DeedT) (h3 : whichN x.kind ≤ 3) (hb : whichN x.kind < 3 → x.bytes.n ≠ 0) :
    (doS ⟨fi, lo, -1, -1, false⟩ long x).2 = 8 ∨ ∃ fi' lo', doS ⟨fi, lo, -1, -1, false⟩ long x = (⟨fi', lo', -1, -1, false⟩, 0) := by
  obtain ⟨more, fi', lo', h⟩ := doS_op x h3 hb fi lo long
  rw [h]
  unfold opS
  rw [asked_plain]
  by_cases hf : 524288 < long + more
  · exact .inl (by simp [hf])
  · exact .inr ⟨fi', lo', by simp [hf]⟩
theorem all_s5 (fi : List UInt8) (lo : List (List UInt8)) (u v : Int) (b : Bool) : FileS.all ⟨fi, lo, u, v, b⟩ = fi ++ lo.flatten := rfl
theorem right_u {fi : List UInt8} {lo : List (List UInt8)} (h : FileS.right ⟨fi, lo, -1, -1, false⟩ = true) {u v : Int} (hu : -1 ≤ u) (hv : -1 ≤ v) : FileS.right ⟨fi, lo, u, v, false⟩ = true := by
  obtain ⟨h1, _, _, _, h5⟩ := rightS.1 h
  exact rightS.2 ⟨h1, hu, hv, fun h => (by cases h), h5⟩
theorem right_o {fi : List UInt8} {lo : List (List UInt8)} (h : FileS.right ⟨fi, lo, -1, -1, false⟩ = true) : FileS.right ⟨fi, lo, -1, -1, true⟩ = true := by
  obtain ⟨h1, _, _, _, h5⟩ := rightS.1 h
  exact rightS.2 ⟨h1, Int.le_refl _, Int.le_refl _, fun _ => rfl, h5⟩
end Go.Proofs.Ythoenmggjbojoaa
