/-
  Layer 2: spelled: each code point of a text is visited, as it is written.
-/
import Derived.Test.YtgnialemiefeeaaDoorQuoJ
import Derived.Lib.OthersKept
import Derived.WalkSmall
import Derived.Laws.EntriesVeiled
import Derived.Deep.WholeRow
namespace Go.Proofs.YtgnialemiefeeaaDoor
open Go.RowKit

set_option maxRecDepth 20000 in
set_option maxHeartbeats 2000000 in
theorem spelled_any (s : ByteArray) (l : List UInt8) (hs : s.data.toList = l) (hok : (ptsL l).2 = l.length) (g : Nat) (lb : Array Value) (w : World) (hm : s.size ≤ maxLen)
    (I : List Nat → World → Prop) (hU : ∀ pre W, I pre W → ETab W) (hI : ∀ pre W W', I pre W → Below W.heap.size W W' → I pre W')
    (hIt : ∀ pre W k pos pos', w.heap.size ≤ k → I pre W → W.heap[k]? = some (.stringIter s pos) → I pre (W.iterAt k s pos')) (h0 : I [] w)
    (eg : ∀ args w, (callFunc g args).run Tryd.prog w = .ok (.enter g args) w)
    (hv : ∀ pre (c : Nat) W, I pre W → pre.length < s.size → isCp c = true → Calls Tryd.prog g (#[.string (ofL (spellL c))] ++ lb) W fun e W' => (∃ v, e = .returned v) ∧ I (pre ++ [c]) W' ∧ KeepsOthers W W') :
    Calls Tryd.prog 41 #[.string s, .func (.func g) #[] lb] w fun e w' => (∃ v, e = .returned v) ∧ I (ptsL l).1 w' := by
  have hlen : l.length = s.size := by rw [← hs, Array.length_toList]; rfl
  have Hm := Lib.hid hm
  go_enter Tryd.func41, Tryd.ntmps41
  go_wp2
  go_loopw [7] (fun _ wr => ∃ (p : Nat) (pre : List Nat), p ≤ s.size ∧ wr.heap[w.heap.size + 1]? = some (.stringIter s p) ∧ ptsL l = (pre ++ (ptsL (l.drop p)).1, p + (ptsL (l.drop p)).2) ∧ pre.length ≤ p ∧ I pre wr) (fun _ wr => s.size - wr.iterPos (w.heap.size + 1))
  case atStart =>
    refine ⟨0, [], by omega, ?_, by simp, by simp, ?_⟩
    · have h := World.iter_heap (w.alloc (.cells #[.func (.func 57) #[] #[]] 89)) s 0
      rwa [World.size_alloc] at h
    · exact hI _ _ _ h0 (bel_alloc (bel_alloc (Below.refl _ _) _) _)
  case round =>
    obtain ⟨p, pre, hp, hit, hP, hpl, hJ⟩ := hrel
    by_cases hlt : p < s.size
    · have hn : (decL (l.drop p)).2 ≠ 0 := fun h => by
        rw [hP, pts_zero h] at hok
        simp only at hok
        omega
      have hcp := (enc_dec (l := l.drop p) (c := (decL (l.drop p)).1) (n := (decL (l.drop p)).2) rfl hn).1
      have hdc := decode_cp s l hs p (decL (l.drop p)).1 (decL (l.drop p)).2 rfl hn
      have hle := dec_le (l.drop p)
      rw [List.length_drop, hlen] at hle
      have HQ := Lib.hid (show ptsL l = ((pre ++ [(decL (l.drop p)).1]) ++ (ptsL (l.drop (p + (decL (l.drop p)).2))).1, (p + (decL (l.drop p)).2) + (ptsL (l.drop (p + (decL (l.drop p)).2))).2) by
        rw [hP, pts_step (l := l.drop p) hn, List.drop_drop]
        simp [Nat.add_assoc])
      have hnx : ∀ ty, (Instr.next (.pointer (some ⟨w.heap.size + 1, 0, none⟩)) true ty).run Tryd.prog wr = _ := fun ty => Lib.run_next_any_at wr (w.heap.size + 1) s p ty hit hlt
      rw [hdc] at hnx
      simp only at hnx
      clear hP hdc
      generalize (decL (l.drop p)).1 = c at *
      generalize (decL (l.drop p)).2 = n at *
      have hit2 := Lib.iterAt_heap wr (w.heap.size + 1) s p (p + n) hit
      have hJ1 := hIt pre wr (w.heap.size + 1) p (p + n) (by omega) hJ hit
      have Hit := Lib.hid hit
      clear hit
      generalize hW : wr.iterAt (w.heap.size + 1) s (p + n) = W at *
      go_wp2_with fail
      refine (write_any c hcp _ (hU _ _ hJ1)).mono ?_
      rintro e w1 ⟨rfl, hb⟩
      have hJ2 := hI _ _ _ hJ1 hb
      have hit3 : w1.heap[w.heap.size + 1]? = some (.stringIter s (p + n)) := (hb.block _ (Array.getElem?_eq_some_iff.1 hit2).1).trans hit2
      go_wp2_with fail
      refine (hv pre c w1 hJ2 (by omega) hcp).mono ?_
      rintro e w2 ⟨⟨v, rfl⟩, hJ3, hkk⟩
      have hit4 := hkk.same _ _ hit3 rfl
      go_wp2
      go_roundw
      case rel => exact ⟨p + n, pre ++ [c], by omega, hit4, HQ.out, by simp; omega, hJ3⟩
      case measure =>
        rw [iterPos_of hit4, iterPos_of Hit.out]
        omega
    · have hk : p = s.size := by omega
      have HQ := Lib.hid (show ptsL l = (pre, p) by rw [hP, List.drop_of_length_le (by omega), pts_zero (l := []) rfl]; simp)
      have hnx : ∀ ty, (Instr.next (.pointer (some ⟨w.heap.size + 1, 0, none⟩)) true ty).run Tryd.prog wr = _ := fun ty => Lib.run_next_end_at wr (w.heap.size + 1) s p ty hit hlt
      clear hk hP hlt
      go_wp2
      go_end0
      exact ⟨⟨_, rfl⟩, by rw [HQ.out]; exact hJ⟩
end Go.Proofs.YtgnialemiefeeaaDoor
