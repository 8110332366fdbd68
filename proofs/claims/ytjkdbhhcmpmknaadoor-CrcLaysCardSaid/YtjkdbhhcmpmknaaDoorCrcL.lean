/-
  Package crc: Lay and Holds; few.
-/
import Derived.Test.YtjkdbhhcmpmknaaDoorCrcR
import Derived.Test.YtjkdbhhcmpmknaaDoorMk
import Derived.Test.YtjkdbhhcmpmknaaDoorClone
import Derived.Test.YtjkdbhhcmpmknaaDoorEq
namespace Go.Proofs.YtjkdbhhcmpmknaaDoor
open Go.RowKit

set_option maxHeartbeats 1000000 in
theorem lay_full (A : Option Addr) (n c B : Nat) (l : List UInt8) (w : World) (htab : Tab w) (h : Bytes w B A n l) (hB : B ≤ w.heap.size) (hn : n ≤ 1000000) :
    Calls Tryd.prog 15 #[.slice A n c] w (GivesBytes 5 (l ++ Crc.laid (Crc.more 0 l)) w) := by
  obtain ⟨i0, hi, hz0, hz1, hz2⟩ := u8_info
  have hmk := fun W => run_make_one (P := Tryd.prog) Tryd.underlying23 hi hz0 rfl hz1 .i64 .i64 (n : Int) ((n : Int) + 4) (by omega) (by omega) (by rw [hz2]; omega) (by omega) W
  rw [Int.toNat_natCast, show ((n : Int) + 4).toNat = n + 4 by omega] at hmk
  have hl := h.len
  go_enter Tryd.func15, Tryd.ntmps15
  go_wp2_with (with_reducible refine wpList_copy_shows (o := ⟨some 12, _, _, _, _, _⟩) rfl (.tmp 10) (.tmp 11) _ _ rfl 5 Tryd.underlying23 ?c1 w.heap.size 5 w.heap.size n (n + 4) (List.replicate n (.int .u8 0)) ?c2 0 _ n (n + 4) rfl (fun _ => rfl) (by omega) B A n c (l.map bv) rfl ?c4 (bv_one l) ?_)
  case c1 => rw [hi]; simp [hz1]
  case c2 => exact own_zeros w _ n (n + 4) (Nat.le_refl _) (by omega) (by unfold maxLen; omega)
  case c4 => exact h.alloc hB _
  · intro w1 hown _ hbel
    have hx : splice (List.replicate n (Value.int .u8 0)) 0 ((l.map bv).take n) = l.map bv := by
      unfold splice
      rw [List.take_of_length_le (l := l.map bv) (by simp [hl])]
      simp [hl]
    rw [hx] at hown
    have hb1 := ((Below.refl w.heap.size w).alloc (Nat.le_refl _) (.cells (madeCells #[.int .u8 0] (n + 4)) 5)).trans hbel
    have hsz := hb1.size
    clear hx
    go_wp2_with fail
    refine (sum_any A n c w.heap.size l w1 (htab.below hb1 htab.lt) ((h.more hB).below hb1) (by omega) (by unfold maxLen; omega)).mono ?_
    rintro e w2 ⟨rfl, hb2⟩
    go_wp2_with fail
    refine (lay_any _ _ (Crc.more_lt 0 l)).mono ?_
    rintro e w3 ⟨A', n', c', rfl, hown3, hb3⟩
    have hs3 := Shows.own hown3
    have hown2 := own_below hown (hb2.trans (hb3.mono hb2.size))
    have hl3 : n' = 4 := by have := hown3.1; simp [Crc.laid] at this; omega
    subst hl3
    have hz3 := hb3.size
    have hz2' := hb2.size
    go_wp2_with (at_builtin; refine wpList_append_shows _ rfl _ _ _ rfl w.heap.size 5 i0 (.int .u8 0) 1 1 Tryd.underlying23 hi hz0 hz1 hz2 rfl (by decide) _ _ _ rfl hown2 w3.heap.size _ _ _ ((Crc.laid (Crc.more 0 l)).map bv) rfl hs3 (bv_one _) ?d3 ?d4 ?d5 ?_)
    case d3 => unfold maxLen; omega
    case d4 => omega
    case d5 => omega
    · intro A4 c4 w4 hown4 _ hb4
      go_wp2
      go_ret
      refine ⟨A4, n + 4, c4, rfl, ?_, ((hb1.trans (hb2.mono hsz)).trans (hb3.mono (by omega))).trans hb4⟩
      rw [List.map_append]
      exact hown4
end Go.Proofs.YtjkdbhhcmpmknaaDoor
