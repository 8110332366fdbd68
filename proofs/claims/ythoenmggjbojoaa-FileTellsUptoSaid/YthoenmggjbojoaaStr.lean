/-
  Strings: a list of bytes as a string; '[]byte' made a string. No program in sight.
-/
import Derived.Test.YthoenmggjbojoaaW
import Derived.Laws.BytesString
import Derived.Laws.Cells
namespace Go.Proofs.Ythoenmggjbojoaa
open Go.RowKit

/-- A list of bytes as a string. -/
def ofL (l : List UInt8) : ByteArray := ⟨l.toArray⟩
theorem ofL_toList (l : List UInt8) : (ofL l).data.toList = l := by simp [ofL]
theorem ofL_size (l : List UInt8) : (ofL l).size = l.length := by simp [ofL, ByteArray.size]
theorem ofL_of (s : ByteArray) : ofL s.data.toList = s := by
  cases s
  simp [ofL]
theorem ofL_inj {l m : List UInt8} (h : ofL l = ofL m) : l = m := by
  have := congrArg (fun s : ByteArray => s.data.toList) h
  simpa [ofL_toList] using this
theorem ofL_push (l : List UInt8) (c : UInt8) : (ofL l).push c = ofL (l ++ [c]) := by
  simp [ofL, ByteArray.push]
theorem foldl_push : ∀ (l r : List UInt8), (l.map fun c => (c.toNat : Int)).foldl (fun r n => r.push (UInt8.ofNat n.toNat)) (ofL r) = ofL (r ++ l)
  | [], r => by simp
  | c :: l, r => by
    simp only [List.map_cons, List.foldl_cons]
    rw [show UInt8.ofNat ((c.toNat : Int)).toNat = c by simp, ofL_push, foldl_push l]
    simp

theorem run_bytes_string {P : Program} {src dst e : TypeId} (hs : P.underlying src = some (.slice e)) (he : P.underlying e = some (.int .u8)) (hd : P.underlying dst = some .string)
    (w : World) (A : Option Addr) (n c B : Nat) (l : List UInt8) (h : Bytes w B A n l) : (convert src dst (.slice A n c)).run P w = .ok (.string (ofL l)) w := by
  rw [run_convert_bytes_string w src dst e A n c hs he hd]
  have hn := h.len
  rcases A with _ | a
  · have hz : l = [] := by
      rcases Nat.eq_zero_or_pos n with h0 | h0
      · exact List.eq_nil_of_length_eq_zero (by omega)
      · obtain ⟨_, _, e1, _⟩ := h.2 h0
        cases e1
    subst hz
    rfl
  · have hc : ∀ j v, (l.map bv)[j]? = some v → w.cell? (a.add j) = some v := by
      intro j v hj
      have h0 : 0 < n := by
        rcases Nat.eq_zero_or_pos n with h0 | h0
        · have : l = [] := List.eq_nil_of_length_eq_zero (by omega)
          subst this
          simp at hj
        · exact h0
      obtain ⟨b, off, e1, _, h2⟩ := h.2 h0
      injection e1 with e1
      subst e1
      rw [addr_add]
      exact h2 j v hj
    have hl := run_loadCells_list (P := P) (w := w) a (l.map bv) hc
    rw [List.length_map, hn] at hl
    have h2 := run_bytesToString (P := P) w a n c (l.map fun c => (c.toNat : Int)) (by rw [hl, List.map_map]; rfl)
    rw [h2]
    have h3 := foldl_push l []
    rw [show (ByteArray.empty) = ofL [] from rfl, h3]
    rfl
end Go.Proofs.Ythoenmggjbojoaa
