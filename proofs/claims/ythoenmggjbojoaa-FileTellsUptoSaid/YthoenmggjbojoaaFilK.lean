/-
  Layer 10: the reference's Long; which files may be.
-/
import Derived.Test.YthoenmggjbojoaaFilL
namespace Go.Proofs.Ythoenmggjbojoaa
open Go.RowKit
set_option linter.unusedVariables false

/-- A file in a box of its own. -/
def FBox (W : World) (g : Nat) (X : FileT) : Prop :=
  W.cell? ⟨g, 0, none⟩ = some (.slice X.F.A X.F.n X.F.c) ∧ W.cell? ⟨g, 1, none⟩ = some (.slice X.lA X.ln X.lc) ∧ W.cell? ⟨g, 2, none⟩ = some (.int .i64 X.fuse) ∧ W.cell? ⟨g, 3, none⟩ = some (.int .i64 X.fault) ∧ W.cell? ⟨g, 4, none⟩ = some (.bool X.off)
theorem FBox.later {W W' : World} {g : Nat} {X : FileT} (h : FBox W g X) (hb : Below W.heap.size W W') : FBox W' g X :=
  ⟨kept_later hb h.1, kept_later hb h.2.1, kept_later hb h.2.2.1, kept_later hb h.2.2.2.1, kept_later hb h.2.2.2.2⟩
theorem FBox.new (w : World) (X : FileT) (t : TypeId) : FBox (w.alloc (.cells #[.slice X.F.A X.F.n X.F.c, .slice X.lA X.ln X.lc, .int .i64 X.fuse, .int .i64 X.fault, .bool X.off] t)) w.heap.size X :=
  ⟨by simp [go_sem], by simp [go_sem], by simp [go_sem], by simp [go_sem], by simp [go_sem]⟩
set_option maxRecDepth 20000 in
set_option maxHeartbeats 2000000 in
theorem refLong_any (X : FileT) (B : Nat) (w : World) (hL : LieF w B X) (hB : B ≤ w.heap.size) (hN : ∀ p ∈ X.Q, p.n ≤ 1048576) :
    Calls Try.prog 38 #[X.agg] w fun e w' => e = .returned (.int .i64 (X.long : Nat)) ∧ Below w.heap.size w w' := by
  simp only [FileT.agg, PcT.val]
  have hb1 := bel_alloc (Below.refl w.heap.size w) (.cells #[.slice X.F.A X.F.n X.F.c, .slice X.lA X.ln X.lc, .int .i64 X.fuse, .int .i64 X.fault, .bool X.off] 25)
  have HX := Lib.hid (FBox.new w X 25)
  have hln := Nat.le_trans hL.fits hL.most
  unfold maxLen at hln
  have Hrow := Lib.hid (fun W (h : Below w.heap.size w W) => hL.row.below (h.mono hB))
  have HlL := Lib.hid hL.len
  have HNl := Lib.hid (fun p (hp : p ∈ X.L) => hN p (List.mem_cons_of_mem _ hp))
  have hF := hN X.F (List.mem_cons_self ..)
  have HG := Lib.hid (show lenGo (X.L.drop 0) X.F.n = X.long from rfl)
  clear hL hN
  go_enter Try.func38, Try.ntmps38
  go_upto_region 1 with fail
  generalize (w.alloc (.cells #[.slice X.F.A X.F.n X.F.c, .slice X.lA X.ln X.lc, .int .i64 X.fuse, .int .i64 X.fault, .bool X.off] 25)) = W1 at *
  obtain ⟨f0, f1, f2, f3, f4⟩ := HX.out
  go_wp2
  go_loopw [3, 4] (fun a i wr => ∃ j m : Nat, j ≤ X.ln ∧ i = .int .i64 j ∧ a = .int .i64 m ∧ m ≤ 1572864 ∧ Hid (lenGo (X.L.drop j) m = X.long) ∧ W1 = wr) (fun _ i _ => X.ln - (intOf i).toNat)
  case atStart => exact ⟨0, X.F.n, Nat.zero_le _, rfl, rfl, by omega, HG, rfl⟩
  case round =>
    obtain ⟨j, m, hj, rfl, rfl, hm, HM, rfl⟩ := hrel
    by_cases hlt : j < X.ln
    · obtain ⟨b, off, p, hA, _, hp, hc⟩ := pc_at (Hrow.out W1 hb1) hlt
      have hpn := HNl.out p (List.mem_of_getElem? hp)
      have hlt' : (j : Int) < X.ln := by omega
      obtain ⟨hj2, he⟩ := List.getElem?_eq_some_iff.1 hp
      have hdr : X.L.drop j = p :: X.L.drop (j + 1) := by rw [List.drop_eq_getElem_cons hj2, he]
      by_cases hle : m ≤ 524288
      · have hle' : ((m : Int) ≤ 524288) = True := by simp; omega
        have HM2 := Lib.hid (show lenGo (X.L.drop (j + 1)) (m + p.n) = X.long by rw [← HM.out, hdr, lenGo, if_neg (by omega)])
        rw [hA] at f1
        have hb2 : m + p.n ≤ 1572864 := by omega
        clear HM hp hj2 he hdr hle HG HX
        go_wp2
        go_roundw
        case rel => exact ⟨j + 1, m + p.n, by omega, by go_num, by go_num, hb2, HM2, by first | exact trivial | rfl⟩
        case measure => simp [intOf]; omega
      · have hle' : ((m : Int) ≤ 524288) = False := by simp; omega
        have HM2 := Lib.hid (show m = X.long by rw [← HM.out, hdr, lenGo, if_pos (by omega)])
        clear HM hp hj2 he hdr hle hc hpn HG HX
        go_wp2
        go_ret
        exact ⟨by rw [HM2.out]; rfl, hb1⟩
    · obtain rfl : j = X.ln := by omega
      have HM2 := Lib.hid (show m = X.long by rw [← HM.out, List.drop_eq_nil_of_le (by rw [HlL.out]; exact Nat.le_refl _)]; rfl)
      clear HM HG HX
      go_wp2
      go_ret
      exact ⟨by rw [HM2.out]; rfl, hb1⟩
end Go.Proofs.Ythoenmggjbojoaa
