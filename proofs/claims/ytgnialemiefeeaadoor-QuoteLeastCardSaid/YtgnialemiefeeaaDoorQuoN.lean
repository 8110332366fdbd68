/-
  Layer 2: Print.
-/
import Derived.Test.YtgnialemiefeeaaDoorQuoM
namespace Go.Proofs.YtgnialemiefeeaaDoor
open Go.RowKit

theorem OutB.later {n₀ B : Nat} {L : List UInt8} {W W' : World} (h : OutB n₀ B L W) (hb : Below W.heap.size W W') : OutB n₀ B L W' := by
  obtain ⟨v, h1, h2⟩ := h
  exact ⟨v, (hb.block _ h1.lt).trans h1, own_below h2 hb⟩
theorem text_count (cps : List Nat) : cps.length ≤ (textL cps).length := by
  induction cps with
  | nil => exact Nat.le_refl _
  | cons c r ih => rw [textL_cons, List.length_append, List.length_cons]; have := encL_len_pos c; omega
/-- What Print tells. -/
def printR (l : List UInt8) : Value := if (ptsL l).2 = l.length then .tuple #[.string (ofL (quoteL (ptsL l).1)), .int .i64 0] else .tuple #[.string ⟨#[]⟩, .int .i64 110]
set_option maxRecDepth 20000 in
set_option maxHeartbeats 1000000 in
theorem print_any (s : ByteArray) (l : List UInt8) (hs : s.data.toList = l) (w : World) (hm : s.size ≤ 1000000) (htab : UTab w) (hesc : ETab w) :
    Calls Tryd.prog 19 #[.string s] w fun e w' => e = .returned (printR l) ∧ Below w.heap.size w w' := by
  have hchk := check_any s l hs w (by unfold maxLen; omega) htab
  by_cases hok : (ptsL l).2 = l.length
  · have HR := Lib.hid (show printR l = .tuple #[.string (ofL (quoteL (ptsL l).1)), .int .i64 0] from if_pos hok)
    rw [show walkR l = .tuple #[.int .i64 0, .int .i64 0] from if_pos hok] at hchk
    go_enter Tryd.func19, Tryd.ntmps19
    go_wp2_with fail
    refine hchk.mono ?_
    rintro e w1 ⟨rfl, hb⟩
    have hbs := hb.size
    have r0 := World.ownsRow_lit (base := w1.heap.size) (e := 5) (size := 1) w1 #[.int .u8 34] 1 (Nat.le_refl _) (by unfold maxLen; omega) rfl
    have bx := Boxed.new (w1.alloc (.cells #[.int .u8 34] 5)) 22 (.slice (some ⟨w1.heap.size, 0, none⟩) 1 1)
    rw [World.size_alloc] at bx
    have hb2 : Below w.heap.size w ((w1.alloc (.cells #[.int .u8 34] 5)).alloc (.cells #[.slice (some ⟨w1.heap.size, 0, none⟩) 1 1] 22)) := bel_alloc (bel_alloc hb _) _
    have hsp := spelled_any s l hs hok 42 #[.pointer (some ⟨w1.heap.size + 1, 0, none⟩)] ((w1.alloc (.cells #[.int .u8 34] 5)).alloc (.cells #[.slice (some ⟨w1.heap.size, 0, none⟩) 1 1] 22)) (by unfold maxLen; omega)
      (fun cps W => OutB w1.heap.size (w1.heap.size + 1) (b8 34 :: spellsL cps) W ∧ Below w.heap.size w W)
      (fun pre W h => hesc.below h.2 hesc.lt)
      (fun pre W W' h hb => ⟨h.1.later hb, h.2.trans (hb.mono h.2.size)⟩)
      (fun pre W k pos pos' hge h hk => by
        rw [World.size_alloc, World.size_alloc] at hge
        refine ⟨?_, Lib.below_iterAt h.2 (k := k) (by omega) s pos'⟩
        obtain ⟨v, h1, h2⟩ := h.1
        refine ⟨v, (Lib.iterAt_other W k _ s pos' (by omega)).trans h1, h2.kept (row := some k) ⟨rfl, rfl, rfl, by rw [Lib.iterAt_size]; exact Nat.le_refl _, fun i _ hne => Lib.iterAt_other W k i s pos' (fun e => hne (by rw [e]))⟩ (.inr fun e => ?_)⟩
        obtain ⟨c, fz, h3⟩ := Lib.ownsRow_kind h2 k e
        rw [hk] at h3
        cases h3)
      ⟨⟨_, bx, r0.alloc _⟩, hb2⟩ (enters_of Tryd.func42 (by kernel_rfl) rfl)
      (fun pre c W h hl hc => by
        have hx := spells_len pre
        have hy := spell_len c
        refine (print1_any (spellL c) (b8 34 :: spellsL pre) w1.heap.size (w1.heap.size + 1) W h.1 (by omega) (by simp only [List.length_cons]; omega)).mono ?_
        rintro e W' ⟨hv, ho, hk, hbl⟩
        refine ⟨hv, ⟨?_, h.2.trans (hbl.mono hbs)⟩, hk⟩
        rw [spells_append, spells_one]
        exact ho)
    go_wp2_with fail
    refine hsp.mono ?_
    rintro e w2 ⟨⟨v, rfl⟩, ⟨v2, hv2, hrow2⟩, hbw⟩
    have hc2 := hv2.cell
    have hcnt := text_count (ptsL l).1
    rw [← (pts_is l.length l (Nat.le_refl _)).2.2.1, hok, ← hs, Array.length_toList] at hcnt
    rw [hs] at hcnt
    have hsl := spells_len (ptsL l).1
    have hsz : s.data.size = s.size := rfl
    obtain ⟨i0, hi, hz0, hz1, hz2⟩ := u8_info'
    have hlc : (b8 34 :: spellsL (ptsL l).1).length = (spellsL (ptsL l).1).length + 1 := rfl
    rw [hlc] at hrow2
    obtain ⟨A2, c2, rfl, -, -⟩ := own_form hrow2
    clear hlc
    have hb9 : (spellsL (ptsL l).1).length + 1 ≤ 100000000 := by omega
    have hs2 := hbw.size
    have hv2l := hv2.lt
    clear hcnt hsl hsz hchk hok
    generalize hZ : spellsL (ptsL l).1 = Z at *
    have HR2 := Lib.hid (show quoteL (ptsL l).1 = (b8 34 :: Z) ++ [b8 34] by unfold quoteL; rw [hZ]; rfl)
    have hnew : Shows (w2.alloc (.cells #[.int .u8 34] 5)) (w2.heap.size + 1) 1 (some ⟨w2.heap.size, 0, none⟩) 1 [.int .u8 34] := bytes_new w2 [b8 34] _ _ _ rfl
    clear hZ
    generalize b8 34 :: Z = Y at *
    clear hsp
    go_wp2_with (at_builtin; refine wpList_append_shows _ rfl _ _ 22 rfl w1.heap.size 5 i0 (.int .u8 0) 1 1 Tryd.underlying22 hi hz0 hz1 hz2 rfl (by decide) _ _ _ rfl (hrow2.alloc _) (w2.heap.size + 1) _ 1 1 [.int .u8 34] rfl hnew (by simp [Value.oneCell']) (by unfold maxLen; omega) (by omega) (by simp; omega) ?_; intro A' c' w7 hown' hgrow' hbel; have hby : Bytes w7 w7.heap.size A' (Z.length + 1 + 1) (Y ++ [b8 34]) := Bytes.own (by rw [List.map_append]; exact hown'); have hconv := run_bytes_string (P := Tryd.prog) Tryd.underlying22 Tryd.underlying5 Tryd.underlying9 w7 A' _ c' _ _ hby)
    go_ret2
    exact ⟨by rw [HR.out, HR2.out]; rfl, (bel_alloc hbw _).trans (hbel.mono hbs)⟩
  · have HR := Lib.hid (show printR l = .tuple #[.string ⟨#[]⟩, .int .i64 110] from if_neg hok)
    rw [show walkR l = .tuple #[.int .i64 ((ptsL l).2 : Int), .int .i64 110] from if_neg hok] at hchk
    go_enter Tryd.func19, Tryd.ntmps19
    go_wp2_with fail
    refine hchk.mono ?_
    rintro e w1 ⟨rfl, hb⟩
    go_wp2
    go_ret2
    exact ⟨by rw [HR.out]; rfl, hb⟩
end Go.Proofs.YtgnialemiefeeaaDoor
