/-
  Layer 1: Size, encoding, Put.
-/
import Derived.Test.YtgnialemiefeeaaDoorUtfF
import Derived.Test.YtgnialemiefeeaaDoorUtfI
import Derived.Test.YtgnialemiefeeaaDoorMk
import Derived.RangeFuncBox
import Derived.RangeFuncLeaves
import Derived.RangeFuncNested
import Derived.RangeFuncBound
import Derived.RangeFuncCalls
import Derived.OwnWalkIn
import Derived.TacticsInMore
import Derived.Maps.AppendAt
namespace Go.Proofs.YtgnialemiefeeaaDoor
open Go.RowKit Go.Shelf
attribute [local go_sem] Oper.semAt_some

theorem find_cp (n : Int) (w : World) (htab : UTab w) :
    Calls Tryd.prog 47 #[.func (.func 48) #[] #[], .int .i64 n] w fun e w' => e = .returned (.agg #[.int .i64 (fl (hIdx n)), .int .i64 (fh (hIdx n)), .int .i64 (fs (hIdx n)), .int .i64 (fd (hIdx n))]) ∧ Below w.heap.size w w' :=
  find_holds (fun k => holdsB (fl k) (fh k) n) n w htab fun k _ W => by
    cases h : holdsB (fl k) (fh k) n
    · exact holds_no _ _ _ _ _ W h
    · exact holds_yes _ _ _ _ _ W h

set_option maxRecDepth 20000 in
theorem field_size (a b c d : Value) : ∀ w, (Instr.field 76 (.agg #[a, b, c, d]) 2).run Tryd.prog w = .ok c w := fun _ => by kernel_rfl
set_option maxRecDepth 20000 in
theorem size_any (n : Int) (w : World) (htab : UTab w) :
    Calls Tryd.prog 25 #[.int .i64 n] w fun e w' => e = .returned (.int .i64 (fs (hIdx n))) ∧ Below w.heap.size w w' := by
  have hfield := field_size
  go_enter Tryd.func25, Tryd.ntmps25
  go_wp2_with fail
  refine (find_cp n w htab).mono ?_
  rintro e w1 ⟨rfl, hb⟩
  go_wp2
  go_ret
  exact ⟨rfl, hb⟩

set_option maxRecDepth 20000 in
theorem encoding_any (a b c d n : Int) (w : World) :
    Calls Tryd.prog 49 #[.agg #[.int .i64 a, .int .i64 b, .int .i64 c, .int .i64 d], .int .i64 n] w fun e w' => e = .returned (.func (.func 61) #[] #[.pointer (some ⟨w.heap.size, 0, none⟩), .pointer (some ⟨w.heap.size + 1, 0, none⟩)]) ∧ (w.alloc (.cells #[.int .i64 a, .int .i64 b, .int .i64 c, .int .i64 d] 76)).alloc (.cells #[.int .i64 n] 3) = w' := by
  go_enter Tryd.func49, Tryd.ntmps49
  go_wp2
  go_ret
  exact ⟨rfl, rfl⟩

theorem keptK_t {b : Nat} {A B C : World} (h : KeptAt b A B) (k : KeptAt b B C) : KeptAt b A C := k.trans h
theorem keptK_b {b : Nat} {w : World} (hb : b < w.heap.size) (W : World) (l : Nat) (o o' : Obj) (hl : w.heap.size ≤ l) (h : W.heap[l]? = some o) (h1 : o.isCells = false) (h2 : o.isWalk = false) : KeptAt b W (W.putObj l o') :=
  (belowK_b (Nat.le_refl w.heap.size) W l o o' hl h h1 h2).cell (p := ⟨b, 0, none⟩) hb
set_option maxRecDepth 20000 in
theorem u8_info' : ∃ i, Tryd.prog.info? 5 = some i ∧ i.zero = some (.int .u8 0) ∧ i.size = 1 ∧ i.bytes = 1 := ⟨Tryd.t5, by kernel_rfl, by kernel_rfl, by kernel_rfl, by kernel_rfl⟩
set_option maxRecDepth 100000 in
set_option maxHeartbeats 1000000 in
theorem put_no (A : Option Addr) (m c0 : Nat) (n : Int) (w : World) (htab : UTab w) (hn : isCp n = false) :
    Calls Tryd.prog 26 #[.slice A m c0, .int .i64 n] w fun e w' => e = .returned (.tuple #[.slice none 0 0, .int .i64 110]) ∧ Below w.heap.size w w' := by
  have hf := find_cp n w htab
  rw [hIdx_no n hn] at hf
  simp only [fl, fh, fs, fd] at hf
  refine (callsIn_wide (n := 5)).1 ?_
  refine callsIn_of_wp_marks Tryd.func26 rfl trivial ?_ rfl
  simp only [Tryd.ntmps26, List.size_toArray, List.length_cons, List.length_nil, Nat.reduceAdd, Nat.reduceSub, Array.replicate_succ, Array.replicate_zero, List.push_toArray, List.append_toArray, List.nil_append, List.cons_append]
  gi_wp2_with (refine ⟨trivial, ?_⟩; gi_at_call 47; refine (callsIn_wide.2 hf).mono ?_; rintro e w1 ⟨rfl, hb⟩)
  refine ⟨_, ?_, rfl, bel_alloc hb _⟩
  simp [results, Tryd.results26, go_sem]
set_option maxRecDepth 100000 in
set_option maxHeartbeats 1000000 in
theorem put_yes (A : Option Addr) (m c0 B : Nat) (l : List UInt8) (c : Nat) (w : World) (htab : UTab w) (hl : Bytes w B A m l) (hB : B ≤ w.heap.size) (hm : m ≤ 1000000) (hcp : isCp c = true) :
    Calls Tryd.prog 26 #[.slice A m c0, .int .i64 c] w fun e w' => ∃ A' n' c', e = .returned (.tuple #[.slice A' n' c', .int .i64 0]) ∧ w'.ownsRow w.heap.size 5 1 (.slice A' n' c') n' ((l ++ encL c).map bv) ∧ Below w.heap.size w w' := by
  obtain ⟨i0, hi, hz0, hz1, hz2⟩ := u8_info'
  have hf := find_cp c w htab
  have hsz := hIdx_len c hcp
  have hlen := encL_len_pos c
  have hstops := fun Bf Bc W => enc_stops 5 (by omega) Bf Bc c hcp W
  have hll := hl.len
  rw [hsz] at hf hstops
  generalize fl (hIdx c) = x0 at *
  generalize fh (hIdx c) = x1 at *
  generalize fd (hIdx c) = x3 at *
  obtain ⟨k, Hk⟩ : ∃ k, Hid ((encL c).length = k) := ⟨_, Lib.hid rfl⟩
  rw [Hk.out] at hf hstops hlen
  have hk0 : ((k : Int) == 0) = false := by rw [beq_eq_false_iff_ne]; omega
  obtain ⟨hk1, hk4⟩ := hlen
  have hmk := fun W => run_make_one (P := Tryd.prog) Tryd.underlying22 hi hz0 rfl hz1 .i64 .i64 (m : Int) ((m : Int) + (k : Int)) (by omega) (by omega) (by rw [hz2]; omega) (by omega) W
  rw [Int.toNat_natCast, show ((m : Int) + (k : Int)).toNat = m + k by omega] at hmk
  have hIO : ∀ n₀ B t, Own (fun pre W => ∃ v, Boxed W B t v ∧ W.ownsRow n₀ 5 1 v (m + pre.length) ((l ++ pre).map bv) ∧ True) := fun n₀ B t => holdsRow_own n₀ B t 5 1 (fun pre => m + pre.length) (fun pre => (l ++ pre).map bv) (fun _ _ => True)
  refine (callsIn_wide (n := 6)).1 ?_
  refine callsIn_of_wp_marks Tryd.func26 rfl trivial ?_ rfl
  simp only [Tryd.ntmps26, List.size_toArray, List.length_cons, List.length_nil, Nat.reduceAdd, Nat.reduceSub, Array.replicate_succ, Array.replicate_zero, List.push_toArray, List.append_toArray, List.nil_append, List.cons_append]
  refine wpIn_wide.2 ?_
  clear hsz
  go_wp2_with fail
  refine hf.mono ?_
  rintro e w1 ⟨rfl, hb⟩
  obtain ⟨W1, hW1⟩ : ∃ W1, w1.alloc (.cells #[.int .i64 x0, .int .i64 x1, .int .i64 k, .int .i64 x3] 76) = W1 := ⟨_, rfl⟩
  have bx : Box W1 w1.heap.size [.int .i64 x0, .int .i64 x1, .int .i64 k, .int .i64 x3] := by rw [← hW1]; exact Box.new _ _ _
  have hb1 : Below w.heap.size w W1 := by rw [← hW1]; exact bel_alloc hb _
  have hlW1 := (hl.below (hb1.mono hB)).more (Nat.le_trans hB hb1.size)
  have hsz1 : w1.heap.size < W1.heap.size := by rw [← hW1]; simp
  have e0 : W1.cell? ⟨w1.heap.size, 0, none⟩ = some (.int .i64 x0) := (bx 0 _ rfl).1
  have e1 : W1.cell? ⟨w1.heap.size, 1, none⟩ = some (.int .i64 x1) := (bx 1 _ rfl).1
  have e2 : W1.cell? ⟨w1.heap.size, 2, none⟩ = some (.int .i64 k) := (bx 2 _ rfl).1
  have e3 : W1.cell? ⟨w1.heap.size, 3, none⟩ = some (.int .i64 x3) := (bx 3 _ rfl).1
  go_wp2_with (with_reducible refine wpList_copy_shows (o := ⟨some 24, _, _, _, _, _⟩) rfl (.tmp 22) (.tmp 23) _ _ rfl 5 Tryd.underlying22 ?c1 W1.heap.size 5 W1.heap.size m (m + k) (List.replicate m (.int .u8 0)) ?c2 0 _ m (m + k) rfl (fun _ => rfl) (by omega) W1.heap.size A m c0 (l.map bv) rfl ?c4 (bv_one l) ?_)
  case c1 => rw [hi]; simp [hz1]
  case c2 => exact own_below (own_zeros W1 _ m (m + k) (Nat.le_refl _) (by omega) (by unfold maxLen; omega)) ((Below.refl _ _).alloc (Nat.le_refl _) _)
  case c4 => exact (hlW1.alloc (Nat.le_refl _) _).alloc (by simp) _
  · intro w5 hown hgrow hbel
    have hx : splice (List.replicate m (Value.int .u8 0)) 0 ((l.map bv).take m) = l.map bv := by
      unfold splice
      rw [List.take_of_length_le (l := l.map bv) (by simp [hll])]
      simp [hll]
    rw [hx] at hown
    have bO : Boxed w5 (W1.heap.size + 1) 22 (.slice (some ⟨W1.heap.size, 0, none⟩) m (m + k)) := by
      have h := Boxed.new (W1.alloc (.cells (madeCells #[.int .u8 0] (m + k)) 5)) 22 (.slice (some ⟨W1.heap.size, 0, none⟩) m (m + k))
      rw [World.size_alloc] at h
      exact h.kept hgrow (by simp)
    have hb5 : Below W1.heap.size W1 w5 := (((Below.refl W1.heap.size W1).alloc (Nat.le_refl _) _).alloc (by simp) _).trans hbel
    have hbw : Below w.heap.size w w5 := bel_next hb1 hb5
    have s5 : W1.heap.size + 2 ≤ w5.heap.size := by have := hbel.size; simpa using this
    have bx5 := bx.later hb5
    have f0 : w5.cell? ⟨w1.heap.size, 0, none⟩ = some (.int .i64 x0) := (bx5 0 _ rfl).1
    have f1 : w5.cell? ⟨w1.heap.size, 1, none⟩ = some (.int .i64 x1) := (bx5 1 _ rfl).1
    have f2 : w5.cell? ⟨w1.heap.size, 2, none⟩ = some (.int .i64 k) := (bx5 2 _ rfl).1
    have f3 : w5.cell? ⟨w1.heap.size, 3, none⟩ = some (.int .i64 x3) := (bx5 3 _ rfl).1
    clear hx e0 e1 e2 e3 hW1
    go_wp2_with fail
    refine (encoding_any x0 x1 k x3 c w5).mono ?_
    rintro e w6 ⟨rfl, hW6⟩
    have hK5 := hstops w5.heap.size (w5.heap.size + 1) w6 (by rw [← hW6]; exact (Box.new _ _ _).alloc _) (by rw [← hW6]; exact (Box.new' _ _ _ (by simp) 0 _ rfl).1)
    have bO6 : Boxed w6 (W1.heap.size + 1) 22 (.slice (some ⟨W1.heap.size, 0, none⟩) m (m + k)) := by rw [← hW6]; exact (bO.alloc _).alloc _
    have hown6 : w6.ownsRow W1.heap.size 5 1 (.slice (some ⟨W1.heap.size, 0, none⟩) m (m + k)) m (l.map bv) := by rw [← hW6]; exact (hown.alloc _).alloc _
    have hbw6 : Below w.heap.size w w6 := by rw [← hW6]; exact bel_alloc (bel_alloc hbw _) _
    have s6 : w6.heap.size = w5.heap.size + 2 := by rw [← hW6]; simp
    have bc6 : Boxed w6 (w5.heap.size + 1) 3 (.int .i64 c) := by
      rw [← hW6]
      have h := Boxed.new (w5.alloc (.cells #[.int .i64 x0, .int .i64 x1, .int .i64 k, .int .i64 x3] 76)) 3 (.int .i64 c)
      rw [World.size_alloc] at h
      exact h
    clear f0 f1 f2 f3 bx5 bx hW6 bO hown
    go_wp2
    refine (wpIn_wide (n := 6)).1 ?_
    refine wpIn_rangeFunc_ownG rfl (by omega) (gf := 61) (lb := #[.pointer (some ⟨w5.heap.size, 0, none⟩), .pointer (some ⟨w5.heap.size + 1, 0, none⟩)]) rfl trivial (enters_of Tryd.func61 (by kernel_rfl) rfl)
      hK5 keptK_t (keptK_b (by omega)) (Below.refl _ _) (fun _ => rfl)
      (fun pre W => (∃ v, Boxed W (W1.heap.size + 1) 22 v ∧ W.ownsRow W1.heap.size 5 1 v (m + pre.length) ((l ++ pre).map bv) ∧ True) ∧ Boxed W (w5.heap.size + 1) 3 (.int .i64 c) ∧ Below w.heap.size w W)
      (fun _ _ _ => False)
      (OwnFrom.and (Own.from (hIO _ _ _) _) (OwnFrom.and (Own.from (boxed_own _ _ _) _) (ownFrom_below (Nat.le_refl _) hbw6.size)))
      (fun _ _ _ _ _ hs _ _ => hs)
      ⟨⟨_, bO6, by simpa using hown6, trivial⟩, bc6, hbw6⟩
      (fun x => { tmps := #[.slice A m c0, .int .i64 c, undef, undef, .slice none 0 0, .int .i64 0, .pointer (some ⟨w1.heap.size, 0, none⟩), .pointer (some ⟨W1.heap.size + 1, 0, none⟩), (.int .u8 (x.toNat : Int)), .int .i64 c, .agg #[.int .i64 x0, .int .i64 x1, .int .i64 k, .int .i64 x3], .agg #[.int .i64 x0, .int .i64 x1, .int .i64 k, .int .i64 x3], .agg #[.int .i64 0, .int .i64 0, .int .i64 0, .int .i64 0], .bool false, .slice A m c0, .int .i64 m, .slice A m c0, .int .i64 m, .pointer (some ⟨w1.heap.size, 2, none⟩), .int .i64 k, .int .i64 ((m : Int) + (k : Int)), .slice (some ⟨W1.heap.size, 0, none⟩) m (m + k), .slice (some ⟨W1.heap.size, 0, none⟩) m (m + k), .slice A m c0, .int .i64 m, .agg #[.int .i64 x0, .int .i64 x1, .int .i64 k, .int .i64 x3], .int .i64 c, .func (.func 61) #[] #[.pointer (some ⟨w5.heap.size, 0, none⟩), .pointer (some ⟨w5.heap.size + 1, 0, none⟩)], (.int .u8 (x.toNat : Int)), undef, undef, undef, undef, undef], defers := [] }) ?assign ?body ?done ?stop
    case assign =>
      intro l' x W K hK
      gi_wp2
      exact hK
    case body =>
      rintro l' pre x W ⟨⟨v, hv, hrow, -⟩, hbc, hBW⟩ hlt
      have hc := hv.cell
      have hvl := hv.lt
      gi_wp2_with (gi_at_builtin; refine wpListIn_append_own _ rfl _ _ 22 rfl W1.heap.size 5 i0 (.int .u8 0) 1 1 Tryd.underlying22 hi hz0 hz1 hz2 rfl (by decide) _ _ _ rfl (hrow.alloc _) ⟨W.heap.size, 0, none⟩ 1 1 [.int .u8 (x.toNat : Int)] rfl rfl (cell_one_new _ _ _) (by simp [Value.oneCell']) (by unfold maxLen; omega) (by omega) (by simp; omega) ?_; intro v' w7 hown' hgrow' _; obtain ⟨g', cap', rfl⟩ := ownsRow_succ hown'; obtain ⟨hv1, hv2, hr2, hk2, hb2⟩ := hv.appended (by decide) hrow (by omega) (by omega) hown' hgrow'; have hc1 := hv1.cell; have hf1 := hv1.frozen; have hbc1 := ((hbc.alloc _).kept hgrow' (hbc.not_row (by decide) hrow)).other (B' := W1.heap.size + 1) (by omega) (.slice (some ⟨g', 0, none⟩) (m + pre.length + 1) cap'))
      exact ⟨hk2.from _, hbc1.cell.trans hbc.cell.symm, ⟨_, hv2, by simpa [Nat.add_assoc, bv] using hr2, trivial⟩, hbc1, hBW.trans (hb2.mono hb1.size)⟩
    case done =>
      rintro D ys W hD rfl ⟨⟨v, hv, hrow, -⟩, -, hBW⟩ hK
      have hc := hv.cell
      obtain ⟨A', c', rfl, -, -⟩ := own_form hrow
      go_wp2
      refine ⟨by simp, .inl ⟨_, _, rfl, run_takeDeferred hK, ?_⟩⟩
      refine ⟨_, ?_, A', _, c', rfl, own_base (ownsRow_putObj hrow _ hK rfl) hb1.size, hBW.trans (belowK_b (w := w) (Nat.le_refl _) W D _ _ (Nat.le_trans hbw6.size hD) hK rfl rfl)⟩
      simp [results, Tryd.results26, go_sem]
    case stop =>
      rintro D c pre W _ _ h _
      exact h.elim
end Go.Proofs.YtgnialemiefeeaaDoor
