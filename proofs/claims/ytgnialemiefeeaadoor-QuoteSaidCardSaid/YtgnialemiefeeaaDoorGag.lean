import Derived.Test.YtgnialemiefeeaaDoorGaf
import Derived.RangeFuncBox
import Derived.RangeFuncLeaves
import Derived.RangeFuncNested
import Derived.RangeFuncBound
import Derived.RangeFuncCalls
import Derived.OwnWalkIn
import Derived.TacticsInMore
import Derived.Maps.AppendAt
import Derived.Test.YtgnialemiefeeaaDoorGae
import Derived.Lib.AppendStr
import Derived.Lib.OwnKind
import Derived.Test.YtgnialemiefeeaaDoorGad
import Derived.Shelf.Abstract
import Derived.Shelf.RegionOpen
import Derived.LoopNIn
import Derived.LoopIn
import Derived.Stop.RegionWithIn
import Derived.Deep.DeepCutAuto
/-
  Layer 1: Size, encoding, Put.
-/
namespace Go.Proofs.YtgnialemiefeeaaDoor
open Go.RowKit Go.Shelf
attribute [local go_sem] Oper.semAt_some

theorem find_cp (n : Int) (w : World) (htab : UTab w) :
    Calls Tryd.prog 47 #[.func (.func 48) #[] #[], .int .i64 n] w fun e w' => e = .returned (.agg #[.int .i64 (fl (hIdx n)), .int .i64 (fh (hIdx n)), .int .i64 (fs (hIdx n)), .int .i64 (fd (hIdx n))]) ∧ Below w.heap.size w w' :=
  find_holds (fun k => holdsB (fl k) (fh k) n) n w htab fun k _ W => by
    cases h : holdsB (fl k) (fh k) n
    · exact holds_no _ _ _ _ _ W h
    · exact holds_yes _ _ _ _ _ W h

set_option maxRecDepth 20000 in
theorem field_size (a b c d : Value) : ∀ w, (Instr.field 76 (.agg #[a, b, c, d]) 2).run Tryd.prog w = .ok c w := fun _ => by kernel_rfl
set_option maxRecDepth 20000 in
theorem size_any (n : Int) (w : World) (htab : UTab w) :
    Calls Tryd.prog 25 #[.int .i64 n] w fun e w' => e = .returned (.int .i64 (fs (hIdx n))) ∧ Below w.heap.size w w' := by
  have hfield := field_size
  go_enter Tryd.func25, Tryd.ntmps25
  go_wp2_with fail
  refine (find_cp n w htab).mono ?_
  rintro e w1 ⟨rfl, hb⟩
  go_wp2
  go_ret
  exact ⟨rfl, hb⟩

set_option maxRecDepth 20000 in
theorem encoding_any (a b c d n : Int) (w : World) :
    Calls Tryd.prog 49 #[.agg #[.int .i64 a, .int .i64 b, .int .i64 c, .int .i64 d], .int .i64 n] w fun e w' => e = .returned (.func (.func 61) #[] #[.pointer (some ⟨w.heap.size, 0, none⟩), .pointer (some ⟨w.heap.size + 1, 0, none⟩)]) ∧ (w.alloc (.cells #[.int .i64 a, .int .i64 b, .int .i64 c, .int .i64 d] 76)).alloc (.cells #[.int .i64 n] 3) = w' := by
  go_enter Tryd.func49, Tryd.ntmps49
  go_wp2
  go_ret
  exact ⟨rfl, rfl⟩

theorem keptK_t {b : Nat} {A B C : World} (h : KeptAt b A B) (k : KeptAt b B C) : KeptAt b A C := k.trans h
theorem keptK_b {b : Nat} {w : World} (hb : b < w.heap.size) (W : World) (l : Nat) (o o' : Obj) (hl : w.heap.size ≤ l) (h : W.heap[l]? = some o) (h1 : o.isCells = false) (h2 : o.isWalk = false) : KeptAt b W (W.putObj l o') :=
  (belowK_b (Nat.le_refl w.heap.size) W l o o' hl h h1 h2).cell (p := ⟨b, 0, none⟩) hb
set_option maxRecDepth 20000 in
theorem u8_info' : ∃ i, Tryd.prog.info? 5 = some i ∧ i.zero = some (.int .u8 0) ∧ i.size = 1 ∧ i.bytes = 1 := ⟨Tryd.t5, by kernel_rfl, by kernel_rfl, by kernel_rfl, by kernel_rfl⟩
set_option maxRecDepth 100000 in
set_option maxHeartbeats 1000000 in
theorem put_no (A : Option Addr) (m c0 : Nat) (n : Int) (w : World) (htab : UTab w) (hn : isCp n = false) :
    Calls Tryd.prog 26 #[.slice A m c0, .int .i64 n] w fun e w' => e = .returned (.tuple #[.slice none 0 0, .int .i64 110]) ∧ Below w.heap.size w w' := by
  have hf := find_cp n w htab
  rw [hIdx_no n hn] at hf
  simp only [fl, fh, fs, fd] at hf
  refine (callsIn_wide (n := 5)).1 ?_
  refine callsIn_of_wp_marks Tryd.func26 rfl trivial ?_ rfl
  simp only [Tryd.ntmps26, List.size_toArray, List.length_cons, List.length_nil, Nat.reduceAdd, Nat.reduceSub, Array.replicate_succ, Array.replicate_zero, List.push_toArray, List.append_toArray, List.nil_append, List.cons_append]
  gi_wp2_with (refine ⟨trivial, ?_⟩; gi_at_call 47; refine (callsIn_wide.2 hf).mono ?_; rintro e w1 ⟨rfl, hb⟩)
  refine ⟨_, ?_, rfl, bel_alloc hb _⟩
  simp [results, Tryd.results26, go_sem]
set_option maxRecDepth 100000 in
set_option maxHeartbeats 1000000 in
theorem put_yes (A : Option Addr) (m c0 B : Nat) (l : List UInt8) (c : Nat) (w : World) (htab : UTab w) (hl : Bytes w B A m l) (hB : B ≤ w.heap.size) (hm : m ≤ 1000000) (hcp : isCp c = true) :
    Calls Tryd.prog 26 #[.slice A m c0, .int .i64 c] w fun e w' => ∃ A' n' c', e = .returned (.tuple #[.slice A' n' c', .int .i64 0]) ∧ w'.ownsRow w.heap.size 5 1 (.slice A' n' c') n' ((l ++ encL c).map bv) ∧ Below w.heap.size w w' := by
  obtain ⟨i0, hi, hz0, hz1, hz2⟩ := u8_info'
  have hf := find_cp c w htab
  have hsz := hIdx_len c hcp
  have hlen := encL_len_pos c
  have hstops := fun Bf Bc W => enc_stops 5 (by omega) Bf Bc c hcp W
  have hll := hl.len
  rw [hsz] at hf hstops
  generalize fl (hIdx c) = x0 at *
  generalize fh (hIdx c) = x1 at *
  generalize fd (hIdx c) = x3 at *
  obtain ⟨k, Hk⟩ : ∃ k, Hid ((encL c).length = k) := ⟨_, Lib.hid rfl⟩
  rw [Hk.out] at hf hstops hlen
  have hk0 : ((k : Int) == 0) = false := by rw [beq_eq_false_iff_ne]; omega
  obtain ⟨hk1, hk4⟩ := hlen
  have hmk := fun W => run_make_one (P := Tryd.prog) Tryd.underlying22 hi hz0 rfl hz1 .i64 .i64 (m : Int) ((m : Int) + (k : Int)) (by omega) (by omega) (by rw [hz2]; omega) (by omega) W
  rw [Int.toNat_natCast, show ((m : Int) + (k : Int)).toNat = m + k by omega] at hmk
  have hIO : ∀ n₀ B t, Own (fun pre W => ∃ v, Boxed W B t v ∧ W.ownsRow n₀ 5 1 v (m + pre.length) ((l ++ pre).map bv) ∧ True) := fun n₀ B t => holdsRow_own n₀ B t 5 1 (fun pre => m + pre.length) (fun pre => (l ++ pre).map bv) (fun _ _ => True)
  refine (callsIn_wide (n := 6)).1 ?_
  refine callsIn_of_wp_marks Tryd.func26 rfl trivial ?_ rfl
  simp only [Tryd.ntmps26, List.size_toArray, List.length_cons, List.length_nil, Nat.reduceAdd, Nat.reduceSub, Array.replicate_succ, Array.replicate_zero, List.push_toArray, List.append_toArray, List.nil_append, List.cons_append]
  refine wpIn_wide.2 ?_
  clear hsz
  go_wp2_with fail
  refine hf.mono ?_
  rintro e w1 ⟨rfl, hb⟩
  obtain ⟨W1, hW1⟩ : ∃ W1, w1.alloc (.cells #[.int .i64 x0, .int .i64 x1, .int .i64 k, .int .i64 x3] 76) = W1 := ⟨_, rfl⟩
  have bx : Box W1 w1.heap.size [.int .i64 x0, .int .i64 x1, .int .i64 k, .int .i64 x3] := by rw [← hW1]; exact Box.new _ _ _
  have hb1 : Below w.heap.size w W1 := by rw [← hW1]; exact bel_alloc hb _
  have hlW1 := (hl.below (hb1.mono hB)).more (Nat.le_trans hB hb1.size)
  have hsz1 : w1.heap.size < W1.heap.size := by rw [← hW1]; simp
  have e0 : W1.cell? ⟨w1.heap.size, 0, none⟩ = some (.int .i64 x0) := (bx 0 _ rfl).1
  have e1 : W1.cell? ⟨w1.heap.size, 1, none⟩ = some (.int .i64 x1) := (bx 1 _ rfl).1
  have e2 : W1.cell? ⟨w1.heap.size, 2, none⟩ = some (.int .i64 k) := (bx 2 _ rfl).1
  have e3 : W1.cell? ⟨w1.heap.size, 3, none⟩ = some (.int .i64 x3) := (bx 3 _ rfl).1
  go_wp2_with (with_reducible refine wpList_copy_shows (o := ⟨some 24, _, _, _, _, _⟩) rfl (.tmp 22) (.tmp 23) _ _ rfl 5 Tryd.underlying22 ?c1 W1.heap.size 5 W1.heap.size m (m + k) (List.replicate m (.int .u8 0)) ?c2 0 _ m (m + k) rfl (fun _ => rfl) (by omega) W1.heap.size A m c0 (l.map bv) rfl ?c4 (bv_one l) ?_)
  case c1 => rw [hi]; simp [hz1]
  case c2 => exact own_below (own_zeros W1 _ m (m + k) (Nat.le_refl _) (by omega) (by unfold maxLen; omega)) ((Below.refl _ _).alloc (Nat.le_refl _) _)
  case c4 => exact (hlW1.alloc (Nat.le_refl _) _).alloc (by simp) _
  · intro w5 hown hgrow hbel
    have hx : splice (List.replicate m (Value.int .u8 0)) 0 ((l.map bv).take m) = l.map bv := by
      unfold splice
      rw [List.take_of_length_le (l := l.map bv) (by simp [hll])]
      simp [hll]
    rw [hx] at hown
    have bO : Boxed w5 (W1.heap.size + 1) 22 (.slice (some ⟨W1.heap.size, 0, none⟩) m (m + k)) := by
      have h := Boxed.new (W1.alloc (.cells (madeCells #[.int .u8 0] (m + k)) 5)) 22 (.slice (some ⟨W1.heap.size, 0, none⟩) m (m + k))
      rw [World.size_alloc] at h
      exact h.kept hgrow (by simp)
    have hb5 : Below W1.heap.size W1 w5 := (((Below.refl W1.heap.size W1).alloc (Nat.le_refl _) _).alloc (by simp) _).trans hbel
    have hbw : Below w.heap.size w w5 := bel_next hb1 hb5
    have s5 : W1.heap.size + 2 ≤ w5.heap.size := by have := hbel.size; simpa using this
    have bx5 := bx.later hb5
    have f0 : w5.cell? ⟨w1.heap.size, 0, none⟩ = some (.int .i64 x0) := (bx5 0 _ rfl).1
    have f1 : w5.cell? ⟨w1.heap.size, 1, none⟩ = some (.int .i64 x1) := (bx5 1 _ rfl).1
    have f2 : w5.cell? ⟨w1.heap.size, 2, none⟩ = some (.int .i64 k) := (bx5 2 _ rfl).1
    have f3 : w5.cell? ⟨w1.heap.size, 3, none⟩ = some (.int .i64 x3) := (bx5 3 _ rfl).1
    clear hx e0 e1 e2 e3 hW1
    go_wp2_with fail
    refine (encoding_any x0 x1 k x3 c w5).mono ?_
    rintro e w6 ⟨rfl, hW6⟩
    have hK5 := hstops w5.heap.size (w5.heap.size + 1) w6 (by rw [← hW6]; exact (Box.new _ _ _).alloc _) (by rw [← hW6]; exact (Box.new' _ _ _ (by simp) 0 _ rfl).1)
    have bO6 : Boxed w6 (W1.heap.size + 1) 22 (.slice (some ⟨W1.heap.size, 0, none⟩) m (m + k)) := by rw [← hW6]; exact (bO.alloc _).alloc _
    have hown6 : w6.ownsRow W1.heap.size 5 1 (.slice (some ⟨W1.heap.size, 0, none⟩) m (m + k)) m (l.map bv) := by rw [← hW6]; exact (hown.alloc _).alloc _
    have hbw6 : Below w.heap.size w w6 := by rw [← hW6]; exact bel_alloc (bel_alloc hbw _) _
    have s6 : w6.heap.size = w5.heap.size + 2 := by rw [← hW6]; simp
    have bc6 : Boxed w6 (w5.heap.size + 1) 3 (.int .i64 c) := by
      rw [← hW6]
      have h := Boxed.new (w5.alloc (.cells #[.int .i64 x0, .int .i64 x1, .int .i64 k, .int .i64 x3] 76)) 3 (.int .i64 c)
      rw [World.size_alloc] at h
      exact h
    clear f0 f1 f2 f3 bx5 bx hW6 bO hown
    go_wp2
    refine (wpIn_wide (n := 6)).1 ?_
    refine wpIn_rangeFunc_ownG rfl (by omega) (gf := 61) (lb := #[.pointer (some ⟨w5.heap.size, 0, none⟩), .pointer (some ⟨w5.heap.size + 1, 0, none⟩)]) rfl trivial (enters_of Tryd.func61 (by kernel_rfl) rfl)
      hK5 keptK_t (keptK_b (by omega)) (Below.refl _ _) (fun _ => rfl)
      (fun pre W => (∃ v, Boxed W (W1.heap.size + 1) 22 v ∧ W.ownsRow W1.heap.size 5 1 v (m + pre.length) ((l ++ pre).map bv) ∧ True) ∧ Boxed W (w5.heap.size + 1) 3 (.int .i64 c) ∧ Below w.heap.size w W)
      (fun _ _ _ => False)
      (OwnFrom.and (Own.from (hIO _ _ _) _) (OwnFrom.and (Own.from (boxed_own _ _ _) _) (ownFrom_below (Nat.le_refl _) hbw6.size)))
      (fun _ _ _ _ _ hs _ _ => hs)
      ⟨⟨_, bO6, by simpa using hown6, trivial⟩, bc6, hbw6⟩
      (fun x => { tmps := #[.slice A m c0, .int .i64 c, undef, undef, .slice none 0 0, .int .i64 0, .pointer (some ⟨w1.heap.size, 0, none⟩), .pointer (some ⟨W1.heap.size + 1, 0, none⟩), (.int .u8 (x.toNat : Int)), .int .i64 c, .agg #[.int .i64 x0, .int .i64 x1, .int .i64 k, .int .i64 x3], .agg #[.int .i64 x0, .int .i64 x1, .int .i64 k, .int .i64 x3], .agg #[.int .i64 0, .int .i64 0, .int .i64 0, .int .i64 0], .bool false, .slice A m c0, .int .i64 m, .slice A m c0, .int .i64 m, .pointer (some ⟨w1.heap.size, 2, none⟩), .int .i64 k, .int .i64 ((m : Int) + (k : Int)), .slice (some ⟨W1.heap.size, 0, none⟩) m (m + k), .slice (some ⟨W1.heap.size, 0, none⟩) m (m + k), .slice A m c0, .int .i64 m, .agg #[.int .i64 x0, .int .i64 x1, .int .i64 k, .int .i64 x3], .int .i64 c, .func (.func 61) #[] #[.pointer (some ⟨w5.heap.size, 0, none⟩), .pointer (some ⟨w5.heap.size + 1, 0, none⟩)], (.int .u8 (x.toNat : Int)), undef, undef, undef, undef, undef], defers := [] }) ?assign ?body ?done ?stop
    case assign =>
      intro l' x W K hK
      gi_wp2
      exact hK
    case body =>
      rintro l' pre x W ⟨⟨v, hv, hrow, -⟩, hbc, hBW⟩ hlt
      have hc := hv.cell
      have hvl := hv.lt
      gi_wp2_with (gi_at_builtin; refine wpListIn_append_own _ rfl _ _ 22 rfl W1.heap.size 5 i0 (.int .u8 0) 1 1 Tryd.underlying22 hi hz0 hz1 hz2 rfl (by decide) _ _ _ rfl (hrow.alloc _) ⟨W.heap.size, 0, none⟩ 1 1 [.int .u8 (x.toNat : Int)] rfl rfl (cell_one_new _ _ _) (by simp [Value.oneCell']) (by unfold maxLen; omega) (by omega) (by simp; omega) ?_; intro v' w7 hown' hgrow' _; obtain ⟨g', cap', rfl⟩ := ownsRow_succ hown'; obtain ⟨hv1, hv2, hr2, hk2, hb2⟩ := hv.appended (by decide) hrow (by omega) (by omega) hown' hgrow'; have hc1 := hv1.cell; have hf1 := hv1.frozen; have hbc1 := ((hbc.alloc _).kept hgrow' (hbc.not_row (by decide) hrow)).other (B' := W1.heap.size + 1) (by omega) (.slice (some ⟨g', 0, none⟩) (m + pre.length + 1) cap'))
      exact ⟨hk2.from _, hbc1.cell.trans hbc.cell.symm, ⟨_, hv2, by simpa [Nat.add_assoc, bv] using hr2, trivial⟩, hbc1, hBW.trans (hb2.mono hb1.size)⟩
    case done =>
      rintro D ys W hD rfl ⟨⟨v, hv, hrow, -⟩, -, hBW⟩ hK
      have hc := hv.cell
      obtain ⟨A', c', rfl, -, -⟩ := own_form hrow
      go_wp2
      refine ⟨by simp, .inl ⟨_, _, rfl, run_takeDeferred hK, ?_⟩⟩
      refine ⟨_, ?_, A', _, c', rfl, own_base (ownsRow_putObj hrow _ hK rfl) hb1.size, hBW.trans (belowK_b (w := w) (Nat.le_refl _) W D _ _ (Nat.le_trans hbw6.size hD) hK rfl rfl)⟩
      simp [results, Tryd.results26, go_sem]
    case stop =>
      rintro D c pre W _ _ h _
      exact h.elim
end Go.Proofs.YtgnialemiefeeaaDoor
/-
  Layer 2: Print's closure.
-/
namespace Go.Proofs.YtgnialemiefeeaaDoor
open Go.RowKit

/-- Bytes of one's own in a box. -/
def OutB (n₀ B : Nat) (L : List UInt8) (W : World) : Prop := ∃ v, Boxed W B 22 v ∧ W.ownsRow n₀ 5 1 v L.length (L.map bv)
theorem strCells_ofL (t : List UInt8) : Lib.strCells (ofL t) = t.map bv := by
  simp [Lib.strCells, ofL, bv]
set_option maxRecDepth 20000 in
set_option maxHeartbeats 1000000 in
theorem print1_any (t L : List UInt8) (n₀ B : Nat) (W : World) (h : OutB n₀ B L W) (hn : n₀ ≤ B) (hm : L.length + t.length ≤ 100000000) :
    Calls Tryd.prog 42 #[.string (ofL t), .pointer (some ⟨B, 0, none⟩)] W fun e W' => (∃ v, e = .returned v) ∧ OutB n₀ B (L ++ t) W' ∧ KeepsOthers W W' ∧ Below n₀ W W' := by
  obtain ⟨v, hv, hrow⟩ := h
  obtain ⟨i0, hi, hz0, hz1, hz2⟩ := u8_info'
  have hc := hv.cell
  have hlt := hv.lt
  have hsz := ofL_size t
  have hst := strCells_ofL t
  generalize ofL t = T at *
  go_enter Tryd.func42, Tryd.ntmps42
  go_wp2_with (at_builtin; refine Lib.wpList_append_own_string W rfl _ _ 22 9 rfl n₀ 5 i0 Tryd.underlying22 Tryd.underlying9 hi hz0 hz1 hz2 v L.length (L.map bv) rfl hrow T rfl (by unfold maxLen; rw [hsz]; omega) (by rw [hsz]; omega) (by omega) ?_; intro v' w7 hown hgrow _; have hv1 : Boxed w7 B 22 v := hv.kept hgrow (hv.not_row (by decide) hrow); have e1 := hv1.cell; have e2 := hv1.frozen; rw [hst, hsz] at hown; obtain ⟨A', c', rfl, -, -⟩ := own_form hown)
  go_end0
  refine ⟨⟨_, rfl⟩, ⟨_, hv1.set _, ?_⟩, ?_, ?_⟩
  · rw [List.length_append, List.map_append]
    exact hown.kept (grownBy_setCell' w7 B _) (.inr (hv1.not_row (by decide) hown).symm)
  · refine (KeepsOthers.of_grownBy hgrow fun j o ej hj => ?_).trans (KeepsOthers.setCell _ _ _)
    obtain ⟨c, fz, h2⟩ := Lib.ownsRow_kind hrow j ej
    rw [hj] at h2
    injection h2 with h2
    rw [h2]
    rfl
  · exact ((Below.refl n₀ W).grown hgrow (by omega) (fun k e => (hrow.lt k e).1)).setCell (by show n₀ ≤ B; exact hn) _
end Go.Proofs.YtgnialemiefeeaaDoor
/-
  Layer 2: Print.
-/
namespace Go.Proofs.YtgnialemiefeeaaDoor
open Go.RowKit

theorem OutB.later {n₀ B : Nat} {L : List UInt8} {W W' : World} (h : OutB n₀ B L W) (hb : Below W.heap.size W W') : OutB n₀ B L W' := by
  obtain ⟨v, h1, h2⟩ := h
  exact ⟨v, (hb.block _ h1.lt).trans h1, own_below h2 hb⟩
theorem text_count (cps : List Nat) : cps.length ≤ (textL cps).length := by
  induction cps with
  | nil => exact Nat.le_refl _
  | cons c r ih => rw [textL_cons, List.length_append, List.length_cons]; have := encL_len_pos c; omega
/-- What Print tells. -/
def printR (l : List UInt8) : Value := if (ptsL l).2 = l.length then .tuple #[.string (ofL (quoteL (ptsL l).1)), .int .i64 0] else .tuple #[.string ⟨#[]⟩, .int .i64 110]
set_option maxRecDepth 20000 in
set_option maxHeartbeats 1000000 in
theorem print_any (s : ByteArray) (l : List UInt8) (hs : s.data.toList = l) (w : World) (hm : s.size ≤ 1000000) (htab : UTab w) (hesc : ETab w) :
    Calls Tryd.prog 19 #[.string s] w fun e w' => e = .returned (printR l) ∧ Below w.heap.size w w' := by
  have hchk := check_any s l hs w (by unfold maxLen; omega) htab
  by_cases hok : (ptsL l).2 = l.length
  · have HR := Lib.hid (show printR l = .tuple #[.string (ofL (quoteL (ptsL l).1)), .int .i64 0] from if_pos hok)
    rw [show walkR l = .tuple #[.int .i64 0, .int .i64 0] from if_pos hok] at hchk
    go_enter Tryd.func19, Tryd.ntmps19
    go_wp2_with fail
    refine hchk.mono ?_
    rintro e w1 ⟨rfl, hb⟩
    have hbs := hb.size
    have r0 := World.ownsRow_lit (base := w1.heap.size) (e := 5) (size := 1) w1 #[.int .u8 34] 1 (Nat.le_refl _) (by unfold maxLen; omega) rfl
    have bx := Boxed.new (w1.alloc (.cells #[.int .u8 34] 5)) 22 (.slice (some ⟨w1.heap.size, 0, none⟩) 1 1)
    rw [World.size_alloc] at bx
    have hb2 : Below w.heap.size w ((w1.alloc (.cells #[.int .u8 34] 5)).alloc (.cells #[.slice (some ⟨w1.heap.size, 0, none⟩) 1 1] 22)) := bel_alloc (bel_alloc hb _) _
    have hsp := spelled_any s l hs hok 42 #[.pointer (some ⟨w1.heap.size + 1, 0, none⟩)] ((w1.alloc (.cells #[.int .u8 34] 5)).alloc (.cells #[.slice (some ⟨w1.heap.size, 0, none⟩) 1 1] 22)) (by unfold maxLen; omega)
      (fun cps W => OutB w1.heap.size (w1.heap.size + 1) (b8 34 :: spellsL cps) W ∧ Below w.heap.size w W)
      (fun pre W h => hesc.below h.2 hesc.lt)
      (fun pre W W' h hb => ⟨h.1.later hb, h.2.trans (hb.mono h.2.size)⟩)
      (fun pre W k pos pos' hge h hk => by
        rw [World.size_alloc, World.size_alloc] at hge
        refine ⟨?_, Lib.below_iterAt h.2 (k := k) (by omega) s pos'⟩
        obtain ⟨v, h1, h2⟩ := h.1
        refine ⟨v, (Lib.iterAt_other W k _ s pos' (by omega)).trans h1, h2.kept (row := some k) ⟨rfl, rfl, rfl, by rw [Lib.iterAt_size]; exact Nat.le_refl _, fun i _ hne => Lib.iterAt_other W k i s pos' (fun e => hne (by rw [e]))⟩ (.inr fun e => ?_)⟩
        obtain ⟨c, fz, h3⟩ := Lib.ownsRow_kind h2 k e
        rw [hk] at h3
        cases h3)
      ⟨⟨_, bx, r0.alloc _⟩, hb2⟩ (enters_of Tryd.func42 (by kernel_rfl) rfl)
      (fun pre c W h hl hc => by
        have hx := spells_len pre
        have hy := spell_len c
        refine (print1_any (spellL c) (b8 34 :: spellsL pre) w1.heap.size (w1.heap.size + 1) W h.1 (by omega) (by simp only [List.length_cons]; omega)).mono ?_
        rintro e W' ⟨hv, ho, hk, hbl⟩
        refine ⟨hv, ⟨?_, h.2.trans (hbl.mono hbs)⟩, hk⟩
        rw [spells_append, spells_one]
        exact ho)
    go_wp2_with fail
    refine hsp.mono ?_
    rintro e w2 ⟨⟨v, rfl⟩, ⟨v2, hv2, hrow2⟩, hbw⟩
    have hc2 := hv2.cell
    have hcnt := text_count (ptsL l).1
    rw [← (pts_is l.length l (Nat.le_refl _)).2.2.1, hok, ← hs, Array.length_toList] at hcnt
    rw [hs] at hcnt
    have hsl := spells_len (ptsL l).1
    have hsz : s.data.size = s.size := rfl
    obtain ⟨i0, hi, hz0, hz1, hz2⟩ := u8_info'
    have hlc : (b8 34 :: spellsL (ptsL l).1).length = (spellsL (ptsL l).1).length + 1 := rfl
    rw [hlc] at hrow2
    obtain ⟨A2, c2, rfl, -, -⟩ := own_form hrow2
    clear hlc
    have hb9 : (spellsL (ptsL l).1).length + 1 ≤ 100000000 := by omega
    have hs2 := hbw.size
    have hv2l := hv2.lt
    clear hcnt hsl hsz hchk hok
    generalize hZ : spellsL (ptsL l).1 = Z at *
    have HR2 := Lib.hid (show quoteL (ptsL l).1 = (b8 34 :: Z) ++ [b8 34] by unfold quoteL; rw [hZ]; rfl)
    have hnew : Shows (w2.alloc (.cells #[.int .u8 34] 5)) (w2.heap.size + 1) 1 (some ⟨w2.heap.size, 0, none⟩) 1 [.int .u8 34] := bytes_new w2 [b8 34] _ _ _ rfl
    clear hZ
    generalize b8 34 :: Z = Y at *
    clear hsp
    go_wp2_with (at_builtin; refine wpList_append_shows _ rfl _ _ 22 rfl w1.heap.size 5 i0 (.int .u8 0) 1 1 Tryd.underlying22 hi hz0 hz1 hz2 rfl (by decide) _ _ _ rfl (hrow2.alloc _) (w2.heap.size + 1) _ 1 1 [.int .u8 34] rfl hnew (by simp [Value.oneCell']) (by unfold maxLen; omega) (by omega) (by simp; omega) ?_; intro A' c' w7 hown' hgrow' hbel; have hby : Bytes w7 w7.heap.size A' (Z.length + 1 + 1) (Y ++ [b8 34]) := Bytes.own (by rw [List.map_append]; exact hown'); have hconv := run_bytes_string (P := Tryd.prog) Tryd.underlying22 Tryd.underlying5 Tryd.underlying9 w7 A' _ c' _ _ hby)
    go_ret2
    exact ⟨by rw [HR.out, HR2.out]; rfl, (bel_alloc hbw _).trans (hbel.mono hbs)⟩
  · have HR := Lib.hid (show printR l = .tuple #[.string ⟨#[]⟩, .int .i64 110] from if_neg hok)
    rw [show walkR l = .tuple #[.int .i64 ((ptsL l).2 : Int), .int .i64 110] from if_neg hok] at hchk
    go_enter Tryd.func19, Tryd.ntmps19
    go_wp2_with fail
    refine hchk.mono ?_
    rintro e w1 ⟨rfl, hb⟩
    go_wp2
    go_ret2
    exact ⟨by rw [HR.out]; rfl, hb⟩
end Go.Proofs.YtgnialemiefeeaaDoor
/-
  Layer 2: Sign.
-/
namespace Go.Proofs.YtgnialemiefeeaaDoor
open Go.RowKit

/-- What Sign tells at a place of the row, or at its end. -/
def signV (l : List UInt8) (p : Nat) : Value :=
  if (begL (l.drop p)).2 = 0 then .tuple #[.int .i64 0, .int .i64 0, .int .i64 (faultN l p)]
  else .tuple #[.int .i64 ((begL (l.drop p)).1 : Int), .int .i64 ((p + (begL (l.drop p)).2 : Nat) : Int), .int .i64 0]
theorem sign_no {l : List UInt8} {p : Nat} (h : (begL (l.drop p)).2 = 0) : signV l p = .tuple #[.int .i64 0, .int .i64 0, .int .i64 (faultN l p)] := if_pos h
theorem sign_yes {l : List UInt8} {p c n : Nat} (h : begL (l.drop p) = (c, n)) (hn : n ≠ 0) : signV l p = .tuple #[.int .i64 (c : Int), .int .i64 ((p + n : Nat) : Int), .int .i64 0] := by
  unfold signV; rw [h, if_neg hn]

set_option maxRecDepth 20000 in
theorem sign_bad (A : Option Addr) (m c0 : Nat) (p : Int) (w : World) (h : p < 0 ∨ (m : Int) < p) :
    Calls Tryd.prog 12 #[.slice A m c0, .int .i64 p] w fun e w' => e = .returned (.tuple #[.int .i64 0, .int .i64 0, .int .i64 2]) ∧ w' = w := by
  rcases h with h | h
  · go_enter Tryd.func12, Tryd.ntmps12
    go_wp2
    go_ret3
    exact ⟨rfl, rfl⟩
  · have h0 : ¬ p < 0 := by omega
    go_enter Tryd.func12, Tryd.ntmps12
    go_wp2
    go_ret3
    exact ⟨rfl, rfl⟩
set_option maxRecDepth 20000 in
set_option maxHeartbeats 1000000 in
theorem sign_in (A : Option Addr) (m c0 B p : Nat) (l : List UInt8) (w : World) (htab : UTab w) (hesc : ETab w) (hl : Bytes w B A m l) (hB : B ≤ w.heap.size) (hm : m ≤ maxLen) (hmc : m ≤ c0) (hp : p ≤ m) :
    Calls Tryd.prog 12 #[.slice A m c0, .int .i64 p] w fun e w' => e = .returned (signV l p) ∧ Below w.heap.size w w' := by
  unfold maxLen at hm
  have hp0 : ¬ (p : Int) < 0 := by omega
  have hp1 : ¬ (m : Int) < (p : Int) := by omega
  have hlen := Lib.hid hl.len
  by_cases he : p = m
  · subst he
    have HR := Lib.hid (show signV l p = .tuple #[.int .i64 0, .int .i64 0, .int .i64 6] by
      rw [sign_no (by rw [List.drop_of_length_le (by rw [hlen.out]; exact Nat.le_refl _)]; rfl), show faultN l p = 6 from if_pos (by rw [hlen.out]; exact Nat.le_refl _)])
    clear hl
    go_enter Tryd.func12, Tryd.ntmps12
    go_wp2
    go_ret3
    exact ⟨by rw [HR.out]; rfl, Below.refl _ _⟩
  · have hp2 : ((p : Int) == (m : Int)) = false := by rw [beq_eq_false_iff_ne]; omega
    have hp3 : (p : Int) < (m : Int) := by omega
    have hp4 : (0 : Int) ≤ p := by omega
    have hnext := next_in A m c0 B p l w htab hl hB (by unfold maxLen; omega) (by omega)
    have hescd := escaped_any _ (m - p) (c0 - p) B (l.drop p) w hesc (hl.cut (k := p) hp hmc) hB (by unfold maxLen; omega) (by omega)
    have hflt := fun (W : World) (hb : Below w.heap.size w W) => fault_any A m c0 B p l W (hl.below (hb.mono hB)) (by unfold maxLen; omega)
    rw [if_neg (by omega)] at hescd
    obtain ⟨b, off, rfl, hbB, hc0⟩ := hl.cell (k := p) (by omega)
    rw [Option.map_some, addr_add] at hescd
    rw [show at8 l p = ((at0 l p : Nat) : Int) from rfl] at hc0
    have hx := at0_lt l p
    have hd0 : at0 (l.drop p) 0 = at0 l p := at0_drop l p 0
    have Hflt := Lib.hid hflt
    have hf7 : at0 l p < 128 → faultN l p = 7 := fun h => by unfold faultN; rw [if_neg (by rw [hlen.out]; omega), if_neg (by omega)]
    clear hl hflt hbB
    by_cases h1 : at0 l p < 32
    · have HR := Lib.hid (show signV l p = .tuple #[.int .i64 0, .int .i64 0, .int .i64 7] by rw [sign_no (by rw [beg_bad (by omega)]), hf7 (by omega)])
      clear hf7 hd0 hescd hnext
      generalize at0 l p = x at *
      have k1 : ((x : Int) < 32) = True := by simp; omega
      clear h1
      go_enter Tryd.func12, Tryd.ntmps12
      go_wp2
      go_ret3
      exact ⟨by rw [HR.out]; rfl, Below.refl _ _⟩
    · have k1 : (((at0 l p : Nat) : Int) < 32) = False := by simp; omega
      by_cases h2 : at0 l p = 34
      · have HR := Lib.hid (show signV l p = .tuple #[.int .i64 0, .int .i64 0, .int .i64 7] by rw [sign_no (by rw [beg_bad (by omega)]), hf7 (by omega)])
        rw [h2] at hc0
        clear hf7 hd0 hescd hnext h1 h2 hx k1
        go_enter Tryd.func12, Tryd.ntmps12
        go_wp2
        go_ret3
        exact ⟨by rw [HR.out]; rfl, Below.refl _ _⟩
      · by_cases h3 : at0 l p = 92
        · have hbeg := beg_esc (hd0.trans h3)
          rw [← hbeg] at hescd
          rw [h3] at hc0
          have hf := hf7 (by omega)
          have hk' : ¬ (c0 : Int) = (p : Int) := by omega
          have hk2 : (p : Int) ≤ c0 := by omega
          have hk3 : (m : Int) ≤ c0 := by omega
          have hle := beg_le (l.drop p)
          rw [List.length_drop, hlen.out] at hle
          by_cases h4 : (begL (l.drop p)).2 = 0
          · have HR := Lib.hid (show signV l p = .tuple #[.int .i64 0, .int .i64 0, .int .i64 7] by rw [sign_no h4, hf])
            rw [beg_zero h4] at hescd
            unfold pairV at hescd
            clear hf7 hd0 hnext h1 h2 hx k1 h3 hbeg hf hle h4
            go_enter Tryd.func12, Tryd.ntmps12
            go_wp2_with fail
            refine hescd.mono ?_
            rintro e w1 ⟨rfl, hb⟩
            go_wp2
            go_ret3
            exact ⟨by rw [HR.out]; rfl, hb⟩
          · have HR := Lib.hid (sign_yes (l := l) (p := p) (c := (begL (l.drop p)).1) (n := (begL (l.drop p)).2) rfl h4)
            unfold pairV at hescd
            have h5 : (((begL (l.drop p)).2 : Nat) : Int) ≠ 0 := by omega
            clear hf7 hd0 hnext h1 h2 hx k1 h3 hbeg hf h4
            generalize (begL (l.drop p)).1 = c at *
            generalize (begL (l.drop p)).2 = n at *
            have hw : wrap64 ((p : Int) + (n : Int)) = (p : Int) + (n : Int) := IntWalk.wrap64_in _ ⟨by omega, by omega⟩
            go_enter Tryd.func12, Tryd.ntmps12
            go_wp2_with fail
            refine hescd.mono ?_
            rintro e w1 ⟨rfl, hb⟩
            go_wp2
            go_ret3
            exact ⟨by rw [HR.out]; rfl, hb⟩
        · have hbeg := beg_dec (l := l.drop p) (by omega) (by omega) (by omega)
          have k2 : (((at0 l p : Nat) : Int) == 34) = false := by rw [beq_eq_false_iff_ne]; omega
          have k3 : (((at0 l p : Nat) : Int) == 92) = false := by rw [beq_eq_false_iff_ne]; omega
          by_cases h4 : (decL (l.drop p)).2 = 0
          · have HR := Lib.hid (show signV l p = .tuple #[.int .i64 0, .int .i64 0, .int .i64 (faultN l p)] from sign_no (by rw [hbeg]; exact h4))
            rw [decR_no (dec_zero h4)] at hnext
            clear hf7 hd0 hescd h1 h2 h3 hx hbeg h4
            generalize at0 l p = x at *
            go_enter Tryd.func12, Tryd.ntmps12
            go_wp2_with fail
            refine hnext.mono ?_
            rintro e w1 ⟨rfl, hb⟩
            go_wp2_with fail
            refine (Hflt.out w1 hb).mono ?_
            rintro e w2 ⟨rfl, rfl⟩
            go_wp2
            go_ret3
            exact ⟨by rw [HR.out]; rfl, hb⟩
          · have HR := Lib.hid (sign_yes (l := l) (p := p) (c := (decL (l.drop p)).1) (n := (decL (l.drop p)).2) hbeg h4)
            rw [decR_yes (l := l) (p := p) (c := (decL (l.drop p)).1) (n := (decL (l.drop p)).2) rfl h4] at hnext
            clear hf7 hd0 hescd h1 h2 h3 hx hbeg h4
            generalize at0 l p = x at *
            generalize (((decL (l.drop p)).1 : Nat) : Int) = c at *
            generalize ((p + (decL (l.drop p)).2 : Nat) : Int) = n at *
            go_enter Tryd.func12, Tryd.ntmps12
            go_wp2_with fail
            refine hnext.mono ?_
            rintro e w1 ⟨rfl, hb⟩
            go_wp2
            go_ret3
            exact ⟨by rw [HR.out]; rfl, hb⟩
end Go.Proofs.YtgnialemiefeeaaDoor
/-
  A range over a function whose iterator writes a variable of its own: the statement opened into the iterator's one call, and a round into the body's walk; what the iterator may touch is the caller's to say. No program in sight.
-/
namespace Go.Proofs.YtgnialemiefeeaaDoor
open Go.RowKit Go.Shelf

variable {F : Fence} {n : Nat} {P : Program}

/-- The record that the statement lays. -/
def recOf (fn : FuncId) (tmps : Array Value) (ps : Array Tmp) (assign body : Code) (D : Nat) (st : LoopState) (pe : Option Code) : Loop :=
  { state := st, pending := pe, fn := fn, tmps := tmps, params := ps, assign := assign, body := body, defers := D }
/-- What follows the iterator's return, by the jump that waits. -/
def goesOn (F : Fence) (n : Nat) (P : Program) (Q : Exit → Act → World → Prop) (a : Act) (W : World) : Option Code → Prop
  | none => Q .normal a W
  | some c => c.wpIn F n P Q a W

theorem range_open {g : Operand} {ps : Array Tmp} {assign body : Code} {Q : Exit → Act → World → Prop} {a : Act} {w : World} {gf : Nat} {lb : Array Value}
    (hro : F.round = none) (h1 : 1 ≤ n) (hg : a.eval g = .func (.func gf) #[] lb) (hFg : F.fn gf) (eg : ∀ args w, (callFunc gf args).run P w = .ok (.enter gf args) w)
    (hcall : ∀ fn, F.fn fn → CallsIn F (n - 1) P gf (#[.func (.yield (w.heap.size + 1)) #[] #[]] ++ lb) ((w.alloc (.deferred (some []))).alloc (.loop (recOf fn a.tmps ps assign body w.heap.size .ready none)))
      fun e B => (∃ v, e = .returned v) ∧ ∃ st pe, B.heap[w.heap.size + 1]? = some (.loop (recOf fn a.tmps ps assign body w.heap.size st pe)) ∧ st ≠ .busy ∧
        goesOn F n P Q { a with defers := { target := .collected w.heap.size, args := #[] } :: a.defers } (B.putObj (w.heap.size + 1) (.loop (recOf fn a.tmps ps assign body w.heap.size .exhausted pe))) pe) :
    (Code.rangeFunc g ps assign body).wpIn F n P Q a w := by
  refine wpIn_rangeFunc fun fn hfn => ?_
  rw [hro]
  refine ⟨_, _, _, { target := .fn (.func gf) lb, args := #[.func (.yield (w.heap.size + 1)) #[] #[]] }, (w.alloc (.deferred (some []))).alloc (.loop (recOf fn a.tmps ps assign body w.heap.size .ready none)), gf, _, _, run_enterLoop_outer fn a.tmps ps assign body, ?_, ?_, ?_, fun _ => h1, (hcall fn hfn).mono ?_⟩
  · simp only [resolve, hg]
    simp [go_sem, recOf]
  · intro f' hf'
    simp [Target.leads] at hf'
    subst hf'
    exact hFg
  · simp [invoke, go_sem, eg]
  · rintro e B ⟨⟨v, rfl⟩, st, pe, hl, hb, hgo⟩
    refine ⟨pe, _, run_endLoop hl hb, ?_⟩
    cases pe <;> exact hgo

/-- How a round may be left, and what then holds. -/
def roundEnd (l : Nat) (r : Option Code → LoopState → Loop) (R : Ending → World → Prop) : Exit → Act → World → Prop
  | .normal, _, W => W.heap[l]? = some (.loop (r none .busy)) ∧ R (.returned (.bool true)) (W.putObj l (.loop (r none .ready)))
  | .exit id, _, W => W.heap[l]? = some (.loop (r none .busy)) ∧ R (.returned (.bool false)) (W.putObj l (.loop (r (some (.exit id)) .done)))
  | _, _, _ => False
theorem round_open {m l : Nat} {fn : FuncId} {tmps : Array Value} {ps : Array Tmp} {assign body : Code} {D : Nat} {args : Array Value} {W : World} {R : Ending → World → Prop} (hF : F.fn fn)
    (hl : W.heap[l]? = some (.loop (recOf fn tmps ps assign body D .ready none))) (hs : args.size = ps.size)
    (h : assign.wpIn (F.inRound l) m P (Exit.then (fun a' W2 => W2.heap[l]? = some (.loop (recOf fn tmps ps assign body D .ready none)) ∧
        body.wpIn (F.inRound l) m P (roundEnd l (fun pe st => recOf fn tmps ps assign body D st pe) R) a' (W2.putObj l (.loop (recOf fn tmps ps assign body D .busy none)))) (fun _ _ _ => False))
      { tmps := (ps.zip args).foldl (fun t (p, v) => t.setIfInBounds p v) tmps, defers := [] } W) :
    YieldAt F m P l args W R := by
  refine ⟨fn, _, assign, body, run_yield hl hs, roundIn_of_wpIn hF (wpIn_mono h ?_)⟩
  intro e a' W2 he
  cases e with
  | normal =>
    obtain ⟨h2, hb⟩ := he
    refine ⟨_, run_beginRound h2 rfl, wpIn_mono hb ?_⟩
    intro e3 a3 W3 h3
    cases e3 with
    | normal => exact ⟨_, _, run_endRound none h3.1, h3.2⟩
    | exit id => exact ⟨_, _, run_endRound (some (.exit id)) h3.1, h3.2⟩
    | ret => exact h3.elim
    | goto t => exact h3.elim
    | panic ch => exact h3.elim
    | outgrown => exact h3.elim
  | ret => exact he.elim
  | exit id => exact he.elim
  | goto t => exact he.elim
  | panic ch => exact he.elim
  | outgrown => exact he.elim
end Go.Proofs.YtgnialemiefeeaaDoor
/-
  Layer 2: the iterator over the signs of a row.
-/
namespace Go.Proofs.YtgnialemiefeeaaDoor
open Go.RowKit Go.Shelf
attribute [local go_sem] Oper.semAt_some

set_option maxRecDepth 20000 in
theorem signs_any (A : Option Addr) (m c0 : Nat) (p : Int) (w : World) :
    Calls Tryd.prog 38 #[.slice A m c0, .int .i64 p] w fun e w' => e = .returned (.func (.func 56) #[] #[.pointer (some ⟨w.heap.size, 0, none⟩), .pointer (some ⟨w.heap.size + 1, 0, none⟩)]) ∧ (w.alloc (.cells #[.slice A m c0] 22)).alloc (.cells #[.int .i64 p] 3) = w' := by
  go_enter Tryd.func38, Tryd.ntmps38
  go_wp2
  go_ret
  exact ⟨by simp, rfl⟩

/-- What a round is handed. -/
def signA (l : List UInt8) (q : Nat) : Value :=
  if (begL (l.drop q)).2 = 0 then .agg #[.int .i64 0, .int .i64 0, .int .i64 (faultN l q)]
  else .agg #[.int .i64 ((begL (l.drop q)).1 : Int), .int .i64 ((q + (begL (l.drop q)).2 : Nat) : Int), .int .i64 0]
theorem fault_ne (l : List UInt8) (q : Nat) : (faultN l q == 0) = false := by
  unfold faultN
  split
  · rfl
  · split <;> rfl

set_option maxRecDepth 100000 in
set_option maxHeartbeats 2000000 in
theorem signs_in (n : Nat) (hn : 1 ≤ n) (ln Bb Bo : Nat) (A : Option Addr) (m c0 : Nat) (l : List UInt8) (J : Nat → Nat → World → Prop) (Jx : World → Prop) (hm : m ≤ maxLen) (hmc : m ≤ c0) (hlen : l.length = m)
    (hJ1 : ∀ q c W W', J q c W → Below W.heap.size W W' → J q c W')
    (hJ2 : ∀ q c c' W, J q c W → J q c' (W.setCell ⟨Bo, 0, none⟩ (.int .i64 (c' : Nat))))
    (hJ3 : ∀ q c W, J q c W → W.cell? ⟨Bb, 0, none⟩ = some (.slice A m c0) ∧ W.cell? ⟨Bo, 0, none⟩ = some (.int .i64 (c : Nat)) ∧ W.frozen? ⟨Bo, 0, none⟩ = false ∧ UTab W ∧ ETab W ∧ Bytes W W.heap.size A m l ∧ q ≤ m)
    (hY : ∀ q W, J q q W → (begL (l.drop q)).2 ≠ 0 → YieldAt Fence.wide (n - 1) Tryd.prog ln #[signA l q] W fun e W' => e = .returned (.bool true) ∧ J (q + (begL (l.drop q)).2) q W')
    (hN : ∀ q W, J q q W → (begL (l.drop q)).2 = 0 → YieldAt Fence.wide (n - 1) Tryd.prog ln #[signA l q] W fun e W' => e = .returned (.bool false) ∧ Jx W')
    (p : Nat) (W : World) (h0 : J p p W) :
    CallsIn Fence.wide n Tryd.prog 56 #[.func (.yield ln) #[] #[], .pointer (some ⟨Bb, 0, none⟩), .pointer (some ⟨Bo, 0, none⟩)] W fun e W' => (∃ v, e = .returned v) ∧ Jx W' := by
  refine callsIn_of_wp Tryd.func56 rfl trivial ?_ rfl
  simp only [Tryd.ntmps56, List.size_toArray, List.length_cons, List.length_nil, Nat.reduceAdd, Nat.reduceSub, Array.replicate_succ, Array.replicate_zero, List.push_toArray, List.append_toArray, List.nil_append, List.cons_append]
  gi_wp2
  gi_loopw [4] (fun _ wr => ∃ q : Nat, J q q wr) (fun _ wr => m - (intOf ((wr.cell? ⟨Bo, 0, none⟩).getD undef)).toNat)
  case atStart => exact ⟨p, h0⟩
  case round =>
    obtain ⟨q, hq⟩ := hrel
    obtain ⟨d1, d2, d3, htab, hesc, hl, hqm⟩ := hJ3 q q _ hq
    have hs := callsIn_wide (n := n - 1) |>.2 (sign_in A m c0 _ q l _ htab hesc hl (Nat.le_refl _) hm hmc hqm)
    by_cases hb : (begL (l.drop q)).2 = 0
    · rw [sign_no hb] at hs
      gi_wp2_with fail
      refine ⟨trivial, hs.mono ?_⟩
      rintro e W1 ⟨rfl, hb1⟩
      have hq1 := hJ1 _ _ _ _ hq hb1
      obtain ⟨fn, tmps, assign, body, hy, hR⟩ := hN q W1 hq1 hb
      have hne := fault_ne l q
      unfold signA at hy
      rw [if_pos hb] at hy
      clear hJ1 hJ2 hJ3 hY hN hs hb hq hq1 h0
      generalize faultN l q = z at *
      gi_wp2
      refine hR.mono ?_
      rintro e W3 ⟨rfl, hx⟩
      gi_wp2
      refine bodyPost_ret (results_none rfl _ _ _) rfl ?_
      exact ⟨⟨_, rfl⟩, hx⟩
    · rw [sign_yes (l := l) (p := q) (c := (begL (l.drop q)).1) (n := (begL (l.drop q)).2) rfl hb] at hs
      have hle := beg_le (l.drop q)
      rw [List.length_drop, hlen] at hle
      gi_wp2_with fail
      refine ⟨trivial, hs.mono ?_⟩
      rintro e W1 ⟨rfl, hb1⟩
      have hq1 := hJ1 _ _ _ _ hq hb1
      obtain ⟨fn, tmps, assign, body, hy, hR⟩ := hY q W1 hq1 hb
      unfold signA at hy
      rw [if_neg hb] at hy
      have hlt : q + (begL (l.drop q)).2 ≤ m := by omega
      have hpos : q < q + (begL (l.drop q)).2 := by omega
      have HJ := Lib.hid (show ∀ W', J (q + (begL (l.drop q)).2) q W' → W'.cell? ⟨Bo, 0, none⟩ = some (.int .i64 (q : Nat)) ∧ W'.frozen? ⟨Bo, 0, none⟩ = false ∧ J (q + (begL (l.drop q)).2) (q + (begL (l.drop q)).2) (W'.setCell ⟨Bo, 0, none⟩ (.int .i64 ((q + (begL (l.drop q)).2 : Nat) : Int))) from
        fun W' h => ⟨(hJ3 _ _ _ h).2.1, (hJ3 _ _ _ h).2.2.1, hJ2 _ _ _ _ h⟩)
      clear hJ1 hJ2 hJ3 hY hN hs hq hq1 h0 hb hle
      generalize q + (begL (l.drop q)).2 = r at *
      generalize (((begL (l.drop q)).1 : Nat) : Int) = c at *
      gi_wp2
      refine hR.mono ?_
      rintro e W3 ⟨rfl, hx⟩
      obtain ⟨x1, x2, x3⟩ := HJ.out W3 hx
      have hm' := Lib.hid (And.intro hlt hpos)
      have Hd2 := Lib.hid d2
      clear hx HJ hb1 hlt hpos htab hesc hl hqm d1 d2 d3 hy hR
      gi_wp2
      go_roundw
      case rel => exact ⟨r, x3⟩
      case measure =>
        have h2 := hm'.out
        have h3 := Hd2.out
        rw [cell_set x1, h3]
        simp [intOf]
        omega
end Go.Proofs.YtgnialemiefeeaaDoor
