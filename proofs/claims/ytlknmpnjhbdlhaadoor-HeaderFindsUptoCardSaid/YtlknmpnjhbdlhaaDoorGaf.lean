import Derived.Test.YtlknmpnjhbdlhaaDoorGae
import Derived.BigRegion
import Derived.BigQuiet
import Derived.Deep.QuietTactic
import Derived.Test.YtlknmpnjhbdlhaaDoorChecked
import Derived.Test.YtlknmpnjhbdlhaaDoorGaa
import Derived.RangeFuncNested
import Derived.RangeFuncBound
import Derived.RangeFuncCalls
import Derived.RangeFuncLeaves
import Derived.Shelf.Abstract
import Derived.Shelf.RegionOpen
import Derived.WalkKit
import Derived.OwnWalkIn
import Derived.TacticsInMore
import Derived.LoopNIn
import Derived.LoopIn
import Derived.Stop.RegionWithIn
import Derived.Deep.DeepCutAuto
import Derived.Lib.Hide
import Derived.RangeFuncBox
/-
  Layer 11: the writer.
-/
namespace Go.Proofs.YtlknmpnjhbdlhaaDoor
open Go.RowKit
set_option linter.unusedVariables false

/-- The writer in block b: it began at s and has put l. -/
def Wt (w : World) (b s : Nat) (l : List UInt8) : Prop :=
  ∃ A c, w.cell? ⟨b, 0, none⟩ = some (.int .i64 (s : Nat)) ∧ w.cell? ⟨b, 1, none⟩ = some (.slice A l.length c) ∧ w.frozen? ⟨b, 1, none⟩ = false ∧ w.ownsRow (b + 1) 5 1 (.slice A l.length c) l.length (l.map bv)
theorem Wt.lt {w : World} {b s : Nat} {l : List UInt8} (h : Wt w b s l) : b < w.heap.size := by
  obtain ⟨A, c, _, h, _⟩ := h
  exact World.block_lt_of_cell? w _ h
theorem Wt.later {w w' : World} {b s : Nat} {l : List UInt8} (h : Wt w b s l) (hb : Below w.heap.size w w') : Wt w' b s l := by
  obtain ⟨A, c, h0, h1, h2, h3⟩ := h
  exact ⟨A, c, kept_later hb h0, kept_later hb h1, froz_later hb h1 h2, own_below h3 hb⟩
theorem Wt.drewN {w : World} {b s : Nat} {l : List UInt8} (h : Wt w b s l) (k : Nat) : Wt (w.drewN k) b s l := h

set_option maxRecDepth 20000 in
theorem end_any (b s : Nat) (l : List UInt8) (w : World) (hw : Wt w b s l) (hl : s + l.length ≤ 2000000) :
    Calls Tryd.prog 64 #[.pointer (some ⟨b, 0, none⟩)] w fun e w' => e = .returned (.int .i64 ((s + l.length : Nat) : Int)) ∧ ∃ k, w' = w.drewN k := by
  obtain ⟨A, c, h0, h1, -, -⟩ := hw
  have hs : IntKind.i64.wrap ((s : Int) + (l.length : Int)) = ((s + l.length : Nat) : Int) := by rw [IntKind.wrap_i64]; omega
  have hs2 : wrap64 ((s : Int) + (l.length : Int)) = ((s + l.length : Nat) : Int) := by unfold wrap64; omega
  clear hl
  go_enter Tryd.func64, Tryd.ntmps64
  go_wp2
  go_quiet (fail)
  go_wp2
  go_ret
  exact ⟨rfl, _, rfl⟩
theorem wt_done {w w2 : World} {b s n : Nat} {l : List UInt8} {x : UInt8} {o : Obj} {A A2 : Option Addr} {c c2 : Nat} (hn : n = l.length) (hbs : b < w.heap.size)
    (h0 : w.cell? ⟨b, 0, none⟩ = some (.int .i64 (s : Nat))) (hb2 : Below (b + 1) (w.alloc o) w2) (hc2 : w2.cell? ⟨b, 1, none⟩ = some (.slice A n c)) (hf2 : w2.frozen? ⟨b, 1, none⟩ = false) (hown2 : w2.ownsRow (b + 1) 5 1 (.slice A2 (n + 1) c2) (n + 1) (l.map bv ++ [bv x])) :
    Wt (w2.setCell ⟨b, 1, none⟩ (.slice A2 (n + 1) c2)) b s (l ++ [x]) ∧ Below b w (w2.setCell ⟨b, 1, none⟩ (.slice A2 (n + 1) c2)) := by
  have h1 : Below (b + 1) w w2 := ((Below.refl (b + 1) w).alloc (by exact hbs) o).trans hb2
  subst hn
  refine ⟨⟨A2, c2, ?_, ?_, (frozen_set _ _ _ _).trans hf2, ?_⟩, (h1.mono (Nat.le_succ b)).setCell (Nat.le_refl b) _⟩
  · refine (World.cell?_setCell_other _ _ _ _ (fun q => by injection q with _ q; omega)).trans ?_
    exact (h1.cell (p := ⟨b, 0, none⟩) (by show b < b + 1; omega)).trans h0
  · rw [List.length_append]; exact cell_set hc2 _
  · rw [List.length_append, List.map_append]
    exact ownsRow_setCell_below hown2 (by show b < b + 1; omega) _
set_option maxRecDepth 20000 in
set_option maxHeartbeats 1000000 in
theorem put_any (b s : Nat) (l : List UInt8) (x : UInt8) (w : World) (hw : Wt w b s l) (hl : l.length ≤ 100000) :
    Calls Tryd.prog 65 #[.pointer (some ⟨b, 0, none⟩), .int .u8 (x.toNat : Int)] w fun e w' => e = .returned (.tuple #[]) ∧ Wt w' b s (l ++ [x]) ∧ Below b w w' := by
  have hbs := hw.lt
  obtain ⟨A, c, h0, hc, hf, hown⟩ := hw
  have H0 := Lib.hid h0
  obtain ⟨i0, hi, hz0, hz1, hz2⟩ := u8_info
  have hbs' : b + 1 ≤ (w.alloc (.cells #[.int .u8 (x.toNat : Int)] 5)).heap.size := by simp; omega
  have hnew := bytes_new w [x] #[.int .u8 (x.toNat : Int)] 5 (0, 0) rfl
  obtain ⟨n, hn⟩ : ∃ n, n = l.length := ⟨_, rfl⟩
  rw [← hn] at hc hown hl
  have Hn := Lib.hid hn
  clear hn h0
  go_enter Tryd.func65, Tryd.ntmps65
  go_wp2_with (first
    | (at_builtin; go_must (refine wpList_append_shows _ rfl _ _ _ rfl (b + 1) 5 i0 (.int .u8 0) 1 1 Tryd.underlying34 hi hz0 hz1 hz2 rfl (by decide) _ _ _ rfl (hown.alloc _) (w.heap.size + 1) _ _ _ ([x].map bv) rfl hnew (bv_one _) ?c3 ?c4 ?c5 ?_)))
  case c3 => unfold maxLen; simp; omega
  case c4 => simp; omega
  case c5 => exact hbs'
  intro A2 c2 w2 hown2 _ hb2
  have hc2 : w2.cell? ⟨b, 1, none⟩ = some (.slice A n c) := (hb2.cell (p := ⟨b, 1, none⟩) (by show b < b + 1; omega)).trans (cell_keep hc _)
  have hf2 : w2.frozen? ⟨b, 1, none⟩ = false := (hb2.frozen (p := ⟨b, 1, none⟩) (by show b < b + 1; omega)).trans ((frozen_keep hc _).trans hf)
  have hd := Lib.hid (wt_done Hn.out hbs H0.out hb2 hc2 hf2 hown2)
  go_wp2
  go_end0
  exact ⟨rfl, hd.out⟩
/-- A mark, where a block begins. -/
def markL (s : Nat) (l : List UInt8) : List UInt8 := if (s + l.length) % 64 = 0 then l ++ [0] else l
set_option maxRecDepth 20000 in
set_option maxHeartbeats 1000000 in
theorem mark_any (b s : Nat) (l : List UInt8) (w : World) (hw : Wt w b s l) (hl : s + l.length ≤ 2000000) (hl2 : l.length ≤ 100000) :
    Calls Tryd.prog 66 #[.pointer (some ⟨b, 0, none⟩)] w fun e w' => e = .returned (.tuple #[]) ∧ Wt w' b s (markL s l) ∧ Below b w w' := by
  by_cases h : (s + l.length) % 64 = 0
  · rw [show markL s l = l ++ [0] from if_pos h]
    have hend := end_any b s l w hw hl
    have hput := fun k => put_any b s l 0 (w.drewN k) (hw.drewN k) hl2
    have h1 : (((s + l.length : Nat) : Int) % 64 == 0) = true := by rw [beq_iff_eq]; omega
    generalize s + l.length = m at *
    go_enter Tryd.func66, Tryd.ntmps66
    go_wp2_with fail
    refine hend.mono ?_
    rintro e w' ⟨rfl, k, rfl⟩
    go_wp2_with fail
    refine (hput k).mono ?_
    rintro e w2 ⟨rfl, h2, hb⟩
    go_wp2
    go_end0
    exact ⟨rfl, h2, below_undrewN hb⟩
  · rw [show markL s l = l from if_neg h]
    have hend := end_any b s l w hw hl
    have hw2 := fun k => hw.drewN k
    have h1 : (((s + l.length : Nat) : Int) % 64 == 0) = false := by rw [beq_eq_false_iff_ne]; omega
    generalize s + l.length = m at *
    go_enter Tryd.func66, Tryd.ntmps66
    go_wp2_with fail
    refine hend.mono ?_
    rintro e w' ⟨rfl, k, rfl⟩
    go_wp2
    go_end0
    exact ⟨rfl, hw2 k, below_drewN (Below.refl _ _) k⟩
theorem lay_one (s : Nat) (l : List UInt8) (x : UInt8) : markL s l ++ [x] = l ++ Fra.layP (s + l.length) [x] := by
  unfold markL
  split
  · rename_i h; rw [Fra.layP_at x [] h, Fra.layP_nil, List.append_assoc]; rfl
  · rename_i h; rw [Fra.layP_in x [] h, Fra.layP_nil]
theorem mark_len (s : Nat) (l : List UInt8) : (markL s l).length ≤ l.length + 1 := by unfold markL; split <;> simp
set_option maxRecDepth 20000 in
set_option maxHeartbeats 1000000 in
theorem wdata_any (b s : Nat) (l : List UInt8) (x : UInt8) (w : World) (hw : Wt w b s l) (hl : s + l.length ≤ 2000000) (hl2 : l.length ≤ 90000) :
    Calls Tryd.prog 67 #[.pointer (some ⟨b, 0, none⟩), .int .u8 (x.toNat : Int)] w fun e w' => e = .returned (.tuple #[]) ∧ Wt w' b s (l ++ Fra.layP (s + l.length) [x]) ∧ Below b w w' := by
  rw [← lay_one]
  have hm := mark_any b s l w hw hl (by omega)
  have hml := mark_len s l
  have hput := fun w' (h : Wt w' b s (markL s l)) => put_any b s (markL s l) x w' h (by omega)
  generalize markL s l = m at *
  have Hput := Lib.hid hput
  clear hput hml hl hl2 hw
  go_enter Tryd.func67, Tryd.ntmps67
  go_wp2_with fail
  refine hm.mono ?_
  rintro e w1 ⟨rfl, h1, hb1⟩
  go_wp2_with fail
  refine (Hput.out w1 h1).mono ?_
  rintro e w2 ⟨rfl, h2, hb2⟩
  go_wp2
  go_end0
  exact ⟨rfl, h2, hb1.trans hb2⟩
end Go.Proofs.YtlknmpnjhbdlhaaDoor
/-
  Layer 10: the iterator over a file's pieces.
-/
namespace Go.Proofs.YtlknmpnjhbdlhaaDoor
open Go.RowKit Go.Shelf
attribute [local go_sem] Oper.semAt_some
set_option linter.unusedVariables false

theorem pieces_any (fA : Option Addr) (fn fc : Nat) (lA : Option Addr) (ln lc : Nat) (u v : Int) (b : Bool) (w : World) : Calls Tryd.prog 62 #[.agg #[.slice fA fn fc, .slice lA ln lc, .int .i64 u, .int .i64 v, .bool b]] w fun e w' =>
    e = .returned (.func (.func 76) #[] #[.pointer (some ⟨w.heap.size, 0, none⟩)]) ∧ w.alloc (.cells #[.slice fA fn fc, .slice lA ln lc, .int .i64 u, .int .i64 v, .bool b] 37) = w' := by
  go_enter Tryd.func62, Tryd.ntmps62
  go_wp2
  go_ret
  exact ⟨rfl, rfl⟩
/-- All of a file's rows, the firm one first. -/
def FileT.Q (X : FileT) : List PcT := X.F :: X.L
set_option maxRecDepth 100000 in
set_option maxHeartbeats 2000000 in
theorem pieces1_in (n : Nat) (hn : 1 ≤ n) (l Bf B : Nat) (X : FileT) (J : Nat → World → Prop) (Jx : World → Prop) (W : World) (hln : X.ln ≤ maxLen)
    (hR : ∀ k W, J k W → W.cell? ⟨Bf, 0, none⟩ = some (.slice X.F.A X.F.n X.F.c) ∧ W.cell? ⟨Bf, 1, none⟩ = some (.slice X.lA X.ln X.lc) ∧ Shows W B 1 X.lA X.ln (X.L.map PcT.val))
    (hY : ∀ k p W, J k W → X.Q[k]? = some p → YieldAt Fence.wide (n - 1) Tryd.prog l #[.int .i64 ((sumN (X.Q.take k) : Nat) : Int), .slice p.A p.n p.c] W fun e W' =>
      (e = .returned (.bool true) ∧ J (k + 1) W' ∧ sumN (X.Q.take (k + 1)) ≤ 524288) ∨ (e = .returned (.bool false) ∧ Jx W'))
    (h0 : J 0 W) :
    CallsIn Fence.wide n Tryd.prog 76 #[.func (.yield l) #[] #[], .pointer (some ⟨Bf, 0, none⟩)] W fun e W' => (∃ v, e = .returned v) ∧ (J (X.ln + 1) W' ∨ Jx W') := by
  unfold maxLen at hln
  obtain ⟨f0, -, -⟩ := hR 0 W h0
  obtain ⟨fn, tmps, assign, body, hy, hR0⟩ := hY 0 X.F W h0 rfl
  have hs0 : sumN (X.Q.take 0) = 0 := rfl
  rw [hs0, show ((0 : Nat) : Int) = 0 from rfl] at hy
  clear hs0
  refine callsIn_of_wp Tryd.func76 rfl trivial ?_ rfl
  simp only [Tryd.ntmps76, List.size_toArray, List.length_cons, List.length_nil, Nat.reduceAdd, Nat.reduceSub, Array.replicate_succ, Array.replicate_zero, List.push_toArray, List.append_toArray, List.nil_append, List.cons_append]
  gi_wp2
  refine hR0.mono ?_
  rintro e W3 (⟨rfl, hJ, hbd⟩ | ⟨rfl, hJx⟩)
  rotate_left
  · clear hR hY hR0 hy
    gi_wp2
    refine bodyPost_ret (results_none rfl _ _ _) rfl ?_
    exact ⟨⟨_, rfl⟩, .inr hJx⟩
  · obtain ⟨g0, g1, -⟩ := hR 1 W3 hJ
    clear hR0 hy f0
    have hs1 : (X.F.n : Int) = ((sumN (X.Q.take 1) : Nat) : Int) := by
      have : sumN (X.Q.take 1) = X.F.n := by unfold FileT.Q sumN; simp
      rw [this]
    gi_wp2
    gi_loopw [3, 17] (fun a t wr => ∃ j m : Nat, j ≤ X.ln ∧ t = .int .i64 j ∧ a = .int .i64 m ∧ Hid (m = sumN (X.Q.take (j + 1))) ∧ m ≤ 524288 ∧ J (j + 1) wr) (fun _ t _ => X.ln - (intOf t).toNat)
    case atStart => exact ⟨0, X.F.n, Nat.zero_le _, rfl, rfl, Lib.hid (by unfold FileT.Q sumN; simp), by unfold FileT.Q sumN at hbd; simpa using hbd, hJ⟩
    case round =>
      obtain ⟨j, m, hj, rfl, rfl, HM, hm, hJ2⟩ := hrel
      rename World => wr
      obtain ⟨-, -, hS⟩ := hR (j + 1) wr hJ2
      clear hs1 g0 g1 hJ hbd
      by_cases hlt : j < X.ln
      · obtain ⟨b, off, p, hA, _, hp, hc⟩ := pc_at hS hlt
        obtain ⟨fn, tmps, assign, body, hy, hR0⟩ := hY (j + 1) p wr hJ2 (by unfold FileT.Q; rw [List.getElem?_cons_succ]; exact hp)
        have HN := Lib.hid (show sumN (X.Q.take (j + 1 + 1)) = m + p.n by
          rw [HM.out]
          have hq : X.Q[j + 1]? = some p := by unfold FileT.Q; rw [List.getElem?_cons_succ]; exact hp
          unfold sumN
          rw [List.take_add_one, hq]
          simp)
        rw [← HM.out] at hy
        have hlt' : (j : Int) < X.ln := by omega
        rw [hA]
        clear hS hp
        gi_wp2
        refine hR0.mono ?_
        rintro e W4 (⟨rfl, hJ3, hb3⟩ | ⟨rfl, hJx⟩)
        · rw [HN.out] at hb3
          have hsum : IntKind.i64.wrap ((m : Int) + p.n) = ((m + p.n : Nat) : Int) := by rw [IntKind.wrap_i64]; omega
          have hsu2 : wrap64 ((m : Int) + p.n) = ((m + p.n : Nat) : Int) := by unfold wrap64; omega
          clear hR hY hR0 hy hc hJ2
          gi_wp2
          go_roundw
          case rel => exact ⟨j + 1, m + p.n, by omega, by go_num, by first | rfl | go_num, Lib.hid HN.out.symm, hb3, hJ3⟩
          case measure => simp [intOf]; omega
        · clear hR hY hR0 hy hc hJ2
          gi_wp2
          refine bodyPost_ret (results_none rfl _ _ _) rfl ?_
          exact ⟨⟨_, rfl⟩, .inr hJx⟩
      · obtain rfl : j = X.ln := by omega
        gi_wp2
        go_end0
        exact ⟨⟨_, rfl⟩, .inl hJ2⟩
end Go.Proofs.YtlknmpnjhbdlhaaDoor
/-
  Slices of whole numbers. No program in sight.
-/
namespace Go.Proofs.YtlknmpnjhbdlhaaDoor
open Go.RowKit

/-- A whole number as a cell holds it. -/
def iv (x : Int) : Value := .int .i64 x
def nats (l : List Nat) : List Int := l.map fun (c : Nat) => (c : Int)
theorem nats_len (l : List Nat) : (nats l).length = l.length := by simp [nats]
theorem nats_snoc (l : List Nat) (c : Nat) : nats (l ++ [c]) = nats l ++ [(c : Int)] := by simp [nats]
theorem nats_inj : ∀ {l m : List Nat}, nats l = nats m → l = m
  | [], [], _ => rfl
  | [], _ :: _, h => by simp [nats] at h
  | _ :: _, [], h => by simp [nats] at h
  | a :: l, b :: m, h => by
    simp only [nats, List.map_cons, List.cons.injEq] at h
    obtain ⟨h1, h2⟩ := h
    rw [show a = b by omega, nats_inj (l := l) (m := m) h2]
theorem iv_one (l : List Int) : ∀ u ∈ l.map iv, u.oneCell' = true := by
  intro u hu
  obtain ⟨x, _, rfl⟩ := List.mem_map.1 hu
  rfl
def Ints (w : World) (B : Nat) (A : Option Addr) (n : Nat) (l : List Int) : Prop := Shows w B 1 A n (l.map iv)
section
variable {w w' : World} {B B' n : Nat} {A : Option Addr} {l : List Int}
theorem Ints.len (h : Ints w B A n l) : l.length = n := by have := h.1; simpa using this
theorem Ints.more (h : Ints w B A n l) (hB : B ≤ B') : Ints w B' A n l := Shows.more h hB
theorem Ints.below (h : Ints w B A n l) (hb : Below B w w') : Ints w' B A n l := Shows.below h hb
theorem Ints.drewN (h : Ints w B A n l) (k : Nat) : Ints (w.drewN k) B A n l := h
theorem Ints.drew (h : Ints w B A n l) : Ints w.drew B A n l := h
theorem Ints.alloc (h : Ints w B A n l) (hB : B ≤ w.heap.size) (o : Obj) : Ints (w.alloc o) B A n l := Shows.alloc h hB o
theorem Ints.first (h : Ints w B A n l) {k : Nat} (hk : k ≤ n) : Ints w B A k (l.take k) := by
  have := Shows.first h hk
  unfold Ints
  simpa [List.map_take] using this
theorem Ints.cell (h : Ints w B A n l) {k : Nat} (hk : k < n) : ∃ b off, A = some ⟨b, off, none⟩ ∧ b < B ∧ w.cell? ⟨b, off + k, none⟩ = some (.int .i64 (l.getD k 0)) := by
  obtain ⟨b, off, e, hb, hc⟩ := h.2 (by omega)
  refine ⟨b, off, e, hb, hc k _ ?_⟩
  have hl := h.len
  rw [List.getElem?_map, List.getElem?_eq_getElem (by omega), List.getD_eq_getElem?_getD, List.getElem?_eq_getElem (by omega)]
  rfl
theorem Ints.own {base : Nat} {e : TypeId} {c : Nat} (h : w.ownsRow base e 1 (.slice A n c) n (l.map iv)) : Ints w w.heap.size A n l := Shows.own h
theorem Ints.zero (A : Option Addr) : Ints w B A 0 [] := Shows.zero A
end
theorem ints_new (w : World) (l : List Int) (C : Array Value) (t : TypeId) (fr : Nat × Nat) (hC : C.toList = l.map iv) : Ints (w.alloc (.cells C t fr)) (w.heap.size + 1) (some ⟨w.heap.size, 0, none⟩) l.length l :=
  ⟨by simp, fun _ => ⟨w.heap.size, 0, rfl, by omega, fun j u hu => by
    rw [cell_of_row _ _ _ _ _ _ (heap_alloc_new w _), Nat.zero_add]
    rw [← hC] at hu
    simpa using hu⟩⟩
theorem takeI_snoc (l : List Int) (k : Nat) (h : k < l.length) : l.take (k + 1) = l.take k ++ [l.getD k 0] := by
  rw [List.take_succ_eq_append_getElem h, List.getD_eq_getElem?_getD, List.getElem?_eq_getElem h]
  rfl
theorem boxed_below {W W' : World} {B : Nat} {t : TypeId} {v : Value} (h : Boxed W B t v) (hb : Below W.heap.size W W') : Boxed W' B t v := (hb.block B h.lt).trans h
end Go.Proofs.YtlknmpnjhbdlhaaDoor
/-
  A range over a function whose iterator writes a variable of its own: the statement opened into the iterator's one call, and a round into the body's walk; what the iterator may touch is the caller's to say. No program in sight.
-/
namespace Go.Proofs.YtlknmpnjhbdlhaaDoor
open Go.RowKit Go.Shelf

variable {F : Fence} {n : Nat} {P : Program}

/-- The record that the statement lays. -/
def recOf (fn : FuncId) (tmps : Array Value) (ps : Array Tmp) (assign body : Code) (D : Nat) (st : LoopState) (pe : Option Code) : Loop :=
  { state := st, pending := pe, fn := fn, tmps := tmps, params := ps, assign := assign, body := body, defers := D }
/-- What follows the iterator's return, by the jump that waits. -/
def goesOn (F : Fence) (n : Nat) (P : Program) (Q : Exit → Act → World → Prop) (a : Act) (W : World) : Option Code → Prop
  | none => Q .normal a W
  | some c => c.wpIn F n P Q a W

theorem range_open {g : Operand} {ps : Array Tmp} {assign body : Code} {Q : Exit → Act → World → Prop} {a : Act} {w : World} {gf : Nat} {lb : Array Value}
    (hro : F.round = none) (h1 : 1 ≤ n) (hg : a.eval g = .func (.func gf) #[] lb) (hFg : F.fn gf) (eg : ∀ args w, (callFunc gf args).run P w = .ok (.enter gf args) w)
    (hcall : ∀ fn, F.fn fn → CallsIn F (n - 1) P gf (#[.func (.yield (w.heap.size + 1)) #[] #[]] ++ lb) ((w.alloc (.deferred (some []))).alloc (.loop (recOf fn a.tmps ps assign body w.heap.size .ready none)))
      fun e B => (∃ v, e = .returned v) ∧ ∃ st pe, B.heap[w.heap.size + 1]? = some (.loop (recOf fn a.tmps ps assign body w.heap.size st pe)) ∧ st ≠ .busy ∧
        goesOn F n P Q { a with defers := { target := .collected w.heap.size, args := #[] } :: a.defers } (B.putObj (w.heap.size + 1) (.loop (recOf fn a.tmps ps assign body w.heap.size .exhausted pe))) pe) :
    (Code.rangeFunc g ps assign body).wpIn F n P Q a w := by
  refine wpIn_rangeFunc fun fn hfn => ?_
  rw [hro]
  refine ⟨_, _, _, { target := .fn (.func gf) lb, args := #[.func (.yield (w.heap.size + 1)) #[] #[]] }, (w.alloc (.deferred (some []))).alloc (.loop (recOf fn a.tmps ps assign body w.heap.size .ready none)), gf, _, _, run_enterLoop_outer fn a.tmps ps assign body, ?_, ?_, ?_, fun _ => h1, (hcall fn hfn).mono ?_⟩
  · simp only [resolve, hg]
    simp [go_sem, recOf]
  · intro f' hf'
    simp [Target.leads] at hf'
    subst hf'
    exact hFg
  · simp [invoke, go_sem, eg]
  · rintro e B ⟨⟨v, rfl⟩, st, pe, hl, hb, hgo⟩
    refine ⟨pe, _, run_endLoop hl hb, ?_⟩
    cases pe <;> exact hgo

/-- How a round may be left, and what then holds. -/
def roundEnd (l : Nat) (r : Option Code → LoopState → Loop) (R : Ending → World → Prop) : Exit → Act → World → Prop
  | .normal, _, W => W.heap[l]? = some (.loop (r none .busy)) ∧ R (.returned (.bool true)) (W.putObj l (.loop (r none .ready)))
  | .exit id, _, W => W.heap[l]? = some (.loop (r none .busy)) ∧ R (.returned (.bool false)) (W.putObj l (.loop (r (some (.exit id)) .done)))
  | _, _, _ => False
theorem round_open {m l : Nat} {fn : FuncId} {tmps : Array Value} {ps : Array Tmp} {assign body : Code} {D : Nat} {args : Array Value} {W : World} {R : Ending → World → Prop} (hF : F.fn fn)
    (hl : W.heap[l]? = some (.loop (recOf fn tmps ps assign body D .ready none))) (hs : args.size = ps.size)
    (h : assign.wpIn (F.inRound l) m P (Exit.then (fun a' W2 => W2.heap[l]? = some (.loop (recOf fn tmps ps assign body D .ready none)) ∧
        body.wpIn (F.inRound l) m P (roundEnd l (fun pe st => recOf fn tmps ps assign body D st pe) R) a' (W2.putObj l (.loop (recOf fn tmps ps assign body D .busy none)))) (fun _ _ _ => False))
      { tmps := (ps.zip args).foldl (fun t (p, v) => t.setIfInBounds p v) tmps, defers := [] } W) :
    YieldAt F m P l args W R := by
  refine ⟨fn, _, assign, body, run_yield hl hs, roundIn_of_wpIn hF (wpIn_mono h ?_)⟩
  intro e a' W2 he
  cases e with
  | normal =>
    obtain ⟨h2, hb⟩ := he
    refine ⟨_, run_beginRound h2 rfl, wpIn_mono hb ?_⟩
    intro e3 a3 W3 h3
    cases e3 with
    | normal => exact ⟨_, _, run_endRound none h3.1, h3.2⟩
    | exit id => exact ⟨_, _, run_endRound (some (.exit id)) h3.1, h3.2⟩
    | ret => exact h3.elim
    | goto t => exact h3.elim
    | panic ch => exact h3.elim
    | outgrown => exact h3.elim
  | ret => exact he.elim
  | exit id => exact he.elim
  | goto t => exact he.elim
  | panic ch => exact he.elim
  | outgrown => exact he.elim
end Go.Proofs.YtlknmpnjhbdlhaaDoor
/-
  A range over a function whose body may return: a round opened, as in Rf, with that way out too. No program in sight.
-/
namespace Go.Proofs.YtlknmpnjhbdlhaaDoor
open Go.RowKit Go.Shelf

variable {F : Fence} {n : Nat} {P : Program}

/-- How a round may be left, and what then holds. -/
def roundEndR (l : Nat) (r : Option Code → LoopState → Loop) (R : Ending → World → Prop) : Exit → Act → World → Prop
  | .normal, _, W => W.heap[l]? = some (.loop (r none .busy)) ∧ R (.returned (.bool true)) (W.putObj l (.loop (r none .ready)))
  | .exit id, _, W => W.heap[l]? = some (.loop (r none .busy)) ∧ R (.returned (.bool false)) (W.putObj l (.loop (r (some (.exit id)) .done)))
  | .ret, _, W => W.heap[l]? = some (.loop (r none .busy)) ∧ R (.returned (.bool false)) (W.putObj l (.loop (r (some .ret) .done)))
  | _, _, _ => False
theorem round_openR {m l : Nat} {fn : FuncId} {tmps : Array Value} {ps : Array Tmp} {assign body : Code} {D : Nat} {args : Array Value} {W : World} {R : Ending → World → Prop} (hF : F.fn fn)
    (hl : W.heap[l]? = some (.loop (recOf fn tmps ps assign body D .ready none))) (hs : args.size = ps.size)
    (h : assign.wpIn (F.inRound l) m P (Exit.then (fun a' W2 => W2.heap[l]? = some (.loop (recOf fn tmps ps assign body D .ready none)) ∧
        body.wpIn (F.inRound l) m P (roundEndR l (fun pe st => recOf fn tmps ps assign body D st pe) R) a' (W2.putObj l (.loop (recOf fn tmps ps assign body D .busy none)))) (fun _ _ _ => False))
      { tmps := (ps.zip args).foldl (fun t (p, v) => t.setIfInBounds p v) tmps, defers := [] } W) :
    YieldAt F m P l args W R := by
  refine ⟨fn, _, assign, body, run_yield hl hs, roundIn_of_wpIn hF (wpIn_mono h ?_)⟩
  intro e a' W2 he
  cases e with
  | normal =>
    obtain ⟨h2, hb⟩ := he
    refine ⟨_, run_beginRound h2 rfl, wpIn_mono hb ?_⟩
    intro e3 a3 W3 h3
    cases e3 with
    | normal => exact ⟨_, _, run_endRound none h3.1, h3.2⟩
    | exit id => exact ⟨_, _, run_endRound (some (.exit id)) h3.1, h3.2⟩
    | ret => exact ⟨_, _, run_endRound (some .ret) h3.1, h3.2⟩
    | goto t => exact h3.elim
    | panic ch => exact h3.elim
    | outgrown => exact h3.elim
  | ret => exact he.elim
  | exit id => exact he.elim
  | goto t => exact he.elim
  | panic ch => exact he.elim
  | outgrown => exact he.elim
end Go.Proofs.YtlknmpnjhbdlhaaDoor
/-
  Layer 10: how long a file is.
-/
namespace Go.Proofs.YtlknmpnjhbdlhaaDoor
open Go.RowKit Go.Shelf
attribute [local go_sem] Oper.semAt_some
set_option linter.unusedVariables false

theorem lenGo_drop : ∀ (j : Nat) (L : List PcT) (n : Nat), n + sumN (L.take j) ≤ 524288 → lenGo L n = lenGo (L.drop j) (n + sumN (L.take j))
  | 0, L, n, h => by simp [sumN]
  | j + 1, [], n, h => by simp [sumN]
  | j + 1, p :: L, n, h => by
    have e : sumN ((p :: L).take (j + 1)) = p.n + sumN (L.take j) := by simp [sumN]
    rw [e] at h ⊢
    rw [List.drop_succ_cons, show lenGo (p :: L) n = lenGo L (n + p.n) by rw [lenGo, if_neg (by omega)], lenGo_drop j L (n + p.n) (by omega)]
    congr 1
    omega
theorem sumQ_succ {X : FileT} {k : Nat} {p : PcT} (h : X.Q[k]? = some p) : sumN (X.Q.take (k + 1)) = sumN (X.Q.take k) + p.n := by
  unfold sumN
  rw [List.take_add_one, h]
  simp
theorem long_over {X : FileT} {k : Nat} {p : PcT} (h : X.Q[k]? = some p) (h1 : sumN (X.Q.take k) ≤ 524288) (h2 : 524288 < sumN (X.Q.take k) + p.n) : X.long = sumN (X.Q.take k) + p.n := by
  unfold FileT.long
  cases k with
  | zero =>
    have : p = X.F := by unfold FileT.Q at h; simpa using h.symm
    subst this
    have e : sumN (X.Q.take 0) = 0 := rfl
    rw [e] at h2 ⊢
    rw [lenGo_over _ _ (by omega), Nat.zero_add]
  | succ j =>
    have hp : X.L[j]? = some p := by unfold FileT.Q at h; simpa using h
    have e : sumN (X.Q.take (j + 1)) = X.F.n + sumN (X.L.take j) := by unfold FileT.Q sumN; simp
    rw [e] at h1 h2 ⊢
    obtain ⟨hj, he⟩ := List.getElem?_eq_some_iff.1 hp
    rw [lenGo_drop j X.L X.F.n h1, List.drop_eq_getElem_cons hj, he, lenGo, if_neg (by omega), lenGo_over _ _ h2]
theorem long_all {X : FileT} {m : Nat} (hm : X.L.length = m) (h : sumN (X.Q.take (m + 1)) ≤ 524288) : X.long = sumN (X.Q.take (m + 1)) := by
  have e : sumN (X.Q.take (m + 1)) = X.F.n + sumN X.L := by
    unfold FileT.Q sumN
    rw [List.take_succ_cons, List.take_of_length_le (by omega)]
    simp
  rw [e] at h ⊢
  exact (lenGo_is X.L X.F.n).1 h
/-- The memory between two pieces: n blocks lay when length began. -/
structure LJ (n : Nat) (w : World) (X : FileT) (lp : Obj) (r e : Nat) (W : World) : Prop where
  b1 : Boxed W (n + 1) 3 (.int .i64 (r : Nat))
  b2 : Boxed W (n + 2) 3 (.int .i64 (e : Nat))
  f0 : W.cell? ⟨n + 3, 0, none⟩ = some (.slice X.F.A X.F.n X.F.c)
  f1 : W.cell? ⟨n + 3, 1, none⟩ = some (.slice X.lA X.ln X.lc)
  d : W.heap[n + 4]? = some (.deferred (some []))
  r : W.heap[n + 5]? = some lp
  bel : Below n w W
section
variable {n : Nat} {w : World} {X : FileT} {lp : Obj} {r e : Nat} {W W' : World}
theorem LJ.lt (h : LJ n w X lp r e W) : n + 5 < W.heap.size := (Array.getElem?_eq_some_iff.1 h.r).1
theorem LJ.turn (h : LJ n w X lp r e W) (hl : lp.isCells = false) (hw : lp.isWalk = false) (lp' : Obj) : LJ n w X lp' r e (W.putObj (n + 5) lp') := by
  have o : ∀ {k : Nat} {x : Obj}, W.heap[k]? = some x → k ≠ n + 5 → (W.putObj (n + 5) lp').heap[k]? = some x := fun hk hne => (World.putObj_heap_other hne).trans hk
  have c : ∀ {i : Nat} {x : Value}, W.cell? ⟨n + 3, i, none⟩ = some x → (W.putObj (n + 5) lp').cell? ⟨n + 3, i, none⟩ = some x := fun hk => (World.cell?_of_block (World.putObj_heap_other (by show n + 3 ≠ n + 5; omega))).trans hk
  have hlt := h.lt
  exact ⟨o h.b1 (by omega), o h.b2 (by omega), c h.f0, c h.f1, o h.d (by omega), World.putObj_heap_same hlt, h.bel.grown (grownBy_putObj' W (n + 5) lp') (by omega) (fun k e => by cases e; omega)⟩
theorem LJ.setE (h : LJ n w X lp r e W) (e' : Nat) : LJ n w X lp r e' (W.setCell ⟨n + 2, 0, none⟩ (.int .i64 (e' : Nat))) := by
  have f : ∀ {k : Nat} {o : Obj}, W.heap[k]? = some o → k ≠ n + 2 → (W.setCell ⟨n + 2, 0, none⟩ (.int .i64 (e' : Nat))).heap[k]? = some o := fun hX hne => (Below.heap_setCell W _ _ _ hne).trans hX
  have c : ∀ {i : Nat} {x : Value}, W.cell? ⟨n + 3, i, none⟩ = some x → (W.setCell ⟨n + 2, 0, none⟩ (.int .i64 (e' : Nat))).cell? ⟨n + 3, i, none⟩ = some x := fun hk => (World.cell?_of_block (Below.heap_setCell W _ _ _ (by show n + 3 ≠ n + 2; omega))).trans hk
  exact ⟨f h.b1 (by omega), Boxed.set _ h.b2, c h.f0, c h.f1, f h.d (by omega), f h.r (by omega), h.bel.setCell (by show n ≤ n + 2; omega) _⟩
theorem LJ.setR (h : LJ n w X lp r e W) (r' : Nat) : LJ n w X lp r' e (W.setCell ⟨n + 1, 0, none⟩ (.int .i64 (r' : Nat))) := by
  have f : ∀ {k : Nat} {o : Obj}, W.heap[k]? = some o → k ≠ n + 1 → (W.setCell ⟨n + 1, 0, none⟩ (.int .i64 (r' : Nat))).heap[k]? = some o := fun hX hne => (Below.heap_setCell W _ _ _ hne).trans hX
  have c : ∀ {i : Nat} {x : Value}, W.cell? ⟨n + 3, i, none⟩ = some x → (W.setCell ⟨n + 1, 0, none⟩ (.int .i64 (r' : Nat))).cell? ⟨n + 3, i, none⟩ = some x := fun hk => (World.cell?_of_block (Below.heap_setCell W _ _ _ (by show n + 3 ≠ n + 1; omega))).trans hk
  exact ⟨Boxed.set _ h.b1, f h.b2 (by omega), c h.f0, c h.f1, f h.d (by omega), f h.r (by omega), h.bel.setCell (by show n ≤ n + 1; omega) _⟩
end
set_option maxRecDepth 100000 in
set_option maxHeartbeats 4000000 in
theorem length_any (X : FileT) (B : Nat) (w : World) (hL : LieF w B X) (hB : B ≤ w.heap.size) (hN : ∀ p ∈ X.Q, p.n ≤ 1048576) :
    Calls Tryd.prog 45 #[X.agg] w fun e w' => e = .returned (.int .i64 (X.long : Nat)) ∧ Below w.heap.size w w' := by
  simp only [FileT.agg, PcT.val]
  refine (callsIn_wide (n := 6)).1 ?_
  refine callsIn_of_wp_marks Tryd.func45 rfl trivial ?_ rfl
  simp only [Tryd.ntmps45, List.size_toArray, List.length_cons, List.length_nil, Nat.reduceAdd, Nat.reduceSub, Array.replicate_succ, Array.replicate_zero, List.push_toArray, List.append_toArray, List.nil_append, List.cons_append]
  refine wpIn_wide.2 ?_
  go_wp2_with fail
  refine (pieces_any _ _ _ _ _ _ _ _ _ _).mono ?_
  rintro e W1 ⟨rfl, hW1⟩
  go_wp2
  refine (wpIn_wide (n := 6)).1 ?_
  refine range_open rfl (by omega) (gf := 76) (lb := #[.pointer (some ⟨w.heap.size + 1 + 1 + 1, 0, none⟩)]) rfl trivial (enters_of Tryd.func76 (by kernel_rfl) rfl) ?_
  have hsz : W1.heap.size = w.heap.size + 4 := by rw [← hW1]; simp
  have j1 : Boxed W1 (w.heap.size + 1) 3 (.int .i64 0) := by
    rw [← hW1]
    have h := Boxed.new (w.alloc (.cells #[.slice X.F.A X.F.n X.F.c, .slice X.lA X.ln X.lc, .int .i64 X.fuse, .int .i64 X.fault, .bool X.off] 37)) 3 (.int .i64 0)
    rw [World.size_alloc] at h
    exact (h.alloc _).alloc _
  have j2 : Boxed W1 (w.heap.size + 2) 3 (.int .i64 0) := by
    rw [← hW1]
    have h := Boxed.new ((w.alloc (.cells #[.slice X.F.A X.F.n X.F.c, .slice X.lA X.ln X.lc, .int .i64 X.fuse, .int .i64 X.fault, .bool X.off] 37)).alloc (.cells #[.int .i64 0] 3)) 3 (.int .i64 0)
    rw [World.size_alloc, World.size_alloc] at h
    exact h.alloc _
  have g0 : W1.cell? ⟨w.heap.size + 3, 0, none⟩ = some (.slice X.F.A X.F.n X.F.c) := by rw [← hW1]; simp [go_sem]
  have g1 : W1.cell? ⟨w.heap.size + 3, 1, none⟩ = some (.slice X.lA X.ln X.lc) := by rw [← hW1]; simp [go_sem]
  have hb1 : Below w.heap.size w W1 := by rw [← hW1]; exact bel_alloc (bel_alloc (bel_alloc (bel_alloc (Below.refl _ _) _) _) _) _
  clear hW1
  rw [hsz]
  intro fn hfn
  generalize hrec : recOf fn _ _ _ _ _ = rec
  have J0 : LJ w.heap.size w X (.loop (rec .ready none)) 0 0 ((W1.alloc (.deferred (some []))).alloc (.loop (rec .ready none))) := by
    refine ⟨(j1.alloc _).alloc _, (j2.alloc _).alloc _, cell_keep (cell_keep g0 _) _, cell_keep (cell_keep g1 _) _, ?_, ?_, bel_alloc (bel_alloc hb1 _) _⟩
    · have h := World.alloc_heap_new W1 (.deferred (some []))
      rw [hsz] at h
      exact (Below.heap_alloc _ _ _ (by simp [hsz])).trans h
    · have h := World.alloc_heap_new (W1.alloc (.deferred (some []))) (.loop (rec .ready none))
      rw [World.size_alloc, hsz] at h
      exact h
  have hcall := pieces1_in 5 (by omega) (w.heap.size + 5) (w.heap.size + 3) B X (fun k W => LJ w.heap.size w X (.loop (rec .ready none)) 0 (sumN (X.Q.take k)) W ∧ sumN (X.Q.take k) ≤ 524288) (fun W => ∃ e, LJ w.heap.size w X (.loop (rec .done (some .ret))) e e W ∧ X.long = e) _ (Nat.le_trans hL.fits hL.most)
    (fun k W h => ⟨h.1.f0, h.1.f1, hL.row.below (h.1.bel.mono hB)⟩) ?hY ⟨J0, by simp [sumN]⟩
  case hY =>
    rintro k p W ⟨hr, hbnd⟩ hp
    have hl5 := hr.r
    rw [← hrec] at hl5
    refine round_openR hfn hl5 rfl ?_
    simp only [hrec]
    have hpn := hN p (List.mem_of_getElem? hp)
    have HQ := Lib.hid (sumQ_succ hp)
    have HV := Lib.hid (long_over hp hbnd)
    generalize sumN (X.Q.take k) = m at *
    clear hl5 J0 j1 j2 g0 g1 hL hN hp
    gi_wp2
    refine ⟨hr.r, ?_⟩
    have hr3 := hr.turn rfl rfl (.loop (rec .busy none))
    generalize W.putObj (w.heap.size + 5) (.loop (rec .busy none)) = W3 at *
    have c1 : W3.cell? ⟨w.heap.size + 1, 0, none⟩ = some (.int .i64 0) := hr3.b1.cell
    have c1f : W3.frozen? ⟨w.heap.size + 1, 0, none⟩ = false := hr3.b1.frozen
    have c2 : W3.cell? ⟨w.heap.size + 1 + 1, 0, none⟩ = some (.int .i64 (m : Nat)) := hr3.b2.cell
    have c2f : W3.frozen? ⟨w.heap.size + 1 + 1, 0, none⟩ = false := hr3.b2.frozen
    have hr4 := hr3.setE (m + p.n)
    have hs1 : IntKind.i64.wrap ((m : Int) + (p.n : Int)) = (m : Int) + (p.n : Int) := by rw [IntKind.wrap_i64]; omega
    have hs2 : wrap64 ((m : Int) + (p.n : Int)) = (m : Int) + (p.n : Int) := by unfold wrap64; omega
    have hcast : ((m + p.n : Nat) : Int) = (m : Int) + (p.n : Int) := by omega
    by_cases ho : 524288 < m + p.n
    · have hgt : ((524288 : Int) < (m : Int) + (p.n : Int)) = True := by simp; omega
      have hr5 := hr4.setR (m + p.n)
      have HX := Lib.hid (HV.out ho)
      rw [hcast] at hr4 hr5
      clear ho hbnd hpn HQ HV hcast hr hr3
      gi_wp2
      exact ⟨hr5.r, .inr ⟨rfl, by rw [HX.out]; exact hr5.turn rfl rfl _⟩⟩
    · have hgt : ((524288 : Int) < (m : Int) + (p.n : Int)) = False := by simp; omega
      have hle : m + p.n ≤ 524288 := by omega
      have HL := Lib.hid hle
      rw [hcast] at hr4
      clear ho hbnd hpn HV hcast hr hr3 hle
      gi_wp2
      exact ⟨hr4.r, .inl ⟨rfl, by rw [HQ.out]; exact hr4.turn rfl rfl _, by rw [HQ.out]; exact HL.out⟩⟩
  refine hcall.mono ?_
  rintro e B1 ⟨hv, ⟨hr, hbd⟩ | ⟨m, hr, hlong⟩⟩
  · have HR := Lib.hid (long_all hL.len hbd)
    clear hcall J0 j1 j2 g0 g1 hrec hfn hb1 hL hN
    generalize sumN (X.Q.take (X.ln + 1)) = m at *
    refine ⟨hv, .ready, none, hr.r, by simp, ?_⟩
    have hr5 := hr.turn rfl rfl (.loop (rec .exhausted none))
    generalize B1.putObj (w.heap.size + 5) (.loop (rec .exhausted none)) = W5 at *
    have hr6 := hr5.setR m
    have hK := hr6.d
    have hbw := hr6.bel
    have c1 : W5.cell? ⟨w.heap.size + 1, 0, none⟩ = some (.int .i64 0) := hr5.b1.cell
    have c1f : W5.frozen? ⟨w.heap.size + 1, 0, none⟩ = false := hr5.b1.frozen
    have c2 : W5.cell? ⟨w.heap.size + 1 + 1, 0, none⟩ = some (.int .i64 (m : Nat)) := hr5.b2.cell
    have c9 : ((W5.setCell ⟨w.heap.size + 1, 0, none⟩ (.int .i64 (m : Nat))).putObj (w.heap.size + 4) (.deferred none)).cell? ⟨w.heap.size + 1, 0, none⟩ = some (.int .i64 (m : Nat)) := (World.cell?_of_block (World.putObj_heap_other (by show w.heap.size + 1 ≠ w.heap.size + 4; omega))).trans hr6.b1.cell
    have C9 := Lib.hid c9
    clear hr hv hbd hr5 hr6 c9
    unfold goesOn
    dsimp only
    go_wp2
    refine ⟨by simp, .inl ⟨_, _, rfl, run_takeDeferred hK, ?_⟩⟩
    refine ⟨_, ?_, by rw [HR.out], hbw.trans (belowK_b (w := w) (Nat.le_refl _) _ (w.heap.size + 4) _ _ (by omega) hK rfl rfl)⟩
    have c9 := C9.out
    clear C9 HR hbw hK
    simp [results, Tryd.results45, go_sem, *]
  · have HR := Lib.hid hlong
    clear hcall J0 j1 j2 g0 g1 hrec hfn hb1 hL hN
    refine ⟨hv, .done, _, hr.r, by simp, ?_⟩
    have hr5 := hr.turn rfl rfl (.loop (rec .exhausted (some .ret)))
    generalize B1.putObj (w.heap.size + 5) (.loop (rec .exhausted (some .ret))) = W5 at *
    have hK := hr5.d
    have hbw := hr5.bel
    have C9 := Lib.hid (show (W5.putObj (w.heap.size + 4) (.deferred none)).cell? ⟨w.heap.size + 1, 0, none⟩ = some (.int .i64 (m : Nat)) from (World.cell?_of_block (World.putObj_heap_other (by show w.heap.size + 1 ≠ w.heap.size + 4; omega))).trans hr5.b1.cell)
    clear hr hr5 hv hlong
    unfold goesOn
    refine wpIn_wide.2 ?_
    go_wp2
    refine ⟨by simp, .inl ⟨_, _, rfl, run_takeDeferred hK, ?_⟩⟩
    refine ⟨_, ?_, by rw [HR.out], hbw.trans (belowK_b (w := w) (Nat.le_refl _) _ (w.heap.size + 4) _ _ (by omega) hK rfl rfl)⟩
    have c9 := C9.out
    clear C9 HR hbw hK
    simp [results, Tryd.results45, go_sem, *]
end Go.Proofs.YtlknmpnjhbdlhaaDoor
/-
  Layer 10: the reference's Long; which files may be.
-/
namespace Go.Proofs.YtlknmpnjhbdlhaaDoor
open Go.RowKit
set_option linter.unusedVariables false

/-- A file in a box of its own. -/
def FBox (W : World) (g : Nat) (X : FileT) : Prop :=
  W.cell? ⟨g, 0, none⟩ = some (.slice X.F.A X.F.n X.F.c) ∧ W.cell? ⟨g, 1, none⟩ = some (.slice X.lA X.ln X.lc) ∧ W.cell? ⟨g, 2, none⟩ = some (.int .i64 X.fuse) ∧ W.cell? ⟨g, 3, none⟩ = some (.int .i64 X.fault) ∧ W.cell? ⟨g, 4, none⟩ = some (.bool X.off)
theorem FBox.later {W W' : World} {g : Nat} {X : FileT} (h : FBox W g X) (hb : Below W.heap.size W W') : FBox W' g X :=
  ⟨kept_later hb h.1, kept_later hb h.2.1, kept_later hb h.2.2.1, kept_later hb h.2.2.2.1, kept_later hb h.2.2.2.2⟩
theorem FBox.new (w : World) (X : FileT) (t : TypeId) : FBox (w.alloc (.cells #[.slice X.F.A X.F.n X.F.c, .slice X.lA X.ln X.lc, .int .i64 X.fuse, .int .i64 X.fault, .bool X.off] t)) w.heap.size X :=
  ⟨by simp [go_sem], by simp [go_sem], by simp [go_sem], by simp [go_sem], by simp [go_sem]⟩
set_option maxRecDepth 20000 in
set_option maxHeartbeats 2000000 in
theorem refLong_any (X : FileT) (B : Nat) (w : World) (hL : LieF w B X) (hB : B ≤ w.heap.size) (hN : ∀ p ∈ X.Q, p.n ≤ 1048576) :
    Calls Tryd.prog 21 #[X.agg] w fun e w' => e = .returned (.int .i64 (X.long : Nat)) ∧ Below w.heap.size w w' := by
  simp only [FileT.agg, PcT.val]
  have hb1 := bel_alloc (Below.refl w.heap.size w) (.cells #[.slice X.F.A X.F.n X.F.c, .slice X.lA X.ln X.lc, .int .i64 X.fuse, .int .i64 X.fault, .bool X.off] 37)
  have HX := Lib.hid (FBox.new w X 37)
  have hln := Nat.le_trans hL.fits hL.most
  unfold maxLen at hln
  have Hrow := Lib.hid (fun W (h : Below w.heap.size w W) => hL.row.below (h.mono hB))
  have HlL := Lib.hid hL.len
  have HNl := Lib.hid (fun p (hp : p ∈ X.L) => hN p (List.mem_cons_of_mem _ hp))
  have hF := hN X.F (List.mem_cons_self ..)
  have HG := Lib.hid (show lenGo (X.L.drop 0) X.F.n = X.long from rfl)
  clear hL hN
  go_enter Tryd.func21, Tryd.ntmps21
  go_upto_region 1 with fail
  generalize (w.alloc (.cells #[.slice X.F.A X.F.n X.F.c, .slice X.lA X.ln X.lc, .int .i64 X.fuse, .int .i64 X.fault, .bool X.off] 37)) = W1 at *
  obtain ⟨f0, f1, f2, f3, f4⟩ := HX.out
  go_wp2
  go_loopw [3, 4] (fun a i wr => ∃ j m : Nat, j ≤ X.ln ∧ i = .int .i64 j ∧ a = .int .i64 m ∧ m ≤ 1572864 ∧ Hid (lenGo (X.L.drop j) m = X.long) ∧ W1 = wr) (fun _ i _ => X.ln - (intOf i).toNat)
  case atStart => exact ⟨0, X.F.n, Nat.zero_le _, rfl, rfl, by omega, HG, rfl⟩
  case round =>
    obtain ⟨j, m, hj, rfl, rfl, hm, HM, rfl⟩ := hrel
    by_cases hlt : j < X.ln
    · obtain ⟨b, off, p, hA, _, hp, hc⟩ := pc_at (Hrow.out W1 hb1) hlt
      have hpn := HNl.out p (List.mem_of_getElem? hp)
      have hlt' : (j : Int) < X.ln := by omega
      obtain ⟨hj2, he⟩ := List.getElem?_eq_some_iff.1 hp
      have hdr : X.L.drop j = p :: X.L.drop (j + 1) := by rw [List.drop_eq_getElem_cons hj2, he]
      by_cases hle : m ≤ 524288
      · have hle' : ((m : Int) ≤ 524288) = True := by simp; omega
        have HM2 := Lib.hid (show lenGo (X.L.drop (j + 1)) (m + p.n) = X.long by rw [← HM.out, hdr, lenGo, if_neg (by omega)])
        rw [hA] at f1
        have hb2 : m + p.n ≤ 1572864 := by omega
        clear HM hp hj2 he hdr hle HG HX
        go_wp2
        go_roundw
        case rel => exact ⟨j + 1, m + p.n, by omega, by go_num, by go_num, hb2, HM2, by first | exact trivial | rfl⟩
        case measure => simp [intOf]; omega
      · have hle' : ((m : Int) ≤ 524288) = False := by simp; omega
        have HM2 := Lib.hid (show m = X.long by rw [← HM.out, hdr, lenGo, if_pos (by omega)])
        clear HM hp hj2 he hdr hle hc hpn HG HX
        go_wp2
        go_ret
        exact ⟨by rw [HM2.out]; rfl, hb1⟩
    · obtain rfl : j = X.ln := by omega
      have HM2 := Lib.hid (show m = X.long by rw [← HM.out, List.drop_eq_nil_of_le (by rw [HlL.out]; exact Nat.le_refl _)]; rfl)
      clear HM HG HX
      go_wp2
      go_ret
      exact ⟨by rw [HM2.out]; rfl, hb1⟩
end Go.Proofs.YtlknmpnjhbdlhaaDoor
/-
  Layer 10: Check, and the reference's Right.
-/
namespace Go.Proofs.YtlknmpnjhbdlhaaDoor
open Go.RowKit
set_option linter.unusedVariables false

def hollowB (L : List PcT) : Bool := L.any fun p => p.n == 0
theorem hollow_yes {L : List PcT} {k : Nat} {p : PcT} (h : L[k]? = some p) (h0 : p.n = 0) : hollowB L = true := by
  unfold hollowB
  rw [List.any_eq_true]
  exact ⟨p, List.mem_of_getElem? h, by simp [h0]⟩
theorem hollow_no {L : List PcT} (h : ∀ k p, k < L.length → L[k]? = some p → p.n ≠ 0) : hollowB L = false := by
  unfold hollowB
  rw [List.any_eq_false]
  intro p hp
  obtain ⟨k, hk, he⟩ := List.getElem_of_mem hp
  have := h k p hk (by rw [List.getElem?_eq_getElem hk, he])
  simpa using this
theorem right_hollow (X : FileT) : X.right = (!hollowB X.L && (decide (-1 ≤ X.fuse) && (decide (-1 ≤ X.fault) && ((!X.off || X.fuse == -1) && decide (X.long ≤ 524288))))) := by
  unfold FileT.right hollowB
  congr 1
  rw [List.all_eq_not_any_not]
  simp
set_option maxRecDepth 20000 in
theorem check1_any (A : Option Addr) (n c : Nat) (w : World) : Calls Tryd.prog 55 #[.slice A n c] w fun e w' => e = .returned (.bool (decide (n = 0))) ∧ w = w' := by
  by_cases h : n = 0
  · subst h
    go_enter Tryd.func55, Tryd.ntmps55
    go_wp2
    go_ret
    exact ⟨rfl, rfl⟩
  · have h1 : ((n : Int) == 0) = false := by rw [beq_eq_false_iff_ne]; omega
    rw [decide_eq_false h]
    go_enter Tryd.func55, Tryd.ntmps55
    go_wp2
    go_ret
    exact ⟨by first | rfl | simp, rfl⟩
set_option maxRecDepth 20000 in
set_option maxHeartbeats 1000000 in
theorem indexP_any (A : Option Addr) (n c B : Nat) (L : List PcT) (w : World) (h : Shows w B 1 A n (L.map PcT.val)) (hn : n ≤ maxLen) :
    Calls Tryd.prog 71 #[.slice A n c, .func (.func 55) #[] #[]] w fun e w' => ∃ r : Int, e = .returned (.int .i64 r) ∧ Hid (decide (0 ≤ r) = hollowB L) ∧ w = w' := by
  unfold maxLen at hn
  have HL := Lib.hid (show L.length = n by have := h.1; simpa using this)
  have HS := Lib.hid h
  clear h
  go_enter Tryd.func71, Tryd.ntmps71
  go_wp2
  go_loopw [8] (fun i wr => ∃ j : Nat, j ≤ n ∧ i = .int .i64 j ∧ Hid (∀ k p, k < j → L[k]? = some p → p.n ≠ 0) ∧ w = wr) (fun i _ => n - (intOf i).toNat)
  case atStart => exact ⟨0, Nat.zero_le _, rfl, Lib.hid (fun k p hk => absurd hk (Nat.not_lt_zero k)), rfl⟩
  case round =>
    obtain ⟨j, hj, rfl, HN, rfl⟩ := hrel
    by_cases hlt : j < n
    · obtain ⟨b, off, p, rfl, _, hp, hc⟩ := pc_at HS.out hlt
      have hlt' : (j : Int) < n := by omega
      have hc1 := check1_any p.A p.n p.c w
      by_cases h0 : p.n = 0
      · rw [decide_eq_true h0] at hc1
        have HR := Lib.hid (show decide ((0 : Int) ≤ (j : Int)) = hollowB L by rw [hollow_yes hp h0]; simp)
        clear h0 hp HN HS HL
        go_wp2_with fail
        refine hc1.mono ?_
        rintro e W ⟨rfl, rfl⟩
        go_wp2
        go_ret
        exact ⟨_, rfl, HR, rfl⟩
      · rw [decide_eq_false h0] at hc1
        have HN2 := Lib.hid (show ∀ k q, k < j + 1 → L[k]? = some q → q.n ≠ 0 from fun k q hk hq => by
          by_cases e : k = j
          · subst e
            rw [hp] at hq
            cases hq
            exact h0
          · exact HN.out k q (by omega) hq)
        clear h0 hp HN
        go_wp2_with fail
        refine hc1.mono ?_
        rintro e W ⟨rfl, rfl⟩
        clear hc1
        go_wp2
        go_roundw
        case rel => exact ⟨j + 1, by omega, by go_num, HN2, by first | exact trivial | rfl⟩
        case measure => simp [intOf]; omega
    · obtain rfl : j = n := by omega
      have HR := Lib.hid (show decide ((0 : Int) ≤ -1) = hollowB L by rw [hollow_no fun k p hk hp => HN.out k p (by rw [HL.out] at hk; exact hk) hp]; rfl)
      clear HN HS
      go_wp2
      go_ret
      exact ⟨_, rfl, HR, rfl⟩
theorem containsP_any (A : Option Addr) (n c B : Nat) (L : List PcT) (w : World) (h : Shows w B 1 A n (L.map PcT.val)) (hn : n ≤ maxLen) :
    Calls Tryd.prog 54 #[.slice A n c, .func (.func 55) #[] #[]] w fun e w' => e = .returned (.bool (hollowB L)) ∧ w = w' := by
  have hi := indexP_any A n c B L w h hn
  go_enter Tryd.func54, Tryd.ntmps54
  go_wp2_with fail
  refine hi.mono ?_
  rintro e W ⟨r, rfl, HR, rfl⟩
  clear hi
  go_wp2
  go_ret
  exact ⟨by rw [← HR.out]; rfl, rfl⟩
end Go.Proofs.YtlknmpnjhbdlhaaDoor
/-
  Layer 10: Check.
-/
namespace Go.Proofs.YtlknmpnjhbdlhaaDoor
open Go.RowKit
set_option linter.unusedVariables false

set_option maxRecDepth 20000 in
set_option maxHeartbeats 2000000 in
theorem checkF_any (X : FileT) (B : Nat) (w : World) (hL : LieF w B X) (hB : B ≤ w.heap.size) (hN : ∀ p ∈ X.Q, p.n ≤ 1048576) :
    Calls Tryd.prog 37 #[X.agg] w fun e w' => e = .returned (.int .i64 (if X.right = true then 0 else 200)) ∧ Below w.heap.size w w' := by
  have hb1 := bel_alloc (Below.refl w.heap.size w) (.cells #[.slice X.F.A X.F.n X.F.c, .slice X.lA X.ln X.lc, .int .i64 X.fuse, .int .i64 X.fault, .bool X.off] 37)
  obtain ⟨f0, f1, f2, f3, f4⟩ := FBox.new w X 37
  have Hco := Lib.hid (containsP_any X.lA X.ln X.lc B X.L (w.alloc (.cells #[.slice X.F.A X.F.n X.F.c, .slice X.lA X.ln X.lc, .int .i64 X.fuse, .int .i64 X.fault, .bool X.off] 37)) (hL.row.below (hb1.mono hB)) (Nat.le_trans hL.fits hL.most))
  have Hle := Lib.hid (length_any X B (w.alloc (.cells #[.slice X.F.A X.F.n X.F.c, .slice X.lA X.ln X.lc, .int .i64 X.fuse, .int .i64 X.fault, .bool X.off] 37)) (hL.later (hb1.mono hB)) (Nat.le_trans hB hb1.size) hN)
  have HRt := Lib.hid (right_hollow X)
  simp only [FileT.agg, PcT.val] at Hle ⊢
  generalize hollowB X.L = ho at *
  generalize X.right = rt at *
  generalize X.long = lo at *
  clear hL hN
  generalize X.fuse = fu at *
  generalize X.fault = fa at *
  generalize X.off = of at *
  go_enter Tryd.func37, Tryd.ntmps37
  go_wp2_with fail
  refine Hco.out.mono ?_
  rintro e W1 ⟨rfl, rfl⟩
  clear Hco
  by_cases c1 : fu < -1
  · have hr : rt = false := by rw [HRt.out, decide_eq_false (show ¬ -1 ≤ fu by omega)]; simp
    clear Hle
    go_wp2
    all_goals
      go_ret
      exact ⟨by first | rfl | (rw [hr]; rfl), hb1⟩
  · by_cases c2 : fa < -1
    · have hr : rt = false := by rw [HRt.out, decide_eq_false (show ¬ -1 ≤ fa by omega)]; simp
      clear Hle
      go_wp2
      all_goals
        go_ret
        exact ⟨by first | rfl | (rw [hr]; rfl), hb1⟩
    · have d1 : decide (-1 ≤ fu) = true := decide_eq_true (by omega)
      have d2 : decide (-1 ≤ fa) = true := decide_eq_true (by omega)
      cases of
      · cases ho
        · by_cases c5 : 524288 < lo
          · have hr : rt = false := by rw [HRt.out, decide_eq_false (show ¬ lo ≤ 524288 by omega)]; simp
            have hgt : ((524288 : Int) < (lo : Int)) = True := by simp; omega
            clear HRt d1 d2 c5
            go_wp2_with fail
            refine Hle.out.mono ?_
            rintro e W2 ⟨rfl, hb2⟩
            clear Hle
            go_wp2
            all_goals
              go_ret
              exact ⟨by first | rfl | (rw [hr]; rfl), bel_next hb1 hb2⟩
          · have hr : rt = true := by rw [HRt.out, d1, d2, decide_eq_true (show lo ≤ 524288 by omega)]; rfl
            have hgt : ((524288 : Int) < (lo : Int)) = False := by simp; omega
            clear HRt d1 d2 c5
            go_wp2_with fail
            refine Hle.out.mono ?_
            rintro e W2 ⟨rfl, hb2⟩
            clear Hle
            go_wp2
            all_goals
              go_ret
              exact ⟨by first | rfl | (rw [hr]; rfl), bel_next hb1 hb2⟩
        · have hr : rt = false := by rw [HRt.out]; rfl
          clear HRt d1 d2
          clear Hle
          go_wp2
          all_goals
            go_ret
            exact ⟨by first | rfl | (rw [hr]; rfl), hb1⟩
      · by_cases c3 : fu = -1
        · subst c3
          cases ho
          · by_cases c5 : 524288 < lo
            · have hr : rt = false := by rw [HRt.out, decide_eq_false (show ¬ lo ≤ 524288 by omega)]; simp
              have hgt : ((524288 : Int) < (lo : Int)) = True := by simp; omega
              clear HRt d1 d2 c5 c1
              go_wp2_with fail
              refine Hle.out.mono ?_
              rintro e W2 ⟨rfl, hb2⟩
              clear Hle
              go_wp2
              all_goals
                go_ret
                exact ⟨by first | rfl | (rw [hr]; rfl), bel_next hb1 hb2⟩
            · have hr : rt = true := by rw [HRt.out, d1, d2, decide_eq_true (show lo ≤ 524288 by omega)]; rfl
              have hgt : ((524288 : Int) < (lo : Int)) = False := by simp; omega
              clear HRt d1 d2 c5 c1
              go_wp2_with fail
              refine Hle.out.mono ?_
              rintro e W2 ⟨rfl, hb2⟩
              clear Hle
              go_wp2
              all_goals
                go_ret
                exact ⟨by first | rfl | (rw [hr]; rfl), bel_next hb1 hb2⟩
          · have hr : rt = false := by rw [HRt.out]; rfl
            clear HRt d1 d2 c1
            clear Hle
            go_wp2
            all_goals
              go_ret
              exact ⟨by first | rfl | (rw [hr]; rfl), hb1⟩
        · have hne : (fu == -1) = false := beq_eq_false_iff_ne.2 c3
          have hr : rt = false := by rw [HRt.out, hne]; simp
          clear HRt d1 d2
          clear Hle
          go_wp2
          all_goals
            go_ret
            exact ⟨by first | rfl | (rw [hr]; rfl), hb1⟩
end Go.Proofs.YtlknmpnjhbdlhaaDoor
/-
  Layer 10: the reference's Right.
-/
namespace Go.Proofs.YtlknmpnjhbdlhaaDoor
open Go.RowKit
set_option linter.unusedVariables false

set_option maxRecDepth 20000 in
set_option maxHeartbeats 4000000 in
theorem refRight_any (X : FileT) (B : Nat) (w : World) (hL : LieF w B X) (hB : B ≤ w.heap.size) (hN : ∀ p ∈ X.Q, p.n ≤ 1048576) :
    Calls Tryd.prog 17 #[X.agg] w fun e w' => e = .returned (.bool X.right) ∧ Below w.heap.size w w' := by
  have hb1 := bel_alloc (Below.refl w.heap.size w) (.cells #[.slice X.F.A X.F.n X.F.c, .slice X.lA X.ln X.lc, .int .i64 X.fuse, .int .i64 X.fault, .bool X.off] 37)
  obtain ⟨f0, f1, f2, f3, f4⟩ := FBox.new w X 37
  have Hle := Lib.hid (refLong_any X B (w.alloc (.cells #[.slice X.F.A X.F.n X.F.c, .slice X.lA X.ln X.lc, .int .i64 X.fuse, .int .i64 X.fault, .bool X.off] 37)) (hL.later (hb1.mono hB)) (Nat.le_trans hB hb1.size) hN)
  have HRt := Lib.hid (right_hollow X)
  have hln := Nat.le_trans hL.fits hL.most
  unfold maxLen at hln
  have Hrow := Lib.hid (hL.row.below (hb1.mono hB))
  have HlL := Lib.hid hL.len
  simp only [FileT.agg, PcT.val] at Hle ⊢
  generalize X.right = rt at *
  generalize X.long = lo at *
  clear hL hN
  generalize X.fuse = fu at *
  generalize X.fault = fa at *
  generalize X.off = of at *
  go_enter Tryd.func17, Tryd.ntmps17
  go_upto_region 1 with fail
  generalize (w.alloc (.cells #[.slice X.F.A X.F.n X.F.c, .slice X.lA X.ln X.lc, .int .i64 fu, .int .i64 fa, .bool of] 37)) = W1 at *
  go_wp2
  go_loopw [3] (fun i wr => ∃ j : Nat, j ≤ X.ln ∧ i = .int .i64 j ∧ Hid (∀ k p, k < j → X.L[k]? = some p → p.n ≠ 0) ∧ W1 = wr) (fun i _ => X.ln - (intOf i).toNat)
  case atStart => exact ⟨0, Nat.zero_le _, rfl, Lib.hid (fun k p hk => absurd hk (Nat.not_lt_zero k)), rfl⟩
  case round =>
    obtain ⟨j, hj, rfl, HN, rfl⟩ := hrel
    by_cases hlt : j < X.ln
    · obtain ⟨b, off, p, hA, _, hp, hc⟩ := pc_at Hrow.out hlt
      have hlt' : (j : Int) < X.ln := by omega
      rw [hA] at f1
      by_cases h0 : p.n = 0
      · have hr : rt = false := by rw [HRt.out, hollow_yes hp h0]; rfl
        have h1 : ((p.n : Int) == 0) = true := by rw [beq_iff_eq]; omega
        clear h0 hp HN Hrow HlL HRt
        clear Hle
        go_wp2
        all_goals
          go_ret
          exact ⟨by first | rfl | (rw [hr]; rfl), hb1⟩
      · have h1 : ((p.n : Int) == 0) = false := by rw [beq_eq_false_iff_ne]; omega
        have HN2 := Lib.hid (show ∀ k q, k < j + 1 → X.L[k]? = some q → q.n ≠ 0 from fun k q hk hq => by
          by_cases e : k = j
          · subst e
            rw [hp] at hq
            cases hq
            exact h0
          · exact HN.out k q (by omega) hq)
        clear h0 hp HN HRt
        go_wp2
        go_roundw
        case rel => exact ⟨j + 1, by omega, by go_num, HN2, by first | exact trivial | rfl⟩
        case measure => simp [intOf]; omega
    · obtain rfl : j = X.ln := by omega
      have hho : hollowB X.L = false := hollow_no fun k p hk hp => HN.out k p (by rw [HlL.out] at hk; exact hk) hp
      have HR2 := HRt.out
      rw [hho] at HR2
      have HRt := Lib.hid HR2
      clear HN Hrow HlL hho HR2
      by_cases c1 : fu < -1
      · have hr : rt = false := by rw [HRt.out, decide_eq_false (show ¬ -1 ≤ fu by omega)]; rfl
        clear Hle
        go_wp2
        all_goals
          go_ret
          exact ⟨by first | rfl | (rw [hr]; rfl), hb1⟩
      · by_cases c2 : fa < -1
        · have hr : rt = false := by rw [HRt.out, decide_eq_false (show ¬ -1 ≤ fa by omega)]; simp
          clear Hle
          go_wp2
          all_goals
            go_ret
            exact ⟨by first | rfl | (rw [hr]; rfl), hb1⟩
        · have d1 : decide (-1 ≤ fu) = true := decide_eq_true (by omega)
          have d2 : decide (-1 ≤ fa) = true := decide_eq_true (by omega)
          cases of
          · by_cases c5 : lo ≤ 524288
            · have hr : rt = true := by rw [HRt.out, d1, d2, decide_eq_true c5]; rfl
              have hgt : ((lo : Int) ≤ 524288) = True := by simp; omega
              clear HRt d1 d2 c5
              go_wp2_with fail
              refine Hle.out.mono ?_
              rintro e W2 ⟨rfl, hb2⟩
              clear Hle
              go_wp2
              all_goals
                go_ret
                exact ⟨by first | rfl | (rw [hr]; rfl), bel_next hb1 hb2⟩
            · have hr : rt = false := by rw [HRt.out, decide_eq_false c5]; simp
              have hgt : ((lo : Int) ≤ 524288) = False := by simp; omega
              clear HRt d1 d2 c5
              go_wp2_with fail
              refine Hle.out.mono ?_
              rintro e W2 ⟨rfl, hb2⟩
              clear Hle
              go_wp2
              all_goals
                go_ret
                exact ⟨by first | rfl | (rw [hr]; rfl), bel_next hb1 hb2⟩
          · by_cases c3 : fu = -1
            · subst c3
              by_cases c5 : lo ≤ 524288
              · have hr : rt = true := by rw [HRt.out, d1, d2, decide_eq_true c5]; rfl
                have hgt : ((lo : Int) ≤ 524288) = True := by simp; omega
                clear HRt d1 d2 c5 c1
                go_wp2_with fail
                refine Hle.out.mono ?_
                rintro e W2 ⟨rfl, hb2⟩
                clear Hle
                go_wp2
                all_goals
                  go_ret
                  exact ⟨by first | rfl | (rw [hr]; rfl), bel_next hb1 hb2⟩
              · have hr : rt = false := by rw [HRt.out, decide_eq_false c5]; simp
                have hgt : ((lo : Int) ≤ 524288) = False := by simp; omega
                clear HRt d1 d2 c5 c1
                go_wp2_with fail
                refine Hle.out.mono ?_
                rintro e W2 ⟨rfl, hb2⟩
                clear Hle
                go_wp2
                all_goals
                  go_ret
                  exact ⟨by first | rfl | (rw [hr]; rfl), bel_next hb1 hb2⟩
            · have hne : (fu == -1) = false := beq_eq_false_iff_ne.2 c3
              have hr : rt = false := by rw [HRt.out, hne]; simp
              clear HRt d1 d2
              clear Hle
              go_wp2
              all_goals
                go_ret
                exact ⟨by first | rfl | (rw [hr]; rfl), hb1⟩
end Go.Proofs.YtlknmpnjhbdlhaaDoor
