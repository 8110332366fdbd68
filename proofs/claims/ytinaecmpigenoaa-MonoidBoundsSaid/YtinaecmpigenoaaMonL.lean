/-
  Package monoid: Join.
-/
import Derived.Test.YtinaecmpigenoaaMonJ
import Derived.Test.YtinaecmpigenoaaMonW
import Derived.Deep.CutBlock
namespace Go.Proofs.Ytinaecmpigenoaa
open Go.RowKit
attribute [local go_sem ↓] Go.wp_at_zero Go.wp_at_succ

/-- A reduction, as numbers. -/
structure RedT where
  c : Int
  i : Int
  v : Int
  l : Int
  m : Int
def RedT.ok (r : RedT) : Prop := R64 r.c ∧ R64 r.i ∧ R128 r.v ∧ R64 r.l ∧ R64 r.m
def RedT.valid (r : RedT) : Bool := validB r.c r.i r.v r.l r.m
def RedT.val (r : RedT) : Value := redV r.c r.i r.v r.l r.m
def RedT.cells (r : RedT) : List Value := [.int .i64 r.c, .int .i64 r.i, .int .i64 (hiI r.v), .int .u64 (loI r.v), .int .i64 r.l, .int .i64 r.m]
def RedT.zero : RedT := ⟨0, 0, 0, 0, 0⟩
def RedT.join (a r : RedT) : RedT := ⟨a.c + r.c, a.i + r.i, a.v + r.v, jL a.i r.i a.l r.l, jM a.i r.i a.m r.m⟩
/-- What Join makes of valid reductions, behind what has been joined. -/
def jrun : List RedT → RedT → RedT × Int
  | [], a => (a, 0)
  | r :: l, a => if 1073741824 - a.c < r.c then (RedT.zero, 5) else jrun l (a.join r)
def jall (l : List RedT) : RedT × Int := if l.all RedT.valid then jrun l RedT.zero else (RedT.zero, 230)
/-- A slice of reductions. -/
def Reds (w : World) (B : Nat) (A : Option Addr) (n : Nat) (l : List RedT) : Prop := Shows w B 6 A n (l.flatMap RedT.cells)
theorem reds_len {w : World} {B : Nat} {A : Option Addr} {n : Nat} {l : List RedT} (h : Reds w B A n l) : l.length = n := by
  have h1 := h.1
  have : ∀ l : List RedT, (l.flatMap RedT.cells).length = l.length * 6 := by
    intro l
    induction l with
    | nil => rfl
    | cons r l ih => rw [List.flatMap_cons, List.length_append, ih, List.length_cons]; simp only [RedT.cells, List.length_cons, List.length_nil]; omega
  rw [this] at h1
  omega
theorem flat_at : ∀ (l : List RedT) (k j : Nat) (hk : k < l.length) (_ : j < 6), (l.flatMap RedT.cells)[k * 6 + j]? = (l[k]'hk).cells[j]?
  | r :: l, 0, j, _, hj => by
    rw [List.flatMap_cons, List.getElem?_append_left (by simp [RedT.cells]; omega)]
    simp
  | r :: l, k + 1, j, hk, hj => by
    have e : (k + 1) * 6 + j = r.cells.length + (k * 6 + j) := by simp only [RedT.cells, List.length_cons, List.length_nil]; omega
    rw [List.flatMap_cons, e, List.getElem?_append_right (by omega), Nat.add_sub_cancel_left, flat_at l k j (by simpa using hk) hj]
    simp
theorem reds_cell {w : World} {B : Nat} {A : Option Addr} {n : Nat} {l : List RedT} (h : Reds w B A n l) {k : Nat} (hk : k < n) : ∃ (b off : Nat) (r : RedT), A = some ⟨b, off, none⟩ ∧ b < B ∧ l[k]? = some r ∧
    w.cell? ⟨b, off + k * 6, none⟩ = some (.int .i64 r.c) ∧ w.cell? ⟨b, off + k * 6 + 1, none⟩ = some (.int .i64 r.i) ∧ w.cell? ⟨b, off + k * 6 + 2, none⟩ = some (.int .i64 (hiI r.v)) ∧ w.cell? ⟨b, off + k * 6 + 3, none⟩ = some (.int .u64 (loI r.v)) ∧ w.cell? ⟨b, off + k * 6 + 4, none⟩ = some (.int .i64 r.l) ∧ w.cell? ⟨b, off + k * 6 + 5, none⟩ = some (.int .i64 r.m) := by
  have hl := reds_len h
  obtain ⟨b, off, rfl, hb, hc⟩ := h.2 (by omega)
  have hk' : k < l.length := by omega
  refine ⟨b, off, l[k], rfl, hb, List.getElem?_eq_getElem hk', ?_, ?_, ?_, ?_, ?_, ?_⟩
  · exact hc (k * 6 + 0) _ ((flat_at l k 0 hk' (by omega)).trans rfl)
  · exact hc (k * 6 + 1) _ ((flat_at l k 1 hk' (by omega)).trans rfl)
  · exact hc (k * 6 + 2) _ ((flat_at l k 2 hk' (by omega)).trans rfl)
  · exact hc (k * 6 + 3) _ ((flat_at l k 3 hk' (by omega)).trans rfl)
  · exact hc (k * 6 + 4) _ ((flat_at l k 4 hk' (by omega)).trans rfl)
  · exact hc (k * 6 + 5) _ ((flat_at l k 5 hk' (by omega)).trans rfl)

theorem all_take {l : List RedT} {k : Nat} {r : RedT} (h : (l.take k).all RedT.valid = true) (hr : l[k]? = some r) (hv : r.valid = true) : (l.take (k + 1)).all RedT.valid = true := by
  have hk : k < l.length := (List.getElem?_eq_some_iff.1 hr).1
  have e : l[k] = r := (List.getElem?_eq_some_iff.1 hr).2
  rw [List.take_succ_eq_append_getElem hk, List.all_append, h, e]
  simp [hv]
theorem all_bad {l : List RedT} {k : Nat} {r : RedT} (hr : l[k]? = some r) (hv : r.valid = false) : jall l = (RedT.zero, 230) := by
  unfold jall
  rw [if_neg]
  intro h
  have := List.all_eq_true.1 h r (List.mem_of_getElem? hr)
  rw [hv] at this
  cases this
theorem jrun_go (l : List RedT) (r b : RedT) : ∀ a, jrun l a = (b, 0) → jrun (l ++ [r]) a = if 1073741824 - b.c < r.c then (RedT.zero, 5) else (b.join r, 0) := by
  induction l with
  | nil =>
    intro a h
    have e : a = b := congrArg Prod.fst h
    subst e
    rfl
  | cons x l ih =>
    intro a h
    have h' : (if 1073741824 - a.c < x.c then (RedT.zero, 5) else jrun l (a.join x)) = (b, 0) := h
    show (if 1073741824 - a.c < x.c then (RedT.zero, 5) else jrun (l ++ [r]) (a.join x)) = _
    by_cases hx : 1073741824 - a.c < x.c
    · rw [if_pos hx] at h'
      have := congrArg Prod.snd h'
      cases this
    · rw [if_neg hx] at h' ⊢
      exact ih _ h'
theorem jrun_over (l m : List RedT) : ∀ a, (jrun l a).2 ≠ 0 → jrun (l ++ m) a = jrun l a := by
  induction l with
  | nil => intro a h; exact absurd rfl h
  | cons x l ih =>
    intro a h
    have h' : (if 1073741824 - a.c < x.c then (RedT.zero, 5) else jrun l (a.join x)).2 ≠ 0 := h
    show (if 1073741824 - a.c < x.c then (RedT.zero, 5) else jrun (l ++ m) (a.join x)) = if 1073741824 - a.c < x.c then (RedT.zero, 5) else jrun l (a.join x)
    by_cases hx : 1073741824 - a.c < x.c
    · rw [if_pos hx, if_pos hx]
    · rw [if_neg hx] at h'
      rw [if_neg hx, if_neg hx]
      exact ih _ h'
theorem valid_bounds (r : RedT) (h : r.valid = true) : (0 ≤ r.c ∧ r.c ≤ 1073741824) ∧ 0 ≤ r.i ∧ r.i ≤ r.c := by
  unfold RedT.valid at h
  rcases valid_cases r.c r.i r.v r.l r.m with ⟨_, hr⟩ | ⟨_, hr⟩ | ⟨_, hr⟩ | ⟨_, hr⟩ | ⟨⟨h1, h2⟩, _⟩ | ⟨⟨h1, h2, h3⟩, _⟩ | ⟨⟨h1, h2, h3⟩, _⟩
  · rw [hr] at h; cases h
  · rw [hr] at h; cases h
  · rw [hr] at h; cases h
  · rw [hr] at h; cases h
  · omega
  · omega
  · omega
theorem jall_of (l : List RedT) (h : l.all RedT.valid = true) : jall l = jrun l RedT.zero := by unfold jall; rw [if_pos h]
theorem take_next {l : List RedT} {k : Nat} {r : RedT} (hr : l[k]? = some r) : l.take (k + 1) = l.take k ++ [r] := by
  have hk : k < l.length := (List.getElem?_eq_some_iff.1 hr).1
  have e : l[k] = r := (List.getElem?_eq_some_iff.1 hr).2
  rw [List.take_succ_eq_append_getElem hk, e]

theorem valid_agg (r : RedT) (w : World) (h : r.ok) : Calls Try.prog 25 #[.agg #[.int .i64 r.c, .int .i64 r.i, .int .i64 (hiI r.v), .int .u64 (loI r.v), .int .i64 r.l, .int .i64 r.m]] w fun e w' => e = .returned (.bool r.valid) ∧ Below w.heap.size w w' :=
  valid_any r.c r.i r.v r.l r.m w h.2.2.1 h.2.2.2.1 h.2.2.2.2
theorem join_agg (a r : RedT) (w : World) (h1 : 0 ≤ a.c ∧ a.c ≤ 1073741824) (h2 : 0 ≤ r.c ∧ r.c ≤ 1073741824) (h3 : 0 ≤ a.i ∧ a.i ≤ 1073741824) (h4 : 0 ≤ r.i ∧ r.i ≤ 1073741824) :
    Calls Try.prog 32 #[.agg #[.int .i64 a.c, .int .i64 a.i, .int .i64 (hiI a.v), .int .u64 (loI a.v), .int .i64 a.l, .int .i64 a.m], .agg #[.int .i64 r.c, .int .i64 r.i, .int .i64 (hiI r.v), .int .u64 (loI r.v), .int .i64 r.l, .int .i64 r.m]] w fun e w' => e = .returned (.agg #[.int .i64 (a.join r).c, .int .i64 (a.join r).i, .int .i64 (hiI (a.join r).v), .int .u64 (loI (a.join r).v), .int .i64 (a.join r).l, .int .i64 (a.join r).m]) ∧ Below w.heap.size w w' :=
  join_any a.c a.i a.v a.l a.m r.c r.i r.v r.l r.m w h1 h2 h3 h4

set_option maxRecDepth 20000 in
set_option maxHeartbeats 2000000 in
theorem joinAll_any (A : Option Addr) (n c B : Nat) (l : List RedT) (w : World) (h : Reds w B A n l) (hB : B ≤ w.heap.size) (hok : ∀ r ∈ l, r.ok) (hn : n ≤ 1000000) :
    Calls Try.prog 13 #[.slice A n c] w fun e w' => e = .returned (.tuple #[(jall l).1.val, .int .i64 (jall l).2]) ∧ Below w.heap.size w w' := by
  have hlen := Lib.hid (reds_len h)
  go_enter Try.func13, Try.ntmps13
  go_wp2
  go_step3
  go_wp2
  obtain ⟨W1, hW1⟩ : ∃ W1, w.alloc (.cells #[.int .i64 0, .int .i64 0, .int .i64 0, .int .u64 0, .int .i64 0, .int .i64 0] 24) = W1 := ⟨_, rfl⟩
  have hb1 : Below w.heap.size w W1 := by rw [← hW1]; exact (Below.refl _ _).alloc (Nat.le_refl _) _
  have hs1 : Six W1 w.heap.size (.int .i64 0) (.int .i64 0) (.int .i64 0) (.int .u64 0) (.int .i64 0) (.int .i64 0) := by rw [← hW1]; exact Six.new _ _ _ _ _ _ _ _
  have hl1 : Reds W1 B A n l := by rw [← hW1]; exact h.alloc hB _
  rw [hW1]
  clear hW1
  have HS1 := Lib.hid hs1
  have HL1 := Lib.hid hl1
  clear hs1 hl1
  go_loopw [12] (fun x wr => ∃ k : Nat, k ≤ n ∧ x = .int .i64 (k : Int) ∧ Below W1.heap.size W1 wr ∧ Hid ((l.take k).all RedT.valid = true)) (fun x _ => n - (intOf x).toNat)
  case atStart => exact ⟨0, Nat.zero_le _, rfl, Below.refl _ _, Lib.hid rfl⟩
  case round =>
    obtain ⟨k, hk, rfl, hbr, Hv⟩ := hrel
    by_cases hlt : k < n
    · obtain ⟨b, off, r, rfl, hbB, hr, x0, x1, x2, x3, x4, x5⟩ := reds_cell (HL1.out.below (hbr.mono (by have := hb1.size; omega))) hlt
      have hrok : r.ok := hok r (List.mem_of_getElem? hr)
      have sbr := hbr.size
      go_wp2_with fail
      refine (valid_agg r _ hrok).mono ?_
      rintro e w2 ⟨rfl, hb2⟩
      have hbn : Below W1.heap.size W1 w2 := (hbr.alloc sbr _).trans (hb2.mono (by simp; omega))
      by_cases hv : r.valid = true
      · have Hn := Lib.hid (all_take Hv.out hr hv)
        rw [hv]
        clear hv hr hrok x0 x1 x2 x3 x4 x5
        go_wp2
        go_roundw
        case rel => exact ⟨k + 1, by omega, by go_num, hbn, Hn⟩
        case measure => simp [intOf]; omega
      · have hv2 : r.valid = false := by simpa using hv
        have HJ := Lib.hid (all_bad hr hv2)
        obtain ⟨⟨r0, r1, r2, r3, r4, r5⟩, f0, f1, f2, f3, f4, f5⟩ := HS1.out.below hbn rfl
        have hbz := hb1.trans (hbn.mono hb1.size)
        rw [hv2]
        clear hv hv2 hr hrok x0 x1 x2 x3 x4 x5 hb2 hbn hbr
        go_wp2
        rw [Exit.noGoto_ret]
        refine bodyPost_ret (v := .tuple #[.agg #[.int .i64 0, .int .i64 0, .int .i64 0, .int .u64 0, .int .i64 0, .int .i64 0], .int .i64 230]) ?_ rfl ⟨?_, below_set6 hbz (Nat.le_refl _)⟩
        · simp [results, Try.results13, go_sem, *]
        · rw [HJ.out]
          unfold RedT.val redV RedT.zero
          rw [hl_zero.1, hl_zero.2]
    · have hkn : k = n := by omega
      have Hall := Lib.hid (show l.all RedT.valid = true by
        have := Hv.out
        rwa [List.take_of_length_le (by rw [hlen.out]; omega)] at this)
      obtain ⟨G, hG⟩ : ∃ G, wr.heap.size = G := ⟨_, rfl⟩
      have hGW : W1.heap.size ≤ G := by rw [← hG]; exact hbr.size
      have hw1 : w.heap.size ≤ W1.heap.size := hb1.size
      obtain ⟨W2, hW2⟩ : ∃ W2, wr.alloc (.cells #[.int .i64 0, .int .i64 0, .int .i64 0, .int .u64 0, .int .i64 0, .int .i64 0] 24) = W2 := ⟨_, rfl⟩
      have hb2 : Below W1.heap.size W1 W2 := by rw [← hW2]; exact hbr.alloc hbr.size _
      have hs2 : Six W2 G (.int .i64 0) (.int .i64 0) (.int .i64 0) (.int .u64 0) (.int .i64 0) (.int .i64 0) := by rw [← hW2, ← hG]; exact Six.new _ _ _ _ _ _ _ _
      have HS2 := Lib.hid hs2
      have HW2 := Lib.hid hW2
      have HG := Lib.hid hG
      clear hkn hs2 hW2 hG
      go_wp2_with fail
      go_step3
      go_upto_block 2 with fail
      rw [HG.out, HW2.out]
      clear HG HW2 Hv hbr
      go_cut [7] (fun x wx => ∃ (a : RedT) (e : Int), x = .int .i64 e ∧ Below W1.heap.size W1 wx ∧ Six wx G (.int .i64 a.c) (.int .i64 a.i) (.int .i64 (hiI a.v)) (.int .u64 (loI a.v)) (.int .i64 a.l) (.int .i64 a.m) ∧ Hid (jall l = (a, e)))
      case first =>
        go_wp2_with fail
        go_loopw [7, 24] (fun y x wr' => ∃ (k : Nat) (a : RedT), k ≤ n ∧ y = .int .i64 0 ∧ x = .int .i64 (k : Int) ∧ Below W1.heap.size W1 wr' ∧ Six wr' G (.int .i64 a.c) (.int .i64 a.i) (.int .i64 (hiI a.v)) (.int .u64 (loI a.v)) (.int .i64 a.l) (.int .i64 a.m) ∧ Hid (jrun (l.take k) RedT.zero = (a, 0)) ∧ 0 ≤ a.i ∧ a.i ≤ a.c ∧ a.c ≤ 1073741824) (fun _ x _ => n - (intOf x).toNat)
        case atStart =>
          refine ⟨0, RedT.zero, Nat.zero_le _, rfl, rfl, hb2, ?_, Lib.hid rfl, by decide, by decide, by decide⟩
          have := HS2.out
          unfold RedT.zero
          rw [hl_zero.1, hl_zero.2]
          exact this
        case round =>
          obtain ⟨k, a, hk, rfl, rfl, hbr, hsix, Hj, ha0, ha1, ha2⟩ := hrel
          by_cases hlt : k < n
          · obtain ⟨b, off, r, rfl, hbB, hr, x0, x1, x2, x3, x4, x5⟩ := reds_cell (HL1.out.below (hbr.mono (by omega))) hlt
            have hvb := valid_bounds r (List.all_eq_true.1 Hall.out r (List.mem_of_getElem? hr))
            obtain ⟨⟨v0, v1⟩, v2, v3⟩ := hvb
            obtain ⟨G2, hG2⟩ : ∃ G2, wr.heap.size = G2 := ⟨_, rfl⟩
            have hGG : W1.heap.size ≤ G2 := by rw [← hG2]; exact hbr.size
            obtain ⟨W3, hW3⟩ : ∃ W3, wr.alloc (.cells #[.int .i64 r.c, .int .i64 r.i, .int .i64 (hiI r.v), .int .u64 (loI r.v), .int .i64 r.l, .int .i64 r.m] 24) = W3 := ⟨_, rfl⟩
            have hb3 : Below W1.heap.size W1 W3 := by rw [← hW3]; exact hbr.alloc hbr.size _
            have hs3 : Six W3 G2 (.int .i64 r.c) (.int .i64 r.i) (.int .i64 (hiI r.v)) (.int .u64 (loI r.v)) (.int .i64 r.l) (.int .i64 r.m) := by rw [← hW3, ← hG2]; exact Six.new _ _ _ _ _ _ _ _
            have ha3 : Six W3 G (.int .i64 a.c) (.int .i64 a.i) (.int .i64 (hiI a.v)) (.int .u64 (loI a.v)) (.int .i64 a.l) (.int .i64 a.m) := by rw [← hW3]; exact hsix.alloc _
            have HW3 := Lib.hid hW3
            have HG2 := Lib.hid hG2
            have HR := Lib.hid hr
            clear hW3 hG2 hsix hr
            go_upto_region 11 with fail
            rw [HG2.out, HW3.out]
            clear HG2 HW3 hbr x0 x1 x2 x3 x4 x5
            have HA3 := Lib.hid ha3
            obtain ⟨⟨r0, r1, r2, r3, r4, r5⟩, -⟩ := hs3
            obtain ⟨⟨q0, q1, q2, q3, q4, q5⟩, f0, f1, f2, f3, f4, f5⟩ := ha3
            by_cases hov : 1073741824 - a.c < r.c
            · have Hx := Lib.hid (show jall l = (RedT.zero, 5) by
                have e := jrun_go (l.take k) r a RedT.zero Hj.out
                rw [if_pos hov, ← take_next HR.out] at e
                have e2 := jrun_over (l.take (k + 1)) (l.drop (k + 1)) RedT.zero (by rw [e]; decide)
                rw [List.take_append_drop] at e2
                rw [jall_of l Hall.out, e2, e])
              go_wp2_with fail
              go_meet
              case rel =>
                refine ⟨RedT.zero, 5, rfl, below_set6 hb3 hGW, ?_, Hx⟩
                unfold RedT.zero
                rw [hl_zero.1, hl_zero.2]
                exact ((((((HA3.out.s0 _).s1 _).s2 _).s3 _).s4 _).s5 _)
            · have Hn := Lib.hid (show jrun (l.take (k + 1)) RedT.zero = (a.join r, 0) by
                have e := jrun_go (l.take k) r a RedT.zero Hj.out
                rw [if_neg hov, ← take_next HR.out] at e
                exact e)
              go_wp2_with fail
              refine (join_agg a r _ ⟨by omega, ha2⟩ ⟨v0, v1⟩ ⟨ha0, by omega⟩ ⟨v2, by omega⟩).mono ?_
              rintro e w4 ⟨rfl, hb4⟩
              have s3 := hb3.size
              have hb5 : Below W1.heap.size W1 w4 := hb3.trans (hb4.mono s3)
              have HA4 := Lib.hid (HA3.out.below hb4 rfl)
              obtain ⟨⟨p0, p1, p2, p3, p4, p5⟩, g0, g1, g2, g3, g4, g5⟩ := HA4.out
              have hj1 : 0 ≤ (a.join r).i := by unfold RedT.join; simp only; omega
              have hj2 : (a.join r).i ≤ (a.join r).c := by unfold RedT.join; simp only; omega
              have hj3 : (a.join r).c ≤ 1073741824 := by unfold RedT.join; simp only; omega
              generalize a.join r = a' at *
              clear r0 r1 r2 r3 r4 r5 q0 q1 q2 q3 q4 q5 f0 f1 f2 f3 f4 f5 hov hb3 hb4 HA3 HR
              go_wp2_with fail
              go_roundw
              case rel => exact ⟨k + 1, a', by omega, rfl, by go_num, below_set6 hb5 hGW, ((((((HA4.out.s0 _).s1 _).s2 _).s3 _).s4 _).s5 _), Hn, hj1, hj2, hj3⟩
              case measure => simp [intOf]; omega
          · have Hx := Lib.hid (show jall l = (a, 0) by
              rw [jall_of l Hall.out]
              have := Hj.out
              rwa [List.take_of_length_le (by rw [hlen.out]; omega)] at this)
            go_wp2_with fail
            go_meet
            case rel => exact ⟨a, 0, rfl, hbr, hsix, Hx⟩
      case rest =>
        obtain ⟨a, e, rfl, hbx, hsx, Hx⟩ := hcut
        have hzz := HS1.out.below hbx rfl
        have hbz := hb1.trans (hbx.mono hw1)
        obtain ⟨⟨r0, r1, r2, r3, r4, r5⟩, f0, f1, f2, f3, f4, f5⟩ := hzz
        obtain ⟨⟨k0, k1, k2, k3, k4, k5⟩, _⟩ := hsx
        clear hbx hb2
        go_wp2
        rw [Exit.noGoto_ret]
        refine bodyPost_ret (v := .tuple #[.agg #[.int .i64 a.c, .int .i64 a.i, .int .i64 (hiI a.v), .int .u64 (loI a.v), .int .i64 a.l, .int .i64 a.m], .int .i64 e]) ?_ rfl ⟨?_, below_set6 hbz (Nat.le_refl _)⟩
        · simp [results, Try.results13, go_sem, *]
        · rw [Hx.out]
          rfl
end Go.Proofs.Ytinaecmpigenoaa
