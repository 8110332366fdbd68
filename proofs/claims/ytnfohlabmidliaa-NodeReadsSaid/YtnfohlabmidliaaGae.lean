import Derived.Test.YtnfohlabmidliaaGad
import Derived.Lib.Bytealg
import Derived.Test.YtnfohlabmidliaaGaa
import Derived.Deep.RegionHeld3
import Derived.ArgAppend
/-
  bytes.Compare; the methods of items and kids.
-/
namespace Go.Proofs.Ytnfohlabmidliaa
open Go.RowKit
set_option linter.unusedVariables false

theorem load_bytes {P : Program} {w : World} : ∀ (l : List UInt8) (a : Addr) (acc : ByteArray), (∀ j x, l[j]? = some x → w.cell? (a.add j) = some (bv x)) →
    (Extern.Bytes.loadBytes a l.length acc).run P w = .ok ⟨acc.data ++ l.toArray⟩ w
  | [], a, acc, _ => by simp [Extern.Bytes.loadBytes]
  | x :: l, a, acc, h => by
    have h0 : w.cell? a = some (bv x) := by
      have := h 0 x rfl
      simpa [Addr.add] using this
    have ih := load_bytes (P := P) (w := w) l (a.add 1) (acc.push x) (fun j y hy => by
      have := h (j + 1) y (by simpa using hy)
      have e : (a.add 1).add j = a.add (j + 1) := by
        unfold Addr.add
        by_cases hj : j = 0
        · subst hj; simp
        · simp [hj]; omega
      rw [e]; exact this)
    have hx : ((x.toNat : Int).toNat).toUInt8 = x := by simp
    unfold bv at h0
    simp only [List.length_cons, Extern.Bytes.loadBytes, Sem.run_bind, run_load, h0, Result.andThen, hx]
    rw [ih]
    congr 1
    apply ByteArray.ext
    simp
theorem run_bytesOf {P : Program} {w : World} {B n c : Nat} {A : Option Addr} {l : List UInt8} (h : Bytes w B A n l) : (Extern.Bytes.bytesOf (.slice A n c)).run P w = .ok ⟨l.toArray⟩ w := by
  rcases A with _ | a
  · have hz : l = [] := by
      rcases Nat.eq_zero_or_pos n with h0 | h0
      · exact List.eq_nil_of_length_eq_zero (by rw [h.len, h0])
      · obtain ⟨_, _, e1, _⟩ := h.2 h0
        cases e1
    subst hz
    rfl
  · have hl := load_bytes (P := P) (w := w) l a .empty (fun j x hj => by
      have h0 : 0 < n := by
        rw [← h.len]
        exact Nat.lt_of_le_of_lt (Nat.zero_le j) (List.getElem?_eq_some_iff.1 hj).1
      obtain ⟨b, off, e1, _, h2⟩ := h.2 h0
      injection e1 with e1
      subst e1
      rw [addr_add]
      exact h2 j _ (by rw [List.getElem?_map, hj]; rfl))
    rw [h.len] at hl
    have e : Extern.Bytes.bytesOf (.slice (some a) n c) = Extern.Bytes.loadBytes a n .empty := rfl
    rw [e, hl]
    simp
theorem cmpL_lib : ∀ l m : List UInt8, Lib.compareBytes l m = cmpL l m
  | [], [] => rfl
  | [], _ :: _ => rfl
  | _ :: _, [] => rfl
  | x :: l, y :: m => by
    unfold Lib.compareBytes cmpL
    rw [cmpL_lib l m]
    rfl
theorem run_compareSlices {P : Program} {w : World} {B1 B2 n1 n2 c1 c2 : Nat} {A1 A2 : Option Addr} {l1 l2 : List UInt8} (h1 : Bytes w B1 A1 n1 l1) (h2 : Bytes w B2 A2 n2 l2) :
    (Extern.BytealgCompare.compare #[.slice A1 n1 c1, .slice A2 n2 c2]).run P w = .ok (.int .i64 (cmpL l1 l2)) w := by
  change Sem.run P (do pure (goInt (Extern.BytealgCompare.cmp (← Extern.Bytes.bytesOf (.slice A1 n1 c1)) (← Extern.Bytes.bytesOf (.slice A2 n2 c2))))) w = _
  simp only [Sem.run_bind, Sem.run_pure, Result.andThen, run_bytesOf h1, run_bytesOf h2]
  rw [Lib.cmp_eq, cmpL_lib]
  rfl
set_option maxRecDepth 20000 in
set_option maxHeartbeats 1000000 in
theorem bcompare_any (A1 A2 : Option Addr) (n1 c1 n2 c2 : Nat) (l1 l2 : List UInt8) (B1 B2 : Nat) (w : World) (h1 : Bytes w B1 A1 n1 l1) (h2 : Bytes w B2 A2 n2 l2) :
    Calls Try.prog 32 #[.slice A1 n1 c1, .slice A2 n2 c2] w fun e w' => e = .returned (.int .i64 (cmpL l1 l2)) ∧ w' = w := by
  have hr := run_compareSlices (P := Try.prog) (c1 := c1) (c2 := c2) h1 h2
  clear h1 h2
  go_enter Try.func32, Try.ntmps32
  go_wp2
  rw [run_callFunc_extern Try.func51 (by kernel_rfl) (by kernel_rfl) (by kernel_rfl) (e := Extern.BytealgCompare.compare) (by kernel_rfl), hr]
  simp only [Result.andThen]
  rw [Oper.upon_value]
  go_wp2
  go_ret
  exact ⟨rfl, rfl⟩
set_option maxRecDepth 20000 in
theorem keyFits_any (p : PcT) (w : World) (hl : p.l.length = p.n) :
    Calls Try.prog 100 #[.slice p.A p.n p.c] w fun e w' => e = .returned (.bool (keyB p.l)) ∧ w' = w := by
  obtain ⟨b, hb⟩ : ∃ b, keyB p.l = b := ⟨_, rfl⟩
  have HB := Lib.hid hb
  rw [hb]
  unfold keyB at hb
  rw [hl] at hb
  by_cases h1 : 1 ≤ p.n
  · by_cases h2 : p.n ≤ 120
    · obtain rfl : b = true := by rw [← hb]; simp; omega
      have h3 : (p.n : Int) ≤ 120 := by omega
      clear hb
      go_enter Try.func100, Try.ntmps100
      go_wp2
      go_ret
      exact ⟨rfl, rfl⟩
    · obtain rfl : b = false := by rw [← hb]; simp; omega
      have h3 : ¬ (p.n : Int) ≤ 120 := by omega
      clear hb
      go_enter Try.func100, Try.ntmps100
      go_wp2
      go_ret
      exact ⟨rfl, rfl⟩
  · obtain rfl : b = false := by rw [← hb]; simp; omega
    clear hb
    go_enter Try.func100, Try.ntmps100
    go_wp2
    go_ret
    exact ⟨rfl, rfl⟩

/-- An entry as a value. -/
def ItT.agg (x : ItT) : Value := .agg #[.slice x.k.A x.k.n x.k.c, .slice x.v.A x.v.n x.v.c, .bool x.b, .int .i64 x.n]
def KiT.agg (x : KiT) : Value := .agg #[.slice x.k.A x.k.n x.k.c, .int .i64 x.a, .int .i64 x.r.c, .int .i64 x.r.i, .int .i64 (hiI x.r.v), .int .u64 (loI x.r.v), .int .i64 x.r.l, .int .i64 x.r.m]
def EnT.val : EnT → Value
  | .it x => .iface 94 x.agg
  | .ki x => .iface 100 x.agg

set_option maxRecDepth 20000 in
theorem itName_any (x : ItT) (w : World) : Calls Try.prog 96 #[x.agg] w fun e w' => e = .returned (.slice x.k.A x.k.n x.k.c) ∧ Below w.heap.size w w' := by
  have hb := bel_alloc (Below.refl w.heap.size w) (.cells #[.slice x.k.A x.k.n x.k.c, .slice x.v.A x.v.n x.v.c, .bool x.b, .int .i64 x.n] 94)
  unfold ItT.agg
  go_enter Try.func96, Try.ntmps96
  go_wp2
  go_ret
  exact ⟨rfl, hb⟩
set_option maxRecDepth 20000 in
theorem kiName_any (x : KiT) (w : World) : Calls Try.prog 101 #[x.agg] w fun e w' => e = .returned (.slice x.k.A x.k.n x.k.c) ∧ Below w.heap.size w w' := by
  have hb := bel_alloc (Below.refl w.heap.size w) (.cells #[.slice x.k.A x.k.n x.k.c, .int .i64 x.a, .int .i64 x.r.c, .int .i64 x.r.i, .int .i64 (hiI x.r.v), .int .u64 (loI x.r.v), .int .i64 x.r.l, .int .i64 x.r.m] 100)
  unfold KiT.agg
  go_enter Try.func101, Try.ntmps101
  go_wp2
  go_ret
  exact ⟨rfl, hb⟩
set_option maxRecDepth 20000 in
set_option maxHeartbeats 1000000 in
theorem itRed_any (x : ItT) (w : World) (hn : R64 x.n) : Calls Try.prog 97 #[x.agg] w fun e w' => e = .returned (.agg #[.int .i64 x.red.c, .int .i64 x.red.i, .int .i64 (hiI x.red.v), .int .u64 (loI x.red.v), .int .i64 x.red.l, .int .i64 x.red.m]) ∧ Below w.heap.size w w' := by
  have hb := bel_alloc (bel_alloc (Below.refl w.heap.size w) (.cells #[.slice x.k.A x.k.n x.k.c, .slice x.v.A x.v.n x.v.c, .bool x.b, .int .i64 x.n] 94)) (.cells #[.int .i64 0, .int .i64 0, .int .i64 0, .int .u64 0, .int .i64 0, .int .i64 0] 37)
  have ho := fun W => one_any x.k.A x.k.n x.k.c x.v.A x.v.n x.v.c x.b x.n W hn
  have he : oneV x.b x.n = .agg #[.int .i64 x.red.c, .int .i64 x.red.i, .int .i64 (hiI x.red.v), .int .u64 (loI x.red.v), .int .i64 x.red.l, .int .i64 x.red.m] := by
    unfold oneV ItT.red
    cases x.b <;> rfl
  rw [he] at ho
  clear he
  unfold ItT.agg
  unfold itemV at ho
  generalize x.red = r at *
  have hs := Six.new (w.alloc (.cells #[.slice x.k.A x.k.n x.k.c, .slice x.v.A x.v.n x.v.c, .bool x.b, .int .i64 x.n] 94)) (.int .i64 0) (.int .i64 0) (.int .i64 0) (.int .u64 0) (.int .i64 0) (.int .i64 0) 37
  have HS := Lib.hid hs
  clear hs
  go_enter Try.func97, Try.ntmps97
  go_wp2_with fail
  generalize (w.alloc (.cells #[.slice x.k.A x.k.n x.k.c, .slice x.v.A x.v.n x.v.c, .bool x.b, .int .i64 x.n] 94)).alloc (.cells #[.int .i64 0, .int .i64 0, .int .i64 0, .int .u64 0, .int .i64 0, .int .i64 0] 37) = W1 at *
  refine (ho _).mono ?_
  rintro e W2 ⟨rfl, hb2⟩
  rw [World.size_alloc] at HS
  obtain ⟨⟨r0, r1, r2, r3, r4, r5⟩, f0, f1, f2, f3, f4, f5⟩ := HS.out.below hb2 rfl
  have hbz := below_set6 (bel_next hb hb2) (show w.heap.size ≤ w.heap.size + 1 by omega) (a := .int .i64 r.c) (b := .int .i64 r.i) (c := .int .i64 (hiI r.v)) (d := .int .u64 (loI r.v)) (e := .int .i64 r.l) (f := .int .i64 r.m)
  go_wp2
  refine bodyPost_ret (v := .agg #[.int .i64 r.c, .int .i64 r.i, .int .i64 (hiI r.v), .int .u64 (loI r.v), .int .i64 r.l, .int .i64 r.m]) ?_ rfl ⟨rfl, hbz⟩
  simp [results, Try.results97, go_sem, *]
end Go.Proofs.Ytnfohlabmidliaa
/-
  The methods of items and kids: valid, red.
-/
namespace Go.Proofs.Ytnfohlabmidliaa
open Go.RowKit
set_option linter.unusedVariables false

set_option maxRecDepth 20000 in
set_option maxHeartbeats 1000000 in
theorem kiRed_any (x : KiT) (w : World) : Calls Try.prog 102 #[x.agg] w fun e w' => e = .returned (.agg #[.int .i64 x.r.c, .int .i64 x.r.i, .int .i64 (hiI x.r.v), .int .u64 (loI x.r.v), .int .i64 x.r.l, .int .i64 x.r.m]) ∧ Below w.heap.size w w' := by
  have hb := bel_alloc (bel_alloc (Below.refl w.heap.size w) (.cells #[.slice x.k.A x.k.n x.k.c, .int .i64 x.a, .int .i64 x.r.c, .int .i64 x.r.i, .int .i64 (hiI x.r.v), .int .u64 (loI x.r.v), .int .i64 x.r.l, .int .i64 x.r.m] 100)) (.cells #[.int .i64 0, .int .i64 0, .int .i64 0, .int .u64 0, .int .i64 0, .int .i64 0] 37)
  unfold KiT.agg
  obtain ⟨xk, xa, r⟩ := x
  simp only at hb ⊢
  have hbz := below_set6 hb (show w.heap.size ≤ w.heap.size + 1 by omega) (a := .int .i64 r.c) (b := .int .i64 r.i) (c := .int .i64 (hiI r.v)) (d := .int .u64 (loI r.v)) (e := .int .i64 r.l) (f := .int .i64 r.m)
  go_enter Try.func102, Try.ntmps102
  go_wp2
  refine bodyPost_ret (v := .agg #[.int .i64 r.c, .int .i64 r.i, .int .i64 (hiI r.v), .int .u64 (loI r.v), .int .i64 r.l, .int .i64 r.m]) ?_ rfl ⟨rfl, ?_⟩
  · simp [results, Try.results102, go_sem, *]
  · with_reducible first | exact bel_alloc (bel_alloc (Below.refl _ _) _) _ | exact hbz
set_option maxRecDepth 20000 in
set_option maxHeartbeats 1000000 in
theorem itValid_any (x : ItT) (B : Nat) (w : World) (hx : x.Ok w B) : Calls Try.prog 98 #[x.agg] w fun e w' => e = .returned (.bool x.okB) ∧ Below w.heap.size w w' := by
  have hb := bel_alloc (Below.refl w.heap.size w) (.cells #[.slice x.k.A x.k.n x.k.c, .slice x.v.A x.v.n x.v.c, .bool x.b, .int .i64 x.n] 94)
  have hk := fun W => keyFits_any x.k W hx.key.len
  have hvl := hx.val.len
  have hR : x.okB = (keyB x.k.l && decide (x.v.n ≤ 100) && (x.b || decide (x.n = 0))) := by unfold ItT.okB; rw [hvl]
  rw [hR]
  clear hR hvl hx
  unfold ItT.agg
  obtain ⟨⟨kA, kn, kc, kl⟩, ⟨vA, vn, vc, vl⟩, b, n⟩ := x
  simp only at hk hb ⊢
  generalize keyB kl = q at *
  by_cases hv : vn ≤ 100
  · have e2 : decide (vn ≤ 100) = true := by simpa using hv
    rw [e2]
    clear e2
    by_cases hn : n = 0
    · subst hn
      cases q <;> cases b <;>
      · go_enter Try.func98, Try.ntmps98
        go_wp2_with (go_at_call 100; refine (hk _).mono ?_; rintro e w1 ⟨rfl, rfl⟩)
        go_ret
        exact ⟨rfl, hb⟩
    · have e1 : decide (n = 0) = false := by simpa using hn
      have e3 : (n == 0) = false := by simpa using hn
      rw [e1]
      cases q <;> cases b <;>
      · go_enter Try.func98, Try.ntmps98
        go_wp2_with (go_at_call 100; refine (hk _).mono ?_; rintro e w1 ⟨rfl, rfl⟩)
        go_ret
        exact ⟨rfl, hb⟩
  · have e2 : decide (vn ≤ 100) = false := by simpa using hv
    rw [e2]
    clear e2
    cases q <;>
    · go_enter Try.func98, Try.ntmps98
      go_wp2_with (go_at_call 100; refine (hk _).mono ?_; rintro e w1 ⟨rfl, rfl⟩)
      go_ret
      exact ⟨rfl, hb⟩
set_option maxRecDepth 20000 in
set_option maxHeartbeats 2000000 in
theorem kiValid_any (x : KiT) (B : Nat) (w : World) (hx : x.Ok w B) : Calls Try.prog 103 #[x.agg] w fun e w' => e = .returned (.bool x.okB) ∧ Below w.heap.size w w' := by
  have hb := bel_alloc (Below.refl w.heap.size w) (.cells #[.slice x.k.A x.k.n x.k.c, .int .i64 x.a, .int .i64 x.r.c, .int .i64 x.r.i, .int .i64 (hiI x.r.v), .int .u64 (loI x.r.v), .int .i64 x.r.l, .int .i64 x.r.m] 100)
  have hk := fun W => keyFits_any x.k W hx.key.len
  have hc := fun W => mcheck_any x.r.c x.r.i x.r.v x.r.l x.r.m W hx.red.2.2.1 hx.red.2.2.2.1 hx.red.2.2.2.2
  have hR : x.okB = (keyB x.k.l && decide (1 ≤ x.a) && decide (x.a < 524288) && x.r.valid && decide (1 ≤ x.r.c)) := rfl
  have hE : redE x.r.c x.r.i x.r.v x.r.l x.r.m = if x.r.valid = true then 0 else 230 := rfl
  rw [hE] at hc
  rw [hR]
  clear hR hx hE
  unfold KiT.agg
  obtain ⟨⟨kA, kn, kc, kl⟩, a, r⟩ := x
  simp only at hk hb hc ⊢
  unfold redV at hc
  generalize keyB kl = q at *
  generalize r.valid = v at *
  obtain ⟨c, i, s, l, m⟩ := r
  simp only at hk hb hc ⊢
  generalize hiI s = hi at *
  generalize loI s = lo at *
  cases q
  · simp only [Bool.false_and]
    go_enter Try.func103, Try.ntmps103
    go_wp2_with (go_at_call 100; refine (hk _).mono ?_; rintro e w1 ⟨rfl, rfl⟩)
    go_ret
    exact ⟨rfl, hb⟩
  · by_cases h1 : 1 ≤ a
    · by_cases h2 : a < 524288
      · rw [decide_eq_true h1, decide_eq_true h2]
        cases v
        · rw [if_neg Bool.false_ne_true] at hc
          go_enter Try.func103, Try.ntmps103
          go_wp2_with fail
          refine (hk _).mono ?_
          rintro e w1 ⟨rfl, rfl⟩
          go_wp2_with fail
          refine (hc _).mono ?_
          rintro e w1 ⟨rfl, hb1⟩
          have hb := bel_next hb hb1
          go_wp2
          go_ret
          exact ⟨rfl, hb⟩
        · rw [if_pos rfl] at hc
          have hcell : (w.alloc (.cells #[.slice kA kn kc, .int .i64 a, .int .i64 c, .int .i64 i, .int .i64 hi, .int .u64 lo, .int .i64 l, .int .i64 m] 100)).cell? ⟨w.heap.size, 2, none⟩ = some (.int .i64 c) := World.cell?_alloc_new _ _ _ 2
          by_cases h3 : 1 ≤ c
          · rw [decide_eq_true h3]
            go_enter Try.func103, Try.ntmps103
            go_wp2_with fail
            refine (hk _).mono ?_
            rintro e w1 ⟨rfl, rfl⟩
            go_wp2_with fail
            generalize w.alloc (.cells #[.slice kA kn kc, .int .i64 a, .int .i64 c, .int .i64 i, .int .i64 hi, .int .u64 lo, .int .i64 l, .int .i64 m] 100) = W1 at *
            refine (hc _).mono ?_
            rintro e w1 ⟨rfl, hb1⟩
            have hcell := mkept_later hb1 hcell
            have hb := bel_next hb hb1
            go_wp2
            go_ret
            exact ⟨rfl, hb⟩
          · rw [decide_eq_false h3]
            have h4 : (1 ≤ c) = False := eq_false h3
            clear h3
            go_enter Try.func103, Try.ntmps103
            go_wp2_with fail
            refine (hk _).mono ?_
            rintro e w1 ⟨rfl, rfl⟩
            go_wp2_with fail
            generalize w.alloc (.cells #[.slice kA kn kc, .int .i64 a, .int .i64 c, .int .i64 i, .int .i64 hi, .int .u64 lo, .int .i64 l, .int .i64 m] 100) = W1 at *
            refine (hc _).mono ?_
            rintro e w1 ⟨rfl, hb1⟩
            have hcell := mkept_later hb1 hcell
            have hb := bel_next hb hb1
            go_wp2
            go_ret
            exact ⟨rfl, hb⟩
      · rw [decide_eq_false h2]
        go_enter Try.func103, Try.ntmps103
        go_wp2_with (go_at_call 100; refine (hk _).mono ?_; rintro e w1 ⟨rfl, rfl⟩)
        go_ret
        exact ⟨rfl, hb⟩
    · rw [decide_eq_false h1]
      go_enter Try.func103, Try.ntmps103
      go_wp2_with (go_at_call 100; refine (hk _).mono ?_; rintro e w1 ⟨rfl, rfl⟩)
      go_ret
      exact ⟨rfl, hb⟩
end Go.Proofs.Ytnfohlabmidliaa
/-
  make and copy on rows of the call's own. No program in sight.
-/
namespace Go.Proofs.Ytnfohlabmidliaa
open Go.RowKit

section
variable {w : World} {base : Nat} {e : TypeId} {size : Nat}
theorem own_made (w : World) (cs : Array Value) (n cap : Nat) (hb : base ≤ w.heap.size) (hn : n ≤ cap) (hm : cap ≤ maxLen) (hs : cs.size = cap * size) :
    (w.alloc (.cells cs e)).ownsRow base e size (.slice (some ⟨w.heap.size, 0, none⟩) n cap) n (cs.toList.take (n * size)) :=
  ⟨by rw [List.length_take, Array.length_toList, hs]; exact Nat.min_eq_left (Nat.mul_le_mul_right _ hn), .inr ⟨w.heap.size, cap, cs, rfl, hb, heap_alloc_new w _, hn, hm, hs, rfl⟩⟩
theorem own_zeros (w : World) (z : Value) (n cap : Nat) (hb : base ≤ w.heap.size) (hn : n ≤ cap) (hm : cap ≤ maxLen) :
    (w.alloc (.cells (madeCells #[z] cap) e)).ownsRow base e 1 (.slice (some ⟨w.heap.size, 0, none⟩) n cap) n (List.replicate n z) := by
  have h := own_made (base := base) (e := e) (size := 1) w (madeCells #[z] cap) n cap hb hn hm (by rw [size_madeCells, Nat.mul_one])
  rw [toList_madeCells_one, List.take_replicate, Nat.mul_one, Nat.min_eq_left hn] at h
  exact h
end

section
variable {P : Program} {w : World}
/-- 'make' of a slice of elements of one cell. -/
theorem run_make_one {t e : TypeId} {i : TypeInfo} {z : Value} (ht : P.underlying t = some (.slice e)) (hi : P.info? e = some i) (hz : i.zero = some z) (hz1 : z.cells = #[z]) (h1 : i.size = 1)
    (kl kc : IntKind) (l c : Int) (h0 : 0 ≤ l) (hlc : l ≤ c) (hbytes : (i.bytes : Int) * c ≤ 281474976710656) (h63 : c ≤ 9223372036854775807) (w : World) :
    (Instr.makeSlice t (.int kl l) (.int kc c)).run P w = .ok (.slice (some ⟨w.heap.size, 0, none⟩) l.toNat c.toNat) (w.alloc (.cells (madeCells #[z] c.toNat) e)) := by
  have h := run_make (P := P) w t e i z ht hi hz kl kc l c h0 hlc hbytes h63
  rw [hz1, h1, Nat.mul_one] at h
  exact h

theorem splice_take {α : Type} (L cs : List α) (off n : Nat) (h : off + cs.length ≤ n) (hn : n ≤ L.length) : (splice L off cs).take n = splice (L.take n) off cs := by
  unfold splice
  rw [List.take_append, List.take_append, List.length_take, Nat.min_eq_left (by omega), List.take_of_length_le (l := L.take off) (by rw [List.length_take]; omega), List.take_of_length_le (l := cs) (by omega), List.take_take, Nat.min_eq_left (by omega), List.drop_take]
  congr 3
  omega

/-- 'copy' into a row of the call's own. -/
theorem wp_copy_shows {o : Oper} {a : Act} {K : Act → World → Prop} {Q : Exit → Act → World → Prop} (d s : Operand) (dT sT : TypeId)
    (ho : o.op = .call { callee := .builtin .copy, args := #[d, s], argTypes := #[dT, sT] }) (elem : TypeId) (hu : P.underlying dT = some (.slice elem)) (hsz : (P.info? elem).map (·.size) = some 1)
    (base : Nat) (e : TypeId) (g n cap : Nat) (xs : List Value) (hown : w.ownsRow base e 1 (.slice (some ⟨g, 0, none⟩) n cap) n xs)
    (off : Nat) (dp : Option Addr) (dLen dCap : Nat) (hd : a.eval d = .slice dp dLen dCap) (hdp : 0 < dLen → dp = some ⟨g, off, none⟩) (hfit : off + dLen ≤ n)
    (B : Nat) (sp : Option Addr) (sLen sCap : Nat) (news : List Value) (hs : a.eval s = .slice sp sLen sCap) (hr : Shows w B 1 sp sLen news) (h1 : ∀ v ∈ news, v.oneCell' = true)
    (h : ∀ w', w'.ownsRow base e 1 (.slice (some ⟨g, 0, none⟩) n cap) n (splice xs off (news.take dLen)) → w.grownBy w' (some g) → Below base w w' → K (a.put o.dst (goInt ((min sLen dLen : Nat) : Int))) w') :
    o.wp P a w K Q := by
  obtain ⟨hlen, hform⟩ := hown
  rcases hform with ⟨h', _⟩ | ⟨g', cap', cur, h', hbg, hg, hnc, hcm, hcs, htake⟩
  · simp at h'
  · simp only [Value.slice.injEq, Option.some.injEq, Addr.mk.injEq, and_true, true_and] at h'
    obtain ⟨rfl, rfl⟩ := h'
    have hl : (news.take dLen).length = Nat.min sLen dLen := by
      rw [List.length_take, hr.1, Nat.mul_one]
      exact Nat.min_comm _ _
    have hle : (news.take dLen).length ≤ dLen := by rw [hl]; exact Nat.min_le_right _ _
    have hcl : cur.toList.length = cap := by rw [Array.length_toList, hcs, Nat.mul_one]
    have e0 : (goInt ((news.take dLen).length : Nat)) = goInt ((min sLen dLen : Nat) : Int) := by rw [hl]
    by_cases hz : (news.take dLen).length = 0
    · have hrun := run_copy_none (P := P) w dT sT o.type elem dp sp dLen dCap sLen sCap hu hsz (by rw [← hl]; exact hz)
      have hnil : news.take dLen = [] := List.eq_nil_of_length_eq_zero hz
      have hm0 : min sLen dLen = 0 := by rw [hl] at hz; exact hz
      unfold Oper.wp
      simp [execOp, ho, resolve, invoke, builtin, hd, hs, hrun, Result.andThen]
      have hx := h w ⟨by rw [hnil]; simpa [splice] using hlen, .inr ⟨g, cap, cur, rfl, hbg, hg, hnc, hcm, hcs, by rw [hnil]; simpa [splice] using htake⟩⟩ (World.grownBy.refl w _) (Below.refl _ _)
      rw [hm0] at hx
      exact hx
    · have hpos : 0 < Nat.min sLen dLen := by omega
      have hs0 : 0 < sLen := Nat.lt_of_lt_of_le hpos (Nat.min_le_left _ _)
      have hd0 : 0 < dLen := Nat.lt_of_lt_of_le hpos (Nat.min_le_right _ _)
      obtain rfl := hdp hd0
      obtain ⟨b, so, rfl, _, hc⟩ := hr.2 hs0
      have hrun := run_copy_row (P := P) w dT sT o.type elem g off dLen dCap ⟨b, so, none⟩ sLen sCap cur e (news.take dLen) hu hsz hg hl
        (fun j v hj => by
          rw [addr_add]
          rw [List.getElem?_take] at hj
          split at hj
          · exact hc j v hj
          · cases hj) (by rw [hcs]; omega) (fun v hv => h1 v (List.mem_of_mem_take hv))
      unfold Oper.wp
      simp only [execOp, ho, resolve, invoke, builtin, hd, hs, hrun, Sem.run_bind, Sem.run_pure, Result.andThen_ok, List.map_toArray, List.map_cons, List.map_nil]
      rw [e0]
      refine (h _ ⟨?_, .inr ⟨g, cap, _, rfl, hbg, setRow_heap w g cur _ e _ hg, hnc, hcm, ?_, ?_⟩⟩ ?_ ?_)
      · rw [length_splice _ _ _ (by omega), hlen]
      · have := length_splice cur.toList off (news.take dLen) (by omega)
        unfold splice at this
        rw [← List.append_assoc] at this
        simp only [List.size_toArray]
        omega
      · have := splice_take cur.toList (news.take dLen) off (n * 1) (by omega) (by omega)
        rw [htake] at this
        unfold splice at this ⊢
        rw [← List.append_assoc] at this
        exact this
      · exact ⟨rfl, rfl, rfl, by simp [World.setRow], fun k _ hk => setRow_other w g k _ (fun e => hk (by simp [e]))⟩
      · exact below_setRow (Below.refl _ _) hbg _

theorem wpList_copy_shows {ops : Array Oper} {rest : List Oper} {o : Oper} {a : Act} {Q : Exit → Act → World → Prop} (hgd : o.guard = none) (d s : Operand) (dT sT : TypeId)
    (ho : o.op = .call { callee := .builtin .copy, args := #[d, s], argTypes := #[dT, sT] }) (elem : TypeId) (hu : P.underlying dT = some (.slice elem)) (hsz : (P.info? elem).map (·.size) = some 1)
    (base : Nat) (e : TypeId) (g n cap : Nat) (xs : List Value) (hown : w.ownsRow base e 1 (.slice (some ⟨g, 0, none⟩) n cap) n xs)
    (off : Nat) (dp : Option Addr) (dLen dCap : Nat) (hd : a.eval d = .slice dp dLen dCap) (hdp : 0 < dLen → dp = some ⟨g, off, none⟩) (hfit : off + dLen ≤ n)
    (B : Nat) (sp : Option Addr) (sLen sCap : Nat) (news : List Value) (hs : a.eval s = .slice sp sLen sCap) (hr : Shows w B 1 sp sLen news) (h1 : ∀ v ∈ news, v.oneCell' = true)
    (h : ∀ w', w'.ownsRow base e 1 (.slice (some ⟨g, 0, none⟩) n cap) n (splice xs off (news.take dLen)) → w.grownBy w' (some g) → Below base w w' → wpList P ops Q rest (a.put o.dst (goInt ((min sLen dLen : Nat) : Int))) w') :
    wpList P ops Q (o :: rest) a w :=
  wpList_plain hgd fun _ hK => wp_copy_shows d s dT sT ho elem hu hsz base e g n cap xs hown off dp dLen dCap hd hdp hfit B sp sLen sCap news hs hr h1 fun w' h2 h3 h4 => hK _ _ (h w' h2 h3 h4)

theorem step_copy_shows {ops : Array Oper} {o : Oper} {a : Act} {K : Act → World → Prop} {Q : Exit → Act → World → Prop} {E : Prop} (hgd : o.guard = none) (d s : Operand) (dT sT : TypeId)
    (ho : o.op = .call { callee := .builtin .copy, args := #[d, s], argTypes := #[dT, sT] }) (elem : TypeId) (hu : P.underlying dT = some (.slice elem)) (hsz : (P.info? elem).map (·.size) = some 1)
    (base : Nat) (e : TypeId) (g n cap : Nat) (xs : List Value) (hown : w.ownsRow base e 1 (.slice (some ⟨g, 0, none⟩) n cap) n xs)
    (off : Nat) (dp : Option Addr) (dLen dCap : Nat) (hd : a.eval d = .slice dp dLen dCap) (hdp : 0 < dLen → dp = some ⟨g, off, none⟩) (hfit : off + dLen ≤ n)
    (B : Nat) (sp : Option Addr) (sLen sCap : Nat) (news : List Value) (hs : a.eval s = .slice sp sLen sCap) (hr : Shows w B 1 sp sLen news) (h1 : ∀ v ∈ news, v.oneCell' = true)
    (h : ∀ w', w'.ownsRow base e 1 (.slice (some ⟨g, 0, none⟩) n cap) n (splice xs off (news.take dLen)) → w.grownBy w' (some g) → Below base w w' → K (a.put o.dst (goInt ((min sLen dLen : Nat) : Int))) w') :
    if Region.wanted o (yielded ops a.tmps) = true then Oper.wp P o a w K Q else E := by
  have hw : Region.wanted o (yielded ops a.tmps) = true := by simp [Region.wanted, hgd]
  rw [if_pos hw]
  exact wp_copy_shows d s dT sT ho elem hu hsz base e g n cap xs hown off dp dLen dCap hd hdp hfit B sp sLen sCap news hs hr h1 h
end
end Go.Proofs.Ytnfohlabmidliaa
/-
  append onto a row of the call's own, the source given by 'Shows': nil, empty or not. No program in sight.
-/
namespace Go.Proofs.Ytnfohlabmidliaa
open Go.RowKit

section
variable {P : Program} (w : World)

theorem run_append_shows (base : Nat) (t ty e : TypeId) (i : TypeInfo) (z : Value) (size bytes : Nat) (ht : P.underlying t = some (.slice e)) (hi : P.info? e = some i) (hz : i.zero = some z)
    (hsize : i.size = size) (hby : i.bytes = bytes) (hzs : z.cells.size = size) (hsz : 0 < size)
    (v : Value) (n : Nat) (xs : List Value) (hown : w.ownsRow base e size v n xs)
    (B : Nat) (A : Option Addr) (m c : Nat) (news : List Value) (hr : Shows w B size A m news) (h1 : ∀ u ∈ news, u.oneCell' = true)
    (h63 : n + m ≤ maxLen) (hbytes : (n + m) * bytes ≤ 140737488355328) (hbase : base ≤ w.heap.size) :
    ∃ A' c' w', (Builtin.append_ #[t, t] ty #[v, .slice A m c]).run P w = .ok (.slice A' (n + m) c') w' ∧ w'.ownsRow base e size (.slice A' (n + m) c') (n + m) (xs ++ news) ∧ w.grownBy w' v.ownBlock ∧ Below base w w' := by
  have key : ∃ v' w', (Builtin.append_ #[t, t] ty #[v, .slice A m c]).run P w = .ok v' w' ∧ w'.ownsRow base e size v' (n + m) (xs ++ news) ∧ w.grownBy w' v.ownBlock := by
    rcases A with _ | ad
    · have hm : m = 0 := by
        rcases Nat.eq_zero_or_pos m with h0 | h0
        · exact h0
        · obtain ⟨_, _, h, _⟩ := hr.2 h0
          cases h
      subst hm
      have hn : news = [] := List.eq_nil_of_length_eq_zero (by simpa using hr.1)
      subst hn
      refine ⟨v, w, ?_, by simpa using hown, World.grownBy.refl w _⟩
      rcases hown.2 with ⟨rfl, rfl⟩ | ⟨g, cap, cur, rfl, _, _, hnc, _⟩
      · simp [Builtin.append_, run_underlying ht, sizeOf, typeInfo, hi, Builtin.lenOf, Builtin.firstCells]
      · simp [Builtin.append_, run_underlying ht, sizeOf, typeInfo, hi, Builtin.lenOf, Builtin.firstCells, hnc, storeCells]
    · have hcells : ∀ j u, news[j]? = some u → w.cell? (ad.add j) = some u := by
        intro j u hu
        rcases Nat.eq_zero_or_pos m with h0 | h0
        · subst h0
          have hn : news = [] := List.eq_nil_of_length_eq_zero (by simpa using hr.1)
          subst hn
          simp at hu
        · obtain ⟨b, off, h, _, hc⟩ := hr.2 h0
          injection h with h
          subst h
          rw [addr_add]
          exact hc j u hu
      obtain ⟨v', w', hrun, h2, h3, _, _⟩ := run_append_own_at (P := P) w base t ty e i z size bytes ht hi hz hsize hby hzs hsz v n xs hown ad m c news hr.1 hcells h1 h63 hbytes hbase
      exact ⟨v', w', hrun, h2, h3⟩
  obtain ⟨v', w', hrun, h2, h3⟩ := key
  obtain ⟨A', c', rfl, _, _⟩ := own_form h2
  exact ⟨A', c', w', hrun, h2, h3, (Below.refl base w).grown h3 hbase fun k hk => (hown.lt k hk).1⟩

theorem wp_append_shows {o : Oper} {a : Act} {K : Act → World → Prop} {Q : Exit → Act → World → Prop} (s x : Operand) (t : TypeId)
    (ho : o.op = .call { callee := .builtin .append, args := #[s, x], argTypes := #[t, t] })
    (base : Nat) (e : TypeId) (i : TypeInfo) (z : Value) (size bytes : Nat) (ht : P.underlying t = some (.slice e)) (hi : P.info? e = some i) (hz : i.zero = some z)
    (hsize : i.size = size) (hby : i.bytes = bytes) (hzs : z.cells.size = size) (hsz : 0 < size)
    (v : Value) (n : Nat) (xs : List Value) (hs : a.eval s = v) (hown : w.ownsRow base e size v n xs)
    (B : Nat) (A : Option Addr) (m c : Nat) (news : List Value) (hx : a.eval x = .slice A m c) (hr : Shows w B size A m news) (h1 : ∀ u ∈ news, u.oneCell' = true)
    (h63 : n + m ≤ maxLen) (hbytes : (n + m) * bytes ≤ 140737488355328) (hbase : base ≤ w.heap.size)
    (h : ∀ A' c' w', w'.ownsRow base e size (.slice A' (n + m) c') (n + m) (xs ++ news) → w.grownBy w' v.ownBlock → Below base w w' → K (a.put o.dst (.slice A' (n + m) c')) w') :
    o.wp P a w K Q := by
  obtain ⟨A', c', w', hrun, h2, h3, h4⟩ := run_append_shows (P := P) w base t o.type e i z size bytes ht hi hz hsize hby hzs hsz v n xs hown B A m c news hr h1 h63 hbytes hbase
  unfold Oper.wp execOp
  simp only [ho, resolve, invoke, builtin, Sem.run_bind, Sem.run_pure, Result.andThen_ok, List.map_toArray, List.map_cons, List.map_nil, hs, hx, hrun]
  exact h A' c' w' h2 h3 h4

theorem wpList_append_shows {ops : Array Oper} {rest : List Oper} {o : Oper} {a : Act} {Q : Exit → Act → World → Prop} (hgd : o.guard = none) (s x : Operand) (t : TypeId)
    (ho : o.op = .call { callee := .builtin .append, args := #[s, x], argTypes := #[t, t] })
    (base : Nat) (e : TypeId) (i : TypeInfo) (z : Value) (size bytes : Nat) (ht : P.underlying t = some (.slice e)) (hi : P.info? e = some i) (hz : i.zero = some z)
    (hsize : i.size = size) (hby : i.bytes = bytes) (hzs : z.cells.size = size) (hsz : 0 < size)
    (v : Value) (n : Nat) (xs : List Value) (hs : a.eval s = v) (hown : w.ownsRow base e size v n xs)
    (B : Nat) (A : Option Addr) (m c : Nat) (news : List Value) (hx : a.eval x = .slice A m c) (hr : Shows w B size A m news) (h1 : ∀ u ∈ news, u.oneCell' = true)
    (h63 : n + m ≤ maxLen) (hbytes : (n + m) * bytes ≤ 140737488355328) (hbase : base ≤ w.heap.size)
    (h : ∀ A' c' w', w'.ownsRow base e size (.slice A' (n + m) c') (n + m) (xs ++ news) → w.grownBy w' v.ownBlock → Below base w w' → wpList P ops Q rest (a.put o.dst (.slice A' (n + m) c')) w') :
    wpList P ops Q (o :: rest) a w :=
  wpList_plain hgd fun _ hK => wp_append_shows w s x t ho base e i z size bytes ht hi hz hsize hby hzs hsz v n xs hs hown B A m c news hx hr h1 h63 hbytes hbase fun A' c' w' h2 h3 h4 => hK _ _ (h A' c' w' h2 h3 h4)

theorem step_append_shows {ops : Array Oper} {o : Oper} {a : Act} {K : Act → World → Prop} {Q : Exit → Act → World → Prop} {E : Prop} (hgd : o.guard = none) (s x : Operand) (t : TypeId)
    (ho : o.op = .call { callee := .builtin .append, args := #[s, x], argTypes := #[t, t] })
    (base : Nat) (e : TypeId) (i : TypeInfo) (z : Value) (size bytes : Nat) (ht : P.underlying t = some (.slice e)) (hi : P.info? e = some i) (hz : i.zero = some z)
    (hsize : i.size = size) (hby : i.bytes = bytes) (hzs : z.cells.size = size) (hsz : 0 < size)
    (v : Value) (n : Nat) (xs : List Value) (hs : a.eval s = v) (hown : w.ownsRow base e size v n xs)
    (B : Nat) (A : Option Addr) (m c : Nat) (news : List Value) (hx : a.eval x = .slice A m c) (hr : Shows w B size A m news) (h1 : ∀ u ∈ news, u.oneCell' = true)
    (h63 : n + m ≤ maxLen) (hbytes : (n + m) * bytes ≤ 140737488355328) (hbase : base ≤ w.heap.size)
    (h : ∀ A' c' w', w'.ownsRow base e size (.slice A' (n + m) c') (n + m) (xs ++ news) → w.grownBy w' v.ownBlock → Below base w w' → K (a.put o.dst (.slice A' (n + m) c')) w') :
    if Region.wanted o (yielded ops a.tmps) = true then Oper.wp P o a w K Q else E := by
  have hw : Region.wanted o (yielded ops a.tmps) = true := by simp [Region.wanted, hgd]
  rw [if_pos hw]
  exact wp_append_shows w s x t ho base e i z size bytes ht hi hz hsize hby hzs hsz v n xs hs hown B A m c news hx hr h1 h63 hbytes hbase h
end
end Go.Proofs.Ytnfohlabmidliaa
/-
  A region that draws its order, walked by hand, operation by operation: taken first (wanted, or passed over), or carried out; steps that hand on an unnamed world with what it holds. No program in sight.
-/
namespace Go.Proofs.Ytnfohlabmidliaa
open Go.RowKit
set_option linter.unusedVariables false

section
variable {P : Program} {l : List Oper} {Q : Exit → Act → World → Prop} {S : World → Prop}

/-- Operation i is wanted, and yields in every world that meets S: it is taken first. -/
theorem rg_in (i : Nat) {oi : Oper} {v : Value} {fuel : Nat} {listed : Array Bool} {a : Act} {w : World} (hi : l[i]? = some oi)
    (hs : Region.noSelect l.toArray = true) (hf : Region.free .any l.toArray listed i = true) (hr : (Region.ready .any l.toArray listed).contains i = true)
    (hw : Region.wanted oi (yielded l.toArray a.tmps) = true) (hQ : ∀ c a w, Q (.panic c) (a.put oi.dst v) w → Q (.panic c) a w) (hS : S w) (hv : ∀ w, S w → (execOp a.eval oi).run P w = .ok (.value v) w)
    (h : wpAnyH P .any l.toArray Q S fuel (listed.setIfInBounds i true) (a.put oi.dst v) w) : wpAnyH P .any l.toArray Q S (fuel + 1) listed a w :=
  wpAnyH_take (by rw [List.getElem?_toArray]; exact hi) hs hf hr hQ (.inl ⟨hw, hv⟩) hS h
/-- Operation i is not wanted: it is passed over. -/
theorem rg_off (i : Nat) {oi : Oper} {fuel : Nat} {listed : Array Bool} {a : Act} {w : World} (hi : l[i]? = some oi)
    (hs : Region.noSelect l.toArray = true) (hf : Region.free .any l.toArray listed i = true) (hr : (Region.ready .any l.toArray listed).contains i = true)
    (hw : Region.wanted oi (yielded l.toArray a.tmps) = false) (hQ : ∀ c a w, Q (.panic c) (a.put oi.dst undef) w → Q (.panic c) a w) (hS : S w)
    (h : wpAnyH P .any l.toArray Q S fuel (listed.setIfInBounds i true) (a.put oi.dst undef) w) : wpAnyH P .any l.toArray Q S (fuel + 1) listed a w :=
  wpAnyH_take (by rw [List.getElem?_toArray]; exact hi) hs hf hr hQ (.inr ⟨hw, rfl⟩) hS h
/-- Operation i alone may come up: it is carried out. -/
theorem rg_do (i : Nat) {oi : Oper} {fuel : Nat} {listed : Array Bool} {a : Act} {w : World} (hi : l[i]? = some oi)
    (hr : Region.ready .any l.toArray listed = [i])
    (hw : Region.wanted oi (yielded l.toArray a.tmps) = true)
    (h : ∀ K' : Act → World → Prop, Shut (∀ a w, S w → (S w → wpAnyH P .any l.toArray Q S fuel (listed.setIfInBounds i true) a w) → K' a w) → Oper.wp P oi a w K' Q) : wpAnyH P .any l.toArray Q S (fuel + 1) listed a w :=
  wpAnyH_ready hr (by simp) (AllReadyH.cons (by rw [List.getElem?_toArray]; exact hi) (fun K hK => by rw [if_pos hw]; exact h K hK) AllReadyH.nil)
/-- One of several that may come up. -/
theorem rg_cons {i : Nat} {oi : Oper} {rs : List Nat} {fuel : Nat} {listed : Array Bool} {a : Act} {w : World} (hi : l[i]? = some oi)
    (hw : Region.wanted oi (yielded l.toArray a.tmps) = true)
    (h : ∀ K' : Act → World → Prop, Shut (∀ a w, S w → (S w → wpAnyH P .any l.toArray Q S fuel (listed.setIfInBounds i true) a w) → K' a w) → Oper.wp P oi a w K' Q)
    (hs : AllReadyH P .any l.toArray Q S fuel listed a w rs) : AllReadyH P .any l.toArray Q S fuel listed a w (i :: rs) :=
  AllReadyH.cons (by rw [List.getElem?_toArray]; exact hi) (fun K hK => by rw [if_pos hw]; exact h K hK) hs
end

section
variable {P : Program} {w w' : World} {o : Oper} {a : Act} {K : Act → World → Prop} {Q : Exit → Act → World → Prop}
theorem blk_later {g : Nat} {x : Obj} (h : w.heap[g]? = some x) (hb : Below w.heap.size w w') : w'.heap[g]? = some x := (hb.block g (Array.getElem?_eq_some_iff.1 h).1).trans h
theorem blk_lt {g : Nat} {x : Obj} (h : w.heap[g]? = some x) : g < w.heap.size := (Array.getElem?_eq_some_iff.1 h).1
theorem blk_other {g : Nat} {x : Obj} {r : Option Nat} (h : w.heap[g]? = some x) (hg : w.grownBy w' r) (hne : some g ≠ r) : w'.heap[g]? = some x := (hg.block g (blk_lt h) hne).trans h
theorem own_later {base : Nat} {e : TypeId} {size n : Nat} {v : Value} {xs : List Value} (h : w.ownsRow base e size v n xs) (hb : Below w.heap.size w w') : w'.ownsRow base e size v n xs :=
  h.kept (row := none) ⟨hb.os, hb.tape, hb.output, hb.size, fun k hk _ => hb.block k hk⟩ (by cases hv : v.ownBlock; exact .inl rfl; exact .inr (by simp))
/-- A row of one element type and a block of another are apart. -/
theorem own_blk_ne {base g : Nat} {e t : TypeId} {size n : Nat} {v : Value} {xs : List Value} {C : Array Value} {fr : Nat × Nat} (h : w.ownsRow base e size v n xs) (hb : w.heap[g]? = some (.cells C t fr)) (hne : t ≠ e) : some g ≠ v.ownBlock := by
  rcases h.2 with ⟨rfl, _⟩ | ⟨k, cap, cur, rfl, _, hk, _⟩
  · simp [Value.ownBlock]
  · intro hg
    simp only [Value.ownBlock, Option.some.injEq] at hg
    subst hg
    rw [hb] at hk
    simp only [Option.some.injEq, Obj.cells.injEq] at hk
    exact hne hk.2.1
/-- '[]T{}'. -/
theorem step_row0 (t e : TypeId) (ho : o.op = .buildSlice t 0 #[]) (base size : Nat) (i : TypeInfo) (ht : P.underlying t = some (.slice e)) (hi : P.info? e = some i) (hbase : base ≤ w.heap.size)
    (h : ∀ g w', w.heap.size ≤ g → w'.ownsRow base e size (.slice (some ⟨g, 0, none⟩) 0 0) 0 [] → Below w.heap.size w w' → K (a.put o.dst (.slice (some ⟨g, 0, none⟩) 0 0)) w') : o.wp P a w K Q := by
  have h0 := h w.heap.size (w.alloc (.cells #[] e)) (Nat.le_refl _) (World.ownsRow_lit w #[] 0 hbase (Nat.zero_le _) (by simp)) ((Below.refl _ _).alloc (Nat.le_refl _) _)
  have hrun : (Instr.buildSlice t 0 #[]).run P w = .ok (.slice (some ⟨w.heap.size, 0, none⟩) 0 0) (w.alloc (.cells #[] e)) := by
    simp only [Instr.buildSlice, sizeOf, typeInfo]
    simp [run_underlying ht, hi, Instr.fill, newRow, Result.andThen]
    rw [Array.eq_empty_of_size_eq_zero (xs := Array.map (fun x => (default : Value)) (Array.range 0)) (by simp)]
  unfold Oper.wp execOp
  simp only [ho, List.map_toArray, List.map_nil, Sem.run_bind, Sem.run_pure, hrun, Result.andThen_ok]
  exact h0
/-- A new variable. -/
theorem step_alloc (t : TypeId) (ho : o.op = .alloc t) (i : TypeInfo) (z : Value) (hi : P.info? t = some i) (hz : i.zero = some z)
    (h : ∀ g w', w.heap.size ≤ g → w'.heap[g]? = some (.cells z.cells t) → Below w.heap.size w w' → K (a.put o.dst (.pointer (some ⟨g, 0, none⟩))) w') : o.wp P a w K Q := by
  have h0 := h w.heap.size (w.alloc (.cells z.cells t)) (Nat.le_refl _) (heap_alloc_new w _) ((Below.refl _ _).alloc (Nat.le_refl _) _)
  have hrun : (Instr.alloc t true (.tuple #[])).run P w = .ok (.pointer (some ⟨w.heap.size, 0, none⟩)) (w.alloc (.cells z.cells t)) := by
    simp only [Instr.alloc, zeroValue, typeInfo, newVar]
    simp [hi, hz, newRow, Result.andThen]
  unfold Oper.wp execOp
  simp only [ho, Sem.run_bind, Sem.run_pure, hrun, Result.andThen_ok]
  exact h0
/-- append onto '[]T{}'. -/
theorem step_app0 (s x : Operand) (t : TypeId) (ho : o.op = .call { callee := .builtin .append, args := #[s, x], argTypes := #[t, t] })
    (base : Nat) (e : TypeId) (i : TypeInfo) (z : Value) (size bytes : Nat) (ht : P.underlying t = some (.slice e)) (hi : P.info? e = some i) (hz : i.zero = some z)
    (hsize : i.size = size) (hby : i.bytes = bytes) (hzs : z.cells.size = size) (hsz : 0 < size)
    (g : Nat) (hs : a.eval s = .slice (some ⟨g, 0, none⟩) 0 0) (hown : w.ownsRow base e size (.slice (some ⟨g, 0, none⟩) 0 0) 0 [])
    (B : Nat) (A : Option Addr) (m c : Nat) (news : List Value) (hx : a.eval x = .slice A m c) (hr : Shows w B size A m news) (h1 : ∀ u ∈ news, u.oneCell' = true)
    (h63 : m ≤ maxLen) (hbytes : m * bytes ≤ 140737488355328) (hbase : base ≤ w.heap.size)
    (h : ∀ A' c' w', w'.ownsRow base e size (.slice A' m c') m news → Below w.heap.size w w' → K (a.put o.dst (.slice A' m c')) w') : o.wp P a w K Q := by
  rcases Nat.eq_zero_or_pos m with rfl | hm
  · obtain rfl : news = [] := List.eq_nil_of_length_eq_zero (by simpa using hr.1)
    have hrun : (Builtin.append_ #[t, t] o.type #[.slice (some ⟨g, 0, none⟩) 0 0, .slice A 0 c]).run P w = .ok (.slice (some ⟨g, 0, none⟩) 0 0) w := by
      cases A <;> simp [Builtin.append_, run_underlying ht, sizeOf, typeInfo, hi, Builtin.lenOf, Builtin.firstCells, loadCells, loadCellsFrom, storeCells, Result.andThen]
    unfold Oper.wp execOp
    simp only [ho, resolve, invoke, builtin, Sem.run_bind, Sem.run_pure, Result.andThen_ok, List.map_toArray, List.map_cons, List.map_nil, hs, hx, hrun]
    exact h _ _ w hown (Below.refl _ _)
  · obtain ⟨b, off, rfl, hb, hc⟩ := hr.2 hm
    obtain ⟨v', w', hrun, r1, r2⟩ := run_append_arg_grows (P := P) w t o.type e i z size bytes ht hi hz hsize hby hzs hsz ⟨g, 0, none⟩ 0 0 [] (by simp) (by simp) ⟨b, off, none⟩ m c news hr.1 (fun j u hu => by rw [addr_add]; exact hc j u hu) (by omega) (by omega) (by simpa using hbytes)
    unfold Oper.wp
    simp [execOp, ho, resolve, invoke, builtin, hs, hx, hrun, Result.andThen]
    have r1' : w'.ownsRow base e size v' m news := by
      simpa using own_base r1 hbase
    obtain ⟨A', c', rfl, _, _⟩ := own_form r1'
    exact h A' c' w' r1' ⟨r2.os, r2.tape, r2.output, r2.size, fun k hk => r2.block k hk (by simp)⟩
end
end Go.Proofs.Ytnfohlabmidliaa
/-
  entries.
-/
namespace Go.Proofs.Ytnfohlabmidliaa
open Go.RowKit
set_option linter.unusedVariables false

set_option maxRecDepth 20000 in
theorem entry_info : ∃ i, Try.prog.info? 71 = some i ∧ i.zero = some .nilIface ∧ i.size = 1 ∧ i.bytes = 16 := ⟨Try.t71, by kernel_rfl, by kernel_rfl, by kernel_rfl, by kernel_rfl⟩
theorem ent_one (L : List EnT) : ∀ u ∈ L.map EnT.val, u.oneCell' = true := by
  intro u hu
  obtain ⟨x, _, rfl⟩ := List.mem_map.1 hu
  cases x <;> rfl
/-- What a call that gives a row of entries hands back. -/
def GivesEnts (L : List EnT) (W : World) (e : Ending) (w' : World) : Prop :=
  ∃ A n c, e = .returned (.slice A n c) ∧ w'.ownsRow W.heap.size 71 1 (.slice A n c) n (L.map EnT.val) ∧ Below W.heap.size W w'
set_option maxRecDepth 20000 in
theorem wrapI_any (x : ItT) (w : World) : Calls Try.prog 74 #[.agg #[.slice x.k.A x.k.n x.k.c, .slice x.v.A x.v.n x.v.c, .bool x.b, .int .i64 x.n]] w fun e w' => e = .returned (.iface 94 x.agg) ∧ Below w.heap.size w w' := by
  have hb := bel_alloc (Below.refl w.heap.size w) (.cells #[.slice x.k.A x.k.n x.k.c, .slice x.v.A x.v.n x.v.c, .bool x.b, .int .i64 x.n] 58)
  go_enter Try.func74, Try.ntmps74
  go_wp2
  go_ret
  exact ⟨rfl, hb⟩
set_option maxRecDepth 20000 in
theorem wrapK_any (x : KiT) (w : World) : Calls Try.prog 76 #[.agg #[.slice x.k.A x.k.n x.k.c, .int .i64 x.a, .int .i64 x.r.c, .int .i64 x.r.i, .int .i64 (hiI x.r.v), .int .u64 (loI x.r.v), .int .i64 x.r.l, .int .i64 x.r.m]] w fun e w' => e = .returned (.iface 100 x.agg) ∧ Below w.heap.size w w' := by
  have hb := bel_alloc (Below.refl w.heap.size w) (.cells #[.slice x.k.A x.k.n x.k.c, .int .i64 x.a, .int .i64 x.r.c, .int .i64 x.r.i, .int .i64 (hiI x.r.v), .int .u64 (loI x.r.v), .int .i64 x.r.l, .int .i64 x.r.m] 60)
  go_enter Try.func76, Try.ntmps76
  go_wp2
  go_ret
  exact ⟨rfl, hb⟩
theorem ents_new (W : World) (v : Value) (t : TypeId) : Shows (W.alloc (.cells #[v] t)) (W.heap.size + 1) 1 (some ⟨W.heap.size, 0, none⟩) 1 [v] :=
  ⟨rfl, fun _ => ⟨W.heap.size, 0, rfl, by omega, fun j u hu => by
    rw [cell_of_row _ _ _ _ _ _ (heap_alloc_new W _), Nat.zero_add]
    simpa using hu⟩⟩
set_option maxRecDepth 20000 in
set_option maxHeartbeats 2000000 in
theorem entriesI_any (A : Option Addr) (n c B : Nat) (L : List ItT) (w : World) (h : Shows w B 4 A n (L.flatMap ItT.cells)) (hB : B ≤ w.heap.size) (hn : n ≤ 6) :
    Calls Try.prog 73 #[.slice A n c, .func (.func 74) #[] #[]] w (GivesEnts (L.map .it) w) := by
  obtain ⟨i0, hi, hz0, hz1, hz2⟩ := entry_info
  have hmk := fun W => run_make_one (P := Try.prog) Try.underlying66 hi hz0 rfl hz1 .i64 .i64 0 (n : Int) (by omega) (by omega) (by rw [hz2]; omega) (by omega) W
  have ho := own_zeros (base := w.heap.size) (e := 71) w .nilIface 0 n (Nat.le_refl _) (Nat.zero_le _) (by unfold maxLen; omega)
  have hb1 := bel_alloc (Below.refl w.heap.size w) (.cells (madeCells #[.nilIface] n) 71)
  have hl : L.length = n := by have := h.1; rw [flatN_len ItT.cells 4 (fun _ => rfl)] at this; omega
  have HL := Lib.hid hl
  rw [Int.toNat_natCast, show (0 : Int).toNat = 0 from rfl] at hmk
  have H0 := Lib.hid h
  have HO := Lib.hid ho
  clear h hl ho
  go_enter Try.func73, Try.ntmps73
  go_wp2
  generalize w.alloc (.cells (madeCells #[.nilIface] n) 71) = W1 at *
  clear hmk
  go_loopw [5, 13] (fun v y wr => ∃ (k : Nat) (A1 : Option Addr) (c1 : Nat), k ≤ n ∧ y = .int .i64 k ∧ v = .slice A1 k c1 ∧ Hid (wr.ownsRow w.heap.size 71 1 (.slice A1 k c1) k (((L.take k).map EnT.it).map EnT.val)) ∧ Below w.heap.size w wr) (fun _ y _ => n - (intOf y).toNat)
  case atStart => exact ⟨0, some ⟨w.heap.size, 0, none⟩, n, Nat.zero_le _, rfl, rfl, Lib.hid HO.out, hb1⟩
  case round =>
    clear hb1 HO
    obtain ⟨k, A1, c1, hk, rfl, rfl, HO, hbr⟩ := hrel
    by_cases hlt : k < n
    · obtain ⟨b, off, x, rfl, hbB, hx, x0, x1, x2, x3⟩ := it_at (H0.out.below (hbr.mono hB)) hlt
      have HX := Lib.hid (takeN hx)
      have hlt' : (k : Int) < (n : Int) := by omega
      clear hx
      go_wp2_with fail
      have hba := bel_alloc hbr (.cells #[.slice x.k.A x.k.n x.k.c, .slice x.v.A x.v.n x.v.c, .bool x.b, .int .i64 x.n] 58)
      have HOa := Lib.hid (HO.out.alloc (.cells #[.slice x.k.A x.k.n x.k.c, .slice x.v.A x.v.n x.v.c, .bool x.b, .int .i64 x.n] 58))
      clear x0 x1 x2 x3 hbr HO
      generalize wr.alloc (.cells #[.slice x.k.A x.k.n x.k.c, .slice x.v.A x.v.n x.v.c, .bool x.b, .int .i64 x.n] 58) = wa at *
      refine (wrapI_any x _).mono ?_
      rintro e w2 ⟨rfl, hb2⟩
      have hs2 := hba.size
      have hn6 := own_later HOa.out (bel_alloc hb2 (.cells #[.iface 94 x.agg] 71))
      have hb3 := bel_alloc (bel_next hba hb2) (.cells #[.iface 94 x.agg] 71)
      have hs6 := ents_new w2 (.iface 94 x.agg) 71
      have hz6 : w.heap.size ≤ (w2.alloc (.cells #[.iface 94 x.agg] 71)).heap.size := hb3.size
      have h63 : k + 1 ≤ maxLen := by unfold maxLen; omega
      have hbt : (k + 1) * 16 ≤ 140737488355328 := by omega
      have ho1 : ∀ u ∈ [Value.iface 94 x.agg], u.oneCell' = true := ent_one [.it x]
      obtain ⟨pv, hpv⟩ : ∃ pv, x.agg = pv := ⟨_, rfl⟩
      have HV := Lib.hid (show Value.iface 94 pv = (EnT.it x).val by rw [← hpv]; rfl)
      rw [hpv] at hn6 hb3 hs6 hz6 ho1 ⊢
      clear hpv
      clear hba HOa hb2 hs2
      go_wp2_with (at_builtin; refine wpList_append_shows _ rfl _ _ 66 rfl w.heap.size 71 i0 .nilIface 1 16 Try.underlying66 hi hz0 hz1 hz2 rfl (by decide) _ _ _ rfl hn6 _ _ 1 _ _ rfl hs6 ho1 h63 hbt hz6 ?_; intro A7 c7 w7 hown7 hgrow7 hb7; have HO7 := Lib.hid hown7; have HB7 := Lib.hid (hb3.trans hb7); clear hown7 hgrow7 hb7 hn6 hs6 h63 hbt hz6 ho1 hb3)
      go_roundw
      case rel => exact ⟨k + 1, A7, c7, by omega, by go_num, rfl, Lib.hid (by rw [HX.out, List.map_append, List.map_append, List.map_singleton, List.map_singleton, ← HV.out]; exact HO7.out), HB7.out⟩
      case measure => simp [intOf]; omega
    · obtain rfl : n = k := by omega
      have htk : L.take n = L := List.take_of_length_le (by rw [HL.out]; exact Nat.le_refl _)
      have HO2 := Lib.hid (by have h := HO.out; rw [htk] at h; exact h)
      have hb2 := hbr
      clear htk HO
      go_wp2
      go_ret
      exact ⟨A1, n, c1, rfl, HO2.out, hb2⟩
set_option maxRecDepth 20000 in
set_option maxHeartbeats 2000000 in
theorem entriesK_any (A : Option Addr) (n c B : Nat) (L : List KiT) (w : World) (h : Shows w B 8 A n (L.flatMap KiT.cells)) (hB : B ≤ w.heap.size) (hn : n ≤ 6) :
    Calls Try.prog 75 #[.slice A n c, .func (.func 76) #[] #[]] w (GivesEnts (L.map .ki) w) := by
  obtain ⟨i0, hi, hz0, hz1, hz2⟩ := entry_info
  have hmk := fun W => run_make_one (P := Try.prog) Try.underlying66 hi hz0 rfl hz1 .i64 .i64 0 (n : Int) (by omega) (by omega) (by rw [hz2]; omega) (by omega) W
  have ho := own_zeros (base := w.heap.size) (e := 71) w .nilIface 0 n (Nat.le_refl _) (Nat.zero_le _) (by unfold maxLen; omega)
  have hb1 := bel_alloc (Below.refl w.heap.size w) (.cells (madeCells #[.nilIface] n) 71)
  have hl : L.length = n := by have := h.1; rw [flatN_len KiT.cells 8 (fun _ => rfl)] at this; omega
  have HL := Lib.hid hl
  rw [Int.toNat_natCast, show (0 : Int).toNat = 0 from rfl] at hmk
  have H0 := Lib.hid h
  have HO := Lib.hid ho
  clear h hl ho
  go_enter Try.func75, Try.ntmps75
  go_wp2
  generalize w.alloc (.cells (madeCells #[.nilIface] n) 71) = W1 at *
  clear hmk
  go_loopw [5, 13] (fun v y wr => ∃ (k : Nat) (A1 : Option Addr) (c1 : Nat), k ≤ n ∧ y = .int .i64 k ∧ v = .slice A1 k c1 ∧ Hid (wr.ownsRow w.heap.size 71 1 (.slice A1 k c1) k (((L.take k).map EnT.ki).map EnT.val)) ∧ Below w.heap.size w wr) (fun _ y _ => n - (intOf y).toNat)
  case atStart => exact ⟨0, some ⟨w.heap.size, 0, none⟩, n, Nat.zero_le _, rfl, rfl, Lib.hid HO.out, hb1⟩
  case round =>
    clear hb1 HO
    obtain ⟨k, A1, c1, hk, rfl, rfl, HO, hbr⟩ := hrel
    by_cases hlt : k < n
    · obtain ⟨b, off, x, rfl, hbB, hx, x0, x1, x2, x3, x4, x5, x6, x7⟩ := ki_at (H0.out.below (hbr.mono hB)) hlt
      have HX := Lib.hid (takeN hx)
      have hlt' : (k : Int) < (n : Int) := by omega
      clear hx
      go_wp2_with fail
      have hba := bel_alloc hbr (.cells #[.slice x.k.A x.k.n x.k.c, .int .i64 x.a, .int .i64 x.r.c, .int .i64 x.r.i, .int .i64 (hiI x.r.v), .int .u64 (loI x.r.v), .int .i64 x.r.l, .int .i64 x.r.m] 60)
      have HOa := Lib.hid (HO.out.alloc (.cells #[.slice x.k.A x.k.n x.k.c, .int .i64 x.a, .int .i64 x.r.c, .int .i64 x.r.i, .int .i64 (hiI x.r.v), .int .u64 (loI x.r.v), .int .i64 x.r.l, .int .i64 x.r.m] 60))
      clear x0 x1 x2 x3 x4 x5 x6 x7 hbr HO
      generalize wr.alloc (.cells #[.slice x.k.A x.k.n x.k.c, .int .i64 x.a, .int .i64 x.r.c, .int .i64 x.r.i, .int .i64 (hiI x.r.v), .int .u64 (loI x.r.v), .int .i64 x.r.l, .int .i64 x.r.m] 60) = wa at *
      refine (wrapK_any x _).mono ?_
      rintro e w2 ⟨rfl, hb2⟩
      have hs2 := hba.size
      have hn6 := own_later HOa.out (bel_alloc hb2 (.cells #[.iface 100 x.agg] 71))
      have hb3 := bel_alloc (bel_next hba hb2) (.cells #[.iface 100 x.agg] 71)
      have hs6 := ents_new w2 (.iface 100 x.agg) 71
      have hz6 : w.heap.size ≤ (w2.alloc (.cells #[.iface 100 x.agg] 71)).heap.size := hb3.size
      have h63 : k + 1 ≤ maxLen := by unfold maxLen; omega
      have hbt : (k + 1) * 16 ≤ 140737488355328 := by omega
      have ho1 : ∀ u ∈ [Value.iface 100 x.agg], u.oneCell' = true := ent_one [.ki x]
      obtain ⟨pv, hpv⟩ : ∃ pv, x.agg = pv := ⟨_, rfl⟩
      have HV := Lib.hid (show Value.iface 100 pv = (EnT.ki x).val by rw [← hpv]; rfl)
      rw [hpv] at hn6 hb3 hs6 hz6 ho1 ⊢
      clear hpv
      clear hba HOa hb2 hs2
      go_wp2_with (at_builtin; refine wpList_append_shows _ rfl _ _ 66 rfl w.heap.size 71 i0 .nilIface 1 16 Try.underlying66 hi hz0 hz1 hz2 rfl (by decide) _ _ _ rfl hn6 _ _ 1 _ _ rfl hs6 ho1 h63 hbt hz6 ?_; intro A7 c7 w7 hown7 hgrow7 hb7; have HO7 := Lib.hid hown7; have HB7 := Lib.hid (hb3.trans hb7); clear hown7 hgrow7 hb7 hn6 hs6 h63 hbt hz6 ho1 hb3)
      go_roundw
      case rel => exact ⟨k + 1, A7, c7, by omega, by go_num, rfl, Lib.hid (by rw [HX.out, List.map_append, List.map_append, List.map_singleton, List.map_singleton, ← HV.out]; exact HO7.out), HB7.out⟩
      case measure => simp [intOf]; omega
    · obtain rfl : n = k := by omega
      have htk : L.take n = L := List.take_of_length_le (by rw [HL.out]; exact Nat.le_refl _)
      have HO2 := Lib.hid (by have h := HO.out; rw [htk] at h; exact h)
      have hb2 := hbr
      clear htk HO
      go_wp2
      go_ret
      exact ⟨A1, n, c1, rfl, HO2.out, hb2⟩
end Go.Proofs.Ytnfohlabmidliaa
/-
  entriesOf.
-/
namespace Go.Proofs.Ytnfohlabmidliaa
open Go.RowKit
set_option linter.unusedVariables false

/-- Three cells of a node's box. -/
def NBox (W : World) (g : Nat) (a b c : Value) : Prop :=
  (W.cell? ⟨g, 0, none⟩ = some a ∧ W.cell? ⟨g, 1, none⟩ = some b ∧ W.cell? ⟨g, 2, none⟩ = some c) ∧ W.frozen? ⟨g, 0, none⟩ = false ∧ W.frozen? ⟨g, 1, none⟩ = false ∧ W.frozen? ⟨g, 2, none⟩ = false
theorem NBox.new (W : World) (a b c : Value) (t : TypeId) : NBox (W.alloc (.cells #[a, b, c] t)) W.heap.size a b c :=
  ⟨⟨World.cell?_alloc_new _ _ _ 0, World.cell?_alloc_new _ _ _ 1, World.cell?_alloc_new _ _ _ 2⟩, new_frozen (Below.refl _ _) 0, new_frozen (Below.refl _ _) 1, new_frozen (Below.refl _ _) 2⟩
theorem NBox.later {W W' : World} {g : Nat} {a b c : Value} (h : NBox W g a b c) (hb : Below W.heap.size W W') : NBox W' g a b c := by
  obtain ⟨⟨r0, r1, r2⟩, f0, f1, f2⟩ := h
  exact ⟨⟨mkept_later hb r0, mkept_later hb r1, mkept_later hb r2⟩, (hb.frozen (World.block_lt_of_cell? W _ r0)).trans f0, (hb.frozen (World.block_lt_of_cell? W _ r1)).trans f1, (hb.frozen (World.block_lt_of_cell? W _ r2)).trans f2⟩
theorem NBox.cells {W : World} {g : Nat} {a b c : Value} (h : NBox W g a b c) : W.cell? ⟨g, 0, none⟩ = some a ∧ W.cell? ⟨g, 1, none⟩ = some b ∧ W.cell? ⟨g, 2, none⟩ = some c := h.1

set_option maxRecDepth 20000 in
set_option maxHeartbeats 2000000 in
theorem entriesOf_no (X : NoT) (w : World) (hs : X.shape = false) :
    Calls Try.prog 53 #[X.agg] w fun e w' => e = .returned (.tuple #[.slice none 0 0, .bool false]) ∧ Below w.heap.size w w' := by
  have hb := bel_alloc (Below.refl w.heap.size w) (.cells #[.bool X.leaf, .slice X.iA X.iN X.iC, .slice X.kA X.kN X.kC] 25)
  unfold NoT.shape at hs
  unfold NoT.agg
  obtain ⟨leaf, iA, iN, iC, I, kA, kN, kC, K⟩ := X
  simp only at hs hb ⊢
  cases leaf
  · rw [if_neg Bool.false_ne_true] at hs
    have hs' := of_decide_eq_false hs
    clear hs
    by_cases h1 : iN = 0
    · subst h1
      by_cases h2 : 2 ≤ kN
      · have h2' : (2 : Int) ≤ (kN : Int) := by omega
        have h3 : ¬ (kN : Int) ≤ 6 := by omega
        clear hs'
        go_enter Try.func53, Try.ntmps53
        go_wp2
        go_ret2
        exact ⟨rfl, hb⟩
      · have h2' : ((2 : Int) ≤ (kN : Int)) = False := by simp; omega
        clear hs' h2
        go_enter Try.func53, Try.ntmps53
        go_wp2
        go_ret2
        exact ⟨rfl, hb⟩
    · have h1' : ¬ (iN : Int) = 0 := by omega
      clear hs' h1
      go_enter Try.func53, Try.ntmps53
      go_wp2
      go_ret2
      exact ⟨rfl, hb⟩
  · rw [if_pos rfl] at hs
    have hs' := of_decide_eq_false hs
    clear hs
    by_cases h1 : kN = 0
    · subst h1
      by_cases h2 : 1 ≤ iN
      · have h2' : (1 : Int) ≤ (iN : Int) := by omega
        have h3 : ¬ (iN : Int) ≤ 6 := by omega
        clear hs'
        go_enter Try.func53, Try.ntmps53
        go_wp2
        go_ret2
        exact ⟨rfl, hb⟩
      · have h2' : ((1 : Int) ≤ (iN : Int)) = False := by simp; omega
        clear hs' h2
        go_enter Try.func53, Try.ntmps53
        go_wp2
        go_ret2
        exact ⟨rfl, hb⟩
    · have h1' : ¬ (kN : Int) = 0 := by omega
      clear hs' h1
      go_enter Try.func53, Try.ntmps53
      go_wp2
      go_ret2
      exact ⟨rfl, hb⟩
/-- The entries that a call hands back beside true. -/
def GivesEntsT (L : List EnT) (W : World) (e : Ending) (w' : World) : Prop :=
  ∃ A n c, e = .returned (.tuple #[.slice A n c, .bool true]) ∧ w'.ownsRow W.heap.size 71 1 (.slice A n c) n (L.map EnT.val) ∧ Below W.heap.size W w'
set_option maxRecDepth 20000 in
set_option maxHeartbeats 2000000 in
theorem entriesOf_yes (X : NoT) (B : Nat) (w : World) (hX : LieN w B X) (hB : B ≤ w.heap.size) (hs : X.shape = true) :
    Calls Try.prog 53 #[X.agg] w (GivesEntsT X.ents w) := by
  have hb := bel_alloc (Below.refl w.heap.size w) (.cells #[.bool X.leaf, .slice X.iA X.iN X.iC, .slice X.kA X.kN X.kC] 25)
  have hX1 := hX.later (hb.mono hB)
  have hi := fun h => entriesI_any X.iA X.iN X.iC B X.I _ hX1.irow (Nat.le_trans hB hb.size) h
  have hk := fun h => entriesK_any X.kA X.kN X.kC B X.K _ hX1.krow (Nat.le_trans hB hb.size) h
  clear hX hX1
  unfold NoT.shape at hs
  unfold NoT.agg NoT.ents
  obtain ⟨leaf, iA, iN, iC, I, kA, kN, kC, K⟩ := X
  simp only at hs hb hi hk ⊢
  cases leaf
  · rw [if_neg Bool.false_ne_true] at hs ⊢
    obtain ⟨rfl, h1, h2⟩ := of_decide_eq_true hs
    have h1' : (2 : Int) ≤ (kN : Int) := by omega
    have h2' : (kN : Int) ≤ 6 := by omega
    clear hs hi
    have hk := hk h2
    clear h1 h2
    go_enter Try.func53, Try.ntmps53
    go_wp2_with fail
    refine hk.mono ?_
    rintro e w1 ⟨A, n, c, rfl, hO, hb1⟩
    have hO := own_base hO (show w.heap.size ≤ _ by rw [World.size_alloc]; omega)
    have hb := bel_next hb hb1
    clear hk hb1
    go_wp2
    go_ret2
    exact ⟨A, n, c, rfl, hO, hb⟩
  · rw [if_pos rfl] at hs ⊢
    obtain ⟨rfl, h1, h2⟩ := of_decide_eq_true hs
    have h1' : (1 : Int) ≤ (iN : Int) := by omega
    have h2' : (iN : Int) ≤ 6 := by omega
    clear hs hk
    have hi := hi h2
    clear h1 h2
    go_enter Try.func53, Try.ntmps53
    go_wp2_with fail
    refine hi.mono ?_
    rintro e w1 ⟨A, n, c, rfl, hO, hb1⟩
    have hO := own_base hO (show w.heap.size ≤ _ by rw [World.size_alloc]; omega)
    have hb := bel_next hb hb1
    clear hi hb1
    go_wp2
    go_ret2
    exact ⟨A, n, c, rfl, hO, hb⟩
end Go.Proofs.Ytnfohlabmidliaa
