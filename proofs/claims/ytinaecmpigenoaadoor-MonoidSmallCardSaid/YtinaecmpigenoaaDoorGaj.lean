import Derived.Test.YtinaecmpigenoaaDoorGai
import Derived.Test.YtinaecmpigenoaaDoorGac
import Derived.Test.YtinaecmpigenoaaDoorGae
import Derived.Test.YtinaecmpigenoaaDoorGah
import Derived.Test.YtinaecmpigenoaaDoorGab
import Derived.Test.YtinaecmpigenoaaDoorGad
import Derived.Deep.RegionHeld3
import Derived.Great.BuildSlice
/-
  Layer 4: List.
-/
namespace Go.Proofs.YtinaecmpigenoaaDoor
open Go.RowKit
set_option linter.unusedVariables false

def chkT (T : VT) : VT := if T.ok = true then T else scV 0 0 ⟨#[]⟩
def chkE (T : VT) : Int := if T.ok = true then 0 else 140
theorem chkR_T (T : VT) : chkR T = .tuple #[(chkT T).agg, .int .i64 (chkE T)] := by unfold chkR chkT chkE; split <;> rfl
theorem chkT_ok {T : VT} (h : T.ok = true) : chkT T = T := by unfold chkT; rw [if_pos h]
theorem chkE_ok {T : VT} (h : T.ok = true) : chkE T = 0 := by unfold chkE; rw [if_pos h]
theorem chkE_no {T : VT} (h : T.ok = false) : chkE T = 140 := by unfold chkE; rw [h]; rfl
theorem chkT_no {T : VT} (h : T.ok = false) : chkT T = scV 0 0 ⟨#[]⟩ := by unfold chkT; rw [h]; rfl
/-- A list of these. -/
abbrev lsV (A : Option Addr) (n c : Nat) (l : List VT) : VT := .mk 5 0 ⟨#[]⟩ A n c none 0 0 [] l
theorem lie_ls {W : World} {b n c : Nat} {A : Option Addr} {l : List VT} (ho : W.ownsRow b 39 5 (.slice A n c) n (l.flatMap VT.cells)) (hl : ∀ x ∈ l, Lie W W.heap.size x) : Lie W W.heap.size (lsV A n c l) := by
  have hf := own_form ho
  obtain ⟨A', c', e, h1, h2⟩ := hf
  injection e with e1 e2 e3
  subst e1; subst e3
  refine .mk (Shows.own ho) (Shows.zero none) ⟨by decide, by decide, by decide, h1, h2, ?_, Nat.le_refl _, by decide, fun _ => rfl, by simp⟩ hl
  intro hA
  rcases ho.2 with ⟨e, _⟩ | ⟨g, cap, cur, e, _⟩
  · injection e
  · injection e with e1; rw [hA] at e1; cases e1
end Go.Proofs.YtinaecmpigenoaaDoor
/-
  Layer 13: what is told, as a tree: whole numbers, nothing, and the object of stats.
-/
namespace Go.Proofs.YtinaecmpigenoaaDoor
open Go.RowKit
set_option linter.unusedVariables false

/-- A kind and a number that may be together: nothing, or a whole number. -/
def LeafK (k x : Int) : Prop := (k = 1 ∧ x = 0) ∨ k = 3
theorem leaf_ok {k x : Int} (h : LeafK k x) : (scV k x ⟨#[]⟩).ok = true := by
  refine sc_ok _ _ _ ?_ ?_
  · rcases h with ⟨rfl, rfl⟩ | rfl <;> decide
  · unfold scV
    rw [fit_mk, strB_nil]
    rcases h with ⟨rfl, rfl⟩ | rfl
    · decide
    · have h2 : numB 3 x = true := rfl
      rw [h2]
      decide
theorem leaf_same {k x : Int} (h : LeafK k x) : sameR (scV k x ⟨#[]⟩) (scV k x ⟨#[]⟩) = true := by
  unfold sameR
  rw [leaf_ok h, (sameV_iff _ _).2 rfl]
  rfl
theorem leaf_all {k x : Int} (h : LeafK k x) : (scV k x ⟨#[]⟩).all = true := by
  have := leaf_ok h
  unfold VT.ok at this
  simp only [Bool.and_eq_true] at this
  exact this.2.2
theorem leaf_lie {k x : Int} (h : LeafK k x) (hx : R64 x) (w : World) (B : Nat) : Lie w B (scV k x ⟨#[]⟩) := by
  refine lie_sc _ _ _ _ _ ?_ ?_ (by decide)
  · rcases h with ⟨rfl, rfl⟩ | rfl <;> decide
  · unfold R64 at hx
    show (decide (IntKind.i64.min ≤ x) && decide (x ≤ IntKind.i64.max)) = true
    rw [Bool.and_eq_true, decide_eq_true_iff, decide_eq_true_iff]
    exact ⟨hx.1, by show x ≤ 9223372036854775807; omega⟩
/-- The object of stats. -/
def statT (gk gs : Nat) (c k1 x1 k2 x2 i y : Int) : VT :=
  .mk 6 0 ⟨#[]⟩ (some ⟨gk, 0, none⟩) 5 5 (some ⟨gs, 0, none⟩) 5 5 [⟨#[99, 111, 117, 110, 116]⟩, ⟨#[109, 97, 120]⟩, ⟨#[109, 105, 110]⟩, ⟨#[110, 117, 109, 98, 101, 114, 115]⟩, ⟨#[115, 117, 109]⟩] [scV 3 c ⟨#[]⟩, scV k1 x1 ⟨#[]⟩, scV k2 x2 ⟨#[]⟩, scV 3 i ⟨#[]⟩, scV 3 y ⟨#[]⟩]
theorem stat_keys : memB 6 5 5 [⟨#[99, 111, 117, 110, 116]⟩, ⟨#[109, 97, 120]⟩, ⟨#[109, 105, 110]⟩, ⟨#[110, 117, 109, 98, 101, 114, 115]⟩, ⟨#[115, 117, 109]⟩] = true := by
  have v0 : validS ⟨#[99, 111, 117, 110, 116]⟩ = true := validS_of [99, 111, 117, 110, 116] _ (by intro c hc; simp only [List.mem_cons, List.not_mem_nil, or_false] at hc; rcases hc with rfl | rfl | rfl | rfl | rfl <;> decide) (by decide)
  have v1 : validS ⟨#[109, 97, 120]⟩ = true := validS_of [109, 97, 120] _ (by intro c hc; simp only [List.mem_cons, List.not_mem_nil, or_false] at hc; rcases hc with rfl | rfl | rfl <;> decide) (by decide)
  have v2 : validS ⟨#[109, 105, 110]⟩ = true := validS_of [109, 105, 110] _ (by intro c hc; simp only [List.mem_cons, List.not_mem_nil, or_false] at hc; rcases hc with rfl | rfl | rfl <;> decide) (by decide)
  have v3 : validS ⟨#[110, 117, 109, 98, 101, 114, 115]⟩ = true := validS_of [110, 117, 109, 98, 101, 114, 115] _ (by intro c hc; simp only [List.mem_cons, List.not_mem_nil, or_false] at hc; rcases hc with rfl | rfl | rfl | rfl | rfl | rfl | rfl <;> decide) (by decide)
  have v4 : validS ⟨#[115, 117, 109]⟩ = true := validS_of [115, 117, 109] _ (by intro c hc; simp only [List.mem_cons, List.not_mem_nil, or_false] at hc; rcases hc with rfl | rfl | rfl <;> decide) (by decide)
  unfold memB memQ
  rw [if_pos (by decide)]
  simp only [Bool.and_eq_true]
  refine ⟨by decide, ?_⟩
  rw [keysB_iff]
  intro i hi
  have hi : i < 5 := hi
  obtain rfl | rfl | rfl | rfl | rfl : i = 0 ∨ i = 1 ∨ i = 2 ∨ i = 3 ∨ i = 4 := by omega
  · show (validS ⟨#[99, 111, 117, 110, 116]⟩ && true) = true
    rw [v0]; rfl
  · show (validS ⟨#[109, 97, 120]⟩ && Op.bytesLess (ByteArray.toList ⟨#[99, 111, 117, 110, 116]⟩) (ByteArray.toList ⟨#[109, 97, 120]⟩)) = true
    rw [v1, ByteArray.toList_eq, ByteArray.toList_eq]; decide
  · show (validS ⟨#[109, 105, 110]⟩ && Op.bytesLess (ByteArray.toList ⟨#[109, 97, 120]⟩) (ByteArray.toList ⟨#[109, 105, 110]⟩)) = true
    rw [v2, ByteArray.toList_eq, ByteArray.toList_eq]; decide
  · show (validS ⟨#[110, 117, 109, 98, 101, 114, 115]⟩ && Op.bytesLess (ByteArray.toList ⟨#[109, 105, 110]⟩) (ByteArray.toList ⟨#[110, 117, 109, 98, 101, 114, 115]⟩)) = true
    rw [v3, ByteArray.toList_eq, ByteArray.toList_eq]; decide
  · show (validS ⟨#[115, 117, 109]⟩ && Op.bytesLess (ByteArray.toList ⟨#[110, 117, 109, 98, 101, 114, 115]⟩) (ByteArray.toList ⟨#[115, 117, 109]⟩)) = true
    rw [v4, ByteArray.toList_eq, ByteArray.toList_eq]; decide
theorem leaf_dep {k x : Int} (h : LeafK k x) : (scV k x ⟨#[]⟩).dep = 0 := by
  rw [sc_dep]
  rcases h with ⟨rfl, _⟩ | rfl <;> decide
theorem stat_ok {gk gs : Nat} {c k1 x1 k2 x2 i y : Int} (h1 : LeafK k1 x1) (h2 : LeafK k2 x2) : (statT gk gs c k1 x1 k2 x2 i y).ok = true := by
  have l3 : ∀ n, LeafK 3 n := fun n => .inr rfl
  unfold VT.ok statT
  rw [dep_mk, cnt_mk, all_mk, fit_mk]
  simp only [List.map_cons, List.map_nil, List.all_cons, List.all_nil, leaf_dep h1, leaf_dep h2, leaf_dep (l3 _), sc_cnt, leaf_all h1, leaf_all h2, leaf_all (l3 _)]
  rw [strB_nil, stat_keys]
  decide
theorem stat_lie {w : World} {B gk gs : Nat} {c k1 x1 k2 x2 i y : Int} (h1 : LeafK k1 x1) (h2 : LeafK k2 x2) (b1 : R64 x1) (b2 : R64 x2) (bc : R64 c) (bi : R64 i) (bY : R64 y) (hk : Shows w B 5 (some ⟨gk, 0, none⟩) 5 (statKids c k1 x1 k2 x2 i y)) (hs : Shows w B 1 (some ⟨gs, 0, none⟩) 5 statKeys) : Lie w B (statT gk gs c k1 x1 k2 x2 i y) := by
  refine .mk hk hs ⟨by decide, by decide, by decide, Nat.le_refl _, by decide, (fun h => by cases h), Nat.le_refl _, by decide, (fun h => by cases h), fun x hx => ?_⟩ fun x hx => ?_
  · simp only [List.mem_cons, List.not_mem_nil, or_false] at hx
    rcases hx with rfl | rfl | rfl | rfl | rfl <;> decide
  · simp only [List.mem_cons, List.not_mem_nil, or_false] at hx
    rcases hx with rfl | rfl | rfl | rfl | rfl
    · exact leaf_lie (.inr rfl) bc w B
    · exact leaf_lie h1 b1 w B
    · exact leaf_lie h2 b2 w B
    · exact leaf_lie (.inr rfl) bi w B
    · exact leaf_lie (.inr rfl) bY w B
end Go.Proofs.YtinaecmpigenoaaDoor
/-
  Package monoid: Kind.
-/
namespace Go.Proofs.YtinaecmpigenoaaDoor
open Go.RowKit
attribute [local go_sem ↓] Go.wp_at_zero Go.wp_at_succ

/-- The kind of a name. -/
def kindOf (s : ByteArray) : Int := if s = ⟨#[95, 99, 111, 117, 110, 116]⟩ then 1 else if s = ⟨#[95, 115, 117, 109]⟩ then 2 else if s = ⟨#[95, 109, 105, 110]⟩ then 3 else if s = ⟨#[95, 109, 97, 120]⟩ then 4 else if s = ⟨#[95, 115, 116, 97, 116, 115]⟩ then 5 else 0
def kindE (s : ByteArray) : Int := if kindOf s = 0 then 4 else 0
theorem kinds_at0 (w : World) : (Instr.index 60 (.agg #[.string ⟨#[]⟩, .bool false, .nilFunc, .string ⟨#[95, 99, 111, 117, 110, 116]⟩, .bool false, .func (.func 26) #[] #[], .string ⟨#[95, 115, 117, 109]⟩, .bool true, .func (.func 28) #[] #[], .string ⟨#[95, 109, 105, 110]⟩, .bool false, .func (.func 29) #[] #[], .string ⟨#[95, 109, 97, 120]⟩, .bool false, .func (.func 31) #[] #[], .string ⟨#[95, 115, 116, 97, 116, 115]⟩, .bool true, .func (.func 32) #[] #[]]) (.int .i64 0)).run Tryd.prog w = .ok (.agg #[.string ⟨#[]⟩, .bool false, .nilFunc]) w := by kernel_rfl

theorem kind_is1 (s : ByteArray) (h : s = ⟨#[95, 99, 111, 117, 110, 116]⟩) : kindOf s = 1 ∧ kindE s = 0 := by subst h; decide
theorem kind_is2 (s : ByteArray) (h : s = ⟨#[95, 115, 117, 109]⟩) : kindOf s = 2 ∧ kindE s = 0 := by subst h; decide
theorem kind_is3 (s : ByteArray) (h : s = ⟨#[95, 109, 105, 110]⟩) : kindOf s = 3 ∧ kindE s = 0 := by subst h; decide
theorem kind_is4 (s : ByteArray) (h : s = ⟨#[95, 109, 97, 120]⟩) : kindOf s = 4 ∧ kindE s = 0 := by subst h; decide
theorem kind_is5 (s : ByteArray) (h : s = ⟨#[95, 115, 116, 97, 116, 115]⟩) : kindOf s = 5 ∧ kindE s = 0 := by subst h; decide
theorem kind_none (s : ByteArray) (h : ∀ j : Nat, 1 ≤ j → j < 6 → ¬ s = kindName j) : kindOf s = 0 ∧ kindE s = 4 := by
  have e : kindOf s = 0 := by
    unfold kindOf
    have h1 : ¬ s = ⟨#[95, 99, 111, 117, 110, 116]⟩ := h 1 (by decide) (by decide)
    have h2 : ¬ s = ⟨#[95, 115, 117, 109]⟩ := h 2 (by decide) (by decide)
    have h3 : ¬ s = ⟨#[95, 109, 105, 110]⟩ := h 3 (by decide) (by decide)
    have h4 : ¬ s = ⟨#[95, 109, 97, 120]⟩ := h 4 (by decide) (by decide)
    have h5 : ¬ s = ⟨#[95, 115, 116, 97, 116, 115]⟩ := h 5 (by decide) (by decide)
    rw [if_neg h1, if_neg h2, if_neg h3, if_neg h4, if_neg h5]
  exact ⟨e, by unfold kindE; rw [if_pos e]⟩
theorem names_next {s : ByteArray} {k : Nat} (h : ∀ j : Nat, 1 ≤ j → j < k → ¬ s = kindName j) (hq : ¬ s = kindName k) : ∀ j : Nat, 1 ≤ j → j < k + 1 → ¬ s = kindName j := by
  intro j h1 h2
  by_cases e : j = k
  · subst e; exact hq
  · exact h j h1 (by omega)
theorem str_no {s : ByteArray} {l : List UInt8} (h : ¬ s = ⟨⟨l⟩⟩) : (l == s.toList) = false := by
  rw [Bool.eq_false_iff]
  intro e
  have e2 : l = s.toList := by simpa using e
  rw [ByteArray.toList_eq] at e2
  apply h
  obtain ⟨⟨a⟩⟩ := s
  simp only at e2
  rw [e2]
set_option maxRecDepth 20000 in
set_option maxHeartbeats 2000000 in
theorem kind_any (s : ByteArray) (w : World) : Calls Tryd.prog 14 #[.string s] w fun e w' => e = .returned (.tuple #[.int .i64 (kindOf s), .int .i64 (kindE s)]) ∧ Below w.heap.size w w' := by
  go_enter Tryd.func14, Tryd.ntmps14
  go_wp2_with fail
  refine (kinds_any _).mono ?_
  rintro e w1 ⟨rfl, hb1⟩
  go_wp2_with fail
  go_loopw [7] (fun x wr => ∃ k : Nat, k ≤ 6 ∧ x = .int .i64 (k : Int) ∧ Below w.heap.size w wr ∧ Hid (∀ j : Nat, 1 ≤ j → j < k → ¬ s = kindName j)) (fun x _ => 6 - (intOf x).toNat)
  case atStart => exact ⟨0, Nat.zero_le _, rfl, hb1, Lib.hid (fun j h1 h2 => absurd h2 (Nat.not_lt_zero _))⟩
  case round =>
    obtain ⟨k, hk, rfl, hbr, Hno⟩ := hrel
    clear hb1
    have hcases : k = 0 ∨ k = 1 ∨ k = 2 ∨ k = 3 ∨ k = 4 ∨ k = 5 ∨ k = 6 := by omega
    rcases hcases with rfl | rfl | rfl | rfl | rfl | rfl | rfl
    · have i0 := kinds_at0 wr
      have h00 : ((0 : Nat) : Int) = 0 := rfl
      rw [h00]
      have sb := hbr.size
      clear hk h00
      go_wp2_with fail
      refine (known_any 0 _).mono ?_
      rintro e w2 ⟨rfl, hb2⟩
      have hkn : knownB 0 = false := by decide
      rw [hkn]
      have hbn : Below w.heap.size w w2 := (hbr.alloc sb _).trans (hb2.mono (by simp; omega))
      clear hb2 hbr
      go_wp2
      go_roundw
      case rel => exact ⟨1, by omega, rfl, hbn, Lib.hid (fun j h1 h2 => by omega)⟩
      case measure => simp [intOf]
    · have i0 := kinds_at1 wr
      have h00 : ((1 : Nat) : Int) = 1 := rfl
      rw [h00]
      have sb := hbr.size
      clear hk h00
      go_wp2_with fail
      refine (known_any 1 _).mono ?_
      rintro e w2 ⟨rfl, hb2⟩
      have hkn : knownB 1 = true := by decide
      rw [hkn]
      have hbn : Below w.heap.size w w2 := (hbr.alloc sb _).trans (hb2.mono (by simp; omega))
      have d0 : w2.cell? ⟨wr.heap.size, 0, none⟩ = some (.string ⟨#[95, 99, 111, 117, 110, 116]⟩) := mnew_later hb2 0 rfl
      clear hb2 hbr i0
      by_cases hq : s = ⟨#[95, 99, 111, 117, 110, 116]⟩
      · have HK := Lib.hid (kind_is1 s hq)
        subst hq
        clear Hno
        go_wp2
        exact bodyPost_ret (v := .tuple #[.int .i64 1, .int .i64 0]) (by simp [results, Tryd.results14, go_sem]) rfl ⟨by rw [HK.out.1, HK.out.2], hbn⟩
      · have hq2 : (([95, 99, 111, 117, 110, 116] : List UInt8) == s.toList) = false := str_no (l := [95, 99, 111, 117, 110, 116]) hq
        have Hn2 := Lib.hid (names_next (k := 1) Hno.out hq)
        clear hq Hno
        go_wp2
        go_roundw
        case rel => exact ⟨2, by omega, rfl, hbn, Hn2⟩
        case measure => simp [intOf]
    · have i0 := kinds_at2 wr
      have h00 : ((2 : Nat) : Int) = 2 := rfl
      rw [h00]
      have sb := hbr.size
      clear hk h00
      go_wp2_with fail
      refine (known_any 2 _).mono ?_
      rintro e w2 ⟨rfl, hb2⟩
      have hkn : knownB 2 = true := by decide
      rw [hkn]
      have hbn : Below w.heap.size w w2 := (hbr.alloc sb _).trans (hb2.mono (by simp; omega))
      have d0 : w2.cell? ⟨wr.heap.size, 0, none⟩ = some (.string ⟨#[95, 115, 117, 109]⟩) := mnew_later hb2 0 rfl
      clear hb2 hbr i0
      by_cases hq : s = ⟨#[95, 115, 117, 109]⟩
      · have HK := Lib.hid (kind_is2 s hq)
        subst hq
        clear Hno
        go_wp2
        exact bodyPost_ret (v := .tuple #[.int .i64 2, .int .i64 0]) (by simp [results, Tryd.results14, go_sem]) rfl ⟨by rw [HK.out.1, HK.out.2], hbn⟩
      · have hq2 : (([95, 115, 117, 109] : List UInt8) == s.toList) = false := str_no (l := [95, 115, 117, 109]) hq
        have Hn2 := Lib.hid (names_next (k := 2) Hno.out hq)
        clear hq Hno
        go_wp2
        go_roundw
        case rel => exact ⟨3, by omega, rfl, hbn, Hn2⟩
        case measure => simp [intOf]
    · have i0 := kinds_at3 wr
      have h00 : ((3 : Nat) : Int) = 3 := rfl
      rw [h00]
      have sb := hbr.size
      clear hk h00
      go_wp2_with fail
      refine (known_any 3 _).mono ?_
      rintro e w2 ⟨rfl, hb2⟩
      have hkn : knownB 3 = true := by decide
      rw [hkn]
      have hbn : Below w.heap.size w w2 := (hbr.alloc sb _).trans (hb2.mono (by simp; omega))
      have d0 : w2.cell? ⟨wr.heap.size, 0, none⟩ = some (.string ⟨#[95, 109, 105, 110]⟩) := mnew_later hb2 0 rfl
      clear hb2 hbr i0
      by_cases hq : s = ⟨#[95, 109, 105, 110]⟩
      · have HK := Lib.hid (kind_is3 s hq)
        subst hq
        clear Hno
        go_wp2
        exact bodyPost_ret (v := .tuple #[.int .i64 3, .int .i64 0]) (by simp [results, Tryd.results14, go_sem]) rfl ⟨by rw [HK.out.1, HK.out.2], hbn⟩
      · have hq2 : (([95, 109, 105, 110] : List UInt8) == s.toList) = false := str_no (l := [95, 109, 105, 110]) hq
        have Hn2 := Lib.hid (names_next (k := 3) Hno.out hq)
        clear hq Hno
        go_wp2
        go_roundw
        case rel => exact ⟨4, by omega, rfl, hbn, Hn2⟩
        case measure => simp [intOf]
    · have i0 := kinds_at4 wr
      have h00 : ((4 : Nat) : Int) = 4 := rfl
      rw [h00]
      have sb := hbr.size
      clear hk h00
      go_wp2_with fail
      refine (known_any 4 _).mono ?_
      rintro e w2 ⟨rfl, hb2⟩
      have hkn : knownB 4 = true := by decide
      rw [hkn]
      have hbn : Below w.heap.size w w2 := (hbr.alloc sb _).trans (hb2.mono (by simp; omega))
      have d0 : w2.cell? ⟨wr.heap.size, 0, none⟩ = some (.string ⟨#[95, 109, 97, 120]⟩) := mnew_later hb2 0 rfl
      clear hb2 hbr i0
      by_cases hq : s = ⟨#[95, 109, 97, 120]⟩
      · have HK := Lib.hid (kind_is4 s hq)
        subst hq
        clear Hno
        go_wp2
        exact bodyPost_ret (v := .tuple #[.int .i64 4, .int .i64 0]) (by simp [results, Tryd.results14, go_sem]) rfl ⟨by rw [HK.out.1, HK.out.2], hbn⟩
      · have hq2 : (([95, 109, 97, 120] : List UInt8) == s.toList) = false := str_no (l := [95, 109, 97, 120]) hq
        have Hn2 := Lib.hid (names_next (k := 4) Hno.out hq)
        clear hq Hno
        go_wp2
        go_roundw
        case rel => exact ⟨5, by omega, rfl, hbn, Hn2⟩
        case measure => simp [intOf]
    · have i0 := kinds_at5 wr
      have h00 : ((5 : Nat) : Int) = 5 := rfl
      rw [h00]
      have sb := hbr.size
      clear hk h00
      go_wp2_with fail
      refine (known_any 5 _).mono ?_
      rintro e w2 ⟨rfl, hb2⟩
      have hkn : knownB 5 = true := by decide
      rw [hkn]
      have hbn : Below w.heap.size w w2 := (hbr.alloc sb _).trans (hb2.mono (by simp; omega))
      have d0 : w2.cell? ⟨wr.heap.size, 0, none⟩ = some (.string ⟨#[95, 115, 116, 97, 116, 115]⟩) := mnew_later hb2 0 rfl
      clear hb2 hbr i0
      by_cases hq : s = ⟨#[95, 115, 116, 97, 116, 115]⟩
      · have HK := Lib.hid (kind_is5 s hq)
        subst hq
        clear Hno
        go_wp2
        exact bodyPost_ret (v := .tuple #[.int .i64 5, .int .i64 0]) (by simp [results, Tryd.results14, go_sem]) rfl ⟨by rw [HK.out.1, HK.out.2], hbn⟩
      · have hq2 : (([95, 115, 116, 97, 116, 115] : List UInt8) == s.toList) = false := str_no (l := [95, 115, 116, 97, 116, 115]) hq
        have Hn2 := Lib.hid (names_next (k := 5) Hno.out hq)
        clear hq Hno
        go_wp2
        go_roundw
        case rel => exact ⟨6, by omega, rfl, hbn, Hn2⟩
        case measure => simp [intOf]
    · have h00 : ((6 : Nat) : Int) = 6 := rfl
      rw [h00]
      have HK := Lib.hid (kind_none s Hno.out)
      clear hk h00 Hno
      go_wp2
      exact bodyPost_ret (v := .tuple #[.int .i64 0, .int .i64 4]) (by simp [results, Tryd.results14, go_sem]) rfl ⟨by rw [HK.out.1, HK.out.2], hbr⟩
end Go.Proofs.YtinaecmpigenoaaDoor
/-
  Layer 13: the rows of wakes.
-/
namespace Go.Proofs.YtinaecmpigenoaaDoor
open Go.RowKit
attribute [local go_sem ↓] Go.wp_at_zero Go.wp_at_succ

set_option maxRecDepth 20000 in
set_option maxHeartbeats 1000000 in
theorem row_any (n : Int) (w : World) (h : R64 n) : Calls Tryd.prog 11 #[.int .i64 n] w fun e w' => e = .returned (.agg #[.int .i64 1, .int .i64 1, .int .i64 (hiI n), .int .u64 (loI n), .int .i64 n, .int .i64 n]) ∧ Below w.heap.size w w' := by
  have hb0 : Below w.heap.size w (w.alloc (.cells #[.int .i64 0, .int .i64 0, .int .i64 0, .int .u64 0, .int .i64 0, .int .i64 0] 30)) := (Below.refl _ _).alloc (Nat.le_refl _) _
  go_enter Tryd.func11, Tryd.ntmps11
  go_wp2_with fail
  refine (one_any _ _ _ _ _ _ true n _ h).mono ?_
  rintro e w1 ⟨rfl, hb1⟩
  obtain ⟨⟨r0, r1, r2, r3, r4, r5⟩, f0, f1, f2, f3, f4, f5⟩ := six_new rfl hb1
  have hb2 := hb0.trans (hb1.mono hb0.size)
  clear hb0 hb1
  rw [show oneV true n = .agg #[.int .i64 1, .int .i64 1, .int .i64 (hiI n), .int .u64 (loI n), .int .i64 n, .int .i64 n] from rfl]
  go_wp2
  refine bodyPost_ret (v := .agg #[.int .i64 1, .int .i64 1, .int .i64 (hiI n), .int .u64 (loI n), .int .i64 n, .int .i64 n]) ?_ rfl ⟨rfl, below_set6 hb2 (Nat.le_refl _)⟩
  simp [results, Tryd.results11, go_sem, *]
end Go.Proofs.YtinaecmpigenoaaDoor
/-
  Layer 13: wakes.
-/
namespace Go.Proofs.YtinaecmpigenoaaDoor
open Go.RowKit
attribute [local go_sem ↓] Go.wp_at_zero Go.wp_at_succ

/-- The reduction of a row, as numbers. -/
def rowT (n : Int) : RedT := ⟨1, 1, n, n, n⟩
theorem reds_new (w : World) (C : Array Value) (t : TypeId) (n : Nat) (l : List RedT) (hC : C.toList = l.flatMap RedT.cells) (hn : (l.flatMap RedT.cells).length = n * 6) : Reds (w.alloc (.cells C t)) (w.heap.size + 1) (some ⟨w.heap.size, 0, none⟩) n l := by
  refine ⟨hn, fun _ => ⟨w.heap.size, 0, rfl, by omega, fun j v hj => ?_⟩⟩
  rw [Nat.zero_add]
  refine (World.cell?_alloc_new w C t j).trans ?_
  rw [← hC] at hj
  simpa using hj
/-- The three rows of wakes. -/
def three : List RedT := [⟨1, 1, -1, -1, -1⟩, ⟨1, 0, 0, 0, 0⟩, ⟨1, 1, 3, 3, 3⟩]
theorem three_ok : ∀ r ∈ three, r.ok := by
  intro r hr
  unfold three at hr
  simp only [List.mem_cons, List.not_mem_nil, or_false] at hr
  rcases hr with rfl | rfl | rfl <;> (unfold RedT.ok R64 R128; simp only; omega)
theorem three_all : jall three = (⟨3, 2, 2, -1, 3⟩, 0) := by rfl
theorem three_join (w : World) : Calls Tryd.prog 7 #[.slice (some ⟨w.heap.size, 0, none⟩) 3 3] (w.alloc (.cells #[.int .i64 1, .int .i64 1, .int .i64 (hiI (-1)), .int .u64 (loI (-1)), .int .i64 (-1), .int .i64 (-1), .int .i64 1, .int .i64 0, .int .i64 0, .int .u64 0, .int .i64 0, .int .i64 0, .int .i64 1, .int .i64 1, .int .i64 (hiI (3)), .int .u64 (loI (3)), .int .i64 (3), .int .i64 (3)] 30)) fun e w' => e = .returned (.tuple #[.agg #[.int .i64 3, .int .i64 2, .int .i64 0, .int .u64 2, .int .i64 (-1), .int .i64 3], .int .i64 0]) ∧ Below (w.alloc (.cells #[.int .i64 1, .int .i64 1, .int .i64 (hiI (-1)), .int .u64 (loI (-1)), .int .i64 (-1), .int .i64 (-1), .int .i64 1, .int .i64 0, .int .i64 0, .int .u64 0, .int .i64 0, .int .i64 0, .int .i64 1, .int .i64 1, .int .i64 (hiI (3)), .int .u64 (loI (3)), .int .i64 (3), .int .i64 (3)] 30)).heap.size (w.alloc (.cells #[.int .i64 1, .int .i64 1, .int .i64 (hiI (-1)), .int .u64 (loI (-1)), .int .i64 (-1), .int .i64 (-1), .int .i64 1, .int .i64 0, .int .i64 0, .int .u64 0, .int .i64 0, .int .i64 0, .int .i64 1, .int .i64 1, .int .i64 (hiI (3)), .int .u64 (loI (3)), .int .i64 (3), .int .i64 (3)] 30)) w' := by
  refine (joinAll_any _ 3 3 (w.heap.size + 1) three _ (reds_new w #[.int .i64 1, .int .i64 1, .int .i64 (hiI (-1)), .int .u64 (loI (-1)), .int .i64 (-1), .int .i64 (-1), .int .i64 1, .int .i64 0, .int .i64 0, .int .u64 0, .int .i64 0, .int .i64 0, .int .i64 1, .int .i64 1, .int .i64 (hiI (3)), .int .u64 (loI (3)), .int .i64 (3), .int .i64 (3)] _ 3 three (by kernel_rfl) (by kernel_rfl)) (by simp) three_ok (by omega)).mono ?_
  rintro e w' ⟨rfl, hb⟩
  rw [three_all]
  exact ⟨by kernel_rfl, hb⟩
/-- The two rows of a Join of wakes. -/
def far : List RedT := [⟨3, 2, 2, -1, 3⟩, ⟨1073741824, 0, 0, 0, 0⟩]
theorem far_ok : ∀ r ∈ far, r.ok := by
  intro r hr
  unfold far at hr
  simp only [List.mem_cons, List.not_mem_nil, or_false] at hr
  rcases hr with rfl | rfl <;> (unfold RedT.ok R64 R128; simp only; omega)
theorem far_join (w : World) : Calls Tryd.prog 7 #[.slice (some ⟨w.heap.size, 0, none⟩) 2 2] (w.alloc (.cells #[.int .i64 3, .int .i64 2, .int .i64 0, .int .u64 2, .int .i64 (-1), .int .i64 3, .int .i64 1073741824, .int .i64 0, .int .i64 0, .int .u64 0, .int .i64 0, .int .i64 0] 30)) fun e w' => e = .returned (.tuple #[.agg #[.int .i64 0, .int .i64 0, .int .i64 0, .int .u64 0, .int .i64 0, .int .i64 0], .int .i64 5]) ∧ Below (w.alloc (.cells #[.int .i64 3, .int .i64 2, .int .i64 0, .int .u64 2, .int .i64 (-1), .int .i64 3, .int .i64 1073741824, .int .i64 0, .int .i64 0, .int .u64 0, .int .i64 0, .int .i64 0] 30)).heap.size (w.alloc (.cells #[.int .i64 3, .int .i64 2, .int .i64 0, .int .u64 2, .int .i64 (-1), .int .i64 3, .int .i64 1073741824, .int .i64 0, .int .i64 0, .int .u64 0, .int .i64 0, .int .i64 0] 30)) w' := by
  refine (joinAll_any _ 2 2 (w.heap.size + 1) far _ (reds_new w #[.int .i64 3, .int .i64 2, .int .i64 0, .int .u64 2, .int .i64 (-1), .int .i64 3, .int .i64 1073741824, .int .i64 0, .int .i64 0, .int .u64 0, .int .i64 0, .int .i64 0] _ 2 far (by kernel_rfl) (by kernel_rfl)) (by simp) far_ok (by omega)).mono ?_
  rintro e w' ⟨rfl, hb⟩
  exact ⟨by kernel_rfl, hb⟩
/-- The two rows of a Join of wakes. -/
def twice : List RedT := [⟨1, 1, 9223372036854775807, 9223372036854775807, 9223372036854775807⟩, ⟨1, 1, 9223372036854775807, 9223372036854775807, 9223372036854775807⟩]
theorem twice_ok : ∀ r ∈ twice, r.ok := by
  intro r hr
  unfold twice at hr
  simp only [List.mem_cons, List.not_mem_nil, or_false] at hr
  rcases hr with rfl | rfl <;> (unfold RedT.ok R64 R128; simp only; omega)
theorem twice_join (w : World) : Calls Tryd.prog 7 #[.slice (some ⟨w.heap.size, 0, none⟩) 2 2] (w.alloc (.cells #[.int .i64 1, .int .i64 1, .int .i64 (hiI 9223372036854775807), .int .u64 (loI 9223372036854775807), .int .i64 9223372036854775807, .int .i64 9223372036854775807, .int .i64 1, .int .i64 1, .int .i64 (hiI 9223372036854775807), .int .u64 (loI 9223372036854775807), .int .i64 9223372036854775807, .int .i64 9223372036854775807] 30)) fun e w' => e = .returned (.tuple #[.agg #[.int .i64 2, .int .i64 2, .int .i64 (hiI 18446744073709551614), .int .u64 (loI 18446744073709551614), .int .i64 9223372036854775807, .int .i64 9223372036854775807], .int .i64 0]) ∧ Below (w.alloc (.cells #[.int .i64 1, .int .i64 1, .int .i64 (hiI 9223372036854775807), .int .u64 (loI 9223372036854775807), .int .i64 9223372036854775807, .int .i64 9223372036854775807, .int .i64 1, .int .i64 1, .int .i64 (hiI 9223372036854775807), .int .u64 (loI 9223372036854775807), .int .i64 9223372036854775807, .int .i64 9223372036854775807] 30)).heap.size (w.alloc (.cells #[.int .i64 1, .int .i64 1, .int .i64 (hiI 9223372036854775807), .int .u64 (loI 9223372036854775807), .int .i64 9223372036854775807, .int .i64 9223372036854775807, .int .i64 1, .int .i64 1, .int .i64 (hiI 9223372036854775807), .int .u64 (loI 9223372036854775807), .int .i64 9223372036854775807, .int .i64 9223372036854775807] 30)) w' := by
  refine (joinAll_any _ 2 2 (w.heap.size + 1) twice _ (reds_new w #[.int .i64 1, .int .i64 1, .int .i64 (hiI 9223372036854775807), .int .u64 (loI 9223372036854775807), .int .i64 9223372036854775807, .int .i64 9223372036854775807, .int .i64 1, .int .i64 1, .int .i64 (hiI 9223372036854775807), .int .u64 (loI 9223372036854775807), .int .i64 9223372036854775807, .int .i64 9223372036854775807] _ 2 twice (by kernel_rfl) (by kernel_rfl)) (by simp) twice_ok (by omega)).mono ?_
  rintro e w' ⟨rfl, hb⟩
  exact ⟨by kernel_rfl, hb⟩
end Go.Proofs.YtinaecmpigenoaaDoor
/-
  Layer 13: wakes.
-/
namespace Go.Proofs.YtinaecmpigenoaaDoor
open Go.RowKit
attribute [local go_sem ↓] Go.wp_at_zero Go.wp_at_succ

theorem hl_2 : hiI 2 = 0 ∧ loI 2 = 2 := by unfold hiI loI wrap64; decide
theorem hl_5 : hiI 5 = 0 ∧ loI 5 = 5 := by unfold hiI loI wrap64; decide
theorem tell_two (w : World) : Calls Tryd.prog 8 #[.int .i64 2, .agg #[.int .i64 3, .int .i64 2, .int .i64 0, .int .u64 2, .int .i64 (-1), .int .i64 3]] w fun e w' => e = .returned (.tuple #[.agg #[.int .i64 3, .int .i64 2, .string ⟨#[]⟩, .slice none 0 0, .slice none 0 0], .int .i64 0]) ∧ Below w.heap.size w w' := by
  have h := tell_sum 3 2 2 (-1) 3 w (by unfold R128; omega) (by unfold R64; omega) (by unfold R64; omega) (by decide) (by decide)
  rw [hl_2.1, hl_2.2] at h
  exact h
theorem tell_twice (w : World) : Calls Tryd.prog 8 #[.int .i64 2, .agg #[.int .i64 2, .int .i64 2, .int .i64 (hiI 18446744073709551614), .int .u64 (loI 18446744073709551614), .int .i64 9223372036854775807, .int .i64 9223372036854775807]] w fun e w' => e = .returned (.tuple #[.agg #[.int .i64 0, .int .i64 0, .string ⟨#[]⟩, .slice none 0 0, .slice none 0 0], .int .i64 5]) ∧ Below w.heap.size w w' :=
  tell_over 2 2 18446744073709551614 9223372036854775807 9223372036854775807 w (by unfold R128; omega) (by unfold R64; omega) (by unfold R64; omega) (by decide) (by decide)
theorem check_bad (w : World) : Calls Tryd.prog 13 #[.agg #[.int .i64 1, .int .i64 1, .int .i64 0, .int .u64 5, .int .i64 4, .int .i64 5]] w fun e w' => e = .returned (.int .i64 230) ∧ Below w.heap.size w w' := by
  have h := mcheck_any 1 1 5 4 5 w (by unfold R128; omega) (by unfold R64; omega) (by unfold R64; omega)
  unfold redV at h
  rw [hl_5.1, hl_5.2, show redE 1 1 5 4 5 = 230 by decide] at h
  exact h
theorem kind_sum (w : World) : Calls Tryd.prog 14 #[.string ⟨#[95, 115, 117, 109]⟩] w fun e w' => e = .returned (.tuple #[.int .i64 2, .int .i64 0]) ∧ Below w.heap.size w w' := by
  refine (kind_any ⟨#[95, 115, 117, 109]⟩ w).mono ?_
  rintro e w' ⟨rfl, hb⟩
  rw [(kind_is2 _ rfl).1, (kind_is2 _ rfl).2]
  exact ⟨rfl, hb⟩
theorem far_at (w : World) (o : Obj) : Calls Tryd.prog 7 #[.slice (some ⟨w.heap.size + 1, 0, none⟩) 2 2] ((w.alloc o).alloc (.cells #[.int .i64 3, .int .i64 2, .int .i64 0, .int .u64 2, .int .i64 (-1), .int .i64 3, .int .i64 1073741824, .int .i64 0, .int .i64 0, .int .u64 0, .int .i64 0, .int .i64 0] 30)) fun e w' => e = .returned (.tuple #[.agg #[.int .i64 0, .int .i64 0, .int .i64 0, .int .u64 0, .int .i64 0, .int .i64 0], .int .i64 5]) ∧ Below (w.heap.size + 2) ((w.alloc o).alloc (.cells #[.int .i64 3, .int .i64 2, .int .i64 0, .int .u64 2, .int .i64 (-1), .int .i64 3, .int .i64 1073741824, .int .i64 0, .int .i64 0, .int .u64 0, .int .i64 0, .int .i64 0] 30)) w' := by
  have h := far_join (w.alloc o)
  rw [show (w.alloc o).heap.size = w.heap.size + 1 by simp] at h
  refine h.mono ?_
  rintro e w' ⟨rfl, hb⟩
  exact ⟨rfl, hb.mono (by simp)⟩
theorem cell_new5 {w : World} (a b c d e : Value) (t : TypeId) (k : Nat) {v : Value} (h : (#[a, b, c, d, e] : Array Value)[k]? = some v) : (w.alloc (.cells #[a, b, c, d, e] t)).cell? ⟨w.heap.size, k, none⟩ = some v := (World.cell?_alloc_new w _ t k).trans h

set_option maxRecDepth 100000 in
set_option maxHeartbeats 4000000 in
theorem wakes_any (w : World) : Calls Tryd.prog 5 #[] w fun e w' => e = .returned (.bool true) ∧ Below w.heap.size w w' := by
  go_enter Tryd.func5, Tryd.ntmps5
  go_wp2_with fail
  refine (row_any (-1) _ (by unfold R64; omega)).mono ?_
  rintro e w1 ⟨rfl, hb1⟩
  go_wp2_with fail
  refine (one_any _ _ _ _ _ _ false 9 _ (by unfold R64; omega)).mono ?_
  rintro e w2 ⟨rfl, hb2⟩
  rw [oneV_no]
  have hb2 := hb1.trans (hb2.mono hb1.size)
  clear hb1
  go_wp2_with fail
  refine (row_any 3 _ (by unfold R64; omega)).mono ?_
  rintro e w3 ⟨rfl, hb3⟩
  have hb3 := hb2.trans (hb3.mono hb2.size)
  clear hb2
  go_wp2_with fail
  refine (three_join w3).mono ?_
  rintro e w4 ⟨rfl, hb4⟩
  have hb4 := (hb3.alloc hb3.size _).trans (hb4.mono (by have := hb3.size; simp; omega))
  clear hb3
  have s4 := Six.new w4 (.int .i64 3) (.int .i64 2) (.int .i64 0) (.int .u64 2) (.int .i64 (-1)) (.int .i64 3) 30
  go_wp2_with fail
  refine (far_at w4 _).mono ?_
  rintro e w5 ⟨rfl, hb5⟩
  have s5 := (s4.alloc _).below hb5 (by simp)
  have hb5 := ((hb4.alloc hb4.size _).alloc (by have := hb4.size; simp; omega) _).trans (hb5.mono (by have := hb4.size; omega))
  have z45 : w4.heap.size < w5.heap.size := World.block_lt_of_cell? w5 _ s5.1.1
  clear hb4 s4
  have s5 := s5.alloc (.cells #[.int .i64 0, .int .i64 0, .int .i64 0, .int .u64 0, .int .i64 0, .int .i64 0] 30)
  have hb5 := hb5.alloc hb5.size (.cells #[.int .i64 0, .int .i64 0, .int .i64 0, .int .u64 0, .int .i64 0, .int .i64 0] 30)
  have S5 := Lib.hid s5
  obtain ⟨⟨r0, r1, r2, r3, r4, r5⟩, -⟩ := s5
  go_wp2_with fail
  refine (tell_two _).mono ?_
  rintro e w6 ⟨rfl, hb6⟩
  have s6 := S5.out.below hb6 rfl
  clear r0 r1 r2 r3 r4 r5 S5
  have hb6 := hb5.trans (hb6.mono hb5.size)
  clear hb5
  have s6 := s6.alloc (.cells #[.int .i64 3, .int .i64 2, .string ⟨#[]⟩, .slice none 0 0, .slice none 0 0] 39)
  have v6 := cell_new5 (w := w6) (.int .i64 3) (.int .i64 2) (.string ⟨#[]⟩) (.slice none 0 0) (.slice none 0 0) 39 1 rfl
  have hb6 := hb6.alloc hb6.size (.cells #[.int .i64 3, .int .i64 2, .string ⟨#[]⟩, .slice none 0 0, .slice none 0 0] 39)
  have S6 := Lib.hid s6
  have V6 := Lib.hid v6
  clear s6 v6
  go_wp2_with fail
  refine (row_any 9223372036854775807 _ (by unfold R64; omega)).mono ?_
  rintro e w7 ⟨rfl, hb7⟩
  have S7 := Lib.hid (S6.out.below hb7 rfl)
  have V7 := Lib.hid (mkept_later hb7 V6.out)
  have hb7 := hb6.trans (hb7.mono hb6.size)
  clear S6 V6 hb6
  go_wp2_with fail
  refine (row_any 9223372036854775807 _ (by unfold R64; omega)).mono ?_
  rintro e w8 ⟨rfl, hb8⟩
  have S8 := Lib.hid (S7.out.below hb8 rfl)
  have V8 := Lib.hid (mkept_later hb8 V7.out)
  have hb8 := hb7.trans (hb8.mono hb7.size)
  clear S7 V7 hb7
  go_wp2_with fail
  refine (twice_join w8).mono ?_
  rintro e w9 ⟨rfl, hb9⟩
  have S9 := Lib.hid ((S8.out.alloc _).below hb9 rfl)
  have V9 := Lib.hid (mkept_later hb9 (cell_keep V8.out _))
  have hb9 := (hb8.alloc hb8.size _).trans (hb9.mono (by have := hb8.size; simp; omega))
  clear S8 V8 hb8
  go_wp2_with fail
  refine (tell_twice _).mono ?_
  rintro e w10 ⟨rfl, hb10⟩
  have S10 := Lib.hid ((S9.out.alloc _).below hb10 rfl)
  have V10 := Lib.hid (mkept_later hb10 (cell_keep V9.out _))
  have hb10 := (hb9.alloc hb9.size _).trans (hb10.mono (by have := hb9.size; simp; omega))
  clear S9 V9 hb9
  go_wp2_with fail
  refine (check_bad _).mono ?_
  rintro e w11 ⟨rfl, hb11⟩
  have S11 := Lib.hid ((S10.out.alloc _).below hb11 rfl)
  have V11 := Lib.hid (mkept_later hb11 (cell_keep V10.out _))
  have hb11 := (hb10.alloc hb10.size _).trans (hb11.mono (by have := hb10.size; simp; omega))
  clear S10 V10 hb10
  go_wp2_with fail
  refine (kind_sum _).mono ?_
  rintro e w12 ⟨rfl, hb12⟩
  have S12 := S11.out.below hb12 rfl
  have V12 := mkept_later hb12 V11.out
  have hb12 := hb11.trans (hb12.mono hb11.size)
  clear S11 V11 hb11
  obtain ⟨⟨r0, r1, r2, r3, r4, r5⟩, -⟩ := S12
  go_wp2
  go_ret
  exact ⟨rfl, hb12⟩
end Go.Proofs.YtinaecmpigenoaaDoor
/-
  Layer 13: all: the reduction of rows, one by one.
-/
namespace Go.Proofs.YtinaecmpigenoaaDoor
open Go.RowKit
attribute [local go_sem ↓] Go.wp_at_zero Go.wp_at_succ

theorem items_len {w : World} {B : Nat} {A : Option Addr} {n : Nat} {l : List ItemT} (h : Items w B A n l) : l.length = n := by
  have h1 := h.1
  rw [flat_len ItemT.cells 4 (fun _ => rfl)] at h1
  omega
theorem items_cell {w : World} {B : Nat} {A : Option Addr} {n : Nat} {l : List ItemT} (h : Items w B A n l) {k : Nat} (hk : k < n) : ∃ (b off : Nat) (x : ItemT), A = some ⟨b, off, none⟩ ∧ b < B ∧ l[k]? = some x ∧
    w.cell? ⟨b, off + k * 4, none⟩ = some (.slice x.A1 x.n1 x.c1) ∧ w.cell? ⟨b, off + k * 4 + 1, none⟩ = some (.slice x.A2 x.n2 x.c2) ∧ w.cell? ⟨b, off + k * 4 + 2, none⟩ = some (.bool x.b) ∧ w.cell? ⟨b, off + k * 4 + 3, none⟩ = some (.int .i64 x.n) := by
  have hl := items_len h
  obtain ⟨b, off, rfl, hb, hc⟩ := h.2 (by omega)
  have hk' : k < l.length := by omega
  have hg := fun j hj => flat_get ItemT.cells 4 (fun _ => rfl) l k j hk' hj
  exact ⟨b, off, l[k], rfl, hb, List.getElem?_eq_getElem hk', hc (k * 4 + 0) _ ((hg 0 (by omega)).trans rfl), hc (k * 4 + 1) _ ((hg 1 (by omega)).trans rfl), hc (k * 4 + 2) _ ((hg 2 (by omega)).trans rfl), hc (k * 4 + 3) _ ((hg 3 (by omega)).trans rfl)⟩
theorem Six.under {w w1 : World} {g B : Nat} {a b c d e f : Value} (h : Six w g a b c d e f) (hb : Below B w w1) (hg : g < B) : Six w1 g a b c d e f := by
  obtain ⟨⟨r0, r1, r2, r3, r4, r5⟩, f0, f1, f2, f3, f4, f5⟩ := h
  exact ⟨⟨(hb.cell (p := ⟨g, 0, none⟩) hg).trans r0, (hb.cell (p := ⟨g, 1, none⟩) hg).trans r1, (hb.cell (p := ⟨g, 2, none⟩) hg).trans r2, (hb.cell (p := ⟨g, 3, none⟩) hg).trans r3, (hb.cell (p := ⟨g, 4, none⟩) hg).trans r4, (hb.cell (p := ⟨g, 5, none⟩) hg).trans r5⟩,
    (hb.frozen (p := ⟨g, 0, none⟩) hg).trans f0, (hb.frozen (p := ⟨g, 1, none⟩) hg).trans f1, (hb.frozen (p := ⟨g, 2, none⟩) hg).trans f2, (hb.frozen (p := ⟨g, 3, none⟩) hg).trans f3, (hb.frozen (p := ⟨g, 4, none⟩) hg).trans f4, (hb.frozen (p := ⟨g, 5, none⟩) hg).trans f5⟩
/-- A reduction's six cells in a variable. -/
def SixR (w : World) (g : Nat) (a : RedT) : Prop := Six w g (.int .i64 a.c) (.int .i64 a.i) (.int .i64 (hiI a.v)) (.int .u64 (loI a.v)) (.int .i64 a.l) (.int .i64 a.m)
theorem join_two (a r : RedT) (g : Nat) (W : World) (ha : a.valid = true) (hr : r.valid = true) (hao : a.ok) (hro : r.ok) (hc : a.c + r.c ≤ 1073741824) (h : Reds W W.heap.size (some ⟨g, 0, none⟩) 2 [a, r]) :
    Calls Tryd.prog 7 #[.slice (some ⟨g, 0, none⟩) 2 2] W fun e w' => e = .returned (.tuple #[.agg #[.int .i64 (a.join r).c, .int .i64 (a.join r).i, .int .i64 (hiI (a.join r).v), .int .u64 (loI (a.join r).v), .int .i64 (a.join r).l, .int .i64 (a.join r).m], .int .i64 0]) ∧ Below W.heap.size W w' := by
  refine (joinAll_any _ 2 2 W.heap.size [a, r] W h (Nat.le_refl _) (by intro x hx; simp at hx; rcases hx with rfl | rfl <;> assumption) (by omega)).mono ?_
  rintro e w' ⟨rfl, hb⟩
  rw [jall_two a r ha hr hc]
  exact ⟨rfl, hb⟩
theorem reds_at (w : World) (g : Nat) (a r : RedT) (t : TypeId) (hg : w.heap.size = g) : Reds (w.alloc (.cells #[.int .i64 a.c, .int .i64 a.i, .int .i64 (hiI a.v), .int .u64 (loI a.v), .int .i64 a.l, .int .i64 a.m, .int .i64 r.c, .int .i64 r.i, .int .i64 (hiI r.v), .int .u64 (loI r.v), .int .i64 r.l, .int .i64 r.m] t)) (w.alloc (.cells #[.int .i64 a.c, .int .i64 a.i, .int .i64 (hiI a.v), .int .u64 (loI a.v), .int .i64 a.l, .int .i64 a.m, .int .i64 r.c, .int .i64 r.i, .int .i64 (hiI r.v), .int .u64 (loI r.v), .int .i64 r.l, .int .i64 r.m] t)).heap.size (some ⟨g, 0, none⟩) 2 [a, r] := by
  subst hg
  exact (reds_two w a r t).more (by simp)
theorem reds_on (w : World) (o : Obj) (g : Nat) (a r : RedT) (t : TypeId) (hg : w.heap.size = g) : Reds ((w.alloc (.cells #[.int .i64 a.c, .int .i64 a.i, .int .i64 (hiI a.v), .int .u64 (loI a.v), .int .i64 a.l, .int .i64 a.m, .int .i64 r.c, .int .i64 r.i, .int .i64 (hiI r.v), .int .u64 (loI r.v), .int .i64 r.l, .int .i64 r.m] t)).alloc o) ((w.alloc (.cells #[.int .i64 a.c, .int .i64 a.i, .int .i64 (hiI a.v), .int .u64 (loI a.v), .int .i64 a.l, .int .i64 a.m, .int .i64 r.c, .int .i64 r.i, .int .i64 (hiI r.v), .int .u64 (loI r.v), .int .i64 r.l, .int .i64 r.m] t)).alloc o).heap.size (some ⟨g, 0, none⟩) 2 [a, r] := by
  subst hg
  exact ((reds_two w a r t).alloc (by simp) o).more (by simp)
theorem six_go {w w1 : World} {a b c d e f : Value} {t : TypeId} (hb : Below (w.alloc (.cells #[a, b, c, d, e, f] t)).heap.size (w.alloc (.cells #[a, b, c, d, e, f] t)) w1) : Six w1 w.heap.size a b c d e f := six_new rfl hb

set_option maxRecDepth 100000 in
set_option maxHeartbeats 2000000 in
theorem all_any (A : Option Addr) (n c B : Nat) (l : List ItemT) (w : World) (h : Items w B A n l) (hB : B ≤ w.heap.size) (hx : ∀ x ∈ l, R64 x.n) (hn : n ≤ 60) :
    Calls Tryd.prog 6 #[.slice A n c] w fun e w' => e = .returned (.tuple #[.agg #[.int .i64 (allR l).c, .int .i64 (allR l).i, .int .i64 (hiI (allR l).v), .int .u64 (loI (allR l).v), .int .i64 (allR l).l, .int .i64 (allR l).m], .bool true]) ∧ Below w.heap.size w w' := by
  have hlen := Lib.hid (items_len h)
  go_enter Tryd.func6, Tryd.ntmps6
  go_wp2
  obtain ⟨W1, hW1⟩ : ∃ W1, (w.alloc (.cells #[.int .i64 0, .int .i64 0, .int .i64 0, .int .u64 0, .int .i64 0, .int .i64 0] 30)).alloc (.cells #[.int .i64 0, .int .i64 0, .int .i64 0, .int .u64 0, .int .i64 0, .int .i64 0] 30) = W1 := ⟨_, rfl⟩
  have hb1 : Below w.heap.size w W1 := by rw [← hW1]; exact ((Below.refl _ _).alloc (Nat.le_refl _) _).alloc (by simp) _
  have hz1 : W1.heap.size = w.heap.size + 2 := by rw [← hW1]; simp
  have hs1 : SixR W1 (w.heap.size + 1) RedT.zero := by
    have := Six.new (w.alloc (.cells #[.int .i64 0, .int .i64 0, .int .i64 0, .int .u64 0, .int .i64 0, .int .i64 0] 30)) (.int .i64 0) (.int .i64 0) (.int .i64 0) (.int .u64 0) (.int .i64 0) (.int .i64 0) 30
    rw [hW1] at this
    unfold SixR RedT.zero
    rw [hl_zero.1, hl_zero.2]
    simpa using this
  have hs0 : Six W1 w.heap.size (.int .i64 0) (.int .i64 0) (.int .i64 0) (.int .u64 0) (.int .i64 0) (.int .i64 0) := by rw [← hW1]; exact (Six.new _ _ _ _ _ _ _ _).alloc _
  have hl1 : Items W1 B A n l := by rw [← hW1]; exact (h.alloc hB _).alloc (by simp; omega) _
  rw [hW1]
  clear hW1 h
  have HS1 := Lib.hid hs1
  have HS0 := Lib.hid hs0
  have HL1 := Lib.hid hl1
  have hz2 : w.heap.size + 2 ≤ W1.heap.size := by omega
  clear hs1 hs0 hl1 hz1
  go_loopw [12] (fun x wr => ∃ k : Nat, k ≤ n ∧ x = .int .i64 (k : Int) ∧ Below (w.heap.size + 1) W1 wr ∧ SixR wr (w.heap.size + 1) (allR (l.take k))) (fun x _ => n - (intOf x).toNat)
  case atStart => exact ⟨0, Nat.zero_le _, rfl, Below.refl _ _, HS1.out⟩
  case round =>
    obtain ⟨k, hk, rfl, hbr, hsix⟩ := hrel
    have hszr := hbr.size
    by_cases hlt : k < n
    · obtain ⟨b, off, x, rfl, hbB, hx1, x0, x1, x2, x3⟩ := items_cell (HL1.out.below (hbr.mono (by omega))) hlt
      have hlk : k < l.length := by rw [hlen.out]; omega
      have h60 : l.length ≤ 60 := by rw [hlen.out]; omega
      have hok := allOk (l.take k) (fun y hy => hx y (List.mem_of_mem_take hy)) (by simp; omega)
      have hav := Lib.hid hok.valid
      have hao := Lib.hid (hok.ok (by simp; omega))
      have hac : (allR (l.take k)).c ≤ 60 := by rw [hok.cnt]; simp; omega
      have hxr := Lib.hid (hx x (List.mem_of_getElem? hx1))
      have hnext := Lib.hid (show allR (l.take (k + 1)) = (allR (l.take k)).join x.one by
        have e : l[k]'(by omega) = x := by
          have := List.getElem?_eq_getElem (l := l) (i := k) (by omega)
          rw [this] at hx1
          exact Option.some.inj hx1
        rw [List.take_succ_eq_append_getElem (by omega), allR_snoc, e])
      clear hok hx1 hlk h60
      generalize allR (l.take k) = a at *
      obtain ⟨G3, hG3⟩ : ∃ G3, wr.heap.size = G3 := ⟨_, rfl⟩
      obtain ⟨W3, hW3⟩ : ∃ W3, wr.alloc (.cells #[.slice x.A1 x.n1 x.c1, .slice x.A2 x.n2 x.c2, .bool x.b, .int .i64 x.n] 27) = W3 := ⟨_, rfl⟩
      have hb3 : Below (w.heap.size + 1) W1 W3 := by rw [← hW3]; exact hbr.alloc (by omega) _
      have ha3 : SixR W3 (w.heap.size + 1) a := by rw [← hW3]; exact Six.alloc _ hsix
      have i0 : W3.cell? ⟨G3, 0, none⟩ = some (.slice x.A1 x.n1 x.c1) := by rw [← hW3, ← hG3]; exact World.cell?_alloc_new wr _ _ 0
      have i1 : W3.cell? ⟨G3, 1, none⟩ = some (.slice x.A2 x.n2 x.c2) := by rw [← hW3, ← hG3]; exact World.cell?_alloc_new wr _ _ 1
      have i2 : W3.cell? ⟨G3, 2, none⟩ = some (.bool x.b) := by rw [← hW3, ← hG3]; exact World.cell?_alloc_new wr _ _ 2
      have i3 : W3.cell? ⟨G3, 3, none⟩ = some (.int .i64 x.n) := by rw [← hW3, ← hG3]; exact World.cell?_alloc_new wr _ _ 3
      have hz3 : w.heap.size + 2 ≤ W3.heap.size := by have := hb3.size; omega
      have HW3 := Lib.hid hW3
      have HG3 := Lib.hid hG3
      clear hW3 hG3
      go_upto_region 5 with fail
      rw [HG3.out, HW3.out]
      clear HG3 HW3 hbr x0 x1 x2 x3 hsix hszr
      have HA3 := Lib.hid ha3
      obtain ⟨⟨r0, r1, r2, r3, r4, r5⟩, -⟩ := ha3
      have c0 : ∀ W, Below W3.heap.size W3 W → W.cell? ⟨w.heap.size + 1, 0, none⟩ = some (.int .i64 a.c) := fun W h => mkept_later h r0
      have c1 : ∀ W, Below W3.heap.size W3 W → W.cell? ⟨w.heap.size + 1, 1, none⟩ = some (.int .i64 a.i) := fun W h => mkept_later h r1
      have c2 : ∀ W, Below W3.heap.size W3 W → W.cell? ⟨w.heap.size + 1, 2, none⟩ = some (.int .i64 (hiI a.v)) := fun W h => mkept_later h r2
      have c3 : ∀ W, Below W3.heap.size W3 W → W.cell? ⟨w.heap.size + 1, 3, none⟩ = some (.int .u64 (loI a.v)) := fun W h => mkept_later h r3
      have c4 : ∀ W, Below W3.heap.size W3 W → W.cell? ⟨w.heap.size + 1, 4, none⟩ = some (.int .i64 a.l) := fun W h => mkept_later h r4
      have c5 : ∀ W, Below W3.heap.size W3 W → W.cell? ⟨w.heap.size + 1, 5, none⟩ = some (.int .i64 a.m) := fun W h => mkept_later h r5
      have d0 : ∀ W, Below W3.heap.size W3 W → W.cell? ⟨G3, 0, none⟩ = some (.slice x.A1 x.n1 x.c1) := fun W h => mkept_later h i0
      have d1 : ∀ W, Below W3.heap.size W3 W → W.cell? ⟨G3, 1, none⟩ = some (.slice x.A2 x.n2 x.c2) := fun W h => mkept_later h i1
      have d2 : ∀ W, Below W3.heap.size W3 W → W.cell? ⟨G3, 2, none⟩ = some (.bool x.b) := fun W h => mkept_later h i2
      have d3 : ∀ W, Below W3.heap.size W3 W → W.cell? ⟨G3, 3, none⟩ = some (.int .i64 x.n) := fun W h => mkept_later h i3
      clear r0 r1 r2 r3 r4 r5 i0 i1 i2 i3
      have hjn : ∀ (X : World) (g : Nat), Reds X X.heap.size (some ⟨g, 0, none⟩) 2 [a, x.one] → Calls Tryd.prog 7 #[.slice (some ⟨g, 0, none⟩) 2 2] X fun e w' => e = .returned (.tuple #[.agg #[.int .i64 (a.join x.one).c, .int .i64 (a.join x.one).i, .int .i64 (hiI (a.join x.one).v), .int .u64 (loI (a.join x.one).v), .int .i64 (a.join x.one).l, .int .i64 (a.join x.one).m], .int .i64 0]) ∧ Below X.heap.size X w' :=
        fun X g hr => join_two a x.one g X hav.out (one_is x) hao.out (one_ok x hxr.out) (by simp [ItemT.one]; omega) hr
      have Hjn := Lib.hid hjn
      clear hjn
      go_cut [7, 8] (fun s7 s8 wx => ∃ g : Nat, s7 = .pointer (some ⟨g, 0, none⟩) ∧ s8 = .int .i64 0 ∧ Below W3.heap.size W3 wx ∧ SixR wx g (a.join x.one))
      case first =>
        go_region_held3 (fun w' => Below W3.heap.size W3 w') (first | with_reducible assumption | with_reducible exact (Below.refl _ _).drew | with_reducible exact ((Below.refl _ _).alloc (Nat.le_refl _) _).drew | ((with_reducible refine mS_alloc ?_); assumption) | ((with_reducible refine mS_call ?_ ?_ ?_); assumption; assumption; rfl) | ((with_reducible refine below_set6 ?_ ?_); assumption; (first | with_reducible exact Nat.le_refl _ | with_reducible exact Below.size (by assumption) | ((with_reducible refine Nat.le_succ_of_le ?_); exact Below.size (by assumption))))) (first
          | (go_at_call 12; (with_reducible refine (one_agg x _ hxr.out).mono ?_); rintro e wA ⟨rfl, hbA⟩; have hSA := mS_call hbA (by assumption) rfl; (first | (have kk := kk.below hbA rfl; obtain ⟨⟨k0, k1, k2, k3, k4, k5⟩, f0, f1, f2, f3, f4, f5⟩ := id kk) | (have kk := six_go hbA; (try simp at kk); obtain ⟨⟨k0, k1, k2, k3, k4, k5⟩, f0, f1, f2, f3, f4, f5⟩ := id kk) | (have kk := six_go (below_undrew hbA); obtain ⟨⟨k0, k1, k2, k3, k4, k5⟩, f0, f1, f2, f3, f4, f5⟩ := id kk) | skip))
          | (go_at_call 7; (with_reducible refine (Hjn.out _ _ ?_).mono ?_); (first | exact reds_at _ _ a x.one _ (by simp) | exact reds_on _ _ _ a x.one _ (by simp)); rintro e wC ⟨rfl, hbC⟩; have hSC := mS_call hbC (by assumption) rfl; (first | (have kk := kk.below hbC rfl; obtain ⟨⟨k0, k1, k2, k3, k4, k5⟩, f0, f1, f2, f3, f4, f5⟩ := id kk) | (have kk := (kk.alloc _).below hbC rfl; obtain ⟨⟨k0, k1, k2, k3, k4, k5⟩, f0, f1, f2, f3, f4, f5⟩ := id kk) | (have kk := six_go hbC; (try simp at kk); obtain ⟨⟨k0, k1, k2, k3, k4, k5⟩, f0, f1, f2, f3, f4, f5⟩ := id kk) | (have kk := ((Six.new _ _ _ _ _ _ _ _).alloc _).below hbC rfl; obtain ⟨⟨k0, k1, k2, k3, k4, k5⟩, f0, f1, f2, f3, f4, f5⟩ := id kk) | skip)))
        all_goals
          go_wp2_with fail
          go_meet
          case rel =>
            refine ⟨_, rfl, rfl, by with_reducible assumption, ?_⟩
            unfold SixR
            first | with_reducible exact Six.new _ _ _ _ _ _ _ _ | with_reducible exact ((((((kk.s0 _).s1 _).s2 _).s3 _).s4 _).s5 _)
      case rest =>
        obtain ⟨g, rfl, rfl, hbx, hsx⟩ := hcut
        have HA4 := Lib.hid (Six.below HA3.out hbx rfl)
        have hb4 : Below (w.heap.size + 1) W1 wc := hb3.trans (hbx.mono (by omega))
        rw [← hnext.out] at hsx
        clear HA3 c0 c1 c2 c3 c4 c5 d0 d1 d2 d3 Hjn hbx hnext hb3
        obtain ⟨a', ha'⟩ : ∃ a', allR (l.take (k + 1)) = a' := ⟨_, rfl⟩
        rw [ha'] at hsx
        have Ha' := Lib.hid ha'
        clear ha'
        obtain ⟨⟨r0, r1, r2, r3, r4, r5⟩, -⟩ := hsx
        obtain ⟨⟨q0, q1, q2, q3, q4, q5⟩, f0, f1, f2, f3, f4, f5⟩ := HA4.out
        go_wp2_with fail
        go_roundw
        case rel => exact ⟨k + 1, by omega, by go_num, below_set6 hb4 (Nat.le_refl _), by rw [Ha'.out]; exact ((((((HA4.out.s0 _).s1 _).s2 _).s3 _).s4 _).s5 _)⟩
        case measure => simp [intOf]; omega
    · have hkn : l.take k = l := List.take_of_length_le (by rw [hlen.out]; omega)
      rw [hkn] at hsix
      clear hkn
      have hs0 := HS0.out.under hbr (by omega)
      have hb2 : Below w.heap.size w wr := hb1.trans (hbr.mono (Nat.le_succ _))
      clear hbr
      obtain ⟨a, ha⟩ : ∃ a, allR l = a := ⟨_, rfl⟩
      rw [ha] at hsix
      have Ha := Lib.hid ha
      clear ha
      obtain ⟨⟨r0, r1, r2, r3, r4, r5⟩, -⟩ := hsix
      obtain ⟨⟨q0, q1, q2, q3, q4, q5⟩, f0, f1, f2, f3, f4, f5⟩ := hs0
      go_wp2_with fail
      refine bodyPost_ret (v := .tuple #[.agg #[.int .i64 a.c, .int .i64 a.i, .int .i64 (hiI a.v), .int .u64 (loI a.v), .int .i64 a.l, .int .i64 a.m], .bool true]) ?_ rfl ⟨by rw [Ha.out], below_set6 hb2 (Nat.le_refl _)⟩
      simp [results, Tryd.results6, go_sem, *]
end Go.Proofs.YtinaecmpigenoaaDoor
/-
  Steps of a region that draws, more of them: a row made of values, an append onto a row of one's own beside another such row of the same type. No program in sight.
-/
namespace Go.Proofs.YtinaecmpigenoaaDoor
open Go.RowKit
set_option linter.unusedVariables false

/-- Two rows of one's own are apart. -/
def ApartV (v u : Value) : Prop := u.ownBlock = none ∨ u.ownBlock ≠ v.ownBlock
theorem shows_made (W : World) (cs : Array Value) (t : TypeId) (g n size : Nat) (hg : W.heap.size = g) (hl : cs.toList.length = n * size) : Shows (W.alloc (.cells cs t)) (g + 1) size (some ⟨g, 0, none⟩) n cs.toList := by
  subst hg
  refine ⟨hl, fun _ => ⟨W.heap.size, 0, rfl, by omega, fun j u hu => ?_⟩⟩
  rw [Nat.zero_add]
  refine (World.cell?_alloc_new W _ t j).trans ?_
  simpa using hu
section
variable {P : Program} {w w' : World} {o : Oper} {a : Act} {K : Act → World → Prop} {Q : Exit → Act → World → Prop}
/-- '[]T{..}'. -/
theorem step_rows (t e : TypeId) (k : Nat) (xs : Array (Nat × Operand)) (ho : o.op = .buildSlice t k xs) (size : Nat) (i : TypeInfo) (z : Value) (ht : P.underlying t = some (.slice e)) (hi : P.info? e = some i) (hz : i.zero = some z) (hsize : i.size = size)
    (cells : Array Value) (hf : Instr.fill (fun q => some (q * size, size)) ((Array.range (k * size)).map (z.cells[· % z.cells.size]!)) (xs.toList.map fun p => (p.1, a.eval p.2)) = some cells) (hcs : cells.toList.length = k * size) (h0 : ¬ k * size = 0) (h24 : ¬ k * size > 2 ^ 24)
    (h : ∀ g w', w.heap.size ≤ g → Shows w' (g + 1) size (some ⟨g, 0, none⟩) k cells.toList → g + 1 ≤ w'.heap.size → Below w.heap.size w w' → K (a.put o.dst (.slice (some ⟨g, 0, none⟩) k k)) w') : o.wp P a w K Q := by
  refine wp_buildSlice t e k xs ho cells i z ht hi hz (by rw [hsize]; exact h24) (by rw [hsize]; exact h0) (by rw [hsize]; simpa using hf) ?_
  exact h w.heap.size (w.alloc (.cells cells e)) (Nat.le_refl _) (shows_made w cells e w.heap.size k size rfl hcs) (by rw [World.size_alloc]; exact Nat.le_refl _) ((Below.refl _ _).alloc (Nat.le_refl _) _)
/-- append onto a row of one's own, beside another one. -/
theorem step_appO (s x : Operand) (t : TypeId) (ho : o.op = .call { callee := .builtin .append, args := #[s, x], argTypes := #[t, t] })
    (base : Nat) (e : TypeId) (i : TypeInfo) (z : Value) (size bytes : Nat) (ht : P.underlying t = some (.slice e)) (hi : P.info? e = some i) (hz : i.zero = some z)
    (hsize : i.size = size) (hby : i.bytes = bytes) (hzs : z.cells.size = size) (hsz : 0 < size)
    (v : Value) (n : Nat) (xs : List Value) (hs : a.eval s = v) (hown : w.ownsRow base e size v n xs)
    (B : Nat) (b : Nat) (m c : Nat) (news : List Value) (hx : a.eval x = .slice (some ⟨b, 0, none⟩) m c) (hr : Shows w B size (some ⟨b, 0, none⟩) m news) (h1 : ∀ u ∈ news, u.oneCell' = true)
    (h63 : n + m ≤ maxLen) (hbytes : (n + m) * bytes ≤ 140737488355328) (hbase : base ≤ w.heap.size)
    (h : ∀ A' c' w', w'.ownsRow base e size (.slice A' (n + m) c') (n + m) (xs ++ news) → w.grownBy w' v.ownBlock → Below base w w' → ((Value.slice A' (n + m) c').ownBlock = v.ownBlock ∨ (Value.slice A' (n + m) c').ownBlock = some w.heap.size) → K (a.put o.dst (.slice A' (n + m) c')) w') :
    o.wp P a w K Q := by
  have hcells : ∀ j u, news[j]? = some u → w.cell? ((⟨b, 0, none⟩ : Addr).add j) = some u := by
    intro j u hu
    rcases Nat.eq_zero_or_pos m with h0 | h0
    · subst h0
      have hn : news = [] := List.eq_nil_of_length_eq_zero (by simpa using hr.1)
      subst hn
      simp at hu
    · obtain ⟨b', off, he, _, hc⟩ := hr.2 h0
      injection he with he
      injection he with e1 e2
      subst e1; subst e2
      rw [addr_add]
      exact hc j u hu
  obtain ⟨v', w', hrun, h2, h3, _, h4⟩ := run_append_own_at (P := P) w base t o.type e i z size bytes ht hi hz hsize hby hzs hsz v n xs hown ⟨b, 0, none⟩ m c news hr.1 hcells h1 h63 hbytes hbase
  obtain ⟨A', c', rfl, _, _⟩ := own_form h2
  unfold Oper.wp execOp
  simp only [ho, resolve, invoke, builtin, Sem.run_bind, Sem.run_pure, Result.andThen_ok, List.map_toArray, List.map_cons, List.map_nil, hs, hx, hrun]
  exact h A' c' w' h2 h3 ((Below.refl base w).grown h3 hbase fun k hk => (hown.lt k hk).1) h4
theorem wpList_appO {ops : Array Oper} {rest : List Oper} (hgd : o.guard = none) (s x : Operand) (t : TypeId) (ho : o.op = .call { callee := .builtin .append, args := #[s, x], argTypes := #[t, t] })
    (base : Nat) (e : TypeId) (i : TypeInfo) (z : Value) (size bytes : Nat) (ht : P.underlying t = some (.slice e)) (hi : P.info? e = some i) (hz : i.zero = some z)
    (hsize : i.size = size) (hby : i.bytes = bytes) (hzs : z.cells.size = size) (hsz : 0 < size)
    (v : Value) (n : Nat) (xs : List Value) (hs : a.eval s = v) (hown : w.ownsRow base e size v n xs)
    (B : Nat) (b : Nat) (m c : Nat) (news : List Value) (hx : a.eval x = .slice (some ⟨b, 0, none⟩) m c) (hr : Shows w B size (some ⟨b, 0, none⟩) m news) (h1 : ∀ u ∈ news, u.oneCell' = true)
    (h63 : n + m ≤ maxLen) (hbytes : (n + m) * bytes ≤ 140737488355328) (hbase : base ≤ w.heap.size)
    (h : ∀ A' c' w', w'.ownsRow base e size (.slice A' (n + m) c') (n + m) (xs ++ news) → w.grownBy w' v.ownBlock → Below base w w' → ((Value.slice A' (n + m) c').ownBlock = v.ownBlock ∨ (Value.slice A' (n + m) c').ownBlock = some w.heap.size) → wpList P ops Q rest (a.put o.dst (.slice A' (n + m) c')) w') :
    wpList P ops Q (o :: rest) a w :=
  wpList_plain hgd fun _ hK => step_appO s x t ho base e i z size bytes ht hi hz hsize hby hzs hsz v n xs hs hown B b m c news hx hr h1 h63 hbytes hbase fun A' c' w' h2 h3 h4 h5 => hK _ _ (h A' c' w' h2 h3 h4 h5)
theorem apart_app {base size n : Nat} {e : TypeId} {v v' u : Value} {xs : List Value} (ha : ApartV v u) (hu : w.ownsRow base e size u n xs) (hor : v'.ownBlock = v.ownBlock ∨ v'.ownBlock = some w.heap.size) : ApartV v' u := by
  rcases ha with h | h
  · exact .inl h
  · rcases hor with h2 | h2
    · exact .inr (by rw [h2]; exact h)
    · refine .inr fun e => ?_
      rw [h2] at e
      have := (hu.lt _ e).2
      omega
theorem apart_turn {v u : Value} (h : ApartV v u) : ApartV u v := by
  rcases h with h | h
  · cases hv : v.ownBlock with
    | none => exact .inl hv
    | some k => exact .inr (by rw [hv, h]; simp)
  · exact .inr fun e => h e.symm
end
end Go.Proofs.YtinaecmpigenoaaDoor
