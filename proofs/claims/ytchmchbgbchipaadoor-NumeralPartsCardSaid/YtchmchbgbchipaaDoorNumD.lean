/-
  Layer 3: the variables of strconv; Read.
-/
import Derived.Test.YtchmchbgbchipaaDoorNumC
import Derived.Test.YtchmchbgbchipaaDoorShelf
import Derived.Test.YtchmchbgbchipaaDoorSt
import Derived.Lib.LaidTab
import Derived.Stop.LaidErr
namespace Go.Proofs.YtchmchbgbchipaaDoor
open Go.RowKit

/-- The variables of strconv hold what its text lays. -/
def NVars (w : World) : Prop :=
  Lib.TabIs Tryd.prog w "internal/strconv.uint64pow10" .u64 Lib.pow10Tab ∧ (∃ tp p, w.var? Tryd.prog "strconv.ErrSyntax" = some #[.iface tp p]) ∧ (∃ tp p, w.var? Tryd.prog "strconv.ErrRange" = some #[.iface tp p])
theorem var_lt {P : Program} {w : World} {n : String} {cs : Array Value} {g : Nat} (hg : P.globalNamed n = some g) (h : w.var? P n = some cs) : g < w.heap.size := by
  unfold World.var? at h
  rw [hg] at h
  simp only [Option.bind_some] at h
  rcases Nat.lt_or_ge g w.heap.size with h' | h'
  · exact h'
  · rw [Array.getElem?_eq_none h'] at h; cases h
theorem var_below {P : Program} {w w' : World} {n : String} {cs : Array Value} {g B : Nat} (hg : P.globalNamed n = some g) (h : w.var? P n = some cs) (hb : Below B w w') (hB : g < B) : w'.var? P n = some cs := by
  unfold World.var? at h ⊢
  rw [hg] at h ⊢
  simp only [Option.bind_some] at h ⊢
  rw [hb.block g hB]
  exact h
theorem gPow : Tryd.prog.globalNamed "internal/strconv.uint64pow10" = some 2 := by kernel_rfl
theorem gSyn : Tryd.prog.globalNamed "strconv.ErrSyntax" = some 0 := by kernel_rfl
theorem gRan : Tryd.prog.globalNamed "strconv.ErrRange" = some 1 := by kernel_rfl
theorem NVars.lt {w : World} (h : NVars w) : 2 < w.heap.size ∧ 0 < w.heap.size ∧ 1 < w.heap.size := by
  obtain ⟨h1, ⟨_, _, h2⟩, ⟨_, _, h3⟩⟩ := h
  exact ⟨var_lt gPow h1, var_lt gSyn h2, var_lt gRan h3⟩
theorem NVars.below {w w' : World} {B : Nat} (h : NVars w) (hb : Below B w w') (hB : 2 < B ∧ 0 < B ∧ 1 < B) : NVars w' := by
  obtain ⟨h1, ⟨t2, p2, h2⟩, ⟨t3, p3, h3⟩⟩ := h
  exact ⟨var_below gPow h1 hb hB.1, ⟨t2, p2, var_below gSyn h2 hb hB.2.1⟩, ⟨t3, p3, var_below gRan h3 hb hB.2.2⟩⟩
theorem NVars.next {w w' : World} (h : NVars w) (hb : Below w.heap.size w w') : NVars w' := h.below hb h.lt

theorem whole_gt {l : List UInt8} {p : Nat} (h : (wholeP l p).2 = true) : p < (wholeP l p).1 := by
  unfold wholeP at h ⊢
  split at h
  · rw [if_pos (by assumption)]; simp only; omega
  · rw [if_neg (by assumption)]
    unfold digP at h ⊢
    have h1 := of_decide_eq_true h
    have := run_from l p
    simp only at h1 ⊢
    omega
theorem frac_from (l : List UInt8) (p : Nat) : p ≤ (fracP l p).1 := by
  unfold fracP
  split
  · have := run_from l (p + 1); unfold digP; simp only; omega
  · exact Nat.le_refl _
theorem expo_from (l : List UInt8) (p : Nat) : p ≤ (expoP l p).1 := by
  unfold expoP
  split
  · have := run_from l (stepP [43, 45] l (p + 1)); have := step_from [43, 45] l (p + 1); unfold digP; simp only; omega
  · exact Nat.le_refl _
theorem scan_gt {l : List UInt8} {p : Nat} (h : (scanP l p).2.2 = true) : p < (scanP l p).1 := by
  have hs := step_from [45] l p
  unfold scanP at h ⊢
  split at h
  · cases h
  · rename_i h1
    have h1' : (wholeP l (signP l p)).2 = true := by simpa using h1
    have hw := whole_gt h1'
    rw [if_neg h1]
    split at h
    · cases h
    · rename_i h2
      rw [if_neg h2]
      have a := frac_from l (wholeP l (signP l p)).1
      have b := expo_from l (fracP l (wholeP l (signP l p)).1).1
      have hs' : p ≤ signP l p := hs
      simp only
      omega
theorem bytesWorld_below (w : World) (e : TypeId) (s : ByteArray) : Below w.heap.size w (Lib.bytesWorld w e s) :=
  ⟨rfl, rfl, rfl, by rw [Lib.bytesWorld_size]; omega, fun k hk => Lib.bytesWorld_at_old w e s k hk⟩
/-- What ParseInt comes to: the number, or an error that is not nil. -/
theorem parse_any (S : ByteArray) (l : List UInt8) (hS : S.data.toList = l) (hz : S.size ≤ 1000000) (w : World) (hv : NVars w) :
    (∃ v, Lib.parseIntB 64 l = .ok v ∧ Calls Tryd.prog 22 #[.string S, .int .i64 10, .int .i64 64] w fun e w' => e = .returned (.tuple #[.int .i64 v, .nilIface]) ∧ Below w.heap.size w w') ∨
    ((∀ v, Lib.parseIntB 64 l ≠ .ok v) ∧ Calls Tryd.prog 22 #[.string S, .int .i64 10, .int .i64 64] w fun e w' => (∃ (x : Int) (t : TypeId) (u : Value), e = .returned (.tuple #[.int .i64 x, .iface t u])) ∧ Below w.heap.size w w') := by
  obtain ⟨-, ⟨t2, p2, h2⟩, ⟨t3, p3, h3⟩⟩ := hv
  subst hS
  rcases hp : Lib.parseIntB 64 S.data.toList with v | _ | _
  · refine .inl ⟨v, rfl, (Tryd.strconv_ParseInt_10_at64_ok S (by omega) v hp w).mono ?_⟩
    rintro e w' ⟨rfl, hw⟩
    refine ⟨rfl, ?_⟩
    rcases hw with rfl | ⟨t, rfl⟩
    · exact Below.refl _ _
    · exact bytesWorld_below _ _ _
  · refine .inr ⟨by simp, (Any.strconv_ParseInt_10_at64_syntax_var Tryd.laysC174 S (by omega) hp t2 p2 w h2).mono ?_⟩
    rintro e w' ⟨N, rfl, -, -, hb⟩
    exact ⟨⟨_, _, _, rfl⟩, hb⟩
  · refine .inr ⟨by simp, (Any.strconv_ParseInt_10_at64_range_var Tryd.laysC174 S (by omega) hp t3 p3 w h3).mono ?_⟩
    rintro e w' ⟨N, rfl, -, -, hb⟩
    exact ⟨⟨_, _, _, rfl⟩, hb⟩
/-- The bytes of the numeral that is read from a place on. -/
def numL (l : List UInt8) (p : Nat) : List UInt8 := (l.drop p).take ((scanP l p).1 - p)
/-- What Read tells from a place on. -/
def readT (l : List UInt8) (p : Nat) : Int × Nat × Int :=
  if (scanP l p).2.2 = false then (0, (scanP l p).1, 7)
  else if (scanP l p).2.1 = true then (0, p, 130)
  else match Lib.parseIntB 64 (numL l p) with
    | .ok v => (v, (scanP l p).1, 0)
    | _ => (0, p, 130)
theorem readT_no {l : List UInt8} {p : Nat} (h : (scanP l p).2.2 = false) : readT l p = (0, (scanP l p).1, 7) := by unfold readT; rw [if_pos h]
theorem readT_part {l : List UInt8} {p : Nat} (h : (scanP l p).2.2 = true) (h2 : (scanP l p).2.1 = true) : readT l p = (0, p, 130) := by unfold readT; rw [if_neg (by rw [h]; simp), if_pos h2]
theorem readT_ok {l : List UInt8} {p : Nat} {v : Int} (h : (scanP l p).2.2 = true) (h2 : (scanP l p).2.1 = false) (h3 : Lib.parseIntB 64 (numL l p) = .ok v) : readT l p = (v, (scanP l p).1, 0) := by
  unfold readT; rw [if_neg (by rw [h]; simp), if_neg (by rw [h2]; simp), h3]
theorem readT_bad {l : List UInt8} {p : Nat} (h : (scanP l p).2.2 = true) (h3 : ∀ v, Lib.parseIntB 64 (numL l p) ≠ .ok v) : readT l p = (0, p, 130) := by
  unfold readT; rw [if_neg (by rw [h]; simp)]
  split
  · rfl
  · split
    · rename_i v hv; exact absurd hv (h3 v)
    · rfl
theorem read_bad (A : Option Addr) (n c : Nat) (x : Int) (w : World) (h : x < 0 ∨ (n : Int) < x) :
    Calls Tryd.prog 11 #[.slice A n c, .int .i64 x] w fun e w' => e = .returned (.tuple #[.int .i64 0, .int .i64 0, .int .i64 2]) ∧ w' = w := by
  rcases h with h | h
  · go_enter Tryd.func11, Tryd.ntmps11
    go_wp2
    go_ret3
    exact ⟨rfl, rfl⟩
  · have h0 : ¬ x < 0 := by omega
    go_enter Tryd.func11, Tryd.ntmps11
    go_wp2
    go_ret3
    exact ⟨rfl, rfl⟩
/-- What a call of Read at a place of the bytes comes to. -/
def Reads (l : List UInt8) (p : Nat) (w : World) (e : Ending) (w' : World) : Prop :=
  e = .returned (.tuple #[.int .i64 (readT l p).1, .int .i64 ((readT l p).2.1 : Int), .int .i64 (readT l p).2.2]) ∧ Below w.heap.size w w'
set_option maxRecDepth 20000 in
set_option maxHeartbeats 2000000 in
theorem read_in (A : Option Addr) (n c B p : Nat) (l : List UInt8) (w : World) (hv : NVars w) (hl : Bytes w B A n l) (hB : B ≤ w.heap.size) (hn : n ≤ 100000) (hnc : n ≤ c) (hp : p ≤ n) :
    Calls Tryd.prog 11 #[.slice A n c, .int .i64 (p : Int)] w (Reads l p w) := by

  have Hl := Lib.hid hl.len
  have h0 : ¬ (p : Int) < 0 := by omega
  have h1 : ¬ (n : Int) < (p : Int) := by omega
  have hr : Rd (w.alloc (.cells #[.int .i64 (p : Int), .slice A n c, .bool false] 48)) w.heap.size p A n c false := heap_alloc_new w _
  have hnum := numeral_any w.heap.size p A n c B l _ hr (hl.alloc hB _) hB hp (by unfold maxLen; omega)
  have hgw := (Below.refl w.heap.size w).alloc (Nat.le_refl _) (.cells #[.int .i64 (p : Int), .slice A n c, .bool false] 48)
  go_enter Tryd.func11, Tryd.ntmps11
  go_wp2_with fail
  refine hnum.mono ?_
  rintro e w2 ⟨hor, ho⟩
  have hb2 := hgw.trans (ho.below (Nat.le_refl _) (by simp))
  have v2 := hv.next hb2
  have hl2 := hl.below (hb2.mono hB)
  have s2 := hb2.size
  rcases hor with ⟨hok, rfl, hr2⟩ | ⟨hok, rfl⟩
  · have hgt := scan_gt hok
    have hle := scan_le l p (by rw [Hl.out]; exact hp)
    rw [Hl.out] at hle
    have hne : ¬ c = p := by omega
    have hcut := hl2.cut (k := p) (cap := c) hp hnc
    rw [if_neg hne] at hcut
    have hcut := hcut.first (k := (scanP l p).1 - p) (by omega)
    have hnl : (l.drop p).take ((scanP l p).1 - p) = numL l p := rfl
    rw [hnl] at hcut
    have hconv := run_bytes_string (P := Tryd.prog) Tryd.underlying22 Tryd.underlying5 Tryd.underlying9 w2 (A.map (·.add p)) ((scanP l p).1 - p) (c - p) B (numL l p) hcut
    have hsz : (ofL (numL l p)).size ≤ 1000000 := by rw [ofL_size, hcut.len]; omega
    have hc0 := hr2.c0
    have hc2 := hr2.c2
    have i1 : (p : Int) ≤ ((scanP l p).1 : Int) := by omega
    have i2 : ((scanP l p).1 : Int) ≤ (c : Int) := by omega
    have i3 : (0 : Int) ≤ (p : Int) := by omega
    have hpar := parse_any (ofL (numL l p)) (numL l p) (ofL_toList _) hsz w2 v2
    generalize ofL (numL l p) = S at *
    clear hcut hnl hsz hr hnum hgw ho hv
    rcases hpar with ⟨v, hpi, hpar⟩ | ⟨hpi, hpar⟩
    · cases hpart : (scanP l p).2.1
      · have HT := Lib.hid (readT_ok hok hpart hpi)
        rw [hpart] at hc2 hr2
        clear hok hpart hpi
        generalize (scanP l p).1 = q at *
        go_wp2_with fail
        refine hpar.mono ?_
        rintro e w3 ⟨rfl, hb3⟩
        have hr3 := hr2.below hb3 hr2.lt
        have d0 := hr3.c0
        have d2 := hr3.c2
        clear hc0 hc2
        go_wp2_with fail
        go_quiet (fail)
        go_wp2
        go_ret3
        exact ⟨by rw [HT.out]; rfl, below_drewN (bel_next hb2 hb3) _⟩
      · have HT := Lib.hid (readT_part hok hpart)
        rw [hpart] at hc2 hr2
        clear hok hpart hpi
        generalize (scanP l p).1 = q at *
        go_wp2_with fail
        refine hpar.mono ?_
        rintro e w3 ⟨rfl, hb3⟩
        have hr3 := hr2.below hb3 hr2.lt
        have d2 := hr3.c2
        clear hc0 hc2
        go_wp2
        go_ret3
        exact ⟨by rw [HT.out]; rfl, bel_next hb2 hb3⟩
    · have HT := Lib.hid (readT_bad hok hpi)
      clear hok hpi
      generalize (scanP l p).1 = q at *
      generalize (scanP l p).2.1 = part at *
      go_wp2_with fail
      refine hpar.mono ?_
      rintro e w3 ⟨⟨x, t, u, rfl⟩, hb3⟩
      have hr3 := hr2.below hb3 hr2.lt
      have d2 := hr3.c2
      clear hc0 hc2
      cases part
      all_goals
        go_wp2
        go_ret3
        exact ⟨by rw [HT.out]; rfl, bel_next hb2 hb3⟩
  · have HT := Lib.hid (readT_no hok)
    clear hok hr hnum hgw ho hv v2
    generalize (scanP l p).1 = q at *
    go_wp2
    go_ret3
    exact ⟨by rw [HT.out]; rfl, hb2⟩
end Go.Proofs.YtchmchbgbchipaaDoor
