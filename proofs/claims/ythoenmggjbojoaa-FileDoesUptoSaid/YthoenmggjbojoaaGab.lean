import Derived.Test.YthoenmggjbojoaaGaa
import Derived.Test.YthoenmggjbojoaaRows
import Derived.Deep.RegionHeld3
import Derived.ArgAppend
/-
  Layer 10: Check, and the reference's Right.
-/
namespace Go.Proofs.Ythoenmggjbojoaa
open Go.RowKit
set_option linter.unusedVariables false

def hollowB (L : List PcT) : Bool := L.any fun p => p.n == 0
theorem hollow_yes {L : List PcT} {k : Nat} {p : PcT} (h : L[k]? = some p) (h0 : p.n = 0) : hollowB L = true := by
  unfold hollowB
  rw [List.any_eq_true]
  exact ⟨p, List.mem_of_getElem? h, by simp [h0]⟩
theorem hollow_no {L : List PcT} (h : ∀ k p, k < L.length → L[k]? = some p → p.n ≠ 0) : hollowB L = false := by
  unfold hollowB
  rw [List.any_eq_false]
  intro p hp
  obtain ⟨k, hk, he⟩ := List.getElem_of_mem hp
  have := h k p hk (by rw [List.getElem?_eq_getElem hk, he])
  simpa using this
theorem right_hollow (X : FileT) : X.right = (!hollowB X.L && (decide (-1 ≤ X.fuse) && (decide (-1 ≤ X.fault) && ((!X.off || X.fuse == -1) && decide (X.long ≤ 524288))))) := by
  unfold FileT.right hollowB
  congr 1
  rw [List.all_eq_not_any_not]
  simp
set_option maxRecDepth 20000 in
theorem check1_any (A : Option Addr) (n c : Nat) (w : World) : Calls Try.prog 40 #[.slice A n c] w fun e w' => e = .returned (.bool (decide (n = 0))) ∧ w = w' := by
  by_cases h : n = 0
  · subst h
    go_enter Try.func40, Try.ntmps40
    go_wp2
    go_ret
    exact ⟨rfl, rfl⟩
  · have h1 : ((n : Int) == 0) = false := by rw [beq_eq_false_iff_ne]; omega
    rw [decide_eq_false h]
    go_enter Try.func40, Try.ntmps40
    go_wp2
    go_ret
    exact ⟨by first | rfl | simp, rfl⟩
set_option maxRecDepth 20000 in
set_option maxHeartbeats 1000000 in
theorem indexP_any (A : Option Addr) (n c B : Nat) (L : List PcT) (w : World) (h : Shows w B 1 A n (L.map PcT.val)) (hn : n ≤ maxLen) :
    Calls Try.prog 52 #[.slice A n c, .func (.func 40) #[] #[]] w fun e w' => ∃ r : Int, e = .returned (.int .i64 r) ∧ Hid (decide (0 ≤ r) = hollowB L) ∧ w = w' := by
  unfold maxLen at hn
  have HL := Lib.hid (show L.length = n by have := h.1; simpa using this)
  have HS := Lib.hid h
  clear h
  go_enter Try.func52, Try.ntmps52
  go_wp2
  go_loopw [8] (fun i wr => ∃ j : Nat, j ≤ n ∧ i = .int .i64 j ∧ Hid (∀ k p, k < j → L[k]? = some p → p.n ≠ 0) ∧ w = wr) (fun i _ => n - (intOf i).toNat)
  case atStart => exact ⟨0, Nat.zero_le _, rfl, Lib.hid (fun k p hk => absurd hk (Nat.not_lt_zero k)), rfl⟩
  case round =>
    obtain ⟨j, hj, rfl, HN, rfl⟩ := hrel
    by_cases hlt : j < n
    · obtain ⟨b, off, p, rfl, _, hp, hc⟩ := pc_at HS.out hlt
      have hlt' : (j : Int) < n := by omega
      have hc1 := check1_any p.A p.n p.c w
      by_cases h0 : p.n = 0
      · rw [decide_eq_true h0] at hc1
        have HR := Lib.hid (show decide ((0 : Int) ≤ (j : Int)) = hollowB L by rw [hollow_yes hp h0]; simp)
        clear h0 hp HN HS HL
        go_wp2_with fail
        refine hc1.mono ?_
        rintro e W ⟨rfl, rfl⟩
        go_wp2
        go_ret
        exact ⟨_, rfl, HR, rfl⟩
      · rw [decide_eq_false h0] at hc1
        have HN2 := Lib.hid (show ∀ k q, k < j + 1 → L[k]? = some q → q.n ≠ 0 from fun k q hk hq => by
          by_cases e : k = j
          · subst e
            rw [hp] at hq
            cases hq
            exact h0
          · exact HN.out k q (by omega) hq)
        clear h0 hp HN
        go_wp2_with fail
        refine hc1.mono ?_
        rintro e W ⟨rfl, rfl⟩
        clear hc1
        go_wp2
        go_roundw
        case rel => exact ⟨j + 1, by omega, by go_num, HN2, by first | exact trivial | rfl⟩
        case measure => simp [intOf]; omega
    · obtain rfl : j = n := by omega
      have HR := Lib.hid (show decide ((0 : Int) ≤ -1) = hollowB L by rw [hollow_no fun k p hk hp => HN.out k p (by rw [HL.out] at hk; exact hk) hp]; rfl)
      clear HN HS
      go_wp2
      go_ret
      exact ⟨_, rfl, HR, rfl⟩
theorem containsP_any (A : Option Addr) (n c B : Nat) (L : List PcT) (w : World) (h : Shows w B 1 A n (L.map PcT.val)) (hn : n ≤ maxLen) :
    Calls Try.prog 39 #[.slice A n c, .func (.func 40) #[] #[]] w fun e w' => e = .returned (.bool (hollowB L)) ∧ w = w' := by
  have hi := indexP_any A n c B L w h hn
  go_enter Try.func39, Try.ntmps39
  go_wp2_with fail
  refine hi.mono ?_
  rintro e W ⟨r, rfl, HR, rfl⟩
  clear hi
  go_wp2
  go_ret
  exact ⟨by rw [← HR.out]; rfl, rfl⟩
end Go.Proofs.Ythoenmggjbojoaa
/-
  Layer 10: Check.
-/
namespace Go.Proofs.Ythoenmggjbojoaa
open Go.RowKit
set_option linter.unusedVariables false

set_option maxRecDepth 20000 in
set_option maxHeartbeats 2000000 in
theorem checkF_any (X : FileT) (B : Nat) (w : World) (hL : LieF w B X) (hB : B ≤ w.heap.size) (hN : ∀ p ∈ X.Q, p.n ≤ 1048576) :
    Calls Try.prog 17 #[X.agg] w fun e w' => e = .returned (.int .i64 (if X.right = true then 0 else 200)) ∧ Below w.heap.size w w' := by
  have hb1 := bel_alloc (Below.refl w.heap.size w) (.cells #[.slice X.F.A X.F.n X.F.c, .slice X.lA X.ln X.lc, .int .i64 X.fuse, .int .i64 X.fault, .bool X.off] 25)
  obtain ⟨f0, f1, f2, f3, f4⟩ := FBox.new w X 25
  have Hco := Lib.hid (containsP_any X.lA X.ln X.lc B X.L (w.alloc (.cells #[.slice X.F.A X.F.n X.F.c, .slice X.lA X.ln X.lc, .int .i64 X.fuse, .int .i64 X.fault, .bool X.off] 25)) (hL.row.below (hb1.mono hB)) (Nat.le_trans hL.fits hL.most))
  have Hle := Lib.hid (length_any X B (w.alloc (.cells #[.slice X.F.A X.F.n X.F.c, .slice X.lA X.ln X.lc, .int .i64 X.fuse, .int .i64 X.fault, .bool X.off] 25)) (hL.later (hb1.mono hB)) (Nat.le_trans hB hb1.size) hN)
  have HRt := Lib.hid (right_hollow X)
  simp only [FileT.agg, PcT.val] at Hle ⊢
  generalize hollowB X.L = ho at *
  generalize X.right = rt at *
  generalize X.long = lo at *
  clear hL hN
  generalize X.fuse = fu at *
  generalize X.fault = fa at *
  generalize X.off = of at *
  go_enter Try.func17, Try.ntmps17
  go_wp2_with fail
  refine Hco.out.mono ?_
  rintro e W1 ⟨rfl, rfl⟩
  clear Hco
  by_cases c1 : fu < -1
  · have hr : rt = false := by rw [HRt.out, decide_eq_false (show ¬ -1 ≤ fu by omega)]; simp
    clear Hle
    go_wp2
    all_goals
      go_ret
      exact ⟨by first | rfl | (rw [hr]; rfl), hb1⟩
  · by_cases c2 : fa < -1
    · have hr : rt = false := by rw [HRt.out, decide_eq_false (show ¬ -1 ≤ fa by omega)]; simp
      clear Hle
      go_wp2
      all_goals
        go_ret
        exact ⟨by first | rfl | (rw [hr]; rfl), hb1⟩
    · have d1 : decide (-1 ≤ fu) = true := decide_eq_true (by omega)
      have d2 : decide (-1 ≤ fa) = true := decide_eq_true (by omega)
      cases of
      · cases ho
        · by_cases c5 : 524288 < lo
          · have hr : rt = false := by rw [HRt.out, decide_eq_false (show ¬ lo ≤ 524288 by omega)]; simp
            have hgt : ((524288 : Int) < (lo : Int)) = True := by simp; omega
            clear HRt d1 d2 c5
            go_wp2_with fail
            refine Hle.out.mono ?_
            rintro e W2 ⟨rfl, hb2⟩
            clear Hle
            go_wp2
            all_goals
              go_ret
              exact ⟨by first | rfl | (rw [hr]; rfl), bel_next hb1 hb2⟩
          · have hr : rt = true := by rw [HRt.out, d1, d2, decide_eq_true (show lo ≤ 524288 by omega)]; rfl
            have hgt : ((524288 : Int) < (lo : Int)) = False := by simp; omega
            clear HRt d1 d2 c5
            go_wp2_with fail
            refine Hle.out.mono ?_
            rintro e W2 ⟨rfl, hb2⟩
            clear Hle
            go_wp2
            all_goals
              go_ret
              exact ⟨by first | rfl | (rw [hr]; rfl), bel_next hb1 hb2⟩
        · have hr : rt = false := by rw [HRt.out]; rfl
          clear HRt d1 d2
          clear Hle
          go_wp2
          all_goals
            go_ret
            exact ⟨by first | rfl | (rw [hr]; rfl), hb1⟩
      · by_cases c3 : fu = -1
        · subst c3
          cases ho
          · by_cases c5 : 524288 < lo
            · have hr : rt = false := by rw [HRt.out, decide_eq_false (show ¬ lo ≤ 524288 by omega)]; simp
              have hgt : ((524288 : Int) < (lo : Int)) = True := by simp; omega
              clear HRt d1 d2 c5 c1
              go_wp2_with fail
              refine Hle.out.mono ?_
              rintro e W2 ⟨rfl, hb2⟩
              clear Hle
              go_wp2
              all_goals
                go_ret
                exact ⟨by first | rfl | (rw [hr]; rfl), bel_next hb1 hb2⟩
            · have hr : rt = true := by rw [HRt.out, d1, d2, decide_eq_true (show lo ≤ 524288 by omega)]; rfl
              have hgt : ((524288 : Int) < (lo : Int)) = False := by simp; omega
              clear HRt d1 d2 c5 c1
              go_wp2_with fail
              refine Hle.out.mono ?_
              rintro e W2 ⟨rfl, hb2⟩
              clear Hle
              go_wp2
              all_goals
                go_ret
                exact ⟨by first | rfl | (rw [hr]; rfl), bel_next hb1 hb2⟩
          · have hr : rt = false := by rw [HRt.out]; rfl
            clear HRt d1 d2 c1
            clear Hle
            go_wp2
            all_goals
              go_ret
              exact ⟨by first | rfl | (rw [hr]; rfl), hb1⟩
        · have hne : (fu == -1) = false := beq_eq_false_iff_ne.2 c3
          have hr : rt = false := by rw [HRt.out, hne]; simp
          clear HRt d1 d2
          clear Hle
          go_wp2
          all_goals
            go_ret
            exact ⟨by first | rfl | (rw [hr]; rfl), hb1⟩
end Go.Proofs.Ythoenmggjbojoaa
/-
  Layer 10: the reference's Right.
-/
namespace Go.Proofs.Ythoenmggjbojoaa
open Go.RowKit
set_option linter.unusedVariables false

set_option maxRecDepth 20000 in
set_option maxHeartbeats 4000000 in
theorem refRight_any (X : FileT) (B : Nat) (w : World) (hL : LieF w B X) (hB : B ≤ w.heap.size) (hN : ∀ p ∈ X.Q, p.n ≤ 1048576) :
    Calls Try.prog 16 #[X.agg] w fun e w' => e = .returned (.bool X.right) ∧ Below w.heap.size w w' := by
  have hb1 := bel_alloc (Below.refl w.heap.size w) (.cells #[.slice X.F.A X.F.n X.F.c, .slice X.lA X.ln X.lc, .int .i64 X.fuse, .int .i64 X.fault, .bool X.off] 25)
  obtain ⟨f0, f1, f2, f3, f4⟩ := FBox.new w X 25
  have Hle := Lib.hid (refLong_any X B (w.alloc (.cells #[.slice X.F.A X.F.n X.F.c, .slice X.lA X.ln X.lc, .int .i64 X.fuse, .int .i64 X.fault, .bool X.off] 25)) (hL.later (hb1.mono hB)) (Nat.le_trans hB hb1.size) hN)
  have HRt := Lib.hid (right_hollow X)
  have hln := Nat.le_trans hL.fits hL.most
  unfold maxLen at hln
  have Hrow := Lib.hid (hL.row.below (hb1.mono hB))
  have HlL := Lib.hid hL.len
  simp only [FileT.agg, PcT.val] at Hle ⊢
  generalize X.right = rt at *
  generalize X.long = lo at *
  clear hL hN
  generalize X.fuse = fu at *
  generalize X.fault = fa at *
  generalize X.off = of at *
  go_enter Try.func16, Try.ntmps16
  go_upto_region 1 with fail
  generalize (w.alloc (.cells #[.slice X.F.A X.F.n X.F.c, .slice X.lA X.ln X.lc, .int .i64 fu, .int .i64 fa, .bool of] 25)) = W1 at *
  go_wp2
  go_loopw [3] (fun i wr => ∃ j : Nat, j ≤ X.ln ∧ i = .int .i64 j ∧ Hid (∀ k p, k < j → X.L[k]? = some p → p.n ≠ 0) ∧ W1 = wr) (fun i _ => X.ln - (intOf i).toNat)
  case atStart => exact ⟨0, Nat.zero_le _, rfl, Lib.hid (fun k p hk => absurd hk (Nat.not_lt_zero k)), rfl⟩
  case round =>
    obtain ⟨j, hj, rfl, HN, rfl⟩ := hrel
    by_cases hlt : j < X.ln
    · obtain ⟨b, off, p, hA, _, hp, hc⟩ := pc_at Hrow.out hlt
      have hlt' : (j : Int) < X.ln := by omega
      rw [hA] at f1
      by_cases h0 : p.n = 0
      · have hr : rt = false := by rw [HRt.out, hollow_yes hp h0]; rfl
        have h1 : ((p.n : Int) == 0) = true := by rw [beq_iff_eq]; omega
        clear h0 hp HN Hrow HlL HRt
        clear Hle
        go_wp2
        all_goals
          go_ret
          exact ⟨by first | rfl | (rw [hr]; rfl), hb1⟩
      · have h1 : ((p.n : Int) == 0) = false := by rw [beq_eq_false_iff_ne]; omega
        have HN2 := Lib.hid (show ∀ k q, k < j + 1 → X.L[k]? = some q → q.n ≠ 0 from fun k q hk hq => by
          by_cases e : k = j
          · subst e
            rw [hp] at hq
            cases hq
            exact h0
          · exact HN.out k q (by omega) hq)
        clear h0 hp HN HRt
        go_wp2
        go_roundw
        case rel => exact ⟨j + 1, by omega, by go_num, HN2, by first | exact trivial | rfl⟩
        case measure => simp [intOf]; omega
    · obtain rfl : j = X.ln := by omega
      have hho : hollowB X.L = false := hollow_no fun k p hk hp => HN.out k p (by rw [HlL.out] at hk; exact hk) hp
      have HR2 := HRt.out
      rw [hho] at HR2
      have HRt := Lib.hid HR2
      clear HN Hrow HlL hho HR2
      by_cases c1 : fu < -1
      · have hr : rt = false := by rw [HRt.out, decide_eq_false (show ¬ -1 ≤ fu by omega)]; rfl
        clear Hle
        go_wp2
        all_goals
          go_ret
          exact ⟨by first | rfl | (rw [hr]; rfl), hb1⟩
      · by_cases c2 : fa < -1
        · have hr : rt = false := by rw [HRt.out, decide_eq_false (show ¬ -1 ≤ fa by omega)]; simp
          clear Hle
          go_wp2
          all_goals
            go_ret
            exact ⟨by first | rfl | (rw [hr]; rfl), hb1⟩
        · have d1 : decide (-1 ≤ fu) = true := decide_eq_true (by omega)
          have d2 : decide (-1 ≤ fa) = true := decide_eq_true (by omega)
          cases of
          · by_cases c5 : lo ≤ 524288
            · have hr : rt = true := by rw [HRt.out, d1, d2, decide_eq_true c5]; rfl
              have hgt : ((lo : Int) ≤ 524288) = True := by simp; omega
              clear HRt d1 d2 c5
              go_wp2_with fail
              refine Hle.out.mono ?_
              rintro e W2 ⟨rfl, hb2⟩
              clear Hle
              go_wp2
              all_goals
                go_ret
                exact ⟨by first | rfl | (rw [hr]; rfl), bel_next hb1 hb2⟩
            · have hr : rt = false := by rw [HRt.out, decide_eq_false c5]; simp
              have hgt : ((lo : Int) ≤ 524288) = False := by simp; omega
              clear HRt d1 d2 c5
              go_wp2_with fail
              refine Hle.out.mono ?_
              rintro e W2 ⟨rfl, hb2⟩
              clear Hle
              go_wp2
              all_goals
                go_ret
                exact ⟨by first | rfl | (rw [hr]; rfl), bel_next hb1 hb2⟩
          · by_cases c3 : fu = -1
            · subst c3
              by_cases c5 : lo ≤ 524288
              · have hr : rt = true := by rw [HRt.out, d1, d2, decide_eq_true c5]; rfl
                have hgt : ((lo : Int) ≤ 524288) = True := by simp; omega
                clear HRt d1 d2 c5 c1
                go_wp2_with fail
                refine Hle.out.mono ?_
                rintro e W2 ⟨rfl, hb2⟩
                clear Hle
                go_wp2
                all_goals
                  go_ret
                  exact ⟨by first | rfl | (rw [hr]; rfl), bel_next hb1 hb2⟩
              · have hr : rt = false := by rw [HRt.out, decide_eq_false c5]; simp
                have hgt : ((lo : Int) ≤ 524288) = False := by simp; omega
                clear HRt d1 d2 c5 c1
                go_wp2_with fail
                refine Hle.out.mono ?_
                rintro e W2 ⟨rfl, hb2⟩
                clear Hle
                go_wp2
                all_goals
                  go_ret
                  exact ⟨by first | rfl | (rw [hr]; rfl), bel_next hb1 hb2⟩
            · have hne : (fu == -1) = false := beq_eq_false_iff_ne.2 c3
              have hr : rt = false := by rw [HRt.out, hne]; simp
              clear HRt d1 d2
              clear Hle
              go_wp2
              all_goals
                go_ret
                exact ⟨by first | rfl | (rw [hr]; rfl), hb1⟩
end Go.Proofs.Ythoenmggjbojoaa
/-
  append onto a row of the call's own, the source given by 'Shows': nil, empty or not. No program in sight.
-/
namespace Go.Proofs.Ythoenmggjbojoaa
open Go.RowKit

section
variable {P : Program} (w : World)

theorem run_append_shows (base : Nat) (t ty e : TypeId) (i : TypeInfo) (z : Value) (size bytes : Nat) (ht : P.underlying t = some (.slice e)) (hi : P.info? e = some i) (hz : i.zero = some z)
    (hsize : i.size = size) (hby : i.bytes = bytes) (hzs : z.cells.size = size) (hsz : 0 < size)
    (v : Value) (n : Nat) (xs : List Value) (hown : w.ownsRow base e size v n xs)
    (B : Nat) (A : Option Addr) (m c : Nat) (news : List Value) (hr : Shows w B size A m news) (h1 : ∀ u ∈ news, u.oneCell' = true)
    (h63 : n + m ≤ maxLen) (hbytes : (n + m) * bytes ≤ 140737488355328) (hbase : base ≤ w.heap.size) :
    ∃ A' c' w', (Builtin.append_ #[t, t] ty #[v, .slice A m c]).run P w = .ok (.slice A' (n + m) c') w' ∧ w'.ownsRow base e size (.slice A' (n + m) c') (n + m) (xs ++ news) ∧ w.grownBy w' v.ownBlock ∧ Below base w w' := by
  have key : ∃ v' w', (Builtin.append_ #[t, t] ty #[v, .slice A m c]).run P w = .ok v' w' ∧ w'.ownsRow base e size v' (n + m) (xs ++ news) ∧ w.grownBy w' v.ownBlock := by
    rcases A with _ | ad
    · have hm : m = 0 := by
        rcases Nat.eq_zero_or_pos m with h0 | h0
        · exact h0
        · obtain ⟨_, _, h, _⟩ := hr.2 h0
          cases h
      subst hm
      have hn : news = [] := List.eq_nil_of_length_eq_zero (by simpa using hr.1)
      subst hn
      refine ⟨v, w, ?_, by simpa using hown, World.grownBy.refl w _⟩
      rcases hown.2 with ⟨rfl, rfl⟩ | ⟨g, cap, cur, rfl, _, _, hnc, _⟩
      · simp [Builtin.append_, run_underlying ht, sizeOf, typeInfo, hi, Builtin.lenOf, Builtin.firstCells]
      · simp [Builtin.append_, run_underlying ht, sizeOf, typeInfo, hi, Builtin.lenOf, Builtin.firstCells, hnc, storeCells]
    · have hcells : ∀ j u, news[j]? = some u → w.cell? (ad.add j) = some u := by
        intro j u hu
        rcases Nat.eq_zero_or_pos m with h0 | h0
        · subst h0
          have hn : news = [] := List.eq_nil_of_length_eq_zero (by simpa using hr.1)
          subst hn
          simp at hu
        · obtain ⟨b, off, h, _, hc⟩ := hr.2 h0
          injection h with h
          subst h
          rw [addr_add]
          exact hc j u hu
      obtain ⟨v', w', hrun, h2, h3, _, _⟩ := run_append_own_at (P := P) w base t ty e i z size bytes ht hi hz hsize hby hzs hsz v n xs hown ad m c news hr.1 hcells h1 h63 hbytes hbase
      exact ⟨v', w', hrun, h2, h3⟩
  obtain ⟨v', w', hrun, h2, h3⟩ := key
  obtain ⟨A', c', rfl, _, _⟩ := own_form h2
  exact ⟨A', c', w', hrun, h2, h3, (Below.refl base w).grown h3 hbase fun k hk => (hown.lt k hk).1⟩

theorem wp_append_shows {o : Oper} {a : Act} {K : Act → World → Prop} {Q : Exit → Act → World → Prop} (s x : Operand) (t : TypeId)
    (ho : o.op = .call { callee := .builtin .append, args := #[s, x], argTypes := #[t, t] })
    (base : Nat) (e : TypeId) (i : TypeInfo) (z : Value) (size bytes : Nat) (ht : P.underlying t = some (.slice e)) (hi : P.info? e = some i) (hz : i.zero = some z)
    (hsize : i.size = size) (hby : i.bytes = bytes) (hzs : z.cells.size = size) (hsz : 0 < size)
    (v : Value) (n : Nat) (xs : List Value) (hs : a.eval s = v) (hown : w.ownsRow base e size v n xs)
    (B : Nat) (A : Option Addr) (m c : Nat) (news : List Value) (hx : a.eval x = .slice A m c) (hr : Shows w B size A m news) (h1 : ∀ u ∈ news, u.oneCell' = true)
    (h63 : n + m ≤ maxLen) (hbytes : (n + m) * bytes ≤ 140737488355328) (hbase : base ≤ w.heap.size)
    (h : ∀ A' c' w', w'.ownsRow base e size (.slice A' (n + m) c') (n + m) (xs ++ news) → w.grownBy w' v.ownBlock → Below base w w' → K (a.put o.dst (.slice A' (n + m) c')) w') :
    o.wp P a w K Q := by
  obtain ⟨A', c', w', hrun, h2, h3, h4⟩ := run_append_shows (P := P) w base t o.type e i z size bytes ht hi hz hsize hby hzs hsz v n xs hown B A m c news hr h1 h63 hbytes hbase
  unfold Oper.wp execOp
  simp only [ho, resolve, invoke, builtin, Sem.run_bind, Sem.run_pure, Result.andThen_ok, List.map_toArray, List.map_cons, List.map_nil, hs, hx, hrun]
  exact h A' c' w' h2 h3 h4

theorem wpList_append_shows {ops : Array Oper} {rest : List Oper} {o : Oper} {a : Act} {Q : Exit → Act → World → Prop} (hgd : o.guard = none) (s x : Operand) (t : TypeId)
    (ho : o.op = .call { callee := .builtin .append, args := #[s, x], argTypes := #[t, t] })
    (base : Nat) (e : TypeId) (i : TypeInfo) (z : Value) (size bytes : Nat) (ht : P.underlying t = some (.slice e)) (hi : P.info? e = some i) (hz : i.zero = some z)
    (hsize : i.size = size) (hby : i.bytes = bytes) (hzs : z.cells.size = size) (hsz : 0 < size)
    (v : Value) (n : Nat) (xs : List Value) (hs : a.eval s = v) (hown : w.ownsRow base e size v n xs)
    (B : Nat) (A : Option Addr) (m c : Nat) (news : List Value) (hx : a.eval x = .slice A m c) (hr : Shows w B size A m news) (h1 : ∀ u ∈ news, u.oneCell' = true)
    (h63 : n + m ≤ maxLen) (hbytes : (n + m) * bytes ≤ 140737488355328) (hbase : base ≤ w.heap.size)
    (h : ∀ A' c' w', w'.ownsRow base e size (.slice A' (n + m) c') (n + m) (xs ++ news) → w.grownBy w' v.ownBlock → Below base w w' → wpList P ops Q rest (a.put o.dst (.slice A' (n + m) c')) w') :
    wpList P ops Q (o :: rest) a w :=
  wpList_plain hgd fun _ hK => wp_append_shows w s x t ho base e i z size bytes ht hi hz hsize hby hzs hsz v n xs hs hown B A m c news hx hr h1 h63 hbytes hbase fun A' c' w' h2 h3 h4 => hK _ _ (h A' c' w' h2 h3 h4)

theorem step_append_shows {ops : Array Oper} {o : Oper} {a : Act} {K : Act → World → Prop} {Q : Exit → Act → World → Prop} {E : Prop} (hgd : o.guard = none) (s x : Operand) (t : TypeId)
    (ho : o.op = .call { callee := .builtin .append, args := #[s, x], argTypes := #[t, t] })
    (base : Nat) (e : TypeId) (i : TypeInfo) (z : Value) (size bytes : Nat) (ht : P.underlying t = some (.slice e)) (hi : P.info? e = some i) (hz : i.zero = some z)
    (hsize : i.size = size) (hby : i.bytes = bytes) (hzs : z.cells.size = size) (hsz : 0 < size)
    (v : Value) (n : Nat) (xs : List Value) (hs : a.eval s = v) (hown : w.ownsRow base e size v n xs)
    (B : Nat) (A : Option Addr) (m c : Nat) (news : List Value) (hx : a.eval x = .slice A m c) (hr : Shows w B size A m news) (h1 : ∀ u ∈ news, u.oneCell' = true)
    (h63 : n + m ≤ maxLen) (hbytes : (n + m) * bytes ≤ 140737488355328) (hbase : base ≤ w.heap.size)
    (h : ∀ A' c' w', w'.ownsRow base e size (.slice A' (n + m) c') (n + m) (xs ++ news) → w.grownBy w' v.ownBlock → Below base w w' → K (a.put o.dst (.slice A' (n + m) c')) w') :
    if Region.wanted o (yielded ops a.tmps) = true then Oper.wp P o a w K Q else E := by
  have hw : Region.wanted o (yielded ops a.tmps) = true := by simp [Region.wanted, hgd]
  rw [if_pos hw]
  exact wp_append_shows w s x t ho base e i z size bytes ht hi hz hsize hby hzs hsz v n xs hs hown B A m c news hx hr h1 h63 hbytes hbase h
end
end Go.Proofs.Ythoenmggjbojoaa
namespace Go.Proofs.Ythoenmggjbojoaa
open Go.RowKit

theorem bytes_nil {w : World} {B n : Nat} {l : List UInt8} (h : Bytes w B none n l) : n = 0 ∧ l = [] := by
  have hn0 : n = 0 := by
    rcases Nat.eq_zero_or_pos n with h0 | h0
    · exact h0
    · obtain ⟨_, _, h, _⟩ := h.2 h0
      cases h
  exact ⟨hn0, List.eq_nil_of_length_eq_zero (by rw [h.len, hn0])⟩

set_option maxRecDepth 20000 in
theorem u8_info : ∃ i, Try.prog.info? 5 = some i ∧ i.zero = some (.int .u8 0) ∧ i.size = 1 ∧ i.bytes = 1 := ⟨Try.t5, by kernel_rfl, by kernel_rfl, by kernel_rfl, by kernel_rfl⟩

set_option maxRecDepth 20000 in
set_option maxHeartbeats 1000000 in
theorem clone_any (A : Option Addr) (n c : Nat) (l : List UInt8) (B : Nat) (w : World) (h : Bytes w B A n l) (hA : A = none → c = 0) (hB : B ≤ w.heap.size) (hn : n ≤ 140737488355328) :
    Calls Try.prog 34 #[.slice A n c] w (GivesBytes 5 l w) := by
  have hnil := fun (W : World) (a : Option Addr) (n c : Nat) => Lib.run_eql_slice_nil (P := Try.prog) W 22 5 a n c 0 0 Try.underlying22
  rcases A with _ | a
  · obtain rfl := hA rfl
    obtain ⟨rfl, rfl⟩ := bytes_nil h
    go_enter Try.func34, Try.ntmps34
    go_wp2
    go_ret
    exact ⟨none, 0, 0, rfl, World.ownsRow_nil _ _ _ _, Below.refl _ _⟩
  · obtain ⟨i0, hi, hz0, hz1, hz2⟩ := u8_info
    have hown := World.ownsRow_made (base := w.heap.size) (e := 5) (size := 1) w #[] 0 (Nat.le_refl _) (Nat.zero_le _) rfl
    have hs := (h.more hB).alloc (Nat.le_refl _) (.cells #[] 5)
    go_enter Try.func34, Try.ntmps34
    go_wp2_with (at_builtin; refine wpList_append_shows _ rfl _ _ _ rfl w.heap.size 5 i0 (.int .u8 0) 1 1 Try.underlying22 hi hz0 hz1 hz2 rfl (by decide) _ _ _ rfl hown w.heap.size _ _ _ (l.map bv) rfl hs (bv_one l) ?c3 ?c4 ?c5 ?_)
    case c3 => unfold maxLen; omega
    case c4 => omega
    case c5 => simp
    · intro A' c' w1 hown' _ hbel
      go_wp2
      go_ret
      exact ⟨A', n, c', by simp, hown', ((Below.refl _ _).alloc (Nat.le_refl _) _).trans hbel⟩
end Go.Proofs.Ythoenmggjbojoaa
/-
  Layer 10: Len, and the reference's All.
-/
namespace Go.Proofs.Ythoenmggjbojoaa
open Go.RowKit
set_option linter.unusedVariables false

set_option maxRecDepth 20000 in
theorem lenF_any (X : FileT) (B : Nat) (w : World) (hL : LieF w B X) (hB : B ≤ w.heap.size) (hN : ∀ p ∈ X.Q, p.n ≤ 1048576) :
    Calls Try.prog 20 #[X.agg] w fun e w' => e = .returned (.int .i64 (if X.right = true then (X.long : Nat) else 0)) ∧ Below w.heap.size w w' := by
  have hb1 := bel_alloc (Below.refl w.heap.size w) (.cells #[.slice X.F.A X.F.n X.F.c, .slice X.lA X.ln X.lc, .int .i64 X.fuse, .int .i64 X.fault, .bool X.off] 25)
  have HX := FBox.new w X 25
  have hch := checkF_any X B _ (hL.later (hb1.mono hB)) (Nat.le_trans hB hb1.size) hN
  have Hle := Lib.hid (fun W (h : Below w.heap.size w W) => length_any X B W (hL.later (h.mono hB)) (Nat.le_trans hB h.size) hN)
  simp only [FileT.agg, PcT.val] at Hle hch ⊢
  generalize X.long = lo at *
  clear hL hN
  obtain ⟨f0, f1, f2, f3, f4⟩ := HX
  cases hr : X.right
  · rw [hr] at hch
    clear hr
    go_enter Try.func20, Try.ntmps20
    go_wp2_with fail
    refine hch.mono ?_
    rintro e W1 ⟨rfl, hb2⟩
    clear hch Hle
    go_wp2
    all_goals
      go_ret
      exact ⟨rfl, bel_next hb1 hb2⟩
  · rw [hr] at hch
    clear hr
    have HX := Lib.hid (FBox.new w X 25)
    go_enter Try.func20, Try.ntmps20
    go_wp2_with fail
    refine hch.mono ?_
    rintro e W1 ⟨rfl, hb2⟩
    have hb3 := bel_next hb1 hb2
    have hX2 := HX.out.later hb2
    clear hch HX f0 f1 f2 f3 f4
    obtain ⟨f0, f1, f2, f3, f4⟩ := hX2
    go_wp2_with fail
    refine (Hle.out _ hb3).mono ?_
    rintro e W2 ⟨rfl, hb4⟩
    clear Hle
    go_wp2
    all_goals
      go_ret
      exact ⟨rfl, bel_next hb3 hb4⟩
theorem sumN_take (L : List PcT) (k : Nat) : sumN (L.take k) ≤ sumN L := by
  have h : sumN L = sumN (L.take k) + sumN (L.drop k) := by
    unfold sumN
    rw [← List.sum_append, ← List.map_append, List.take_append_drop]
  omega
set_option maxRecDepth 20000 in
set_option maxHeartbeats 2000000 in
theorem refAll_any (X : FileT) (B : Nat) (w : World) (hL : LieF w B X) (hB : B ≤ w.heap.size) (hr : X.right = true) :
    Calls Try.prog 21 #[X.agg] w fun e w' => ∃ A c, e = .returned (.slice A X.long c) ∧ Hid (w'.ownsRow w.heap.size 5 1 (.slice A X.long c) X.long (X.all.map bv)) ∧ Below w.heap.size w w' := by
  obtain ⟨i0, hi, hz0, hz1, hz2⟩ := u8_info
  obtain ⟨hlong, hmax⟩ := right_all hL hr
  have hsum : X.all.length = X.F.n + sumN X.L := by unfold FileT.all; rw [List.length_append, hL.firm.len, sumN_len hL.loose]
  have hb1 := bel_alloc (Below.refl w.heap.size w) (.cells #[.slice X.F.A X.F.n X.F.c, .slice X.lA X.ln X.lc, .int .i64 X.fuse, .int .i64 X.fault, .bool X.off] 25)
  have HX := Lib.hid (FBox.new w X 25)
  have HL := Lib.hid (fun W (h : Below w.heap.size w W) => hL.later (h.mono hB))
  have hln := Nat.le_trans hL.fits hL.most
  unfold maxLen at hln
  have hMx : 600000 ≤ maxLen := by decide
  have Hlong := Lib.hid (show X.long = X.F.n + sumN X.L by rw [hlong, hsum])
  have hFn : X.F.n ≤ 524288 := by omega
  have Hsum := Lib.hid (show X.F.n + sumN X.L ≤ 524288 by omega)
  have HlL := Lib.hid hL.len
  clear hlong hmax hsum hr
  simp only [FileT.agg, PcT.val]
  go_enter Try.func21, Try.ntmps21
  go_upto_region 2 with fail
  generalize (w.alloc (.cells #[.slice X.F.A X.F.n X.F.c, .slice X.lA X.ln X.lc, .int .i64 X.fuse, .int .i64 X.fault, .bool X.off] 25)) = W1 at *
  obtain ⟨f0, f1, -⟩ := HX.out
  have hn0 := World.ownsRow_nil W1 W1.heap.size 5 1
  have hs0 := (HL.out W1 hb1).firm.here
  go_wp2_with (at_builtin; refine wpList_append_shows _ rfl _ _ 22 rfl W1.heap.size 5 i0 (.int .u8 0) 1 1 Try.underlying22 hi hz0 hz1 hz2 rfl (by decide) _ _ _ rfl hn0 B _ X.F.n _ (X.F.l.map bv) rfl hs0 (bv_one _) (by omega) (by omega) (Nat.le_refl _) ?_; intro A7 c7 w7 hown7 hgrow7 hb7; have hx7 : Below w.heap.size w w7 := bel_next hb1 hb7; have HO7 := Lib.hid hown7; clear hown7 hgrow7 hn0 hs0)
  have HO := Lib.hid (show w7.ownsRow W1.heap.size 5 1 (.slice A7 X.F.n c7) X.F.n ((X.F.l ++ joinP (X.L.take 0)).map bv) by simpa [joinP] using HO7.out)
  clear HO7 f0 f1
  go_wp2
  go_loopw [3, 4] (fun o i wr => ∃ (j m : Nat) (A : Option Addr) (c : Nat), j ≤ X.ln ∧ i = .int .i64 j ∧ o = .slice A m c ∧ Hid (m = X.F.n + sumN (X.L.take j)) ∧ Hid (wr.ownsRow W1.heap.size 5 1 (.slice A m c) m ((X.F.l ++ joinP (X.L.take j)).map bv)) ∧ Below W1.heap.size W1 wr) (fun _ i _ => X.ln - (intOf i).toNat)
  case atStart => exact ⟨0, X.F.n, A7, c7, Nat.zero_le _, rfl, by first | rfl | simp, Lib.hid (by simp [sumN]), HO, hb7⟩
  case round =>
    obtain ⟨j, m, A, c, hj, rfl, rfl, HM, HO, hbr⟩ := hrel
    rename World => wr
    clear hb7 hx7
    obtain ⟨f0, f1, -⟩ := HX.out.later hbr
    have hbw := bel_next hb1 hbr
    have hLr := HL.out wr hbw
    by_cases hlt : j < X.ln
    · obtain ⟨b, off, p, hA, _, hp, hc⟩ := pc_at hLr.row hlt
      have hs := (hLr.loose p (List.mem_of_getElem? hp)).here
      have hlt' : (j : Int) < X.ln := by omega
      have HM2 := Lib.hid (show m + p.n = X.F.n + sumN (X.L.take (j + 1)) by
        rw [HM.out]
        have : sumN (X.L.take (j + 1)) = sumN (X.L.take j) + p.n := by unfold sumN; rw [List.take_add_one, hp]; simp
        omega)
      have hle : m + p.n ≤ 524288 := by
        rw [HM2.out]
        have h1 := sumN_take X.L (j + 1)
        have := Hsum.out
        omega
      have HJ := Lib.hid (joinP_take hp)
      have hown := HO.out
      have hbs := hbr.size
      rw [hA] at f1
      clear hp HM HO hLr hA
      go_wp2_with (at_builtin; refine wpList_append_shows _ rfl _ _ 22 rfl W1.heap.size 5 i0 (.int .u8 0) 1 1 Try.underlying22 hi hz0 hz1 hz2 rfl (by decide) _ _ _ rfl hown B _ p.n _ (p.l.map bv) rfl hs (bv_one _) (by omega) (by omega) hbs ?_; intro A8 c8 w8 hown8 hgrow8 hb8; have HO8 := Lib.hid hown8; clear hown8 hgrow8 hown hs)
      go_roundw
      case rel => exact ⟨j + 1, m + p.n, A8, c8, by omega, by go_num, rfl, HM2, Lib.hid (by rw [HJ.out, ← List.append_assoc, List.map_append]; exact HO8.out), hbr.trans hb8⟩
      case measure => simp [intOf]; omega
    · obtain rfl : j = X.ln := by omega
      have htk : X.L.take X.ln = X.L := List.take_of_length_le (by rw [HlL.out]; exact Nat.le_refl _)
      have HM2 := Lib.hid (show m = X.long by rw [Hlong.out, HM.out, htk])
      have HO2 := Lib.hid (show wr.ownsRow W1.heap.size 5 1 (.slice A m c) m (X.all.map bv) by have h := HO.out; rw [htk] at h; exact h)
      clear HM HO htk hLr
      go_wp2
      go_ret
      exact ⟨A, c, by rw [← HM2.out]; rfl, Lib.hid (by rw [← HM2.out]; exact own_base HO2.out hb1.size), hbw⟩
end Go.Proofs.Ythoenmggjbojoaa
/-
  Layer 10: tick, a fresh file, New.
-/
namespace Go.Proofs.Ythoenmggjbojoaa
open Go.RowKit
set_option linter.unusedVariables false

def tickN (n : Int) : Int := if 0 < n then n - 1 else n
theorem tick_any (n : Int) (w : World) (hn : (Lit.int .i64 n).wf = true) : Calls Try.prog 59 #[.int .i64 n] w fun e w' => e = .returned (.int .i64 (tickN n)) ∧ w = w' := by
  have hb := wf_i64 hn
  clear hn
  by_cases h : 0 < n
  · have e1 : IntKind.i64.wrap (n - 1) = n - 1 := by rw [IntKind.wrap_i64]; omega
    have e2 : wrap64 (n - 1) = n - 1 := by unfold wrap64; omega
    rw [show tickN n = n - 1 from if_pos h]
    clear hb
    go_enter Try.func59, Try.ntmps59
    go_wp2
    all_goals
      go_ret
      exact ⟨by first | rfl | simp [*], rfl⟩
  · rw [show tickN n = n from if_neg h]
    clear hb
    go_enter Try.func59, Try.ntmps59
    go_wp2
    all_goals
      go_ret
      exact ⟨rfl, rfl⟩
theorem fresh_any (A : Option Addr) (n c : Nat) (w : World) : Calls Try.prog 32 #[.slice A n c] w fun e w' => e = .returned (.agg #[.slice A n c, .slice none 0 0, .int .i64 (-1), .int .i64 (-1), .bool false]) ∧ Below w.heap.size w w' := by
  go_enter Try.func32, Try.ntmps32
  go_wp2
  refine bodyPost_ret (v := .agg #[.slice A n c, .slice none 0 0, .int .i64 (-1), .int .i64 (-1), .bool false]) ?_ rfl ⟨rfl, bel_alloc (Below.refl _ _) _⟩
  simp [results, Try.results32, go_sem, *]
/-- Five cells of a file's variable, and that they may be written. -/
def FVar (W : World) (g : Nat) (a b c d e : Value) : Prop :=
  (W.cell? ⟨g, 0, none⟩ = some a ∧ W.cell? ⟨g, 1, none⟩ = some b ∧ W.cell? ⟨g, 2, none⟩ = some c ∧ W.cell? ⟨g, 3, none⟩ = some d ∧ W.cell? ⟨g, 4, none⟩ = some e) ∧
  (W.frozen? ⟨g, 0, none⟩ = false ∧ W.frozen? ⟨g, 1, none⟩ = false ∧ W.frozen? ⟨g, 2, none⟩ = false ∧ W.frozen? ⟨g, 3, none⟩ = false ∧ W.frozen? ⟨g, 4, none⟩ = false)
theorem FVar.new (w : World) (a b c d e : Value) (t : TypeId) : FVar (w.alloc (.cells #[a, b, c, d, e] t)) w.heap.size a b c d e :=
  ⟨⟨by simp [go_sem], by simp [go_sem], by simp [go_sem], by simp [go_sem], by simp [go_sem]⟩, by simp [go_sem], by simp [go_sem], by simp [go_sem], by simp [go_sem], by simp [go_sem]⟩
theorem FVar.later {W W' : World} {g : Nat} {a b c d e : Value} (h : FVar W g a b c d e) (hb : Below W.heap.size W W') : FVar W' g a b c d e := by
  obtain ⟨⟨h0, h1, h2, h3, h4⟩, k0, k1, k2, k3, k4⟩ := h
  exact ⟨⟨kept_later hb h0, kept_later hb h1, kept_later hb h2, kept_later hb h3, kept_later hb h4⟩, froz_later hb h0 k0, froz_later hb h1 k1, froz_later hb h2 k2, froz_later hb h3 k3, froz_later hb h4 k4⟩
theorem fbelow_set5 {B g : Nat} {w w1 : World} {a b c d e : Value} (h : Below B w w1) (hg : B ≤ g) : Below B w (((((w1.setCell ⟨g, 0, none⟩ a).setCell ⟨g, 1, none⟩ b).setCell ⟨g, 2, none⟩ c).setCell ⟨g, 3, none⟩ d).setCell ⟨g, 4, none⟩ e) :=
  ((((h.setCell hg a).setCell hg b).setCell hg c).setCell hg d).setCell hg e
set_option maxRecDepth 20000 in
theorem newF_any (w : World) : Calls Try.prog 10 #[] w fun e w' => e = .returned (.agg #[.slice none 0 0, .slice none 0 0, .int .i64 (-1), .int .i64 (-1), .bool false]) ∧ Below w.heap.size w w' := by
  have hb1 := bel_alloc (Below.refl w.heap.size w) (.cells #[.slice none 0 0, .slice none 0 0, .int .i64 0, .int .i64 0, .bool false] 25)
  have HV := FVar.new w (.slice none 0 0) (.slice none 0 0) (.int .i64 0) (.int .i64 0) (.bool false) 25
  go_enter Try.func10, Try.ntmps10
  go_wp2_with fail
  refine (fresh_any none 0 0 _).mono ?_
  rintro e w1 ⟨rfl, hb2⟩
  obtain ⟨⟨e0, e1, e2, e3, e4⟩, f0, f1, f2, f3, f4⟩ := HV.later hb2
  have hb3 := bel_next hb1 hb2
  clear HV hb1 hb2
  go_wp2
  refine bodyPost_ret (v := .agg #[.slice none 0 0, .slice none 0 0, .int .i64 (-1), .int .i64 (-1), .bool false]) ?_ rfl ⟨rfl, fbelow_set5 hb3 (Nat.le_refl _)⟩
  simp [results, Try.results10, go_sem, *]
end Go.Proofs.Ythoenmggjbojoaa
/-
  Layer 10: an operation's askings, one by one: dark, refused.
-/
namespace Go.Proofs.Ythoenmggjbojoaa
open Go.RowKit
set_option linter.unusedVariables false

theorem dark_any (g : Nat) (b : Bool) (w : World) (h : w.cell? ⟨g, 4, none⟩ = some (.bool b)) : Calls Try.prog 54 #[.pointer (some ⟨g, 0, none⟩)] w fun e w' => e = .returned (.int .i64 (if b = true then 10 else 0)) ∧ w = w' := by
  cases b
  all_goals
    go_enter Try.func54, Try.ntmps54
    go_wp2
    all_goals
      go_ret
      exact ⟨rfl, rfl⟩
theorem refused_yes (g : Nat) (n : Int) (w : World) (h : w.cell? ⟨g, 3, none⟩ = some (.int .i64 n)) (hn : (n == 0) = false) : Calls Try.prog 56 #[.pointer (some ⟨g, 0, none⟩)] w fun e w' => e = .returned (.int .i64 0) ∧ w = w' := by
  go_enter Try.func56, Try.ntmps56
  go_wp2
  all_goals
    go_ret
    exact ⟨rfl, rfl⟩
theorem refused_no (g : Nat) (w : World) (h : w.cell? ⟨g, 3, none⟩ = some (.int .i64 0)) (hf : w.frozen? ⟨g, 3, none⟩ = false) : Calls Try.prog 56 #[.pointer (some ⟨g, 0, none⟩)] w fun e w' => e = .returned (.int .i64 9) ∧ w.setCell ⟨g, 3, none⟩ (.int .i64 (-1)) = w' := by
  go_enter Try.func56, Try.ntmps56
  go_wp2
  all_goals
    go_ret
    exact ⟨rfl, rfl⟩
end Go.Proofs.Ythoenmggjbojoaa
/-
  A region that draws its order, walked by hand, operation by operation: taken first (wanted, or passed over), or carried out; steps that hand on an unnamed world with what it holds. No program in sight.
-/
namespace Go.Proofs.Ythoenmggjbojoaa
open Go.RowKit
set_option linter.unusedVariables false

section
variable {P : Program} {l : List Oper} {Q : Exit → Act → World → Prop} {S : World → Prop}

/-- Operation i is wanted, and yields in every world that meets S: it is taken first. -/
theorem rg_in (i : Nat) {oi : Oper} {v : Value} {fuel : Nat} {listed : Array Bool} {a : Act} {w : World} (hi : l[i]? = some oi)
    (hs : Region.noSelect l.toArray = true) (hf : Region.free .any l.toArray listed i = true) (hr : (Region.ready .any l.toArray listed).contains i = true)
    (hw : Region.wanted oi (yielded l.toArray a.tmps) = true) (hQ : ∀ c a w, Q (.panic c) (a.put oi.dst v) w → Q (.panic c) a w) (hS : S w) (hv : ∀ w, S w → (execOp a.eval oi).run P w = .ok (.value v) w)
    (h : wpAnyH P .any l.toArray Q S fuel (listed.setIfInBounds i true) (a.put oi.dst v) w) : wpAnyH P .any l.toArray Q S (fuel + 1) listed a w :=
  wpAnyH_take (by rw [List.getElem?_toArray]; exact hi) hs hf hr hQ (.inl ⟨hw, hv⟩) hS h
/-- Operation i is not wanted: it is passed over. -/
theorem rg_off (i : Nat) {oi : Oper} {fuel : Nat} {listed : Array Bool} {a : Act} {w : World} (hi : l[i]? = some oi)
    (hs : Region.noSelect l.toArray = true) (hf : Region.free .any l.toArray listed i = true) (hr : (Region.ready .any l.toArray listed).contains i = true)
    (hw : Region.wanted oi (yielded l.toArray a.tmps) = false) (hQ : ∀ c a w, Q (.panic c) (a.put oi.dst undef) w → Q (.panic c) a w) (hS : S w)
    (h : wpAnyH P .any l.toArray Q S fuel (listed.setIfInBounds i true) (a.put oi.dst undef) w) : wpAnyH P .any l.toArray Q S (fuel + 1) listed a w :=
  wpAnyH_take (by rw [List.getElem?_toArray]; exact hi) hs hf hr hQ (.inr ⟨hw, rfl⟩) hS h
/-- Operation i alone may come up: it is carried out. -/
theorem rg_do (i : Nat) {oi : Oper} {fuel : Nat} {listed : Array Bool} {a : Act} {w : World} (hi : l[i]? = some oi)
    (hr : Region.ready .any l.toArray listed = [i])
    (hw : Region.wanted oi (yielded l.toArray a.tmps) = true)
    (h : ∀ K' : Act → World → Prop, Shut (∀ a w, S w → (S w → wpAnyH P .any l.toArray Q S fuel (listed.setIfInBounds i true) a w) → K' a w) → Oper.wp P oi a w K' Q) : wpAnyH P .any l.toArray Q S (fuel + 1) listed a w :=
  wpAnyH_ready hr (by simp) (AllReadyH.cons (by rw [List.getElem?_toArray]; exact hi) (fun K hK => by rw [if_pos hw]; exact h K hK) AllReadyH.nil)
/-- One of several that may come up. -/
theorem rg_cons {i : Nat} {oi : Oper} {rs : List Nat} {fuel : Nat} {listed : Array Bool} {a : Act} {w : World} (hi : l[i]? = some oi)
    (hw : Region.wanted oi (yielded l.toArray a.tmps) = true)
    (h : ∀ K' : Act → World → Prop, Shut (∀ a w, S w → (S w → wpAnyH P .any l.toArray Q S fuel (listed.setIfInBounds i true) a w) → K' a w) → Oper.wp P oi a w K' Q)
    (hs : AllReadyH P .any l.toArray Q S fuel listed a w rs) : AllReadyH P .any l.toArray Q S fuel listed a w (i :: rs) :=
  AllReadyH.cons (by rw [List.getElem?_toArray]; exact hi) (fun K hK => by rw [if_pos hw]; exact h K hK) hs
end

section
variable {P : Program} {w w' : World} {o : Oper} {a : Act} {K : Act → World → Prop} {Q : Exit → Act → World → Prop}
theorem blk_later {g : Nat} {x : Obj} (h : w.heap[g]? = some x) (hb : Below w.heap.size w w') : w'.heap[g]? = some x := (hb.block g (Array.getElem?_eq_some_iff.1 h).1).trans h
theorem blk_lt {g : Nat} {x : Obj} (h : w.heap[g]? = some x) : g < w.heap.size := (Array.getElem?_eq_some_iff.1 h).1
theorem blk_other {g : Nat} {x : Obj} {r : Option Nat} (h : w.heap[g]? = some x) (hg : w.grownBy w' r) (hne : some g ≠ r) : w'.heap[g]? = some x := (hg.block g (blk_lt h) hne).trans h
theorem own_later {base : Nat} {e : TypeId} {size n : Nat} {v : Value} {xs : List Value} (h : w.ownsRow base e size v n xs) (hb : Below w.heap.size w w') : w'.ownsRow base e size v n xs :=
  h.kept (row := none) ⟨hb.os, hb.tape, hb.output, hb.size, fun k hk _ => hb.block k hk⟩ (by cases hv : v.ownBlock; exact .inl rfl; exact .inr (by simp))
/-- A row of one element type and a block of another are apart. -/
theorem own_blk_ne {base g : Nat} {e t : TypeId} {size n : Nat} {v : Value} {xs : List Value} {C : Array Value} {fr : Nat × Nat} (h : w.ownsRow base e size v n xs) (hb : w.heap[g]? = some (.cells C t fr)) (hne : t ≠ e) : some g ≠ v.ownBlock := by
  rcases h.2 with ⟨rfl, _⟩ | ⟨k, cap, cur, rfl, _, hk, _⟩
  · simp [Value.ownBlock]
  · intro hg
    simp only [Value.ownBlock, Option.some.injEq] at hg
    subst hg
    rw [hb] at hk
    simp only [Option.some.injEq, Obj.cells.injEq] at hk
    exact hne hk.2.1
/-- '[]T{}'. -/
theorem step_row0 (t e : TypeId) (ho : o.op = .buildSlice t 0 #[]) (base size : Nat) (i : TypeInfo) (ht : P.underlying t = some (.slice e)) (hi : P.info? e = some i) (hbase : base ≤ w.heap.size)
    (h : ∀ g w', w.heap.size ≤ g → w'.ownsRow base e size (.slice (some ⟨g, 0, none⟩) 0 0) 0 [] → Below w.heap.size w w' → K (a.put o.dst (.slice (some ⟨g, 0, none⟩) 0 0)) w') : o.wp P a w K Q := by
  have h0 := h w.heap.size (w.alloc (.cells #[] e)) (Nat.le_refl _) (World.ownsRow_lit w #[] 0 hbase (Nat.zero_le _) (by simp)) ((Below.refl _ _).alloc (Nat.le_refl _) _)
  have hrun : (Instr.buildSlice t 0 #[]).run P w = .ok (.slice (some ⟨w.heap.size, 0, none⟩) 0 0) (w.alloc (.cells #[] e)) := by
    simp only [Instr.buildSlice, sizeOf, typeInfo]
    simp [run_underlying ht, hi, Instr.fill, newRow, Result.andThen]
    rw [Array.eq_empty_of_size_eq_zero (xs := Array.map (fun x => (default : Value)) (Array.range 0)) (by simp)]
  unfold Oper.wp execOp
  simp only [ho, List.map_toArray, List.map_nil, Sem.run_bind, Sem.run_pure, hrun, Result.andThen_ok]
  exact h0
/-- A new variable. -/
theorem step_alloc (t : TypeId) (ho : o.op = .alloc t) (i : TypeInfo) (z : Value) (hi : P.info? t = some i) (hz : i.zero = some z)
    (h : ∀ g w', w.heap.size ≤ g → w'.heap[g]? = some (.cells z.cells t) → Below w.heap.size w w' → K (a.put o.dst (.pointer (some ⟨g, 0, none⟩))) w') : o.wp P a w K Q := by
  have h0 := h w.heap.size (w.alloc (.cells z.cells t)) (Nat.le_refl _) (heap_alloc_new w _) ((Below.refl _ _).alloc (Nat.le_refl _) _)
  have hrun : (Instr.alloc t true (.tuple #[])).run P w = .ok (.pointer (some ⟨w.heap.size, 0, none⟩)) (w.alloc (.cells z.cells t)) := by
    simp only [Instr.alloc, zeroValue, typeInfo, newVar]
    simp [hi, hz, newRow, Result.andThen]
  unfold Oper.wp execOp
  simp only [ho, Sem.run_bind, Sem.run_pure, hrun, Result.andThen_ok]
  exact h0
/-- append onto '[]T{}'. -/
theorem step_app0 (s x : Operand) (t : TypeId) (ho : o.op = .call { callee := .builtin .append, args := #[s, x], argTypes := #[t, t] })
    (base : Nat) (e : TypeId) (i : TypeInfo) (z : Value) (size bytes : Nat) (ht : P.underlying t = some (.slice e)) (hi : P.info? e = some i) (hz : i.zero = some z)
    (hsize : i.size = size) (hby : i.bytes = bytes) (hzs : z.cells.size = size) (hsz : 0 < size)
    (g : Nat) (hs : a.eval s = .slice (some ⟨g, 0, none⟩) 0 0) (hown : w.ownsRow base e size (.slice (some ⟨g, 0, none⟩) 0 0) 0 [])
    (B : Nat) (A : Option Addr) (m c : Nat) (news : List Value) (hx : a.eval x = .slice A m c) (hr : Shows w B size A m news) (h1 : ∀ u ∈ news, u.oneCell' = true)
    (h63 : m ≤ maxLen) (hbytes : m * bytes ≤ 140737488355328) (hbase : base ≤ w.heap.size)
    (h : ∀ A' c' w', w'.ownsRow base e size (.slice A' m c') m news → Below w.heap.size w w' → K (a.put o.dst (.slice A' m c')) w') : o.wp P a w K Q := by
  rcases Nat.eq_zero_or_pos m with rfl | hm
  · obtain rfl : news = [] := List.eq_nil_of_length_eq_zero (by simpa using hr.1)
    have hrun : (Builtin.append_ #[t, t] o.type #[.slice (some ⟨g, 0, none⟩) 0 0, .slice A 0 c]).run P w = .ok (.slice (some ⟨g, 0, none⟩) 0 0) w := by
      cases A <;> simp [Builtin.append_, run_underlying ht, sizeOf, typeInfo, hi, Builtin.lenOf, Builtin.firstCells, loadCells, loadCellsFrom, storeCells, Result.andThen]
    unfold Oper.wp execOp
    simp only [ho, resolve, invoke, builtin, Sem.run_bind, Sem.run_pure, Result.andThen_ok, List.map_toArray, List.map_cons, List.map_nil, hs, hx, hrun]
    exact h _ _ w hown (Below.refl _ _)
  · obtain ⟨b, off, rfl, hb, hc⟩ := hr.2 hm
    obtain ⟨v', w', hrun, r1, r2⟩ := run_append_arg_grows (P := P) w t o.type e i z size bytes ht hi hz hsize hby hzs hsz ⟨g, 0, none⟩ 0 0 [] (by simp) (by simp) ⟨b, off, none⟩ m c news hr.1 (fun j u hu => by rw [addr_add]; exact hc j u hu) (by omega) (by omega) (by simpa using hbytes)
    unfold Oper.wp
    simp [execOp, ho, resolve, invoke, builtin, hs, hx, hrun, Result.andThen]
    have r1' : w'.ownsRow base e size v' m news := by
      simpa using own_base r1 hbase
    obtain ⟨A', c', rfl, _, _⟩ := own_form r1'
    exact h A' c' w' r1' ⟨r2.os, r2.tape, r2.output, r2.size, fun k hk => r2.block k hk (by simp)⟩
end
end Go.Proofs.Ythoenmggjbojoaa
/-
  Layer 10: an operation's asking whether there is room.
-/
namespace Go.Proofs.Ythoenmggjbojoaa
open Go.RowKit
set_option linter.unusedVariables false

set_option maxRecDepth 20000 in
set_option maxHeartbeats 2000000 in
theorem full_any (X : FileT) (g gr B : Nat) (w : World) (h : FBox w g X) (h5 : w.cell? ⟨g, 5, none⟩ = some (.int .i64 (gr : Nat))) (hL : LieF w B X) (hB : B ≤ w.heap.size) (hN : ∀ p ∈ X.Q, p.n ≤ 1048576) (hl : X.long ≤ 524288) :
    Calls Try.prog 55 #[.pointer (some ⟨g, 0, none⟩)] w fun e w' => e = .returned (.int .i64 (if 524288 < X.long + gr then 8 else 0)) ∧ Below w.heap.size w w' := by
  have Hle := Lib.hid (fun W (h : Below w.heap.size w W) => length_any X B W (hL.later (h.mono hB)) (Nat.le_trans hB h.size) hN)
  simp only [FileT.agg, PcT.val] at Hle
  have x0 : ∀ W, Below w.heap.size w W → W.cell? ⟨g, 0, none⟩ = some (.slice X.F.A X.F.n X.F.c) := fun W hb => (h.later hb).1
  have x1 : ∀ W, Below w.heap.size w W → W.cell? ⟨g, 1, none⟩ = some (.slice X.lA X.ln X.lc) := fun W hb => (h.later hb).2.1
  have x2 : ∀ W, Below w.heap.size w W → W.cell? ⟨g, 2, none⟩ = some (.int .i64 X.fuse) := fun W hb => (h.later hb).2.2.1
  have x3 : ∀ W, Below w.heap.size w W → W.cell? ⟨g, 3, none⟩ = some (.int .i64 X.fault) := fun W hb => (h.later hb).2.2.2.1
  have x4 : ∀ W, Below w.heap.size w W → W.cell? ⟨g, 4, none⟩ = some (.bool X.off) := fun W hb => (h.later hb).2.2.2.2
  have x5 : ∀ W, Below w.heap.size w W → W.cell? ⟨g, 5, none⟩ = some (.int .i64 (gr : Nat)) := fun W hb => kept_later hb h5
  generalize X.long = lo at *
  have hs1 : IntKind.i64.wrap (524288 - (lo : Int)) = 524288 - (lo : Int) := by rw [IntKind.wrap_i64]; omega
  have hs2 : wrap64 (524288 - (lo : Int)) = 524288 - (lo : Int) := by unfold wrap64; omega
  clear h h5 hL hN
  by_cases hg : 524288 < lo + gr
  · have hg1 : (524288 - (lo : Int) < (gr : Int)) = True := by simp; omega
    rw [if_pos hg]
    clear hg hl
    go_enter Try.func55, Try.ntmps55
    go_upto_region 1 with fail
    refine wp_region_held_drew (S := fun W => Below w.heap.size w W) (by kernel_rfl) (below_drewN (Below.refl _ _) 1) (fun hHeld => ?_)
    refine rg_in 0 rfl (by kernel_rfl) (by kernel_rfl) (by kernel_rfl) (by rfl) (v := ?_) (fun _ _ _ h => h) hHeld (fun w hSw => ?_) ?_
    rotate_left
    · (try dsimp only at hSw); go_simp <;> (with_reducible rfl)
    (try simp only [Act.put, List.setIfInBounds_toArray, List.set_cons_zero, List.set_cons_succ])
    refine rg_in 1 rfl (by kernel_rfl) (by kernel_rfl) (by kernel_rfl) (by rfl) (v := ?_) (fun _ _ _ h => h) hHeld (fun w hSw => ?_) ?_
    rotate_left
    · (try dsimp only at hSw); go_simp <;> (with_reducible rfl)
    (try simp only [Act.put, List.setIfInBounds_toArray, List.set_cons_zero, List.set_cons_succ])
    refine rg_in 2 rfl (by kernel_rfl) (by kernel_rfl) (by kernel_rfl) (by rfl) (v := ?_) (fun _ _ _ h => h) hHeld (fun w hSw => ?_) ?_
    rotate_left
    · (try dsimp only at hSw); go_simp <;> (with_reducible rfl)
    (try simp only [Act.put, List.setIfInBounds_toArray, List.set_cons_zero, List.set_cons_succ])
    refine rg_in 3 rfl (by kernel_rfl) (by kernel_rfl) (by kernel_rfl) (by rfl) (v := ?_) (fun _ _ _ h => h) hHeld (fun w hSw => ?_) ?_
    rotate_left
    · (try dsimp only at hSw); go_simp <;> (with_reducible rfl)
    (try simp only [Act.put, List.setIfInBounds_toArray, List.set_cons_zero, List.set_cons_succ])
    refine rg_in 4 rfl (by kernel_rfl) (by kernel_rfl) (by kernel_rfl) (by rfl) (v := ?_) (fun _ _ _ h => h) hHeld (fun w hSw => ?_) ?_
    rotate_left
    · (try dsimp only at hSw); go_simp <;> (with_reducible rfl)
    (try simp only [Act.put, List.setIfInBounds_toArray, List.set_cons_zero, List.set_cons_succ])
    refine rg_in 5 rfl (by kernel_rfl) (by kernel_rfl) (by kernel_rfl) (by rfl) (v := ?_) (fun _ _ _ h => h) hHeld (fun w hSw => ?_) ?_
    rotate_left
    · (try dsimp only at hSw); go_simp <;> (with_reducible rfl)
    (try simp only [Act.put, List.setIfInBounds_toArray, List.set_cons_zero, List.set_cons_succ])
    refine rg_in 6 rfl (by kernel_rfl) (by kernel_rfl) (by kernel_rfl) (by rfl) (v := ?_) (fun _ _ _ h => h) hHeld (fun w hSw => ?_) ?_
    rotate_left
    · (try dsimp only at hSw); go_simp <;> (with_reducible rfl)
    (try simp only [Act.put, List.setIfInBounds_toArray, List.set_cons_zero, List.set_cons_succ])
    refine rg_in 7 rfl (by kernel_rfl) (by kernel_rfl) (by kernel_rfl) (by rfl) (v := ?_) (fun _ _ _ h => h) hHeld (fun w hSw => ?_) ?_
    rotate_left
    · (try dsimp only at hSw); go_simp <;> (with_reducible rfl)
    (try simp only [Act.put, List.setIfInBounds_toArray, List.set_cons_zero, List.set_cons_succ])
    refine rg_do 8 rfl (by kernel_rfl) (by rfl) (fun K hK => ?_)
    go_simp
    (go_at_call 41; (with_reducible refine (Hle.out _ hHeld).mono ?_); (rintro e w108 ⟨rfl, hb8⟩))
    refine hK.out _ _ (S_call hb8 hHeld rfl) (fun hHeld => ?_)
    clear hK K
    (try simp only [Act.put, List.setIfInBounds_toArray, List.set_cons_zero, List.set_cons_succ])
    refine rg_in 9 rfl (by kernel_rfl) (by kernel_rfl) (by kernel_rfl) (by rfl) (v := ?_) (fun _ _ _ h => h) hHeld (fun w hSw => ?_) ?_
    rotate_left
    · (try dsimp only at hSw); go_simp <;> (with_reducible rfl)
    (try simp only [Act.put, List.setIfInBounds_toArray, List.set_cons_zero, List.set_cons_succ])
    refine rg_in 10 rfl (by kernel_rfl) (by kernel_rfl) (by kernel_rfl) (by rfl) (v := ?_) (fun _ _ _ h => h) hHeld (fun w hSw => ?_) ?_
    rotate_left
    · (try dsimp only at hSw); go_simp <;> (with_reducible rfl)
    (try simp only [Act.put, List.setIfInBounds_toArray, List.set_cons_zero, List.set_cons_succ])
    refine wpAnyH_done (by kernel_rfl) ?_ _
    have hbe := hHeld
    clear x0 x1 x2 x3 x4 x5
    go_wp2
    all_goals
      go_ret
      exact ⟨rfl, hbe⟩
  · have hg1 : (524288 - (lo : Int) < (gr : Int)) = False := by simp; omega
    rw [if_neg hg]
    clear hg hl
    go_enter Try.func55, Try.ntmps55
    go_upto_region 1 with fail
    refine wp_region_held_drew (S := fun W => Below w.heap.size w W) (by kernel_rfl) (below_drewN (Below.refl _ _) 1) (fun hHeld => ?_)
    refine rg_in 0 rfl (by kernel_rfl) (by kernel_rfl) (by kernel_rfl) (by rfl) (v := ?_) (fun _ _ _ h => h) hHeld (fun w hSw => ?_) ?_
    rotate_left
    · (try dsimp only at hSw); go_simp <;> (with_reducible rfl)
    (try simp only [Act.put, List.setIfInBounds_toArray, List.set_cons_zero, List.set_cons_succ])
    refine rg_in 1 rfl (by kernel_rfl) (by kernel_rfl) (by kernel_rfl) (by rfl) (v := ?_) (fun _ _ _ h => h) hHeld (fun w hSw => ?_) ?_
    rotate_left
    · (try dsimp only at hSw); go_simp <;> (with_reducible rfl)
    (try simp only [Act.put, List.setIfInBounds_toArray, List.set_cons_zero, List.set_cons_succ])
    refine rg_in 2 rfl (by kernel_rfl) (by kernel_rfl) (by kernel_rfl) (by rfl) (v := ?_) (fun _ _ _ h => h) hHeld (fun w hSw => ?_) ?_
    rotate_left
    · (try dsimp only at hSw); go_simp <;> (with_reducible rfl)
    (try simp only [Act.put, List.setIfInBounds_toArray, List.set_cons_zero, List.set_cons_succ])
    refine rg_in 3 rfl (by kernel_rfl) (by kernel_rfl) (by kernel_rfl) (by rfl) (v := ?_) (fun _ _ _ h => h) hHeld (fun w hSw => ?_) ?_
    rotate_left
    · (try dsimp only at hSw); go_simp <;> (with_reducible rfl)
    (try simp only [Act.put, List.setIfInBounds_toArray, List.set_cons_zero, List.set_cons_succ])
    refine rg_in 4 rfl (by kernel_rfl) (by kernel_rfl) (by kernel_rfl) (by rfl) (v := ?_) (fun _ _ _ h => h) hHeld (fun w hSw => ?_) ?_
    rotate_left
    · (try dsimp only at hSw); go_simp <;> (with_reducible rfl)
    (try simp only [Act.put, List.setIfInBounds_toArray, List.set_cons_zero, List.set_cons_succ])
    refine rg_in 5 rfl (by kernel_rfl) (by kernel_rfl) (by kernel_rfl) (by rfl) (v := ?_) (fun _ _ _ h => h) hHeld (fun w hSw => ?_) ?_
    rotate_left
    · (try dsimp only at hSw); go_simp <;> (with_reducible rfl)
    (try simp only [Act.put, List.setIfInBounds_toArray, List.set_cons_zero, List.set_cons_succ])
    refine rg_in 6 rfl (by kernel_rfl) (by kernel_rfl) (by kernel_rfl) (by rfl) (v := ?_) (fun _ _ _ h => h) hHeld (fun w hSw => ?_) ?_
    rotate_left
    · (try dsimp only at hSw); go_simp <;> (with_reducible rfl)
    (try simp only [Act.put, List.setIfInBounds_toArray, List.set_cons_zero, List.set_cons_succ])
    refine rg_in 7 rfl (by kernel_rfl) (by kernel_rfl) (by kernel_rfl) (by rfl) (v := ?_) (fun _ _ _ h => h) hHeld (fun w hSw => ?_) ?_
    rotate_left
    · (try dsimp only at hSw); go_simp <;> (with_reducible rfl)
    (try simp only [Act.put, List.setIfInBounds_toArray, List.set_cons_zero, List.set_cons_succ])
    refine rg_do 8 rfl (by kernel_rfl) (by rfl) (fun K hK => ?_)
    go_simp
    (go_at_call 41; (with_reducible refine (Hle.out _ hHeld).mono ?_); (rintro e w108 ⟨rfl, hb8⟩))
    refine hK.out _ _ (S_call hb8 hHeld rfl) (fun hHeld => ?_)
    clear hK K
    (try simp only [Act.put, List.setIfInBounds_toArray, List.set_cons_zero, List.set_cons_succ])
    refine rg_in 9 rfl (by kernel_rfl) (by kernel_rfl) (by kernel_rfl) (by rfl) (v := ?_) (fun _ _ _ h => h) hHeld (fun w hSw => ?_) ?_
    rotate_left
    · (try dsimp only at hSw); go_simp <;> (with_reducible rfl)
    (try simp only [Act.put, List.setIfInBounds_toArray, List.set_cons_zero, List.set_cons_succ])
    refine rg_in 10 rfl (by kernel_rfl) (by kernel_rfl) (by kernel_rfl) (by rfl) (v := ?_) (fun _ _ _ h => h) hHeld (fun w hSw => ?_) ?_
    rotate_left
    · (try dsimp only at hSw); go_simp <;> (with_reducible rfl)
    (try simp only [Act.put, List.setIfInBounds_toArray, List.set_cons_zero, List.set_cons_succ])
    refine wpAnyH_done (by kernel_rfl) ?_ _
    have hbe := hHeld
    clear x0 x1 x2 x3 x4 x5
    go_wp2
    all_goals
      go_ret
      exact ⟨rfl, hbe⟩
end Go.Proofs.Ythoenmggjbojoaa
/-
  Layer 10: an operation's asking, the last: the count of refusals, and the power.
-/
namespace Go.Proofs.Ythoenmggjbojoaa
open Go.RowKit
set_option linter.unusedVariables false

theorem tick_wf {n : Int} (h : (Lit.int .i64 n).wf = true) : (Lit.int .i64 (tickN n)).wf = true := by
  have hb := wf_i64 h
  unfold tickN
  split
  · simp [Lit.wf, IntKind.min, IntKind.max, IntKind.bits, IntKind.signed]; omega
  · exact h
theorem lost_yes (g : Nat) (fault fuse : Int) (w : World) (hw3 : (Lit.int .i64 fault).wf = true) (hw2 : (Lit.int .i64 fuse).wf = true) (h3 : w.cell? ⟨g, 3, none⟩ = some (.int .i64 fault)) (f3 : w.frozen? ⟨g, 3, none⟩ = false) (h2 : w.cell? ⟨g, 2, none⟩ = some (.int .i64 fuse)) (f2 : w.frozen? ⟨g, 2, none⟩ = false) (hn : (fuse == 0) = false) :
    Calls Try.prog 57 #[.pointer (some ⟨g, 0, none⟩)] w fun e w' => e = .returned (.int .i64 0) ∧ (w.setCell ⟨g, 3, none⟩ (.int .i64 (tickN fault))).setCell ⟨g, 2, none⟩ (.int .i64 (tickN fuse)) = w' := by
  have T3 := Lib.hid (fun W => tick_any fault W hw3)
  have T2 := Lib.hid (fun W => tick_any fuse W hw2)
  generalize tickN fault = v3 at *
  generalize tickN fuse = v2 at *
  clear hw2 hw3
  go_enter Try.func57, Try.ntmps57
  go_wp2_with fail
  refine (T3.out _).mono ?_
  rintro e w1 ⟨rfl, rfl⟩
  go_wp2_with fail
  refine (T2.out _).mono ?_
  rintro e w1 ⟨rfl, rfl⟩
  go_wp2
  all_goals
    go_ret
    exact ⟨rfl, rfl⟩
theorem lost_no (g : Nat) (fault : Int) (b : Bool) (w : World) (hw3 : (Lit.int .i64 fault).wf = true) (h3 : w.cell? ⟨g, 3, none⟩ = some (.int .i64 fault)) (f3 : w.frozen? ⟨g, 3, none⟩ = false) (h2 : w.cell? ⟨g, 2, none⟩ = some (.int .i64 0)) (f2 : w.frozen? ⟨g, 2, none⟩ = false) (h4 : w.cell? ⟨g, 4, none⟩ = some (.bool b)) (f4 : w.frozen? ⟨g, 4, none⟩ = false) :
    Calls Try.prog 57 #[.pointer (some ⟨g, 0, none⟩)] w fun e w' => e = .returned (.int .i64 10) ∧ ((w.setCell ⟨g, 3, none⟩ (.int .i64 (tickN fault))).setCell ⟨g, 2, none⟩ (.int .i64 (-1))).setCell ⟨g, 4, none⟩ (.bool true) = w' := by
  have T3 := Lib.hid (fun W => tick_any fault W hw3)
  generalize tickN fault = v3 at *
  clear hw3
  go_enter Try.func57, Try.ntmps57
  go_wp2_with fail
  refine (T3.out _).mono ?_
  rintro e w1 ⟨rfl, rfl⟩
  go_wp2
  all_goals
    go_ret
    exact ⟨rfl, rfl⟩
end Go.Proofs.Ythoenmggjbojoaa
