import Derived.Test.YtinaecmpigenoaaGap
import Derived.Test.YtinaecmpigenoaaGab
import Derived.Test.YtinaecmpigenoaaGai
import Derived.Test.YtinaecmpigenoaaGaf
import Derived.Test.YtinaecmpigenoaaGad
/-
  MonoidTells: Tell, Kind and Name agree with their definitions for any reduction, kind and name: the walk.
-/
namespace Go.Proofs.Ytinaecmpigenoaa
open Go.RowKit
set_option linter.unusedVariables false

theorem extT (i n : Int) (hn : R64 n) : ∃ k x : Int, extV i n = .agg #[.int .i64 k, .int .i64 x, .string ⟨#[]⟩, .slice none 0 0, .slice none 0 0] ∧ LeafK k x ∧ R64 x := by
  by_cases h : i = 0
  · subst h
    exact ⟨1, 0, extV_none n, .inl ⟨rfl, rfl⟩, by unfold R64; omega⟩
  · exact ⟨3, n, extV_some i n h, .inr rfl, hn⟩
/-- The last of the first names that a name is. -/
def atN (s : ByteArray) : Nat → Int
  | 0 => 0
  | j + 1 => if kindName ((j : Int) + 1) = s then (j : Int) + 1 else atN s j
theorem atN_5 (s : ByteArray) : atN s 5 = kindOf s := by
  by_cases h1 : kindName 1 = s
  · subst h1; decide
  by_cases h2 : kindName 2 = s
  · subst h2; decide
  by_cases h3 : kindName 3 = s
  · subst h3; decide
  by_cases h4 : kindName 4 = s
  · subst h4; decide
  by_cases h5 : kindName 5 = s
  · subst h5; decide
  have hn := kind_none s (fun j a b e => by
    obtain rfl | rfl | rfl | rfl | rfl : j = 1 ∨ j = 2 ∨ j = 3 ∨ j = 4 ∨ j = 5 := by omega
    · exact h1 e.symm
    · exact h2 e.symm
    · exact h3 e.symm
    · exact h4 e.symm
    · exact h5 e.symm)
  rw [hn.1]
  show (if kindName 5 = s then (5 : Int) else if kindName 4 = s then 4 else if kindName 3 = s then 3 else if kindName 2 = s then 2 else if kindName 1 = s then 1 else 0) = 0
  rw [if_neg h5, if_neg h4, if_neg h3, if_neg h2, if_neg h1]
theorem kind_two (s : ByteArray) : (kindOf s = 0 ∧ kindE s = 4) ∨ (0 < kindOf s ∧ kindE s = 0) := by
  unfold kindE
  by_cases h : kindOf s = 0
  · rw [if_pos h]; exact .inl ⟨h, rfl⟩
  · rw [if_neg h]
    refine .inr ⟨?_, rfl⟩
    have : 0 ≤ kindOf s := by unfold kindOf; split <;> (try split) <;> (try split) <;> (try split) <;> (try split) <;> omega
    omega
set_option maxRecDepth 20000 in
theorem names_any (w : World) : Calls Try.prog 18 #[] w fun e w' => ∃ g, e = .returned (.slice (some ⟨g, 0, none⟩) 5 5) ∧ (∀ j : Nat, j < 5 → w'.cell? ⟨g, j, none⟩ = some (.string (kindName ((j : Int) + 1)))) ∧ Below w.heap.size w w' := by
  go_enter Try.func18, Try.ntmps18
  go_wp2
  go_ret
  refine ⟨w.heap.size, rfl, fun j hj => ?_, (Below.refl _ _).alloc (Nat.le_refl _) _⟩
  obtain rfl | rfl | rfl | rfl | rfl : j = 0 ∨ j = 1 ∨ j = 2 ∨ j = 3 ∨ j = 4 := by omega
  all_goals simp [go_sem, kindName]
/-- What Tell says, whatever the reduction and the kind. -/
def TellR (va : Bool) (k c i v k1 x1 k2 x2 : Int) (X : VT) (E : Int) : Prop :=
  (va = false ∧ X = scV 0 0 ⟨#[]⟩ ∧ E = 230) ∨ (va = true ∧ knownB k = false ∧ X = scV 0 0 ⟨#[]⟩ ∧ E = 2) ∨ (va = true ∧ knownB k = true ∧ (k = 2 ∨ k = 5) ∧ ¬ v = IntKind.i64.wrap (loI v) ∧ X = scV 0 0 ⟨#[]⟩ ∧ E = 5) ∨
    (va = true ∧ knownB k = true ∧ ToldP k c i v k1 x1 k2 x2 X ∧ E = 0 ∧ (k = 2 ∨ k = 5 → v = IntKind.i64.wrap (loI v)))
theorem lie_z (w : World) (B : Nat) : Lie w B (scV 0 0 ⟨#[]⟩) := lie_sc _ _ _ _ _ (by decide) (by decide) (by decide)
theorem tellR_any (k c i v le mo : Int) (w : World) (hv : R128 v) (hle : R64 le) (hmo : R64 mo) {k1 x1 k2 x2 : Int}
    (h1 : extV i mo = .agg #[.int .i64 k1, .int .i64 x1, .string ⟨#[]⟩, .slice none 0 0, .slice none 0 0]) (h2 : extV i le = .agg #[.int .i64 k2, .int .i64 x2, .string ⟨#[]⟩, .slice none 0 0, .slice none 0 0]) (l1 : LeafK k1 x1) (l2 : LeafK k2 x2) (b1 : R64 x1) (b2 : R64 x2) :
    Calls Try.prog 15 #[.int .i64 k, .agg #[.int .i64 c, .int .i64 i, .int .i64 (hiI v), .int .u64 (loI v), .int .i64 le, .int .i64 mo]] w fun e w' => ∃ (X : VT) (E : Int), e = .returned (.tuple #[X.agg, .int .i64 E]) ∧ Hid (TellR (validB c i v le mo) k c i v k1 x1 k2 x2 X E) ∧ Lie w' w'.heap.size X ∧ Below w.heap.size w w' := by
  cases hva : validB c i v le mo
  · refine (tell_bad c i v le mo k w hv hle hmo hva).mono ?_
    rintro e w' ⟨rfl, hb⟩
    exact ⟨scV 0 0 ⟨#[]⟩, 230, rfl, Lib.hid (.inl ⟨rfl, rfl, rfl⟩), lie_z _ _, hb⟩
  · cases hk : knownB k
    · refine (tell_arg c i v le mo k w hv hle hmo hva hk).mono ?_
      rintro e w' ⟨rfl, hb⟩
      exact ⟨scV 0 0 ⟨#[]⟩, 2, rfl, Lib.hid (.inr (.inl ⟨rfl, hk, rfl, rfl⟩)), lie_z _ _, hb⟩
    · by_cases ho : k = 2 ∨ k = 5 → v = IntKind.i64.wrap (loI v)
      · refine (tellOk_any k c i v le mo w hv hle hmo hva h1 h2 l1 l2 b1 b2 hk ho).mono ?_
        rintro e w' ⟨X, rfl, HX, hL, hb⟩
        exact ⟨X, 0, rfl, Lib.hid (.inr (.inr (.inr ⟨rfl, hk, HX.out, rfl, ho⟩))), hL, hb⟩
      · have hk25 : k = 2 ∨ k = 5 := Classical.byContradiction fun h => ho fun h' => absurd h' h
        have hov : ¬ v = IntKind.i64.wrap (loI v) := fun h => ho fun _ => h
        have h : Calls Try.prog 15 #[.int .i64 k, .agg #[.int .i64 c, .int .i64 i, .int .i64 (hiI v), .int .u64 (loI v), .int .i64 le, .int .i64 mo]] w fun e w' => e = .returned (.tuple #[.agg #[.int .i64 0, .int .i64 0, .string ⟨#[]⟩, .slice none 0 0, .slice none 0 0], .int .i64 5]) ∧ Below w.heap.size w w' := by
          rcases hk25 with rfl | rfl
          · exact tell_over c i v le mo w hv hle hmo hva hov
          · exact tell5_over c i v le mo w hv hle hmo hva hov
        refine h.mono ?_
        rintro e w' ⟨rfl, hb⟩
        exact ⟨scV 0 0 ⟨#[]⟩, 5, rfl, Lib.hid (.inr (.inr (.inl ⟨rfl, hk, hk25, hov, rfl, rfl⟩))), lie_z _ _, hb⟩
theorem refOver_any (k c i v le mo : Int) (w : World) (hv : R128 v) (hval : validB c i v le mo = true) (hk25 : k = 2 ∨ k = 5) (hov : ¬ v = IntKind.i64.wrap (loI v)) :
    Calls Try.prog 20 #[.int .i64 k, .agg #[.int .i64 c, .int .i64 i, .int .i64 (hiI v), .int .u64 (loI v), .int .i64 le, .int .i64 mo]] w fun e w' => e = .returned (.tuple #[.agg #[.int .i64 0, .int .i64 0, .string ⟨#[]⟩, .slice none 0 0, .slice none 0 0], .bool false]) ∧ Below w.heap.size w w' := by
  have hb := (valid_bounds ⟨c, i, v, le, mo⟩ hval)
  have hi0 : i = 0 ∨ 0 < i := by have := hb.2.1; simp only at this; omega
  rcases hk25 with rfl | rfl
  · rcases hi0 with hi | hi
    · exact refOver_2_none c i v le mo w hi hv hov
    · exact refOver_2_some c i v le mo w hi hv hov
  · rcases hi0 with hi | hi
    · exact refOver_5_none c i v le mo w hi hv hov
    · exact refOver_5_some c i v le mo w hi hv hov
set_option maxRecDepth 20000 in
set_option maxHeartbeats 8000000 in
theorem tells_any (c i v le mo k : Int) (name : ByteArray) (w : World) (hv : R128 v) (hle : R64 le) (hmo : R64 mo) :
    Calls Try.prog 5 #[.agg #[.int .i64 c, .int .i64 i, .int .i64 (hiI v), .int .u64 (loI v), .int .i64 le, .int .i64 mo], .int .i64 k, .string name] w fun e w' => e = .returned (.bool true) ∧ Below w.heap.size w w' := by
  obtain ⟨k1, x1, h1, l1, b1⟩ := extT i mo hmo
  obtain ⟨k2, x2, h2, l2, b2⟩ := extT i le hle
  have HTl := Lib.hid (fun W => tellR_any k c i v le mo W hv hle hmo h1 h2 l1 l2 b1 b2)
  have HOk := Lib.hid (fun (hva : validB c i v le mo = true) (hk : knownB k = true) ho W => refOk_any k c i v le mo W hv hle hmo hva h1 h2 l1 l2 b1 b2 hk ho)
  have HOv := Lib.hid (fun (hva : validB c i v le mo = true) hk25 hov W => refOver_any k c i v le mo W hv hva hk25 hov)
  have HRt := Lib.hid (fun W => mright_any c i v le mo W hv hle hmo)
  have HKd := Lib.hid (fun W => kind_any name W)
  have HNm := Lib.hid (fun W => name_any k W)
  have Hat := Lib.hid (atN_5 name)
  have HK2 := Lib.hid (kind_two name)
  have Hl1 := Lib.hid l1
  have Hl2 := Lib.hid l2
  generalize kindOf name = K at *
  generalize kindE name = KE at *
  have hkn : (knownB k = true ∧ 1 ≤ k ∧ k ≤ 5 ∧ nameE k = 0) ∨ (knownB k = false ∧ (k < 1 ∨ 5 < k) ∧ kindName k = ⟨#[]⟩ ∧ nameE k = 2) := by
    unfold nameE
    rcases known_cases k with ⟨hk, h⟩ | ⟨hk, h⟩
    · rw [hk, if_pos rfl]; exact .inl ⟨rfl, by omega, by omega, rfl⟩
    · rw [hk, if_neg (by decide)]
      have h' := hk
      unfold knownB at h'
      rw [decide_eq_false_iff_not] at h'
      exact .inr ⟨rfl, by omega, h, rfl⟩
  obtain ⟨kb, hkb⟩ : ∃ kb, kb = knownB k := ⟨_, rfl⟩
  rw [← hkb] at hkn
  have Hkb := Lib.hid hkb
  obtain ⟨nk, hnk⟩ : ∃ nk, nk = kindName k := ⟨_, rfl⟩
  rw [← hnk] at hkn
  have Hnk := Lib.hid hnk
  have hnm := HNm.out
  rw [← hnk] at hnm
  have HNk := Lib.hid hnm
  have Hkn := Lib.hid hkn
  clear hkb hnk hnm HNm
  generalize nameE k = NE at *
  have hb0 := bel_alloc (Below.refl w.heap.size w) (.cells #[.int .i64 c, .int .i64 i, .int .i64 (hiI v), .int .u64 (loI v), .int .i64 le, .int .i64 mo] 24)
  have s0 := Lib.hid (Six.new w (.int .i64 c) (.int .i64 i) (.int .i64 (hiI v)) (.int .u64 (loI v)) (.int .i64 le) (.int .i64 mo) 24)
  clear hkn h1 h2 l1 l2 b1 b2 hv hle hmo
  generalize hhi : hiI v = hi at *
  generalize hlo : loI v = lo at *
  have Hlo := Lib.hid hlo
  clear hhi hlo
  go_enter Try.func5, Try.ntmps5
  go_wp2_with fail
  refine (wakes_any _).mono ?_
  rintro e w1 ⟨rfl, hb1⟩
  have hx1 := bel_next hb0 hb1
  have s1 := Lib.hid (s0.out.below hb1 rfl)
  clear s0 hb0 hb1
  obtain ⟨⟨r0, r1, r2, r3, r4, r5⟩, -⟩ := s1.out
  go_wp2_with fail
  refine (HTl.out _).mono ?_
  rintro e w2 ⟨X, E, rfl, HX, HL, hb2⟩
  have s2 := Lib.hid (s1.out.below hb2 rfl)
  have hx2 := bel_next hx1 hb2
  have Htk := Lib.hid (fun h : ToldP k c i v k1 x1 k2 x2 X => told_k Hl1.out Hl2.out h)
  have Hts := Lib.hid (fun h : ToldP k c i v k1 x1 k2 x2 X => told_sml h)
  obtain ⟨xk, xn, xs, xcA, xcn, xcc, xkA, xkn, xkc, xkeys, xkids⟩ := X
  simp only [VT.agg, VT.k] at Htk ⊢
  have sv := Lib.hid (VFive.new w2 (.int .i64 xk) (.int .i64 xn) (.string xs) (.slice xcA xcn xcc) (.slice xkA xkn xkc) 42 w2.heap.size rfl)
  have s2b := Lib.hid (s2.out.alloc (.cells #[.int .i64 xk, .int .i64 xn, .string xs, .slice xcA xcn xcc, .slice xkA xkn xkc] 42))
  have hx2b := bel_alloc hx2 (.cells #[.int .i64 xk, .int .i64 xn, .string xs, .slice xcA xcn xcc, .slice xkA xkn xkc] 42)
  have HL2 := Lib.hid ((HL.later (bel_alloc (Below.refl w2.heap.size w2) (.cells #[.int .i64 xk, .int .i64 xn, .string xs, .slice xcA xcn xcc, .slice xkA xkn xkc] 42))).more (show w2.heap.size ≤ (w2.alloc (.cells #[.int .i64 xk, .int .i64 xn, .string xs, .slice xcA xcn xcc, .slice xkA xkn xkc] 42)).heap.size by rw [World.size_alloc]; omega))
  clear r0 r1 r2 r3 r4 r5 HTl s1 s2 hx1 hx2 hb2 HL
  go_wp2_with fail
  refine (HNk.out _).mono ?_
  rintro e w3 ⟨rfl, hb3⟩
  go_wp2_with fail
  refine (HKd.out _).mono ?_
  rintro e w4 ⟨rfl, hb4⟩
  go_wp2_with fail
  refine (names_any _).mono ?_
  rintro e w5 ⟨gn, rfl, hcn, hb5⟩
  have hb35 := bel_next (bel_next hb3 hb4) hb5
  have s5 := Lib.hid (s2b.out.below hb35 rfl)
  have v5 := Lib.hid (sv.out.later hb35)
  have hx5 := bel_next hx2b hb35
  have HL5 := Lib.hid ((HL2.out.later hb35).more hb35.size)
  have Hcn := Lib.hid hcn
  clear hb3 hb4 hb5 hb35 s2b sv hx2b HL2 hcn HNk HKd
  generalize w2.heap.size = gv at *
  go_wp2
  go_loopw [14, 42] (fun a i wr => ∃ (j : Nat) (s : Int), j ≤ 5 ∧ i = .int .i64 j ∧ a = .int .i64 s ∧ Hid (s = atN name j) ∧ Below w5.heap.size w5 wr) (fun _ i _ => 5 - (intOf i).toNat)
  case atStart => exact ⟨0, 0, Nat.zero_le _, rfl, rfl, Lib.hid rfl, Below.refl _ _⟩
  case round =>
    obtain ⟨j, s, hj, rfl, rfl, HS, hbr⟩ := hrel
    rename World => wr
    by_cases hlt : j < 5
    · have hc := mkept_later hbr (Hcn.out j hlt)
      have hlt' : (j : Int) < 5 := by omega
      have Hnx := Lib.hid (show atN name (j + 1) = if kindName ((j : Int) + 1) = name then (j : Int) + 1 else atN name j from rfl)
      generalize kindName ((j : Int) + 1) = nm at *
      by_cases heq : nm = name
      · subst heq
        have HS2 := Lib.hid (show (j : Int) + 1 = atN nm (j + 1) by rw [Hnx.out, if_pos rfl])
        clear HS Hnx
        go_wp2
        go_roundw
        case rel => exact ⟨j + 1, (j : Int) + 1, by omega, by go_num, by first | rfl | go_num, HS2, hbr⟩
        case measure => simp [intOf]; omega
      · have hne := str_ne heq
        have HS2 := Lib.hid (show s = atN name (j + 1) by rw [Hnx.out, if_neg heq, HS.out])
        clear HS Hnx heq
        go_wp2
        go_roundw
        case rel => exact ⟨j + 1, s, by omega, by go_num, rfl, HS2, hbr⟩
        case measure => simp [intOf]; omega
    · obtain rfl : j = 5 := by omega
      obtain rfl : s = K := HS.out.trans Hat.out
      clear HS Hat hlt hj
      have hw := bel_next hx5 hbr
      have s6 := Lib.hid (s5.out.below hbr rfl)
      have v6 := Lib.hid (v5.out.later hbr)
      have HL6 := Lib.hid ((HL5.out.later hbr).more hbr.size)
      have Hcn6 := Lib.hid (fun j hj => mkept_later hbr (Hcn.out j hj))
      clear s5 v5 HL5 Hcn hx5 hbr
      go_upto_region 14 with fail
      go_cut [70] (fun s wx => s = .bool false ∧ wr = wx)
      case first =>
        rcases HK2.out with ⟨rfl, rfl⟩ | ⟨hp, rfl⟩
        · clear HK2
          go_wp2
          go_meet
          case rel => exact ⟨by first | rfl | simp, rfl⟩
        · have hne : ¬ s = 0 := by omega
          clear HK2
          go_wp2
          go_meet
          case rel => exact ⟨by first | rfl | simp, rfl⟩
      case rest =>
        obtain ⟨rfl, rfl⟩ := hcut
        clear HK2
        go_upto_region 16 with fail
        go_cut [17] (fun s wx => s = .bool kb ∧ wr = wx)
        case first =>
          rcases Hkn.out with ⟨rfl, h1, h2, -⟩ | ⟨rfl, h1 | h1, -, -⟩
          · clear Hkn Hkb
            go_wp2
            go_meet
            case rel => exact ⟨by first | rfl | simp, rfl⟩
          · have h3 : ¬ 1 ≤ k := by omega
            clear Hkn Hkb h1
            go_wp2
            go_meet
            case rel => exact ⟨by first | rfl | simp, rfl⟩
          · have h3 : 1 ≤ k := by omega
            have h4 : ¬ k ≤ 5 := by omega
            clear Hkn Hkb h1
            go_wp2
            go_meet
            case rel => exact ⟨by first | rfl | simp, rfl⟩
        case rest =>
          obtain ⟨rfl, rfl⟩ := hcut
          go_upto_region 17 with fail
          go_cut [104] (fun s wx => s = .bool false ∧ wr = wx)
          case first =>
            rcases Hkn.out with ⟨rfl, h1, h2, rfl⟩ | ⟨rfl, -, hn, rfl⟩
            · obtain ⟨q, hq, hq5⟩ : ∃ q : Nat, (q : Int) + 1 = k ∧ q < 5 := ⟨(k - 1).toNat, by omega, by omega⟩
              have hc := Hcn6.out q hq5
              rw [hq, ← Hnk.out] at hc
              have e1 : IntKind.i64.wrap (k - 1) = (q : Int) := by rw [IntKind.wrap_i64]; omega
              have e2 : wrap64 (k - 1) = (q : Int) := by unfold wrap64; omega
              have hq' : (q : Int) < 5 := by omega
              clear Hkb Hkn h1 h2 hq hq5 Hcn6
              go_wp2
              go_meet
              case rel => exact ⟨by first | rfl | simp, rfl⟩
            · subst hn
              clear Hkb Hkn Hcn6
              go_wp2
              go_meet
              case rel => exact ⟨by first | rfl | simp, rfl⟩
          case rest =>
            obtain ⟨rfl, rfl⟩ := hcut
            clear Hcn6 Hkn
            obtain ⟨⟨v0, v1, v2, v3, v4⟩, -⟩ := v6.out
            rcases HX.out with ⟨hva, hX, rfl⟩ | ⟨hva, hkn, hX, rfl⟩ | ⟨hva, hkn, hk25, hov, hX, rfl⟩ | ⟨hva, hkn, hT, rfl, ho⟩
            · simp only [scV, VT.mk.injEq] at hX
              obtain ⟨rfl, rfl, rfl, rfl, rfl, rfl, rfl, rfl, rfl, rfl, rfl⟩ := hX
              have Hr := HRt.out
              rw [hva] at Hr
              have Hr := Lib.hid Hr
              clear hva Hkb HX HRt HOk HOv Htk Hts HL6 v6
              go_wp2_with fail
              refine (zero_yes _).mono ?_
              rintro e w6 ⟨rfl, hb6⟩
              obtain ⟨⟨r0, r1, r2, r3, r4, r5⟩, -⟩ := s6.out.below hb6 rfl
              clear v0 v1 v2 v3 v4
              go_wp2_with fail
              refine (Hr.out _).mono ?_
              rintro e w7 ⟨rfl, hb7⟩
              clear Hr r0 r1 r2 r3 r4 r5
              go_wp2
              go_ret
              exact ⟨rfl, bel_next hw (bel_next hb6 hb7)⟩
            · simp only [scV, VT.mk.injEq] at hX
              obtain ⟨rfl, rfl, rfl, rfl, rfl, rfl, rfl, rfl, rfl, rfl, rfl⟩ := hX
              have Hr := HRt.out
              rw [hva] at Hr
              have Hr := Lib.hid Hr
              obtain rfl : kb = _ := Hkb.out.trans hkn
              clear hva hkn Hkb HX HRt HOk HOv Htk Hts HL6 v6
              go_wp2_with fail
              refine (zero_yes _).mono ?_
              rintro e w6 ⟨rfl, hb6⟩
              obtain ⟨⟨r0, r1, r2, r3, r4, r5⟩, -⟩ := s6.out.below hb6 rfl
              clear v0 v1 v2 v3 v4
              go_wp2_with fail
              refine (Hr.out _).mono ?_
              rintro e w7 ⟨rfl, hb7⟩
              clear Hr r0 r1 r2 r3 r4 r5
              go_wp2
              go_ret
              exact ⟨rfl, bel_next hw (bel_next hb6 hb7)⟩
            · simp only [scV, VT.mk.injEq] at hX
              obtain ⟨rfl, rfl, rfl, rfl, rfl, rfl, rfl, rfl, rfl, rfl, rfl⟩ := hX
              have Hr := HRt.out
              rw [hva] at Hr
              have Hr := Lib.hid Hr
              have Ho := Lib.hid (HOv.out hva hk25 (by rw [← Hlo.out]; exact hov))
              obtain rfl : kb = _ := Hkb.out.trans hkn
              clear hva hkn Hkb hk25 hov HX HRt HOk HOv Htk Hts HL6 v6
              go_wp2_with fail
              refine (zero_yes _).mono ?_
              rintro e w6 ⟨rfl, hb6⟩
              obtain ⟨⟨r0, r1, r2, r3, r4, r5⟩, -⟩ := s6.out.below hb6 rfl
              clear v0 v1 v2 v3 v4
              go_wp2_with fail
              refine (Hr.out _).mono ?_
              rintro e w7 ⟨rfl, hb7⟩
              have hb67 := bel_next hb6 hb7
              clear Hr r0 r1 r2 r3 r4 r5
              obtain ⟨⟨r0, r1, r2, r3, r4, r5⟩, -⟩ := s6.out.below hb67 rfl
              go_wp2_with fail
              refine (Ho.out _).mono ?_
              rintro e w8 ⟨rfl, hb8⟩
              clear Ho r0 r1 r2 r3 r4 r5
              go_wp2
              go_ret
              exact ⟨rfl, bel_alloc (bel_next hw (bel_next hb67 hb8)) _⟩
            · have Hr := HRt.out
              rw [hva] at Hr
              have Hr := Lib.hid Hr
              have Ho := Lib.hid (HOk.out hva hkn (by rw [← Hlo.out]; exact ho))
              have hxk := Htk.out hT
              have Hz := Lib.hid (fun W => zero_no xk xn xs xcA xkA xcn xcc xkn xkc W hxk)
              have HT := Lib.hid hT
              have HsX := Lib.hid (Hts.out hT)
              obtain rfl : kb = _ := Hkb.out.trans hkn
              clear hva hkn Hkb ho HX HRt HOk HOv Htk Hts hT hxk
              go_wp2_with fail
              refine (Hz.out _).mono ?_
              rintro e w6 ⟨rfl, hb6⟩
              obtain ⟨⟨r0, r1, r2, r3, r4, r5⟩, -⟩ := s6.out.below hb6 rfl
              clear v0 v1 v2 v3 v4 Hz
              go_wp2_with fail
              refine (Hr.out _).mono ?_
              rintro e w7 ⟨rfl, hb7⟩
              have hb67 := bel_next hb6 hb7
              clear Hr r0 r1 r2 r3 r4 r5
              obtain ⟨⟨r0, r1, r2, r3, r4, r5⟩, -⟩ := s6.out.below hb67 rfl
              go_wp2_with fail
              refine (Ho.out _).mono ?_
              rintro e w8 ⟨Y, rfl, HY, HLY, hb8⟩
              have hb68 := bel_next hb67 hb8
              clear Ho r0 r1 r2 r3 r4 r5
              have Hss := Lib.hid (told_same Hl1.out Hl2.out HT.out HY.out)
              have HsY := Lib.hid (told_sml HY.out)
              obtain ⟨yk, yn, ys, ycA, ycn, ycc, ykA, ykn, ykc, ykeys, ykids⟩ := Y
              simp only [VT.agg]
              have hb69 := bel_alloc hb68 (.cells #[.int .i64 yk, .int .i64 yn, .string ys, .slice ycA ycn ycc, .slice ykA ykn ykc] 42)
              have sy := VFive.new w8 (.int .i64 yk) (.int .i64 yn) (.string ys) (.slice ycA ycn ycc) (.slice ykA ykn ykc) 42 w8.heap.size rfl
              have vx := v6.out.later hb69
              have hal := bel_alloc (Below.refl w8.heap.size w8) (.cells #[.int .i64 yk, .int .i64 yn, .string ys, .slice ycA ycn ycc, .slice ykA ykn ykc] 42)
              have hsm := rsame_any (.mk xk xn xs xcA xcn xcc xkA xkn xkc xkeys xkids) (.mk yk yn ys ycA ycn ycc ykA ykn ykc ykeys ykids) (w8.alloc (.cells #[.int .i64 yk, .int .i64 yn, .string ys, .slice ycA ycn ycc, .slice ykA ykn ykc] 42)).heap.size (w8.alloc (.cells #[.int .i64 yk, .int .i64 yn, .string ys, .slice ycA ycn ycc, .slice ykA ykn ykc] 42)) ((HL6.out.later hb69).more hb69.size) ((HLY.later hal).more hal.size) HsX.out HsY.out (Nat.le_refl _)
              rw [Hss.out] at hsm
              simp only [VT.agg] at hsm
              obtain ⟨⟨y0, y1, y2, y3, y4⟩, -⟩ := sy
              obtain ⟨⟨v0, v1, v2, v3, v4⟩, -⟩ := vx
              clear HLY HY Hss HsX HsY HT HL6 v6 s6 hal
              go_wp2_with fail
              refine hsm.mono ?_
              rintro e w9 ⟨rfl, hb9⟩
              clear hsm y0 y1 y2 y3 y4 v0 v1 v2 v3 v4
              go_wp2
              go_ret
              exact ⟨rfl, bel_next hw (bel_next hb69 hb9)⟩
theorem monoidTells_walk (w : World) (r : RedT) (hr : r.ok) (k : Int) (_ : (Lit.int .i64 k).wf = true) (name : ByteArray) (_ : name.size ≤ maxLen) :
    Calls Try.prog 5 #[.agg #[.int .i64 r.c, .int .i64 r.i, .int .i64 (hiI r.v), .int .u64 (loI r.v), .int .i64 r.l, .int .i64 r.m], .int .i64 k, .string name] w fun e w' => e = .returned (.bool true) ∧ Below w.heap.size w w' :=
  tells_any r.c r.i r.v r.l r.m k name w hr.2.2.1 hr.2.2.2.1 hr.2.2.2.2
end Go.Proofs.Ytinaecmpigenoaa
