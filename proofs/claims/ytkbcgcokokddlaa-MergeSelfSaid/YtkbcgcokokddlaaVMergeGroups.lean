import Derived.Test.YtkbcgcokokddlaaVMergeRows
import Derived.Test.YtkbcgcokokddlaaVMerAG
/-
  The law MergeGroups, walked.
-/
namespace Go.Proofs.Ytkbcgcokokddlaa
open Go.RowKit
set_option linter.unusedVariables false
set_option linter.unusedSimpArgs false

/-- Rows of edits as they lie at the world at hand. -/
structure RowsAt (W : World) (A : Option Addr) (n c : Nat) (L : List EsT) : Prop where
  row : Shows W W.heap.size 1 A n (L.map EsT.val)
  all : ∀ X ∈ L, X.Lie W W.heap.size
  nil : A = none → c = 0
  fit : n ≤ c
  most : c ≤ maxLen
theorem RowsAt.next {W W' : World} {A : Option Addr} {n c : Nat} {L : List EsT} (h : RowsAt W A n c L) (hb : Below W.heap.size W W') : RowsAt W' A n c L :=
  ⟨(h.row.below hb).more hb.size, fun X hX => (h.all X hX).next hb, h.nil, h.fit, h.most⟩
theorem RowsAt.len {W : World} {A : Option Addr} {n c : Nat} {L : List EsT} (h : RowsAt W A n c L) : L.length = n := by
  have := h.row.1
  simpa using this
theorem RowsAt.front {W : World} {A : Option Addr} {n c : Nat} {L : List EsT} (h : RowsAt W A n c L) {k : Nat} (hk : k ≤ n) : RowsAt W A k c (L.take k) := by
  refine ⟨?_, fun X hX => h.all X (List.mem_of_mem_take hX), h.nil, Nat.le_trans hk h.fit, h.most⟩
  have := Shows.first h.row hk
  rw [Nat.mul_one, ← List.map_take] at this
  exact this
theorem RowsAt.back {W : World} {A : Option Addr} {n c : Nat} {L : List EsT} (h : RowsAt W A n c L) {k : Nat} (hk : k ≤ n) : ∃ A', A' = (if c = k then A else A.map (·.add k)) ∧ RowsAt W A' (n - k) (c - k) (L.drop k) := by
  have hf := h.fit
  have hm := h.most
  have hs := Shows.cut h.row hk hf
  rw [Nat.mul_one, ← List.map_drop] at hs
  refine ⟨_, rfl, hs, fun X hX => h.all X (List.mem_of_mem_drop hX), ?_, by omega, by omega⟩
  split
  · intro _; omega
  · intro hn
    have : A = none := by
      cases hA : A with
      | none => rfl
      | some a => rw [hA] at hn; exact absurd hn (by simp)
    have := h.nil this
    omega
theorem OwnS.at {W : World} {D n c : Nat} {A : Option Addr} {L : List EsT} (h : OwnS W D A n c L) : RowsAt W A n c L := by
  obtain ⟨h1, h2, h3⟩ := own_heads h.row
  exact ⟨h.shows, fun X hX => (h.all X hX).lie, h1, h2, h3⟩
theorem RowsAt.merge {W : World} {A : Option Addr} {n c : Nat} {L : List EsT} (h : RowsAt W A n c L) (hn : n ≤ 1048576) : Calls Try.prog 21 #[.slice A n c] W (SrtP (∀ s ∈ L.map EsT.s, RightS s) (L.map EsT.s).flatten W) :=
  mmerge_any A n c W.heap.size L W h.row h.all (Nat.le_refl _) hn
theorem flat_short {L : List (List EdS)} {M : Nat} (h : ∀ l ∈ L, l.length ≤ M) : L.flatten.length ≤ L.length * M := by
  induction L with
  | nil => exact Nat.zero_le _
  | cons l L ih =>
    have h1 := ih (fun x hx => h x (List.mem_cons_of_mem _ hx))
    have h2 := h l List.mem_cons_self
    rw [List.flatten_cons, List.length_append, List.length_cons, Nat.add_mul]
    omega
theorem rightS_sort {l : List EdS} (h : ∀ x ∈ l, mayS x = true) : RightS (sortE l) := ⟨fun x hx => h x (lastE_mem ((mem_sortE l x).1 hx)), inc_sortE l⟩
/-- The parts with a group merged by itself: the same. -/
theorem group_same (L : List (List EdS)) {f e : Nat} (hfe : f ≤ e) : sortE ((L.take f ++ [sortE ((L.take e).drop f).flatten]) ++ L.drop e).flatten = sortE L.flatten := by
  have h1 : L = L.take f ++ ((L.take e).drop f ++ L.drop e) := by
    conv => lhs; rw [← List.take_append_drop e L]
    conv => lhs; rw [← List.take_append_drop f (L.take e)]
    rw [List.take_take, Nat.min_eq_left hfe, List.append_assoc]
  conv => rhs; rw [h1]
  rw [List.append_assoc, List.flatten_append, List.flatten_append, List.flatten_append, List.flatten_append, List.flatten_cons, List.flatten_nil, List.append_nil]
  exact sortE_mid _ _ _
set_option maxRecDepth 20000 in
set_option maxHeartbeats 4000000 in
theorem mergeGroups_walk (w : World) (A0 : Option Addr) (n0 c0 : Nat) (L0 : List EsT) (hS : Shows w w.heap.size 1 A0 n0 (L0.map EsT.val)) (hL : ∀ X ∈ L0, X.Lie w w.heap.size) (hfit : n0 ≤ c0) (hmax : c0 ≤ maxLen) (a1 : Int) (wa1 : (Lit.int .i64 a1).wf = true) (a2 : Int) (wa2 : (Lit.int .i64 a2).wf = true) :
    Calls Try.prog 7 #[.slice A0 n0 c0, .int .i64 a1, .int .i64 a2] w fun e w' => e = .returned (.bool true) ∧ Below w.heap.size w w' := by
  have hl0 : L0.length = n0 := by have := hS.1; simpa using this
  have HSo : Hid (∀ W, Below w.heap.size w W → Calls Try.prog 20 #[.slice A0 n0 c0] W (SomP (someS (L0.map EsT.s)) W)) := Lib.hid (fun W h => msome_any A0 n0 c0 w.heap.size L0 W (hS.below h) (fun X hX => (hL X hX).later h) h.size hfit hmax)
  have hslen : (someS (L0.map EsT.s)).length = min n0 12 := by
    unfold someS
    rw [List.length_map, List.length_take, List.length_map, hl0, Nat.min_comm]
  have HN63 : Hid (n0 ≤ 9223372036854775807) := Lib.hid (Nat.le_trans hfit hmax)
  clear hS hL hfit hmax hl0
  obtain ⟨LL, hLL⟩ : ∃ LL, L0.map EsT.s = LL := ⟨_, rfl⟩
  rw [hLL] at HSo hslen
  have HSL := Lib.hid hslen
  clear hLL hslen
  go_enter Try.func7, Try.ntmps7
  go_wp2_with fail
  refine (mwakes_any _).mono ?_
  rintro e W1 ⟨rfl, hb1⟩
  have hso := HSo.out W1 hb1
  clear HSo
  go_upto_region 3 with fail
  obtain ⟨q, hq⟩ : ∃ q, q = min n0 8 := ⟨_, rfl⟩
  go_cut [7] (fun p wx => ∃ (A : Option Addr) (c : Nat) (L : List EsT), p = .slice A q c ∧ Hid (RowsAt wx A q c L) ∧ Hid (∀ X ∈ L, X.s.length ≤ 60) ∧ Below w.heap.size w wx)
  case first =>
    go_wp2_with fail
    refine hso.mono ?_
    rintro e W2 ⟨hb2, A, n, c, L, rfl, hLs, hO⟩
    have hR := hO.at
    have hn := hR.len
    have h1 := congrArg List.length hLs
    rw [List.length_map, HSL.out, hn] at h1
    have hqn : q ≤ n := by omega
    have HRq := Lib.hid (hR.front hqn)
    have H60 : Hid (∀ X ∈ L.take q, X.s.length ≤ 60) := Lib.hid (fun X hX => some_each hLs (List.mem_of_mem_take hX))
    have hb02 := bel_next hb1 hb2
    have hfit := hR.fit
    have i1 : (q : Int) ≤ (n : Int) := by omega
    have i2 : (n : Int) ≤ (c : Int) := by omega
    have i3 : (q : Int) ≤ (c : Int) := by omega
    have i4 : (0 : Int) ≤ (q : Int) := by omega
    clear hso hLs hO hR hn h1 hqn hb1 hb2 hfit
    by_cases hmn : 8 < n0
    · have hrr : q = 8 := by omega
      clear hq
      subst hrr
      go_wp2
      go_meet
      case rel => exact ⟨A, c, _, rfl, HRq, H60, hb02⟩
    · have hrr : n0 = q := by omega
      clear hq
      subst hrr
      go_wp2
      go_meet
      case rel => exact ⟨A, c, _, rfl, HRq, H60, hb02⟩
  case rest =>
    obtain ⟨A, c, L, rfl, HR, H60, hb2⟩ := hcut
    clear hso hb1
    obtain ⟨W2, hW2⟩ : ∃ W2, W2 = wc := ⟨_, rfl⟩
    rw [← hW2] at HR hb2 ⊢
    clear hW2
    have hq8 : q ≤ 8 := by omega
    clear hq
    have hmg := HR.out.merge (by omega)
    have HSh : Hid ((L.map EsT.s).flatten.length ≤ 480) := Lib.hid (by
      have h1 := flat_short (L := L.map EsT.s) (M := 60) (fun l hl => by
        obtain ⟨X, hX, rfl⟩ := List.mem_map.1 hl
        exact H60.out X hX)
      rw [List.length_map, HR.out.len] at h1
      omega)
    go_upto_region 4 with fail
    go_cut [8, 9] (fun p r wx => ∃ (gA : Option Addr) (gn gc : Nat) (code : Int), p = .slice gA gn gc ∧ r = .int .i64 code ∧ Hid (GotP (∀ s ∈ L.map EsT.s, RightS s) (L.map EsT.s).flatten wx gA gn gc code) ∧ Below W2.heap.size W2 wx)
    case first =>
      go_wp2_with fail
      refine hmg.mono ?_
      rintro e W3 hh
      obtain ⟨hb3, gA, gn, gc, code, rfl, hg⟩ := hh.got
      have HG := Lib.hid hg
      clear hmg hh hg
      go_wp2_with fail
      go_meet
      case rel => exact ⟨_, _, _, _, rfl, rfl, HG, hb3⟩
    case rest =>
      obtain ⟨gA, gn, gc, code, rfl, rfl, HG, hb3⟩ := hcut
      clear hmg
      obtain ⟨W3, hW3⟩ : ∃ W3, W3 = wc := ⟨_, rfl⟩
      rw [← hW3] at HG hb3 ⊢
      clear hW3
      have hb03 := bel_next hb2 hb3
      have HR3 := Lib.hid (HR.out.next hb3)
      clear HR hb2 hb3
      rcases HG.out with ⟨hno, rfl, rfl⟩ | ⟨-, hlong, -⟩ | ⟨hp, -, rfl, GE, hGs, hGl⟩
      · clear hno HG
        go_wp2
        go_ret
        exact ⟨rfl, hb03⟩
      · have h1 := len_sortE (L.map EsT.s).flatten
        have h2 := HSh.out
        exact absurd hlong (by omega)
      have HP := Lib.hid hp
      have HGs := Lib.hid hGs
      have HGl := Lib.hid hGl
      clear HG hp hGs hGl
      -- the two places
      obtain ⟨y1, hy1⟩ : ∃ y : Nat, IntKind.u64.wrap a1 = (y : Int) := ⟨(IntKind.u64.wrap a1).toNat, by have := IntKind.wrap_u64 a1; omega⟩
      obtain ⟨y2, hy2⟩ : ∃ y : Nat, IntKind.u64.wrap a2 = (y : Int) := ⟨(IntKind.u64.wrap a2).toNat, by have := IntKind.wrap_u64 a2; omega⟩
      obtain ⟨m1, hm1⟩ : ∃ m1 : Nat, m1 = q + 1 := ⟨_, rfl⟩
      obtain ⟨f, hf, hfm⟩ : ∃ f : Nat, (y1 : Int).tmod (m1 : Int) = (f : Int) ∧ f < m1 := by
        refine ⟨y1 % m1, ?_, Nat.mod_lt _ (by omega)⟩
        rw [Int.tmod_eq_emod_of_nonneg (by omega)]; omega
      have hf2 : (y1 : Int) % (m1 : Int) = (f : Int) := by rw [← hf, Int.tmod_eq_emod_of_nonneg (by omega)]
      obtain ⟨d, hd⟩ : ∃ d : Nat, d = q - f := ⟨_, rfl⟩
      obtain ⟨m2, hm2⟩ : ∃ m2 : Nat, m2 = d + 1 := ⟨_, rfl⟩
      obtain ⟨g, hg, hgm⟩ : ∃ g : Nat, (y2 : Int).tmod (m2 : Int) = (g : Int) ∧ g < m2 := by
        refine ⟨y2 % m2, ?_, Nat.mod_lt _ (by omega)⟩
        rw [Int.tmod_eq_emod_of_nonneg (by omega)]; omega
      have hg2 : (y2 : Int) % (m2 : Int) = (g : Int) := by rw [← hg, Int.tmod_eq_emod_of_nonneg (by omega)]
      obtain ⟨t, ht⟩ : ∃ t : Nat, t = f + g := ⟨_, rfl⟩
      have hft : f ≤ t := by omega
      have htq : t ≤ q := by omega
      go_upto_region 7 with fail
      go_cut [10] (fun p wx => p = .int .i64 f ∧ W3 = wx)
      case first =>
        have k1 : (q : Int) + 1 = (m1 : Int) := by omega
        have k3 : IntKind.u64.wrap (m1 : Int) = (m1 : Int) := by rw [IntKind.wrap_u64]; omega
        have k13 : (0 : Int) < (m1 : Int) := by omega
        have b1 : f ≤ 8 := by omega
        have b4 : m1 ≤ 9 := by omega
        clear hm1 hm2 hd ht hfm hgm hft htq
        go_wp2_with fail
        go_meet
        case rel => exact ⟨rfl, rfl⟩
      obtain ⟨rfl, hw3⟩ := hcut
      subst hw3
      go_upto_region 8 with fail
      go_cut [11] (fun p wx => p = .int .i64 t ∧ W3 = wx)
      case first =>
        have k5 : (q : Int) - (f : Int) = (d : Int) := by omega
        have k7 : (d : Int) + 1 = (m2 : Int) := by omega
        have k9 : IntKind.u64.wrap (m2 : Int) = (m2 : Int) := by rw [IntKind.wrap_u64]; omega
        have k11 : (f : Int) + (g : Int) = (t : Int) := by omega
        have k14 : (0 : Int) < (m2 : Int) := by omega
        have b1 : f ≤ 8 := by omega
        have b2 : g ≤ 8 := by omega
        have b3 : d ≤ 8 := by omega
        have b4 : m1 ≤ 9 := by omega
        have b5 : m2 ≤ 9 := by omega
        have b6 : t ≤ 8 := by omega
        clear hm1 hm2 hd ht hfm hgm
        go_wp2_with fail
        go_meet
        case rel => exact ⟨rfl, rfl⟩
      case rest =>
        obtain ⟨rfl, hw3⟩ := hcut
        subst hw3
        clear hy1 hy2 hm1 hm2 hd ht hf hfm hf2 hg hgm hg2
        have hq8' : q ≤ 1048576 := by omega
        obtain ⟨A', hA', hR'⟩ := (HR3.out.front htq).back hft
        have HA' := Lib.hid hA'
        have HR' := Lib.hid hR'
        have HPr : Hid (∀ s ∈ ((L.take t).drop f).map EsT.s, RightS s) := Lib.hid (fun s hs => by
          obtain ⟨X, hX, rfl⟩ := List.mem_map.1 hs
          exact HP.out X.s (List.mem_map_of_mem (List.mem_of_mem_take (List.mem_of_mem_drop hX))))
        have HGsh : Hid ((((L.take t).drop f).map EsT.s).flatten.length ≤ 480) := Lib.hid (by
          have h1 := flat_short (L := ((L.take t).drop f).map EsT.s) (M := 60) (fun l hl => by
            obtain ⟨X, hX, rfl⟩ := List.mem_map.1 hl
            exact H60.out X (List.mem_of_mem_take (List.mem_of_mem_drop hX)))
          rw [List.length_map, List.length_drop, List.length_take] at h1
          omega)
        have hfc := HR3.out.fit
        have i1 : (f : Int) ≤ (t : Int) := by omega
        have i2 : (t : Int) ≤ (c : Int) := by omega
        have i3 : (f : Int) ≤ (c : Int) := by omega
        have i4 : (0 : Int) ≤ (f : Int) := by omega
        have i5 : (0 : Int) ≤ (t : Int) := by omega
        clear hA' hR'
        go_upto_region 9 with fail
        go_cut [12, 13] (fun p r wx => ∃ (hA : Option Addr) (hn hc : Nat) (HE : List EdT), p = .slice hA hn hc ∧ r = .int .i64 0 ∧ Hid (EsT.s ⟨hA, hn, hc, HE⟩ = sortE (((L.take t).drop f).map EsT.s).flatten) ∧ Hid (EsT.Lie wx wx.heap.size ⟨hA, hn, hc, HE⟩) ∧ Below W3.heap.size W3 wx)
        case first =>
          have hnx : t - f ≤ 1048576 := by omega
          by_cases hcf : c = f
          · have hmg : Calls Try.prog 21 #[.slice A (t - f) 0] W3 (SrtP (∀ s ∈ ((L.take t).drop f).map EsT.s, RightS s) (((L.take t).drop f).map EsT.s).flatten W3) := by
              have h := HR'.out
              rw [HA'.out, if_pos hcf, show c - f = 0 by omega] at h
              exact h.merge hnx
            clear hnx
            subst hcf
            go_wp2_with fail
            (with_reducible refine hmg.mono ?_)
            rintro e W4 hh
            obtain ⟨hb4, gA2, gn2, gc2, code, rfl, ⟨hno, -⟩ | ⟨-, hlong, -⟩ | ⟨-, -, rfl, E2, hs2, hl2⟩⟩ := hh.got
            · exact absurd HPr.out hno
            · exact absurd hlong (Nat.not_lt.2 (Nat.le_trans (len_sortE _) (Nat.le_trans HGsh.out (by decide))))
            have Hs2 := Lib.hid hs2
            have Hl2 := Lib.hid hl2
            clear hmg hh hs2 hl2
            go_wp2_with fail
            go_meet
            case rel => exact ⟨_, _, _, _, rfl, rfl, Hs2, Hl2, hb4⟩
          · have hmg : Calls Try.prog 21 #[.slice (A.map (fun x => x.add f)) (t - f) (c - f)] W3 (SrtP (∀ s ∈ ((L.take t).drop f).map EsT.s, RightS s) (((L.take t).drop f).map EsT.s).flatten W3) := by
              have h := HR'.out
              rw [HA'.out, if_neg hcf] at h
              exact h.merge hnx
            clear hnx
            go_wp2_with fail
            (with_reducible refine hmg.mono ?_)
            rintro e W4 hh
            obtain ⟨hb4, gA2, gn2, gc2, code, rfl, ⟨hno, -⟩ | ⟨-, hlong, -⟩ | ⟨-, -, rfl, E2, hs2, hl2⟩⟩ := hh.got
            · exact absurd HPr.out hno
            · exact absurd hlong (Nat.not_lt.2 (Nat.le_trans (len_sortE _) (Nat.le_trans HGsh.out (by decide))))
            have Hs2 := Lib.hid hs2
            have Hl2 := Lib.hid hl2
            clear hmg hh hs2 hl2
            go_wp2_with fail
            go_meet
            case rel => exact ⟨_, _, _, _, rfl, rfl, Hs2, Hl2, hb4⟩
        case rest =>
          obtain ⟨hA, hn, hc, HE, rfl, rfl, HHs, HHl, hb4⟩ := hcut
          obtain ⟨W4, hW4⟩ : ∃ W4, W4 = wc := ⟨_, rfl⟩
          rw [← hW4] at HHl hb4 ⊢
          clear hW4
          have hb04 := bel_next hb03 hb4
          have HR4 := Lib.hid (HR3.out.next hb4)
          have HGl4 := Lib.hid (HGl.out.next hb4)
          clear hb03 hb4 HR3 HGl HR' HA'
          obtain ⟨A2, hA2, hR2⟩ := HR4.out.back htq
          have HA2 := Lib.hid hA2
          have HR2 := Lib.hid hR2
          clear hA2 hR2
          have hl3 := HR4.out.len
          obtain ⟨i0, hi0, hz0, hz1, hz2⟩ := edits_info
          -- rows[:f]
          go_upto_region 11 with fail
          go_cut [14] (fun p wx => ∃ (A5 : Option Addr) (c5 : Nat), p = .slice A5 f c5 ∧ Hid (wx.ownsRow W4.heap.size 22 1 (.slice A5 f c5) f ((L.take f).map EsT.val)) ∧ Hid (Below W4.heap.size W4 wx))
          case first =>
            have hs1 := (HR4.out.front (Nat.le_trans hft htq)).row
            have h1c := val_one (L.take f)
            have hown := World.ownsRow_nil W4 W4.heap.size 22 1
            have g1 : 0 + f ≤ maxLen := by unfold maxLen; omega
            have g2 : (0 + f) * 24 ≤ 140737488355328 := by omega
            have g3 : W4.heap.size ≤ W4.heap.size := Nat.le_refl _
            clear hl3
            go_wp2_with (at_builtin; refine wpList_append_shows _ rfl _ _ 35 rfl W4.heap.size 22 i0 (.slice none 0 0) 1 24 Try.underlying35 hi0 hz0 hz1 hz2 rfl (by decide) _ _ _ rfl hown W4.heap.size _ f _ _ rfl hs1 h1c g1 g2 g3 ?_; intro A5 c5 W5 hown5 hgrow5 hb5; have HO5 := Lib.hid hown5; have HB5 := Lib.hid hb5; clear hown5 hgrow5 hb5 hown hs1 g1 g2 g3 h1c)
            go_meet
            case rel => exact ⟨A5, c5, by first | rfl | (rw [Nat.zero_add]), Lib.hid (by have h := HO5.out; rw [Nat.zero_add] at h; simpa using h), HB5⟩
          case rest =>
            obtain ⟨A5, c5, rfl, HO5, HB5⟩ := hcut
            obtain ⟨W5, hW5⟩ : ∃ W5, W5 = wc := ⟨_, rfl⟩
            rw [← hW5] at HO5 HB5 ⊢
            clear hW5
            -- the group
            go_upto_region 12 with fail
            go_cut [14] (fun p wx => ∃ (A6 : Option Addr) (c6 : Nat), p = .slice A6 (f + 1) c6 ∧ Hid (wx.ownsRow W4.heap.size 22 1 (.slice A6 (f + 1) c6) (f + 1) ((L.take f).map EsT.val ++ [Value.slice hA hn hc])) ∧ Hid (Below W4.heap.size W4 wx))
            case first =>
              have hbC := bel_alloc (Below.refl W5.heap.size W5) (.cells #[.slice hA hn hc] 22)
              have hsC : Shows (W5.alloc (.cells #[.slice hA hn hc] 22)) (W5.heap.size + 1) 1 (some ⟨W5.heap.size, 0, none⟩) 1 [.slice hA hn hc] :=
                ⟨rfl, fun _ => ⟨W5.heap.size, 0, rfl, by omega, fun j u hu => by rw [Nat.zero_add, cell_of_row _ _ j _ _ _ (heap_alloc_new W5 _)]; simpa using hu⟩⟩
              have hown := own_later HO5.out hbC
              have g1 : f + 1 ≤ maxLen := by unfold maxLen; omega
              have g2 : (f + 1) * 24 ≤ 140737488355328 := by omega
              have g3 : W4.heap.size ≤ (W5.alloc (.cells #[.slice hA hn hc] 22)).heap.size := Nat.le_trans HB5.out.size hbC.size
              have h1c : ∀ u ∈ [Value.slice hA hn hc], u.oneCell' = true := by intro u hu; rw [List.mem_singleton.1 hu]; rfl
              have HBC := Lib.hid hbC
              clear hbC hl3
              go_wp2_with (at_builtin; refine wpList_append_shows _ rfl _ _ 35 rfl W4.heap.size 22 i0 (.slice none 0 0) 1 24 Try.underlying35 hi0 hz0 hz1 hz2 rfl (by decide) _ _ _ rfl hown (W5.heap.size + 1) _ 1 _ _ rfl hsC h1c g1 g2 g3 ?_; intro A6 c6 W6 hown6 hgrow6 hb6; have HO6 := Lib.hid hown6; have HB6 : Hid (Below W4.heap.size W4 W6) := Lib.hid ((HB5.out.trans (HBC.out.mono HB5.out.size)).trans hb6); clear hown6 hgrow6 hb6 hown hsC g1 g2 g3 h1c)
              go_meet
              case rel => exact ⟨A6, c6, by first | rfl | trivial, HO6, HB6⟩
            case rest =>
              obtain ⟨A6, c6, rfl, HO6, HB6⟩ := hcut
              obtain ⟨W6, hW6⟩ : ∃ W6, W6 = wc := ⟨_, rfl⟩
              rw [← hW6] at HO6 HB6 ⊢
              clear hW6
              obtain ⟨u, hu⟩ : ∃ u, u = q - t := ⟨_, rfl⟩
              obtain ⟨v, hv⟩ : ∃ v, v = f + 1 + u := ⟨_, rfl⟩
              have HV := Lib.hid hv
              -- rows[t:]
              go_upto_region 13 with fail
              go_cut [14] (fun p wx => ∃ (A7 : Option Addr) (c7 : Nat), p = .slice A7 v c7 ∧ Hid (RowsAt wx A7 v c7 ((L.take f ++ [⟨hA, hn, hc, HE⟩]) ++ L.drop t)) ∧ Below W4.heap.size W4 wx)
              case first =>
                have i6 : (t : Int) ≤ (q : Int) := by omega
                have i7 : (q : Int) ≤ (c : Int) := by omega
                have i8 : (0 : Int) ≤ (q : Int) := by omega
                have h1c := val_one (L.drop t)
                have hown := HO6.out
                have g1 : f + 1 + (q - t) ≤ maxLen := by unfold maxLen; omega
                have g2 : (f + 1 + (q - t)) * 24 ≤ 140737488355328 := by omega
                have g3 := HB6.out.size
                have hu' := hu
                have HMK : Hid (∀ (W7 : World) (A7 : Option Addr) (c7 : Nat) {n7 : Nat}, v = n7 → Below W4.heap.size W4 W7 → W7.ownsRow W4.heap.size 22 1 (.slice A7 n7 c7) n7 (((L.take f).map EsT.val ++ [Value.slice hA hn hc]) ++ (L.drop t).map EsT.val) → Hid (RowsAt W7 A7 v c7 ((L.take f ++ [⟨hA, hn, hc, HE⟩]) ++ L.drop t))) := Lib.hid (by
                  intro W7 A7 c7 n7 hvn hb7 ho
                  subst hvn
                  obtain ⟨e1, e2, e3⟩ := own_heads ho
                  refine Lib.hid ⟨?_, fun X hX => ?_, e1, e2, e3⟩
                  · have h := Shows.own ho
                    rw [List.map_append, List.map_append]
                    exact h
                  · rcases List.mem_append.1 hX with hX | hX
                    · rcases List.mem_append.1 hX with hX | hX
                      · exact (HR4.out.all X (List.mem_of_mem_take hX)).next hb7
                      · rw [List.mem_singleton.1 hX]
                        exact HHl.out.next hb7
                    · exact (HR4.out.all X (List.mem_of_mem_drop hX)).next hb7)
                clear hl3 hu hv
                by_cases hct : c = t
                · have hqt : q - t = 0 := by omega
                  have hqc : q = c := by omega
                  have hs1 : Shows W6 W4.heap.size 1 A 0 ((L.drop t).map EsT.val) := by
                    have h := HR2.out.row.below HB6.out
                    rw [HA2.out, if_pos hct, hqt] at h
                    exact h
                  have HVV : Hid (v = f + 1 + 0) := Lib.hid (by rw [HV.out, hu', hqt])
                  rw [hqt] at g1 g2
                  clear hqt hu'
                  subst hct
                  subst hqc
                  go_wp2_with (at_builtin; refine wpList_append_shows _ rfl _ _ 35 rfl W4.heap.size 22 i0 (.slice none 0 0) 1 24 Try.underlying35 hi0 hz0 hz1 hz2 rfl (by decide) _ _ _ rfl hown W4.heap.size _ _ _ _ rfl hs1 h1c g1 g2 g3 ?_; intro A7 c7 W7 hown7 hgrow7 hb7; have HO7 := Lib.hid hown7; have HB7 : Hid (Below W4.heap.size W4 W7) := Lib.hid (HB6.out.trans hb7); clear hown7 hgrow7 hb7 hown hs1 g1 g2 g3 h1c)
                  go_meet
                  case rel => exact ⟨A7, c7, by rw [HVV.out], HMK.out _ A7 c7 HVV.out HB7.out HO7.out, HB7.out⟩
                · have hs1 : Shows W6 W4.heap.size 1 (A.map (fun x => x.add t)) (q - t) ((L.drop t).map EsT.val) := by
                    have h := HR2.out.row.below HB6.out
                    rw [HA2.out, if_neg hct] at h
                    exact h
                  go_wp2_with (at_builtin; refine wpList_append_shows _ rfl _ _ 35 rfl W4.heap.size 22 i0 (.slice none 0 0) 1 24 Try.underlying35 hi0 hz0 hz1 hz2 rfl (by decide) _ _ _ rfl hown W4.heap.size _ _ _ _ rfl hs1 h1c g1 g2 g3 ?_; intro A7 c7 W7 hown7 hgrow7 hb7; have HO7 := Lib.hid hown7; have HB7 : Hid (Below W4.heap.size W4 W7) := Lib.hid (HB6.out.trans hb7); clear hown7 hgrow7 hb7 hown hs1 g1 g2 g3 h1c)
                  go_meet
                  case rel => exact ⟨A7, c7, by rw [HV.out, hu'], HMK.out _ A7 c7 (by rw [HV.out, hu']) HB7.out HO7.out, HB7.out⟩
              case rest =>
                obtain ⟨A7, c7, rfl, HR7, hb7⟩ := hcut
                obtain ⟨W7, hW7⟩ : ∃ W7, W7 = wc := ⟨_, rfl⟩
                rw [← hW7] at HR7 hb7 ⊢
                clear hW7 HO6 HB6 HO5 HB5 HR2 HA2
                have hmg := HR7.out.merge (show v ≤ 1048576 by omega)
                have HHmay : Hid (∀ x ∈ (L.map EsT.s).flatten, mayS x = true) := Lib.hid (fun x hx => by
                  obtain ⟨l, hl, hxl⟩ := List.mem_flatten.1 hx
                  exact (HP.out l hl).1 x hxl)
                have HPP : Hid (∀ s ∈ ((L.take f ++ ([⟨hA, hn, hc, HE⟩] : List EsT)) ++ L.drop t).map EsT.s, RightS s) := Lib.hid (by
                  intro s hs
                  obtain ⟨X, hX, rfl⟩ := List.mem_map.1 hs
                  rcases List.mem_append.1 hX with hX | hX
                  · rcases List.mem_append.1 hX with hX | hX
                    · exact HP.out _ (List.mem_map_of_mem (List.mem_of_mem_take hX))
                    · rw [List.mem_singleton.1 hX, HHs.out]
                      refine rightS_sort (fun x hx => HHmay.out x ?_)
                      obtain ⟨l, hl, hxl⟩ := List.mem_flatten.1 hx
                      obtain ⟨Y, hY, rfl⟩ := List.mem_map.1 hl
                      exact List.mem_flatten.2 ⟨_, List.mem_map_of_mem (List.mem_of_mem_take (List.mem_of_mem_drop hY)), hxl⟩
                  · exact HP.out _ (List.mem_map_of_mem (List.mem_of_mem_drop hX)))
                have HSM : Hid (sortE (((L.take f ++ ([⟨hA, hn, hc, HE⟩] : List EsT)) ++ L.drop t).map EsT.s).flatten = sortE (L.map EsT.s).flatten) := Lib.hid (by
                  have h := group_same (L.map EsT.s) hft
                  rw [← h, List.map_append, List.map_append, List.map_singleton, HHs.out, List.map_take, List.map_drop, List.map_drop, List.map_take])
                have HL6 : Hid (∀ X ∈ L, X.n ≤ 1000) := Lib.hid (fun X hX => by
                  have h1 := H60.out X hX
                  have h2 := (HR4.out.all X hX).len
                  have h3 : X.s.length = X.n := by unfold EsT.s; rw [List.length_map]; exact h2
                  omega)
                have hb07 := bel_next hb04 hb7
                have HR8 := Lib.hid (HR4.out.next hb7)
                have HG7 := Lib.hid (HGl4.out.next hb7)
                clear hb04 hb7 HR7 HR4 HGl4 HHl HHs hl3 hu hv HV hfc i1 i2 i3 i4 i5 hft htq hq8' HPr HGsh
                go_upto_region 14 with fail
                go_cut [15, 16] (fun p r wx => ∃ (mA : Option Addr) (mn mc : Nat) (ME : List EdT), p = .slice mA mn mc ∧ r = .int .i64 0 ∧ Hid (EsT.s ⟨mA, mn, mc, ME⟩ = sortE (L.map EsT.s).flatten) ∧ Hid (EsT.Lie wx wx.heap.size ⟨mA, mn, mc, ME⟩) ∧ Below W7.heap.size W7 wx)
                case first =>
                  go_wp2_with fail
                  (with_reducible refine hmg.mono ?_)
                  rintro e W8 hh
                  obtain ⟨hb8, gA2, gn2, gc2, code, rfl, ⟨hno, -⟩ | ⟨-, hlong, -⟩ | ⟨-, -, rfl, E2, hs2, hl2⟩⟩ := hh.got
                  · exact absurd HPP.out hno
                  · rw [HSM.out] at hlong
                    exact absurd hlong (Nat.not_lt.2 (Nat.le_trans (len_sortE _) (Nat.le_trans HSh.out (by decide))))
                  have Hs2 := Lib.hid (hs2.trans HSM.out)
                  have Hl2 := Lib.hid hl2
                  clear hmg hh hs2 hl2
                  go_wp2_with fail
                  go_meet
                  case rel => exact ⟨_, _, _, _, rfl, rfl, Hs2, Hl2, hb8⟩
                case rest =>
                  obtain ⟨mA, mn, mc, ME, rfl, rfl, HMs, HMl, hb8⟩ := hcut
                  clear hmg
                  obtain ⟨W8, hW8⟩ : ∃ W8, W8 = wc := ⟨_, rfl⟩
                  rw [← hW8] at HMl hb8 ⊢
                  clear hW8
                  have hb08 := bel_next hb07 hb8
                  have HR9 := Lib.hid (HR8.out.next hb8)
                  have HG8 := Lib.hid (HG7.out.next hb8)
                  have hcc := concatE_any A q c W8.heap.size L W8 HR9.out.row HR9.out.all (Nat.le_refl _) (by omega) HL6.out
                  clear hb07 hb8 HR8 HG7
                  go_upto_region 15 with fail
                  go_cut [17, 18] (fun p r wx => ∃ (mA : Option Addr) (mn mc : Nat) (ME : List EdT), p = .slice mA mn mc ∧ r = .int .i64 0 ∧ Hid (EsT.s ⟨mA, mn, mc, ME⟩ = sortE (L.map EsT.s).flatten) ∧ Hid (EsT.Lie wx wx.heap.size ⟨mA, mn, mc, ME⟩) ∧ Below W8.heap.size W8 wx)
                  case first =>
                    go_wp2_with fail
                    refine hcc.mono ?_
                    rintro e W9 ⟨hb9, ⟨cA, cn, cc, CE⟩, rfl, hcs, hcl⟩
                    have hcn : cn ≤ 1048576 := by
                      have h2 := hcl.len
                      have h3 : (EsT.s ⟨cA, cn, cc, CE⟩).length = cn := by unfold EsT.s; rw [List.length_map]; exact h2
                      rw [hcs] at h3
                      have := HSh.out
                      omega
                    have hst := msort_any ⟨cA, cn, cc, CE⟩ W9.heap.size W9 hcl (Nat.le_refl _) hcn
                    rw [hcs] at hst
                    have HB9 := Lib.hid hb9
                    clear hcc hcs hcl hcn hb9
                    go_wp2_with fail
                    refine hst.mono ?_
                    rintro e W10 hh
                    obtain ⟨hb10, gA2, gn2, gc2, code, rfl, ⟨hno, -⟩ | ⟨-, hlong, -⟩ | ⟨-, -, rfl, E2, hs2, hl2⟩⟩ := hh.got
                    · exact absurd HHmay.out hno
                    · exact absurd hlong (Nat.not_lt.2 (Nat.le_trans (len_sortE _) (Nat.le_trans HSh.out (by decide))))
                    have Hs2 := Lib.hid hs2
                    have Hl2 := Lib.hid hl2
                    have hb810 := bel_next HB9.out hb10
                    clear hst hh hs2 hl2 hb10
                    go_wp2_with fail
                    go_meet
                    case rel => exact ⟨_, _, _, _, rfl, rfl, Hs2, Hl2, hb810⟩
                  case rest =>
                    obtain ⟨zA, zn, zc, ZE, rfl, rfl, HZs, HZl, hb9⟩ := hcut
                    clear hcc
                    obtain ⟨W9, hW9⟩ : ∃ W9, W9 = wc := ⟨_, rfl⟩
                    rw [← hW9] at HZl hb9 ⊢
                    clear hW9
                    have hb09 := bel_next hb08 hb9
                    have HG9 := Lib.hid (HG8.out.next hb9)
                    have HM9 := Lib.hid (HMl.out.next hb9)
                    have hse := sameE_any ⟨mA, mn, mc, ME⟩ ⟨gA, gn, gc, GE⟩ W9.heap.size W9 HM9.out HG9.out (Nat.le_refl _)
                    have HEq : Hid (EsT.s ⟨mA, mn, mc, ME⟩ = EsT.s ⟨gA, gn, gc, GE⟩) := Lib.hid (HMs.out.trans HGs.out.symm)
                    clear hb08 hb9 HG8 HMl
                    go_wp2_with fail
                    refine hse.mono ?_
                    rintro e W10 ⟨z, rfl, hz, hb10⟩
                    have hzt : z = true := hz.2 HEq.out
                    subst hzt
                    have hb010 := bel_next hb09 hb10
                    have HG10 := Lib.hid (HG9.out.next hb10)
                    have HZ10 := Lib.hid (HZl.out.next hb10)
                    have hse2 := sameE_any ⟨zA, zn, zc, ZE⟩ ⟨gA, gn, gc, GE⟩ W10.heap.size W10 HZ10.out HG10.out (Nat.le_refl _)
                    have HEq2 : Hid (EsT.s ⟨zA, zn, zc, ZE⟩ = EsT.s ⟨gA, gn, gc, GE⟩) := Lib.hid (HZs.out.trans HGs.out.symm)
                    clear hse hz hb09 hb10 HG9 HZl
                    go_wp2_with fail
                    refine hse2.mono ?_
                    rintro e W11 ⟨z, rfl, hz, hb11⟩
                    have hzt : z = true := hz.2 HEq2.out
                    subst hzt
                    have hb011 := bel_next hb010 hb11
                    have HG11 := Lib.hid (HG10.out.next hb11)
                    have hck := mcheck_any ⟨gA, gn, gc, GE⟩ W11.heap.size W11 HG11.out (Nat.le_refl _)
                    have HRT : Hid (RightS (EsT.s ⟨gA, gn, gc, GE⟩)) := Lib.hid (by rw [HGs.out]; exact rightS_sort HHmay.out)
                    clear hse2 hz hb010 hb11 HG10
                    go_wp2_with fail
                    refine hck.mono ?_
                    rintro e W12 ⟨hb12, ⟨rfl, -⟩ | ⟨-, hno⟩⟩
                    · have hb012 := bel_next hb011 hb12
                      clear hck hb011 hb12
                      go_wp2
                      go_ret
                      exact ⟨rfl, hb012⟩
                    · exact absurd HRT.out hno
end Go.Proofs.Ytkbcgcokokddlaa
