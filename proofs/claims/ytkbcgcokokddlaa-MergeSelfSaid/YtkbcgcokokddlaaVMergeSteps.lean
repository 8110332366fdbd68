import Derived.Test.YtkbcgcokokddlaaVMergeGroups
/-
  The law MergeSteps, walked.
-/
namespace Go.Proofs.Ytkbcgcokokddlaa
open Go.RowKit
set_option linter.unusedVariables false
set_option linter.unusedSimpArgs false

theorem len_goI (l : List ItS) (e : EdS) : (goI l e).length ≤ l.length + 1 := by
  induction l with
  | nil => exact Nat.le_refl _
  | cons y l ih =>
    rw [goI_cons]
    split
    · rw [List.length_cons, List.length_cons]; omega
    · rw [List.length_cons]
      exact Nat.succ_le_succ (List.length_filter_le _ _)
theorem len_stepI (l : List ItS) (e : EdS) : (stepI l e).length ≤ l.length + 1 := by
  unfold stepI restI
  split
  · exact len_goI l e
  · exact Nat.le_trans (List.length_filter_le _ _) (Nat.le_succ _)
theorem len_doneR (es : List EdS) : ∀ l : List ItS, (doneR l es).length ≤ l.length + es.length := by
  induction es with
  | nil => exact fun l => Nat.le_refl _
  | cons e es ih =>
    intro l
    have h1 := ih (stepI l e)
    have h2 := len_stepI l e
    rw [List.length_cons]
    show (doneR (stepI l e) es).length ≤ _
    omega
theorem itLie_none (W : World) : IsT.Lie W W.heap.size ⟨none, 0, 0, []⟩ := (OwnI.none W W.heap.size W.heap.size).lie (Nat.le_refl _)
/-- What doing edits that may be done to items in order comes to. -/
theorem DonP.got {l : List ItS} {es : List EdS} {W W' : World} {e : Ending} (h : DonP l es W e W') (he : RightS es) (hl : IncI l) : Below W.heap.size W W' ∧ ∃ (A : Option Addr) (n c : Nat) (E : List ItT), e = .returned (.tuple #[.slice A n c, .int .i64 0]) ∧ IsT.s ⟨A, n, c, E⟩ = doneR l es ∧ IsT.Lie W' W'.heap.size ⟨A, n, c, E⟩ := by
  obtain ⟨hb, h | ⟨-, ⟨A, n, c, E⟩, h1, h2, h3⟩⟩ := h
  · exact absurd ⟨he, hl⟩ h.1
  · exact ⟨hb, A, n, c, E, h1, h2, h3⟩
set_option maxRecDepth 20000 in
set_option maxHeartbeats 4000000 in
theorem mergeSteps_walk (w : World) (X : EsT) (hX : X.Lie w w.heap.size) (A0 : Option Addr) (n0 c0 : Nat) (L0 : List EsT) (hS : Shows w w.heap.size 1 A0 n0 (L0.map EsT.val)) (hL : ∀ X ∈ L0, X.Lie w w.heap.size) (hfit : n0 ≤ c0) (hmax : c0 ≤ maxLen) :
    Calls Try.prog 8 #[.slice X.A X.n X.c, .slice A0 n0 c0] w fun e w' => e = .returned (.bool true) ∧ Below w.heap.size w w' := by
  have hl0 : L0.length = n0 := by have := hS.1; simpa using this
  have HSo : Hid (∀ W, Below w.heap.size w W → Calls Try.prog 20 #[.slice A0 n0 c0] W (SomP (someS (L0.map EsT.s)) W)) := Lib.hid (fun W h => msome_any A0 n0 c0 w.heap.size L0 W (hS.below h) (fun X hX => (hL X hX).later h) h.size hfit hmax)
  have hslen : (someS (L0.map EsT.s)).length = min n0 12 := by
    unfold someS
    rw [List.length_map, List.length_take, List.length_map, hl0, Nat.min_comm]
  have HN63 : Hid (n0 ≤ 9223372036854775807) := Lib.hid (Nat.le_trans hfit hmax)
  clear hS hL hfit hmax hl0
  obtain ⟨LL, hLL⟩ : ∃ LL, L0.map EsT.s = LL := ⟨_, rfl⟩
  rw [hLL] at HSo hslen
  have HSL := Lib.hid hslen
  have HX := Lib.hid hX
  clear hLL hslen hX
  obtain ⟨q, hq⟩ : ∃ q, q = min n0 8 := ⟨_, rfl⟩
  have HQ := Lib.hid hq
  have hq8 : q ≤ 8 := by omega
  obtain ⟨SR, hSR⟩ : ∃ SR, (someS LL).take q = SR := ⟨_, rfl⟩
  have HSR := Lib.hid hSR
  -- what stands in the rows, each time they are made
  have HTake : Hid (∀ (W : World) (D : Nat) (A : Option Addr) (n c : Nat) (L : List EsT), L.map EsT.s = someS LL → OwnS W D A n c L → q ≤ n ∧ (q : Int) ≤ (n : Int) ∧ (n : Int) ≤ (c : Int) ∧ (q : Int) ≤ (c : Int) ∧ Hid (RowsAt W A q c (L.take q)) ∧ (L.take q).map EsT.s = SR) := Lib.hid (by
    intro W D A n c L hLs hO
    have hR := hO.at
    have hn := hR.len
    have h1 := congrArg List.length hLs
    rw [List.length_map, HSL.out, hn] at h1
    have hqn : q ≤ n := by omega
    have hfit := hR.fit
    refine ⟨hqn, by omega, by omega, by omega, Lib.hid (hR.front hqn), ?_⟩
    rw [List.map_take, hLs, hSR])
  have HS60 : Hid (∀ s ∈ SR, s.length ≤ 60) := Lib.hid (fun s hs => by
    rw [← hSR] at hs
    have h1 := List.mem_of_mem_take hs
    unfold someS at h1
    obtain ⟨l, -, h2⟩ := List.mem_map.1 h1
    rw [← h2]
    exact few_len l 60)
  have HSq : Hid (SR.length = q) := Lib.hid (by rw [← hSR, List.length_take, HSL.out]; omega)
  have HF : Hid (∀ i, (SR.take i).flatten.length ≤ 480) := Lib.hid (fun i => by
    have h1 := flat_short (L := SR.take i) (M := 60) (fun l hl => HS60.out l (List.mem_of_mem_take hl))
    rw [List.length_take, HSq.out] at h1
    omega)
  have HF8 : Hid (SR.flatten.length ≤ 480) := Lib.hid (by
    have h1 := flat_short (L := SR) (M := 60) HS60.out
    rw [HSq.out] at h1
    omega)
  clear hSR hq
  go_enter Try.func8, Try.ntmps8
  go_wp2_with fail
  refine (mwakes_any _).mono ?_
  rintro e W1 ⟨rfl, hb1⟩
  have hf := mfew_any X 60 w.heap.size W1 (HX.out.later hb1) hb1.size (by decide)
  rw [show ((60 : Nat) : Int) = 60 from rfl] at hf
  obtain ⟨YS, hYS⟩ : ∃ YS, (X.s.take 60).map fewS = YS := ⟨_, rfl⟩
  have HY60 : Hid (YS.length ≤ 60) := Lib.hid (by rw [← hYS]; exact few_len X.s 60)
  rw [hYS] at hf
  clear hYS
  go_upto_region 3 with fail
  go_cut [5, 6] (fun p r wx => ∃ (gA : Option Addr) (gn gc : Nat) (code : Int), p = .slice gA gn gc ∧ r = .int .i64 code ∧ Hid (GotP (∀ x ∈ YS, mayS x = true) YS wx gA gn gc code) ∧ Below W1.heap.size W1 wx)
  case first =>
    go_wp2_with fail
    refine hf.mono ?_
    rintro e W2 ⟨hb2, ⟨FA, Fn, Fc, FE⟩, rfl, hfs, hfo⟩
    have hfl := hfo.lie
    have hfn : Fn ≤ 60 := by
      have h1 := hfl.slen
      rw [hfs] at h1
      have h2 := HY60.out
      simp only at h1
      omega
    have hst := msort_any ⟨FA, Fn, Fc, FE⟩ W2.heap.size W2 hfl (Nat.le_refl _) (by show Fn ≤ 1048576; omega)
    rw [hfs] at hst
    have HB2 := Lib.hid hb2
    clear hf hb2 hfs hfo hfl hfn
    go_wp2_with fail
    refine hst.mono ?_
    rintro e W3 hh
    obtain ⟨hb3, gA, gn, gc, code, rfl, hg⟩ := hh.got
    have HG := Lib.hid hg
    have hb13 := bel_next HB2.out hb3
    clear hst hh hg hb3
    go_wp2_with fail
    go_meet
    case rel => exact ⟨_, _, _, _, rfl, rfl, HG, hb13⟩
  case rest =>
    obtain ⟨gA, gn, gc, code, rfl, rfl, HG, hb2⟩ := hcut
    clear hf
    obtain ⟨W2, hW2⟩ : ∃ W2, W2 = wc := ⟨_, rfl⟩
    rw [← hW2] at HG hb2 ⊢
    clear hW2
    have hb02 := bel_next hb1 hb2
    have hso := HSo.out W2 hb02
    clear hb1 hb2
    go_upto_region 4 with fail
    go_cut [7, 8] (fun p r wx => ∃ (aA : Option Addr) (an ac : Nat) (code2 : Int), p = .slice aA an ac ∧ r = .int .i64 code2 ∧ Hid (GotP (∀ s ∈ SR, RightS s) SR.flatten wx aA an ac code2) ∧ Below W2.heap.size W2 wx)
    case first =>
      go_wp2_with fail
      refine hso.mono ?_
      rintro e W3 ⟨hb3, A, n, c, L, rfl, hLs, hO⟩
      obtain ⟨hqn, i1, i2, i3, HR, hSs⟩ := HTake.out W3 _ A n c L hLs hO
      have i4 : (0 : Int) ≤ (q : Int) := by omega
      have hmg := HR.out.merge (by omega)
      rw [hSs] at hmg
      have HB3 := Lib.hid hb3
      clear hso hLs hO HR hSs hb3 hqn
      by_cases hmn : 8 < n0
      · have hrr : q = 8 := by have := HQ.out; omega
        subst hrr
        go_wp2_with fail
        (with_reducible refine hmg.mono ?_)
        rintro e W4 hh
        obtain ⟨hb4, gA2, gn2, gc2, code2, rfl, hg⟩ := hh.got
        have HG2 := Lib.hid hg
        have hb24 := bel_next HB3.out hb4
        clear hmg hh hg hb4
        go_wp2_with fail
        go_meet
        case rel => exact ⟨_, _, _, _, rfl, rfl, HG2, hb24⟩
      · have hrr : n0 = q := by have := HQ.out; omega
        subst hrr
        go_wp2_with fail
        (with_reducible refine hmg.mono ?_)
        rintro e W4 hh
        obtain ⟨hb4, gA2, gn2, gc2, code2, rfl, hg⟩ := hh.got
        have HG2 := Lib.hid hg
        have hb24 := bel_next HB3.out hb4
        clear hmg hh hg hb4
        go_wp2_with fail
        go_meet
        case rel => exact ⟨_, _, _, _, rfl, rfl, HG2, hb24⟩
    case rest =>
      obtain ⟨aA, an, ac, code2, rfl, rfl, HG2, hb3⟩ := hcut
      clear hso
      obtain ⟨W3, hW3⟩ : ∃ W3, W3 = wc := ⟨_, rfl⟩
      rw [← hW3] at HG2 hb3 ⊢
      clear hW3
      have hb03 := bel_next hb02 hb3
      have HG1 := Lib.hid (HG.out.next hb3)
      clear HG hb02 hb3
      rcases HG1.out with ⟨-, rfl, rfl⟩ | ⟨-, hlong, -⟩ | ⟨hp, -, rfl, FE, hFs, hFl⟩
      · clear HG1 HG2
        go_wp2
        go_ret
        exact ⟨rfl, hb03⟩
      · exact absurd hlong (Nat.not_lt.2 (Nat.le_trans (len_sortE _) (Nat.le_trans HY60.out (by decide))))
      rcases HG2.out with ⟨-, rfl, rfl⟩ | ⟨-, hlong, -⟩ | ⟨hp2, -, rfl, AE, hAs, hAl⟩
      · clear HG1 HG2 hp hFs hFl
        go_wp2
        go_ret
        exact ⟨rfl, hb03⟩
      · exact absurd hlong (Nat.not_lt.2 (Nat.le_trans (len_sortE _) (Nat.le_trans HF8.out (by decide))))
      have HP2 := Lib.hid hp2
      have HAs := Lib.hid hAs
      have HAl := Lib.hid hAl
      obtain ⟨FS, hFS⟩ : ∃ FS, sortE YS = FS := ⟨_, rfl⟩
      have HFr : Hid (RightS FS) := Lib.hid (by rw [← hFS]; exact rightS_sort hp)
      have HF6 : Hid (FS.length ≤ 60) := Lib.hid (by rw [← hFS]; exact Nat.le_trans (len_sortE _) HY60.out)
      rw [hFS] at hFs
      have hgn : gn ≤ 60 := by
        have h1 := hFl.slen
        rw [hFs] at h1
        have h2 := HF6.out
        simp only at h1
        omega
      have han : an ≤ 480 := by
        have h1 := hAl.slen
        rw [hAs] at h1
        have h2 := Nat.le_trans (len_sortE _) HF8.out
        simp only at h1
        omega
      have HAN := Lib.hid han
      have hdn := mdone_any ⟨none, 0, 0, []⟩ ⟨gA, gn, gc, FE⟩ W3.heap.size W3 (itLie_none W3) hFl (Nat.le_refl _) (by decide) (by show gn ≤ 1048576; omega)
      rw [hFs, show IsT.s ⟨none, 0, 0, []⟩ = [] from rfl] at hdn
      clear HG1 HG2 hp hp2 hFs hFl hAs hAl hFS hgn han
      go_upto_region 7 with fail
      go_cut [6, 9] (fun r p wx => ∃ (A : Option Addr) (n c : Nat) (E : List ItT), p = .slice A n c ∧ r = .int .i64 0 ∧ Hid (IsT.s ⟨A, n, c, E⟩ = doneR [] FS) ∧ Hid (IsT.Lie wx wx.heap.size ⟨A, n, c, E⟩) ∧ Below W3.heap.size W3 wx)
      case first =>
        go_wp2_with fail
        refine hdn.mono ?_
        rintro e W4 hh
        obtain ⟨hb4, A, n, c, E, rfl, hs, hl⟩ := hh.got HFr.out .nil
        have Hs := Lib.hid hs
        have Hl := Lib.hid hl
        clear hdn hh hs hl
        go_wp2_with fail
        go_meet
        case rel => exact ⟨_, _, _, _, rfl, rfl, Hs, Hl, hb4⟩
      case rest =>
        obtain ⟨wA, wn, wcp, WE, rfl, rfl, HWs, HWl, hb4⟩ := hcut
        clear hdn
        obtain ⟨W4, hW4⟩ : ∃ W4, W4 = wc := ⟨_, rfl⟩
        rw [← hW4] at HWl hb4 ⊢
        clear hW4
        have hb04 := bel_next hb03 hb4
        have HA4 := Lib.hid (HAl.out.next hb4)
        have hso := HSo.out W4 hb04
        clear hb03 hb4 HAl
        obtain ⟨WS, hWS⟩ : ∃ WS, doneR [] FS = WS := ⟨_, rfl⟩
        rw [hWS] at HWs
        have HWi : Hid (IncI WS) := Lib.hid (by rw [← hWS]; exact incI_doneR _ _ .nil)
        have HW6 : Hid (WS.length ≤ 60) := Lib.hid (by
          have h1 := len_doneR FS []
          rw [hWS, List.length_nil, Nat.zero_add] at h1
          exact Nat.le_trans h1 HF6.out)
        clear hWS
        go_upto_region 11 with fail
        go_cut [57, 58, 59] (fun p r s wx => ∃ (A : Option Addr) (c : Nat) (L : List EsT), p = .slice A q c ∧ r = .int .i64 q ∧ s = .int .i64 0 ∧ Hid (RowsAt wx A q c L) ∧ Hid (L.map EsT.s = SR) ∧ Below W4.heap.size W4 wx)
        case first =>
          go_wp2_with fail
          refine hso.mono ?_
          rintro e W5 ⟨hb5, A, n, c, L, rfl, hLs, hO⟩
          obtain ⟨hqn, i1, i2, i3, HR, hSs⟩ := HTake.out W5 _ A n c L hLs hO
          have i4 : (0 : Int) ≤ (q : Int) := by omega
          have HSs := Lib.hid hSs
          clear hso hLs hO hSs hqn
          by_cases hmn : 8 < n0
          · have hrr : q = 8 := by have := HQ.out; omega
            subst hrr
            go_wp2
            go_meet
            case rel => exact ⟨A, c, _, rfl, rfl, rfl, HR, HSs, hb5⟩
          · have hrr : n0 = q := by have := HQ.out; omega
            subst hrr
            go_wp2
            go_meet
            case rel => exact ⟨A, c, _, rfl, rfl, rfl, HR, HSs, hb5⟩
        case rest =>
          obtain ⟨A, c, L, rfl, rfl, rfl, HR, HSs, hb5⟩ := hcut
          clear hso
          obtain ⟨W5, hW5⟩ : ∃ W5, W5 = wc := ⟨_, rfl⟩
          rw [← hW5] at HR hb5 ⊢
          clear hW5
          have hb05 := bel_next hb04 hb5
          have HA5 := Lib.hid (HA4.out.next hb5)
          have HW5 := Lib.hid (HWl.out.next hb5)
          clear hb04 hb5 HA4 HWl
          go_wp2_with fail
          go_loopw [6, 10, 59] (fun r p s wr => ∃ (i : Nat) (A : Option Addr) (n c : Nat) (E : List ItT), p = .slice A n c ∧ r = .int .i64 0 ∧ s = .int .i64 i ∧ i ≤ q ∧ Hid (IsT.s ⟨A, n, c, E⟩ = doneR WS (SR.take i).flatten) ∧ Hid (IsT.Lie wr wr.heap.size ⟨A, n, c, E⟩) ∧ Hid (Below W5.heap.size W5 wr)) (fun _ _ s _ => q - (intOf s).toNat)
          case atStart => exact ⟨0, wA, wn, wcp, WE, rfl, rfl, rfl, Nat.zero_le _, HWs, HW5, Lib.hid (Below.refl _ _)⟩
          case round =>
            obtain ⟨i, zA, zn, zc, ZE, rfl, rfl, rfl, hi, HZs, HZl, HBr⟩ := hrel
            have HZi : Hid (IncI (doneR WS (SR.take i).flatten)) := Lib.hid (incI_doneR _ _ HWi.out)
            by_cases hin : i < q
            · obtain ⟨b, off, Y, hA, hbb, hY, x0⟩ := es_at (HR.out.row.below HBr.out) hin
              have hlie := (HR.out.all Y (List.mem_of_getElem? hY)).later HBr.out
              have hYs : Y.s ∈ SR := by rw [← HSs.out]; exact List.mem_map_of_mem (List.mem_of_getElem? hY)
              have hY60 := HS60.out _ hYs
              rw [hlie.slen] at hY60
              have hzn : zn ≤ 540 := by
                have h1 := HZl.out.slen
                rw [HZs.out] at h1
                have h2 := len_doneR (SR.take i).flatten WS
                have h3 := HF.out i
                have h4 := HW6.out
                simp only at h1
                omega
              have hdn := mdone_any ⟨zA, zn, zc, ZE⟩ Y wr.heap.size wr HZl.out (hlie.more HBr.out.size) (Nat.le_refl _) (by show zn ≤ 1048576; omega) (by omega)
              rw [HZs.out] at hdn
              have HTk : Hid (doneR (doneR WS (SR.take i).flatten) Y.s = doneR WS (SR.take (i + 1)).flatten) := Lib.hid (by
                have h1 : SR[i]? = some Y.s := by rw [← HSs.out, List.getElem?_map, hY]; rfl
                rw [List.take_add_one, h1, List.flatten_append, doneR_append]
                show _ = doneR _ ([Y.s] : List (List EdS)).flatten
                rw [List.flatten_cons, List.flatten_nil, List.append_nil])
              have HYr := Lib.hid (HP2.out _ hYs)
              have hin' : (i : Int) < (q : Int) := by omega
              have w3 : wrap64 ((i : Int) + 1) = ((i + 1 : Nat) : Int) := by unfold wrap64; omega
              have HIN := Lib.hid hin
              subst hA
              clear hbb hY hlie hYs hY60 hzn hi hin
              go_wp2_with fail
              refine hdn.mono ?_
              rintro e W6 hh
              obtain ⟨hb6, A6, n6, c6, E6, rfl, hs6, hl6⟩ := hh.got HYr.out HZi.out
              have Hs6 := Lib.hid (hs6.trans HTk.out)
              have Hl6 := Lib.hid hl6
              have HB6 := Lib.hid (bel_next HBr.out hb6)
              clear hdn hh hs6 hl6 hb6
              go_wp2_with fail
              go_roundw
              case rel => exact ⟨i + 1, A6, n6, c6, E6, rfl, rfl, by first | rfl | go_num, HIN.out, Hs6, Hl6, HB6⟩
              case measure =>
                have h := HIN.out
                show q - ((i : Int) + 1).toNat < q - ((i : Nat) : Int).toNat
                rw [show ((i : Int) + 1).toNat = i + 1 from by rw [← Int.toNat_natCast (i + 1)]; rfl, Int.toNat_natCast]
                exact Nat.sub_lt_sub_left h (Nat.lt_succ_self i)
            · have hiq : i = q := by omega
              have hin' : ¬ (i : Int) < (q : Int) := by omega
              have HAr := Lib.hid (HA5.out.next HBr.out)
              have HWr := Lib.hid (HW5.out.next HBr.out)
              have hwn : wn ≤ 60 := by
                have h1 := HWr.out.slen
                rw [HWs.out] at h1
                have h4 := HW6.out
                simp only at h1
                omega
              have hdn := mdone_any ⟨wA, wn, wcp, WE⟩ ⟨aA, an, ac, AE⟩ wr.heap.size wr HWr.out HAr.out (Nat.le_refl _) (by show wn ≤ 1048576; omega) (by show an ≤ 1048576; have := HAN.out; omega)
              rw [HWs.out, HAs.out] at hdn
              have HDs : Hid (doneR WS (sortE SR.flatten) = doneR WS SR.flatten) := Lib.hid (doneR_sortE HWi.out _)
              have HAr2 : Hid (RightS (sortE SR.flatten)) := Lib.hid (rightS_sort (fun x hx => by
                obtain ⟨l, hl, hxl⟩ := List.mem_flatten.1 hx
                exact (HP2.out l hl).1 x hxl))
              have HZq : Hid (IsT.s ⟨zA, zn, zc, ZE⟩ = doneR WS SR.flatten) := Lib.hid (by
                rw [HZs.out, hiq, List.take_of_length_le (Nat.le_of_eq HSq.out)])
              have hb0r := bel_next hb05 HBr.out
              clear hwn HA5 HW5 HZi hi hin HZs
              subst hiq
              go_wp2_with fail
              refine hdn.mono ?_
              rintro e W6 hh
              obtain ⟨hb6, A6, n6, c6, E6, rfl, hs6, hl6⟩ := hh.got HAr2.out HWi.out
              have HZ6 := Lib.hid (HZl.out.next hb6)
              have hse := sameI_any ⟨zA, zn, zc, ZE⟩ ⟨A6, n6, c6, E6⟩ W6.heap.size W6 HZ6.out hl6 (Nat.le_refl _)
              have HEq : Hid (IsT.s ⟨zA, zn, zc, ZE⟩ = IsT.s ⟨A6, n6, c6, E6⟩) := Lib.hid (HZq.out.trans (hs6.trans HDs.out).symm)
              have hb06 := bel_next hb0r hb6
              clear hdn hh hs6 hl6 hb6 hb0r
              go_wp2_with fail
              refine hse.mono ?_
              rintro e W7 ⟨z, rfl, hz, hb7⟩
              have hzt : z = true := hz.2 HEq.out
              subst hzt
              have hb07 := bel_next hb06 hb7
              clear hse hz hb06 hb7
              go_wp2
              go_ret
              exact ⟨rfl, hb07⟩
end Go.Proofs.Ytkbcgcokokddlaa
