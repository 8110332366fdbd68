import Derived.Test.YtkbcgcokokddlaaVMergeDoes
/-
  The law MergeRows, walked.
-/
namespace Go.Proofs.Ytkbcgcokokddlaa
open Go.RowKit
set_option linter.unusedVariables false
set_option linter.unusedSimpArgs false

/-- What merging came to, as it lies. -/
def GotP (p : Prop) (l : List EdS) (W : World) (A : Option Addr) (n c : Nat) (code : Int) : Prop :=
  (¬ p ∧ n = 0 ∧ code = 250) ∨ (p ∧ 512 < (sortE l).length ∧ n = 0 ∧ code = 3) ∨ (p ∧ (sortE l).length ≤ 512 ∧ code = 0 ∧ ∃ E, (⟨A, n, c, E⟩ : EsT).s = sortE l ∧ (⟨A, n, c, E⟩ : EsT).Lie W W.heap.size)
theorem GotP.next {p : Prop} {l : List EdS} {W W' : World} {A : Option Addr} {n c : Nat} {code : Int} (h : GotP p l W A n c code) (hb : Below W.heap.size W W') : GotP p l W' A n c code :=
  h.imp id (fun h => h.imp id (fun ⟨h1, h2, h3, E, h4, h5⟩ => ⟨h1, h2, h3, E, h4, h5.next hb⟩))
theorem SrtP.got {p : Prop} {l : List EdS} {W W' : World} {e : Ending} (h : SrtP p l W e W') : Below W.heap.size W W' ∧ ∃ (A : Option Addr) (n c : Nat) (code : Int), e = .returned (.tuple #[.slice A n c, .int .i64 code]) ∧ GotP p l W' A n c code := by
  obtain ⟨hb, h | h | ⟨h1, h2, ⟨A, n, c, E⟩, h3, h4, h5⟩⟩ := h
  · exact ⟨hb, none, 0, 0, 250, h.2, .inl ⟨h.1, rfl, rfl⟩⟩
  · exact ⟨hb, none, 0, 0, 3, h.2.2, .inr (.inl ⟨h.1, h.2.1, rfl, rfl⟩)⟩
  · exact ⟨hb, A, n, c, 0, h3, .inr (.inr ⟨h1, h2, rfl, E, h4, h5⟩)⟩
theorem some_each {L : List EsT} {LL : List (List EdS)} (h : L.map EsT.s = someS LL) {X : EsT} (hX : X ∈ L) : X.s.length ≤ 60 := by
  have h1 : X.s ∈ someS LL := by rw [← h]; exact List.mem_map_of_mem hX
  unfold someS at h1
  obtain ⟨l, -, h2⟩ := List.mem_map.1 h1
  rw [← h2]
  exact few_len l 60
theorem some_len {L : List EsT} {LL : List (List EdS)} (h : L.map EsT.s = someS LL) : L.length ≤ 12 := by
  have h1 := congrArg List.length h
  unfold someS at h1
  rw [List.length_map, List.length_map, List.length_take] at h1
  omega
set_option maxRecDepth 20000 in
set_option maxHeartbeats 4000000 in
theorem mergeRows_walk (w : World) (A0 : Option Addr) (n0 c0 : Nat) (L0 : List EsT) (hS : Shows w w.heap.size 1 A0 n0 (L0.map EsT.val)) (hL : ∀ X ∈ L0, X.Lie w w.heap.size) (hfit : n0 ≤ c0) (hmax : c0 ≤ maxLen) :
    Calls Try.prog 5 #[.slice A0 n0 c0] w fun e w' => e = .returned (.bool true) ∧ Below w.heap.size w w' := by
  have HSo : Hid (∀ W, Below w.heap.size w W → Calls Try.prog 20 #[.slice A0 n0 c0] W (SomP (someS (L0.map EsT.s)) W)) := Lib.hid (fun W h => msome_any A0 n0 c0 w.heap.size L0 W (hS.below h) (fun X hX => (hL X hX).later h) h.size hfit hmax)
  clear hS hL hfit hmax
  obtain ⟨LL, hLL⟩ : ∃ LL, L0.map EsT.s = LL := ⟨_, rfl⟩
  rw [hLL] at HSo
  clear hLL
  go_enter Try.func5, Try.ntmps5
  go_wp2_with fail
  refine (mwakes_any _).mono ?_
  rintro e W1 ⟨rfl, hb1⟩
  have hso := HSo.out W1 hb1
  go_wp2_with fail
  refine hso.mono ?_
  rintro e W2 ⟨hb2, A, n, c, L, rfl, hLs, hO⟩
  have hb02 := bel_next hb1 hb2
  have hsh := hO.shows
  have hlie := fun X hX => (hO.all X hX).lie
  have hn12 := some_len hLs
  have hlen := hO.len
  have hmg := mmerge_any A n c W2.heap.size L W2 hsh hlie (Nat.le_refl _) (by omega)
  have HLS := Lib.hid hLs
  have HLen := Lib.hid hlen
  have HN12 := Lib.hid hn12
  have HSh := Lib.hid hsh
  have HLi := Lib.hid hlie
  clear hso hLs hO hsh hlie hn12 hlen hb1 hb2
  go_upto_region 4 with fail
  go_cut [4, 5] (fun p q wx => ∃ (gA : Option Addr) (gn gc : Nat) (code : Int), p = .slice gA gn gc ∧ q = .int .i64 code ∧ Hid (GotP (∀ s ∈ L.map EsT.s, RightS s) (L.map EsT.s).flatten wx gA gn gc code) ∧ Below W2.heap.size W2 wx)
  case first =>
    go_wp2_with fail
    refine hmg.mono ?_
    rintro e W3 hh
    obtain ⟨hb3, gA, gn, gc, code, rfl, hg⟩ := hh.got
    have HG := Lib.hid hg
    clear hmg hh hg
    go_wp2_with fail
    go_meet
    case rel => exact ⟨_, _, _, _, rfl, rfl, HG, hb3⟩
  case rest =>
    obtain ⟨gA, gn, gc, code, rfl, rfl, HG, hb3⟩ := hcut
    clear hmg
    obtain ⟨W3, hW3⟩ : ∃ W3, W3 = wc := ⟨_, rfl⟩
    rw [← hW3] at HG hb3 ⊢
    clear hW3
    have hb03 := bel_next hb02 hb3
    have HSh3 := Lib.hid ((HSh.out.below hb3).more hb3.size)
    have HLi3 : Hid (∀ X ∈ L, X.Lie W3 W3.heap.size) := Lib.hid (fun X hX => (HLi.out X hX).next hb3)
    clear hb02 hb3 HSh HLi
    go_upto_block 0 with fail
    go_cut [6] (fun p wx => ∃ (aA : Option Addr) (aN ac : Nat) (aE : List EdT), p = .slice aA aN ac ∧ Hid (∀ X ∈ L, RightS X.s) ∧ Hid (aE.map EdT.s = (L.map EsT.s).flatten) ∧ aN ≤ 720 ∧ Hid (OwnE wx W3.heap.size W3.heap.size ⟨aA, aN, ac, aE⟩) ∧ Below W3.heap.size W3 wx)
    case first =>
      go_wp2_with fail
      go_loopw [6, 23] (fun p s wr => ∃ (i : Nat) (aA : Option Addr) (aN ac : Nat) (aE : List EdT), p = .slice aA aN ac ∧ s = .int .i64 i ∧ i ≤ n ∧ Hid (∀ X ∈ L.take i, RightS X.s) ∧ Hid (aE.map EdT.s = ((L.take i).map EsT.s).flatten) ∧ aN ≤ i * 60 ∧ Hid (OwnE wr W3.heap.size W3.heap.size ⟨aA, aN, ac, aE⟩) ∧ Below W3.heap.size W3 wr) (fun _ s _ => n - (intOf s).toNat)
      case atStart => exact ⟨0, none, 0, 0, [], rfl, rfl, Nat.zero_le _, Lib.hid nofun, Lib.hid rfl, Nat.le_refl _, Lib.hid (OwnE.none _ _ _), Below.refl _ _⟩
      case round =>
        obtain ⟨i, aA, aN, ac, aE, rfl, rfl, hi, HR, HE, hle, HO, hbr⟩ := hrel
        by_cases hin : i < n
        · obtain ⟨b, off, X, hA, hbb, hX, x0⟩ := es_at (HSh3.out.below hbr) hin
          have hlie := (HLi3.out X (List.mem_of_getElem? hX)).later hbr
          have hri := rright_any X W3.heap.size wr hlie hbr.size
          have hX60 := some_each HLS.out (List.mem_of_getElem? hX)
          rw [hlie.slen] at hX60
          have hin' : (i : Int) < (n : Int) := by omega
          have w3 : wrap64 ((i : Int) + 1) = ((i + 1 : Nat) : Int) := by unfold wrap64; have := HN12.out; have := HLen.out; omega
          have HXX := Lib.hid hX
          have HIN := Lib.hid hin
          have HXL := Lib.hid hlie
          have HX60 := Lib.hid hX60
          subst hA
          clear hbb hX hlie hi hin hX60
          go_wp2_with fail
          refine hri.mono ?_
          rintro e w1 ⟨z, rfl, hz, hb1⟩
          have HZ := Lib.hid hz
          have hb2 := hbr.trans (hb1.mono hbr.size)
          have hb04 := bel_next hb03 hb2
          have HO1 := Lib.hid (HO.out.later hbr.size hb1)
          have HXL1 := Lib.hid (HXL.out.later (hb1.mono hbr.size))
          clear hri hz hb1 HXL HO
          cases z
          · have hcase : gn = 0 ∧ code = 250 := by
              rcases HG.out with h | h | h
              · exact h.2
              · exact absurd (HZ.out.2 (h.1 X.s (List.mem_map_of_mem (List.mem_of_getElem? HXX.out)))) (by simp)
              · exact absurd (HZ.out.2 (h.1 X.s (List.mem_map_of_mem (List.mem_of_getElem? HXX.out)))) (by simp)
            obtain ⟨rfl, rfl⟩ := hcase
            clear hbr hb2 x0
            go_wp2
            go_ret
            exact ⟨rfl, hb04⟩
          · obtain ⟨i0, hi0, hz0, hz1, hz2⟩ := edit_info
            have HXr : Hid (RightS X.s) := Lib.hid (HZ.out.1 (by first | trivial | rfl))
            have hs1 := HXL1.out.row
            have h1c := cells_ed1 X.E
            have hown := HO1.out.row
            have hleX := HXL1.out.len
            have hX60' := HX60.out
            have hil := HN12.out
            have hil2 := HLen.out
            have hil3 := HIN.out
            have g1 : aN + X.n ≤ maxLen := by unfold maxLen; omega
            have g2 : (aN + X.n) * 72 ≤ 140737488355328 := by omega
            have g3 := hb2.size
            clear hbr hb04 hleX hX60' hil hil2 hil3
            go_wp2_with (at_builtin; refine wpList_append_shows _ rfl _ _ 22 rfl W3.heap.size 49 i0 (.agg #[.slice none 0 0, .bool false, .slice none 0 0, .bool false, .int .i64 0]) 5 72 Try.underlying22 hi0 hz0 hz1 hz2 rfl (by decide) _ _ _ rfl hown W3.heap.size _ X.n _ _ rfl hs1 h1c g1 g2 g3 ?_; intro A7 c7 w7 hown7 hgrow7 hb7; have HO7 := Lib.hid hown7; have HB7 := Lib.hid hb7; clear hown7 hgrow7 hb7 hown hs1 g1 g2 g3 h1c)
            have HOZ : Hid (OwnE w7 W3.heap.size W3.heap.size ⟨A7, aN + X.n, c7, aE ++ X.E⟩) := Lib.hid (by
              refine ⟨?_, fun y hy => ?_⟩
              · show w7.ownsRow _ _ 5 (.slice A7 (aN + X.n) c7) (aN + X.n) ((aE ++ X.E).flatMap EdT.cells)
                rw [List.flatMap_append]
                exact HO7.out
              · rcases List.mem_append.1 hy with hy | hy
                · exact (HO1.out.all y hy).later HB7.out
                · exact (HXL1.out.all y hy).later HB7.out)
            have htk : L.take (i + 1) = L.take i ++ [X] := by rw [List.take_add_one, HXX.out]; rfl
            have HR7 : Hid (∀ Y ∈ L.take (i + 1), RightS Y.s) := Lib.hid (fun Y hY => by
              rw [htk] at hY
              rcases List.mem_append.1 hY with hY | hY
              · exact HR.out Y hY
              · rw [List.mem_singleton.1 hY]
                exact HXr.out)
            have HE7 : Hid ((aE ++ X.E).map EdT.s = ((L.take (i + 1)).map EsT.s).flatten) := Lib.hid (by
              rw [htk, List.map_append, List.map_append, List.flatten_append, HE.out]
              show _ ++ X.s = _ ++ ([X.s] : List (List EdS)).flatten
              rw [List.flatten_cons, List.flatten_nil, List.append_nil])
            have HB8 := Lib.hid (hb2.trans HB7.out)
            have HL7 : Hid (aN + X.n ≤ (i + 1) * 60) := Lib.hid (by have := HX60.out; omega)
            clear htk hb2 x0
            go_roundw
            case rel => exact ⟨i + 1, A7, aN + X.n, c7, aE ++ X.E, rfl, by first | rfl | go_num, HIN.out, HR7, HE7, HL7.out, HOZ, HB8.out⟩
            case measure =>
              have h := HIN.out
              rw [w3]
              show n - ((i + 1 : Nat) : Int).toNat < n - ((i : Nat) : Int).toNat
              rw [Int.toNat_natCast, Int.toNat_natCast]
              exact Nat.sub_lt_sub_left h (Nat.lt_succ_self i)
        · have e : i = n := by omega
          subst e
          have hin' : ¬ (i : Int) < (i : Int) := by omega
          have htk : L.take i = L := List.take_of_length_le (Nat.le_of_eq HLen.out)
          have HR2 : Hid (∀ X ∈ L, RightS X.s) := Lib.hid (by have h := HR.out; rw [htk] at h; exact h)
          have HE2 : Hid (aE.map EdT.s = (L.map EsT.s).flatten) := Lib.hid (by have h := HE.out; rw [htk] at h; exact h)
          have hle2 : aN ≤ 720 := by have := HN12.out; have := HLen.out; omega
          clear hin hi htk hle
          go_wp2_with fail
          go_meet
          case rel => exact ⟨aA, aN, ac, aE, rfl, HR2, HE2, hle2, HO, hbr⟩
    case rest =>
      obtain ⟨aA, aN, ac, aE, rfl, HR, HE, hle, HO, hb4⟩ := hcut
      obtain ⟨W4, hW4⟩ : ∃ W4, W4 = wc := ⟨_, rfl⟩
      rw [← hW4] at HO hb4 ⊢
      clear hW4
      have hb04 := bel_next hb03 hb4
      have HG4 := Lib.hid (HG.out.next hb4)
      have HSh4 := Lib.hid ((HSh3.out.below hb4).more hb4.size)
      have HLi4 : Hid (∀ X ∈ L, X.Lie W4 W4.heap.size) := Lib.hid (fun X hX => (HLi3.out X hX).next hb4)
      have hrs := rsort_any ⟨aA, aN, ac, aE⟩ W4.heap.size W4 (HO.out.lie hb4.size) (Nat.le_refl _) (by show aN ≤ 1048576; omega)
      rw [show EsT.s ⟨aA, aN, ac, aE⟩ = (L.map EsT.s).flatten from HE.out] at hrs
      have HPr : Hid (∀ s ∈ L.map EsT.s, RightS s) := Lib.hid (fun s hs => by
        obtain ⟨X, hX, rfl⟩ := List.mem_map.1 hs
        exact HR.out X hX)
      clear hb03 hb4 HG HSh3 HLi3 HO
      go_wp2_with fail
      refine hrs.mono ?_
      rintro e W5 ⟨hb5, ⟨RA, Rn, Rc, RE⟩, rfl, hRs, hRl⟩
      have hb05 := bel_next hb04 hb5
      have HG5 := Lib.hid (HG4.out.next hb5)
      have HSh5 := Lib.hid ((HSh4.out.below hb5).more hb5.size)
      have HLi5 : Hid (∀ X ∈ L, X.Lie W5 W5.heap.size) := Lib.hid (fun X hX => (HLi4.out X hX).next hb5)
      have hRn := hRl.slen
      rw [hRs] at hRn
      simp only at hRn
      have HRs := Lib.hid hRs
      have HRl := Lib.hid hRl
      clear hrs hRs hRl hb04 hb5 HG4 HSh4 HLi4
      rcases HG5.out with ⟨hno, -⟩ | ⟨-, hlong, rfl, rfl⟩ | ⟨-, hshort, rfl, GE, hGs, hGl⟩
      · exact absurd HPr.out hno
      · have hgt : (512 : Int) < (Rn : Int) := by omega
        clear hRn hlong
        go_wp2
        go_ret
        exact ⟨rfl, hb05⟩
      · have hgt : ¬ (512 : Int) < (Rn : Int) := by omega
        have hse := sameE_any ⟨gA, gn, gc, GE⟩ ⟨RA, Rn, Rc, RE⟩ W5.heap.size W5 hGl HRl.out (Nat.le_refl _)
        have HEq : Hid (EsT.s ⟨gA, gn, gc, GE⟩ = EsT.s ⟨RA, Rn, Rc, RE⟩) := Lib.hid (hGs.trans HRs.out.symm)
        clear hRn hshort hGs hGl
        go_wp2_with fail
        refine hse.mono ?_
        rintro e W6 ⟨z, rfl, hz, hb6⟩
        have hzt : z = true := hz.2 HEq.out
        subst hzt
        have hb06 := bel_next hb05 hb6
        have HSh6 := Lib.hid ((HSh5.out.below hb6).more hb6.size)
        have HLi6 : Hid (∀ X ∈ L, X.Lie W6 W6.heap.size) := Lib.hid (fun X hX => (HLi5.out X hX).next hb6)
        have hso := HSo.out W6 hb06
        clear hse hz hb05 hb6 HSh5 HLi5 HG5
        go_wp2_with fail
        refine hso.mono ?_
        rintro e W7 ⟨hb7, A2, n2, c2, L2, rfl, hLs2, hO2⟩
        have hb07 := bel_next hb06 hb7
        have HSh7 := Lib.hid ((HSh6.out.below hb7).more hb7.size)
        have HLi7 : Hid (∀ X ∈ L, X.Lie W7 W7.heap.size) := Lib.hid (fun X hX => (HLi6.out X hX).next hb7)
        have HS2 := Lib.hid hO2.shows
        have HL2 : Hid (∀ X ∈ L2, X.Lie W7 W7.heap.size) := Lib.hid (fun X hX => (hO2.all X hX).lie)
        have HMap : Hid (L.map EsT.s = L2.map EsT.s) := Lib.hid (HLS.out.trans hLs2.symm)
        have hnn : n2 = n := by
          have h1 := congrArg List.length HMap.out
          rw [List.length_map, List.length_map, HLen.out, hO2.len] at h1
          exact h1.symm
        subst hnn
        have hn12 : n2 ≤ 12 := by have := HN12.out; have := HLen.out; omega
        clear hso hLs2 hO2 hb06 hb7 HSh6 HLi6
        go_wp2_with fail
        go_loopw [64] (fun s wr => ∃ i : Nat, s = .int .i64 i ∧ i ≤ n2 ∧ Below W7.heap.size W7 wr) (fun s _ => n2 - (intOf s).toNat)
        case atStart => exact ⟨0, rfl, Nat.zero_le _, Below.refl _ _⟩
        case round =>
          obtain ⟨i, rfl, hi, hbr⟩ := hrel
          by_cases hin : i < n2
          · obtain ⟨b, off, X, hA, hbb, hX, x0⟩ := es_at (HSh7.out.below hbr) hin
            obtain ⟨b2, off2, Y, hA2, hbb2, hY, y0⟩ := es_at (HS2.out.below hbr) hin
            have hse := sameE_any X Y W7.heap.size wr ((HLi7.out X (List.mem_of_getElem? hX)).later hbr) ((HL2.out Y (List.mem_of_getElem? hY)).later hbr) hbr.size
            have HEq2 : Hid (X.s = Y.s) := Lib.hid (by
              have h1 : (L.map EsT.s)[i]? = (L2.map EsT.s)[i]? := by rw [HMap.out]
              rw [List.getElem?_map, List.getElem?_map, hX, hY] at h1
              exact Option.some.inj h1)
            have hin' : (i : Int) < (n2 : Int) := by omega
            have w3 : wrap64 ((i : Int) + 1) = ((i + 1 : Nat) : Int) := by unfold wrap64; omega
            have HIN := Lib.hid hin
            subst hA hA2
            clear hbb hbb2 hX hY hi hin
            go_wp2_with fail
            refine hse.mono ?_
            rintro e w1 ⟨z, rfl, hz, hb1⟩
            have hzt : z = true := hz.2 HEq2.out
            subst hzt
            have hb2 := hbr.trans (hb1.mono hbr.size)
            clear hse hz hb1 x0 y0 hbr
            go_wp2_with fail
            go_roundw
            case rel => exact ⟨i + 1, by first | rfl | go_num, HIN.out, hb2⟩
            case measure => have := HIN.out; simp [intOf]; omega
          · have e : i = n2 := by omega
            subst e
            have hin' : ¬ (i : Int) < (i : Int) := by omega
            have hbz := bel_next hb07 hbr
            clear hin hi hbr hb07
            go_wp2
            go_ret
            exact ⟨rfl, hbz⟩
end Go.Proofs.Ytkbcgcokokddlaa
