/-
  ValueOrders: an object does not depend on the order of its pairs, and returns each of them: the walk.
-/
import Derived.Test.YtnldiemggabdkaaDoorValAC
import Derived.Test.YtnldiemggabdkaaDoorValAA
namespace Go.Proofs.YtnldiemggabdkaaDoor
open Go.RowKit
set_option linter.unusedVariables false

theorem flat_firstP {α : Type} (f : α → List Value) (k : Nat) (hf : ∀ x, (f x).length = k) : ∀ (l : List α) (m : Nat), (l.flatMap f).take (m * k) = (l.take m).flatMap f
  | [], m => by simp
  | x :: l, 0 => by simp
  | x :: l, m + 1 => by
    rw [List.flatMap_cons, List.take_succ_cons, List.flatMap_cons, ← flat_firstP f k hf l m]
    have e : (m + 1) * k = (f x).length + m * k := by rw [hf, Nat.add_mul]; omega
    rw [e, List.take_append, List.take_of_length_le (by omega), Nat.add_sub_cancel_left]
theorem own_noneP {W : World} {b size n c : Nat} {e : TypeId} {A : Option Addr} {xs : List Value} (ho : W.ownsRow b e size (.slice A n c) n xs) : A = none → c = 0 := by
  intro hA
  rcases ho.2 with ⟨e, _⟩ | ⟨g, cap, cur, e, _⟩
  · injection e
  · injection e with e1; rw [hA] at e1; cases e1
/-- What Object tells of pairs. -/
def ResP (L : List PT) (n : Nat) (X : VT) (E : Int) : Prop :=
  (¬ NoTwice L ∧ X = scV 0 0 ⟨#[]⟩ ∧ E = 141) ∨ (NoTwice L ∧ ((obok n (srtP L) = true ∧ (∃ kA kc cA cc, X = obV cA n cc kA kc (srtP L)) ∧ E = 0) ∨ (obok n (srtP L) = false ∧ X = scV 0 0 ⟨#[]⟩ ∧ E = 140)))
theorem object_res (A : Option Addr) (n c : Nat) (L : List PT) (B : Nat) (w : World) (h : Shows w B 6 A n (L.flatMap pCells)) (hA : A = none → c = 0) (hB : B ≤ w.heap.size) (hn : n ≤ 1000)
    (hL : ∀ p ∈ L, Lie w B p.2 ∧ p.1.size ≤ maxLen) (htab : UTab w) (hst : STab w) :
    Calls Tryd.prog 30 #[.slice A n c] w fun e w' => ∃ X E, e = .returned (.tuple #[X.agg, .int .i64 E]) ∧ Hid (ResP L n X E) ∧ Lie w' w'.heap.size X ∧ Below w.heap.size w w' := by
  refine (object_srt A n c L B w h hA hB hn hL htab hst).mono ?_
  rintro e w' ⟨hb, ⟨h1, rfl⟩ | ⟨h1, kA, kc, cA, cc, hLie, ⟨h2, rfl⟩ | ⟨h2, rfl⟩⟩⟩
  · exact ⟨scV 0 0 ⟨#[]⟩, 141, rfl, Lib.hid (.inl ⟨h1, rfl, rfl⟩), lie_sc _ _ _ _ _ (by decide) (by decide) (by decide), hb⟩
  · exact ⟨obV cA n cc kA kc (srtP L), 0, rfl, Lib.hid (.inr ⟨h1, .inl ⟨h2, ⟨_, _, _, _, rfl⟩, rfl⟩⟩), hLie, hb⟩
  · exact ⟨scV 0 0 ⟨#[]⟩, 140, rfl, Lib.hid (.inr ⟨h1, .inr ⟨h2, rfl, rfl⟩⟩), lie_sc _ _ _ _ _ (by decide) (by decide) (by decide), hb⟩

set_option maxRecDepth 20000 in
set_option maxHeartbeats 4000000 in
theorem vorders_any (w : World) (A0 : Option Addr) (n0 c0 : Nat) (l0 : List PT) (turn : Int) (B : Nat) (hB : B ≤ w.heap.size)
    (h0 : Shows w B 6 A0 n0 (l0.flatMap pCells)) (hl0 : ∀ p ∈ l0, Lie w B p.2 ∧ p.1.size ≤ maxLen) (hA0 : A0 = none → c0 = 0) (hc0 : n0 ≤ c0) (hM0 : c0 ≤ maxLen) (htab : UTab w) (hst : STab w) :
    Calls Tryd.prog 7 #[.slice A0 n0 c0, .int .i64 turn] w fun e w' => e = .returned (.bool true) ∧ Below w.heap.size w w' := by
  obtain ⟨iP, hiP, hzP, hsP, hbP⟩ := pair_info
  have HW := vwakes_any w htab hst
  have HTx := Lib.hid (fun W (h : Below w.heap.size w W) => (⟨htab.below h htab.lt, hst.below h hst.lt⟩ : UTab W ∧ STab W))
  obtain ⟨m, hm⟩ : ∃ m, m = min n0 300 := ⟨_, rfl⟩
  have hmi : min (n0 : Int) 300 = (m : Int) := by omega
  have hmj : (if (300 : Int) < (n0 : Int) then (300 : Int) else (n0 : Int)) = (m : Int) := by split <;> omega
  have hmle : m ≤ 300 := by omega
  have hmn : m ≤ n0 := by omega
  have hz1 : (0 : Int) ≤ m := by omega
  have hi1 : (m : Int) ≤ n0 := by omega
  have hj1 : (m : Int) ≤ c0 := by omega
  have hsh : Shows w B 6 A0 m ((l0.take m).flatMap pCells) := by have := h0.first hmn; rwa [flat_firstP pCells 6 pCells_len] at this
  have hlen : (l0.take m).length = m := pairs_len hsh
  have hlie : ∀ p ∈ l0.take m, Lie w B p.2 ∧ p.1.size ≤ maxLen := fun x hx => hl0 x (List.mem_of_mem_take hx)
  generalize l0.take m = L at *
  have HLie := Lib.hid (fun W (h : Below w.heap.size w W) => (fun p hp => ⟨(hlie p hp).1.later (h.mono hB), (hlie p hp).2⟩ : ∀ p ∈ L, Lie W B p.2 ∧ p.1.size ≤ maxLen))
  have Hsh := Lib.hid (fun W (h : Below w.heap.size w W) => hsh.below (h.mono hB))
  have hMx : 300 ≤ maxLen := by decide
  obtain ⟨u, hu⟩ : ∃ u : Nat, IntKind.u64.wrap turn = (u : Int) := ⟨(IntKind.u64.wrap turn).toNat, by
    have : 0 ≤ IntKind.u64.wrap turn := by simp [IntKind.wrap, IntKind.bits, IntKind.signed]; omega
    omega⟩
  have HA0 := Lib.hid hA0
  clear hm h0 hl0 hsh hlie hM0 htab hst hA0
  go_enter Tryd.func7, Tryd.ntmps7
  go_wp2_with fail
  refine HW.mono ?_
  rintro e W1 ⟨rfl, hb1⟩
  clear HW
  have hob := object_res A0 m c0 L B W1 (Hsh.out _ hb1) HA0.out (Nat.le_trans hB hb1.size) (by omega) (HLie.out _ hb1) (HTx.out _ hb1).1 (HTx.out _ hb1).2
  go_wp2_with fail
  refine hob.mono ?_
  rintro e W2 ⟨X, E, rfl, HR, hLX, hb2⟩
  clear hob
  have HLX := Lib.hid hLX
  clear hLX
  obtain ⟨k, n, s, cA, cn, cc, kA, kn, kc, keys, kids⟩ := X
  simp only [VT.agg]
  have hb3 := bel_alloc (bel_next hb1 hb2) (.cells #[.int .i64 k, .int .i64 n, .string s, .slice cA cn cc, .slice kA kn kc] 25)
  have HV := Lib.hid (VFive.new W2 (.int .i64 k) (.int .i64 n) (.string s) (.slice cA cn cc) (.slice kA kn kc) 25 W2.heap.size rfl)
  have hLV := HLX.out.later (bel_alloc (Below.refl W2.heap.size W2) (.cells #[.int .i64 k, .int .i64 n, .string s, .slice cA cn cc, .slice kA kn kc] 25))
  have hW23 : W2.heap.size + 1 = (W2.alloc (.cells #[.int .i64 k, .int .i64 n, .string s, .slice cA cn cc, .slice kA kn kc] 25)).heap.size := (World.size_alloc _ _).symm
  go_upto_region 6 with fail
  generalize (W2.alloc (.cells #[.int .i64 k, .int .i64 n, .string s, .slice cA cn cc, .slice kA kn kc] 25)) = W3 at *
  have h23 : W2.heap.size ≤ W3.heap.size := by omega
  have HLV := Lib.hid (fun W (h : Below W3.heap.size W3 W) => (hLV.later (h.mono h23)))
  obtain ⟨r, hr⟩ : ∃ r, r = u % m := ⟨_, rfl⟩
  have HR0 := Lib.hid hr
  clear hLV hW23 HLX hb2 hb1 hr
  go_wp2
  go_loopw [7, 29] (fun o i wr => ∃ (j : Nat) (A' : Option Addr) (c' : Nat), j ≤ m ∧ i = .int .i64 j ∧ o = .slice A' j c' ∧ wr.ownsRow W3.heap.size 48 6 (.slice A' j c') j (((rotL L r).take j).flatMap pCells) ∧ Below W3.heap.size W3 wr) (fun _ i _ => m - (intOf i).toNat)
  case atStart => exact ⟨0, none, 0, Nat.zero_le _, rfl, rfl, by simpa using World.ownsRow_nil _ _ _ _, Below.refl _ _⟩
  case round =>
    obtain ⟨j, A', c', hj, rfl, rfl, hown, hbr⟩ := hrel
    by_cases hlt : j < m
    · have hmu : (u : Int) % (m : Int) = (r : Int) := by have := HR0.out; omega
      have hrm : r < m := by rw [HR0.out]; exact Nat.mod_lt _ (by omega)
      obtain ⟨q, hq⟩ : ∃ q, q = (r + m - j) % m := ⟨_, rfl⟩
      have hqm : q < m := by rw [hq]; exact Nat.mod_lt _ (by omega)
      have hidx : ((r : Int) + (m : Int) - (j : Int)) % (m : Int) = (q : Int) := by
        rw [show ((r : Int) + (m : Int) - (j : Int)) = ((r + m - j : Nat) : Int) by omega, hq]; rfl
      have hat := rotL_at hlen hrm hlt
      rw [← hq] at hat
      obtain ⟨b, off, x, T, rfl, _, hx, h6⟩ := pair_at (Hsh.out wr (bel_next hb3 hbr)) hqm
      have Hat := Lib.hid (hat.trans hx)
      have hmem : (x, T) ∈ L := List.mem_of_getElem? hx
      clear hx hat hq hmem
      obtain ⟨tk, tn, ts, tcA, tcn, tcc, tkA, tkn, tkc, tkeys, tkids⟩ := T
      obtain ⟨g0, g1, g2, g3, g4, g5⟩ := h6
      have hnew := shows_new wr #[.string x, .int .i64 tk, .int .i64 tn, .string ts, .slice tcA tcn tcc, .slice tkA tkn tkc] 48 wr.heap.size 1 6 rfl rfl
      have hjm : (j : Int) < (m : Int) := by omega
      have hj0 : (0 : Int) ≤ (j : Int) := by omega
      have hr0 : (0 : Int) ≤ (r : Int) := by omega
      have hrmI : (r : Int) < (m : Int) := by omega
      have hqmI : (q : Int) < (m : Int) := by omega
      have hm300 : (m : Int) ≤ 300 := by omega
      have hmw : IntKind.u64.wrap (m : Int) = (m : Int) := by simp [IntKind.wrap, IntKind.bits, IntKind.signed]; omega
      have hrw : IntKind.i64.wrap (r : Int) = (r : Int) := by rw [IntKind.wrap_i64]; omega
      have hu0 : (0 : Int) ≤ (u : Int) := by omega
      clear hrm hqm hmi hmj
      have hbs := hbr.size
      go_wp2_with (at_builtin; refine wpList_append_shows _ rfl _ _ 41 rfl W3.heap.size 48 iP _ 6 96 Tryd.underlying41 hiP hzP hsP hbP rfl (by decide) _ _ _ rfl (hown.alloc _) (wr.heap.size + 1) _ 1 1 [.string x, .int .i64 tk, .int .i64 tn, .string ts, .slice tcA tcn tcc, .slice tkA tkn tkc] rfl hnew (by simp [Value.oneCell']) (by omega) (by omega) (by simp; omega) ?_; intro A7 c7 w7 hown7 hgrow7 hb7)
      have hown8 : w7.ownsRow W3.heap.size 48 6 (.slice A7 (j + 1) c7) (j + 1) (((rotL L r).take (j + 1)).flatMap pCells) := by
        rw [List.take_add_one, Hat.out]
        simpa [pCells, VT.cells] using hown7
      have hb8 : Below W3.heap.size W3 w7 := (hbr.alloc hbs _).trans hb7
      clear hown7 hgrow7 hb7 hown
      go_wp2
      go_roundw
      case rel => exact ⟨j + 1, A7, c7, by omega, by go_num, by first | rfl | simp, hown8, hb8⟩
      case measure => simp [intOf]; omega
    · obtain rfl : j = m := by omega
      have htk : (rotL L r).take j = rotL L r := List.take_of_length_le (by rw [rotL_len, hlen]; exact Nat.le_refl _)
      rw [htk] at hown
      have hb4 := bel_next hb3 hbr
      have hmm := rotL_perm L r
      have hob := object_res A' j c' (rotL L r) wr.heap.size wr (Shows.own hown) (own_noneP hown) (Nat.le_refl _) (by omega) (fun p hp => ⟨((HLie.out wr hb4 p (hmm.mem_iff.1 hp)).1).more (Nat.le_trans hB hb4.size), (HLie.out wr hb4 p (hmm.mem_iff.1 hp)).2⟩) (HTx.out wr hb4).1 (HTx.out wr hb4).2
      have Hmm := Lib.hid hmm
      clear hown htk hmm
      go_wp2_with fail
      refine hob.mono ?_
      rintro e W5 ⟨Y, F, rfl, HS, hLY, hb5⟩
      clear hob
      have HLY := Lib.hid hLY
      clear hLY
      obtain ⟨k2, n2, s2, cA2, cn2, cc2, kA2, kn2, kc2, keys2, kids2⟩ := Y
      simp only [VT.agg]
      have hb6 := bel_alloc (bel_next hbr hb5) (.cells #[.int .i64 k2, .int .i64 n2, .string s2, .slice cA2 cn2 cc2, .slice kA2 kn2 kc2] 25)
      have hbe := bel_next hb3 hb6
      rcases HR.out with ⟨hn, hX, rfl⟩ | ⟨hn, ⟨hok, ⟨kA', kc', cA', cc', hX⟩, rfl⟩ | ⟨hok, hX, rfl⟩⟩
      · obtain rfl : F = 141 := by
          rcases HS.out with ⟨_, _, h⟩ | ⟨h, _⟩
          · exact h
          · exact absurd ((noTwice_perm Hmm.out).1 h) hn
        clear hX hn
        go_wp2
        go_ret
        exact ⟨rfl, hbe⟩
      · have hu2 := srtP_unique Hmm.out.symm hn
        have hY : ∃ kA kc cA cc, (VT.mk k2 n2 s2 cA2 cn2 cc2 kA2 kn2 kc2 keys2 kids2) = obV cA j cc kA kc (srtP L) := by
          rcases HS.out with ⟨h, _⟩ | ⟨_, ⟨_, h, _⟩ | ⟨h, _, _⟩⟩
          · exact absurd ((noTwice_perm Hmm.out).2 hn) h
          · rw [← hu2] at h; exact h
          · rw [← hu2, hok] at h; cases h
        obtain rfl : F = 0 := by
          rcases HS.out with ⟨h, _⟩ | ⟨_, ⟨_, _, h⟩ | ⟨h, _, _⟩⟩
          · exact absurd ((noTwice_perm Hmm.out).2 hn) h
          · exact h
          · rw [← hu2, hok] at h; cases h
        obtain ⟨kA3, kc3, cA3, cc3, hY⟩ := hY
        have hst := srtP_strict hn
        have hXok : (VT.mk k n s cA cn cc kA kn kc keys kids).ok = true := by rw [hX, ob_ok]; exact hok
        have Hsame := Lib.hid (show sameR (VT.mk k n s cA cn cc kA kn kc keys kids) (VT.mk k2 n2 s2 cA2 cn2 cc2 kA2 kn2 kc2 keys2 kids2) = true by rw [hX, hY]; exact ob_same hok)
        have Hlen := Lib.hid (show lenR (VT.mk k n s cA cn cc kA kn kc keys kids) = .tuple #[.int .i64 (j : Nat), .bool true] by
          unfold lenR
          rw [if_pos hXok, hX, if_neg (by show ¬ (6 : Int) = 4; decide), if_pos (by rfl)]
          have : (obV cA' j cc' kA' kc' (srtP L)).kids.length = j := by show ((srtP L).map Prod.snd).length = j; simp [srtP_len, hlen]
          rw [this])
        have Hget := Lib.hid (fun p (hp : p ∈ L) => (show (VT.mk k n s cA cn cc kA kn kc keys kids).get p.1 = some p.2 by rw [hX]; exact ob_get hst ((srtP_perm L).mem_iff.2 hp)))
        have Hkid := Lib.hid (fun p (hp : p ∈ L) => ok_kid hXok (get_mem (Hget.out p hp)))
        have Hss := Lib.hid (show s.size ≤ 1000000 by have := congrArg VT.s hX; simp only [VT.s] at this; rw [this]; decide)
        have HXok := Lib.hid hXok
        clear hX hY hn hst hu2 hok hXok
        have hLY6 := HLY.out.later (bel_alloc (Below.refl W5.heap.size W5) (.cells #[.int .i64 k2, .int .i64 n2, .string s2, .slice cA2 cn2 cc2, .slice kA2 kn2 kc2] 25))
        have HV6 := Lib.hid (HV.out.later hb6)
        have HY6 := Lib.hid (VFive.new W5 (.int .i64 k2) (.int .i64 n2) (.string s2) (.slice cA2 cn2 cc2) (.slice kA2 kn2 kc2) 25 W5.heap.size rfl)
        have hW56 : W5.heap.size + 1 = (W5.alloc (.cells #[.int .i64 k2, .int .i64 n2, .string s2, .slice cA2 cn2 cc2, .slice kA2 kn2 kc2] 25)).heap.size := (World.size_alloc _ _).symm
        go_upto_region 16 with fail
        generalize (W5.alloc (.cells #[.int .i64 k2, .int .i64 n2, .string s2, .slice cA2 cn2 cc2, .slice kA2 kn2 kc2] 25)) = W6 at *
        have h56 : W5.heap.size ≤ W6.heap.size := by omega
        have HLX6 := Lib.hid (fun W (h : Below W6.heap.size W6 W) => HLV.out W (bel_next hb6 h))
        have HLY6 := Lib.hid (fun W (h : Below W6.heap.size W6 W) => hLY6.later (h.mono h56))
        have h36 := hb6.size
        have HRe := Lib.hid (fun p (hp : p ∈ L) W (h : Below W6.heap.size W6 W) => reaches_yes (VT.mk k n s cA cn cc kA kn kc keys kids) p.2 p.1 W.heap.size W ((HLX6.out W h).more (by have := h.size; omega)) (((HLie.out W (bel_next hbe h) p hp).1).more (by have := (bel_next hbe h).size; omega)) (Nat.le_refl _) HXok.out (Hkid.out p hp) (Hget.out p hp) (HTx.out W (bel_next hbe h)).1 (HTx.out W (bel_next hbe h)).2)
        have HLe := Lib.hid (fun W (h : Below W6.heap.size W6 W) => len_any W2.heap.size W (VT.mk k n s cA cn cc kA kn kc keys kids) (HLX6.out W h) (by have := h.size; omega) Hss.out (HTx.out W (bel_next hbe h)).1 (HTx.out W (bel_next hbe h)).2)
        rw [Hlen.out] at HLe
        have HSa := Lib.hid (fun W (h : Below W6.heap.size W6 W) => same_any W.heap.size W _ _ ((HLX6.out W h).more (by have := h.size; omega)) ((HLY6.out W h).more (by have := h.size; omega)) (Nat.le_refl _) (HTx.out W (bel_next hbe h)).1 (HTx.out W (bel_next hbe h)).2)
        rw [Hsame.out] at HSa
        simp only [VT.agg] at HLe HSa HRe
        clear hLY6 hW56
        go_wp2
        go_loopw [72] (fun i wr2 => ∃ q : Nat, q ≤ j ∧ i = .int .i64 q ∧ Below W6.heap.size W6 wr2) (fun i _ => j - (intOf i).toNat)
        case atStart => exact ⟨0, Nat.zero_le _, rfl, Below.refl _ _⟩
        case round =>
          obtain ⟨q, hq, rfl, hbq⟩ := hrel
          have HVq := Lib.hid (HV6.out.later hbq)
          obtain ⟨⟨v0, v1, v2, v3, v4⟩, -⟩ := HVq.out
          by_cases hlt2 : q < j
          · obtain ⟨b, off, x, T, rfl, _, hx, h6⟩ := pair_at (Hsh.out wr (bel_next hbe hbq)) hlt2
            have HRq := Lib.hid (HRe.out (x, T) (List.mem_of_getElem? hx))
            clear hx
            obtain ⟨tk, tn, ts, tcA, tcn, tcc, tkA, tkn, tkc, tkeys, tkids⟩ := T
            obtain ⟨g0, g1, g2, g3, g4, g5⟩ := h6
            simp only at HRq
            have hqj : (q : Int) < (j : Int) := by omega
            have hq0 : (0 : Int) ≤ (q : Int) := by omega
            have hb7 := bel_alloc hbq (.cells #[.string x, .int .i64 tk, .int .i64 tn, .string ts, .slice tcA tcn tcc, .slice tkA tkn tkc] 48)
            have HVp := Lib.hid (HV6.out.later hb7)
            obtain ⟨⟨z0, z1, z2, z3, z4⟩, -⟩ := HVp.out
            go_wp2_with fail
            refine (HRq.out _ hb7).mono ?_
            rintro e W8 ⟨rfl, hb8⟩
            have hb9 := bel_next hb7 hb8
            go_wp2
            go_roundw
            case rel => exact ⟨q + 1, by omega, by go_num, hb9⟩
            case measure => simp [intOf]; omega
          · obtain rfl : q = j := by omega
            go_wp2_with fail
            refine (HLe.out _ hbq).mono ?_
            rintro e W8 ⟨rfl, hb8⟩
            have hb9 := bel_next hbq hb8
            have HV9 := Lib.hid (HV6.out.later hb9)
            have HY9 := Lib.hid (HY6.out.later hb9)
            clear v0 v1 v2 v3 v4
            obtain ⟨⟨v0, v1, v2, v3, v4⟩, -⟩ := HV9.out
            obtain ⟨⟨y0, y1, y2, y3, y4⟩, -⟩ := HY9.out
            go_wp2_with fail
            refine (HSa.out _ hb9).mono ?_
            rintro e W10 ⟨rfl, hb10⟩
            go_wp2
            go_ret
            exact ⟨rfl, bel_next hbe (bel_next hb9 hb10)⟩
      · obtain rfl : F = 140 := by
          rcases HS.out with ⟨h, _⟩ | ⟨_, ⟨h, _, _⟩ | ⟨_, _, h⟩⟩
          · exact absurd ((noTwice_perm Hmm.out).2 hn) h
          · rw [← srtP_unique Hmm.out.symm hn, hok] at h; cases h
          · exact h
        clear hX hn hok
        go_wp2
        go_ret
        exact ⟨rfl, hbe⟩
theorem valueOrders_walk (W : World) (a0 : Option Addr) (len0 cap0 : Nat) (l0 : List PT) (b0 : Shows W W.heap.size 6 a0 len0 (l0.flatMap pCells)) (ok0 : ∀ p ∈ l0, Lie W W.heap.size p.2 ∧ p.1.size ≤ maxLen) (z0 : a0 = none → cap0 = 0) (y0 : len0 ≤ cap0) (x0 : cap0 ≤ maxLen) (m1 : Int) (w1 : (Lit.int .i64 m1).wf = true) (htab : UTab W) (hst : STab W) :
    Calls Tryd.prog 7 #[.slice a0 len0 cap0, .int .i64 m1] W fun e w' => e = .returned (.bool true) ∧ Below W.heap.size W w' :=
  vorders_any W a0 len0 cap0 l0 m1 W.heap.size (Nat.le_refl _) b0 ok0 z0 y0 x0 htab hst
end Go.Proofs.YtnldiemggabdkaaDoor
