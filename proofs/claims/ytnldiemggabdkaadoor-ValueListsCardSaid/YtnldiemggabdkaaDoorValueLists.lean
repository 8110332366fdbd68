/-
  ValueLists: a list returns each of its kids by its index, and nothing else; a list of it is one level deeper: the walk.
-/
import Derived.Test.YtnldiemggabdkaaDoorValAA
namespace Go.Proofs.YtnldiemggabdkaaDoor
open Go.RowKit
set_option linter.unusedVariables false

theorem flat_first {α : Type} (f : α → List Value) (k : Nat) (hf : ∀ x, (f x).length = k) : ∀ (l : List α) (m : Nat), (l.flatMap f).take (m * k) = (l.take m).flatMap f
  | [], m => by simp
  | x :: l, 0 => by simp
  | x :: l, m + 1 => by
    rw [List.flatMap_cons, List.take_succ_cons, List.flatMap_cons, ← flat_first f k hf l m]
    have e : (m + 1) * k = (f x).length + m * k := by rw [hf, Nat.add_mul]; omega
    rw [e, List.take_append, List.take_of_length_le (by omega), Nat.add_sub_cancel_left]
theorem own_none {W : World} {b size n c : Nat} {e : TypeId} {A : Option Addr} {xs : List Value} (ho : W.ownsRow b e size (.slice A n c) n xs) : A = none → c = 0 := by
  intro hA
  rcases ho.2 with ⟨e, _⟩ | ⟨g, cap, cur, e, _⟩
  · injection e
  · injection e with e1; rw [hA] at e1; cases e1
theorem list_or (B : Nat) (w : World) (A : Option Addr) (n c : Nat) (l : List VT) (h : Shows w B 5 A n (l.flatMap VT.cells)) (hl : ∀ x ∈ l, Lie w B x) (hA : A = none → c = 0) (hB : B ≤ w.heap.size) (hn : n ≤ 1000) (htab : UTab w) (hst : STab w) :
    Calls Tryd.prog 32 #[.slice A n c] w fun e w' => ∃ A' c', (((lsV A' n c' l).ok = true ∧ e = .returned (.tuple #[.agg #[.int .i64 5, .int .i64 0, .string ⟨#[]⟩, .slice A' n c', .slice none 0 0], .int .i64 0])) ∨
      ((lsV A' n c' l).ok = false ∧ e = .returned (.tuple #[.agg #[.int .i64 0, .int .i64 0, .string ⟨#[]⟩, .slice none 0 0, .slice none 0 0], .int .i64 140]))) ∧ Lie w' w'.heap.size (lsV A' n c' l) ∧ Below w.heap.size w w' := by
  refine (list_any B w A n c l h hl hA hB hn htab hst).mono ?_
  rintro e w' ⟨A', c', rfl, h1, h2⟩
  refine ⟨A', c', ?_, h1, h2⟩
  cases hok : (lsV A' n c' l).ok with
  | true => exact .inl ⟨rfl, by rw [chkT_ok hok, chkE_ok hok]; rfl⟩
  | false => exact .inr ⟨rfl, by rw [chkT_no hok, chkE_no hok]; rfl⟩
theorem ls_fit (A : Option Addr) (n c : Nat) (l : List VT) : (lsV A n c l).fit = true := by
  show (shKnown 5 && (numB 5 0 && (strB 5 ⟨#[]⟩ && (eleB 5 n && memB 5 n 0 [])))) = true
  have h1 : eleB 5 n = true := by unfold eleB eleQ shKids; simp
  have h2 : memB 5 n 0 [] = true := rfl
  have h3 : strB 5 ⟨#[]⟩ = true := by unfold strB strQ; rw [ByteArray.toList_eq]; rfl
  have h4 : numB 5 0 = true := rfl
  rw [h1, h2, h3, h4]
  rfl
/-- A list of one that may be. -/
theorem ls_one {V : VT} (h : V.ok = true) (A : Option Addr) (c : Nat) : (lsV A 1 c [V]).ok = (decide (V.dep < 8) && decide (V.cnt < 256)) ∧ (lsV A 1 c [V]).dep = V.dep + 1 := by
  have hd : (lsV A 1 c [V]).dep = V.dep + 1 := by rw [dep_mk]; show hN true + max V.dep 0 = _; unfold hN; simp; omega
  have hc : (lsV A 1 c [V]).cnt = V.cnt + 1 := by rw [cnt_mk]; simp; omega
  have hV : V.all = true := by unfold VT.ok at h; simp only [Bool.and_eq_true] at h; exact h.2.2
  have ha : (lsV A 1 c [V]).all = true := by rw [all_mk, ls_fit]; simp [hV]
  refine ⟨?_, hd⟩
  unfold VT.ok
  rw [hd, hc, ha, Bool.and_true]
  congr 1
theorem ls_at {A : Option Addr} {n c : Nat} {l : List VT} (h : (lsV A n c l).ok = true) (i : Int) : atR (lsV A n c l) i = if 0 ≤ i then l[i.toNat]? else none := by
  unfold atR
  by_cases hi : 0 ≤ i
  · rw [if_pos ⟨h, rfl, hi⟩, if_pos hi]; rfl
  · rw [if_neg (fun x => hi x.2.2), if_neg hi]
theorem ls_len {A : Option Addr} {n c : Nat} {l : List VT} (h : (lsV A n c l).ok = true) : lenR (lsV A n c l) = .tuple #[.int .i64 (l.length : Nat), .bool true] := by
  unfold lenR
  rw [if_pos h]
  rfl

set_option maxRecDepth 20000 in
set_option maxHeartbeats 4000000 in
theorem vlists_any (w : World) (A0 : Option Addr) (n0 c0 : Nat) (l0 : List VT) (B : Nat) (hB : B ≤ w.heap.size)
    (h0 : Shows w B 5 A0 n0 (l0.flatMap VT.cells)) (hl0 : ∀ x ∈ l0, Lie w B x) (hc0 : n0 ≤ c0) (hM0 : c0 ≤ maxLen) (htab : UTab w) (hst : STab w) :
    Calls Tryd.prog 9 #[.slice A0 n0 c0] w fun e w' => e = .returned (.bool true) ∧ Below w.heap.size w w' := by
  obtain ⟨iV, hiV, hzV, hsV, hbV⟩ := val_info
  have HW := vwakes_any w htab hst
  have HTx := Lib.hid (fun W (h : Below w.heap.size w W) => (⟨htab.below h htab.lt, hst.below h hst.lt⟩ : UTab W ∧ STab W))
  obtain ⟨m, hm⟩ : ∃ m, m = min n0 300 := ⟨_, rfl⟩
  have hmi : min (n0 : Int) 300 = (m : Int) := by omega
  have hmj : (if (300 : Int) < (n0 : Int) then (300 : Int) else (n0 : Int)) = (m : Int) := by split <;> omega
  have hmle : m ≤ 300 := by omega
  have hmn : m ≤ n0 := by omega
  have hz1 : (0 : Int) ≤ m := by omega
  have hi1 : (m : Int) ≤ n0 := by omega
  have hj1 : (m : Int) ≤ c0 := by omega
  have hsh : Shows w B 5 A0 m ((l0.take m).flatMap VT.cells) := by have := h0.first hmn; rwa [flat_first VT.cells 5 VT.cells_len] at this
  have hlen : (l0.take m).length = m := kids_len hsh
  have hlie : ∀ x ∈ l0.take m, Lie w B x := fun x hx => hl0 x (List.mem_of_mem_take hx)
  generalize l0.take m = L at *
  have hone := vcells_one L
  have HLie := Lib.hid (fun W (h : Below w.heap.size w W) => (fun x hx => (hlie x hx).later (h.mono hB) : ∀ x ∈ L, Lie W B x))
  have Hsh := Lib.hid hsh
  have hMx : 300 ≤ maxLen := by decide
  clear hm h0 hl0 hsh hlie hM0 htab hst
  go_enter Tryd.func9, Tryd.ntmps9
  go_wp2_with fail
  refine HW.mono ?_
  rintro e W1 ⟨rfl, hb1⟩
  clear HW
  go_upto_region 3 with fail
  have hown := World.ownsRow_lit (base := W1.heap.size) (e := 25) (size := 5) W1 #[] 0 (Nat.le_refl _) (Nat.zero_le _) rfl
  have hs := (Hsh.out.below (hb1.mono hB)).alloc (Nat.le_trans hB hb1.size) (.cells #[] 25)
  go_cut [0] (fun s0 wx => ∃ A c, s0 = .slice A m c ∧ Hid (Shows wx wx.heap.size 5 A m (L.flatMap VT.cells)) ∧ Hid (A = none → c = 0) ∧ Below W1.heap.size W1 wx)
  case first =>
    go_wp2_with (at_builtin; refine wpList_append_shows _ rfl _ _ 22 rfl W1.heap.size 25 iV _ 5 80 Tryd.underlying22 hiV hzV hsV hbV rfl (by decide) _ _ _ rfl hown B _ m _ (L.flatMap VT.cells) rfl hs hone (by omega) (by omega) (by simp) ?_; intro A7 c7 w7 hown7 hgrow7 hb7)
    have ho : w7.ownsRow W1.heap.size 25 5 (.slice A7 m c7) m (L.flatMap VT.cells) := by simpa using hown7
    have hbx : Below W1.heap.size W1 w7 := ((Below.refl _ _).alloc (Nat.le_refl _) _).trans hb7
    clear hown7
    go_wp2
    go_meet
    case rel => exact ⟨A7, c7, by simp, Lib.hid (Shows.own ho), Lib.hid (own_none ho), hbx⟩
  case rest =>
    obtain ⟨A1, c1, rfl, H1, HA, hbc⟩ := hcut
    rename World => W2
    have hb2 := bel_next hb1 hbc
    have hls := list_or W2.heap.size W2 A1 m c1 L H1.out (fun x hx => (HLie.out W2 hb2 x hx).more (Nat.le_trans hB hb2.size)) HA.out (Nat.le_refl _) (by omega) (HTx.out W2 hb2).1 (HTx.out W2 hb2).2
    clear hs hown hb1 hbc
    go_wp2_with fail
    refine hls.mono ?_
    rintro e W3 ⟨A', c', ⟨hok, rfl⟩ | ⟨hok, rfl⟩, hLie, hb3⟩
    case inr =>
      go_wp2
      go_ret
      exact ⟨rfl, bel_alloc (bel_next hb2 hb3) _⟩
    clear hls
    have hb4 := bel_alloc (bel_next hb2 hb3) (.cells #[.int .i64 5, .int .i64 0, .string ⟨#[]⟩, .slice A' m c', .slice none 0 0] 25)
    have HV := Lib.hid (VFive.new W3 (.int .i64 5) (.int .i64 0) (.string ⟨#[]⟩) (.slice A' m c') (.slice none 0 0) 25 W3.heap.size rfl)
    have H14 := Lib.hid (((H1.out.below hb3).more hb3.size).alloc (Nat.le_refl _) (.cells #[.int .i64 5, .int .i64 0, .string ⟨#[]⟩, .slice A' m c', .slice none 0 0] 25))
    have hLV := (hLie.later (bel_alloc (Below.refl W3.heap.size W3) (.cells #[.int .i64 5, .int .i64 0, .string ⟨#[]⟩, .slice A' m c', .slice none 0 0] 25)))
    have hW3 : W3.heap.size + 1 = (W3.alloc (.cells #[.int .i64 5, .int .i64 0, .string ⟨#[]⟩, .slice A' m c', .slice none 0 0] 25)).heap.size := (World.size_alloc _ _).symm
    go_upto_region 7 with fail
    generalize (W3.alloc (.cells #[.int .i64 5, .int .i64 0, .string ⟨#[]⟩, .slice A' m c', .slice none 0 0] 25)) = W4 at *
    have h34 : W3.heap.size ≤ W4.heap.size := by omega
    have HLV := Lib.hid (fun W (h : Below W4.heap.size W4 W) => (hLV.later (h.mono h34) : Lie W W3.heap.size (lsV A' m c' L)))
    have HLen := Lib.hid (fun W (h : Below W4.heap.size W4 W) => len_any W3.heap.size W (lsV A' m c' L) (HLV.out W h) (Nat.le_trans h34 h.size) (by show (⟨#[]⟩ : ByteArray).size ≤ _; decide) (HTx.out W (bel_next hb4 h)).1 (HTx.out W (bel_next hb4 h)).2)
    rw [ls_len hok, hlen] at HLen
    have HAt := Lib.hid (fun (i : Int) W (h : Below W4.heap.size W4 W) => at_any W3.heap.size W (lsV A' m c' L) i (HLV.out W h) (Nat.le_trans h34 h.size) (HTx.out W (bel_next hb4 h)).1 (HTx.out W (bel_next hb4 h)).2)
    simp only [ls_at hok] at HAt
    have HD0 := Lib.hid (fun W (h : Below W4.heap.size W4 W) => depth_any W3.heap.size W (lsV A' m c' L) (HLV.out W h) (Nat.le_trans h34 h.size) (HTx.out W (bel_next hb4 h)).1 (HTx.out W (bel_next hb4 h)).2)
    have HN0 := Lib.hid (fun W (h : Below W4.heap.size W4 W) => vcount_any W3.heap.size W (lsV A' m c' L) (HLV.out W h) (Nat.le_trans h34 h.size) (HTx.out W (bel_next hb4 h)).1 (HTx.out W (bel_next hb4 h)).2)
    have HSx := Lib.hid (fun x (hx : x ∈ L) W (h : Below W4.heap.size W4 W) => same_any B W x x (HLie.out W (bel_next hb4 h) x hx) (HLie.out W (bel_next hb4 h) x hx) (Nat.le_trans hB (bel_next hb4 h).size) (HTx.out W (bel_next hb4 h)).1 (HTx.out W (bel_next hb4 h)).2)
    have hdr : (lsV A' m c' L).depR = (lsV A' m c' L).dep := by unfold VT.depR; rw [if_pos hok]
    have hcr : (lsV A' m c' L).cntR = (lsV A' m c' L).cnt := by unfold VT.cntR; rw [if_pos hok]
    rw [hdr] at HD0
    rw [hcr] at HN0
    obtain ⟨hd8, hc256⟩ := ok_bounds hok
    have Hls := Lib.hid (fun (A : Option Addr) (c : Nat) => ls_one hok A c)
    have Hok := Lib.hid hok
    generalize hdv : (lsV A' m c' L).dep = d at *
    generalize hcv : (lsV A' m c' L).cnt = q at *
    have Hdv := Lib.hid hdv
    have Hcv := Lib.hid hcv
    simp only [VT.agg] at HLen HAt HD0 HN0
    have hHV0 := HV.out
    clear hLV hW3 hdr hcr hdv hcv hok hLie hb3 H1 HA hb2
    obtain ⟨⟨v0, v1, v2, v3, v4⟩, -⟩ := hHV0
    go_wp2_with fail
    refine (HLen.out _ (Below.refl _ _)).mono ?_
    rintro e W5 ⟨rfl, hb5⟩
    have HV5 := Lib.hid (HV.out.later hb5)
    clear v0 v1 v2 v3 v4 HLen
    obtain ⟨⟨v0, v1, v2, v3, v4⟩, -⟩ := HV5.out
    go_wp2
    go_loopw [50] (fun i wr => ∃ j : Nat, j ≤ m ∧ i = .int .i64 j ∧ Below W4.heap.size W4 wr) (fun i _ => m - (intOf i).toNat)
    case atStart => exact ⟨0, Nat.zero_le _, rfl, hb5⟩
    case round =>
      obtain ⟨j, hj, rfl, hbr⟩ := hrel
      clear v0 v1 v2 v3 v4
      have HVr := Lib.hid (HV.out.later hbr)
      obtain ⟨⟨v0, v1, v2, v3, v4⟩, -⟩ := HVr.out
      by_cases hlt : j < m
      · obtain ⟨b, off, x, rfl, _, hx, h5⟩ := kids_at (H14.out.below (hbr.mono h34)) hlt
        have hmem : x ∈ L := List.mem_of_getElem? hx
        have hxok : x.ok = true := ok_kid Hok.out (show x ∈ VT.kids (lsV A' m c' L) from hmem)
        have hat := HAt.out (j : Int)
        rw [if_pos (by omega), Int.toNat_natCast, hx] at hat
        have HAx := Lib.hid hat
        have HSy := Lib.hid (HSx.out x hmem)
        rw [sameR_self x hxok] at HSy
        clear hat hxok hmem hx
        obtain ⟨k', n', s', cA', cn', cc', kA', kn', kc', keys', kids'⟩ := x
        simp only [VT.agg, memR] at HAx HSy
        obtain ⟨g0, g1, g2, g3, g4⟩ := h5
        have hlt' : (j : Int) < m := by omega
        have hj0 : (0 : Int) ≤ j := by omega
        have hb6 := bel_alloc hbr (.cells #[.int .i64 k', .int .i64 n', .string s', .slice cA' cn' cc', .slice kA' kn' kc'] 25)
        have HV6 := Lib.hid (HVr.out.alloc (.cells #[.int .i64 k', .int .i64 n', .string s', .slice cA' cn' cc', .slice kA' kn' kc'] 25))
        have HX6 := Lib.hid (VFive.new wr (.int .i64 k') (.int .i64 n') (.string s') (.slice cA' cn' cc') (.slice kA' kn' kc') 25 wr.heap.size rfl)
        obtain ⟨⟨z0, z1, z2, z3, z4⟩, -⟩ := HV6.out
        go_wp2_with fail
        refine (HAx.out _ hb6).mono ?_
        rintro e W7 ⟨rfl, hb7⟩
        have hb8 := bel_alloc (bel_next hb6 hb7) (.cells #[.int .i64 k', .int .i64 n', .string s', .slice cA' cn' cc', .slice kA' kn' kc'] 25)
        have HX8 := Lib.hid ((HX6.out.later hb7).alloc (.cells #[.int .i64 k', .int .i64 n', .string s', .slice cA' cn' cc', .slice kA' kn' kc'] 25))
        have HY8 := Lib.hid (VFive.new W7 (.int .i64 k') (.int .i64 n') (.string s') (.slice cA' cn' cc') (.slice kA' kn' kc') 25 W7.heap.size rfl)
        clear v0 v1 v2 v3 v4 g0 g1 g2 g3 g4 z0 z1 z2 z3 z4 HV6 HX6 hb6 hb7 HAx
        obtain ⟨⟨x0, x1, x2, x3, x4⟩, -⟩ := HX8.out
        obtain ⟨⟨y0, y1, y2, y3, y4⟩, -⟩ := HY8.out
        go_wp2_with fail
        refine (HSy.out _ hb8).mono ?_
        rintro e W9 ⟨rfl, hb9⟩
        have hb10 := bel_next hb8 hb9
        clear x0 x1 x2 x3 x4 y0 y1 y2 y3 y4
        go_wp2
        go_roundw
        case rel => exact ⟨j + 1, by omega, by go_num, hb10⟩
        case measure => simp [intOf]; omega
      · obtain rfl : j = m := by omega
        have hlow := HAt.out (-1)
        rw [if_neg (by omega)] at hlow
        have hhigh := HAt.out (j : Int)
        rw [if_pos (by omega), Int.toNat_natCast, List.getElem?_eq_none (by omega)] at hhigh
        simp only [memR, zV] at hlow hhigh
        have HLo := Lib.hid hlow
        have HHi := Lib.hid hhigh
        clear hlow hhigh hlt HSx HAt
        go_wp2_with fail
        refine (HLo.out _ hbr).mono ?_
        rintro e W7 ⟨rfl, hb7⟩
        have hb8 := bel_alloc (bel_next hbr hb7) (.cells #[.int .i64 0, .int .i64 0, .string ⟨#[]⟩, .slice none 0 0, .slice none 0 0] 25)
        have HV8 := Lib.hid (HV.out.later hb8)
        clear v0 v1 v2 v3 v4 HVr HLo
        obtain ⟨⟨v0, v1, v2, v3, v4⟩, -⟩ := HV8.out
        go_wp2_with fail
        refine (HHi.out _ hb8).mono ?_
        rintro e W10 ⟨rfl, hb9⟩
        have hb10 := bel_alloc (bel_next hb8 hb9) (.cells #[.int .i64 0, .int .i64 0, .string ⟨#[]⟩, .slice none 0 0, .slice none 0 0] 25)
        have HV10 := Lib.hid (HV.out.later hb10)
        clear v0 v1 v2 v3 v4 HV8 HHi hb7 hb8 hb9
        obtain ⟨⟨v0, v1, v2, v3, v4⟩, -⟩ := HV10.out
        have hb11 := bel_alloc hb10 (.cells #[.int .i64 5, .int .i64 0, .string ⟨#[]⟩, .slice A' j c', .slice none 0 0] 25)
        go_upto_region 19 with fail
        generalize (W10.alloc (.cells #[.int .i64 0, .int .i64 0, .string ⟨#[]⟩, .slice none 0 0, .slice none 0 0] 25)) = W11 at *
        have hsn := shows5_new W11 (.int .i64 5) (.int .i64 0) (.string ⟨#[]⟩) (.slice A' j c') (.slice none 0 0) 25 W11.heap.size rfl
        have hl2 := list_or (W11.heap.size + 1) _ _ 1 1 [lsV A' j c' L] hsn (by
          intro x hx
          rw [List.mem_singleton] at hx
          subst hx
          exact (HLV.out _ hb11).more (by have := hb10.size; omega)) (by simp) (by simp) (by omega) (HTx.out _ (bel_next hb4 hb11)).1 (HTx.out _ (bel_next hb4 hb11)).2
        clear hsn
        go_wp2_with fail
        refine hl2.mono ?_
        clear hl2 v0 v1 v2 v3 v4 HV10
        rintro e W12 ⟨A2, c2, ⟨hok2, rfl⟩ | ⟨hok2, rfl⟩, hLie2, hb12⟩
        · have hb13 := bel_alloc (bel_next hb11 hb12) (.cells #[.int .i64 5, .int .i64 0, .string ⟨#[]⟩, .slice A2 1 c2, .slice none 0 0] 25)
          have HW2 := Lib.hid (VFive.new W12 (.int .i64 5) (.int .i64 0) (.string ⟨#[]⟩) (.slice A2 1 c2) (.slice none 0 0) 25 W12.heap.size rfl)
          have hL13 := (hLie2.later (bel_alloc (Below.refl W12.heap.size W12) (.cells #[.int .i64 5, .int .i64 0, .string ⟨#[]⟩, .slice A2 1 c2, .slice none 0 0] 25)))
          have hW13 : W12.heap.size + 1 = (W12.alloc (.cells #[.int .i64 5, .int .i64 0, .string ⟨#[]⟩, .slice A2 1 c2, .slice none 0 0] 25)).heap.size := (World.size_alloc _ _).symm
          have HV9 := Lib.hid (HV.out.later hb13)
          have hb9 := bel_next hb4 hb13
          go_upto_region 20 with fail
          generalize (W12.alloc (.cells #[.int .i64 5, .int .i64 0, .string ⟨#[]⟩, .slice A2 1 c2, .slice none 0 0] 25)) = W9 at *
          have hv0 : ∀ W, Below W9.heap.size W9 W → W.cell? ⟨W3.heap.size, 0, none⟩ = some (.int .i64 5) := fun W h => (HV9.out.later h).1.1
          have hv1 : ∀ W, Below W9.heap.size W9 W → W.cell? ⟨W3.heap.size, 1, none⟩ = some (.int .i64 0) := fun W h => (HV9.out.later h).1.2.1
          have hv2 : ∀ W, Below W9.heap.size W9 W → W.cell? ⟨W3.heap.size, 2, none⟩ = some (.string ⟨#[]⟩) := fun W h => (HV9.out.later h).1.2.2.1
          have hv3 : ∀ W, Below W9.heap.size W9 W → W.cell? ⟨W3.heap.size, 3, none⟩ = some (.slice A' j c') := fun W h => (HV9.out.later h).1.2.2.2.1
          have hv4 : ∀ W, Below W9.heap.size W9 W → W.cell? ⟨W3.heap.size, 4, none⟩ = some (.slice none 0 0) := fun W h => (HV9.out.later h).1.2.2.2.2
          have HD := Lib.hid (fun W (h : Below W9.heap.size W9 W) => HD0.out W (bel_next hb13 h))
          have HN := Lib.hid (fun W (h : Below W9.heap.size W9 W) => HN0.out W (bel_next hb13 h))
          have hls1 := Hls.out A2 c2
          rw [hok2] at hls1
          have h129 : W12.heap.size ≤ W9.heap.size := by omega
          have HD20 := Lib.hid (fun W (h : Below W9.heap.size W9 W) => depth_any W12.heap.size W _ (hL13.later (h.mono h129)) (Nat.le_trans h129 h.size) (HTx.out W (bel_next hb9 h)).1 (HTx.out W (bel_next hb9 h)).2)
          have hdr2 : (lsV A2 1 c2 [lsV A' j c' L]).depR = d + 1 := by unfold VT.depR; rw [if_pos hok2]; exact hls1.2
          rw [hdr2] at HD20
          simp only [VT.agg] at HD20
          have HD2 := HD20
          have hlt8 : d < 8 := by have := hls1.1.symm; simp only [Bool.and_eq_true, decide_eq_true_eq] at this; exact this.1
          have hlt256 : q < 256 := by have := hls1.1.symm; simp only [Bool.and_eq_true, decide_eq_true_eq] at this; exact this.2
          have e8 : ((d : Int) < 8) = True := by simp; omega
          have e256 : ((q : Int) < 256) = True := by simp; omega
          have f8 : decide ((d : Int) < 8) = true := by simp; omega
          have f256 : decide ((q : Int) < 256) = true := by simp; omega
          have hwd : IntKind.i64.wrap ((d : Int) + 1) = ((d + 1 : Nat) : Int) := by rw [IntKind.wrap_i64]; omega
          have hx0 : ∀ W, Below W9.heap.size W9 W → W.cell? ⟨W12.heap.size, 0, none⟩ = some (.int .i64 5) := fun W h => (HW2.out.later h).1.1
          have hx1 : ∀ W, Below W9.heap.size W9 W → W.cell? ⟨W12.heap.size, 1, none⟩ = some (.int .i64 0) := fun W h => (HW2.out.later h).1.2.1
          have hx2 : ∀ W, Below W9.heap.size W9 W → W.cell? ⟨W12.heap.size, 2, none⟩ = some (.string ⟨#[]⟩) := fun W h => (HW2.out.later h).1.2.2.1
          have hx3 : ∀ W, Below W9.heap.size W9 W → W.cell? ⟨W12.heap.size, 3, none⟩ = some (.slice A2 1 c2) := fun W h => (HW2.out.later h).1.2.2.2.1
          have hx4 : ∀ W, Below W9.heap.size W9 W → W.cell? ⟨W12.heap.size, 4, none⟩ = some (.slice none 0 0) := fun W h => (HW2.out.later h).1.2.2.2.2
          clear hls1 hlt8 hlt256 hL13 hW13 h129 hdr2 hok2 hb12 hLie2 hd8 hc256
          refine wp_region_held_drew (S := fun W => Below W9.heap.size W9 W) (by kernel_rfl) (below_drewN (Below.refl _ _) 1) (fun hHeld => ?_)
          refine rg_in 0 rfl (by kernel_rfl) (by kernel_rfl) (by kernel_rfl) (by rfl) (v := ?_) (fun _ _ _ h => h) hHeld (fun w hSw => ?_) ?_
          rotate_left
          · (try dsimp only at hSw); go_simp <;> (with_reducible rfl)
          (try simp only [Act.put, List.setIfInBounds_toArray, List.set_cons_zero, List.set_cons_succ])
          refine rg_in 1 rfl (by kernel_rfl) (by kernel_rfl) (by kernel_rfl) (by rfl) (v := ?_) (fun _ _ _ h => h) hHeld (fun w hSw => ?_) ?_
          rotate_left
          · (try dsimp only at hSw); go_simp <;> (with_reducible rfl)
          (try simp only [Act.put, List.setIfInBounds_toArray, List.set_cons_zero, List.set_cons_succ])
          refine rg_in 2 rfl (by kernel_rfl) (by kernel_rfl) (by kernel_rfl) (by rfl) (v := ?_) (fun _ _ _ h => h) hHeld (fun w hSw => ?_) ?_
          rotate_left
          · (try dsimp only at hSw); go_simp <;> (with_reducible rfl)
          (try simp only [Act.put, List.setIfInBounds_toArray, List.set_cons_zero, List.set_cons_succ])
          refine rg_in 3 rfl (by kernel_rfl) (by kernel_rfl) (by kernel_rfl) (by rfl) (v := ?_) (fun _ _ _ h => h) hHeld (fun w hSw => ?_) ?_
          rotate_left
          · (try dsimp only at hSw); go_simp <;> (with_reducible rfl)
          (try simp only [Act.put, List.setIfInBounds_toArray, List.set_cons_zero, List.set_cons_succ])
          refine rg_in 4 rfl (by kernel_rfl) (by kernel_rfl) (by kernel_rfl) (by rfl) (v := ?_) (fun _ _ _ h => h) hHeld (fun w hSw => ?_) ?_
          rotate_left
          · (try dsimp only at hSw); go_simp <;> (with_reducible rfl)
          (try simp only [Act.put, List.setIfInBounds_toArray, List.set_cons_zero, List.set_cons_succ])
          refine rg_in 5 rfl (by kernel_rfl) (by kernel_rfl) (by kernel_rfl) (by rfl) (v := ?_) (fun _ _ _ h => h) hHeld (fun w hSw => ?_) ?_
          rotate_left
          · (try dsimp only at hSw); go_simp <;> (with_reducible rfl)
          (try simp only [Act.put, List.setIfInBounds_toArray, List.set_cons_zero, List.set_cons_succ])
          refine rg_in 6 rfl (by kernel_rfl) (by kernel_rfl) (by kernel_rfl) (by rfl) (v := ?_) (fun _ _ _ h => h) hHeld (fun w hSw => ?_) ?_
          rotate_left
          · (try dsimp only at hSw); go_simp <;> (with_reducible rfl)
          (try simp only [Act.put, List.setIfInBounds_toArray, List.set_cons_zero, List.set_cons_succ])
          refine rg_in 7 rfl (by kernel_rfl) (by kernel_rfl) (by kernel_rfl) (by rfl) (v := ?_) (fun _ _ _ h => h) hHeld (fun w hSw => ?_) ?_
          rotate_left
          · (try dsimp only at hSw); go_simp <;> (with_reducible rfl)
          (try simp only [Act.put, List.setIfInBounds_toArray, List.set_cons_zero, List.set_cons_succ])
          refine rg_in 8 rfl (by kernel_rfl) (by kernel_rfl) (by kernel_rfl) (by rfl) (v := ?_) (fun _ _ _ h => h) hHeld (fun w hSw => ?_) ?_
          rotate_left
          · (try dsimp only at hSw); go_simp <;> (with_reducible rfl)
          (try simp only [Act.put, List.setIfInBounds_toArray, List.set_cons_zero, List.set_cons_succ])
          refine rg_in 9 rfl (by kernel_rfl) (by kernel_rfl) (by kernel_rfl) (by rfl) (v := ?_) (fun _ _ _ h => h) hHeld (fun w hSw => ?_) ?_
          rotate_left
          · (try dsimp only at hSw); go_simp <;> (with_reducible rfl)
          (try simp only [Act.put, List.setIfInBounds_toArray, List.set_cons_zero, List.set_cons_succ])
          refine rg_do 10 rfl (by kernel_rfl) (by rfl) (fun K hK => ?_)
          go_simp
          (go_at_call 15; (with_reducible refine (HD.out _ hHeld).mono ?_); (rintro e w110 ⟨rfl, hb10⟩))
          refine hK.out _ _ (S_call hb10 hHeld rfl) (fun hHeld => ?_)
          clear hK K
          (try simp only [Act.put, List.setIfInBounds_toArray, List.set_cons_zero, List.set_cons_succ])
          refine rg_in 11 rfl (by kernel_rfl) (by kernel_rfl) (by kernel_rfl) (by rfl) (v := ?_) (fun _ _ _ h => h) hHeld (fun w hSw => ?_) ?_
          rotate_left
          · (try dsimp only at hSw); go_simp <;> (with_reducible rfl)
          (try simp only [Act.put, List.setIfInBounds_toArray, List.set_cons_zero, List.set_cons_succ])
          refine rg_in 12 rfl (by kernel_rfl) (by kernel_rfl) (by kernel_rfl) (by rfl) (v := ?_) (fun _ _ _ h => h) hHeld (fun w hSw => ?_) ?_
          rotate_left
          · (try dsimp only at hSw); go_simp <;> (with_reducible rfl)
          (try simp only [Act.put, List.setIfInBounds_toArray, List.set_cons_zero, List.set_cons_succ])
          refine rg_in 13 rfl (by kernel_rfl) (by kernel_rfl) (by kernel_rfl) (by rfl) (v := ?_) (fun _ _ _ h => h) hHeld (fun w hSw => ?_) ?_
          rotate_left
          · (try dsimp only at hSw); go_simp <;> (with_reducible rfl)
          (try simp only [Act.put, List.setIfInBounds_toArray, List.set_cons_zero, List.set_cons_succ])
          refine rg_do 14 rfl (by kernel_rfl) (by rfl) (fun K hK => ?_)
          go_simp
          (go_at_call 16; (with_reducible refine (HN.out _ hHeld).mono ?_); (rintro e w114 ⟨rfl, hb14⟩))
          refine hK.out _ _ (S_call hb14 hHeld rfl) (fun hHeld => ?_)
          clear hK K
          (try simp only [Act.put, List.setIfInBounds_toArray, List.set_cons_zero, List.set_cons_succ])
          refine rg_in 15 rfl (by kernel_rfl) (by kernel_rfl) (by kernel_rfl) (by rfl) (v := ?_) (fun _ _ _ h => h) hHeld (fun w hSw => ?_) ?_
          rotate_left
          · (try dsimp only at hSw); go_simp <;> (with_reducible rfl)
          (try simp only [Act.put, List.setIfInBounds_toArray, List.set_cons_zero, List.set_cons_succ])
          refine rg_in 16 rfl (by kernel_rfl) (by kernel_rfl) (by kernel_rfl) (by rfl) (v := ?_) (fun _ _ _ h => h) hHeld (fun w hSw => ?_) ?_
          rotate_left
          · (try dsimp only at hSw); go_simp <;> (with_reducible rfl)
          (try simp only [Act.put, List.setIfInBounds_toArray, List.set_cons_zero, List.set_cons_succ])
          refine rg_in 17 rfl (by kernel_rfl) (by kernel_rfl) (by kernel_rfl) (by rfl) (v := ?_) (fun _ _ _ h => h) hHeld (fun w hSw => ?_) ?_
          rotate_left
          · (try dsimp only at hSw); go_simp <;> (with_reducible rfl)
          (try simp only [Act.put, List.setIfInBounds_toArray, List.set_cons_zero, List.set_cons_succ])
          refine rg_in 18 rfl (by kernel_rfl) (by kernel_rfl) (by kernel_rfl) (by rfl) (v := ?_) (fun _ _ _ h => h) hHeld (fun w hSw => ?_) ?_
          rotate_left
          · (try dsimp only at hSw); go_simp <;> (with_reducible rfl)
          (try simp only [Act.put, List.setIfInBounds_toArray, List.set_cons_zero, List.set_cons_succ])
          refine rg_in 19 rfl (by kernel_rfl) (by kernel_rfl) (by kernel_rfl) (by rfl) (v := ?_) (fun _ _ _ h => h) hHeld (fun w hSw => ?_) ?_
          rotate_left
          · (try dsimp only at hSw); go_simp <;> (with_reducible rfl)
          (try simp only [Act.put, List.setIfInBounds_toArray, List.set_cons_zero, List.set_cons_succ])
          refine rg_in 20 rfl (by kernel_rfl) (by kernel_rfl) (by kernel_rfl) (by rfl) (v := ?_) (fun _ _ _ h => h) hHeld (fun w hSw => ?_) ?_
          rotate_left
          · (try dsimp only at hSw); go_simp <;> (with_reducible rfl)
          (try simp only [Act.put, List.setIfInBounds_toArray, List.set_cons_zero, List.set_cons_succ])
          refine rg_in 21 rfl (by kernel_rfl) (by kernel_rfl) (by kernel_rfl) (by rfl) (v := ?_) (fun _ _ _ h => h) hHeld (fun w hSw => ?_) ?_
          rotate_left
          · (try dsimp only at hSw); go_simp <;> (with_reducible rfl)
          (try simp only [Act.put, List.setIfInBounds_toArray, List.set_cons_zero, List.set_cons_succ])
          refine rg_in 22 rfl (by kernel_rfl) (by kernel_rfl) (by kernel_rfl) (by rfl) (v := ?_) (fun _ _ _ h => h) hHeld (fun w hSw => ?_) ?_
          rotate_left
          · (try dsimp only at hSw); go_simp <;> (with_reducible rfl)
          (try simp only [Act.put, List.setIfInBounds_toArray, List.set_cons_zero, List.set_cons_succ])
          refine rg_in 23 rfl (by kernel_rfl) (by kernel_rfl) (by kernel_rfl) (by rfl) (v := ?_) (fun _ _ _ h => h) hHeld (fun w hSw => ?_) ?_
          rotate_left
          · (try dsimp only at hSw); go_simp <;> (with_reducible rfl)
          (try simp only [Act.put, List.setIfInBounds_toArray, List.set_cons_zero, List.set_cons_succ])
          refine rg_in 25 rfl (by kernel_rfl) (by kernel_rfl) (by kernel_rfl) (by rfl) (v := ?_) (fun _ _ _ h => h) hHeld (fun w hSw => ?_) ?_
          rotate_left
          · (try dsimp only at hSw); go_simp <;> (with_reducible rfl)
          (try simp only [Act.put, List.setIfInBounds_toArray, List.set_cons_zero, List.set_cons_succ])
          refine rg_do 24 rfl (by kernel_rfl) (by rfl) (fun K hK => ?_)
          go_simp
          (go_at_call 15; (with_reducible refine (HD2.out _ hHeld).mono ?_); (rintro e w124 ⟨rfl, hb24⟩))
          refine hK.out _ _ (S_call hb24 hHeld rfl) (fun hHeld => ?_)
          clear hK K
          (try simp only [Act.put, List.setIfInBounds_toArray, List.set_cons_zero, List.set_cons_succ])
          refine rg_do 26 rfl (by kernel_rfl) (by rfl) (fun K hK => ?_)
          go_simp
          (go_at_call 15; (with_reducible refine (HD.out _ hHeld).mono ?_); (rintro e w126 ⟨rfl, hb26⟩))
          refine hK.out _ _ (S_call hb26 hHeld rfl) (fun hHeld => ?_)
          clear hK K
          (try simp only [Act.put, List.setIfInBounds_toArray, List.set_cons_zero, List.set_cons_succ])
          refine rg_in 27 rfl (by kernel_rfl) (by kernel_rfl) (by kernel_rfl) (by rfl) (v := ?_) (fun _ _ _ h => h) hHeld (fun w hSw => ?_) ?_
          rotate_left
          · (try dsimp only at hSw); go_simp <;> (with_reducible rfl)
          (try simp only [Act.put, List.setIfInBounds_toArray, List.set_cons_zero, List.set_cons_succ])
          refine rg_in 28 rfl (by kernel_rfl) (by kernel_rfl) (by kernel_rfl) (by rfl) (v := ?_) (fun _ _ _ h => h) hHeld (fun w hSw => ?_) ?_
          rotate_left
          · (try dsimp only at hSw); go_simp <;> (with_reducible rfl)
          (try simp only [Act.put, List.setIfInBounds_toArray, List.set_cons_zero, List.set_cons_succ])
          refine rg_in 29 rfl (by kernel_rfl) (by kernel_rfl) (by kernel_rfl) (by rfl) (v := ?_) (fun _ _ _ h => h) hHeld (fun w hSw => ?_) ?_
          rotate_left
          · (try dsimp only at hSw); go_simp <;> (with_reducible rfl)
          (try simp only [Act.put, List.setIfInBounds_toArray, List.set_cons_zero, List.set_cons_succ])
          refine rg_in 30 rfl (by kernel_rfl) (by kernel_rfl) (by kernel_rfl) (by rfl) (v := ?_) (fun _ _ _ h => h) hHeld (fun w hSw => ?_) ?_
          rotate_left
          · (try dsimp only at hSw); go_simp <;> (with_reducible rfl)
          (try simp only [Act.put, List.setIfInBounds_toArray, List.set_cons_zero, List.set_cons_succ])
          refine rg_in 31 rfl (by kernel_rfl) (by kernel_rfl) (by kernel_rfl) (by rfl) (v := ?_) (fun _ _ _ h => h) hHeld (fun w hSw => ?_) ?_
          rotate_left
          · (try dsimp only at hSw); go_simp <;> (with_reducible rfl)
          (try simp only [Act.put, List.setIfInBounds_toArray, List.set_cons_zero, List.set_cons_succ])
          refine wpAnyH_done (by kernel_rfl) ?_ _
          go_wp2
          go_ret
          exact ⟨rfl, bel_next hb9 hHeld⟩
        · have hb13 := bel_alloc (bel_next hb11 hb12) (.cells #[.int .i64 0, .int .i64 0, .string ⟨#[]⟩, .slice none 0 0, .slice none 0 0] 25)
          have HV9 := Lib.hid (HV.out.later hb13)
          have hb9 := bel_next hb4 hb13
          go_upto_region 20 with fail
          generalize (W12.alloc (.cells #[.int .i64 0, .int .i64 0, .string ⟨#[]⟩, .slice none 0 0, .slice none 0 0] 25)) = W9 at *
          have hv0 : ∀ W, Below W9.heap.size W9 W → W.cell? ⟨W3.heap.size, 0, none⟩ = some (.int .i64 5) := fun W h => (HV9.out.later h).1.1
          have hv1 : ∀ W, Below W9.heap.size W9 W → W.cell? ⟨W3.heap.size, 1, none⟩ = some (.int .i64 0) := fun W h => (HV9.out.later h).1.2.1
          have hv2 : ∀ W, Below W9.heap.size W9 W → W.cell? ⟨W3.heap.size, 2, none⟩ = some (.string ⟨#[]⟩) := fun W h => (HV9.out.later h).1.2.2.1
          have hv3 : ∀ W, Below W9.heap.size W9 W → W.cell? ⟨W3.heap.size, 3, none⟩ = some (.slice A' j c') := fun W h => (HV9.out.later h).1.2.2.2.1
          have hv4 : ∀ W, Below W9.heap.size W9 W → W.cell? ⟨W3.heap.size, 4, none⟩ = some (.slice none 0 0) := fun W h => (HV9.out.later h).1.2.2.2.2
          have HD := Lib.hid (fun W (h : Below W9.heap.size W9 W) => HD0.out W (bel_next hb13 h))
          have HN := Lib.hid (fun W (h : Below W9.heap.size W9 W) => HN0.out W (bel_next hb13 h))
          have hls1 := Hls.out A2 c2
          rw [hok2] at hls1
          by_cases hlt8 : d < 8
          · have hge256 : ¬ q < 256 := by
              intro hq
              have := hls1.1
              simp [hlt8, hq] at this
            have e8 : ((d : Int) < 8) = True := by simp; omega
            have e256 : ((q : Int) < 256) = False := by simp; omega
            have f8 : decide ((d : Int) < 8) = true := by simp; omega
            have f256 : decide ((q : Int) < 256) = false := by simp; omega
            clear hls1 hlt8 hge256 hok2 hb12 hLie2 hd8 hc256
            refine wp_region_held_drew (S := fun W => Below W9.heap.size W9 W) (by kernel_rfl) (below_drewN (Below.refl _ _) 1) (fun hHeld => ?_)
            refine rg_in 0 rfl (by kernel_rfl) (by kernel_rfl) (by kernel_rfl) (by rfl) (v := ?_) (fun _ _ _ h => h) hHeld (fun w hSw => ?_) ?_
            rotate_left
            · (try dsimp only at hSw); go_simp <;> (with_reducible rfl)
            (try simp only [Act.put, List.setIfInBounds_toArray, List.set_cons_zero, List.set_cons_succ])
            refine rg_in 1 rfl (by kernel_rfl) (by kernel_rfl) (by kernel_rfl) (by rfl) (v := ?_) (fun _ _ _ h => h) hHeld (fun w hSw => ?_) ?_
            rotate_left
            · (try dsimp only at hSw); go_simp <;> (with_reducible rfl)
            (try simp only [Act.put, List.setIfInBounds_toArray, List.set_cons_zero, List.set_cons_succ])
            refine rg_in 2 rfl (by kernel_rfl) (by kernel_rfl) (by kernel_rfl) (by rfl) (v := ?_) (fun _ _ _ h => h) hHeld (fun w hSw => ?_) ?_
            rotate_left
            · (try dsimp only at hSw); go_simp <;> (with_reducible rfl)
            (try simp only [Act.put, List.setIfInBounds_toArray, List.set_cons_zero, List.set_cons_succ])
            refine rg_in 3 rfl (by kernel_rfl) (by kernel_rfl) (by kernel_rfl) (by rfl) (v := ?_) (fun _ _ _ h => h) hHeld (fun w hSw => ?_) ?_
            rotate_left
            · (try dsimp only at hSw); go_simp <;> (with_reducible rfl)
            (try simp only [Act.put, List.setIfInBounds_toArray, List.set_cons_zero, List.set_cons_succ])
            refine rg_in 4 rfl (by kernel_rfl) (by kernel_rfl) (by kernel_rfl) (by rfl) (v := ?_) (fun _ _ _ h => h) hHeld (fun w hSw => ?_) ?_
            rotate_left
            · (try dsimp only at hSw); go_simp <;> (with_reducible rfl)
            (try simp only [Act.put, List.setIfInBounds_toArray, List.set_cons_zero, List.set_cons_succ])
            refine rg_in 5 rfl (by kernel_rfl) (by kernel_rfl) (by kernel_rfl) (by rfl) (v := ?_) (fun _ _ _ h => h) hHeld (fun w hSw => ?_) ?_
            rotate_left
            · (try dsimp only at hSw); go_simp <;> (with_reducible rfl)
            (try simp only [Act.put, List.setIfInBounds_toArray, List.set_cons_zero, List.set_cons_succ])
            refine rg_in 6 rfl (by kernel_rfl) (by kernel_rfl) (by kernel_rfl) (by rfl) (v := ?_) (fun _ _ _ h => h) hHeld (fun w hSw => ?_) ?_
            rotate_left
            · (try dsimp only at hSw); go_simp <;> (with_reducible rfl)
            (try simp only [Act.put, List.setIfInBounds_toArray, List.set_cons_zero, List.set_cons_succ])
            refine rg_in 7 rfl (by kernel_rfl) (by kernel_rfl) (by kernel_rfl) (by rfl) (v := ?_) (fun _ _ _ h => h) hHeld (fun w hSw => ?_) ?_
            rotate_left
            · (try dsimp only at hSw); go_simp <;> (with_reducible rfl)
            (try simp only [Act.put, List.setIfInBounds_toArray, List.set_cons_zero, List.set_cons_succ])
            refine rg_in 8 rfl (by kernel_rfl) (by kernel_rfl) (by kernel_rfl) (by rfl) (v := ?_) (fun _ _ _ h => h) hHeld (fun w hSw => ?_) ?_
            rotate_left
            · (try dsimp only at hSw); go_simp <;> (with_reducible rfl)
            (try simp only [Act.put, List.setIfInBounds_toArray, List.set_cons_zero, List.set_cons_succ])
            refine rg_in 9 rfl (by kernel_rfl) (by kernel_rfl) (by kernel_rfl) (by rfl) (v := ?_) (fun _ _ _ h => h) hHeld (fun w hSw => ?_) ?_
            rotate_left
            · (try dsimp only at hSw); go_simp <;> (with_reducible rfl)
            (try simp only [Act.put, List.setIfInBounds_toArray, List.set_cons_zero, List.set_cons_succ])
            refine rg_do 10 rfl (by kernel_rfl) (by rfl) (fun K hK => ?_)
            go_simp
            (go_at_call 15; (with_reducible refine (HD.out _ hHeld).mono ?_); (rintro e w110 ⟨rfl, hb10⟩))
            refine hK.out _ _ (S_call hb10 hHeld rfl) (fun hHeld => ?_)
            clear hK K
            (try simp only [Act.put, List.setIfInBounds_toArray, List.set_cons_zero, List.set_cons_succ])
            refine rg_in 11 rfl (by kernel_rfl) (by kernel_rfl) (by kernel_rfl) (by rfl) (v := ?_) (fun _ _ _ h => h) hHeld (fun w hSw => ?_) ?_
            rotate_left
            · (try dsimp only at hSw); go_simp <;> (with_reducible rfl)
            (try simp only [Act.put, List.setIfInBounds_toArray, List.set_cons_zero, List.set_cons_succ])
            refine rg_in 12 rfl (by kernel_rfl) (by kernel_rfl) (by kernel_rfl) (by rfl) (v := ?_) (fun _ _ _ h => h) hHeld (fun w hSw => ?_) ?_
            rotate_left
            · (try dsimp only at hSw); go_simp <;> (with_reducible rfl)
            (try simp only [Act.put, List.setIfInBounds_toArray, List.set_cons_zero, List.set_cons_succ])
            refine rg_in 13 rfl (by kernel_rfl) (by kernel_rfl) (by kernel_rfl) (by rfl) (v := ?_) (fun _ _ _ h => h) hHeld (fun w hSw => ?_) ?_
            rotate_left
            · (try dsimp only at hSw); go_simp <;> (with_reducible rfl)
            (try simp only [Act.put, List.setIfInBounds_toArray, List.set_cons_zero, List.set_cons_succ])
            refine rg_do 14 rfl (by kernel_rfl) (by rfl) (fun K hK => ?_)
            go_simp
            (go_at_call 16; (with_reducible refine (HN.out _ hHeld).mono ?_); (rintro e w114 ⟨rfl, hb14⟩))
            refine hK.out _ _ (S_call hb14 hHeld rfl) (fun hHeld => ?_)
            clear hK K
            (try simp only [Act.put, List.setIfInBounds_toArray, List.set_cons_zero, List.set_cons_succ])
            refine rg_in 15 rfl (by kernel_rfl) (by kernel_rfl) (by kernel_rfl) (by rfl) (v := ?_) (fun _ _ _ h => h) hHeld (fun w hSw => ?_) ?_
            rotate_left
            · (try dsimp only at hSw); go_simp <;> (with_reducible rfl)
            (try simp only [Act.put, List.setIfInBounds_toArray, List.set_cons_zero, List.set_cons_succ])
            refine rg_in 16 rfl (by kernel_rfl) (by kernel_rfl) (by kernel_rfl) (by rfl) (v := ?_) (fun _ _ _ h => h) hHeld (fun w hSw => ?_) ?_
            rotate_left
            · (try dsimp only at hSw); go_simp <;> (with_reducible rfl)
            (try simp only [Act.put, List.setIfInBounds_toArray, List.set_cons_zero, List.set_cons_succ])
            refine rg_in 17 rfl (by kernel_rfl) (by kernel_rfl) (by kernel_rfl) (by rfl) (v := ?_) (fun _ _ _ h => h) hHeld (fun w hSw => ?_) ?_
            rotate_left
            · (try dsimp only at hSw); go_simp <;> (with_reducible rfl)
            (try simp only [Act.put, List.setIfInBounds_toArray, List.set_cons_zero, List.set_cons_succ])
            refine rg_in 18 rfl (by kernel_rfl) (by kernel_rfl) (by kernel_rfl) (by rfl) (v := ?_) (fun _ _ _ h => h) hHeld (fun w hSw => ?_) ?_
            rotate_left
            · (try dsimp only at hSw); go_simp <;> (with_reducible rfl)
            (try simp only [Act.put, List.setIfInBounds_toArray, List.set_cons_zero, List.set_cons_succ])
            refine rg_in 19 rfl (by kernel_rfl) (by kernel_rfl) (by kernel_rfl) (by rfl) (v := ?_) (fun _ _ _ h => h) hHeld (fun w hSw => ?_) ?_
            rotate_left
            · (try dsimp only at hSw); go_simp <;> (with_reducible rfl)
            (try simp only [Act.put, List.setIfInBounds_toArray, List.set_cons_zero, List.set_cons_succ])
            refine rg_in 20 rfl (by kernel_rfl) (by kernel_rfl) (by kernel_rfl) (by rfl) (v := ?_) (fun _ _ _ h => h) hHeld (fun w hSw => ?_) ?_
            rotate_left
            · (try dsimp only at hSw); go_simp <;> (with_reducible rfl)
            (try simp only [Act.put, List.setIfInBounds_toArray, List.set_cons_zero, List.set_cons_succ])
            refine rg_in 21 rfl (by kernel_rfl) (by kernel_rfl) (by kernel_rfl) (by rfl) (v := ?_) (fun _ _ _ h => h) hHeld (fun w hSw => ?_) ?_
            rotate_left
            · (try dsimp only at hSw); go_simp <;> (with_reducible rfl)
            (try simp only [Act.put, List.setIfInBounds_toArray, List.set_cons_zero, List.set_cons_succ])
            refine rg_in 22 rfl (by kernel_rfl) (by kernel_rfl) (by kernel_rfl) (by rfl) (v := ?_) (fun _ _ _ h => h) hHeld (fun w hSw => ?_) ?_
            rotate_left
            · (try dsimp only at hSw); go_simp <;> (with_reducible rfl)
            (try simp only [Act.put, List.setIfInBounds_toArray, List.set_cons_zero, List.set_cons_succ])
            refine rg_off 23 rfl (by kernel_rfl) (by kernel_rfl) (by kernel_rfl) (by rfl) (fun _ _ _ h => h) hHeld ?_
            (try simp only [Act.put, List.setIfInBounds_toArray, List.set_cons_zero, List.set_cons_succ])
            refine rg_off 24 rfl (by kernel_rfl) (by kernel_rfl) (by kernel_rfl) (by rfl) (fun _ _ _ h => h) hHeld ?_
            (try simp only [Act.put, List.setIfInBounds_toArray, List.set_cons_zero, List.set_cons_succ])
            refine rg_off 25 rfl (by kernel_rfl) (by kernel_rfl) (by kernel_rfl) (by rfl) (fun _ _ _ h => h) hHeld ?_
            (try simp only [Act.put, List.setIfInBounds_toArray, List.set_cons_zero, List.set_cons_succ])
            refine rg_off 26 rfl (by kernel_rfl) (by kernel_rfl) (by kernel_rfl) (by rfl) (fun _ _ _ h => h) hHeld ?_
            (try simp only [Act.put, List.setIfInBounds_toArray, List.set_cons_zero, List.set_cons_succ])
            refine rg_off 27 rfl (by kernel_rfl) (by kernel_rfl) (by kernel_rfl) (by rfl) (fun _ _ _ h => h) hHeld ?_
            (try simp only [Act.put, List.setIfInBounds_toArray, List.set_cons_zero, List.set_cons_succ])
            refine rg_off 28 rfl (by kernel_rfl) (by kernel_rfl) (by kernel_rfl) (by rfl) (fun _ _ _ h => h) hHeld ?_
            (try simp only [Act.put, List.setIfInBounds_toArray, List.set_cons_zero, List.set_cons_succ])
            refine rg_in 29 rfl (by kernel_rfl) (by kernel_rfl) (by kernel_rfl) (by rfl) (v := ?_) (fun _ _ _ h => h) hHeld (fun w hSw => ?_) ?_
            rotate_left
            · (try dsimp only at hSw); go_simp <;> (with_reducible rfl)
            (try simp only [Act.put, List.setIfInBounds_toArray, List.set_cons_zero, List.set_cons_succ])
            refine rg_in 30 rfl (by kernel_rfl) (by kernel_rfl) (by kernel_rfl) (by rfl) (v := ?_) (fun _ _ _ h => h) hHeld (fun w hSw => ?_) ?_
            rotate_left
            · (try dsimp only at hSw); go_simp <;> (with_reducible rfl)
            (try simp only [Act.put, List.setIfInBounds_toArray, List.set_cons_zero, List.set_cons_succ])
            refine rg_in 31 rfl (by kernel_rfl) (by kernel_rfl) (by kernel_rfl) (by rfl) (v := ?_) (fun _ _ _ h => h) hHeld (fun w hSw => ?_) ?_
            rotate_left
            · (try dsimp only at hSw); go_simp <;> (with_reducible rfl)
            (try simp only [Act.put, List.setIfInBounds_toArray, List.set_cons_zero, List.set_cons_succ])
            refine wpAnyH_done (by kernel_rfl) ?_ _
            go_wp2
            go_ret
            exact ⟨rfl, bel_next hb9 hHeld⟩
          · have e8 : ((d : Int) < 8) = False := by simp; omega
            have f8 : decide ((d : Int) < 8) = false := by simp; omega
            clear hls1 hlt8 hok2 hb12 hLie2 hd8 hc256
            refine wp_region_held_drew (S := fun W => Below W9.heap.size W9 W) (by kernel_rfl) (below_drewN (Below.refl _ _) 1) (fun hHeld => ?_)
            refine rg_in 0 rfl (by kernel_rfl) (by kernel_rfl) (by kernel_rfl) (by rfl) (v := ?_) (fun _ _ _ h => h) hHeld (fun w hSw => ?_) ?_
            rotate_left
            · (try dsimp only at hSw); go_simp <;> (with_reducible rfl)
            (try simp only [Act.put, List.setIfInBounds_toArray, List.set_cons_zero, List.set_cons_succ])
            refine rg_in 1 rfl (by kernel_rfl) (by kernel_rfl) (by kernel_rfl) (by rfl) (v := ?_) (fun _ _ _ h => h) hHeld (fun w hSw => ?_) ?_
            rotate_left
            · (try dsimp only at hSw); go_simp <;> (with_reducible rfl)
            (try simp only [Act.put, List.setIfInBounds_toArray, List.set_cons_zero, List.set_cons_succ])
            refine rg_in 2 rfl (by kernel_rfl) (by kernel_rfl) (by kernel_rfl) (by rfl) (v := ?_) (fun _ _ _ h => h) hHeld (fun w hSw => ?_) ?_
            rotate_left
            · (try dsimp only at hSw); go_simp <;> (with_reducible rfl)
            (try simp only [Act.put, List.setIfInBounds_toArray, List.set_cons_zero, List.set_cons_succ])
            refine rg_in 3 rfl (by kernel_rfl) (by kernel_rfl) (by kernel_rfl) (by rfl) (v := ?_) (fun _ _ _ h => h) hHeld (fun w hSw => ?_) ?_
            rotate_left
            · (try dsimp only at hSw); go_simp <;> (with_reducible rfl)
            (try simp only [Act.put, List.setIfInBounds_toArray, List.set_cons_zero, List.set_cons_succ])
            refine rg_in 4 rfl (by kernel_rfl) (by kernel_rfl) (by kernel_rfl) (by rfl) (v := ?_) (fun _ _ _ h => h) hHeld (fun w hSw => ?_) ?_
            rotate_left
            · (try dsimp only at hSw); go_simp <;> (with_reducible rfl)
            (try simp only [Act.put, List.setIfInBounds_toArray, List.set_cons_zero, List.set_cons_succ])
            refine rg_in 5 rfl (by kernel_rfl) (by kernel_rfl) (by kernel_rfl) (by rfl) (v := ?_) (fun _ _ _ h => h) hHeld (fun w hSw => ?_) ?_
            rotate_left
            · (try dsimp only at hSw); go_simp <;> (with_reducible rfl)
            (try simp only [Act.put, List.setIfInBounds_toArray, List.set_cons_zero, List.set_cons_succ])
            refine rg_in 6 rfl (by kernel_rfl) (by kernel_rfl) (by kernel_rfl) (by rfl) (v := ?_) (fun _ _ _ h => h) hHeld (fun w hSw => ?_) ?_
            rotate_left
            · (try dsimp only at hSw); go_simp <;> (with_reducible rfl)
            (try simp only [Act.put, List.setIfInBounds_toArray, List.set_cons_zero, List.set_cons_succ])
            refine rg_in 7 rfl (by kernel_rfl) (by kernel_rfl) (by kernel_rfl) (by rfl) (v := ?_) (fun _ _ _ h => h) hHeld (fun w hSw => ?_) ?_
            rotate_left
            · (try dsimp only at hSw); go_simp <;> (with_reducible rfl)
            (try simp only [Act.put, List.setIfInBounds_toArray, List.set_cons_zero, List.set_cons_succ])
            refine rg_in 8 rfl (by kernel_rfl) (by kernel_rfl) (by kernel_rfl) (by rfl) (v := ?_) (fun _ _ _ h => h) hHeld (fun w hSw => ?_) ?_
            rotate_left
            · (try dsimp only at hSw); go_simp <;> (with_reducible rfl)
            (try simp only [Act.put, List.setIfInBounds_toArray, List.set_cons_zero, List.set_cons_succ])
            refine rg_in 9 rfl (by kernel_rfl) (by kernel_rfl) (by kernel_rfl) (by rfl) (v := ?_) (fun _ _ _ h => h) hHeld (fun w hSw => ?_) ?_
            rotate_left
            · (try dsimp only at hSw); go_simp <;> (with_reducible rfl)
            (try simp only [Act.put, List.setIfInBounds_toArray, List.set_cons_zero, List.set_cons_succ])
            refine rg_do 10 rfl (by kernel_rfl) (by rfl) (fun K hK => ?_)
            go_simp
            (go_at_call 15; (with_reducible refine (HD.out _ hHeld).mono ?_); (rintro e w110 ⟨rfl, hb10⟩))
            refine hK.out _ _ (S_call hb10 hHeld rfl) (fun hHeld => ?_)
            clear hK K
            (try simp only [Act.put, List.setIfInBounds_toArray, List.set_cons_zero, List.set_cons_succ])
            refine rg_in 11 rfl (by kernel_rfl) (by kernel_rfl) (by kernel_rfl) (by rfl) (v := ?_) (fun _ _ _ h => h) hHeld (fun w hSw => ?_) ?_
            rotate_left
            · (try dsimp only at hSw); go_simp <;> (with_reducible rfl)
            (try simp only [Act.put, List.setIfInBounds_toArray, List.set_cons_zero, List.set_cons_succ])
            refine rg_in 12 rfl (by kernel_rfl) (by kernel_rfl) (by kernel_rfl) (by rfl) (v := ?_) (fun _ _ _ h => h) hHeld (fun w hSw => ?_) ?_
            rotate_left
            · (try dsimp only at hSw); go_simp <;> (with_reducible rfl)
            (try simp only [Act.put, List.setIfInBounds_toArray, List.set_cons_zero, List.set_cons_succ])
            refine rg_off 13 rfl (by kernel_rfl) (by kernel_rfl) (by kernel_rfl) (by rfl) (fun _ _ _ h => h) hHeld ?_
            (try simp only [Act.put, List.setIfInBounds_toArray, List.set_cons_zero, List.set_cons_succ])
            refine rg_off 14 rfl (by kernel_rfl) (by kernel_rfl) (by kernel_rfl) (by rfl) (fun _ _ _ h => h) hHeld ?_
            (try simp only [Act.put, List.setIfInBounds_toArray, List.set_cons_zero, List.set_cons_succ])
            refine rg_off 15 rfl (by kernel_rfl) (by kernel_rfl) (by kernel_rfl) (by rfl) (fun _ _ _ h => h) hHeld ?_
            (try simp only [Act.put, List.setIfInBounds_toArray, List.set_cons_zero, List.set_cons_succ])
            refine rg_in 16 rfl (by kernel_rfl) (by kernel_rfl) (by kernel_rfl) (by rfl) (v := ?_) (fun _ _ _ h => h) hHeld (fun w hSw => ?_) ?_
            rotate_left
            · (try dsimp only at hSw); go_simp <;> (with_reducible rfl)
            (try simp only [Act.put, List.setIfInBounds_toArray, List.set_cons_zero, List.set_cons_succ])
            refine rg_in 17 rfl (by kernel_rfl) (by kernel_rfl) (by kernel_rfl) (by rfl) (v := ?_) (fun _ _ _ h => h) hHeld (fun w hSw => ?_) ?_
            rotate_left
            · (try dsimp only at hSw); go_simp <;> (with_reducible rfl)
            (try simp only [Act.put, List.setIfInBounds_toArray, List.set_cons_zero, List.set_cons_succ])
            refine rg_in 18 rfl (by kernel_rfl) (by kernel_rfl) (by kernel_rfl) (by rfl) (v := ?_) (fun _ _ _ h => h) hHeld (fun w hSw => ?_) ?_
            rotate_left
            · (try dsimp only at hSw); go_simp <;> (with_reducible rfl)
            (try simp only [Act.put, List.setIfInBounds_toArray, List.set_cons_zero, List.set_cons_succ])
            refine rg_in 19 rfl (by kernel_rfl) (by kernel_rfl) (by kernel_rfl) (by rfl) (v := ?_) (fun _ _ _ h => h) hHeld (fun w hSw => ?_) ?_
            rotate_left
            · (try dsimp only at hSw); go_simp <;> (with_reducible rfl)
            (try simp only [Act.put, List.setIfInBounds_toArray, List.set_cons_zero, List.set_cons_succ])
            refine rg_in 20 rfl (by kernel_rfl) (by kernel_rfl) (by kernel_rfl) (by rfl) (v := ?_) (fun _ _ _ h => h) hHeld (fun w hSw => ?_) ?_
            rotate_left
            · (try dsimp only at hSw); go_simp <;> (with_reducible rfl)
            (try simp only [Act.put, List.setIfInBounds_toArray, List.set_cons_zero, List.set_cons_succ])
            refine rg_in 21 rfl (by kernel_rfl) (by kernel_rfl) (by kernel_rfl) (by rfl) (v := ?_) (fun _ _ _ h => h) hHeld (fun w hSw => ?_) ?_
            rotate_left
            · (try dsimp only at hSw); go_simp <;> (with_reducible rfl)
            (try simp only [Act.put, List.setIfInBounds_toArray, List.set_cons_zero, List.set_cons_succ])
            refine rg_in 22 rfl (by kernel_rfl) (by kernel_rfl) (by kernel_rfl) (by rfl) (v := ?_) (fun _ _ _ h => h) hHeld (fun w hSw => ?_) ?_
            rotate_left
            · (try dsimp only at hSw); go_simp <;> (with_reducible rfl)
            (try simp only [Act.put, List.setIfInBounds_toArray, List.set_cons_zero, List.set_cons_succ])
            refine rg_off 23 rfl (by kernel_rfl) (by kernel_rfl) (by kernel_rfl) (by rfl) (fun _ _ _ h => h) hHeld ?_
            (try simp only [Act.put, List.setIfInBounds_toArray, List.set_cons_zero, List.set_cons_succ])
            refine rg_off 24 rfl (by kernel_rfl) (by kernel_rfl) (by kernel_rfl) (by rfl) (fun _ _ _ h => h) hHeld ?_
            (try simp only [Act.put, List.setIfInBounds_toArray, List.set_cons_zero, List.set_cons_succ])
            refine rg_off 25 rfl (by kernel_rfl) (by kernel_rfl) (by kernel_rfl) (by rfl) (fun _ _ _ h => h) hHeld ?_
            (try simp only [Act.put, List.setIfInBounds_toArray, List.set_cons_zero, List.set_cons_succ])
            refine rg_off 26 rfl (by kernel_rfl) (by kernel_rfl) (by kernel_rfl) (by rfl) (fun _ _ _ h => h) hHeld ?_
            (try simp only [Act.put, List.setIfInBounds_toArray, List.set_cons_zero, List.set_cons_succ])
            refine rg_off 27 rfl (by kernel_rfl) (by kernel_rfl) (by kernel_rfl) (by rfl) (fun _ _ _ h => h) hHeld ?_
            (try simp only [Act.put, List.setIfInBounds_toArray, List.set_cons_zero, List.set_cons_succ])
            refine rg_off 28 rfl (by kernel_rfl) (by kernel_rfl) (by kernel_rfl) (by rfl) (fun _ _ _ h => h) hHeld ?_
            (try simp only [Act.put, List.setIfInBounds_toArray, List.set_cons_zero, List.set_cons_succ])
            refine rg_in 29 rfl (by kernel_rfl) (by kernel_rfl) (by kernel_rfl) (by rfl) (v := ?_) (fun _ _ _ h => h) hHeld (fun w hSw => ?_) ?_
            rotate_left
            · (try dsimp only at hSw); go_simp <;> (with_reducible rfl)
            (try simp only [Act.put, List.setIfInBounds_toArray, List.set_cons_zero, List.set_cons_succ])
            refine rg_in 30 rfl (by kernel_rfl) (by kernel_rfl) (by kernel_rfl) (by rfl) (v := ?_) (fun _ _ _ h => h) hHeld (fun w hSw => ?_) ?_
            rotate_left
            · (try dsimp only at hSw); go_simp <;> (with_reducible rfl)
            (try simp only [Act.put, List.setIfInBounds_toArray, List.set_cons_zero, List.set_cons_succ])
            refine rg_in 31 rfl (by kernel_rfl) (by kernel_rfl) (by kernel_rfl) (by rfl) (v := ?_) (fun _ _ _ h => h) hHeld (fun w hSw => ?_) ?_
            rotate_left
            · (try dsimp only at hSw); go_simp <;> (with_reducible rfl)
            (try simp only [Act.put, List.setIfInBounds_toArray, List.set_cons_zero, List.set_cons_succ])
            refine wpAnyH_done (by kernel_rfl) ?_ _
            go_wp2
            go_ret
            exact ⟨rfl, bel_next hb9 hHeld⟩
theorem valueLists_walk (W : World) (a0 : Option Addr) (len0 cap0 : Nat) (l0 : List VT) (b0 : Shows W W.heap.size 5 a0 len0 (l0.flatMap VT.cells)) (ok0 : ∀ T ∈ l0, Lie W W.heap.size T) (z0 : a0 = none → cap0 = 0) (y0 : len0 ≤ cap0) (x0 : cap0 ≤ maxLen) (htab : UTab W) (hst : STab W) :
    Calls Tryd.prog 9 #[.slice a0 len0 cap0] W fun e w' => e = .returned (.bool true) ∧ Below W.heap.size W w' :=
  vlists_any W a0 len0 cap0 l0 W.heap.size (Nat.le_refl _) b0 ok0 y0 x0 htab hst
end Go.Proofs.YtnldiemggabdkaaDoor
