import Derived.Test.YtnldiemggabdkaaDoorGal
import Derived.Test.YtnldiemggabdkaaDoorGak
import Derived.Test.YtnldiemggabdkaaDoorGag
import Derived.Great.BuildSlice
import Derived.Deep.CutBlock
/-
  Layer 4, the reference: Same.
-/
namespace Go.Proofs.YtnldiemggabdkaaDoor
open Go.RowKit
set_option linter.unusedVariables false

theorem sameR_comm (T T' : VT) : sameR T' T = sameR T T' := by
  unfold sameR
  have : sameV T' T = sameV T T' := by
    rw [Bool.eq_iff_iff, sameV_iff, sameV_iff]
    exact ⟨fun h => h.symm, fun h => h.symm⟩
  rw [this]
  cases T.ok <;> cases T'.ok <;> rfl
theorem sameR_refl (T : VT) : sameR T T = T.ok := by
  cases h : T.ok with
  | true => exact sameR_self T h
  | false => unfold sameR; rw [h]; rfl
theorem ok_all {T : VT} (h : T.ok = true) : T.all = true := by unfold VT.ok at h; simp only [Bool.and_eq_true] at h; exact h.2.2
set_option maxRecDepth 20000 in
set_option maxHeartbeats 4000000 in
theorem rsame_any (T T' : VT) (B : Nat) (w : World) (hL : Lie w B T) (hL' : Lie w B T') (hS : Sml 1048576 T) (hS' : Sml 1048576 T') (hB : B ≤ w.heap.size) :
    Calls Tryd.prog 14 #[T.agg, T'.agg] w fun e w' => e = .returned (.bool (sameR T T')) ∧ Below w.heap.size w w' := by
  have HR := Lib.hid (fun W (h : Below w.heap.size w W) => right_any T B W (hL.later (h.mono hB)) hS (Nat.le_trans hB h.size))
  have HR' := Lib.hid (fun W (h : Below w.heap.size w W) => right_any T' B W (hL'.later (h.mono hB)) hS' (Nat.le_trans hB h.size))
  have HO := Lib.hid (fun (h1 : T.ok = true) (h2 : T'.ok = true) W (h : Below w.heap.size w W) => rone_any T T' B W (hL.later (h.mono hB)) (hL'.later (h.mono hB)) (Nat.le_trans hB h.size) (ok_all h1) (ok_all h2))
  have HF := Lib.hid (show sameR T T' = (T.ok && (T'.ok && sameV T T')) by unfold sameR; cases T.ok <;> cases T'.ok <;> rfl)
  generalize sameV T T' = sv at *
  generalize sameR T T' = sr at *
  cases ok1 : T.ok
  · rw [ok1] at HR
    have HG := Lib.hid (show sr = false by rw [HF.out, ok1]; rfl)
    clear HO HF HR' hL hL' hS hS' ok1
    obtain ⟨k, n, s, cA, cn, cc, kA, kn, kc, keys, kids⟩ := T
    obtain ⟨k', n', s', cA', cn', cc', kA', kn', kc', keys', kids'⟩ := T'
    simp only [VT.agg] at HR ⊢
    have hb1 := bel_alloc (bel_alloc (Below.refl w.heap.size w) (.cells #[.int .i64 k, .int .i64 n, .string s, .slice cA cn cc, .slice kA kn kc] 25)) (.cells #[.int .i64 k', .int .i64 n', .string s', .slice cA' cn' cc', .slice kA' kn' kc'] 25)
    go_enter Tryd.func14, Tryd.ntmps14
    go_wp2_with fail
    refine (HR.out _ hb1).mono ?_
    rintro e w1 ⟨rfl, hb2⟩
    go_wp2
    go_ret
    exact ⟨vret_b (by rw [HG.out]), bel_next hb1 hb2⟩
  · rw [ok1] at HR
    cases ok2 : T'.ok
    · rw [ok2] at HR'
      have HG := Lib.hid (show sr = false by rw [HF.out, ok1, ok2]; rfl)
      clear HO HF hL hL' hS hS' ok1 ok2
      obtain ⟨k, n, s, cA, cn, cc, kA, kn, kc, keys, kids⟩ := T
      obtain ⟨k', n', s', cA', cn', cc', kA', kn', kc', keys', kids'⟩ := T'
      simp only [VT.agg] at HR HR' ⊢
      have hb1 := bel_alloc (bel_alloc (Below.refl w.heap.size w) (.cells #[.int .i64 k, .int .i64 n, .string s, .slice cA cn cc, .slice kA kn kc] 25)) (.cells #[.int .i64 k', .int .i64 n', .string s', .slice cA' cn' cc', .slice kA' kn' kc'] 25)
      have Hu := Lib.hid (VFive.new (w.alloc (.cells #[.int .i64 k, .int .i64 n, .string s, .slice cA cn cc, .slice kA kn kc] 25)) (.int .i64 k') (.int .i64 n') (.string s') (.slice cA' cn' cc') (.slice kA' kn' kc') 25 (w.heap.size + 1) (World.size_alloc _ _))
      go_enter Tryd.func14, Tryd.ntmps14
      go_wp2_with fail
      refine (HR.out _ hb1).mono ?_
      rintro e w1 ⟨rfl, hb2⟩
      obtain ⟨⟨y0, y1, y2, y3, y4⟩, -⟩ := Hu.out.later hb2
      have hb3 := bel_next hb1 hb2
      go_wp2_with fail
      refine (HR'.out _ hb3).mono ?_
      rintro e w2 ⟨rfl, hb4⟩
      go_wp2
      go_ret
      exact ⟨vret_b (by rw [HG.out]), bel_next hb3 hb4⟩
    · rw [ok2] at HR'
      have HG := Lib.hid (show sr = sv by rw [HF.out, ok1, ok2]; rfl)
      have HO := Lib.hid (HO.out ok1 ok2)
      clear HF hL hL' hS hS' ok1 ok2
      obtain ⟨k, n, s, cA, cn, cc, kA, kn, kc, keys, kids⟩ := T
      obtain ⟨k', n', s', cA', cn', cc', kA', kn', kc', keys', kids'⟩ := T'
      simp only [VT.agg] at HR HR' HO ⊢
      have hb1 := bel_alloc (bel_alloc (Below.refl w.heap.size w) (.cells #[.int .i64 k, .int .i64 n, .string s, .slice cA cn cc, .slice kA kn kc] 25)) (.cells #[.int .i64 k', .int .i64 n', .string s', .slice cA' cn' cc', .slice kA' kn' kc'] 25)
      have Hv := Lib.hid ((VFive.new w (.int .i64 k) (.int .i64 n) (.string s) (.slice cA cn cc) (.slice kA kn kc) 25 w.heap.size rfl).alloc (.cells #[.int .i64 k', .int .i64 n', .string s', .slice cA' cn' cc', .slice kA' kn' kc'] 25))
      have Hu := Lib.hid (VFive.new (w.alloc (.cells #[.int .i64 k, .int .i64 n, .string s, .slice cA cn cc, .slice kA kn kc] 25)) (.int .i64 k') (.int .i64 n') (.string s') (.slice cA' cn' cc') (.slice kA' kn' kc') 25 (w.heap.size + 1) (World.size_alloc _ _))
      go_enter Tryd.func14, Tryd.ntmps14
      go_wp2_with fail
      refine (HR.out _ hb1).mono ?_
      rintro e w1 ⟨rfl, hb2⟩
      obtain ⟨⟨y0, y1, y2, y3, y4⟩, -⟩ := Hu.out.later hb2
      have hb3 := bel_next hb1 hb2
      go_wp2_with fail
      refine (HR'.out _ hb3).mono ?_
      rintro e w2 ⟨rfl, hb4⟩
      have hb5 := bel_next hb3 hb4
      clear y0 y1 y2 y3 y4
      obtain ⟨⟨y0, y1, y2, y3, y4⟩, -⟩ := (Hu.out.later hb2).later hb4
      obtain ⟨⟨z0, z1, z2, z3, z4⟩, -⟩ := (Hv.out.later hb2).later hb4
      go_wp2_with fail
      refine (HO.out _ hb5).mono ?_
      rintro e w3 ⟨rfl, hb6⟩
      go_wp2
      go_ret
      exact ⟨vret_b (by rw [HG.out]), bel_next hb5 hb6⟩
end Go.Proofs.YtnldiemggabdkaaDoor
/-
  Layer 4, the reference's Object: the walk.
-/
namespace Go.Proofs.YtnldiemggabdkaaDoor
open Go.RowKit
set_option linter.unusedVariables false

def TwJ (S : List PT) (a : Nat) (x : ByteArray) (e : Bool) : Prop := (e = true → ∃ ha : a < S.length, (S[a]).1 = x) ∧ (e = false → ∀ ha : a < S.length, (S[a]).1 ≠ x)
theorem keyAt_map {S : List PT} {q : Nat} (hq : q < S.length) : (S.map fun p => Value.string p.1)[q]? = some (.string (S[q]).1) := by
  rw [List.getElem?_map, List.getElem?_eq_getElem hq]; rfl
theorem flat_take {α : Type} (f : α → List Value) (k : Nat) (hf : ∀ x, (f x).length = k) : ∀ (S : List α) (a : Nat), (S.flatMap f).take (a * k) = (S.take a).flatMap f ∧ (S.flatMap f).drop (a * k) = (S.drop a).flatMap f
  | [], a => by simp
  | x :: S, 0 => by simp
  | x :: S, a + 1 => by
    have h := flat_take f k hf S a
    have e : (a + 1) * k - k = a * k := by rw [Nat.add_mul, Nat.one_mul, Nat.add_sub_cancel]
    have l : (f x).length ≤ (a + 1) * k := by rw [hf, Nat.add_mul, Nat.one_mul]; exact Nat.le_add_left _ _
    rw [List.flatMap_cons, List.take_append, List.drop_append, List.take_of_length_le l, List.drop_of_length_le l, hf, e, h.1, h.2]
    simp
theorem vcells_len (p : PT) : p.2.cells.length = 5 := by
  obtain ⟨x, T⟩ := p
  cases T; rfl
theorem sml_sc (k n : Int) (s : ByteArray) (hs : s.size ≤ 1048576) : Sml 1048576 (scV k n s) := .mk hs (fun x h => by cases h) (fun x h => by cases h)
theorem own_cap {W : World} {b size n c : Nat} {e : TypeId} {A : Option Addr} {xs : List Value} (ho : W.ownsRow b e size (.slice A n c) n xs) : n ≤ c := by
  rcases ho.2 with ⟨h, _⟩ | ⟨g, cap, cur, h, _, _, h1, h2, _⟩
  · injection h with h1 h2 h3; omega
  · injection h with e1 e2 e3; omega
section
variable {P : Program} {w w' : World} {o : Oper} {a : Act} {K : Act → World → Prop} {Q : Exit → Act → World → Prop}
theorem fill_s (x : ByteArray) : Instr.fill (fun q => some (q * 1, 1)) ((Array.range (1 * 1)).map ((Value.string ⟨#[]⟩).cells[· % (Value.string ⟨#[]⟩).cells.size]!)) [(0, .string x)] = some #[.string x] := by
  have e : Array.range (1 * 1) = #[0] := by first | rfl | decide
  rw [e]
  simp [Instr.fill, Value.cells]
theorem fill_v (v0 v1 v2 v3 v4 : Value) (h : (Value.agg #[v0, v1, v2, v3, v4]).cells = #[v0, v1, v2, v3, v4]) : Instr.fill (fun q => some (q * 5, 5)) ((Array.range (1 * 5)).map ((scV 0 0 ⟨#[]⟩).agg.cells[· % (scV 0 0 ⟨#[]⟩).agg.cells.size]!)) [(0, .agg #[v0, v1, v2, v3, v4])] = some #[v0, v1, v2, v3, v4] := by
  have e : Array.range (1 * 5) = #[0, 1, 2, 3, 4] := by first | rfl | decide
  rw [e]
  simp [Instr.fill, h]
/-- '[]T{x}'. -/
theorem step_row1 (t e : TypeId) (x : Operand) (ho : o.op = .buildSlice t 1 #[(0, x)]) (size : Nat) (i : TypeInfo) (z : Value) (ht : P.underlying t = some (.slice e)) (hi : P.info? e = some i) (hz : i.zero = some z) (hsize : i.size = size)
    (v : Value) (hx : a.eval x = v) (cells : Array Value) (hf : Instr.fill (fun q => some (q * size, size)) ((Array.range (1 * size)).map (z.cells[· % z.cells.size]!)) [(0, v)] = some cells) (hcs : cells.toList.length = 1 * size) (h0 : ¬ 1 * size = 0) (h24 : ¬ 1 * size > 2 ^ 24)
    (h : ∀ g w', w.heap.size ≤ g → Shows w' (g + 1) size (some ⟨g, 0, none⟩) 1 cells.toList → g + 1 ≤ w'.heap.size → Below w.heap.size w w' → K (a.put o.dst (.slice (some ⟨g, 0, none⟩) 1 1)) w') : o.wp P a w K Q := by
  refine wp_buildSlice t e 1 #[(0, x)] ho cells i z ht hi hz (by rw [hsize]; exact h24) (by rw [hsize]; exact h0) (by rw [hsize]; simpa [hx] using hf) ?_
  exact h w.heap.size (w.alloc (.cells cells e)) (Nat.le_refl _) (shows_new w cells e w.heap.size 1 size rfl hcs) (by rw [World.size_alloc]; exact Nat.le_refl _) ((Below.refl _ _).alloc (Nat.le_refl _) _)
/-- append onto nil. -/
theorem step_appN (s x : Operand) (t : TypeId) (ho : o.op = .call { callee := .builtin .append, args := #[s, x], argTypes := #[t, t] })
    (base : Nat) (e : TypeId) (i : TypeInfo) (z : Value) (size bytes : Nat) (ht : P.underlying t = some (.slice e)) (hi : P.info? e = some i) (hz : i.zero = some z)
    (hsize : i.size = size) (hby : i.bytes = bytes) (hzs : z.cells.size = size) (hsz : 0 < size)
    (hs : a.eval s = .slice none 0 0)
    (B : Nat) (A : Option Addr) (m c : Nat) (news : List Value) (hx : a.eval x = .slice A m c) (hr : Shows w B size A m news) (h1 : ∀ u ∈ news, u.oneCell' = true)
    (h63 : m ≤ maxLen) (hbytes : m * bytes ≤ 140737488355328) (hbase : base ≤ w.heap.size)
    (h : ∀ A' c' w', w'.ownsRow base e size (.slice A' m c') m news → Below w.heap.size w w' → K (a.put o.dst (.slice A' m c')) w') : o.wp P a w K Q := by
  refine wp_append_shows w s x t ho base e i z size bytes ht hi hz hsize hby hzs hsz (.slice none 0 0) 0 [] hs (World.ownsRow_nil _ _ _ _) B A m c news hx hr h1 (by omega) (by simpa using hbytes) hbase ?_
  intro A' c' w' ho' hg hB
  rw [Nat.zero_add, List.nil_append] at ho'
  rw [Nat.zero_add]
  exact h A' c' w' ho' ⟨hg.os, hg.tape, hg.output, hg.size, fun k hk => hg.block k hk (by simp [Value.ownBlock])⟩
end
set_option maxRecDepth 20000 in
set_option maxHeartbeats 8000000 in
theorem robj_any (A : Option Addr) (n c : Nat) (L : List PT) (B : Nat) (w : World) (h : Shows w B 6 A n (L.flatMap pCells)) (hB : B ≤ w.heap.size) (hn : n ≤ 1000)
    (hL : ∀ p ∈ L, (Lie w B p.2 ∧ p.1.size ≤ maxLen) ∧ Sml 1048576 p.2 ∧ p.1.size ≤ 1048576) :
    Calls Tryd.prog 31 #[.slice A n c] w fun e w' => ∃ X E, e = .returned (.tuple #[X.agg, .int .i64 E]) ∧ Hid (ResP L n X E) ∧ Lie w' w'.heap.size X ∧ Sml 1048576 X ∧ Below w.heap.size w w' := by
  obtain ⟨iS, hiS, hzS, hsS, hbS⟩ := vstr_info
  obtain ⟨iV, hiV, hzV, hsV, hbV⟩ := val_info
  have Hlen := Lib.hid (pairs_len h)
  have Hsh := Lib.hid (fun W (hb : Below w.heap.size w W) => h.below (hb.mono hB))
  have HL := Lib.hid hL
  have hb0 := bel_alloc (bel_alloc (Below.refl w.heap.size w) (.cells #[.int .i64 0, .int .i64 0, .string ⟨#[]⟩, .slice none 0 0, .slice none 0 0] 25)) (.cells #[.int .i64 6, .int .i64 0, .string ⟨#[]⟩, .slice none 0 0, .slice none 0 0] 25)
  have hr0 := Lib.hid ((show VFive (w.alloc (.cells #[.int .i64 0, .int .i64 0, .string ⟨#[]⟩, .slice none 0 0, .slice none 0 0] 25)) w.heap.size (.int .i64 0) (.int .i64 0) (.string ⟨#[]⟩) (.slice none 0 0) (.slice none 0 0) from VFive.new _ _ _ _ _ _ _ _ rfl).alloc (.cells #[.int .i64 6, .int .i64 0, .string ⟨#[]⟩, .slice none 0 0, .slice none 0 0] 25))
  have ho0 := Lib.hid (show VFive ((w.alloc (.cells #[.int .i64 0, .int .i64 0, .string ⟨#[]⟩, .slice none 0 0, .slice none 0 0] 25)).alloc (.cells #[.int .i64 6, .int .i64 0, .string ⟨#[]⟩, .slice none 0 0, .slice none 0 0] 25)) (w.heap.size + 1) (.int .i64 6) (.int .i64 0) (.string ⟨#[]⟩) (.slice none 0 0) (.slice none 0 0) from VFive.new _ _ _ _ _ _ _ _ (World.size_alloc _ _))
  have hMx : 1000 ≤ maxLen := by decide
  clear h hL
  go_enter Tryd.func31, Tryd.ntmps31
  go_upto_region 2 with fail
  generalize ((w.alloc (.cells #[.int .i64 0, .int .i64 0, .string ⟨#[]⟩, .slice none 0 0, .slice none 0 0] 25)).alloc (.cells #[.int .i64 6, .int .i64 0, .string ⟨#[]⟩, .slice none 0 0, .slice none 0 0] 25)) = W1 at *
  go_wp2
  go_loopw [5] (fun i wr => ∃ (j : Nat) (S : List PT) (cA kA : Option Addr) (cc kc : Nat), j ≤ n ∧ i = .int .i64 j ∧ Hid (InsJ L j S) ∧ Hid (VFive wr (w.heap.size + 1) (.int .i64 6) (.int .i64 0) (.string ⟨#[]⟩) (.slice cA j cc) (.slice kA j kc)) ∧ Hid (VFive wr w.heap.size (.int .i64 0) (.int .i64 0) (.string ⟨#[]⟩) (.slice none 0 0) (.slice none 0 0)) ∧
    Hid (wr.ownsRow (w.heap.size + 2) 9 1 (.slice kA j kc) j (S.map fun p => Value.string p.1)) ∧ Hid (wr.ownsRow (w.heap.size + 2) 25 5 (.slice cA j cc) j (S.flatMap fun p => p.2.cells)) ∧ Below w.heap.size w wr) (fun i _ => n - (intOf i).toNat)
  case atStart => exact ⟨0, [], none, none, 0, 0, Nat.zero_le _, rfl, Lib.hid ⟨List.Pairwise.nil, by simp⟩, ho0, hr0, Lib.hid (World.ownsRow_nil _ _ _ _), Lib.hid (World.ownsRow_nil _ _ _ _), hb0⟩
  case round =>
    obtain ⟨j, S, cA, kA, cc, kc, hj, rfl, HI, HO, HR, HK, HC, hbr⟩ := hrel
    rename World => W0
    by_cases hlt : j < n
    · obtain ⟨b, off, x, T, rfl, _, hx, h6⟩ := pair_at (Hsh.out W0 hbr) hlt
      have Hx := Lib.hid hx
      obtain ⟨tk, tn, ts, tcA, tcn, tcc, tkA, tkn, tkc, tkeys, tkids⟩ := T
      obtain ⟨g0, g1, g2, g3, g4, g5⟩ := h6
      have hlt' : (j : Int) < n := by omega
      have hj0 : (0 : Int) ≤ j := by omega
      have HSl := Lib.hid (HI.out.len (L := L) (by rw [Hlen.out]; exact hj))
      have HSk := Lib.hid (show Shows W0 W0.heap.size 1 kA j ((S.map Prod.fst).map Value.string) by rw [List.map_map]; exact Shows.own HK.out)
      have o4 : ∀ W, Below W0.heap.size W0 W → W.cell? ⟨w.heap.size + 1, 4, none⟩ = some (.slice kA j kc) := fun W h => (HO.out.later h).1.2.2.2.2
      have x0 : ∀ W, Below W0.heap.size W0 W → W.cell? ⟨b, off + j * 6, none⟩ = some (.string x) := fun W h => kept_later h g0
      have ka : ∀ a, a < j → ∃ kb ko y, kA = some ⟨kb, ko, none⟩ ∧ S[a]?.map Prod.fst = some y ∧ ∀ W, Below W0.heap.size W0 W → W.cell? ⟨kb, ko + a, none⟩ = some (.string y) := fun a ha => by
        obtain ⟨kb, ko, e, _, hc⟩ := key_at HSk.out ha
        refine ⟨kb, ko, _, e, ?_, fun W h => kept_later h hc⟩
        rw [List.getD_eq_getElem?_getD, List.getElem?_map, List.getElem?_eq_getElem (show a < S.length by rw [HSl.out]; exact ha)]
        rfl
      have Hka := Lib.hid ka
      clear ka hx
      go_upto_block 2 with fail
      go_cut [6] (fun s wx => ∃ a : Nat, a ≤ j ∧ s = .int .i64 a ∧ Hid (∀ q (hq : q < S.length), q < a → vless (S[q]).1 x = true) ∧ Hid (∀ ha : a < S.length, vless (S[a]).1 x = false) ∧ Below W0.heap.size W0 wx)
      case first =>
        go_wp2
        go_loopw [6] (fun i wi => ∃ a : Nat, a ≤ j ∧ i = .int .i64 a ∧ Hid (∀ q (hq : q < S.length), q < a → vless (S[q]).1 x = true) ∧ Below W0.heap.size W0 wi) (fun i _ => j - (intOf i).toNat)
        case atStart => exact ⟨0, Nat.zero_le _, rfl, Lib.hid (fun q _ h => absurd h (Nat.not_lt_zero q)), Below.refl _ _⟩
        case round =>
          obtain ⟨a, ha, rfl, HA, hbi⟩ := hrel
          rename World => wi
          have ha0 : (0 : Int) ≤ a := by omega
          have o4' := o4 _ hbi
          have x0' := x0 _ hbi
          by_cases halt : a < j
          · obtain ⟨kb, ko, y, rfl, hy, hyc⟩ := Hka.out a halt
            have Hy := Lib.hid (show ∀ ha : a < S.length, (S[a]).1 = y from fun ha => by rw [List.getElem?_eq_getElem ha] at hy; injection hy)
            have halt' : (a : Int) < j := by omega
            have hyc' := hyc _ hbi
            clear hy hyc o4 x0 g0 g1 g2 g3 g4 g5
            go_upto_region 6 with fail
            go_cut [33] (fun s wx => s = .bool (Op.bytesLess y.toList x.toList) ∧ Below W0.heap.size W0 wx)
            case first =>
              go_quiet (fail)
              go_wp2
              go_meet
              case rel => exact ⟨rfl, below_drewN hbi _⟩
            case rest =>
              obtain ⟨rfl, hbc⟩ := hcut
              cases hv : Op.bytesLess y.toList x.toList
              · go_wp2
                go_meet
                case rel => exact ⟨a, ha, rfl, HA, Lib.hid (fun h => by rw [Hy.out h]; exact hv), hbc⟩
              · have HA' := Lib.hid (show ∀ q (hq : q < S.length), q < a + 1 → vless (S[q]).1 x = true from fun q hq h => if e : q = a then by subst e; rw [Hy.out hq]; exact hv else HA.out q hq (by omega))
                go_wp2
                go_roundw
                case rel => exact ⟨a + 1, by omega, by go_num, HA', hbc⟩
                case measure => simp [intOf]; omega
          · have hnl : ¬ ((a : Int) < j) := by omega
            clear Hka o4 x0 g0 g1 g2 g3 g4 g5
            go_upto_region 6 with fail
            go_cut [33] (fun s wx => s = .bool false ∧ Below W0.heap.size W0 wx)
            case first =>
              go_quiet (fail)
              go_wp2
              go_meet
              case rel => exact ⟨rfl, below_drewN hbi _⟩
            case rest =>
              obtain ⟨rfl, hbc⟩ := hcut
              go_wp2
              go_meet
              case rel => exact ⟨a, ha, rfl, HA, Lib.hid (fun h => absurd h (by rw [HSl.out]; omega)), hbc⟩
      case rest =>
        obtain ⟨a, ha, rfl, HA, HF, hbi⟩ := hcut
        rename World => Wi
        have ha0 : (0 : Int) ≤ a := by omega
        have o4' := o4 _ hbi
        have x0' := x0 _ hbi
        go_upto_region 8 with fail
        go_cut [53] (fun s wx => ∃ e : Bool, s = .bool e ∧ Hid (TwJ S a x e) ∧ Below W0.heap.size W0 wx)
        case first =>
          by_cases halt : a < j
          · obtain ⟨kb, ko, y, rfl, hy, hyc⟩ := Hka.out a halt
            have Hy := Lib.hid (show ∀ ha : a < S.length, (S[a]).1 = y from fun ha => by rw [List.getElem?_eq_getElem ha] at hy; injection hy)
            have halt' : (a : Int) < j := by omega
            have hyc' := hyc _ hbi
            have HE := Lib.hid (show TwJ S a x (y.toList == x.toList) from ⟨fun h => ⟨by rw [HSl.out]; exact halt, by
              rw [Hy.out]; have := beq_iff_eq.1 h; rw [ByteArray.toList_eq, ByteArray.toList_eq] at this; exact ByteArray.ext (Array.toList_inj.1 this)⟩, fun h ha e => by rw [Hy.out ha] at e; subst e; simp at h⟩)
            clear hy hyc o4 x0 g0 g1 g2 g3 g4 g5
            go_quiet (fail)
            go_wp2
            go_meet
            case rel => exact ⟨_, rfl, HE, below_drewN hbi _⟩
          · have hnl : ¬ ((a : Int) < j) := by omega
            have HE := Lib.hid (show TwJ S a x false from ⟨fun h => (by cases h), fun _ h => absurd h (by rw [HSl.out]; exact halt)⟩)
            clear Hka o4 x0 g0 g1 g2 g3 g4 g5
            go_quiet (fail)
            go_wp2
            go_meet
            case rel => exact ⟨_, rfl, HE, below_drewN hbi _⟩
        case rest =>
          obtain ⟨e, rfl, HE, hbc⟩ := hcut
          rename World => W8
          cases e
          · have hno := HE.out.2 rfl
            have HI' := Lib.hid (HI.out.next Hx.out HA.out (fun h => ⟨HF.out h, hno h⟩))
            have hkc := own_cap HK.out
            have hcc := own_cap HC.out
            have hac : a ≤ kc := Nat.le_trans ha hkc
            have hac2 : a ≤ cc := Nat.le_trans ha hcc
            have hk8 := own_later HK.out hbc
            have hc8 := own_later HC.out hbc
            have HKs := Lib.hid (Shows.own hk8)
            have HCs := Lib.hid (Shows.own hc8)
            have HO8 := Lib.hid (HO.out.later hbc)
            have HR8 := Lib.hid (HR.out.later hbc)
            have hbw := bel_next hbr hbc
            have o4 : ∀ W, Below W8.heap.size W8 W → W.cell? ⟨w.heap.size + 1, 4, none⟩ = some (.slice kA j kc) := fun W h => (HO8.out.later h).1.2.2.2.2
            have o3 : ∀ W, Below W8.heap.size W8 W → W.cell? ⟨w.heap.size + 1, 3, none⟩ = some (.slice cA j cc) := fun W h => (HO8.out.later h).1.2.2.2.1
            have p0 : ∀ W, Below W8.heap.size W8 W → W.cell? ⟨b, off + j * 6, none⟩ = some (.string x) := fun W h => kept_later h (kept_later hbc g0)
            have ks1 : ∀ W, Below W8.heap.size W8 W → Shows W W8.heap.size 1 kA a ((S.map fun p => Value.string p.1).take a) := fun W h => by
              have := (HKs.out.first ha).below h
              simpa only [Nat.mul_one] using this
            have ks2 : ∀ W, Below W8.heap.size W8 W → Shows W W8.heap.size 1 (if kc = a then kA else kA.map (·.add a)) (j - a) ((S.map fun p => Value.string p.1).drop a) := fun W h => by
              have := (HKs.out.cut ha hkc).below h
              simpa only [Nat.mul_one] using this
            have k1 : ∀ u ∈ (S.map fun p => Value.string p.1), u.oneCell' = true := fun u hu => by
              obtain ⟨p, _, rfl⟩ := List.mem_map.1 hu; rfl
            have k1a : ∀ u ∈ (S.map fun p => Value.string p.1).take a, u.oneCell' = true := fun u hu => k1 u (List.mem_of_mem_take hu)
            have k1b : ∀ u ∈ (S.map fun p => Value.string p.1).drop a, u.oneCell' = true := fun u hu => k1 u (List.mem_of_mem_drop hu)
            have HKe := Lib.hid (show ((S.map fun p => Value.string p.1).take a ++ [Value.string x]) ++ (S.map fun p => Value.string p.1).drop a = (insAt S (x, .mk tk tn ts tcA tcn tcc tkA tkn tkc tkeys tkids) a).map (fun p => Value.string p.1) by
              unfold insAt; simp)
            have Hsum := Lib.hid (show a + 1 + (j - a) = j + 1 by omega)
            have K1a := Lib.hid k1a
            have K1b := Lib.hid k1b
            have Ks1 := Lib.hid ks1
            have Ks2 := Lib.hid ks2
            have hb8 := Lib.hid hbc
            clear hno HE HA HF Hka x0 o4' x0' hbi hbc hbr k1 k1a k1b ks1 ks2 hk8 hc8 HKs HK HC HO HR
            go_upto_region 12 with fail
            go_cut [7] (fun s7 wx => ∃ A' c', s7 = .slice A' (j + 1) c' ∧ Hid (wx.ownsRow W8.heap.size 9 1 (.slice A' (j + 1) c') (j + 1) ((insAt S (x, .mk tk tn ts tcA tcn tcc tkA tkn tkc tkeys tkids) a).map fun p => Value.string p.1)) ∧ Below W8.heap.size W8 wx)
            case first =>
              refine wp_region_held_drew (S := fun W => Below W8.heap.size W8 W) (by kernel_rfl) (below_drewN (Below.refl _ _) 1) (fun hHeld => ?_)
              refine rg_in 0 rfl (by kernel_rfl) (by kernel_rfl) (by kernel_rfl) (by rfl) (v := ?_) (fun _ _ _ h => h) hHeld (fun w hSw => ?_) ?_
              rotate_left
              · (try dsimp only at hSw); go_simp <;> (with_reducible rfl)
              (try simp only [Act.put, List.setIfInBounds_toArray, List.set_cons_zero, List.set_cons_succ])
              refine rg_in 1 rfl (by kernel_rfl) (by kernel_rfl) (by kernel_rfl) (by rfl) (v := ?_) (fun _ _ _ h => h) hHeld (fun w hSw => ?_) ?_
              rotate_left
              · (try dsimp only at hSw); go_simp <;> (with_reducible rfl)
              (try simp only [Act.put, List.setIfInBounds_toArray, List.set_cons_zero, List.set_cons_succ])
              refine rg_in 2 rfl (by kernel_rfl) (by kernel_rfl) (by kernel_rfl) (by rfl) (v := ?_) (fun _ _ _ h => h) hHeld (fun w hSw => ?_) ?_
              rotate_left
              · (try dsimp only at hSw); go_simp <;> (with_reducible rfl)
              (try simp only [Act.put, List.setIfInBounds_toArray, List.set_cons_zero, List.set_cons_succ])
              refine rg_in 3 rfl (by kernel_rfl) (by kernel_rfl) (by kernel_rfl) (by rfl) (v := ?_) (fun _ _ _ h => h) hHeld (fun w hSw => ?_) ?_
              rotate_left
              · (try dsimp only at hSw); go_simp <;> (with_reducible rfl)
              (try simp only [Act.put, List.setIfInBounds_toArray, List.set_cons_zero, List.set_cons_succ])
              refine rg_in 4 rfl (by kernel_rfl) (by kernel_rfl) (by kernel_rfl) (by rfl) (v := ?_) (fun _ _ _ h => h) hHeld (fun w hSw => ?_) ?_
              rotate_left
              · (try dsimp only at hSw); go_simp <;> (with_reducible rfl)
              (try simp only [Act.put, List.setIfInBounds_toArray, List.set_cons_zero, List.set_cons_succ])
              refine rg_in 6 rfl (by kernel_rfl) (by kernel_rfl) (by kernel_rfl) (by rfl) (v := ?_) (fun _ _ _ h => h) hHeld (fun w hSw => ?_) ?_
              rotate_left
              · (try dsimp only at hSw); go_simp <;> (with_reducible rfl)
              (try simp only [Act.put, List.setIfInBounds_toArray, List.set_cons_zero, List.set_cons_succ])
              refine rg_in 7 rfl (by kernel_rfl) (by kernel_rfl) (by kernel_rfl) (by rfl) (v := ?_) (fun _ _ _ h => h) hHeld (fun w hSw => ?_) ?_
              rotate_left
              · (try dsimp only at hSw); go_simp <;> (with_reducible rfl)
              (try simp only [Act.put, List.setIfInBounds_toArray, List.set_cons_zero, List.set_cons_succ])
              refine rg_in 8 rfl (by kernel_rfl) (by kernel_rfl) (by kernel_rfl) (by rfl) (v := ?_) (fun _ _ _ h => h) hHeld (fun w hSw => ?_) ?_
              rotate_left
              · (try dsimp only at hSw); go_simp <;> (with_reducible rfl)
              (try simp only [Act.put, List.setIfInBounds_toArray, List.set_cons_zero, List.set_cons_succ])
              refine rg_in 9 rfl (by kernel_rfl) (by kernel_rfl) (by kernel_rfl) (by rfl) (v := ?_) (fun _ _ _ h => h) hHeld (fun w hSw => ?_) ?_
              rotate_left
              · (try dsimp only at hSw); go_simp <;> (with_reducible rfl)
              (try simp only [Act.put, List.setIfInBounds_toArray, List.set_cons_zero, List.set_cons_succ])
              refine rg_in 10 rfl (by kernel_rfl) (by kernel_rfl) (by kernel_rfl) (by rfl) (v := ?_) (fun _ _ _ h => h) hHeld (fun w hSw => ?_) ?_
              rotate_left
              · (try dsimp only at hSw); go_simp <;> (with_reducible rfl)
              (try simp only [Act.put, List.setIfInBounds_toArray, List.set_cons_zero, List.set_cons_succ])
              refine rg_in 13 rfl (by kernel_rfl) (by kernel_rfl) (by kernel_rfl) (by rfl) (v := ?_) (fun _ _ _ h => h) hHeld (fun w hSw => ?_) ?_
              rotate_left
              · (try dsimp only at hSw); go_simp <;> (with_reducible rfl)
              (try simp only [Act.put, List.setIfInBounds_toArray, List.set_cons_zero, List.set_cons_succ])
              refine rg_in 14 rfl (by kernel_rfl) (by kernel_rfl) (by kernel_rfl) (by rfl) (v := ?_) (fun _ _ _ h => h) hHeld (fun w hSw => ?_) ?_
              rotate_left
              · (try dsimp only at hSw); go_simp <;> (with_reducible rfl)
              (try simp only [Act.put, List.setIfInBounds_toArray, List.set_cons_zero, List.set_cons_succ])
              refine rg_in 15 rfl (by kernel_rfl) (by kernel_rfl) (by kernel_rfl) (by rfl) (v := ?_) (fun _ _ _ h => h) hHeld (fun w hSw => ?_) ?_
              rotate_left
              · (try dsimp only at hSw); go_simp <;> (with_reducible rfl)
              (try simp only [Act.put, List.setIfInBounds_toArray, List.set_cons_zero, List.set_cons_succ])
              refine rg_in 16 rfl (by kernel_rfl) (by kernel_rfl) (by kernel_rfl) (by rfl) (v := ?_) (fun _ _ _ h => h) hHeld (fun w hSw => ?_) ?_
              rotate_left
              · (try dsimp only at hSw); go_simp <;> (with_reducible rfl)
              (try simp only [Act.put, List.setIfInBounds_toArray, List.set_cons_zero, List.set_cons_succ])
              refine wpAnyH_ready (rs := [5, 11]) (by kernel_rfl) (by simp) ?_
              refine rg_cons rfl (by rfl) (fun K hK => ?_) ?_
              · refine step_appN _ _ 23 rfl W8.heap.size 9 iS (.string ⟨#[]⟩) 1 16 Tryd.underlying23 hiS hzS hsS hbS rfl (by decide) rfl _ _ _ _ _ rfl (Ks1.out _ hHeld) K1a.out (by omega) (by omega) hHeld.size ?_
                intro A105 c105 w105 own105 hb5
                refine hK.out _ _ (S_call hb5 hHeld rfl) (fun hHeld => ?_)
                clear hK K
                (try simp only [Act.put, List.setIfInBounds_toArray, List.set_cons_zero, List.set_cons_succ])
                refine rg_do 11 rfl (by kernel_rfl) (by rfl) (fun K hK => ?_)
                refine step_row1 23 9 _ rfl 1 iS (.string ⟨#[]⟩) Tryd.underlying23 hiS hzS hsS (.string x) rfl #[.string x] (fill_s x) rfl (by decide) (by decide) ?_
                intro g111 w111 hge11 sh11 hl11 hb11
                refine hK.out _ _ (S_call hb11 hHeld rfl) (fun hHeld => ?_)
                clear hK K
                (try simp only [Act.put, List.setIfInBounds_toArray, List.set_cons_zero, List.set_cons_succ])
                refine rg_do 12 rfl (by kernel_rfl) (by rfl) (fun K hK => ?_)
                refine wp_append_shows _ _ _ 23 rfl W8.heap.size 9 iS (.string ⟨#[]⟩) 1 16 Tryd.underlying23 hiS hzS hsS hbS rfl (by decide) _ _ _ rfl (own_later own105 hb11) _ _ _ _ _ rfl (sh11.below ((Below.refl _ _).mono hl11)) (by intro u hu; rcases List.mem_singleton.1 hu with rfl; rfl) (by omega) (by omega) hHeld.size ?_
                intro A112 c112 w112 own112 hg12 hB12
                refine hK.out _ _ (hHeld.trans hB12) (fun hHeld => ?_)
                clear hK K
                (try simp only [Act.put, List.setIfInBounds_toArray, List.set_cons_zero, List.set_cons_succ])
                refine rg_do 17 rfl (by kernel_rfl) (by rfl) (fun K hK => ?_)
                refine wp_append_shows _ _ _ 23 rfl W8.heap.size 9 iS (.string ⟨#[]⟩) 1 16 Tryd.underlying23 hiS hzS hsS hbS rfl (by decide) _ _ _ rfl own112 _ _ _ _ _ rfl (Ks2.out _ hHeld) K1b.out (by omega) (by omega) hHeld.size ?_
                intro A117 c117 w117 own117 hg17 hB17
                refine hK.out _ _ (hHeld.trans hB17) (fun hHeld => ?_)
                clear hK K
                (try simp only [Act.put, List.setIfInBounds_toArray, List.set_cons_zero, List.set_cons_succ])
                refine rg_in 18 rfl (by kernel_rfl) (by kernel_rfl) (by kernel_rfl) (by rfl) (v := ?_) (fun _ _ _ h => h) hHeld (fun w hSw => ?_) ?_
                rotate_left
                · (try dsimp only at hSw); go_simp <;> (with_reducible rfl)
                (try simp only [Act.put, List.setIfInBounds_toArray, List.set_cons_zero, List.set_cons_succ])
                refine wpAnyH_done (by kernel_rfl) ?_ _
                rw [Hsum.out] at own117
                rw [show [Value.string x] = #[Value.string x].toList from rfl] at HKe
                rw [HKe.out] at own117
                go_wp2
                all_goals (go_meet; (case rel => exact ⟨_, _, by rw [Hsum.out], Lib.hid own117, hHeld⟩))
              refine rg_cons rfl (by rfl) (fun K hK => ?_) ?_
              · refine step_row1 23 9 _ rfl 1 iS (.string ⟨#[]⟩) Tryd.underlying23 hiS hzS hsS (.string x) rfl #[.string x] (fill_s x) rfl (by decide) (by decide) ?_
                intro g111 w111 hge11 sh11 hl11 hb11
                refine hK.out _ _ (S_call hb11 hHeld rfl) (fun hHeld => ?_)
                clear hK K
                (try simp only [Act.put, List.setIfInBounds_toArray, List.set_cons_zero, List.set_cons_succ])
                refine rg_do 5 rfl (by kernel_rfl) (by rfl) (fun K hK => ?_)
                refine step_appN _ _ 23 rfl W8.heap.size 9 iS (.string ⟨#[]⟩) 1 16 Tryd.underlying23 hiS hzS hsS hbS rfl (by decide) rfl _ _ _ _ _ rfl (Ks1.out _ hHeld) K1a.out (by omega) (by omega) hHeld.size ?_
                intro A105 c105 w105 own105 hb5
                refine hK.out _ _ (S_call hb5 hHeld rfl) (fun hHeld => ?_)
                clear hK K
                (try simp only [Act.put, List.setIfInBounds_toArray, List.set_cons_zero, List.set_cons_succ])
                refine rg_do 12 rfl (by kernel_rfl) (by rfl) (fun K hK => ?_)
                refine wp_append_shows _ _ _ 23 rfl W8.heap.size 9 iS (.string ⟨#[]⟩) 1 16 Tryd.underlying23 hiS hzS hsS hbS rfl (by decide) _ _ _ rfl (own_later own105 (Below.refl _ _)) _ _ _ _ _ rfl (sh11.below (hb5.mono hl11)) (by intro u hu; rcases List.mem_singleton.1 hu with rfl; rfl) (by omega) (by omega) hHeld.size ?_
                intro A112 c112 w112 own112 hg12 hB12
                refine hK.out _ _ (hHeld.trans hB12) (fun hHeld => ?_)
                clear hK K
                (try simp only [Act.put, List.setIfInBounds_toArray, List.set_cons_zero, List.set_cons_succ])
                refine rg_do 17 rfl (by kernel_rfl) (by rfl) (fun K hK => ?_)
                refine wp_append_shows _ _ _ 23 rfl W8.heap.size 9 iS (.string ⟨#[]⟩) 1 16 Tryd.underlying23 hiS hzS hsS hbS rfl (by decide) _ _ _ rfl own112 _ _ _ _ _ rfl (Ks2.out _ hHeld) K1b.out (by omega) (by omega) hHeld.size ?_
                intro A117 c117 w117 own117 hg17 hB17
                refine hK.out _ _ (hHeld.trans hB17) (fun hHeld => ?_)
                clear hK K
                (try simp only [Act.put, List.setIfInBounds_toArray, List.set_cons_zero, List.set_cons_succ])
                refine rg_in 18 rfl (by kernel_rfl) (by kernel_rfl) (by kernel_rfl) (by rfl) (v := ?_) (fun _ _ _ h => h) hHeld (fun w hSw => ?_) ?_
                rotate_left
                · (try dsimp only at hSw); go_simp <;> (with_reducible rfl)
                (try simp only [Act.put, List.setIfInBounds_toArray, List.set_cons_zero, List.set_cons_succ])
                refine wpAnyH_done (by kernel_rfl) ?_ _
                rw [Hsum.out] at own117
                rw [show [Value.string x] = #[Value.string x].toList from rfl] at HKe
                rw [HKe.out] at own117
                go_wp2
                all_goals (go_meet; (case rel => exact ⟨_, _, by rw [Hsum.out], Lib.hid own117, hHeld⟩))
              exact AllReadyH.nil
            case rest =>
              obtain ⟨A7, c7, rfl, H7, hbc⟩ := hcut
              rename World => W9
              have o3' : ∀ W, Below W9.heap.size W9 W → W.cell? ⟨w.heap.size + 1, 3, none⟩ = some (.slice cA j cc) := fun W h => o3 W (bel_next hbc h)
              have p1 : ∀ W, Below W9.heap.size W9 W → W.cell? ⟨b, off + j * 6 + 1, none⟩ = some (.int .i64 tk) := fun W h => kept_later h (kept_later hbc (kept_later hb8.out g1))
              have p2 : ∀ W, Below W9.heap.size W9 W → W.cell? ⟨b, off + j * 6 + 2, none⟩ = some (.int .i64 tn) := fun W h => kept_later h (kept_later hbc (kept_later hb8.out g2))
              have p3 : ∀ W, Below W9.heap.size W9 W → W.cell? ⟨b, off + j * 6 + 3, none⟩ = some (.string ts) := fun W h => kept_later h (kept_later hbc (kept_later hb8.out g3))
              have p4 : ∀ W, Below W9.heap.size W9 W → W.cell? ⟨b, off + j * 6 + 4, none⟩ = some (.slice tcA tcn tcc) := fun W h => kept_later h (kept_later hbc (kept_later hb8.out g4))
              have p5 : ∀ W, Below W9.heap.size W9 W → W.cell? ⟨b, off + j * 6 + 5, none⟩ = some (.slice tkA tkn tkc) := fun W h => kept_later h (kept_later hbc (kept_later hb8.out g5))
              have hcs9 := HCs.out.below hbc
              have Cs1 := Lib.hid (show ∀ W, Below W9.heap.size W9 W → Shows W W8.heap.size 5 cA a ((S.flatMap fun p => p.2.cells).take (a * 5)) from fun W h => (hcs9.first ha).below (h.mono hbc.size))
              have Cs2 := Lib.hid (show ∀ W, Below W9.heap.size W9 W → Shows W W8.heap.size 5 (if cc = a then cA else cA.map (·.add (a * 5))) (j - a) ((S.flatMap fun p => p.2.cells).drop (a * 5)) from fun W h => (hcs9.cut ha hcc).below (h.mono hbc.size))
              have c1 : ∀ u ∈ (S.flatMap fun p => p.2.cells), u.oneCell' = true := fun u hu => by
                obtain ⟨p, _, hp⟩ := List.mem_flatMap.1 hu; exact cells_one p.2 u hp
              have C1a := Lib.hid (show ∀ u ∈ (S.flatMap fun p => p.2.cells).take (a * 5), u.oneCell' = true from fun u hu => c1 u (List.mem_of_mem_take hu))
              have C1b := Lib.hid (show ∀ u ∈ (S.flatMap fun p => p.2.cells).drop (a * 5), u.oneCell' = true from fun u hu => c1 u (List.mem_of_mem_drop hu))
              have C1x := Lib.hid (show ∀ u ∈ [Value.int .i64 tk, .int .i64 tn, .string ts, .slice tcA tcn tcc, .slice tkA tkn tkc], u.oneCell' = true from cells_one (.mk tk tn ts tcA tcn tcc tkA tkn tkc tkeys tkids))
              have HCe := Lib.hid (show ((S.flatMap fun p => p.2.cells).take (a * 5) ++ [Value.int .i64 tk, .int .i64 tn, .string ts, .slice tcA tcn tcc, .slice tkA tkn tkc]) ++ (S.flatMap fun p => p.2.cells).drop (a * 5) = (insAt S (x, .mk tk tn ts tcA tcn tcc tkA tkn tkc tkeys tkids) a).flatMap (fun p => p.2.cells) by
                rw [(flat_take _ 5 vcells_len S a).1, (flat_take _ 5 vcells_len S a).2]
                unfold insAt
                simp [VT.cells])
              have hl8 : w.heap.size + 1 < W8.heap.size := World.block_lt_of_cell? W8 _ HO8.out.1.1
              have HO9 := Lib.hid (HO8.out.later hbc)
              have HR9 := Lib.hid (HR8.out.later hbc)
              have hbw9 := bel_next hbw hbc
              have hs89 := hbc.size
              clear o3 o4 p0 hcs9 c1 HCs HKe K1a K1b Ks1 Ks2 hbc hb8 g0 g1 g2 g3 g4 g5 HO8 HR8 hbw
              go_upto_region 13 with fail
              go_cut [8] (fun s8 wx => ∃ A' c', s8 = .slice A' (j + 1) c' ∧ Hid (wx.ownsRow W9.heap.size 25 5 (.slice A' (j + 1) c') (j + 1) ((insAt S (x, .mk tk tn ts tcA tcn tcc tkA tkn tkc tkeys tkids) a).flatMap fun p => p.2.cells)) ∧ Below W9.heap.size W9 wx)
              case first =>
                refine wp_region_held_drew (S := fun W => Below W9.heap.size W9 W) (by kernel_rfl) (below_drewN (Below.refl _ _) 1) (fun hHeld => ?_)
                refine rg_in 0 rfl (by kernel_rfl) (by kernel_rfl) (by kernel_rfl) (by rfl) (v := ?_) (fun _ _ _ h => h) hHeld (fun w hSw => ?_) ?_
                rotate_left
                · (try dsimp only at hSw); go_simp <;> (with_reducible rfl)
                (try simp only [Act.put, List.setIfInBounds_toArray, List.set_cons_zero, List.set_cons_succ])
                refine rg_in 1 rfl (by kernel_rfl) (by kernel_rfl) (by kernel_rfl) (by rfl) (v := ?_) (fun _ _ _ h => h) hHeld (fun w hSw => ?_) ?_
                rotate_left
                · (try dsimp only at hSw); go_simp <;> (with_reducible rfl)
                (try simp only [Act.put, List.setIfInBounds_toArray, List.set_cons_zero, List.set_cons_succ])
                refine rg_in 2 rfl (by kernel_rfl) (by kernel_rfl) (by kernel_rfl) (by rfl) (v := ?_) (fun _ _ _ h => h) hHeld (fun w hSw => ?_) ?_
                rotate_left
                · (try dsimp only at hSw); go_simp <;> (with_reducible rfl)
                (try simp only [Act.put, List.setIfInBounds_toArray, List.set_cons_zero, List.set_cons_succ])
                refine rg_in 3 rfl (by kernel_rfl) (by kernel_rfl) (by kernel_rfl) (by rfl) (v := ?_) (fun _ _ _ h => h) hHeld (fun w hSw => ?_) ?_
                rotate_left
                · (try dsimp only at hSw); go_simp <;> (with_reducible rfl)
                (try simp only [Act.put, List.setIfInBounds_toArray, List.set_cons_zero, List.set_cons_succ])
                refine rg_in 4 rfl (by kernel_rfl) (by kernel_rfl) (by kernel_rfl) (by rfl) (v := ?_) (fun _ _ _ h => h) hHeld (fun w hSw => ?_) ?_
                rotate_left
                · (try dsimp only at hSw); go_simp <;> (with_reducible rfl)
                (try simp only [Act.put, List.setIfInBounds_toArray, List.set_cons_zero, List.set_cons_succ])
                refine rg_in 6 rfl (by kernel_rfl) (by kernel_rfl) (by kernel_rfl) (by rfl) (v := ?_) (fun _ _ _ h => h) hHeld (fun w hSw => ?_) ?_
                rotate_left
                · (try dsimp only at hSw); go_simp <;> (with_reducible rfl)
                (try simp only [Act.put, List.setIfInBounds_toArray, List.set_cons_zero, List.set_cons_succ])
                refine rg_in 7 rfl (by kernel_rfl) (by kernel_rfl) (by kernel_rfl) (by rfl) (v := ?_) (fun _ _ _ h => h) hHeld (fun w hSw => ?_) ?_
                rotate_left
                · (try dsimp only at hSw); go_simp <;> (with_reducible rfl)
                (try simp only [Act.put, List.setIfInBounds_toArray, List.set_cons_zero, List.set_cons_succ])
                refine rg_in 8 rfl (by kernel_rfl) (by kernel_rfl) (by kernel_rfl) (by rfl) (v := ?_) (fun _ _ _ h => h) hHeld (fun w hSw => ?_) ?_
                rotate_left
                · (try dsimp only at hSw); go_simp <;> (with_reducible rfl)
                (try simp only [Act.put, List.setIfInBounds_toArray, List.set_cons_zero, List.set_cons_succ])
                refine rg_in 9 rfl (by kernel_rfl) (by kernel_rfl) (by kernel_rfl) (by rfl) (v := ?_) (fun _ _ _ h => h) hHeld (fun w hSw => ?_) ?_
                rotate_left
                · (try dsimp only at hSw); go_simp <;> (with_reducible rfl)
                (try simp only [Act.put, List.setIfInBounds_toArray, List.set_cons_zero, List.set_cons_succ])
                refine rg_in 10 rfl (by kernel_rfl) (by kernel_rfl) (by kernel_rfl) (by rfl) (v := ?_) (fun _ _ _ h => h) hHeld (fun w hSw => ?_) ?_
                rotate_left
                · (try dsimp only at hSw); go_simp <;> (with_reducible rfl)
                (try simp only [Act.put, List.setIfInBounds_toArray, List.set_cons_zero, List.set_cons_succ])
                refine rg_in 13 rfl (by kernel_rfl) (by kernel_rfl) (by kernel_rfl) (by rfl) (v := ?_) (fun _ _ _ h => h) hHeld (fun w hSw => ?_) ?_
                rotate_left
                · (try dsimp only at hSw); go_simp <;> (with_reducible rfl)
                (try simp only [Act.put, List.setIfInBounds_toArray, List.set_cons_zero, List.set_cons_succ])
                refine rg_in 14 rfl (by kernel_rfl) (by kernel_rfl) (by kernel_rfl) (by rfl) (v := ?_) (fun _ _ _ h => h) hHeld (fun w hSw => ?_) ?_
                rotate_left
                · (try dsimp only at hSw); go_simp <;> (with_reducible rfl)
                (try simp only [Act.put, List.setIfInBounds_toArray, List.set_cons_zero, List.set_cons_succ])
                refine rg_in 15 rfl (by kernel_rfl) (by kernel_rfl) (by kernel_rfl) (by rfl) (v := ?_) (fun _ _ _ h => h) hHeld (fun w hSw => ?_) ?_
                rotate_left
                · (try dsimp only at hSw); go_simp <;> (with_reducible rfl)
                (try simp only [Act.put, List.setIfInBounds_toArray, List.set_cons_zero, List.set_cons_succ])
                refine rg_in 16 rfl (by kernel_rfl) (by kernel_rfl) (by kernel_rfl) (by rfl) (v := ?_) (fun _ _ _ h => h) hHeld (fun w hSw => ?_) ?_
                rotate_left
                · (try dsimp only at hSw); go_simp <;> (with_reducible rfl)
                (try simp only [Act.put, List.setIfInBounds_toArray, List.set_cons_zero, List.set_cons_succ])
                refine wpAnyH_ready (rs := [5, 11]) (by kernel_rfl) (by simp) ?_
                refine rg_cons rfl (by rfl) (fun K hK => ?_) ?_
                · refine step_appN _ _ 22 rfl W9.heap.size 25 iV _ 5 _ Tryd.underlying22 hiV hzV hsV hbV rfl (by decide) rfl _ _ _ _ _ rfl (Cs1.out _ hHeld) C1a.out (by omega) (by omega) hHeld.size ?_
                  intro A105 c105 w105 own105 hb5
                  refine hK.out _ _ (S_call hb5 hHeld rfl) (fun hHeld => ?_)
                  clear hK K
                  (try simp only [Act.put, List.setIfInBounds_toArray, List.set_cons_zero, List.set_cons_succ])
                  refine rg_do 11 rfl (by kernel_rfl) (by rfl) (fun K hK => ?_)
                  refine step_row1 22 25 _ rfl 5 iV _ Tryd.underlying22 hiV hzV hsV (.agg #[.int .i64 tk, .int .i64 tn, .string ts, .slice tcA tcn tcc, .slice tkA tkn tkc]) rfl #[.int .i64 tk, .int .i64 tn, .string ts, .slice tcA tcn tcc, .slice tkA tkn tkc] (fill_v _ _ _ _ _ rfl) rfl (by decide) (by decide) ?_
                  intro g111 w111 hge11 sh11 hl11 hb11
                  refine hK.out _ _ (S_call hb11 hHeld rfl) (fun hHeld => ?_)
                  clear hK K
                  (try simp only [Act.put, List.setIfInBounds_toArray, List.set_cons_zero, List.set_cons_succ])
                  refine rg_do 12 rfl (by kernel_rfl) (by rfl) (fun K hK => ?_)
                  refine wp_append_shows _ _ _ 22 rfl W9.heap.size 25 iV _ 5 _ Tryd.underlying22 hiV hzV hsV hbV rfl (by decide) _ _ _ rfl (own_later own105 hb11) _ _ _ _ _ rfl (sh11.below ((Below.refl _ _).mono hl11)) C1x.out (by omega) (by omega) hHeld.size ?_
                  intro A112 c112 w112 own112 hg12 hB12
                  refine hK.out _ _ (hHeld.trans hB12) (fun hHeld => ?_)
                  clear hK K
                  (try simp only [Act.put, List.setIfInBounds_toArray, List.set_cons_zero, List.set_cons_succ])
                  refine rg_do 17 rfl (by kernel_rfl) (by rfl) (fun K hK => ?_)
                  refine wp_append_shows _ _ _ 22 rfl W9.heap.size 25 iV _ 5 _ Tryd.underlying22 hiV hzV hsV hbV rfl (by decide) _ _ _ rfl own112 _ _ _ _ _ rfl (Cs2.out _ hHeld) C1b.out (by omega) (by omega) hHeld.size ?_
                  intro A117 c117 w117 own117 hg17 hB17
                  refine hK.out _ _ (hHeld.trans hB17) (fun hHeld => ?_)
                  clear hK K
                  (try simp only [Act.put, List.setIfInBounds_toArray, List.set_cons_zero, List.set_cons_succ])
                  refine rg_in 18 rfl (by kernel_rfl) (by kernel_rfl) (by kernel_rfl) (by rfl) (v := ?_) (fun _ _ _ h => h) hHeld (fun w hSw => ?_) ?_
                  rotate_left
                  · (try dsimp only at hSw); go_simp <;> (with_reducible rfl)
                  (try simp only [Act.put, List.setIfInBounds_toArray, List.set_cons_zero, List.set_cons_succ])
                  refine wpAnyH_done (by kernel_rfl) ?_ _
                  rw [Hsum.out] at own117
                  have own117' : w117.ownsRow W9.heap.size 25 5 (.slice A117 (j + 1) c117) (j + 1) _ := HCe.out ▸ own117
                  go_wp2
                  all_goals (go_meet; (case rel => exact ⟨_, _, by rw [Hsum.out], Lib.hid own117', hHeld⟩))
                refine rg_cons rfl (by rfl) (fun K hK => ?_) ?_
                · refine step_row1 22 25 _ rfl 5 iV _ Tryd.underlying22 hiV hzV hsV (.agg #[.int .i64 tk, .int .i64 tn, .string ts, .slice tcA tcn tcc, .slice tkA tkn tkc]) rfl #[.int .i64 tk, .int .i64 tn, .string ts, .slice tcA tcn tcc, .slice tkA tkn tkc] (fill_v _ _ _ _ _ rfl) rfl (by decide) (by decide) ?_
                  intro g111 w111 hge11 sh11 hl11 hb11
                  refine hK.out _ _ (S_call hb11 hHeld rfl) (fun hHeld => ?_)
                  clear hK K
                  (try simp only [Act.put, List.setIfInBounds_toArray, List.set_cons_zero, List.set_cons_succ])
                  refine rg_do 5 rfl (by kernel_rfl) (by rfl) (fun K hK => ?_)
                  refine step_appN _ _ 22 rfl W9.heap.size 25 iV _ 5 _ Tryd.underlying22 hiV hzV hsV hbV rfl (by decide) rfl _ _ _ _ _ rfl (Cs1.out _ hHeld) C1a.out (by omega) (by omega) hHeld.size ?_
                  intro A105 c105 w105 own105 hb5
                  refine hK.out _ _ (S_call hb5 hHeld rfl) (fun hHeld => ?_)
                  clear hK K
                  (try simp only [Act.put, List.setIfInBounds_toArray, List.set_cons_zero, List.set_cons_succ])
                  refine rg_do 12 rfl (by kernel_rfl) (by rfl) (fun K hK => ?_)
                  refine wp_append_shows _ _ _ 22 rfl W9.heap.size 25 iV _ 5 _ Tryd.underlying22 hiV hzV hsV hbV rfl (by decide) _ _ _ rfl (own_later own105 (Below.refl _ _)) _ _ _ _ _ rfl (sh11.below (hb5.mono hl11)) C1x.out (by omega) (by omega) hHeld.size ?_
                  intro A112 c112 w112 own112 hg12 hB12
                  refine hK.out _ _ (hHeld.trans hB12) (fun hHeld => ?_)
                  clear hK K
                  (try simp only [Act.put, List.setIfInBounds_toArray, List.set_cons_zero, List.set_cons_succ])
                  refine rg_do 17 rfl (by kernel_rfl) (by rfl) (fun K hK => ?_)
                  refine wp_append_shows _ _ _ 22 rfl W9.heap.size 25 iV _ 5 _ Tryd.underlying22 hiV hzV hsV hbV rfl (by decide) _ _ _ rfl own112 _ _ _ _ _ rfl (Cs2.out _ hHeld) C1b.out (by omega) (by omega) hHeld.size ?_
                  intro A117 c117 w117 own117 hg17 hB17
                  refine hK.out _ _ (hHeld.trans hB17) (fun hHeld => ?_)
                  clear hK K
                  (try simp only [Act.put, List.setIfInBounds_toArray, List.set_cons_zero, List.set_cons_succ])
                  refine rg_in 18 rfl (by kernel_rfl) (by kernel_rfl) (by kernel_rfl) (by rfl) (v := ?_) (fun _ _ _ h => h) hHeld (fun w hSw => ?_) ?_
                  rotate_left
                  · (try dsimp only at hSw); go_simp <;> (with_reducible rfl)
                  (try simp only [Act.put, List.setIfInBounds_toArray, List.set_cons_zero, List.set_cons_succ])
                  refine wpAnyH_done (by kernel_rfl) ?_ _
                  rw [Hsum.out] at own117
                  have own117' : w117.ownsRow W9.heap.size 25 5 (.slice A117 (j + 1) c117) (j + 1) _ := HCe.out ▸ own117
                  go_wp2
                  all_goals (go_meet; (case rel => exact ⟨_, _, by rw [Hsum.out], Lib.hid own117', hHeld⟩))
                exact AllReadyH.nil
              case rest =>
                obtain ⟨A8, c8, rfl, H8, hbc⟩ := hcut
                rename World => WA
                have HOA := Lib.hid (HO9.out.later hbc)
                have HRA := Lib.hid (HR9.out.later hbc)
                have H7A := Lib.hid (own_later H7.out hbc)
                have hbwA := bel_next hbw9 hbc
                have hl9 : w.heap.size + 1 < W9.heap.size := Nat.lt_of_lt_of_le hl8 hs89
                clear HO9 HR9 H7 hbw9 hbc o3' p1 p2 p3 p4 p5 Cs1 Cs2 C1a C1b C1x HCe
                obtain ⟨⟨q0, q1, q2, q3, q4⟩, f0, f1, f2, f3, f4⟩ := HOA.out
                go_wp2
                go_roundw
                case rel =>
                  exact ⟨j + 1, _, A8, A7, c8, c7, by omega, by go_num, HI', Lib.hid (HOA.out.set4.set3), Lib.hid (HRA.out.keep ((Below.heap_setCell _ _ _ _ (Nat.ne_of_lt (Nat.lt_succ_self _))).trans (Below.heap_setCell _ _ _ _ (Nat.ne_of_lt (Nat.lt_succ_self _))))),
                    Lib.hid (own_base (own_set (own_set H7A.out hl8) hl8) (by omega)), Lib.hid (own_base (own_set (own_set H8.out hl9) hl9) (by omega)), (hbwA.setCell (Nat.le_succ _) _).setCell (Nat.le_succ _) _⟩
                case measure => simp [intOf]; omega
          · obtain ⟨has, hax⟩ := HE.out.1 rfl
            have HRes := Lib.hid (show ResP L n (scV 0 0 ⟨#[]⟩) 141 from .inl ⟨HI.out.twice Hx.out has hax, rfl, rfl⟩)
            have hz := HR.out.later hbc
            obtain ⟨⟨q0, q1, q2, q3, q4⟩, f0, f1, f2, f3, f4⟩ := hz
            have hbw := bel_next hbr hbc
            clear HE has hax Hka o4 x0 o4' x0' g0 g1 g2 g3 g4 g5 hbi hbr hbc
            go_wp2
            refine bodyPost_ret (v := .tuple #[(scV 0 0 ⟨#[]⟩).agg, .int .i64 141]) ?_ rfl ⟨_, _, rfl, HRes, lie_sc _ _ _ _ _ (by decide) (by decide) (by decide), sml_sc _ _ _ (Nat.zero_le _), vbelow_set5 hbw (Nat.le_refl _)⟩
            simp [results, Tryd.results31, scV, VT.agg, go_sem, *]
    · obtain rfl : j = n := by omega
      have Hall := Lib.hid (InsJ.all (L := L) (S := S) (by rw [Hlen.out]; exact HI.out))
      have HLs := Lib.hid (show ∀ p ∈ S, (Lie w B p.2 ∧ p.1.size ≤ maxLen) ∧ Sml 1048576 p.2 ∧ p.1.size ≤ 1048576 from fun p hp => HL.out p ((srtP_perm L).mem_iff.1 (Hall.out.2 ▸ hp)))
      have HLie := Lib.hid (show ∀ W, W.ownsRow (w.heap.size + 2) 9 1 (.slice kA j kc) j (S.map fun p => Value.string p.1) → W.ownsRow (w.heap.size + 2) 25 5 (.slice cA j cc) j (S.flatMap fun p => p.2.cells) → Below w.heap.size w W → Lie W W.heap.size (obV cA j cc kA kc S) from fun W h1 h2 hb => obj_lie h1 h2 (fun p hp => ⟨((HLs.out p hp).1.1.later (hb.mono hB)).more (Nat.le_trans hB hb.size), (HLs.out p hp).1.2⟩))
      have HSm := Lib.hid (show Sml 1048576 (obV cA j cc kA kc S) from .mk (Nat.zero_le _) (fun x hx => by
        obtain ⟨p, hp, rfl⟩ := List.mem_map.1 hx; exact (HLs.out p hp).2.2) (fun x hx => by
        obtain ⟨p, hp, rfl⟩ := List.mem_map.1 hx; exact (HLs.out p hp).2.1))
      have hright := right_any (obV cA j cc kA kc S) W0.heap.size W0 (HLie.out W0 HK.out HC.out hbr) HSm.out (Nat.le_refl _)
      rw [ob_ok] at hright
      simp only [VT.agg] at hright
      obtain ⟨⟨o0, o1, o2, o3, o4⟩, -⟩ := HO.out
      have hnl : ¬ ((j : Int) < j) := by omega
      cases hob : obok j S
      · rw [hob] at hright
        have HRes := Lib.hid (show ResP L j (scV 0 0 ⟨#[]⟩) 140 from .inr ⟨Hall.out.1, .inr ⟨by rw [← Hall.out.2]; exact hob, rfl, rfl⟩⟩)
        clear hob hlt hj
        go_wp2_with fail
        refine hright.mono ?_
        rintro e W2 ⟨rfl, hb2⟩
        obtain ⟨⟨q0, q1, q2, q3, q4⟩, f0, f1, f2, f3, f4⟩ := HR.out.later hb2
        have hbw := bel_next hbr hb2
        clear o0 o1 o2 o3 o4
        go_wp2
        refine bodyPost_ret (v := .tuple #[(scV 0 0 ⟨#[]⟩).agg, .int .i64 140]) ?_ rfl ⟨_, _, rfl, HRes, lie_sc _ _ _ _ _ (by decide) (by decide) (by decide), sml_sc _ _ _ (Nat.zero_le _), vbelow_set5 hbw (Nat.le_refl _)⟩
        simp [results, Tryd.results31, scV, VT.agg, go_sem, *]
      · rw [hob] at hright
        have HRes := Lib.hid (show ResP L j (obV cA j cc kA kc S) 0 from .inr ⟨Hall.out.1, .inl ⟨by rw [← Hall.out.2]; exact hob, ⟨kA, kc, cA, cc, by rw [← Hall.out.2]⟩, rfl⟩⟩)
        clear hob hlt hj
        go_wp2_with fail
        refine hright.mono ?_
        rintro e W2 ⟨rfl, hb2⟩
        obtain ⟨⟨q0, q1, q2, q3, q4⟩, f0, f1, f2, f3, f4⟩ := HR.out.later hb2
        obtain ⟨⟨e0, e1, e2, e3, e4⟩, -⟩ := HO.out.later hb2
        have hbw := bel_next hbr hb2
        clear o0 o1 o2 o3 o4
        go_wp2
        refine bodyPost_ret (v := .tuple #[(obV cA j cc kA kc S).agg, .int .i64 0]) ?_ rfl ⟨_, _, rfl, HRes, HLie.out _ (own_set5 (own_later HK.out hb2) (by omega)) (own_set5 (own_later HC.out hb2) (by omega)) (vbelow_set5 hbw (Nat.le_refl _)), HSm.out, vbelow_set5 hbw (Nat.le_refl _)⟩
        simp [results, Tryd.results31, VT.agg, go_sem, *]
end Go.Proofs.YtnldiemggabdkaaDoor
