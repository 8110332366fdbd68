/-
  Layer 4: SortFunc at pairs, of whatever length.
-/
import Derived.Test.YtnldiemggabdkaaDoorSrt
import Derived.Shelf.SlSortCmp.NoneTotal
import Derived.Test.YtnldiemggabdkaaDoorValD
import Derived.Test.YtnldiemggabdkaaDoorRg
namespace Go.Proofs.YtnldiemggabdkaaDoor
open Go.RowKit
open Go.Sort (grow flatK get_flatK size_flatK HoldsK putRowK putRow mapBlock alloc_eq_grow grow_grow)
set_option linter.unusedVariables false

instance : Inhabited VT := ⟨scV 0 0 ⟨#[]⟩⟩
def cfP (p q : PT) : Int := vcmp p.1 q.1
def ltP (p q : PT) : Bool := vless p.1 q.1
theorem ltP_of : ltOf cfP = ltP := by
  funext p q
  unfold ltOf cfP ltP vcmp
  by_cases h : vless p.1 q.1 = true
  · simp [h]
  · simp only [h]
    by_cases h2 : vless q.1 p.1 = true <;> simp [h2]
theorem swoP : Sort.SWO (ltOf cfP) := by
  rw [ltP_of]
  refine ⟨fun x => vless_irr _, fun x y z h g => vless_tr h g, fun x y z h g => ?_⟩
  cases hx : ltP x z with
  | false => rfl
  | true =>
    exfalso
    unfold ltP at h g hx
    cases hyx : vless y.1 x.1 with
    | true => rw [vless_tr hyx hx] at g; cases g
    | false =>
      have e := vtri _ _ h hyx
      unfold vless at g hx
      rw [e] at hx
      rw [hx] at g; cases g
set_option maxRecDepth 20000 in
theorem vpcmp_lays (x y : ByteArray) (a1 a2 a3 a4 a5 b1 b2 b3 b4 b5 : Value) (w : World) :
    Calls Tryd.prog 49 #[.agg #[.string x, a1, a2, a3, a4, a5], .agg #[.string y, b1, b2, b3, b4, b5]] w fun e w' => e = .returned (.int .i64 (vcmp x y)) ∧ ∃ q os', w' = grow (w.drewN q) os' := by
  have hc := fun W => vcompare_any x y W
  generalize vcmp x y = z at *
  go_enter Tryd.func49, Tryd.ntmps49
  go_wp2_with (go_at_call 50; refine (hc _).mono ?_; rintro e w' ⟨rfl, rfl⟩)
  go_ret
  exact ⟨rfl, 0, _, by rw [alloc_eq_grow, alloc_eq_grow, grow_grow]; rfl⟩
theorem cmpLaysP (blk off size : Nat) (w : World) : CmpLays Tryd.prog 49 #[] pCells 6 cfP blk off size w := by
  intro m os dk hs p q
  obtain ⟨x, k, n, s, cA, cn, cc, kA, kn, kc, keys, kids⟩ := p
  obtain ⟨x', k', n', s', cA', cn', cc', kA', kn', kc', keys', kids'⟩ := q
  exact vpcmp_lays x x' _ _ _ _ _ _ _ _ _ _ _
/-- The pairs, sorted. -/
def srtP (L : List PT) : List PT := (Sort.pdq (ltOf cfP) L.toArray 0 L.toArray.size (Lib.bitLen L.toArray.size) true true).toList
theorem srtP_sorts (L : List PT) : Sort.PermIn 0 L.toArray.size L.toArray (Sort.pdq (ltOf cfP) L.toArray 0 L.toArray.size (Lib.bitLen L.toArray.size) true true) ∧ Sort.SortedIn (ltOf cfP) 0 L.toArray.size (Sort.pdq (ltOf cfP) L.toArray 0 L.toArray.size (Lib.bitLen L.toArray.size) true true) :=
  Sort.pdq_sorts (ltOf cfP) swoP L.toArray 0 L.toArray.size (Lib.bitLen L.toArray.size) true true (Nat.zero_le _) (Nat.le_refl _) (Or.inl rfl)
theorem srtP_len (L : List PT) : (srtP L).length = L.length := by
  have := (srtP_sorts L).1.1
  unfold srtP
  rw [Array.length_toList, this]
  simp
theorem srtP_perm (L : List PT) : (srtP L).Perm L := by
  obtain ⟨h1, -, h3⟩ := (srtP_sorts L).1
  have e1 : (Sort.pdq (ltOf cfP) L.toArray 0 L.toArray.size (Lib.bitLen L.toArray.size) true true).extract 0 L.toArray.size = Sort.pdq (ltOf cfP) L.toArray 0 L.toArray.size (Lib.bitLen L.toArray.size) true true := by
    generalize Sort.pdq (ltOf cfP) L.toArray 0 L.toArray.size (Lib.bitLen L.toArray.size) true true = Z at h1 ⊢
    rw [← h1]; exact Array.extract_size
  have e2 : L.toArray.extract 0 L.toArray.size = L.toArray := Array.extract_size
  rw [e1, e2] at h3
  exact h3
theorem get_of {L : List PT} {i : Nat} (hi : i < L.length) (a : Array PT) (ha : a.toList = L) : a[i]! = L[i] := by
  subst ha
  rw [getElem!_pos a i (by simpa using hi)]
  simp
theorem srtP_sorted (L : List PT) (i j : Nat) (hij : i < j) (hj : j < (srtP L).length) : vless ((srtP L)[j]).1 ((srtP L)[i]'(by omega)).1 = false := by
  have h := (srtP_sorts L).2 i j (Nat.zero_le _) hij (by have := srtP_len L; simp; omega)
  rw [ltP_of] at h
  rw [get_of (L := srtP L) (by omega) _ (by unfold srtP; rw [ltP_of]), get_of (L := srtP L) (by omega) _ (by unfold srtP; rw [ltP_of])] at h
  exact h
/-- A row of pairs is held, as the sort's contract says it. -/
theorem flatK_at {L : List PT} {a : Array PT} (ha : a.toList = L) {t : Nat} (ht : t < L.length * 6) : (L.flatMap pCells)[t]? = some ((flatK pCells 6 a)[t]!) := by
  have hs : a.size = L.length := by rw [← ha]; simp
  rw [get_flatK pCells 6 a t (by rw [hs]; exact ht)]
  have hi : t / 6 < L.length := by omega
  have e : t = t / 6 * 6 + t % 6 := by omega
  conv => lhs; rw [e]
  rw [pflat_get L (t / 6) (t % 6) hi (Nat.mod_lt _ (by decide)), get_of hi a ha]
  have hl : t % 6 < (pCells L[t / 6]).length := by rw [pCells_len]; exact Nat.mod_lt _ (by decide)
  rw [List.getElem?_eq_getElem hl, getElem!_pos (pCells L[t / 6]) (t % 6) hl]
theorem holds_own {W : World} {base g n c : Nat} {L : List PT} (h : W.ownsRow base 48 6 (.slice (some ⟨g, 0, none⟩) n c) n (L.flatMap pCells)) : HoldsK pCells 6 W g 0 L.toArray := by
  have hl := h.1
  rw [pflat_len] at hl
  intro t ht
  rw [size_flatK] at ht
  have ht' : t < L.length * 6 := by simpa using ht
  rw [Nat.zero_add]
  refine ⟨?_, h.frozenAt t⟩
  rw [h.cellAt t (by omega)]
  exact flatK_at (by simp) ht'
theorem shows_held {W : World} {B g n : Nat} {L : List PT} {a : Array PT} (ha : a.toList = L) (hn : L.length = n) (hg : g < B) (h : HoldsK pCells 6 W g 0 a) : Shows W B 6 (some ⟨g, 0, none⟩) n (L.flatMap pCells) := by
  have hs : a.size = L.length := by rw [← ha]; simp
  refine ⟨by rw [pflat_len, hn], fun _ => ⟨g, 0, rfl, hg, fun j u hu => ?_⟩⟩
  have hj : j < L.length * 6 := by
    have := (List.getElem?_eq_some_iff.1 hu).1
    rwa [pflat_len] at this
  have h0 := (h j (by rw [size_flatK, hs]; exact hj)).1
  rw [flatK_at ha hj] at hu
  rw [h0]
  exact hu
theorem below_sorted {W : World} {B g m : Nat} (hg : B ≤ g) (a : Array PT) (os : Array Obj) (hs : g < W.heap.size) : Below B W (sortWorldK pCells 6 W g 0 m a os) ∧ g < (sortWorldK pCells 6 W g 0 m a os).heap.size := by
  have hsz : (sortWorldK pCells 6 W g 0 m a os).heap.size = W.heap.size + os.size := by simp [sortWorldK, grow, putRowK, putRow, mapBlock, Sort.ahead]
  refine ⟨⟨rfl, rfl, rfl, by omega, fun k hk => ?_⟩, by omega⟩
  show ((W.heap.modify g _) ++ os)[k]? = _
  rw [Array.getElem?_append_left (by simp; omega), Array.getElem?_modify, if_neg (by omega)]
set_option maxRecDepth 20000 in
set_option maxHeartbeats 1000000 in
theorem sortP_any (A : Option Addr) (n c base : Nat) (L : List PT) (W : World) (h : W.ownsRow base 48 6 (.slice A n c) n (L.flatMap pCells)) (hb : base ≤ W.heap.size) (hn : n ≤ 1000) :
    Calls Tryd.prog 48 #[.slice A n c, .func (.func 49) #[] #[]] W fun e w' => e = .returned (.tuple #[]) ∧ Below base W w' ∧ Hid (Shows w' w'.heap.size 6 A n ((srtP L).flatMap pCells)) := by
  have hl := h.1
  rw [pflat_len] at hl
  have hln : L.length = n := by omega
  rcases Nat.eq_zero_or_pos n with rfl | hpos
  · have hs0 : srtP L = [] := List.eq_nil_of_length_eq_zero (by rw [srtP_len, hln])
    rw [hs0]
    refine (AnyF.slices_SortFunc_none Tryd.sortPair A c (.func (.func 49) #[] #[]) W).mono ?_
    rintro e w' ⟨rfl, rfl⟩
    exact ⟨rfl, Below.refl _ _, Lib.hid (Shows.zero A)⟩
  · obtain ⟨g, cap, hv, hlo, hlt⟩ := h.form hpos
    obtain rfl : A = some ⟨g, 0, none⟩ := by injection hv
    have eg : ∀ args w, (callFunc 49 args).run Tryd.prog w = .ok (.enter 49 args) w := enters_of Tryd.func49 (by kernel_rfl) rfl
    have hz : L.toArray.size = n := by simp [hln]
    have hcon := AnyQ.slices_SortFunc_eq Tryd.sortPair 6 (by intro w; rfl) (by intro w; rfl) pCells pCells_len (fun x v hv => by
      refine pcells_one [x] v ?_
      simpa using hv) cfP swoP 49 #[] g 0 c L.toArray W eg (cmpLaysP g 0 _ W) (holds_own h) hlt (by rw [hz]; omega)
    rw [hz] at hcon
    refine hcon.mono ?_
    rintro e w' ⟨rfl, m, os, rfl⟩
    have hsr : (Sort.pdq (ltOf cfP) L.toArray 0 n (Lib.bitLen n) true true).toList = srtP L := by unfold srtP; rw [hz]
    obtain ⟨h1, h2⟩ := below_sorted (m := m) hlo (Sort.pdq (ltOf cfP) L.toArray 0 n (Lib.bitLen n) true true) os hlt
    refine ⟨rfl, h1, Lib.hid (shows_held hsr (by rw [srtP_len, hln]) h2 ?_)⟩
    unfold sortWorldK
    exact Sort.holdsK_grow pCells 6 _ _ _ _ _ (by simp [putRowK, putRow, mapBlock, Sort.ahead]; omega) (Sort.holdsK_putRowK pCells 6 _ _ _ L.toArray _ (Sort.holdsK_ahead pCells 6 _ _ _ _ _ (holds_own h)) (by rw [← Array.length_toList, hsr, srtP_len]; simp))
end Go.Proofs.YtnldiemggabdkaaDoor
