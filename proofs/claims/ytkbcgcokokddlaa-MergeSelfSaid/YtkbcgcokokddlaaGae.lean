import Derived.Test.YtkbcgcokokddlaaGad
import Derived.Test.YtkbcgcokokddlaaGab
import Derived.Handy
/-
  Layer 15: increasing.
-/
namespace Go.Proofs.Ytkbcgcokokddlaa
open Go.RowKit
set_option linter.unusedVariables false
set_option linter.unusedSimpArgs false

/-- Reports whether something is so. -/
def BoolP (p : Prop) (W : World) (e : Ending) (w' : World) : Prop := ∃ z : Bool, e = .returned (.bool z) ∧ (z = true ↔ p) ∧ Below W.heap.size W w'
theorem boolP_mk {p : Prop} {W w' : World} (z : Bool) (h : z = true ↔ p) (hb : Below W.heap.size W w') : BoolP p W (.returned (.bool z)) w' := ⟨z, rfl, h, hb⟩
/-- Keys increase. -/
def IncK (l : List (List UInt8)) : Prop := l.Pairwise (fun a b => cmpL a b < 0)
theorem inc_keys (l : List EdS) : Inc l ↔ IncK (l.map EdS.k) := by
  unfold Inc IncK
  rw [List.pairwise_map]
  exact Iff.rfl
theorem incI_keys (l : List ItS) : IncI l ↔ IncK (l.map ItS.k) := by
  unfold IncI IncK
  rw [List.pairwise_map]
  exact Iff.rfl
theorem incK_next : ∀ {l : List (List UInt8)}, (∀ (j : Nat) a b, l[j]? = some a → l[j + 1]? = some b → cmpL a b < 0) → IncK l
  | [], _ => .nil
  | [a], _ => List.pairwise_cons.2 ⟨fun _ h => (by cases h), .nil⟩
  | a :: b :: l, h => by
    have ih : IncK (b :: l) := incK_next (fun j x y hx hy => h (j + 1) x y (by rw [List.getElem?_cons_succ]; exact hx) (by rw [List.getElem?_cons_succ]; exact hy))
    have hab := h 0 a b rfl rfl
    refine List.pairwise_cons.2 ⟨fun c hc => ?_, ih⟩
    rcases List.mem_cons.1 hc with rfl | hc
    · exact hab
    · exact cmpL_trans _ _ _ hab ((List.pairwise_cons.1 ih).1 c hc)
theorem incK_at {l : List (List UInt8)} (h : IncK l) {j : Nat} {a b : List UInt8} (ha : l[j]? = some a) (hb : l[j + 1]? = some b) : cmpL a b < 0 := by
  obtain ⟨h1, e1⟩ := List.getElem?_eq_some_iff.1 ha
  obtain ⟨h2, e2⟩ := List.getElem?_eq_some_iff.1 hb
  have := List.pairwise_iff_getElem.1 h j (j + 1) h1 h2 (by omega)
  rw [e1, e2] at this
  exact this
/-- An edit's cells, in all later worlds. -/
theorem ed_all {w : World} {B n : Nat} {A : Option Addr} {L : List EdT} (h : Shows w B 5 A n (L.flatMap EdT.cells)) (hB : B ≤ w.heap.size) {i : Nat} (hi : i < n) : ∃ b off x, A = some ⟨b, off, none⟩ ∧ b < B ∧ L[i]? = some x ∧
    (∀ W, Below w.heap.size w W → W.cell? ⟨b, off + i * 5, none⟩ = some (.slice x.k.A x.k.n x.k.c)) ∧ (∀ W, Below w.heap.size w W → W.cell? ⟨b, off + i * 5 + 1, none⟩ = some (.bool x.put)) ∧ (∀ W, Below w.heap.size w W → W.cell? ⟨b, off + i * 5 + 2, none⟩ = some (.slice x.v.A x.v.n x.v.c)) ∧ (∀ W, Below w.heap.size w W → W.cell? ⟨b, off + i * 5 + 3, none⟩ = some (.bool x.b)) ∧ (∀ W, Below w.heap.size w W → W.cell? ⟨b, off + i * 5 + 4, none⟩ = some (.int .i64 x.n)) := by
  obtain ⟨b, off, x, h1, h2, h3, c0, c1, c2, c3, c4⟩ := ed_at h hi
  exact ⟨b, off, x, h1, h2, h3, fun W hb => kept_later hb c0, fun W hb => kept_later hb c1, fun W hb => kept_later hb c2, fun W hb => kept_later hb c3, fun W hb => kept_later hb c4⟩
theorem it_all {w : World} {B n : Nat} {A : Option Addr} {L : List ItT} (h : Shows w B 4 A n (L.flatMap ItT.cells)) (hB : B ≤ w.heap.size) {i : Nat} (hi : i < n) : ∃ b off x, A = some ⟨b, off, none⟩ ∧ b < B ∧ L[i]? = some x ∧
    (∀ W, Below w.heap.size w W → W.cell? ⟨b, off + i * 4, none⟩ = some (.slice x.k.A x.k.n x.k.c)) ∧ (∀ W, Below w.heap.size w W → W.cell? ⟨b, off + i * 4 + 1, none⟩ = some (.slice x.v.A x.v.n x.v.c)) ∧ (∀ W, Below w.heap.size w W → W.cell? ⟨b, off + i * 4 + 2, none⟩ = some (.bool x.b)) ∧ (∀ W, Below w.heap.size w W → W.cell? ⟨b, off + i * 4 + 3, none⟩ = some (.int .i64 x.n)) := by
  obtain ⟨b, off, x, h1, h2, h3, c0, c1, c2, c3⟩ := it_at h hi
  exact ⟨b, off, x, h1, h2, h3, fun W hb => kept_later hb c0, fun W hb => kept_later hb c1, fun W hb => kept_later hb c2, fun W hb => kept_later hb c3⟩
def ItT.agg (x : ItT) : Value := .agg #[.slice x.k.A x.k.n x.k.c, .slice x.v.A x.v.n x.v.c, .bool x.b, .int .i64 x.n]
def ItT.s (x : ItT) : ItS := ⟨x.k.l, x.v.l, x.b, x.n⟩
/-- A row of items as it lies. -/
structure IsT where
  A : Option Addr
  n : Nat
  c : Nat
  E : List ItT
def IsT.val (X : IsT) : Value := .slice X.A X.n X.c
def IsT.s (X : IsT) : List ItS := X.E.map ItT.s
structure IsT.Lie (w : World) (B : Nat) (X : IsT) : Prop where
  row : Shows w B 4 X.A X.n (X.E.flatMap ItT.cells)
  all : ∀ x ∈ X.E, x.Ok w B
  nil : X.A = none → X.c = 0
  fit : X.n ≤ X.c
  most : X.c ≤ maxLen
theorem IsT.Lie.later {w w' : World} {B : Nat} {X : IsT} (h : X.Lie w B) (hb : Below B w w') : X.Lie w' B := ⟨h.row.below hb, fun x hx => (h.all x hx).later hb, h.nil, h.fit, h.most⟩
theorem IsT.Lie.more {w : World} {B B' : Nat} {X : IsT} (h : X.Lie w B) (hB : B ≤ B') : X.Lie w B' := ⟨h.row.more hB, fun x hx => (h.all x hx).more hB, h.nil, h.fit, h.most⟩
theorem IsT.Lie.len {w : World} {B : Nat} {X : IsT} (h : X.Lie w B) : X.E.length = X.n := by
  have := h.row.1
  rw [flatN_len ItT.cells 4 (fun _ => rfl)] at this
  omega
set_option maxRecDepth 20000 in
set_option maxHeartbeats 1000000 in
theorem itemKey_any (x : ItT) (w : World) : Calls Try.prog 44 #[x.agg] w fun e w' => e = .returned (.slice x.k.A x.k.n x.k.c) ∧ Below w.heap.size w w' := by
  have hb := bel_alloc (Below.refl w.heap.size w) (.cells #[.slice x.k.A x.k.n x.k.c, .slice x.v.A x.v.n x.v.c, .bool x.b, .int .i64 x.n] 54)
  have c0 : (w.alloc (.cells #[.slice x.k.A x.k.n x.k.c, .slice x.v.A x.v.n x.v.c, .bool x.b, .int .i64 x.n] 54)).cell? ⟨w.heap.size, 0, none⟩ = some (.slice x.k.A x.k.n x.k.c) := World.cell?_alloc_new _ _ _ 0
  unfold ItT.agg
  go_enter Try.func44, Try.ntmps44
  go_wp2
  refine bodyPost_ret (v := .slice x.k.A x.k.n x.k.c) ?_ rfl ⟨rfl, hb⟩
  simp [results, Try.results44, go_sem, *]
set_option maxRecDepth 20000 in
set_option maxHeartbeats 2000000 in
theorem incE_any (X : EsT) (B : Nat) (w : World) (hX : X.Lie w B) (hB : B ≤ w.heap.size) :
    Calls Try.prog 36 #[.slice X.A X.n X.c, .func (.func 37) #[] #[]] w (BoolP (Inc X.s) w) := by
  obtain ⟨XA, n, Xc, E⟩ := X
  obtain ⟨K, hK⟩ : ∃ K, (E.map EdT.s).map EdS.k = K := ⟨_, rfl⟩
  have HIff : Hid (Inc (E.map EdT.s) ↔ IncK K) := Lib.hid (by rw [← hK]; exact inc_keys _)
  have hlen := hX.len
  have hmax := Nat.le_trans hX.fit hX.most
  have HX := Lib.hid hX
  have HB := Lib.hid hB
  have HK := Lib.hid hK
  simp only at hlen hmax
  unfold maxLen at hmax
  have HL := Lib.hid hlen
  clear hX hB hK hlen
  show Calls _ _ #[.slice XA n Xc, _] _ _
  go_enter Try.func36, Try.ntmps36
  go_wp2_with fail
  go_loopw [5] (fun s wr => ∃ i : Nat, s = .int .i64 i ∧ 1 ≤ i ∧ (i ≤ n ∨ i = 1) ∧ Hid (∀ (j : Nat) a b, j + 1 < i → K[j]? = some a → K[j + 1]? = some b → cmpL a b < 0) ∧ Below w.heap.size w wr) (fun s _ => n - (intOf s).toNat)
  case atStart => exact ⟨1, rfl, Nat.le_refl _, .inr rfl, Lib.hid (fun j a b h => absurd h (by omega)), Below.refl _ _⟩
  case round =>
    obtain ⟨i, rfl, h1, hi, HD, hbr⟩ := hrel
    by_cases hin : i < n
    · obtain ⟨k, hk⟩ : ∃ k, i = k + 1 := ⟨i - 1, by omega⟩
      have hlie := HX.out.later (hbr.mono HB.out)
      have hBr := Nat.le_trans HB.out hbr.size
      obtain ⟨b, off, x, hA, hbb, hx, x0, x1, x2, x3, x4⟩ := ed_all hlie.row hBr (i := k) (by simp only; omega)
      obtain ⟨b', off', y, hA', hbb', hy, y0, y1, y2, y3, y4⟩ := ed_all hlie.row hBr (i := i) hin
      simp only at hA hA'
      obtain ⟨rfl, rfl⟩ : b = b' ∧ off = off' := by rw [hA] at hA'; injection hA' with h; injection h with h1 h2; exact ⟨h1, h2⟩
      have hxo := (hlie.all x (List.mem_of_getElem? hx)).key
      have hyo := (hlie.all y (List.mem_of_getElem? hy)).key
      have HLess : Hid (∀ W, Below wr.heap.size wr W → Calls Try.prog 14 #[.slice x.k.A x.k.n x.k.c, .slice y.k.A y.k.n y.k.c] W fun e w' => e = .returned (.bool (decide (cmpL x.k.l y.k.l < 0))) ∧ w' = W) :=
        Lib.hid (fun W h => mless_any x.k y.k B B W (hxo.later (h.mono hBr)) (hyo.later (h.mono hBr)))
      have hkx0 := fun W => editKey_any x W
      have hky0 := fun W => editKey_any y W
      unfold EdT.agg at hkx0 hky0
      have HKx := Lib.hid hkx0
      have HKy := Lib.hid hky0
      clear hkx0 hky0
      have hkx : K[k]? = some x.k.l := by rw [← HK.out, List.getElem?_map, List.getElem?_map, hx]; rfl
      have hky : K[k + 1]? = some y.k.l := by rw [← HK.out, List.getElem?_map, List.getElem?_map, ← hk, hy]; rfl
      have w1 : wrap64 ((i : Int) - 1) = (k : Int) := by unfold wrap64; omega
      have w2 : IntKind.i64.wrap ((i : Int) - 1) = (k : Int) := by rw [IntKind.wrap_i64]; omega
      have w3 : wrap64 ((i : Int) + 1) = ((i + 1 : Nat) : Int) := by unfold wrap64; omega
      have hin' : (i : Int) < (n : Int) := by omega
      have hkn' : (k : Int) < (n : Int) := by omega
      have HKK := Lib.hid (show i = k + 1 ∧ K[k]? = some x.k.l ∧ K[k + 1]? = some y.k.l from ⟨hk, hkx, hky⟩)
      obtain ⟨z, hz⟩ : ∃ z, decide (cmpL x.k.l y.k.l < 0) = z := ⟨_, rfl⟩
      have HZ : Hid (z = true ↔ cmpL x.k.l y.k.l < 0) := Lib.hid (by rw [← hz]; exact decide_eq_true_iff)
      rw [hz] at HLess
      subst hA
      clear hz hlie hBr hbb hbb' hx hy hxo hyo hkx hky hk hA' hi
      go_upto_region 4 with fail
      change Code.wp _ _ _ _ wr
      refine wp_region_held_drew (S := fun W => Below wr.heap.size wr W) (by kernel_rfl) (below_drewN (Below.refl _ _) 1) (fun hHeld => ?_)
      refine rg_in 0 rfl (by kernel_rfl) (by kernel_rfl) (by kernel_rfl) (by rfl) (v := ?_) (fun _ _ _ h => h) hHeld (fun w hSw => ?_) ?_
      rotate_left
      · (try dsimp only at hSw); go_simp <;> (with_reducible rfl)
      (try simp only [Act.put, List.setIfInBounds_toArray, List.set_cons_zero, List.set_cons_succ])
      refine rg_in 1 rfl (by kernel_rfl) (by kernel_rfl) (by kernel_rfl) (by rfl) (v := ?_) (fun _ _ _ h => h) hHeld (fun w hSw => ?_) ?_
      rotate_left
      · (try dsimp only at hSw); go_simp <;> (with_reducible rfl)
      (try simp only [Act.put, List.setIfInBounds_toArray, List.set_cons_zero, List.set_cons_succ])
      refine rg_in 2 rfl (by kernel_rfl) (by kernel_rfl) (by kernel_rfl) (by rfl) (v := ?_) (fun _ _ _ h => h) hHeld (fun w hSw => ?_) ?_
      rotate_left
      · (try dsimp only at hSw); go_simp <;> (with_reducible rfl)
      (try simp only [Act.put, List.setIfInBounds_toArray, List.set_cons_zero, List.set_cons_succ])
      refine rg_in 3 rfl (by kernel_rfl) (by kernel_rfl) (by kernel_rfl) (by rfl) (v := ?_) (fun _ _ _ h => h) hHeld (fun w hSw => ?_) ?_
      rotate_left
      · (try dsimp only at hSw); go_simp <;> (with_reducible rfl)
      (try simp only [Act.put, List.setIfInBounds_toArray, List.set_cons_zero, List.set_cons_succ])
      refine rg_in 4 rfl (by kernel_rfl) (by kernel_rfl) (by kernel_rfl) (by rfl) (v := ?_) (fun _ _ _ h => h) hHeld (fun w hSw => ?_) ?_
      rotate_left
      · (try dsimp only at hSw); go_simp <;> (with_reducible rfl)
      (try simp only [Act.put, List.setIfInBounds_toArray, List.set_cons_zero, List.set_cons_succ])
      refine rg_in 5 rfl (by kernel_rfl) (by kernel_rfl) (by kernel_rfl) (by rfl) (v := ?_) (fun _ _ _ h => h) hHeld (fun w hSw => ?_) ?_
      rotate_left
      · (try dsimp only at hSw); go_simp <;> (with_reducible rfl)
      (try simp only [Act.put, List.setIfInBounds_toArray, List.set_cons_zero, List.set_cons_succ])
      refine rg_in 7 rfl (by kernel_rfl) (by kernel_rfl) (by kernel_rfl) (by rfl) (v := ?_) (fun _ _ _ h => h) hHeld (fun w hSw => ?_) ?_
      rotate_left
      · (try dsimp only at hSw); go_simp <;> (with_reducible rfl)
      (try simp only [Act.put, List.setIfInBounds_toArray, List.set_cons_zero, List.set_cons_succ])
      refine rg_in 8 rfl (by kernel_rfl) (by kernel_rfl) (by kernel_rfl) (by rfl) (v := ?_) (fun _ _ _ h => h) hHeld (fun w hSw => ?_) ?_
      rotate_left
      · (try dsimp only at hSw); go_simp <;> (with_reducible rfl)
      (try simp only [Act.put, List.setIfInBounds_toArray, List.set_cons_zero, List.set_cons_succ])
      refine rg_in 9 rfl (by kernel_rfl) (by kernel_rfl) (by kernel_rfl) (by rfl) (v := ?_) (fun _ _ _ h => h) hHeld (fun w hSw => ?_) ?_
      rotate_left
      · (try dsimp only at hSw); go_simp <;> (with_reducible rfl)
      (try simp only [Act.put, List.setIfInBounds_toArray, List.set_cons_zero, List.set_cons_succ])
      refine rg_in 10 rfl (by kernel_rfl) (by kernel_rfl) (by kernel_rfl) (by rfl) (v := ?_) (fun _ _ _ h => h) hHeld (fun w hSw => ?_) ?_
      rotate_left
      · (try dsimp only at hSw); go_simp <;> (with_reducible rfl)
      (try simp only [Act.put, List.setIfInBounds_toArray, List.set_cons_zero, List.set_cons_succ])
      refine rg_in 11 rfl (by kernel_rfl) (by kernel_rfl) (by kernel_rfl) (by rfl) (v := ?_) (fun _ _ _ h => h) hHeld (fun w hSw => ?_) ?_
      rotate_left
      · (try dsimp only at hSw); go_simp <;> (with_reducible rfl)
      (try simp only [Act.put, List.setIfInBounds_toArray, List.set_cons_zero, List.set_cons_succ])
      refine rg_do 6 rfl (by kernel_rfl) (by rfl) (fun K hK => ?_)
      go_simp
      (go_at_call 37; (with_reducible refine (HKx.out _).mono ?_); (rintro e w106 ⟨rfl, hb6⟩))
      refine hK.out _ _ (bel_next hHeld hb6) (fun hHeld => ?_)
      clear hK K
      (try simp only [Act.put, List.setIfInBounds_toArray, List.set_cons_zero, List.set_cons_succ])
      refine rg_do 12 rfl (by kernel_rfl) (by rfl) (fun K hK => ?_)
      go_simp
      (go_at_call 37; (with_reducible refine (HKy.out _).mono ?_); (rintro e w112 ⟨rfl, hb12⟩))
      refine hK.out _ _ (bel_next hHeld hb12) (fun hHeld => ?_)
      clear hK K
      (try simp only [Act.put, List.setIfInBounds_toArray, List.set_cons_zero, List.set_cons_succ])
      refine rg_do 13 rfl (by kernel_rfl) (by rfl) (fun K hK => ?_)
      go_simp
      (go_at_call 14; (with_reducible refine (HLess.out _ hHeld).mono ?_); (rintro e w113 ⟨rfl, rfl⟩))
      refine hK.out _ _ hHeld (fun hHeld => ?_)
      clear hK K
      (try simp only [Act.put, List.setIfInBounds_toArray, List.set_cons_zero, List.set_cons_succ])
      refine rg_in 14 rfl (by kernel_rfl) (by kernel_rfl) (by kernel_rfl) (by rfl) (v := ?_) (fun _ _ _ h => h) hHeld (fun w hSw => ?_) ?_
      rotate_left
      · (try dsimp only at hSw); go_simp <;> (with_reducible rfl)
      (try simp only [Act.put, List.setIfInBounds_toArray, List.set_cons_zero, List.set_cons_succ])
      refine wpAnyH_done (by kernel_rfl) ?_ _
      have HB9 := Lib.hid (hbr.trans (hHeld.mono hbr.size))
      clear hHeld
      cases z
      · have HN : Hid (¬ IncK K) := Lib.hid (fun h => Bool.noConfusion (HZ.out.2 (incK_at h HKK.out.2.1 HKK.out.2.2)))
        go_wp2
        go_ret
        exact boolP_mk false ⟨fun h => Bool.noConfusion h, fun h => absurd (HIff.out.1 h) HN.out⟩ HB9.out
      · have HD2 : Hid (∀ (j : Nat) a b, j + 1 < i + 1 → K[j]? = some a → K[j + 1]? = some b → cmpL a b < 0) := Lib.hid (fun j a b hj ha hb => by
          by_cases hjk : j = k
          · subst hjk
            rw [HKK.out.2.1] at ha
            rw [HKK.out.2.2] at hb
            cases ha
            cases hb
            exact HZ.out.1 rfl
          · exact HD.out j a b (by have := HKK.out.1; omega) ha hb)
        go_wp2_with fail
        go_roundw
        case rel => exact ⟨i + 1, by first | rfl | go_num, by omega, .inl (by omega), HD2, HB9.out⟩
        case measure => simp [intOf]; omega
    · have HI : Hid (IncK K) := Lib.hid (incK_next (fun j a b ha hb => HD.out j a b (by
        have h1 := (List.getElem?_eq_some_iff.1 hb).1
        rw [← HK.out, List.length_map, List.length_map, HL.out] at h1
        omega) ha hb))
      have hin' : ¬ (i : Int) < (n : Int) := by omega
      clear hin hi
      go_wp2
      go_ret
      exact boolP_mk true ⟨fun _ => HIff.out.2 HI.out, fun _ => rfl⟩ hbr
set_option maxRecDepth 20000 in
set_option maxHeartbeats 2000000 in
theorem incI_any (X : IsT) (B : Nat) (w : World) (hX : X.Lie w B) (hB : B ≤ w.heap.size) :
    Calls Try.prog 43 #[.slice X.A X.n X.c, .func (.func 44) #[] #[]] w (BoolP (IncI X.s) w) := by
  obtain ⟨XA, n, Xc, E⟩ := X
  obtain ⟨K, hK⟩ : ∃ K, (E.map ItT.s).map ItS.k = K := ⟨_, rfl⟩
  have HIff : Hid (IncI (E.map ItT.s) ↔ IncK K) := Lib.hid (by rw [← hK]; exact incI_keys _)
  have hlen := hX.len
  have hmax := Nat.le_trans hX.fit hX.most
  have HX := Lib.hid hX
  have HB := Lib.hid hB
  have HK := Lib.hid hK
  simp only at hlen hmax
  unfold maxLen at hmax
  have HL := Lib.hid hlen
  clear hX hB hK hlen
  show Calls _ _ #[.slice XA n Xc, _] _ _
  go_enter Try.func43, Try.ntmps43
  go_wp2_with fail
  go_loopw [5] (fun s wr => ∃ i : Nat, s = .int .i64 i ∧ 1 ≤ i ∧ (i ≤ n ∨ i = 1) ∧ Hid (∀ (j : Nat) a b, j + 1 < i → K[j]? = some a → K[j + 1]? = some b → cmpL a b < 0) ∧ Below w.heap.size w wr) (fun s _ => n - (intOf s).toNat)
  case atStart => exact ⟨1, rfl, Nat.le_refl _, .inr rfl, Lib.hid (fun j a b h => absurd h (by omega)), Below.refl _ _⟩
  case round =>
    obtain ⟨i, rfl, h1, hi, HD, hbr⟩ := hrel
    by_cases hin : i < n
    · obtain ⟨k, hk⟩ : ∃ k, i = k + 1 := ⟨i - 1, by omega⟩
      have hlie := HX.out.later (hbr.mono HB.out)
      have hBr := Nat.le_trans HB.out hbr.size
      obtain ⟨b, off, x, hA, hbb, hx, x0, x1, x2, x3⟩ := it_all hlie.row hBr (i := k) (by simp only; omega)
      obtain ⟨b', off', y, hA', hbb', hy, y0, y1, y2, y3⟩ := it_all hlie.row hBr (i := i) hin
      simp only at hA hA'
      obtain ⟨rfl, rfl⟩ : b = b' ∧ off = off' := by rw [hA] at hA'; injection hA' with h; injection h with h1 h2; exact ⟨h1, h2⟩
      have hxo := (hlie.all x (List.mem_of_getElem? hx)).key
      have hyo := (hlie.all y (List.mem_of_getElem? hy)).key
      have HLess : Hid (∀ W, Below wr.heap.size wr W → Calls Try.prog 14 #[.slice x.k.A x.k.n x.k.c, .slice y.k.A y.k.n y.k.c] W fun e w' => e = .returned (.bool (decide (cmpL x.k.l y.k.l < 0))) ∧ w' = W) :=
        Lib.hid (fun W h => mless_any x.k y.k B B W (hxo.later (h.mono hBr)) (hyo.later (h.mono hBr)))
      have hkx0 := fun W => itemKey_any x W
      have hky0 := fun W => itemKey_any y W
      unfold ItT.agg at hkx0 hky0
      have HKx := Lib.hid hkx0
      have HKy := Lib.hid hky0
      clear hkx0 hky0
      have hkx : K[k]? = some x.k.l := by rw [← HK.out, List.getElem?_map, List.getElem?_map, hx]; rfl
      have hky : K[k + 1]? = some y.k.l := by rw [← HK.out, List.getElem?_map, List.getElem?_map, ← hk, hy]; rfl
      have w1 : wrap64 ((i : Int) - 1) = (k : Int) := by unfold wrap64; omega
      have w2 : IntKind.i64.wrap ((i : Int) - 1) = (k : Int) := by rw [IntKind.wrap_i64]; omega
      have w3 : wrap64 ((i : Int) + 1) = ((i + 1 : Nat) : Int) := by unfold wrap64; omega
      have hin' : (i : Int) < (n : Int) := by omega
      have hkn' : (k : Int) < (n : Int) := by omega
      have HKK := Lib.hid (show i = k + 1 ∧ K[k]? = some x.k.l ∧ K[k + 1]? = some y.k.l from ⟨hk, hkx, hky⟩)
      obtain ⟨z, hz⟩ : ∃ z, decide (cmpL x.k.l y.k.l < 0) = z := ⟨_, rfl⟩
      have HZ : Hid (z = true ↔ cmpL x.k.l y.k.l < 0) := Lib.hid (by rw [← hz]; exact decide_eq_true_iff)
      rw [hz] at HLess
      subst hA
      clear hz hlie hBr hbb hbb' hx hy hxo hyo hkx hky hk hA' hi
      go_upto_region 4 with fail
      change Code.wp _ _ _ _ wr
      refine wp_region_held_drew (S := fun W => Below wr.heap.size wr W) (by kernel_rfl) (below_drewN (Below.refl _ _) 1) (fun hHeld => ?_)
      refine rg_in 0 rfl (by kernel_rfl) (by kernel_rfl) (by kernel_rfl) (by rfl) (v := ?_) (fun _ _ _ h => h) hHeld (fun w hSw => ?_) ?_
      rotate_left
      · (try dsimp only at hSw); go_simp <;> (with_reducible rfl)
      (try simp only [Act.put, List.setIfInBounds_toArray, List.set_cons_zero, List.set_cons_succ])
      refine rg_in 1 rfl (by kernel_rfl) (by kernel_rfl) (by kernel_rfl) (by rfl) (v := ?_) (fun _ _ _ h => h) hHeld (fun w hSw => ?_) ?_
      rotate_left
      · (try dsimp only at hSw); go_simp <;> (with_reducible rfl)
      (try simp only [Act.put, List.setIfInBounds_toArray, List.set_cons_zero, List.set_cons_succ])
      refine rg_in 2 rfl (by kernel_rfl) (by kernel_rfl) (by kernel_rfl) (by rfl) (v := ?_) (fun _ _ _ h => h) hHeld (fun w hSw => ?_) ?_
      rotate_left
      · (try dsimp only at hSw); go_simp <;> (with_reducible rfl)
      (try simp only [Act.put, List.setIfInBounds_toArray, List.set_cons_zero, List.set_cons_succ])
      refine rg_in 3 rfl (by kernel_rfl) (by kernel_rfl) (by kernel_rfl) (by rfl) (v := ?_) (fun _ _ _ h => h) hHeld (fun w hSw => ?_) ?_
      rotate_left
      · (try dsimp only at hSw); go_simp <;> (with_reducible rfl)
      (try simp only [Act.put, List.setIfInBounds_toArray, List.set_cons_zero, List.set_cons_succ])
      refine rg_in 4 rfl (by kernel_rfl) (by kernel_rfl) (by kernel_rfl) (by rfl) (v := ?_) (fun _ _ _ h => h) hHeld (fun w hSw => ?_) ?_
      rotate_left
      · (try dsimp only at hSw); go_simp <;> (with_reducible rfl)
      (try simp only [Act.put, List.setIfInBounds_toArray, List.set_cons_zero, List.set_cons_succ])
      refine rg_in 5 rfl (by kernel_rfl) (by kernel_rfl) (by kernel_rfl) (by rfl) (v := ?_) (fun _ _ _ h => h) hHeld (fun w hSw => ?_) ?_
      rotate_left
      · (try dsimp only at hSw); go_simp <;> (with_reducible rfl)
      (try simp only [Act.put, List.setIfInBounds_toArray, List.set_cons_zero, List.set_cons_succ])
      refine rg_in 7 rfl (by kernel_rfl) (by kernel_rfl) (by kernel_rfl) (by rfl) (v := ?_) (fun _ _ _ h => h) hHeld (fun w hSw => ?_) ?_
      rotate_left
      · (try dsimp only at hSw); go_simp <;> (with_reducible rfl)
      (try simp only [Act.put, List.setIfInBounds_toArray, List.set_cons_zero, List.set_cons_succ])
      refine rg_in 8 rfl (by kernel_rfl) (by kernel_rfl) (by kernel_rfl) (by rfl) (v := ?_) (fun _ _ _ h => h) hHeld (fun w hSw => ?_) ?_
      rotate_left
      · (try dsimp only at hSw); go_simp <;> (with_reducible rfl)
      (try simp only [Act.put, List.setIfInBounds_toArray, List.set_cons_zero, List.set_cons_succ])
      refine rg_in 9 rfl (by kernel_rfl) (by kernel_rfl) (by kernel_rfl) (by rfl) (v := ?_) (fun _ _ _ h => h) hHeld (fun w hSw => ?_) ?_
      rotate_left
      · (try dsimp only at hSw); go_simp <;> (with_reducible rfl)
      (try simp only [Act.put, List.setIfInBounds_toArray, List.set_cons_zero, List.set_cons_succ])
      refine rg_in 10 rfl (by kernel_rfl) (by kernel_rfl) (by kernel_rfl) (by rfl) (v := ?_) (fun _ _ _ h => h) hHeld (fun w hSw => ?_) ?_
      rotate_left
      · (try dsimp only at hSw); go_simp <;> (with_reducible rfl)
      (try simp only [Act.put, List.setIfInBounds_toArray, List.set_cons_zero, List.set_cons_succ])
      refine rg_in 11 rfl (by kernel_rfl) (by kernel_rfl) (by kernel_rfl) (by rfl) (v := ?_) (fun _ _ _ h => h) hHeld (fun w hSw => ?_) ?_
      rotate_left
      · (try dsimp only at hSw); go_simp <;> (with_reducible rfl)
      (try simp only [Act.put, List.setIfInBounds_toArray, List.set_cons_zero, List.set_cons_succ])
      refine rg_do 6 rfl (by kernel_rfl) (by rfl) (fun K hK => ?_)
      go_simp
      (go_at_call 44; (with_reducible refine (HKx.out _).mono ?_); (rintro e w106 ⟨rfl, hb6⟩))
      refine hK.out _ _ (bel_next hHeld hb6) (fun hHeld => ?_)
      clear hK K
      (try simp only [Act.put, List.setIfInBounds_toArray, List.set_cons_zero, List.set_cons_succ])
      refine rg_do 12 rfl (by kernel_rfl) (by rfl) (fun K hK => ?_)
      go_simp
      (go_at_call 44; (with_reducible refine (HKy.out _).mono ?_); (rintro e w112 ⟨rfl, hb12⟩))
      refine hK.out _ _ (bel_next hHeld hb12) (fun hHeld => ?_)
      clear hK K
      (try simp only [Act.put, List.setIfInBounds_toArray, List.set_cons_zero, List.set_cons_succ])
      refine rg_do 13 rfl (by kernel_rfl) (by rfl) (fun K hK => ?_)
      go_simp
      (go_at_call 14; (with_reducible refine (HLess.out _ hHeld).mono ?_); (rintro e w113 ⟨rfl, rfl⟩))
      refine hK.out _ _ hHeld (fun hHeld => ?_)
      clear hK K
      (try simp only [Act.put, List.setIfInBounds_toArray, List.set_cons_zero, List.set_cons_succ])
      refine rg_in 14 rfl (by kernel_rfl) (by kernel_rfl) (by kernel_rfl) (by rfl) (v := ?_) (fun _ _ _ h => h) hHeld (fun w hSw => ?_) ?_
      rotate_left
      · (try dsimp only at hSw); go_simp <;> (with_reducible rfl)
      (try simp only [Act.put, List.setIfInBounds_toArray, List.set_cons_zero, List.set_cons_succ])
      refine wpAnyH_done (by kernel_rfl) ?_ _
      have HB9 := Lib.hid (hbr.trans (hHeld.mono hbr.size))
      clear hHeld
      cases z
      · have HN : Hid (¬ IncK K) := Lib.hid (fun h => Bool.noConfusion (HZ.out.2 (incK_at h HKK.out.2.1 HKK.out.2.2)))
        go_wp2
        go_ret
        exact boolP_mk false ⟨fun h => Bool.noConfusion h, fun h => absurd (HIff.out.1 h) HN.out⟩ HB9.out
      · have HD2 : Hid (∀ (j : Nat) a b, j + 1 < i + 1 → K[j]? = some a → K[j + 1]? = some b → cmpL a b < 0) := Lib.hid (fun j a b hj ha hb => by
          by_cases hjk : j = k
          · subst hjk
            rw [HKK.out.2.1] at ha
            rw [HKK.out.2.2] at hb
            cases ha
            cases hb
            exact HZ.out.1 rfl
          · exact HD.out j a b (by have := HKK.out.1; omega) ha hb)
        go_wp2_with fail
        go_roundw
        case rel => exact ⟨i + 1, by first | rfl | go_num, by omega, .inl (by omega), HD2, HB9.out⟩
        case measure => simp [intOf]; omega
    · have HI : Hid (IncK K) := Lib.hid (incK_next (fun j a b ha hb => HD.out j a b (by
        have h1 := (List.getElem?_eq_some_iff.1 hb).1
        rw [← HK.out, List.length_map, List.length_map, HL.out] at h1
        omega) ha hb))
      have hin' : ¬ (i : Int) < (n : Int) := by omega
      clear hin hi
      go_wp2
      go_ret
      exact boolP_mk true ⟨fun _ => HIff.out.2 HI.out, fun _ => rfl⟩ hbr
end Go.Proofs.Ytkbcgcokokddlaa
/-
  Layer 15: Check.
-/
namespace Go.Proofs.Ytkbcgcokokddlaa
open Go.RowKit
set_option linter.unusedVariables false
set_option linter.unusedSimpArgs false

/-- May a row of edits be? -/
def RightS (l : List EdS) : Prop := (∀ x ∈ l, mayS x = true) ∧ Inc l
set_option maxRecDepth 20000 in
set_option maxHeartbeats 1000000 in
theorem wrong_any (x : EdT) (B : Nat) (w : World) (hx : x.Ok w B) (hB : B ≤ w.heap.size) (z : Bool) (hz : mayS x.s = z) :
    Calls Try.prog 34 #[.agg #[.slice x.k.A x.k.n x.k.c, .bool x.put, .slice x.v.A x.v.n x.v.c, .bool x.b, .int .i64 x.n]] w fun e w' => e = .returned (.bool (!z)) ∧ Below w.heap.size w w' := by
  have hb := bel_alloc (Below.refl w.heap.size w) (.cells #[.slice x.k.A x.k.n x.k.c, .bool x.put, .slice x.v.A x.v.n x.v.c, .bool x.b, .int .i64 x.n] 49)
  have hv := validEdit_any x B _ (hx.later (hb.mono hB))
  obtain ⟨⟨c0, c1, c2, c3, c4⟩, -⟩ := five_blkJ (heap_alloc_new w (.cells #[.slice x.k.A x.k.n x.k.c, .bool x.put, .slice x.v.A x.v.n x.v.c, .bool x.b, .int .i64 x.n] 49))
  rw [hz] at hv
  unfold EdT.agg at hv
  clear hz hx
  go_enter Try.func34, Try.ntmps34
  go_wp2_with fail
  generalize w.alloc (.cells #[.slice x.k.A x.k.n x.k.c, .bool x.put, .slice x.v.A x.v.n x.v.c, .bool x.b, .int .i64 x.n] 49) = W1 at *
  refine hv.mono ?_
  rintro e w1 ⟨rfl, hb1⟩
  have hb2 := bel_next hb hb1
  clear hv c0 c1 c2 c3 c4 hb hb1
  go_wp2
  go_ret
  exact ⟨rfl, hb2⟩
/-- The place of the first that is so. -/
def IdxP (L : List EdS) (W : World) (e : Ending) (w' : World) : Prop := Below W.heap.size W w' ∧ ((e = .returned (.int .i64 (-1)) ∧ ∀ x ∈ L, mayS x = true) ∨ ∃ i : Nat, e = .returned (.int .i64 i) ∧ ∃ x ∈ L, mayS x = false)
set_option maxRecDepth 20000 in
set_option maxHeartbeats 1000000 in
theorem idxE_any (X : EsT) (B : Nat) (w : World) (hX : X.Lie w B) (hB : B ≤ w.heap.size) :
    Calls Try.prog 47 #[.slice X.A X.n X.c, .func (.func 34) #[] #[]] w (IdxP X.s w) := by
  obtain ⟨XA, n, Xc, E⟩ := X
  have hlen := hX.len
  have hmax := Nat.le_trans hX.fit hX.most
  have HX := Lib.hid hX
  have HB := Lib.hid hB
  simp only at hlen hmax
  unfold maxLen at hmax
  have HL := Lib.hid hlen
  clear hX hB hlen
  show Calls _ _ #[.slice XA n Xc, _] _ _
  go_enter Try.func47, Try.ntmps47
  go_wp2_with fail
  go_loopw [8] (fun s wr => ∃ i : Nat, s = .int .i64 i ∧ i ≤ n ∧ Hid (∀ x ∈ E.take i, mayS x.s = true) ∧ Below w.heap.size w wr) (fun s _ => n - (intOf s).toNat)
  case atStart => exact ⟨0, rfl, Nat.zero_le _, Lib.hid nofun, Below.refl _ _⟩
  case round =>
    obtain ⟨i, rfl, hi, HD, hbr⟩ := hrel
    by_cases hin : i < n
    · have hlie := HX.out.later (hbr.mono HB.out)
      have hBr := Nat.le_trans HB.out hbr.size
      obtain ⟨b, off, x, hA, hbb, hx, x0, x1, x2, x3, x4⟩ := ed_at hlie.row (i := i) hin
      have hxo := hlie.all x (List.mem_of_getElem? hx)
      simp only at hA
      obtain ⟨z, hz⟩ : ∃ z, mayS x.s = z := ⟨_, rfl⟩
      have hc := wrong_any x B wr hxo hBr z hz
      have hin' : (i : Int) < (n : Int) := by omega
      have w3 : wrap64 ((i : Int) + 1) = ((i + 1 : Nat) : Int) := by unfold wrap64; omega
      have HZ := Lib.hid hz
      have HXX := Lib.hid (show E[i]? = some x from hx)
      subst hA
      clear hz hlie hBr hbb hx hxo hi
      go_wp2_with fail
      refine hc.mono ?_
      rintro e w1 ⟨rfl, hb1⟩
      have hb2 := hbr.trans (hb1.mono hbr.size)
      clear hc x0 x1 x2 x3 x4 hb1
      cases z
      · have HP : Hid (IdxP (E.map EdT.s) w (.returned (.int .i64 i)) w1) := Lib.hid ⟨hb2, .inr ⟨i, rfl, x.s, List.mem_map_of_mem (List.mem_of_getElem? HXX.out), HZ.out⟩⟩
        go_wp2
        go_ret
        exact HP.out
      · have HD2 : Hid (∀ y ∈ E.take (i + 1), mayS y.s = true) := Lib.hid (fun y hy => by
          rw [List.take_add_one, HXX.out] at hy
          rcases List.mem_append.1 hy with hy | hy
          · exact HD.out y hy
          · rw [List.mem_singleton.1 hy]
            exact HZ.out)
        go_wp2_with fail
        go_roundw
        case rel => exact ⟨i + 1, by first | rfl | go_num, by omega, HD2, hb2⟩
        case measure => simp [intOf]; omega
    · have e : i = n := by omega
      subst e
      have HP : Hid (IdxP (E.map EdT.s) w (.returned (.int .i64 (-1))) wr) := Lib.hid ⟨hbr, .inl ⟨rfl, fun y hy => by
        obtain ⟨x, hx, rfl⟩ := List.mem_map.1 hy
        exact HD.out x (by rw [List.take_of_length_le (Nat.le_of_eq HL.out)]; exact hx)⟩⟩
      have hin' : ¬ (i : Int) < (i : Int) := by omega
      clear hin hi hbr
      go_wp2
      go_ret
      exact HP.out
set_option maxRecDepth 20000 in
set_option maxHeartbeats 1000000 in
theorem hasE_any (X : EsT) (B : Nat) (w : World) (hX : X.Lie w B) (hB : B ≤ w.heap.size) :
    Calls Try.prog 33 #[.slice X.A X.n X.c, .func (.func 34) #[] #[]] w (BoolP (¬ ∀ x ∈ X.s, mayS x = true) w) := by
  have hi := idxE_any X B w hX hB
  clear hX hB
  go_enter Try.func33, Try.ntmps33
  go_wp2_with fail
  refine hi.mono ?_
  rintro e w1 ⟨hb, ⟨rfl, h⟩ | ⟨i, rfl, x, hx, h⟩⟩
  · have HP : Hid (BoolP (¬ ∀ x ∈ X.s, mayS x = true) w (.returned (.bool false)) w1) := Lib.hid (boolP_mk false ⟨fun h => Bool.noConfusion h, fun h' => absurd h h'⟩ hb)
    clear hi hb h
    go_wp2
    go_ret
    exact HP.out
  · have HP : Hid (BoolP (¬ ∀ x ∈ X.s, mayS x = true) w (.returned (.bool true)) w1) := Lib.hid (boolP_mk true ⟨fun _ h' => by rw [h' x hx] at h; exact Bool.noConfusion h, fun _ => rfl⟩ hb)
    have hi0 : (0 : Int) ≤ (i : Int) := by omega
    clear hi hb h hx
    go_wp2
    go_ret
    exact HP.out
/-- What a check hands back. -/
def ChkP (c : Int) (p : Prop) (W : World) (e : Ending) (w' : World) : Prop := Below W.heap.size W w' ∧ ((e = .returned (.int .i64 0) ∧ p) ∨ (e = .returned (.int .i64 c) ∧ ¬ p))
set_option maxRecDepth 20000 in
set_option maxHeartbeats 1000000 in
theorem mcheck_any (X : EsT) (B : Nat) (w : World) (hX : X.Lie w B) (hB : B ≤ w.heap.size) :
    Calls Try.prog 13 #[.slice X.A X.n X.c] w (ChkP 250 (RightS X.s) w) := by
  have hh := hasE_any X B w hX hB
  have HI := Lib.hid (fun W (h : Below w.heap.size w W) => incE_any X B W (hX.later (h.mono hB)) (Nat.le_trans hB h.size))
  clear hX hB
  go_enter Try.func13, Try.ntmps13
  go_wp2_with fail
  refine hh.mono ?_
  rintro e w1 ⟨z, rfl, hz, hb⟩
  have hin := HI.out w1 hb
  have HZ := Lib.hid hz
  clear hh hz HI
  cases z
  · go_wp2_with fail
    refine hin.mono ?_
    rintro e w2 ⟨z2, rfl, hz2, hb2⟩
    have hb3 := bel_next hb hb2
    have HZ2 := Lib.hid hz2
    clear hin hz2 hb hb2
    cases z2
    · have HP : Hid (ChkP 250 (RightS X.s) w (.returned (.int .i64 250)) w2) := Lib.hid ⟨hb3, .inr ⟨rfl, fun h => Bool.noConfusion (HZ2.out.2 h.2)⟩⟩
      clear hb3
      go_wp2
      go_ret
      exact HP.out
    · have HP : Hid (ChkP 250 (RightS X.s) w (.returned (.int .i64 0)) w2) := Lib.hid ⟨hb3, .inl ⟨rfl, Classical.byContradiction (fun h => h ⟨Classical.byContradiction (fun h' => Bool.noConfusion (HZ.out.2 h')), HZ2.out.1 rfl⟩)⟩⟩
      clear hb3
      go_wp2
      go_ret
      exact HP.out
  · have HP : Hid (ChkP 250 (RightS X.s) w (.returned (.int .i64 250)) w1) := Lib.hid ⟨hb, .inr ⟨rfl, fun h => HZ.out.1 rfl h.1⟩⟩
    clear hin hb
    go_wp2
    go_ret
    exact HP.out
end Go.Proofs.Ytkbcgcokokddlaa
/-
  Layer 15: the reference's Is.
-/
namespace Go.Proofs.Ytkbcgcokokddlaa
open Go.RowKit
set_option linter.unusedVariables false

set_option maxRecDepth 20000 in
set_option maxHeartbeats 1000000 in
theorem ris_any (p r : PcT) (B1 B2 : Nat) (w : World) (hp : p.Ok w B1) (hr : r.Ok w B2) (b : Bool) (hb : sameB p.l r.l = b) :
    Calls Try.prog 42 #[.slice p.A p.n p.c, .slice r.A r.n r.c] w fun e w' => e = .returned (.bool b) ∧ w = w' := by
  have k1 := run_bytes_string (P := Try.prog) Try.underlying23 Try.underlying5 Try.underlying9 w p.A p.n p.c B1 p.l hp.here
  have k2 := run_bytes_string (P := Try.prog) Try.underlying23 Try.underlying5 Try.underlying9 w r.A r.n r.c B2 r.l hr.here
  have hbe : ((ofL p.l).toList == (ofL r.l).toList) = b := (bofL_beq p.l r.l).trans hb
  generalize ofL p.l = s1 at *
  generalize ofL r.l = s2 at *
  clear hp hr hb
  go_enter Try.func42, Try.ntmps42
  go_wp2
  go_ret
  exact ⟨rfl, rfl⟩
end Go.Proofs.Ytkbcgcokokddlaa
/-
  Layer 15: the reference's Ahead.
-/
namespace Go.Proofs.Ytkbcgcokokddlaa
open Go.RowKit
set_option linter.unusedVariables false

theorem bless_cmp : ∀ l m : List UInt8, Op.bytesLess l m = decide (cmpL l m < 0)
  | [], [] => by simp [Op.bytesLess, cmpL]
  | [], _ :: _ => by simp [Op.bytesLess, cmpL]
  | _ :: _, [] => by simp [Op.bytesLess, cmpL]
  | x :: l, y :: m => by
    have ih := bless_cmp l m
    unfold Op.bytesLess cmpL
    by_cases h1 : x.toNat < y.toNat
    · simp [h1, UInt8.lt_iff_toNat_lt]
    · by_cases h2 : y.toNat < x.toNat
      · simp [h1, h2, UInt8.lt_iff_toNat_lt]
        rintro rfl
        exact absurd h2 (Nat.lt_irrefl _)
      · obtain rfl : x = y := UInt8.toNat_inj.1 (by omega)
        simp [ih]
set_option maxRecDepth 20000 in
set_option maxHeartbeats 1000000 in
theorem rahead_any (p r : PcT) (B1 B2 : Nat) (w : World) (hp : p.Ok w B1) (hr : r.Ok w B2) :
    Calls Try.prog 15 #[.slice p.A p.n p.c, .slice r.A r.n r.c] w fun e w' => e = .returned (.bool (decide (cmpL p.l r.l < 0))) ∧ w = w' := by
  have k1 := run_bytes_string (P := Try.prog) Try.underlying23 Try.underlying5 Try.underlying9 w p.A p.n p.c B1 p.l hp.here
  have k2 := run_bytes_string (P := Try.prog) Try.underlying23 Try.underlying5 Try.underlying9 w r.A r.n r.c B2 r.l hr.here
  obtain ⟨b, hb⟩ : ∃ b, decide (cmpL p.l r.l < 0) = b := ⟨_, rfl⟩
  have hbe : Op.bytesLess (ofL p.l).toList (ofL r.l).toList = b := by
    rw [ByteArray.toList_eq, ByteArray.toList_eq, ofL_toList, ofL_toList, bless_cmp, hb]
  rw [hb]
  generalize ofL p.l = s1 at *
  generalize ofL r.l = s2 at *
  clear hp hr hb
  go_enter Try.func15, Try.ntmps15
  go_wp2
  go_ret
  exact ⟨rfl, rfl⟩
end Go.Proofs.Ytkbcgcokokddlaa
/-
  Layer 15: the reference's May.
-/
namespace Go.Proofs.Ytkbcgcokokddlaa
open Go.RowKit
set_option linter.unusedVariables false
set_option linter.unusedSimpArgs false

set_option maxRecDepth 20000 in
set_option maxHeartbeats 2000000 in
theorem rmay_any (x : EdT) (B : Nat) (w : World) (hx : x.Ok w B) :
    Calls Try.prog 40 #[x.agg] w fun e w' => e = .returned (.bool (mayS x.s)) ∧ Below w.heap.size w w' := by
  have hk := hx.key.len
  have hv := hx.val.len
  have hb := bel_alloc (Below.refl w.heap.size w) (.cells #[.slice x.k.A x.k.n x.k.c, .bool x.put, .slice x.v.A x.v.n x.v.c, .bool x.b, .int .i64 x.n] 49)
  have hnb := heap_alloc_new w (.cells #[.slice x.k.A x.k.n x.k.c, .bool x.put, .slice x.v.A x.v.n x.v.c, .bool x.b, .int .i64 x.n] 49)
  clear hx
  obtain ⟨z, hz⟩ : ∃ z, mayS x.s = z := ⟨_, rfl⟩
  have hsp : z = (decide (1 ≤ x.k.n ∧ x.k.n ≤ 120) && (decide (x.v.n ≤ 100) && ((x.put || (decide (x.v.n = 0) && !x.b)) && (x.b || decide (x.n = 0))))) := by
    rw [← hz, ← hk, ← hv]
    rfl
  have HSP := Lib.hid hsp
  unfold EdT.agg
  rw [hz]
  clear hk hv hz hsp
  obtain ⟨⟨kA, kn, kc, kl⟩, pu, ⟨vA, vn, vc, vl⟩, bb, nn⟩ := x
  simp only at HSP hb hnb ⊢
  by_cases h1 : kn = 0
  · subst h1
    obtain ⟨⟨c0, c1, c2, c3, c4⟩, -⟩ := five_blkJ hnb
    clear hnb
    go_enter Try.func40, Try.ntmps40
    go_wp2
    refine bodyPost_ret (v := .bool z) ?_ rfl ⟨rfl, hb⟩
    rw [HSP.out]
    simp [results, Try.results40, go_sem, *]
  · have h1' : ((kn : Int) == (0 : Int)) = false := by simp; omega
    have h1n : 1 ≤ kn := by omega
    by_cases h2 : kn ≤ 120
    · have h2' : ¬ (120 : Int) < (kn : Int) := by omega
      by_cases h3 : vn ≤ 100
      · have h3' : ¬ (100 : Int) < (vn : Int) := by omega
        cases bb
        · by_cases h5 : nn = 0
          · subst h5
            cases pu
            · by_cases h4 : vn = 0
              · subst h4
                obtain ⟨⟨c0, c1, c2, c3, c4⟩, -⟩ := five_blkJ hnb
                clear hnb
                go_enter Try.func40, Try.ntmps40
                go_wp2
                refine bodyPost_ret (v := .bool z) ?_ rfl ⟨rfl, hb⟩
                rw [HSP.out]
                simp [results, Try.results40, go_sem, *]
              · have h4' : ((vn : Int) == (0 : Int)) = false := by simp; omega
                obtain ⟨⟨c0, c1, c2, c3, c4⟩, -⟩ := five_blkJ hnb
                clear hnb
                go_enter Try.func40, Try.ntmps40
                go_wp2
                refine bodyPost_ret (v := .bool z) ?_ rfl ⟨rfl, hb⟩
                rw [HSP.out]
                simp [results, Try.results40, go_sem, *]
            · skip
              obtain ⟨⟨c0, c1, c2, c3, c4⟩, -⟩ := five_blkJ hnb
              clear hnb
              go_enter Try.func40, Try.ntmps40
              go_wp2
              refine bodyPost_ret (v := .bool z) ?_ rfl ⟨rfl, hb⟩
              rw [HSP.out]
              simp [results, Try.results40, go_sem, *]
          · have h5' : ((nn : Int) == (0 : Int)) = false := by simpa using h5
            obtain ⟨⟨c0, c1, c2, c3, c4⟩, -⟩ := five_blkJ hnb
            clear hnb
            go_enter Try.func40, Try.ntmps40
            go_wp2
            refine bodyPost_ret (v := .bool z) ?_ rfl ⟨rfl, hb⟩
            rw [HSP.out]
            simp [results, Try.results40, go_sem, *]
        · cases pu
          · by_cases h4 : vn = 0
            · subst h4
              obtain ⟨⟨c0, c1, c2, c3, c4⟩, -⟩ := five_blkJ hnb
              clear hnb
              go_enter Try.func40, Try.ntmps40
              go_wp2
              refine bodyPost_ret (v := .bool z) ?_ rfl ⟨rfl, hb⟩
              rw [HSP.out]
              simp [results, Try.results40, go_sem, *]
            · have h4' : ((vn : Int) == (0 : Int)) = false := by simp; omega
              obtain ⟨⟨c0, c1, c2, c3, c4⟩, -⟩ := five_blkJ hnb
              clear hnb
              go_enter Try.func40, Try.ntmps40
              go_wp2
              refine bodyPost_ret (v := .bool z) ?_ rfl ⟨rfl, hb⟩
              rw [HSP.out]
              simp [results, Try.results40, go_sem, *]
          · skip
            obtain ⟨⟨c0, c1, c2, c3, c4⟩, -⟩ := five_blkJ hnb
            clear hnb
            go_enter Try.func40, Try.ntmps40
            go_wp2
            refine bodyPost_ret (v := .bool z) ?_ rfl ⟨rfl, hb⟩
            rw [HSP.out]
            simp [results, Try.results40, go_sem, *]
      · have h3' : (100 : Int) < (vn : Int) := by omega
        obtain ⟨⟨c0, c1, c2, c3, c4⟩, -⟩ := five_blkJ hnb
        clear hnb
        go_enter Try.func40, Try.ntmps40
        go_wp2
        refine bodyPost_ret (v := .bool z) ?_ rfl ⟨rfl, hb⟩
        rw [HSP.out]
        simp [results, Try.results40, go_sem, *]
    · have h2' : (120 : Int) < (kn : Int) := by omega
      obtain ⟨⟨c0, c1, c2, c3, c4⟩, -⟩ := five_blkJ hnb
      clear hnb
      go_enter Try.func40, Try.ntmps40
      go_wp2
      refine bodyPost_ret (v := .bool z) ?_ rfl ⟨rfl, hb⟩
      rw [HSP.out]
      simp [results, Try.results40, go_sem, *]
end Go.Proofs.Ytkbcgcokokddlaa
/-
  Layer 15: the reference's All, Right, Rise.
-/
namespace Go.Proofs.Ytkbcgcokokddlaa
open Go.RowKit
set_option linter.unusedVariables false
set_option linter.unusedSimpArgs false

set_option maxRecDepth 20000 in
set_option maxHeartbeats 1000000 in
theorem rall_any (X : EsT) (B : Nat) (w : World) (hX : X.Lie w B) (hB : B ≤ w.heap.size) :
    Calls Try.prog 17 #[.slice X.A X.n X.c] w (BoolP (∀ x ∈ X.s, mayS x = true) w) := by
  obtain ⟨XA, n, Xc, E⟩ := X
  have hlen := hX.len
  have hmax := Nat.le_trans hX.fit hX.most
  have HX := Lib.hid hX
  have HB := Lib.hid hB
  simp only at hlen hmax
  unfold maxLen at hmax
  have HL := Lib.hid hlen
  clear hX hB hlen
  show Calls _ _ #[.slice XA n Xc] _ _
  go_enter Try.func17, Try.ntmps17
  go_wp2_with fail
  go_loopw [3] (fun s wr => ∃ i : Nat, s = .int .i64 i ∧ i ≤ n ∧ Hid (∀ x ∈ E.take i, mayS x.s = true) ∧ Below w.heap.size w wr) (fun s _ => n - (intOf s).toNat)
  case atStart => exact ⟨0, rfl, Nat.zero_le _, Lib.hid nofun, Below.refl _ _⟩
  case round =>
    obtain ⟨i, rfl, hi, HD, hbr⟩ := hrel
    by_cases hin : i < n
    · have hlie := HX.out.later (hbr.mono HB.out)
      have hBr := Nat.le_trans HB.out hbr.size
      obtain ⟨b, off, x, hA, hbb, hx, x0, x1, x2, x3, x4⟩ := ed_at hlie.row (i := i) hin
      have hxo := hlie.all x (List.mem_of_getElem? hx)
      simp only at hA
      obtain ⟨z, hz⟩ : ∃ z, mayS x.s = z := ⟨_, rfl⟩
      have hc := rmay_any x B wr hxo
      rw [hz] at hc
      unfold EdT.agg at hc
      have hin' : (i : Int) < (n : Int) := by omega
      have w3 : wrap64 ((i : Int) + 1) = ((i + 1 : Nat) : Int) := by unfold wrap64; omega
      have HZ := Lib.hid hz
      have HXX := Lib.hid (show E[i]? = some x from hx)
      subst hA
      clear hz hlie hBr hbb hx hxo hi
      go_wp2_with fail
      refine hc.mono ?_
      rintro e w1 ⟨rfl, hb1⟩
      have hb2 := hbr.trans (hb1.mono hbr.size)
      clear hc x0 x1 x2 x3 x4 hb1
      cases z
      · have HP : Hid (BoolP (∀ x ∈ E.map EdT.s, mayS x = true) w (.returned (.bool false)) w1) := Lib.hid (boolP_mk false ⟨fun h => Bool.noConfusion h, fun h => by
          have := h x.s (List.mem_map_of_mem (List.mem_of_getElem? HXX.out))
          rw [HZ.out] at this
          exact this⟩ hb2)
        go_wp2
        go_ret
        exact HP.out
      · have HD2 : Hid (∀ y ∈ E.take (i + 1), mayS y.s = true) := Lib.hid (fun y hy => by
          rw [List.take_add_one, HXX.out] at hy
          rcases List.mem_append.1 hy with hy | hy
          · exact HD.out y hy
          · rw [List.mem_singleton.1 hy]
            exact HZ.out)
        go_wp2_with fail
        go_roundw
        case rel => exact ⟨i + 1, by first | rfl | go_num, by omega, HD2, hb2⟩
        case measure => simp [intOf]; omega
    · have e : i = n := by omega
      subst e
      have HP : Hid (BoolP (∀ x ∈ E.map EdT.s, mayS x = true) w (.returned (.bool true)) wr) := Lib.hid (boolP_mk true ⟨fun _ y hy => by
        obtain ⟨x, hx, rfl⟩ := List.mem_map.1 hy
        exact HD.out x (by rw [List.take_of_length_le (Nat.le_of_eq HL.out)]; exact hx), fun _ => rfl⟩ hbr)
      have hin' : ¬ (i : Int) < (i : Int) := by omega
      clear hin hi hbr
      go_wp2
      go_ret
      exact HP.out
set_option maxRecDepth 20000 in
set_option maxHeartbeats 2000000 in
theorem rright_any (X : EsT) (B : Nat) (w : World) (hX : X.Lie w B) (hB : B ≤ w.heap.size) :
    Calls Try.prog 12 #[.slice X.A X.n X.c] w (BoolP (RightS X.s) w) := by
  obtain ⟨XA, n, Xc, E⟩ := X
  obtain ⟨K, hK⟩ : ∃ K, (E.map EdT.s).map EdS.k = K := ⟨_, rfl⟩
  have HIff : Hid (Inc (E.map EdT.s) ↔ IncK K) := Lib.hid (by rw [← hK]; exact inc_keys _)
  have hlen := hX.len
  have hmax := Nat.le_trans hX.fit hX.most
  have HX := Lib.hid hX
  have HB := Lib.hid hB
  have HK := Lib.hid hK
  simp only at hlen hmax
  unfold maxLen at hmax
  have HL := Lib.hid hlen
  clear hX hB hK hlen
  show Calls _ _ #[.slice XA n Xc] _ _
  go_enter Try.func12, Try.ntmps12
  go_wp2_with fail
  go_loopw [3] (fun s wr => ∃ i : Nat, s = .int .i64 i ∧ 1 ≤ i ∧ (i ≤ n ∨ i = 1) ∧ Hid (∀ (j : Nat) a b, j + 1 < i → K[j]? = some a → K[j + 1]? = some b → cmpL a b < 0) ∧ Below w.heap.size w wr) (fun s _ => n - (intOf s).toNat)
  case atStart => exact ⟨1, rfl, Nat.le_refl _, .inr rfl, Lib.hid (fun j a b h => absurd h (by omega)), Below.refl _ _⟩
  case round =>
    obtain ⟨i, rfl, h1, hi, HD, hbr⟩ := hrel
    by_cases hin : i < n
    · obtain ⟨k, hk⟩ : ∃ k, i = k + 1 := ⟨i - 1, by omega⟩
      have hlie := HX.out.later (hbr.mono HB.out)
      obtain ⟨b, off, x, hA, hbb, hx, x0, -⟩ := ed_at hlie.row (i := k) (by simp only; omega)
      obtain ⟨b', off', y, hA', hbb', hy, y0, -⟩ := ed_at hlie.row (i := i) hin
      simp only at hA hA'
      obtain ⟨rfl, rfl⟩ : b = b' ∧ off = off' := by rw [hA] at hA'; injection hA' with h; injection h with h1 h2; exact ⟨h1, h2⟩
      have hxo := (hlie.all x (List.mem_of_getElem? hx)).key
      have hyo := (hlie.all y (List.mem_of_getElem? hy)).key
      have hle := fun (j : Nat) => rahead_any x.k y.k B B (wr.drewN j) (hxo.later (below_drewN (Below.refl B wr) j)) (hyo.later (below_drewN (Below.refl B wr) j))
      have hkx : K[k]? = some x.k.l := by rw [← HK.out, List.getElem?_map, List.getElem?_map, hx]; rfl
      have hky : K[k + 1]? = some y.k.l := by rw [← HK.out, List.getElem?_map, List.getElem?_map, ← hk, hy]; rfl
      have w1 : wrap64 ((i : Int) - 1) = (k : Int) := by unfold wrap64; omega
      have w2 : IntKind.i64.wrap ((i : Int) - 1) = (k : Int) := by rw [IntKind.wrap_i64]; omega
      have w3 : wrap64 ((i : Int) + 1) = ((i + 1 : Nat) : Int) := by unfold wrap64; omega
      have hin' : (i : Int) < (n : Int) := by omega
      have hkn' : (k : Int) < (n : Int) := by omega
      have HKK := Lib.hid (show i = k + 1 ∧ K[k]? = some x.k.l ∧ K[k + 1]? = some y.k.l from ⟨hk, hkx, hky⟩)
      obtain ⟨z, hz⟩ : ∃ z, decide (cmpL x.k.l y.k.l < 0) = z := ⟨_, rfl⟩
      have HZ : Hid (z = true ↔ cmpL x.k.l y.k.l < 0) := Lib.hid (by rw [← hz]; exact decide_eq_true_iff)
      rw [hz] at hle
      subst hA
      clear hz hlie hbb hbb' hx hy hxo hyo hkx hky hk hA' hi
      go_upto_region 4 with fail
      go_quiet ((go_at_call 15; exact Calls.quiet_of_same ((hle _).mono fun _ _ h => ⟨h.1, h.2.symm⟩)))
      have hb9 := below_drewN hbr nq
      clear hle x0 y0 hbr
      cases z
      · have HN : Hid (¬ IncK K) := Lib.hid (fun h => Bool.noConfusion (HZ.out.2 (incK_at h HKK.out.2.1 HKK.out.2.2)))
        go_wp2
        go_ret
        exact boolP_mk false ⟨fun h => Bool.noConfusion h, fun h => absurd (HIff.out.1 h.2) HN.out⟩ hb9
      · have HD2 : Hid (∀ (j : Nat) a b, j + 1 < i + 1 → K[j]? = some a → K[j + 1]? = some b → cmpL a b < 0) := Lib.hid (fun j a b hj ha hb => by
          by_cases hjk : j = k
          · subst hjk
            rw [HKK.out.2.1] at ha
            rw [HKK.out.2.2] at hb
            cases ha
            cases hb
            exact HZ.out.1 rfl
          · exact HD.out j a b (by have := HKK.out.1; omega) ha hb)
        go_wp2_with fail
        go_roundw
        case rel => exact ⟨i + 1, by first | rfl | go_num, by omega, .inl (by omega), HD2, hb9⟩
        case measure => simp [intOf]; omega
    · have HI : Hid (IncK K) := Lib.hid (incK_next (fun j a b ha hb => HD.out j a b (by
        have h1 := (List.getElem?_eq_some_iff.1 hb).1
        rw [← HK.out, List.length_map, List.length_map, HL.out] at h1
        omega) ha hb))
      have hin' : ¬ (i : Int) < (n : Int) := by omega
      have hal := rall_any ⟨XA, n, Xc, E⟩ B wr (HX.out.later (hbr.mono HB.out)) (Nat.le_trans HB.out hbr.size)
      simp only at hal
      clear hin hi
      go_wp2_with fail
      refine hal.mono ?_
      rintro e w1 ⟨z, rfl, hz, hb1⟩
      have HP : Hid (BoolP (RightS (E.map EdT.s)) w (.returned (.bool z)) w1) := Lib.hid (boolP_mk z (hz.trans ⟨fun h => ⟨h, HIff.out.2 HI.out⟩, fun h => h.1⟩) (hbr.trans (hb1.mono hbr.size)))
      clear hal hz hb1
      go_wp2
      go_ret
      exact HP.out
set_option maxRecDepth 20000 in
set_option maxHeartbeats 2000000 in
theorem rrise_any (X : IsT) (B : Nat) (w : World) (hX : X.Lie w B) (hB : B ≤ w.heap.size) :
    Calls Try.prog 24 #[.slice X.A X.n X.c] w (BoolP (IncI X.s) w) := by
  obtain ⟨XA, n, Xc, E⟩ := X
  obtain ⟨K, hK⟩ : ∃ K, (E.map ItT.s).map ItS.k = K := ⟨_, rfl⟩
  have HIff : Hid (IncI (E.map ItT.s) ↔ IncK K) := Lib.hid (by rw [← hK]; exact incI_keys _)
  have hlen := hX.len
  have hmax := Nat.le_trans hX.fit hX.most
  have HX := Lib.hid hX
  have HB := Lib.hid hB
  have HK := Lib.hid hK
  simp only at hlen hmax
  unfold maxLen at hmax
  have HL := Lib.hid hlen
  clear hX hB hK hlen
  show Calls _ _ #[.slice XA n Xc] _ _
  go_enter Try.func24, Try.ntmps24
  go_wp2_with fail
  go_loopw [3] (fun s wr => ∃ i : Nat, s = .int .i64 i ∧ 1 ≤ i ∧ (i ≤ n ∨ i = 1) ∧ Hid (∀ (j : Nat) a b, j + 1 < i → K[j]? = some a → K[j + 1]? = some b → cmpL a b < 0) ∧ Below w.heap.size w wr) (fun s _ => n - (intOf s).toNat)
  case atStart => exact ⟨1, rfl, Nat.le_refl _, .inr rfl, Lib.hid (fun j a b h => absurd h (by omega)), Below.refl _ _⟩
  case round =>
    obtain ⟨i, rfl, h1, hi, HD, hbr⟩ := hrel
    by_cases hin : i < n
    · obtain ⟨k, hk⟩ : ∃ k, i = k + 1 := ⟨i - 1, by omega⟩
      have hlie := HX.out.later (hbr.mono HB.out)
      obtain ⟨b, off, x, hA, hbb, hx, x0, -⟩ := it_at hlie.row (i := k) (by simp only; omega)
      obtain ⟨b', off', y, hA', hbb', hy, y0, -⟩ := it_at hlie.row (i := i) hin
      simp only at hA hA'
      obtain ⟨rfl, rfl⟩ : b = b' ∧ off = off' := by rw [hA] at hA'; injection hA' with h; injection h with h1 h2; exact ⟨h1, h2⟩
      have hxo := (hlie.all x (List.mem_of_getElem? hx)).key
      have hyo := (hlie.all y (List.mem_of_getElem? hy)).key
      have hle := fun (j : Nat) => rahead_any x.k y.k B B (wr.drewN j) (hxo.later (below_drewN (Below.refl B wr) j)) (hyo.later (below_drewN (Below.refl B wr) j))
      have hkx : K[k]? = some x.k.l := by rw [← HK.out, List.getElem?_map, List.getElem?_map, hx]; rfl
      have hky : K[k + 1]? = some y.k.l := by rw [← HK.out, List.getElem?_map, List.getElem?_map, ← hk, hy]; rfl
      have w1 : wrap64 ((i : Int) - 1) = (k : Int) := by unfold wrap64; omega
      have w2 : IntKind.i64.wrap ((i : Int) - 1) = (k : Int) := by rw [IntKind.wrap_i64]; omega
      have w3 : wrap64 ((i : Int) + 1) = ((i + 1 : Nat) : Int) := by unfold wrap64; omega
      have hin' : (i : Int) < (n : Int) := by omega
      have hkn' : (k : Int) < (n : Int) := by omega
      have HKK := Lib.hid (show i = k + 1 ∧ K[k]? = some x.k.l ∧ K[k + 1]? = some y.k.l from ⟨hk, hkx, hky⟩)
      obtain ⟨z, hz⟩ : ∃ z, decide (cmpL x.k.l y.k.l < 0) = z := ⟨_, rfl⟩
      have HZ : Hid (z = true ↔ cmpL x.k.l y.k.l < 0) := Lib.hid (by rw [← hz]; exact decide_eq_true_iff)
      rw [hz] at hle
      subst hA
      clear hz hlie hbb hbb' hx hy hxo hyo hkx hky hk hA' hi
      go_upto_region 4 with fail
      go_quiet ((go_at_call 15; exact Calls.quiet_of_same ((hle _).mono fun _ _ h => ⟨h.1, h.2.symm⟩)))
      have hb9 := below_drewN hbr nq
      clear hle x0 y0 hbr
      cases z
      · have HN : Hid (¬ IncK K) := Lib.hid (fun h => Bool.noConfusion (HZ.out.2 (incK_at h HKK.out.2.1 HKK.out.2.2)))
        go_wp2
        go_ret
        exact boolP_mk false ⟨fun h => Bool.noConfusion h, fun h => absurd (HIff.out.1 h) HN.out⟩ hb9
      · have HD2 : Hid (∀ (j : Nat) a b, j + 1 < i + 1 → K[j]? = some a → K[j + 1]? = some b → cmpL a b < 0) := Lib.hid (fun j a b hj ha hb => by
          by_cases hjk : j = k
          · subst hjk
            rw [HKK.out.2.1] at ha
            rw [HKK.out.2.2] at hb
            cases ha
            cases hb
            exact HZ.out.1 rfl
          · exact HD.out j a b (by have := HKK.out.1; omega) ha hb)
        go_wp2_with fail
        go_roundw
        case rel => exact ⟨i + 1, by first | rfl | go_num, by omega, .inl (by omega), HD2, hb9⟩
        case measure => simp [intOf]; omega
    · have HI : Hid (IncK K) := Lib.hid (incK_next (fun j a b ha hb => HD.out j a b (by
        have h1 := (List.getElem?_eq_some_iff.1 hb).1
        rw [← HK.out, List.length_map, List.length_map, HL.out] at h1
        omega) ha hb))
      have hin' : ¬ (i : Int) < (n : Int) := by omega
      clear hin hi
      go_wp2
      go_ret
      exact boolP_mk true ⟨fun _ => HIff.out.2 HI.out, fun _ => rfl⟩ hbr
end Go.Proofs.Ytkbcgcokokddlaa
