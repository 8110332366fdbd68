import Derived.Test.YtghmehfmchadoaaDoorGad
import Derived.Test.YtghmehfmchadoaaDoorGac
import Derived.OrdersIn
/-
  Layer 10: Append.
-/
namespace Go.Proofs.YtghmehfmchadoaaDoor
open Go.RowKit
set_option linter.unusedVariables false

/-- A row does not lie in a block. -/
def AwayP (p : PcT) (g : Nat) : Prop := ∀ b off, p.A = some ⟨b, off, none⟩ → 0 < p.n → b ≠ g
/-- No row of a file lies in a block. -/
structure AwayF (X : FileT) (g : Nat) : Prop where
  firm : AwayP X.F g
  row : ∀ b off, X.lA = some ⟨b, off, none⟩ → 0 < X.ln → b ≠ g
  loose : ∀ p ∈ X.L, AwayP p g
theorem PcT.Ok.away {w : World} {B g : Nat} {p : PcT} (h : p.Ok w B) (hg : B ≤ g) : AwayP p g := fun b off hA hn => by
  obtain ⟨b', off', e, hb, _⟩ := h.here.2 hn
  rw [hA] at e
  injection e with e
  injection e with e
  omega
theorem LieF.away {w : World} {B g : Nat} {X : FileT} (h : LieF w B X) (hg : B ≤ g) : AwayF X g :=
  ⟨h.firm.away hg, fun b off hA hn => by
    obtain ⟨b', off', e, hb, _⟩ := h.row.2 hn
    rw [hA] at e
    injection e with e
    injection e with e
    omega, fun p hp => (h.loose p hp).away hg⟩
theorem Shows.setAway {w : World} {B size n g i : Nat} {A : Option Addr} {xs : List Value} (h : Shows w B size A n xs) (ha : ∀ b off, A = some ⟨b, off, none⟩ → 0 < n → b ≠ g) (u : Value) : Shows (w.setCell ⟨g, i, none⟩ u) B size A n xs :=
  ⟨h.1, fun hn => by
    obtain ⟨b, off, e, hb, hc⟩ := h.2 hn
    exact ⟨b, off, e, hb, fun j v hj => (World.cell?_setCell_other _ _ _ _ (fun q => ha b off e hn (by injection q with q; exact q.symm))).trans (hc j v hj)⟩⟩
theorem PcT.Ok.setAway {w : World} {B g : Nat} {p : PcT} (h : p.Ok w B) (ha : AwayP p g) (i : Nat) (u : Value) : p.Ok (w.setCell ⟨g, i, none⟩ u) B := ⟨Shows.setAway h.here ha u, h.nil, h.fits, h.most⟩
theorem LieF.setAway {w : World} {B g : Nat} {X : FileT} (h : LieF w B X) (ha : AwayF X g) (i : Nat) (u : Value) : LieF (w.setCell ⟨g, i, none⟩ u) B X :=
  ⟨h.firm.setAway ha.firm i u, h.row.setAway ha.row u, fun p hp => (h.loose p hp).setAway (ha.loose p hp) i u, h.nil, h.fits, h.most, h.fuse, h.fault⟩
theorem LieF.setAway5 {w : World} {B g : Nat} {X : FileT} (h : LieF w B X) (ha : AwayF X g) (a b c d e : Value) : LieF (set5F w g a b c d e) B X :=
  ((((h.setAway ha 0 a).setAway ha 1 b).setAway ha 2 c).setAway ha 3 d).setAway ha 4 e
theorem size_set5 (w : World) (g : Nat) (a b c d e : Value) : (set5F w g a b c d e).heap.size = w.heap.size := by unfold set5F; rw [size_set, size_set, size_set, size_set, size_set]
/-- A file that came back, behind its store into an older variable. -/
theorem lie_res {w : World} {g : Nat} {a b c d e : Value} {Y : FileT} (h : LieF w w.heap.size Y) (ha : AwayF Y g) : LieF (set5F w g a b c d e) (set5F w g a b c d e).heap.size Y := by
  rw [size_set5]
  exact h.setAway5 ha a b c d e
theorem own_away {W : World} {D n c g : Nat} {t : TypeId} {A : Option Addr} {xs : List Value} (h : W.ownsRow D t 1 (.slice A n c) n xs) (hg : g < D) : ∀ b off, A = some ⟨b, off, none⟩ → 0 < n → b ≠ g := fun b off hA hn => by
  obtain ⟨k, cap, e, hk, _⟩ := h.form hn
  rw [hA] at e
  injection e with e
  injection e with e
  injection e with e
  omega
/-- What an operation on a file gives. -/
def OpP (X : FileT) (Z : Nat → Prop) (out : FileS × Int) (w : World) (e : Ending) (w' : World) : Prop :=
  ∃ Y : FileT, e = .returned (.tuple #[Y.agg, .int .i64 out.2]) ∧ Y.s = out.1 ∧ LieF w' w'.heap.size Y ∧ Below w.heap.size w w' ∧ (∀ g, g < w.heap.size → AwayF X g → Z g → AwayF Y g)
theorem asked_wf {X : FileT} {gr : Nat} (h2 : (Lit.int .i64 X.fuse).wf = true) (h3 : (Lit.int .i64 X.fault).wf = true) : (Lit.int .i64 (X.s.asked X.long gr).1.fuse).wf = true ∧ (Lit.int .i64 (X.s.asked X.long gr).1.fault).wf = true := by
  have hm : (Lit.int .i64 (-1)).wf = true := by decide
  by_cases ho : X.off = true
  · rw [asked_1 ho]; exact ⟨h2, h3⟩
  · have ho' : X.off = false := by simpa using ho
    by_cases hf : 524288 < X.long + gr
    · rw [asked_2 ho' hf]; exact ⟨h2, h3⟩
    · by_cases hr : X.fault = 0
      · rw [asked_3 ho' hf hr]; exact ⟨h2, hm⟩
      · by_cases hu : X.fuse = 0
        · rw [asked_4 ho' hf hr hu]; exact ⟨hm, tick_wf h3⟩
        · rw [asked_5 ho' hf hr hu]; exact ⟨tick_wf h2, tick_wf h3⟩
theorem asked_zero {X : FileT} {gr : Nat} (h : (X.s.asked X.long gr).2 = 0) : X.s.asked X.long gr = (⟨X.F.l, X.L.map (·.l), tickN X.fuse, tickN X.fault, false⟩, 0) := by
  by_cases ho : X.off = true
  · rw [asked_1 ho] at h; cases h
  · have ho' : X.off = false := by simpa using ho
    by_cases hf : 524288 < X.long + gr
    · rw [asked_2 ho' hf] at h; cases h
    · by_cases hr : X.fault = 0
      · rw [asked_3 ho' hf hr] at h; cases h
      · by_cases hu : X.fuse = 0
        · rw [asked_4 ho' hf hr hu] at h; cases h
        · exact asked_5 ho' hf hr hu
theorem right_rows {w : World} {B : Nat} {X : FileT} (h : LieF w B X) (hr : X.right = true) : (∀ p ∈ X.Q, p.n ≤ 1048576) ∧ X.long ≤ 524288 ∧ X.ln ≤ 524288 := by
  obtain ⟨h1, h2⟩ := right_all h hr
  have e : X.all.length = X.F.n + sumN X.L := by unfold FileT.all; rw [List.length_append, h.firm.len, sumN_len h.loose]
  have hm : ∀ (L : List PcT) (p : PcT), p ∈ L → p.n ≤ sumN L := by
    intro L
    induction L with
    | nil => intro p hp; cases hp
    | cons q L ih =>
      intro p hp
      have es : sumN (q :: L) = q.n + sumN L := by simp [sumN]
      rcases List.mem_cons.1 hp with rfl | hp
      · omega
      · have := ih p hp; omega
  have hc : ∀ (L : List PcT), (∀ p ∈ L, p.n ≠ 0) → L.length ≤ sumN L := by
    intro L
    induction L with
    | nil => intro _; exact Nat.zero_le _
    | cons q L ih =>
      intro hq
      have es : sumN (q :: L) = q.n + sumN L := by simp [sumN]
      have := ih fun p hp => hq p (List.mem_cons_of_mem _ hp)
      have := hq q (List.mem_cons_self ..)
      rw [List.length_cons]
      omega
  refine ⟨fun p hp => ?_, by omega, ?_⟩
  · rcases List.mem_cons.1 hp with rfl | hp
    · omega
    · have := hm _ _ hp; omega
  · have := hc X.L (fun p hp => by
      unfold FileT.right at hr
      simp only [Bool.and_eq_true, List.all_eq_true] at hr
      have := hr.1 p hp
      intro h0
      simp [h0] at this)
    rw [h.len] at this
    omega
/-- The file behind an operation that failed. -/
theorem lie_asked {w w' : World} {B : Nat} {X : FileT} {gr : Nat} (hL : LieF w B X) (hb : Below B w w') (hB : B ≤ w'.heap.size) :
    LieF w' w'.heap.size ⟨X.F, X.lA, X.ln, X.lc, X.L, (X.s.asked X.long gr).1.fuse, (X.s.asked X.long gr).1.fault, (X.s.asked X.long gr).1.off⟩ := by
  have h := (hL.later hb).more hB
  obtain ⟨w2, w3⟩ := asked_wf (gr := gr) hL.fuse hL.fault
  exact ⟨h.firm, h.row, h.loose, h.nil, h.fits, h.most, w2, w3⟩
def AppJ (X : FileT) (p : PcT) (D : Nat) (v0 v1 : Value) (W : World) : Prop :=
  v0 = .slice X.F.A X.F.n X.F.c ∧ ∃ A' c', v1 = .slice A' (X.ln + 1) c' ∧ W.ownsRow D 22 1 (.slice A' (X.ln + 1) c') (X.ln + 1) (X.L.map PcT.val ++ [.slice p.A p.n p.n])
theorem fvar_other {W : World} {g k : Nat} {a b c d e : Value} (i : Nat) (v : Value) (hk : g ≠ k) (h : FVar W k a b c d e) : FVar (W.setCell ⟨g, i, none⟩ v) k a b c d e := FVar.other v (Ne.symm hk) h
theorem FVar.low {W W' : World} {B g : Nat} {a b c d e : Value} (h : FVar W g a b c d e) (hg : g < B) (hb : Below B W W') : FVar W' g a b c d e := by
  obtain ⟨⟨h0, h1, h2, h3, h4⟩, k0, k1, k2, k3, k4⟩ := h
  have c := fun i => hb.cell (p := ⟨g, i, none⟩) hg
  have f := fun i => hb.frozen (p := ⟨g, i, none⟩) hg
  exact ⟨⟨(c 0).trans h0, (c 1).trans h1, (c 2).trans h2, (c 3).trans h3, (c 4).trans h4⟩, (f 0).trans k0, (f 1).trans k1, (f 2).trans k2, (f 3).trans k3, (f 4).trans k4⟩
theorem FVar.set1 {W : World} {g : Nat} {a b c d e : Value} (v : Value) (h : FVar W g a b c d e) : FVar (W.setCell ⟨g, 1, none⟩ v) g a v c d e := by
  obtain ⟨⟨h0, h1, h2, h3, h4⟩, k0, k1, k2, k3, k4⟩ := h
  refine ⟨⟨?_, ?_, ?_, ?_, ?_⟩, ?_, ?_, ?_, ?_, ?_⟩ <;> simp [go_sem, *]
theorem FVar.set0 {W : World} {g : Nat} {a b c d e : Value} (v : Value) (h : FVar W g a b c d e) : FVar (W.setCell ⟨g, 0, none⟩ v) g v b c d e := by
  obtain ⟨⟨h0, h1, h2, h3, h4⟩, k0, k1, k2, k3, k4⟩ := h
  refine ⟨⟨?_, ?_, ?_, ?_, ?_⟩, ?_, ?_, ?_, ?_, ?_⟩ <;> simp [go_sem, *]
theorem own_set5 {W : World} {k D n : Nat} {t : TypeId} {v : Value} {xs : List Value} {a b c d e : Value} (h : W.ownsRow D t 1 v n xs) (hk : k < D) : (set5F W k a b c d e).ownsRow D t 1 v n xs :=
  ownsRow_setCell_below (ownsRow_setCell_below (ownsRow_setCell_below (ownsRow_setCell_below (ownsRow_setCell_below h hk _) hk _) hk _) hk _) hk _
theorem own_facts {W : World} {D n c : Nat} {A : Option Addr} {t : TypeId} {xs : List Value} (h : W.ownsRow D t 1 (.slice A n c) n xs) : (A = none → c = 0) ∧ n ≤ c ∧ c ≤ maxLen := by
  obtain ⟨A', c', e, h1, h2⟩ := own_form h
  injection e with e1 e2 e3
  subst e1 e3
  refine ⟨fun hA => ?_, h1, h2⟩
  rcases h.2 with ⟨e, _⟩ | ⟨g, cap, cur, e, _⟩
  · injection e
  · rw [hA] at e
    injection e with e1
    cases e1
/-- The file behind an Append that was done. -/
theorem lie_app {W5 : World} {D k n : Nat} {X : FileT} {p : PcT} {A' : Option Addr} {c' : Nat} {u v : Int} {b : Bool} {a0 a1 a2 a3 a4 : Value} (hL : LieF (set5F W5 k a0 a1 a2 a3 a4) n X) (hp : p.Ok (set5F W5 k a0 a1 a2 a3 a4) n) (hu : (Lit.int .i64 u).wf = true) (hv : (Lit.int .i64 v).wf = true) (hn : n ≤ (set5F W5 k a0 a1 a2 a3 a4).heap.size) (hk : k < D)
    (hown : W5.ownsRow D 22 1 (.slice A' (X.ln + 1) c') (X.ln + 1) (X.L.map PcT.val ++ [.slice p.A p.n p.n])) :
    LieF (set5F W5 k a0 a1 a2 a3 a4) (set5F W5 k a0 a1 a2 a3 a4).heap.size ⟨X.F, A', X.ln + 1, c', X.L ++ [⟨p.A, p.n, p.n, p.l⟩], u, v, b⟩ := by
  have h := hL.more hn
  have ho := own_set5 (a := a0) (b := a1) (c := a2) (d := a3) (e := a4) hown hk
  obtain ⟨o1, o2, o3⟩ := own_facts ho
  refine ⟨h.firm, ?_, ?_, o1, o2, o3, hu, hv⟩
  · have := Shows.own ho
    rw [List.map_append]
    exact this
  · intro q hq
    rcases List.mem_append.1 hq with hq | hq
    · exact h.loose q hq
    · obtain rfl := List.mem_singleton.1 hq
      have hp' := hp.more hn
      refine ⟨hp'.here, fun hA => ?_, Nat.le_refl _, Nat.le_trans hp'.fits hp'.most⟩
      have := hp'.nil hA
      have := hp'.fits
      show p.n = 0
      omega
theorem chg_lay (W : World) (v0 v1 v2 v3 v4 v5 : Value) (t u : TypeId) :
    FVar ((W.alloc (.cells #[v0, v1, v2, v3, v4, v5] t)).alloc (.cells #[.pointer (some ⟨W.heap.size, 0, none⟩)] u)) W.heap.size v0 v1 v2 v3 v4 ∧
    ((W.alloc (.cells #[v0, v1, v2, v3, v4, v5] t)).alloc (.cells #[.pointer (some ⟨W.heap.size, 0, none⟩)] u)).cell? ⟨W.heap.size, 5, none⟩ = some v5 ∧
    ((W.alloc (.cells #[v0, v1, v2, v3, v4, v5] t)).alloc (.cells #[.pointer (some ⟨W.heap.size, 0, none⟩)] u)).cell? ⟨W.heap.size + 1, 0, none⟩ = some (.pointer (some ⟨W.heap.size, 0, none⟩)) := by
  refine ⟨⟨⟨by simp [go_sem], by simp [go_sem], by simp [go_sem], by simp [go_sem], by simp [go_sem]⟩, by simp [go_sem], by simp [go_sem], by simp [go_sem], by simp [go_sem], by simp [go_sem]⟩, by simp [go_sem], ?_⟩
  have h := World.cell?_alloc_new (W.alloc (.cells #[v0, v1, v2, v3, v4, v5] t)) #[.pointer (some ⟨W.heap.size, 0, none⟩)] u 0
  rw [World.size_alloc] at h
  exact h
set_option maxRecDepth 20000 in
set_option maxHeartbeats 4000000 in
theorem appendF_any (X : FileT) (p : PcT) (B : Nat) (w : World) (hL : LieF w B X) (hp : p.Ok w B) (hB : B ≤ w.heap.size) (hr : X.right = true) :
    Calls Tryd.prog 18 #[X.agg, p.val] w (OpP X (AwayP p) (if p.n = 0 then (X.s, 2) else X.s.append X.long p.l) w) := by
  have HO := Lib.hid (show (p.n = 0 → (if p.n = 0 then (X.s, 2) else X.s.append X.long p.l) = (X.s, (2 : Int))) ∧ (¬ p.n = 0 → (if p.n = 0 then (X.s, 2) else X.s.append X.long p.l) = X.s.append X.long p.l) from ⟨fun h => if_pos h, fun h => if_neg h⟩)
  generalize (if p.n = 0 then (X.s, 2) else X.s.append X.long p.l) = out at *
  have hb1 := bel_alloc (bel_alloc (bel_alloc (Below.refl w.heap.size w) (.cells #[.slice X.F.A X.F.n X.F.c, .slice X.lA X.ln X.lc, .int .i64 X.fuse, .int .i64 X.fault, .bool X.off] 25)) (.cells #[.slice p.A p.n p.c] 22)) (.cells #[.slice none 0 0, .slice none 0 0, .int .i64 0, .int .i64 0, .bool false] 25)
  have HX := (FBox.new w X 25).later (bel_alloc (bel_alloc (Below.refl _ _) (.cells #[.slice p.A p.n p.c] 22)) (.cells #[.slice none 0 0, .slice none 0 0, .int .i64 0, .int .i64 0, .bool false] 25))
  obtain ⟨hN, hl, hln⟩ := right_rows hL hr
  have hch := checkF_any X B _ (hL.later (hb1.mono hB)) (Nat.le_trans hB hb1.size) hN
  rw [if_pos hr] at hch
  have HV := FVar.new ((w.alloc (.cells #[.slice X.F.A X.F.n X.F.c, .slice X.lA X.ln X.lc, .int .i64 X.fuse, .int .i64 X.fault, .bool X.off] 25)).alloc (.cells #[.slice p.A p.n p.c] 22)) (.slice none 0 0) (.slice none 0 0) (.int .i64 0) (.int .i64 0) (.bool false) 25
  simp only [FileT.agg, PcT.val] at hch ⊢
  obtain ⟨f0, f1, f2, f3, f4⟩ := HX
  have hpc : (((w.alloc (.cells #[.slice X.F.A X.F.n X.F.c, .slice X.lA X.ln X.lc, .int .i64 X.fuse, .int .i64 X.fault, .bool X.off] 25)).alloc (.cells #[.slice p.A p.n p.c] 22)).alloc (.cells #[.slice none 0 0, .slice none 0 0, .int .i64 0, .int .i64 0, .bool false] 25)).cell? ⟨w.heap.size + 1, 0, none⟩ = some (.slice p.A p.n p.c) := by simp [go_sem]
  have hsz : (((w.alloc (.cells #[.slice X.F.A X.F.n X.F.c, .slice X.lA X.ln X.lc, .int .i64 X.fuse, .int .i64 X.fault, .bool X.off] 25)).alloc (.cells #[.slice p.A p.n p.c] 22)).alloc (.cells #[.slice none 0 0, .slice none 0 0, .int .i64 0, .int .i64 0, .bool false] 25)).heap.size = w.heap.size + 3 := by simp
  have hsz2 : ((w.alloc (.cells #[.slice X.F.A X.F.n X.F.c, .slice X.lA X.ln X.lc, .int .i64 X.fuse, .int .i64 X.fault, .bool X.off] 25)).alloc (.cells #[.slice p.A p.n p.c] 22)).heap.size = w.heap.size + 1 + 1 := by simp
  rw [hsz2] at HV
  clear hsz2
  go_enter Tryd.func18, Tryd.ntmps18
  go_wp2_with fail
  generalize ((w.alloc (.cells #[.slice X.F.A X.F.n X.F.c, .slice X.lA X.ln X.lc, .int .i64 X.fuse, .int .i64 X.fault, .bool X.off] 25)).alloc (.cells #[.slice p.A p.n p.c] 22)).alloc (.cells #[.slice none 0 0, .slice none 0 0, .int .i64 0, .int .i64 0, .bool false] 25) = W1 at *
  refine hch.mono ?_
  rintro e W2 ⟨rfl, hb2⟩
  clear hch
  have hb3 := bel_next hb1 hb2
  have HV2 := Lib.hid (HV.later hb2)
  have f0' := kept_later hb2 f0
  have f1' := kept_later hb2 f1
  have f2' := kept_later hb2 f2
  have f3' := kept_later hb2 f3
  have f4' := kept_later hb2 f4
  have hpc' := kept_later hb2 hpc
  have hs2 := hb2.size
  have HS := Lib.hid hsz
  clear f0 f1 f2 f3 f4 hpc HV hb1 hb2
  by_cases h0 : p.n = 0
  · have h1 : ((p.n : Int) == 0) = true := by rw [beq_iff_eq]; omega
    have HO2 := Lib.hid (HO.out.1 h0)
    clear HO
    have HL := Lib.hid ((hL.later (hb3.mono hB)).more (Nat.le_trans hB hb3.size))
    obtain ⟨⟨j0, j1, j2, j3, j4⟩, k0, k1, k2, k3, k4⟩ := HV2.out
    have hbe := fbelow_set5 (a := .slice X.F.A X.F.n X.F.c) (b := .slice X.lA X.ln X.lc) (c := .int .i64 X.fuse) (d := .int .i64 X.fault) (e := .bool X.off) hb3 (show w.heap.size ≤ w.heap.size + 1 + 1 by omega)
    have hLe := (hL.later (hbe.mono hB)).more (Nat.le_trans hB hbe.size)
    clear h0 hsz hN hl hln hr hL
    go_wp2
    refine bodyPost_ret (v := .tuple #[.agg #[.slice X.F.A X.F.n X.F.c, .slice X.lA X.ln X.lc, .int .i64 X.fuse, .int .i64 X.fault, .bool X.off], .int .i64 2]) ?_ rfl ⟨X, by rw [HO2.out]; rfl, by rw [HO2.out], hLe, hbe, fun _ _ h _ => h⟩
    simp [results, Tryd.results18, go_sem, *]
  · have h1 : ((p.n : Int) == 0) = false := by rw [beq_eq_false_iff_ne]; omega
    have HO2 := Lib.hid (HO.out.2 h0)
    clear HO
    have hmf : ∀ (fn : Fn) (first cap : Array Value) (w : World), (Instr.makeFunc fn first cap).run Tryd.prog w = .ok (.func fn first cap) w := fun _ _ _ _ => rfl
    have HL := Lib.hid hL
    have HP := Lib.hid hp
    have HN := Lib.hid hN
    clear hsz hN hr hL hp
    have hb4 := bel_alloc (bel_alloc hb3 (.cells #[.slice X.F.A X.F.n X.F.c, .slice X.lA X.ln X.lc, .int .i64 X.fuse, .int .i64 X.fault, .bool X.off, .int .i64 (p.n : Nat)] 71)) (.cells #[.pointer (some ⟨W2.heap.size, 0, none⟩)] 69)
    have hg4 : W2.heap.size < ((W2.alloc (.cells #[.slice X.F.A X.F.n X.F.c, .slice X.lA X.ln X.lc, .int .i64 X.fuse, .int .i64 X.fault, .bool X.off, .int .i64 (p.n : Nat)] 71)).alloc (.cells #[.pointer (some ⟨W2.heap.size, 0, none⟩)] 69)).heap.size := by rw [World.size_alloc, World.size_alloc]; omega
    obtain ⟨hV4, h54, hq4⟩ := chg_lay W2 (.slice X.F.A X.F.n X.F.c) (.slice X.lA X.ln X.lc) (.int .i64 X.fuse) (.int .i64 X.fault) (.bool X.off) (.int .i64 (p.n : Nat)) 71 69
    have hr4 := HV2.out.later (bel_alloc (bel_alloc (Below.refl _ _) (.cells #[.slice X.F.A X.F.n X.F.c, .slice X.lA X.ln X.lc, .int .i64 X.fuse, .int .i64 X.fault, .bool X.off, .int .i64 (p.n : Nat)] 71)) (.cells #[.pointer (some ⟨W2.heap.size, 0, none⟩)] 69))
    have hp4 := kept_later (bel_alloc (bel_alloc (Below.refl _ _) (.cells #[.slice X.F.A X.F.n X.F.c, .slice X.lA X.ln X.lc, .int .i64 X.fuse, .int .i64 X.fault, .bool X.off, .int .i64 (p.n : Nat)] 71)) (.cells #[.pointer (some ⟨W2.heap.size, 0, none⟩)] 69)) hpc'
    have hs4 := hb4.size
    have hs3 := hb3.size
    have hww : w.heap.size + 3 ≤ W2.heap.size := by have := HS.out; omega
    have hcf : ∀ (cap : Array Value) (W : World), Sem.run Tryd.prog (callFunc 40 cap) W = .ok (.enter 40 cap) W := fun _ _ => by kernel_rfl
    go_wp2_with fail
    generalize hW4 : (W2.alloc (.cells #[.slice X.F.A X.F.n X.F.c, .slice X.lA X.ln X.lc, .int .i64 X.fuse, .int .i64 X.fault, .bool X.off, .int .i64 (p.n : Nat)] 71)).alloc (.cells #[.pointer (some ⟨W2.heap.size, 0, none⟩)] 69) = W4 at *
    clear hW4
    have hL4 := (HL.out.later (hb4.mono hB)).more (Nat.le_trans hB hb4.size)
    refine (run_any X W2.heap.size p.n W2.heap.size 40 #[.pointer (some ⟨W2.heap.size + 1, 0, none⟩), .pointer (some ⟨w.heap.size + 1, 0, none⟩)] (AppJ X p (W4.heap.size + 2)) W4 hV4 h54 ((HL.out.later (hb4.mono hB)).more (Nat.le_trans hB hs3)) (Nat.le_refl _) hg4 HN.out hl (hcf _) ?hwork ?hJ).mono ?_
    case hwork =>
      intro W hV hbW hsW hoW
      refine work1_any W2.heap.size (W2.heap.size + 1) (w.heap.size + 1) W2.heap.size (W4.heap.size + 2) X.ln X.lc p.n p.c X.lA p.A (X.L.map PcT.val) _ _ _ _ W hV ((World.cell?_of_block (hoW _ (World.block_lt_of_cell? _ _ hq4) (show W2.heap.size + 1 ≠ W2.heap.size by omega))).trans hq4) ((World.cell?_of_block (hoW _ (show w.heap.size + 1 < W4.heap.size by omega) (show w.heap.size + 1 ≠ W2.heap.size by omega))).trans hp4) (by omega) (by omega) (Nat.le_refl _) (by omega) hsW (((HL.out.later (hb4.mono hB)).row.more (Nat.le_trans hB hs3)).below hbW) HL.out.fits (by omega) HP.out.fits (Nat.le_trans HP.out.fits HP.out.most) ?_
      intro A' c' Wn hown hb hV'
      refine ⟨rfl, (hb.mono (show W2.heap.size ≤ W.heap.size by omega)).setCell (show W2.heap.size ≤ W2.heap.size from Nat.le_refl _) _, fun k a b c d e hk hlt hf => fvar_other 1 _ (Ne.symm hk) (hf.later hb), _, _, _, _, _, _, hV'.set1 _, rfl, A', c', rfl, ownsRow_setCell_below hown (by show W2.heap.size < _; omega) _⟩
    case hJ =>
      rintro v0 v1 W a b c d e ⟨rfl, A', c', rfl, hown⟩
      exact ⟨rfl, A', c', rfl, own_set5 hown (by omega)⟩
    rintro e W5 ⟨r, hask, hb5, hcase⟩
    have hb6 := hb4.trans (hb5.mono hs3)
    have hV6 := hr4.low (by omega) hb5
    obtain ⟨⟨j0, j1, j2, j3, j4⟩, k0, k1, k2, k3, k4⟩ := hV6
    have hpl := HP.out.len
    rcases hcase with ⟨hne, rfl⟩ | ⟨h0, v0, v1, ⟨rfl, A', c', rfl, hown⟩, rfl⟩
    · have HO3 := Lib.hid (show out = X.s.asked X.long p.n by
        rw [HO2.out]
        unfold FileS.append
        rw [hpl, if_neg (by rw [hask]; exact hne)])
      subst hask
      have hbe := fbelow_set5 (a := .slice X.F.A X.F.n X.F.c) (b := .slice X.lA X.ln X.lc) (c := .int .i64 (X.s.asked X.long p.n).1.fuse) (d := .int .i64 (X.s.asked X.long p.n).1.fault) (e := .bool (X.s.asked X.long p.n).1.off) hb6 (show w.heap.size ≤ w.heap.size + 1 + 1 by omega)
      have HLe := Lib.hid (lie_asked (gr := p.n) HL.out (hbe.mono hB) (Nat.le_trans hB hbe.size))
      have HSe := Lib.hid (show (⟨X.F.l, X.L.map (·.l), (X.s.asked X.long p.n).1.fuse, (X.s.asked X.long p.n).1.fault, (X.s.asked X.long p.n).1.off⟩ : FileS) = (X.s.asked X.long p.n).1 by
        obtain ⟨e1, e2⟩ := asked_same X.s X.long p.n
        generalize X.s.asked X.long p.n = q at *
        obtain ⟨⟨q0, q1, q2, q3, q4⟩, q5⟩ := q
        cases e1
        cases e2
        rfl)
      generalize X.s.asked X.long p.n = q at *
      clear HL HP HN hV4 h54 hq4 hr4 hp4 hs4 hs3 hww hcf hmf hg4 hL4 hb5 hb6 hb4 hb3 hne h0 h1 hpl f0' f1' f2' f3' f4' hpc' hs2 HS HV2 HO2 hl hln
      go_wp2
      refine bodyPost_ret (v := .tuple #[.agg #[.slice X.F.A X.F.n X.F.c, .slice X.lA X.ln X.lc, .int .i64 q.1.fuse, .int .i64 q.1.fault, .bool q.1.off], .int .i64 q.2]) ?_ rfl ⟨⟨X.F, X.lA, X.ln, X.lc, X.L, q.1.fuse, q.1.fault, q.1.off⟩, by rw [HO3.out]; rfl, by rw [HO3.out]; exact HSe.out, HLe.out, hbe, fun _ _ h _ => ⟨h.firm, h.row, h.loose⟩⟩
      simp [results, Tryd.results18, go_sem, *]
    · have HO3 := Lib.hid (show out = ({ (X.s.asked X.long p.n).1 with loose := X.s.loose ++ [p.l] }, (0 : Int)) by
        rw [HO2.out]
        unfold FileS.append
        rw [hpl, if_pos (by rw [hask]; exact h0)])
      subst hask
      have hbe := fbelow_set5 (a := .slice X.F.A X.F.n X.F.c) (b := .slice A' (X.ln + 1) c') (c := .int .i64 (X.s.asked X.long p.n).1.fuse) (d := .int .i64 (X.s.asked X.long p.n).1.fault) (e := .bool (X.s.asked X.long p.n).1.off) hb6 (show w.heap.size ≤ w.heap.size + 1 + 1 by omega)
      obtain ⟨q2, q3⟩ := asked_wf (gr := p.n) HL.out.fuse HL.out.fault
      have HLe := Lib.hid (lie_app (b := (X.s.asked X.long p.n).1.off) (HL.out.later (hbe.mono hB)) (HP.out.later (hbe.mono hB)) q2 q3 (Nat.le_trans hB hbe.size) (show w.heap.size + 1 + 1 < W4.heap.size + 2 by omega) hown)
      have HAw := Lib.hid (show ∀ g, g < w.heap.size → AwayF X g → AwayP p g → AwayF ⟨X.F, A', X.ln + 1, c', X.L ++ [⟨p.A, p.n, p.n, p.l⟩], (X.s.asked X.long p.n).1.fuse, (X.s.asked X.long p.n).1.fault, (X.s.asked X.long p.n).1.off⟩ g from fun g hg h1 h2 => ⟨h1.firm, own_away hown (by omega), fun q hq => by
        rcases List.mem_append.1 hq with hq | hq
        · exact h1.loose q hq
        · obtain rfl := List.mem_singleton.1 hq
          exact h2⟩)
      have HSe := Lib.hid (show (⟨X.F.l, X.L.map (·.l) ++ [p.l], (X.s.asked X.long p.n).1.fuse, (X.s.asked X.long p.n).1.fault, (X.s.asked X.long p.n).1.off⟩ : FileS) = { (X.s.asked X.long p.n).1 with loose := X.s.loose ++ [p.l] } by
        obtain ⟨e1, e2⟩ := asked_same X.s X.long p.n
        generalize X.s.asked X.long p.n = q at *
        obtain ⟨⟨q0, q1, q2, q3, q4⟩, q5⟩ := q
        cases e1
        rfl)
      generalize X.s.asked X.long p.n = q at *
      clear HL HP HN hV4 h54 hq4 hr4 hp4 hs4 hs3 hww hcf hmf hg4 hL4 hb5 hb6 hb4 hb3 h0 h1 hpl f0' f1' f2' f3' f4' hpc' hs2 HS HV2 HO2 hl hln q2 q3 hown
      go_wp2
      refine bodyPost_ret (v := .tuple #[.agg #[.slice X.F.A X.F.n X.F.c, .slice A' (X.ln + 1) c', .int .i64 q.1.fuse, .int .i64 q.1.fault, .bool q.1.off], .int .i64 0]) ?_ rfl ⟨_, by rw [HO3.out]; rfl, by rw [HO3.out]; refine Eq.trans ?_ HSe.out; unfold FileT.s; rw [List.map_append]; rfl, HLe.out, hbe, HAw.out⟩
      simp [results, Tryd.results18, go_sem, *]
end Go.Proofs.YtghmehfmchadoaaDoor
/-
  A region that draws its order inside a round of a range over a function: walked as outside of it (its operations are the same there, but for 'defer'). No program in sight.
-/
namespace Go.Proofs.YtghmehfmchadoaaDoor
open Go.RowKit
set_option linter.unusedVariables false

section
variable {P : Program} {n l : Nat} {Q : Exit → Act → World → Prop}
theorem wpIn_round {o : Oper} {a : Act} {w : World} {K : Act → World → Prop} (hd : ∀ c, o.op ≠ .defer c) (h : Oper.wp P o a w K Q) : Oper.wpIn (Fence.wide.inRound l) n P o a w K Q := by
  unfold Oper.wp at h
  unfold Oper.wpIn
  refine ⟨fun _ _ => trivial, ?_⟩
  rw [Oper.semAt_eq _ _ _ hd]
  generalize (execOp a.eval o).run P w = r at *
  cases r with
  | ok x w' =>
    cases x with
    | value v => exact h
    | skip => exact h
    | defer d => exact h
    | enter f args => exact ⟨(fun q => Bool.noConfusion q), CallsIn.inRound l (callsIn_wide.2 h)⟩
    | row row args => exact ⟨(fun q => Bool.noConfusion q), fun c cs _ => let ⟨v, w', r, s⟩ := h c cs; ⟨v, w', r, stepsIn_wide.2 s⟩⟩
    | _ => exact h.elim
  | halt x w' =>
    cases x with
    | panic v => exact h
    | _ => exact h.elim
theorem wpOpIn_round {ops : Array Oper} {i : Nat} {a : Act} {w : World} {K K' : Act → World → Prop} (hd : ∀ o ∈ ops, ∀ c, o.op ≠ .defer c) (hlo : ¬ LetsOut Q) (hK : ∀ a w, K a w → K' a w) (h : wpOp P ops Q i K a w) : wpOpIn (Fence.wide.inRound l) n P ops Q i K' a w := by
  have h := wpOp_mono hK h
  unfold wpOp at h
  unfold wpOpIn
  cases ho : ops[i]? with
  | none => rw [ho] at h; exact h
  | some o =>
    rw [ho] at h
    simp only at h ⊢
    split
    · rename_i hw
      rw [if_pos hw] at h
      rcases h with h | h
      · exact wpIn_round (hd o (Array.mem_of_getElem? ho)) h
      · exact (hlo h.2).elim
    · rename_i hw
      rw [if_neg hw] at h
      exact ⟨fun _ _ => trivial, h⟩
theorem wpAnyIn_round {md : Region.Mode} {ops : Array Oper} (hd : ∀ o ∈ ops, ∀ c, o.op ≠ .defer c) (hlo : ¬ LetsOut Q) :
    ∀ (fuel : Nat) (listed : Array Bool) (a : Act) (w : World), wpAny P md ops Q fuel listed a w → wpAnyIn (Fence.wide.inRound l) n P md ops Q fuel listed a w
  | 0, _, _, _, h => h
  | fuel + 1, _, _, _, h => ⟨h.1, fun i hi => wpOpIn_round hd hlo (fun a w h => wpAnyIn_round hd hlo fuel _ a w h) (h.2 i hi)⟩
/-- A region that draws, in a round. -/
theorem region_round {ops : Array Oper} {id : Nat} {a : Act} {w : World} {S : World → Prop} (hm : P.follows .mixedOrders = true) (hd : ∀ o ∈ ops, ∀ c, o.op ≠ .defer c) (hlo : ¬ LetsOut Q) (hS : S w.drew)
    (h : S w.drew → wpAnyH P .any ops Q S ops.size (Array.replicate ops.size false) a w.drew) : (Code.region id ops true).wpIn (Fence.wide.inRound l) n P Q a w :=
  wpIn_region_any hm (wpAnyIn_round hd hlo _ _ _ _ (wpAny_of_held _ _ _ _ (h hS)))
end
end Go.Proofs.YtghmehfmchadoaaDoor
