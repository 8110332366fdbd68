import Derived.Test.YtgnialemiefeeaaDoorGag
import Derived.Test.YtgnialemiefeeaaDoorGae
import Derived.Test.YtgnialemiefeeaaDoorGab
import Derived.LoopIn
import Derived.Test.YtgnialemiefeeaaDoorGad
import Derived.RangeFuncBox
import Derived.Lib.OwnKind
import Derived.WalkMore
import Derived.Deep.QuietTactic
import Derived.BigQuiet
/-
  Layer 1: Text.
-/
namespace Go.Proofs.YtgnialemiefeeaaDoor
open Go.RowKit Go.Shelf
attribute [local go_sem] Oper.semAt_some

/-- The marks of rounds' deferred calls. -/
def marks (Ds : List Nat) : List Deferred := Ds.map fun D => { target := .collected D, args := #[] }
theorem leaves_marks {F : Fence} {n : Nat} {P : Program} {fn : Func} {tmps : Array Value} {R : Ending → World → Prop} (J : World → Prop) :
    ∀ (Ds : List Nat) (w : World), (∀ D ∈ Ds, w.heap[D]? = some (.deferred (some []))) → Ds.Nodup →
      (∀ W D, D ∈ Ds → J W → W.heap[D]? = some (.deferred (some [])) → J (W.putObj D (.deferred none))) → J w →
      (∀ W, J W → LeavesInM F n P fn tmps R [] .returning W) → LeavesInM F n P fn tmps R (marks Ds) .returning w
  | [], w, _, _, _, h0, hR => hR w h0
  | D :: Ds, w, hD, hn, hJ, h0, hR => by
    have hd := hD D (by simp)
    refine ⟨by simp, .inl ⟨D, _, rfl, run_takeDeferred hd, ?_⟩⟩
    refine leaves_marks J Ds _ (fun D' h' => ?_) (List.nodup_cons.1 hn).2 (fun W D' h' => hJ W D' (by simp [h'])) (hJ w D (by simp) h0 hd) hR
    have hne : D' ≠ D := fun e => (List.nodup_cons.1 hn).1 (e ▸ h')
    have hk := hD D' (by simp [h'])
    have hlt : D' < w.heap.size := (Array.getElem?_eq_some_iff.1 hk).1
    exact ((grownBy_putObj' w D (.deferred none)).block D' hlt (fun e => hne (by injection e))).trans hk

/-- What Text tells. -/
def textR (l : List Int) : Value := if l.all isCp = true then .tuple #[.string (ofL (textL (l.map Int.toNat))), .int .i64 0] else .tuple #[.string ⟨#[]⟩, .int .i64 110]
theorem marks_own {β : Type} (Ds : List Nat) (B : Nat) (hB : ∀ D ∈ Ds, D < B) : OwnFrom B (fun (_ : β) W => ∀ D ∈ Ds, W.heap[D]? = some (.deferred (some []))) := fun s W W' row hs hg hr D hD =>
  (hg.block D ((Array.getElem?_eq_some_iff.1 (hs D hD)).1) (fun e => by have := (hr D e.symm).1; have := hB D hD; omega)).trans (hs D hD)
/-- What has come when j code points are over. -/
def sofar (l : List Int) (j : Nat) : List UInt8 := textL ((l.take j).map Int.toNat)
theorem sofar_len (l : List Int) (j : Nat) : (sofar l j).length ≤ 4 * j := by
  unfold sofar
  induction j with
  | zero => simp [textL]
  | succ j ih =>
    rcases Nat.lt_or_ge j l.length with h | h
    · rw [takeI_snoc l j h, List.map_append, textL_append, List.length_append, List.map_cons, List.map_nil, textL_one]
      have := encL_len_pos (l.getD j 0).toNat
      omega
    · rw [List.take_of_length_le (by omega)]
      rw [List.take_of_length_le (by omega)] at ih
      omega
theorem sofar_succ (l : List Int) (j : Nat) (h : j < l.length) : sofar l (j + 1) = sofar l j ++ encL (l.getD j 0).toNat := by
  unfold sofar
  rw [takeI_snoc l j h, List.map_append, textL_append, List.map_cons, List.map_nil, textL_one]
def TI (l : List Int) (w : World) (j : Nat) (Ds : List Nat) (wr : World) : Prop :=
  (∀ q, q < j → isCp (l.getD q 0) = true) ∧ (∃ v, Boxed wr w.heap.size 22 v ∧ wr.ownsRow w.heap.size 5 1 v (sofar l j).length ((sofar l j).map bv)) ∧
  (∀ D ∈ Ds, wr.heap[D]? = some (.deferred (some []))) ∧ (∀ D ∈ Ds, w.heap.size ≤ D) ∧ Ds.Nodup ∧ Below w.heap.size w wr
set_option maxRecDepth 100000 in
set_option maxHeartbeats 4000000 in
theorem text_any (A : Option Addr) (m c0 B : Nat) (l : List Int) (w : World) (htab : UTab w) (hl : Ints w B A m l) (hB : B ≤ w.heap.size) (hm : m ≤ 100000) :
    Calls Tryd.prog 39 #[.slice A m c0] w fun e w' => e = .returned (textR l) ∧ Below w.heap.size w w' := by
  obtain ⟨i0, hi, hz0, hz1, hz2⟩ := u8_info'
  have Hl := Lib.hid hl.len
  refine (callsIn_wide (n := 6)).1 ?_
  refine callsIn_of_wp_marks Tryd.func39 rfl trivial ?_ rfl
  simp only [Tryd.ntmps39, List.size_toArray, List.length_cons, List.length_nil, Nat.reduceAdd, Nat.reduceSub, Array.replicate_succ, Array.replicate_zero, List.push_toArray, List.append_toArray, List.nil_append, List.cons_append]
  refine wpIn_wide.2 ?_
  go_wp2
  refine (wpIn_wide (n := 6)).1 ?_
  refine wpIn_loop (fun a' wr => ∃ (j : Nat) (Ds : List Nat) (u6 u7 u8 u12 u13 u14 u15 u16 u17 u18 u19 u20 u21 u22 u23 u24 u25 u26 u27 u28 : Value), a' = { tmps := #[.slice A m c0, undef, .string ⟨#[]⟩, .int .i64 0, .pointer (some ⟨w.heap.size, 0, none⟩), undef, u6, u7, u8, .slice A m c0, .int .i64 m, .int .i64 (j : Int), u12, u13, u14, u15, u16, u17, u18, u19, u20, u21, u22, u23, u24, u25, u26, u27, u28, undef, undef], defers := marks Ds } ∧ j ≤ m ∧ TI l w j Ds wr) (fun a' _ => m - (intOf (a'.tmps.getD 11 undef)).toNat) ?start ?round
  case start =>
    exact ⟨0, [], _, _, _, _, _, _, _, _, _, _, _, _, _, _, _, _, _, _, _, _, rfl, by omega, fun q hq => by omega, ⟨_, Boxed.new _ _ _, World.ownsRow_nil _ _ _ _⟩, by simp, by simp, by simp, (Below.refl _ _).alloc (Nat.le_refl _) _⟩
  case round =>
    rintro a' wr ⟨j, Ds, u6, u7, u8, u12, u13, u14, u15, u16, u17, u18, u19, u20, u21, u22, u23, u24, u25, u26, u27, u28, rfl, hj, hcp, ⟨v, hv, hrow⟩, hDs, hDlo, hDn, hbr⟩
    have hsl := sofar_len l j
    have Hcp := Lib.hid hcp
    clear hcp
    refine wpIn_wide.2 ?_
    rcases (show j = m ∨ j < m by omega) with rfl | hjm
    · have hc := hv.cell
      obtain ⟨A1, c1, rfl, -, -⟩ := own_form hrow
      have hconv := run_bytes_string (P := Tryd.prog) Tryd.underlying22 Tryd.underlying5 Tryd.underlying9 wr A1 _ c1 _ _ (Bytes.own hrow)
      have HR := Lib.hid (show textR l = .tuple #[.string (ofL (sofar l j)), .int .i64 0] by
        have hall : l.all isCp = true := by
          rw [List.all_eq_true]
          intro x hx
          obtain ⟨q, hq, rfl⟩ := List.mem_iff_getElem.1 hx
          have := Hcp.out q (by have := Hl.out; omega)
          rwa [List.getD_eq_getElem?_getD, List.getElem?_eq_getElem hq] at this
        unfold textR sofar
        rw [if_pos hall, List.take_of_length_le (by rw [Hl.out]; omega)])
      generalize sofar l j = T at *
      go_wp2
      refine leaves_marks (fun W => Below w.heap.size w W) Ds _ hDs hDn (fun W D hD hW hK => hW.trans (belowK_b (w := w) (Nat.le_refl _) W D _ _ (hDlo D hD) hK rfl rfl)) hbr (fun W hW => ?_)
      refine ⟨_, ?_, by rw [HR.out], hW⟩
      simp [results, Tryd.results39, go_sem]
    · have hlj : j < l.length := by have := Hl.out; omega
      obtain ⟨b0, off, rfl, hb0, hcx⟩ := (hl.below (hbr.mono hB)).cell hjm
      have Hx := Lib.hid (show l.getD j 0 = l.getD j 0 from rfl)
      have htr := htab.below hbr htab.lt
      have hjm1 : (j : Int) < (m : Int) := by omega
      have hj0 : (0 : Int) ≤ (j : Int) := by omega
      have hf := find_cp (l.getD j 0) wr htr
      cases hx : isCp (l.getD j 0)
      · rw [hIdx_no _ hx] at hf
        simp only [fl, fh, fs, fd] at hf
        have HR := Lib.hid (show textR l = .tuple #[.string ⟨#[]⟩, .int .i64 110] by
          have hall : ¬ l.all isCp = true := by
            intro h
            rw [List.all_eq_true] at h
            have := h l[j] (List.getElem_mem hlj)
            rw [List.getD_eq_getElem?_getD, List.getElem?_eq_getElem hlj] at hx
            simp only [Option.getD_some] at hx
            rw [hx] at this
            cases this
          unfold textR
          rw [if_neg hall])
        clear hx
        generalize l.getD j 0 = x at *
        go_wp2_with fail
        refine hf.mono ?_
        rintro e w1 ⟨rfl, hb1⟩
        have hDs1 : ∀ D ∈ Ds, w1.heap[D]? = some (.deferred (some [])) := fun D hD => (hb1.block D ((Array.getElem?_eq_some_iff.1 (hDs D hD)).1)).trans (hDs D hD)
        go_wp2
        refine leaves_marks (fun W => Below w.heap.size w W) Ds _ (fun D hD => (Below.heap_alloc w1 _ D ((Array.getElem?_eq_some_iff.1 (hDs1 D hD)).1)).trans (hDs1 D hD)) hDn (fun W D hD hW hK => hW.trans (belowK_b (w := w) (Nat.le_refl _) W D _ _ (hDlo D hD) hK rfl rfl)) (bel_alloc (bel_next hbr hb1) _) (fun W hW => ?_)
        refine ⟨_, ?_, by rw [HR.out], hW⟩
        simp [results, Tryd.results39, go_sem]
      · obtain ⟨c, Hc⟩ : ∃ c : Nat, Hid (l.getD j 0 = (c : Int)) := ⟨(l.getD j 0).toNat, Lib.hid (by have := (isCp_iff _).1 hx; omega)⟩
        have HS := Lib.hid (show sofar l (j + 1) = sofar l j ++ encL c by rw [sofar_succ l j hlj, Hc.out, Int.toNat_natCast])
        have HCP := Lib.hid (show ∀ q, q < j + 1 → isCp (l.getD q 0) = true from fun q hq => if e : q = j then e ▸ hx else Hcp.out q (by omega))
        rw [Hc.out] at hf hcx hx
        have hsz := hIdx_len c hx
        have hlen := encL_len_pos c
        have hstops := fun Bf Bc W => enc_stops 5 (by omega) Bf Bc c hx W
        rw [hsz] at hf hstops
        clear hsz Hc Hx Hcp hx
        generalize fl (hIdx c) = x0 at *
        generalize fh (hIdx c) = x1 at *
        generalize fd (hIdx c) = x3 at *
        obtain ⟨k, Hk⟩ : ∃ k, Hid ((encL c).length = k) := ⟨_, Lib.hid rfl⟩
        rw [Hk.out] at hf hstops hlen
        have hk0 : ((k : Int) == 0) = false := by rw [beq_eq_false_iff_ne]; omega
        obtain ⟨hk1, hk4⟩ := hlen
        generalize sofar l j = T at *
        have hIO : ∀ n₀ B t, Own (fun pre W => ∃ v, Boxed W B t v ∧ W.ownsRow n₀ 5 1 v (T.length + pre.length) ((T ++ pre).map bv) ∧ True) := fun n₀ B t => holdsRow_own n₀ B t 5 1 (fun pre => T.length + pre.length) (fun pre => (T ++ pre).map bv) (fun _ _ => True)
        go_wp2_with fail
        refine hf.mono ?_
        rintro e w1 ⟨rfl, hb1⟩
        obtain ⟨W1, hW1⟩ : ∃ W1, w1.alloc (.cells #[.int .i64 x0, .int .i64 x1, .int .i64 k, .int .i64 x3] 76) = W1 := ⟨_, rfl⟩
        have bx : Box W1 w1.heap.size [.int .i64 x0, .int .i64 x1, .int .i64 k, .int .i64 x3] := by rw [← hW1]; exact Box.new _ _ _
        have hbW : Below wr.heap.size wr W1 := by rw [← hW1]; exact bel_alloc hb1 _
        have e0 : W1.cell? ⟨w1.heap.size, 0, none⟩ = some (.int .i64 x0) := (bx 0 _ rfl).1
        have e1 : W1.cell? ⟨w1.heap.size, 1, none⟩ = some (.int .i64 x1) := (bx 1 _ rfl).1
        have e2 : W1.cell? ⟨w1.heap.size, 2, none⟩ = some (.int .i64 k) := (bx 2 _ rfl).1
        have e3 : W1.cell? ⟨w1.heap.size, 3, none⟩ = some (.int .i64 x3) := (bx 3 _ rfl).1
        clear bx
        go_wp2_with fail
        refine (encoding_any x0 x1 k x3 c W1).mono ?_
        rintro e w6 ⟨rfl, hW6⟩
        have hK5 := hstops W1.heap.size (W1.heap.size + 1) w6 (by rw [← hW6]; exact (Box.new _ _ _).alloc _) (by rw [← hW6]; exact (Box.new' _ _ _ (by simp) 0 _ rfl).1)
        have hb6 : Below wr.heap.size wr w6 := by rw [← hW6]; exact bel_alloc (bel_alloc hbW _) _
        have bO6 := boxed_below hv hb6
        have hown6 := own_below hrow hb6
        have hbw6 : Below w.heap.size w w6 := bel_next hbr hb6
        have hDs6 : ∀ D ∈ Ds, w6.heap[D]? = some (.deferred (some [])) := fun D hD => (hb6.block D ((Array.getElem?_eq_some_iff.1 (hDs D hD)).1)).trans (hDs D hD)
        have hDlt : ∀ D ∈ Ds, D < w6.heap.size := fun D hD => (Array.getElem?_eq_some_iff.1 (hDs6 D hD)).1
        have s6 : w6.heap.size = W1.heap.size + 2 := by rw [← hW6]; simp
        have sB : w.heap.size < W1.heap.size := Nat.lt_of_lt_of_le hv.lt hbW.size
        have bc6 : Boxed w6 (W1.heap.size + 1) 3 (.int .i64 c) := by
          rw [← hW6]
          have h := Boxed.new (W1.alloc (.cells #[.int .i64 x0, .int .i64 x1, .int .i64 k, .int .i64 x3] 76)) 3 (.int .i64 c)
          rw [World.size_alloc] at h
          exact h
        clear e0 e1 e2 e3 hW6 hW1 hv hrow
        go_wp2
        refine (wpIn_wide (n := 6)).1 ?_
        refine wpIn_rangeFunc_ownG rfl (by omega) (gf := 61) (lb := #[.pointer (some ⟨W1.heap.size, 0, none⟩), .pointer (some ⟨W1.heap.size + 1, 0, none⟩)]) rfl trivial (enters_of Tryd.func61 (by kernel_rfl) rfl)
          hK5 keptK_t (keptK_b (by omega)) (Below.refl _ _) (fun _ => rfl)
          (fun pre W => ((∃ v, Boxed W w.heap.size 22 v ∧ W.ownsRow w.heap.size 5 1 v (T.length + pre.length) ((T ++ pre).map bv) ∧ True) ∧ Boxed W (W1.heap.size + 1) 3 (.int .i64 c) ∧ Below w.heap.size w W) ∧ ∀ D ∈ Ds, W.heap[D]? = some (.deferred (some [])))
          (fun _ _ _ => False)
          (OwnFrom.and (OwnFrom.and (Own.from (hIO _ _ _) _) (OwnFrom.and (Own.from (boxed_own _ _ _) _) (ownFrom_below (Nat.le_refl _) hbw6.size))) (marks_own Ds _ hDlt))
          (fun _ _ _ _ _ hs _ _ => hs)
          ⟨⟨⟨_, bO6, by simpa using hown6, trivial⟩, bc6, hbw6⟩, hDs6⟩
          (fun x => { tmps := #[.slice (some ⟨b0, off, none⟩) m c0, undef, .string ⟨#[]⟩, .int .i64 0, .pointer (some ⟨w.heap.size, 0, none⟩), undef, .int .i64 c, .pointer (some ⟨w1.heap.size, 0, none⟩), (.int .u8 (x.toNat : Int)), .slice (some ⟨b0, off, none⟩) m c0, .int .i64 m, .int .i64 (j : Int), .bool true, .pointer (some ⟨b0, off + j, none⟩), .int .i64 c, .int .i64 c, .agg #[.int .i64 x0, .int .i64 x1, .int .i64 k, .int .i64 x3], .agg #[.int .i64 x0, .int .i64 x1, .int .i64 k, .int .i64 x3], .agg #[.int .i64 0, .int .i64 0, .int .i64 0, .int .i64 0], .bool false, .agg #[.int .i64 x0, .int .i64 x1, .int .i64 k, .int .i64 x3], .int .i64 c, .func (.func 61) #[] #[.pointer (some ⟨W1.heap.size, 0, none⟩), .pointer (some ⟨W1.heap.size + 1, 0, none⟩)], (.int .u8 (x.toNat : Int)), u24, u25, u26, u27, u28, undef, undef], defers := [] }) ?assign ?body ?done ?stop
        case assign =>
          intro l' x W K hK
          gi_wp2
          exact hK
        case body =>
          rintro l' pre x W ⟨⟨⟨v, hv, hrow, -⟩, hbc, hBW⟩, hDW⟩ hlt
          have hc := hv.cell
          have hvl := hv.lt
          gi_wp2_with (gi_at_builtin; refine wpListIn_append_own _ rfl _ _ 22 rfl w.heap.size 5 i0 (.int .u8 0) 1 1 Tryd.underlying22 hi hz0 hz1 hz2 rfl (by decide) _ _ _ rfl (hrow.alloc _) ⟨W.heap.size, 0, none⟩ 1 1 [.int .u8 (x.toNat : Int)] rfl rfl (cell_one_new _ _ _) (by simp [Value.oneCell']) (by unfold maxLen; omega) (by omega) (by simp; omega) ?_; intro v' w7 hown' hgrow' _; obtain ⟨g', cap', rfl⟩ := ownsRow_succ hown'; obtain ⟨hv1, hv2, hr2, hk2, hb2⟩ := hv.appended (by decide) hrow (by omega) (by omega) hown' hgrow'; have hc1 := hv1.cell; have hf1 := hv1.frozen; have hbc1 := ((hbc.alloc _).kept hgrow' (hbc.not_row (by decide) hrow)).other (B' := w.heap.size) (by omega) (.slice (some ⟨g', 0, none⟩) (T.length + pre.length + 1) cap'))
          exact ⟨hk2.from _, hbc1.cell.trans hbc.cell.symm, ⟨⟨_, hv2, by simpa [Nat.add_assoc, bv] using hr2, trivial⟩, hbc1, hBW.trans hb2⟩, fun D hD => hk2.same D _ (hDW D hD) rfl⟩
        case done =>
          rintro D ys W hD rfl ⟨⟨⟨v, hv, hrow, -⟩, -, hBW⟩, hDW⟩ hK
          go_wp2
          refine ⟨⟨j + 1, D :: Ds, _, _, _, _, _, _, _, _, _, _, _, _, _, _, _, _, _, _, _, _, rfl, by omega, HCP.out, ⟨v, hv, ?_⟩, ?_, ?_, ?_, hBW⟩, ?_⟩
          · rw [HS.out, List.length_append]; exact hrow
          · intro D' h'
            rcases List.mem_cons.1 h' with rfl | h'
            · exact hK
            · exact hDW D' h'
          · intro D' h'
            rcases List.mem_cons.1 h' with rfl | h'
            · exact Nat.le_trans hbw6.size hD
            · exact hDlo D' h'
          · exact List.nodup_cons.2 ⟨fun h => by have := hDlt D h; omega, hDn⟩
          · simp [intOf]; omega
        case stop =>
          rintro D c pre W _ _ h _
          exact h.elim
end Go.Proofs.YtgnialemiefeeaaDoor
/-
  Layer 2: what lies in memory between two rounds of Read's loop.
-/
namespace Go.Proofs.YtgnialemiefeeaaDoor
open Go.RowKit Go.Shelf

/-- So far: the code points that have come, from p on, up to q. -/
structure Sofar (l : List UInt8) (p q : Nat) (cps : List Nat) : Prop where
  lo : p ≤ q
  hi : q ≤ l.length
  few : cps.length ≤ q - p
  rest : sgsL (l.drop p) = (cps ++ (sgsL (l.drop q)).1, (q - p) + (sgsL (l.drop q)).2)
theorem Sofar.start {l : List UInt8} {p : Nat} (h : p ≤ l.length) : Sofar l p p [] := ⟨Nat.le_refl _, h, Nat.zero_le _, by simp⟩
theorem Sofar.step {l : List UInt8} {p q : Nat} {cps : List Nat} (h : Sofar l p q cps) (hb : (begL (l.drop q)).2 ≠ 0) : Sofar l p (q + (begL (l.drop q)).2) (cps ++ [(begL (l.drop q)).1]) := by
  have hle := beg_le (l.drop q)
  rw [List.length_drop] at hle
  refine ⟨by have := h.lo; omega, by have := h.hi; omega, by have := h.few; have := h.lo; simp only [List.length_append, List.length_cons, List.length_nil]; omega, ?_⟩
  rw [h.rest, sgs_step hb, List.drop_drop]
  refine Prod.ext ?_ ?_
  · simp
  · have := h.lo
    simp only
    omega
theorem Sofar.done {l : List UInt8} {p q : Nat} {cps : List Nat} (h : Sofar l p q cps) (hb : (begL (l.drop q)).2 = 0) : sgsL (l.drop p) = (cps, q - p) := by
  rw [h.rest, sgs_zero hb]
  simp

theorem nats_back : ∀ l : List Nat, (nats l).map Int.toNat = l
  | [] => rfl
  | c :: l => by rw [show nats (c :: l) = (c : Int) :: nats l from rfl, List.map_cons, nats_back l, Int.toNat_natCast]
theorem textR_cps {cps : List Nat} (h : allCp cps) : textR (nats cps) = .tuple #[.string (ofL (textL cps)), .int .i64 0] := by
  unfold textR
  rw [if_pos, nats_back]
  rw [List.all_eq_true]
  intro x hx
  obtain ⟨c, hc, rfl⟩ := List.mem_map.1 hx
  exact h c hc
theorem sgs_cps (l : List UInt8) : allCp (sgsL l).1 := (sgs_is l.length l (Nat.le_refl _)).1
/-- The memory between two rounds: n blocks lay when Read began. -/
structure RJ (n : Nat) (A : Option Addr) (m c0 : Nat) (w : World) (lp : Obj) (q c : Nat) (cps : List Nat) (W : World) : Prop where
  b0 : Boxed W n 3 (.int .i64 (q : Nat))
  b1 : ∃ v, Boxed W (n + 1) 35 v ∧ W.ownsRow (n + 4) 3 1 v cps.length ((nats cps).map iv)
  b2 : Boxed W (n + 2) 22 (.slice A m c0)
  b3 : Boxed W (n + 3) 3 (.int .i64 (c : Nat))
  d : W.heap[n + 4]? = some (.deferred (some []))
  r : W.heap[n + 5]? = some lp
  bel : Below n w W
section
variable {n : Nat} {A : Option Addr} {m c0 : Nat} {w : World} {lp : Obj} {q c : Nat} {cps : List Nat} {W W' : World}
theorem lies {W W' : World} {k : Nat} {o : Obj} (h : W.heap[k]? = some o) (hb : Below W.heap.size W W') : W'.heap[k]? = some o := (hb.block k (Array.getElem?_eq_some_iff.1 h).1).trans h
theorem RJ.lt (h : RJ n A m c0 w lp q c cps W) : n + 5 < W.heap.size := (Array.getElem?_eq_some_iff.1 h.r).1
theorem RJ.later (h : RJ n A m c0 w lp q c cps W) (hb : Below W.heap.size W W') : RJ n A m c0 w lp q c cps W' := by
  obtain ⟨v, h1, h2⟩ := h.b1
  exact ⟨lies h.b0 hb, ⟨v, lies h1 hb, own_below h2 hb⟩, lies h.b2 hb, lies h.b3 hb, lies h.d hb, lies h.r hb, h.bel.trans (hb.mono (by have := h.lt; omega))⟩
theorem RJ.own (h : RJ n A m c0 w lp q c cps W) (c' : Nat) : RJ n A m c0 w lp q c' cps (W.setCell ⟨n + 3, 0, none⟩ (.int .i64 (c' : Nat))) := by
  obtain ⟨v, h1, h2⟩ := h.b1
  exact ⟨h.b0.other (by omega) _, ⟨v, h1.other (by omega) _, ownsRow_setCell_below h2 (by show n + 3 < n + 4; omega) _⟩, h.b2.other (by omega) _, h.b3.set _, (Below.heap_setCell _ _ _ _ (by show n + 4 ≠ n + 3; omega)).trans h.d, (Below.heap_setCell _ _ _ _ (by show n + 5 ≠ n + 3; omega)).trans h.r, h.bel.setCell (by show n ≤ n + 3; omega) _⟩
theorem RJ.turn (h : RJ n A m c0 w lp q c cps W) (hl : lp.isCells = false) (lp' : Obj) : RJ n A m c0 w lp' q c cps (W.putObj (n + 5) lp') := by
  obtain ⟨v, h1, h2⟩ := h.b1
  have hg := grownBy_putObj' W (n + 5) lp'
  exact ⟨h.b0.kept hg (by simp), ⟨v, h1.kept hg (by simp), ownsRow_putObj h2 _ h.r hl⟩, h.b2.kept hg (by simp), h.b3.kept hg (by simp), (World.putObj_heap_other (by omega)).trans h.d, World.putObj_heap_same h.lt, h.bel.grown hg (by have := h.lt; omega) (fun k e => by cases e; omega)⟩
theorem cell_of_heap {W : World} {k : Nat} {C : Array Value} {t : TypeId} {fz : Nat × Nat} (h : W.heap[k]? = some (.cells C t fz)) (j : Nat) (v : Value) (hj : C[j]? = some v) : W.cell? ⟨k, j, none⟩ = some v := by simp [World.cell?, h, hj]
/-- A row is no block that holds something else. -/
theorem no_row {W : World} {base : Nat} {e : TypeId} {v : Value} {k : Nat} {xs : List Value} (h : W.ownsRow base e 1 v k xs) {S : Nat} {o : Obj} (hS : W.heap[S]? = some o) (ho : ∀ c fz, o ≠ .cells c e fz) : some S ≠ v.ownBlock := fun e' => by
  obtain ⟨c', fz, h2⟩ := Lib.ownsRow_kind h S e'.symm
  rw [hS] at h2
  injection h2 with h2
  exact ho _ _ h2
theorem low_row {W : World} {base : Nat} {e : TypeId} {v : Value} {k : Nat} {xs : List Value} (h : W.ownsRow base e 1 v k xs) {S : Nat} (hS : S < base) : some S ≠ v.ownBlock := fun e' => by
  have := (h.lt S e'.symm).1
  omega
/-- One more code point has been taken. -/
theorem RJ.took {x S : Nat} {C : Array Value} {t : TypeId} {v v' : Value} {tmp : Obj} {w7 : World} (q' : Nat) (h : RJ n A m c0 w lp q c cps W) (hlp : lp.isCells = false) (hv : Boxed W (n + 1) 35 v) (hrow : W.ownsRow (n + 4) 3 1 v cps.length ((nats cps).map iv))
    (hS : W.heap[S]? = some (.cells C t (0, 0))) (ht : t ≠ 3) (hSn : n + 4 ≤ S) (hgrow : (W.alloc tmp).grownBy w7 v.ownBlock) (hown : w7.ownsRow (n + 4) 3 1 v' (cps.length + 1) ((nats cps).map iv ++ [.int .i64 (x : Nat)])) :
    Boxed w7 (n + 1) 35 v ∧ w7.heap[S]? = some (.cells C t (0, 0)) ∧ (w7.setCell ⟨n + 1, 0, none⟩ v').heap[S]? = some (.cells C t (0, 0)) ∧ Boxed (w7.setCell ⟨n + 1, 0, none⟩ v') n 3 (.int .i64 (q : Nat)) ∧
      RJ n A m c0 w lp q' c (cps ++ [x]) ((w7.setCell ⟨n + 1, 0, none⟩ v').setCell ⟨n, 0, none⟩ (.int .i64 (q' : Nat))) := by
  have hlt := h.lt
  have ha : ∀ {k : Nat} {o : Obj}, W.heap[k]? = some o → some k ≠ v.ownBlock → w7.heap[k]? = some o := fun {k o} hk hne =>
    (hgrow.block k (by have := (Array.getElem?_eq_some_iff.1 hk).1; simp; omega) hne).trans ((Below.heap_alloc W tmp k (Array.getElem?_eq_some_iff.1 hk).1).trans hk)
  have hlp' : ∀ c fz, lp ≠ .cells c 3 fz := fun c fz e => by rw [e] at hlp; cases hlp
  have g0 : Boxed w7 n 3 (.int .i64 (q : Nat)) := ha h.b0 (low_row hrow (by omega))
  have g1 : Boxed w7 (n + 1) 35 v := ha hv (low_row hrow (by omega))
  have g2 : Boxed w7 (n + 2) 22 (.slice A m c0) := ha h.b2 (low_row hrow (by omega))
  have g3 : Boxed w7 (n + 3) 3 (.int .i64 (c : Nat)) := ha h.b3 (low_row hrow (by omega))
  have gd := ha h.d (no_row hrow h.d (fun _ _ e => by cases e))
  have gr := ha h.r (no_row hrow h.r hlp')
  have gS := ha hS (no_row hrow hS (fun _ _ e => by injection e with _ e; exact ht e))
  have hb7 : Below n w w7 := (h.bel.alloc (by omega) tmp).grown hgrow (by simp; omega) (fun k e => by have := (hrow.lt k e).1; omega)
  have f : ∀ {k : Nat} {o : Obj} (a : Nat) (u : Value) (X : World), X.heap[k]? = some o → k ≠ a → (X.setCell ⟨a, 0, none⟩ u).heap[k]? = some o := fun {k o} a u X hX hne => (Below.heap_setCell X _ u k hne).trans hX
  refine ⟨g1, gS, f _ _ _ gS (by omega), g0.other (by omega) _, ⟨Boxed.set _ (g0.other (by omega) _), ⟨v', (g1.set v').other (by omega) _, ?_⟩, (g2.other (by omega) _).other (by omega) _, (g3.other (by omega) _).other (by omega) _, f _ _ _ (f _ _ _ gd (by omega)) (by omega), f _ _ _ (f _ _ _ gr (by omega)) (by omega), (hb7.setCell (by show n ≤ n + 1; omega) _).setCell (Nat.le_refl n) _⟩⟩
  rw [nats_snoc, List.length_append, List.map_append]
  exact ownsRow_setCell_below (ownsRow_setCell_below hown (by show n + 1 < n + 4; omega) _) (by show n < n + 4; omega) _
end
end Go.Proofs.YtgnialemiefeeaaDoor
/-
  Layer 2: Read.
-/
namespace Go.Proofs.YtgnialemiefeeaaDoor
open Go.RowKit Go.Shelf
attribute [local go_sem] Oper.semAt_some

/-- What Read tells at a place of the row, or at its end. -/
def readV (l : List UInt8) (p : Nat) : Value :=
  if l.length ≤ p then .tuple #[.string ⟨#[]⟩, .int .i64 (p : Int), .int .i64 6]
  else if at0 l p ≠ 34 then .tuple #[.string ⟨#[]⟩, .int .i64 (p : Int), .int .i64 7]
  else
    let q := p + 1 + (sgsL (l.drop (p + 1))).2
    if q < l.length ∧ at0 l q = 34 then .tuple #[.string (ofL (textL (sgsL (l.drop (p + 1))).1)), .int .i64 ((q + 1 : Nat) : Int), .int .i64 0]
    else .tuple #[.string ⟨#[]⟩, .int .i64 (q : Int), .int .i64 (faultN l q)]

set_option maxRecDepth 20000 in
set_option maxHeartbeats 1000000 in
theorem read_bad (A : Option Addr) (m c0 : Nat) (p : Int) (w : World) (h : p < 0 ∨ (m : Int) < p) :
    Calls Tryd.prog 16 #[.slice A m c0, .int .i64 p] w fun e w' => e = .returned (.tuple #[.string ⟨#[]⟩, .int .i64 0, .int .i64 2]) ∧ Below w.heap.size w w' := by
  rcases h with h | h
  · go_enter Tryd.func16, Tryd.ntmps16
    go_wp2
    go_step3
    go_wp2
    rw [Exit.noGoto_ret]
    go_ret3
    exact ⟨rfl, (Below.refl _ _).alloc (Nat.le_refl _) _⟩
  · have h0 : ¬ p < 0 := by omega
    go_enter Tryd.func16, Tryd.ntmps16
    go_wp2
    go_step3
    go_wp2
    rw [Exit.noGoto_ret]
    go_ret3
    exact ⟨rfl, (Below.refl _ _).alloc (Nat.le_refl _) _⟩

set_option maxRecDepth 100000 in
set_option maxHeartbeats 4000000 in
theorem read_in (A : Option Addr) (m c0 B p : Nat) (l : List UInt8) (w : World) (htab : UTab w) (hesc : ETab w) (hl : Bytes w B A m l) (hB : B ≤ w.heap.size) (hm : m ≤ 100000) (hmc : m ≤ c0) (hp : p ≤ m) :
    Calls Tryd.prog 16 #[.slice A m c0, .int .i64 p] w fun e w' => e = .returned (readV l p) ∧ Below w.heap.size w w' := by
  have hp0 : ¬ (p : Int) < 0 := by omega
  have hp1 : ¬ (m : Int) < (p : Int) := by omega
  have hlen := Lib.hid hl.len
  by_cases he : p = m
  · subst he
    have HR := Lib.hid (show readV l p = .tuple #[.string ⟨#[]⟩, .int .i64 (p : Int), .int .i64 6] from if_pos (by rw [hlen.out]; exact Nat.le_refl _))
    clear hl
    go_enter Tryd.func16, Tryd.ntmps16
    go_wp2
    go_step3
    go_wp2
    go_quiet (fail)
    go_wp2
    rw [Exit.noGoto_ret]
    go_ret3
    exact ⟨by rw [HR.out]; rfl, below_drewN ((Below.refl _ _).alloc (Nat.le_refl _) _) _⟩
  · have hp2 : ((p : Int) == (m : Int)) = false := by rw [beq_eq_false_iff_ne]; omega
    have hp3 : (p : Int) < (m : Int) := by omega
    have hp4 : (0 : Int) ≤ p := by omega
    obtain ⟨b, off, rfl, hbB, hc0⟩ := hl.cell (k := p) (by omega)
    have hc1 : (w.alloc (.cells #[.int .i64 (p : Int)] 3)).cell? ⟨b, off + p, none⟩ = some (.int .u8 (at0 l p : Nat)) := (((Below.refl _ _).alloc (Nat.le_refl _) _).cell (p := ⟨b, off + p, none⟩) (by show b < w.heap.size; omega)).trans hc0
    have hnl : ¬ l.length ≤ p := by rw [hlen.out]; omega
    by_cases h34 : at0 l p = 34
    · rw [h34] at hc1
      have hpw : wrap64 ((p : Int) + 1) = (p : Int) + 1 := IntWalk.wrap64_in _ ⟨by omega, by omega⟩
      refine (callsIn_wide (n := 6)).1 ?_
      refine callsIn_of_wp_marks Tryd.func16 rfl trivial ?_ rfl
      simp only [Tryd.ntmps16, List.size_toArray, List.length_cons, List.length_nil, Nat.reduceAdd, Nat.reduceSub, Array.replicate_succ, Array.replicate_zero, List.push_toArray, List.append_toArray, List.nil_append, List.cons_append]
      refine wpIn_wide.2 ?_
      go_wp2
      go_step3
      go_wp2
      go_step3
      go_wp2_with fail
      refine (signs_any _ m c0 _ _).mono ?_
      rintro e W1 ⟨rfl, hW1⟩
      go_wp2
      refine (wpIn_wide (n := 6)).1 ?_
      refine range_open rfl (by omega) (gf := 56) (lb := #[.pointer (some ⟨w.heap.size + 2, 0, none⟩), .pointer (some ⟨w.heap.size + 2 + 1, 0, none⟩)]) rfl trivial (enters_of Tryd.func56 (by kernel_rfl) rfl) ?_
      have hsz : W1.heap.size = w.heap.size + 4 := by rw [← hW1]; simp
      have j0 : Boxed W1 w.heap.size 3 (.int .i64 ((p : Int) + 1)) := by rw [← hW1]; exact (((Boxed.new _ _ _).alloc _).alloc _).alloc _
      have j1 : Boxed W1 (w.heap.size + 1) 35 (.slice none 0 0) := by
        rw [← hW1]
        have h := Boxed.new (w.alloc (.cells #[.int .i64 ((p : Int) + 1)] 3)) 35 (.slice none 0 0)
        rw [World.size_alloc] at h
        exact (h.alloc _).alloc _
      have j2 : Boxed W1 (w.heap.size + 2) 22 (.slice (some ⟨b, off, none⟩) m c0) := by
        rw [← hW1]
        have h := Boxed.new ((w.alloc (.cells #[.int .i64 ((p : Int) + 1)] 3)).alloc (.cells #[.slice none 0 0] 35)) 22 (.slice (some ⟨b, off, none⟩) m c0)
        rw [World.size_alloc, World.size_alloc] at h
        exact h.alloc _
      have j3 : Boxed W1 (w.heap.size + 3) 3 (.int .i64 ((p : Int) + 1)) := by
        rw [← hW1]
        have h := Boxed.new (((w.alloc (.cells #[.int .i64 ((p : Int) + 1)] 3)).alloc (.cells #[.slice none 0 0] 35)).alloc (.cells #[.slice (some ⟨b, off, none⟩) m c0] 22)) 3 (.int .i64 ((p : Int) + 1))
        rw [World.size_alloc, World.size_alloc, World.size_alloc] at h
        exact h
      have hb1 : Below w.heap.size w W1 := by rw [← hW1]; exact bel_alloc (bel_alloc (bel_alloc (bel_alloc (Below.refl _ _) _) _) _) _
      clear hW1
      rw [hsz]
      intro fn hfn
      generalize hrec : recOf fn _ _ _ _ _ = rec
      have J0 : RJ w.heap.size (some ⟨b, off, none⟩) m c0 w (.loop (rec .ready none)) (p + 1) (p + 1) [] ((W1.alloc (.deferred (some []))).alloc (.loop (rec .ready none))) := by
        refine ⟨(j0.alloc _).alloc _, ⟨_, (j1.alloc _).alloc _, World.ownsRow_nil _ _ _ _⟩, (j2.alloc _).alloc _, (j3.alloc _).alloc _, ?_, ?_, bel_alloc (bel_alloc hb1 _) _⟩
        · have h := World.alloc_heap_new W1 (.deferred (some []))
          rw [hsz] at h
          exact (Below.heap_alloc _ _ _ (by simp [hsz])).trans h
        · have h := World.alloc_heap_new (W1.alloc (.deferred (some []))) (.loop (rec .ready none))
          rw [World.size_alloc, hsz] at h
          exact h
      refine (signs_in 5 (by omega) _ (w.heap.size + 2) (w.heap.size + 3) (some ⟨b, off, none⟩) m c0 l (fun q c W => ∃ cps, Sofar l (p + 1) q cps ∧ RJ w.heap.size (some ⟨b, off, none⟩) m c0 w (.loop (rec .ready none)) q c cps W)
        (fun W => ∃ cps q c, Sofar l (p + 1) q cps ∧ (begL (l.drop q)).2 = 0 ∧ RJ w.heap.size (some ⟨b, off, none⟩) m c0 w (.loop (rec .done (some (.exit 1)))) q c cps W) (by unfold maxLen; omega) hmc hlen.out
        ?hJ1 ?hJ2 ?hJ3 ?hY ?hN (p + 1) _ ⟨[], Sofar.start (by rw [hlen.out]; omega), J0⟩).mono ?post
      case hJ1 => rintro q c W W' ⟨cps, hs, hr⟩ hb; exact ⟨cps, hs, hr.later hb⟩
      case hJ2 => rintro q c c' W ⟨cps, hs, hr⟩; exact ⟨cps, hs, hr.own c'⟩
      case hJ3 =>
        rintro q c W ⟨cps, hs, hr⟩
        exact ⟨hr.b2.cell, hr.b3.cell, hr.b3.frozen, htab.below hr.bel htab.lt, hesc.below hr.bel hesc.lt, (hl.below (hr.bel.mono hB)).more (Nat.le_trans hB hr.bel.size), by have := hs.hi; have := hlen.out; omega⟩
      case hY =>
        rintro q W ⟨cps, hs, hr⟩ hb
        have hl5 := hr.r
        rw [← hrec] at hl5
        refine round_open hfn hl5 rfl ?_
        simp only [hrec]
        unfold signA
        rw [if_neg hb]
        clear hl5 J0 j0 j1 j2 j3 hc0 hc1 htab hesc hl
        have HS := Lib.hid (hs.step hb)
        have hfew := hs.few
        have hhi := hs.hi
        rw [hlen.out] at hhi
        clear hs hb hnl h34
        generalize q + (begL (l.drop q)).2 = r at *
        generalize (begL (l.drop q)).1 = x at *
        gi_wp2
        have hr2 := hr.later (W' := W.alloc (.cells #[.int .i64 (x : Int), .int .i64 (r : Int), .int .i64 0] 66)) (bel_alloc (Below.refl _ _) _)
        have hS2 : (W.alloc (.cells #[.int .i64 (x : Int), .int .i64 (r : Int), .int .i64 0] 66)).heap[W.heap.size]? = some (.cells #[.int .i64 (x : Int), .int .i64 (r : Int), .int .i64 0] 66 (0, 0)) := World.alloc_heap_new W _
        refine ⟨hr2.r, ?_⟩
        have hr3 := hr2.turn rfl (.loop (rec .busy none))
        have hlt := hr.lt
        have hS := (World.putObj_heap_other (o := .loop (rec .busy none)) (show W.heap.size ≠ w.heap.size + 5 by omega)).trans hS2
        generalize hW3 : (W.alloc (.cells #[.int .i64 (x : Int), .int .i64 (r : Int), .int .i64 0] 66)).putObj (w.heap.size + 5) (.loop (rec .busy none)) = W3 at *
        clear hS2 hr2
        obtain ⟨v, hv, hrow⟩ := hr3.b1
        obtain ⟨i0, hi, hz0, hz1, hz2⟩ := i64_info
        have hc := hv.cell
        have hsl := (Array.getElem?_eq_some_iff.1 hS).1
        have d0 : W3.cell? ⟨W.heap.size, 0, none⟩ = some (.int .i64 (x : Int)) := by simp [World.cell?, hS]
        have d1 : W3.cell? ⟨W.heap.size, 1, none⟩ = some (.int .i64 (r : Int)) := by simp [World.cell?, hS]
        have d2 : W3.cell? ⟨W.heap.size, 2, none⟩ = some (.int .i64 0) := by simp [World.cell?, hS]
        gi_wp2_with (gi_at_builtin; refine wpListIn_append_own _ rfl _ _ 35 rfl (w.heap.size + 4) 3 i0 (.int .i64 0) 1 8 Tryd.underlying35 hi hz0 hz1 hz2 rfl (by decide) _ _ _ rfl (hrow.alloc _) ⟨W3.heap.size, 0, none⟩ 1 1 [.int .i64 (x : Int)] rfl rfl (cell_one_new _ _ _) (by simp [Value.oneCell']) (by unfold maxLen; omega) (by omega) (by simp; omega) ?_; intro v' w7 hown' hgrow' _; obtain ⟨g', cap', rfl⟩ := ownsRow_succ hown'; obtain ⟨t1, t2, t3, t4, t5⟩ := hr3.took r rfl hv hrow hS (by decide) (by omega) hgrow' hown'; have e1 := t1.cell; have e2 := t1.frozen; have e3 := t4.cell; have e4 := t4.frozen; have e5 : (w7.setCell ⟨w.heap.size + 1, 0, none⟩ (.slice (some ⟨g', 0, none⟩) (cps.length + 1) cap')).cell? ⟨W.heap.size, 1, none⟩ = some (.int .i64 (r : Int)) := cell_of_heap t3 1 _ rfl)
        exact ⟨t5.r, rfl, _, HS.out, t5.turn rfl _⟩
      case hN =>
        rintro q W ⟨cps, hs, hr⟩ hb
        have hl5 := hr.r
        rw [← hrec] at hl5
        refine round_open hfn hl5 rfl ?_
        simp only [hrec]
        unfold signA
        rw [if_pos hb]
        have HS := Lib.hid (And.intro hs hb)
        have hne := fault_ne l q
        clear hl5 J0 j0 j1 j2 j3 hc0 hc1 htab hesc hl hs hb hnl h34
        generalize faultN l q = z at *
        gi_wp2
        have hr2 := hr.later (W' := W.alloc (.cells #[.int .i64 0, .int .i64 0, .int .i64 z] 66)) (bel_alloc (Below.refl _ _) _)
        have hS2 : (W.alloc (.cells #[.int .i64 0, .int .i64 0, .int .i64 z] 66)).heap[W.heap.size]? = some (.cells #[.int .i64 0, .int .i64 0, .int .i64 z] 66 (0, 0)) := World.alloc_heap_new W _
        refine ⟨hr2.r, ?_⟩
        have hr3 := hr2.turn rfl (.loop (rec .busy none))
        have hlt := hr.lt
        have hS := (World.putObj_heap_other (o := .loop (rec .busy none)) (show W.heap.size ≠ w.heap.size + 5 by omega)).trans hS2
        generalize hW3 : (W.alloc (.cells #[.int .i64 0, .int .i64 0, .int .i64 z] 66)).putObj (w.heap.size + 5) (.loop (rec .busy none)) = W3 at *
        clear hS2 hr2
        have d2 : W3.cell? ⟨W.heap.size, 2, none⟩ = some (.int .i64 z) := by simp [World.cell?, hS]
        gi_wp2
        exact ⟨hr3.r, rfl, _, q, HS.out.1, HS.out.2, _, hr3.turn rfl _⟩
      case post =>
        rintro e B1 ⟨hv, cps, q, c, hs, hb, hr⟩
        refine ⟨hv, .done, _, hr.r, by simp, ?_⟩
        have hr5 := hr.turn rfl (.loop (rec .exhausted (some (.exit 1))))
        generalize B1.putObj (w.heap.size + 5) (.loop (rec .exhausted (some (.exit 1)))) = W5 at *
        have hend := hs.done hb
        have hhi := hs.hi
        have hlo := hs.lo
        have hfew := hs.few
        rw [hlen.out] at hhi
        have hl5 := (hl.below (hr5.bel.mono hB)).more (Nat.le_trans hB hr5.bel.size)
        have c5 := hr5.b0.cell
        have hK := hr5.d
        have hbw := hr5.bel
        clear hr J0 j0 j1 j2 j3 hc0 hc1 hv hrec
        unfold goesOn
        refine wpIn_wide.2 ?_
        have hq0 : ¬ (q : Int) < 0 := by omega
        have hfl := fun k => fault_any (some ⟨b, off, none⟩) m c0 _ q l (W5.drewN k) (hl5.drewN k) (by unfold maxLen; omega)
        by_cases hqm : q = m
        · subst hqm
          have HR := Lib.hid (show readV l p = .tuple #[.string ⟨#[]⟩, .int .i64 (q : Int), .int .i64 (faultN l q)] by
            unfold readV
            rw [if_neg hnl, if_neg (by rw [h34]; decide), hend]
            simp only
            rw [if_neg (by rw [hlen.out]; omega), show p + 1 + (q - (p + 1)) = q by omega])
          clear hl hl5 hs hb hend hnl h34
          generalize faultN l q = z at *
          go_wp2
          go_quiet ((go_at_call 33; exact Calls.quiet_of_same (hfl _)))
          go_wp2
          rename_i nq _
          have hK2 : (W5.drewN nq).heap[w.heap.size + 4]? = some (.deferred (some [])) := hK
          have hb2 : Below w.heap.size w (W5.drewN nq) := below_drewN hbw _
          rw [Exit.noGoto_ret]
          refine ⟨by simp, .inl ⟨_, _, rfl, run_takeDeferred hK2, ?_⟩⟩
          refine ⟨_, ?_, by rw [HR.out], hb2.trans (belowK_b (w := w) (Nat.le_refl _) _ (w.heap.size + 4) _ _ (by omega) hK2 rfl rfl)⟩
          simp [results, Tryd.results16, go_sem]
        · have hqm' : ((q : Int) == (m : Int)) = false := by rw [beq_eq_false_iff_ne]; omega
          have hq1 : (q : Int) < (m : Int) := by omega
          have hq2 : (0 : Int) ≤ q := by omega
          obtain ⟨b', off', e', hb', hcq⟩ := hl5.cell (k := q) (by omega)
          injection e' with e'
          injection e' with e1 e2
          subst e1; subst e2
          rw [show at8 l q = ((at0 l q : Nat) : Int) from rfl] at hcq
          by_cases h5 : at0 l q = 34
          · rw [h5] at hcq
            have HR := Lib.hid (show readV l p = .tuple #[.string (ofL (textL cps)), .int .i64 ((q + 1 : Nat) : Int), .int .i64 0] by
              unfold readV
              rw [if_neg hnl, if_neg (by rw [h34]; decide), hend]
              simp only
              rw [show p + 1 + (q - (p + 1)) = q by omega, if_pos ⟨by rw [hlen.out]; omega, h5⟩])
            have hcp := sgs_cps (l.drop (p + 1))
            rw [hend] at hcp
            obtain ⟨v, hv5, hrow5⟩ := hr5.b1
            obtain ⟨A1, c1, rfl, -, -⟩ := own_form hrow5
            have hc5 := hv5.cell
            have htext := text_any A1 cps.length c1 W5.heap.size (nats cps) W5 (htab.below hbw htab.lt) (Ints.own hrow5) (Nat.le_refl _) (by omega)
            rw [textR_cps hcp] at htext
            have hqw : wrap64 ((q : Int) + 1) = (q : Int) + 1 := IntWalk.wrap64_in _ ⟨by omega, by omega⟩
            have hlt5 := hr5.lt
            clear hl hl5 hs hb hend hnl h34 h5 hcp hfl hv5 hrow5
            generalize ofL (textL cps) = T at *
            go_wp2_with fail
            refine htext.mono ?_
            rintro e w6 ⟨rfl, hb6⟩
            have c6 : w6.cell? ⟨w.heap.size, 0, none⟩ = some (.int .i64 (q : Int)) := (hb6.cell (p := ⟨w.heap.size, 0, none⟩) (by show w.heap.size < W5.heap.size; omega)).trans c5
            replace hK := lies hK hb6
            replace hbw := hbw.trans (hb6.mono (by omega))
            clear c5 hcq hc5 htext hr5 hb6
            go_wp2
            go_quiet (fail)
            go_wp2
            rename_i nq _
            have hK2 : (w6.drewN nq).heap[w.heap.size + 4]? = some (.deferred (some [])) := hK
            have hb2 : Below w.heap.size w (w6.drewN nq) := below_drewN hbw _
            rw [Exit.noGoto_ret]
            refine ⟨by simp, .inl ⟨_, _, rfl, run_takeDeferred hK2, ?_⟩⟩
            refine ⟨_, ?_, by rw [HR.out], hb2.trans (belowK_b (w := w) (Nat.le_refl _) _ (w.heap.size + 4) _ _ (by omega) hK2 rfl rfl)⟩
            simp [results, Tryd.results16, go_sem, hqw]
          · have hne : (((at0 l q : Nat) : Int) == 34) = false := by rw [beq_eq_false_iff_ne]; omega
            have HR := Lib.hid (show readV l p = .tuple #[.string ⟨#[]⟩, .int .i64 (q : Int), .int .i64 (faultN l q)] by
              unfold readV
              rw [if_neg hnl, if_neg (by rw [h34]; decide), hend]
              simp only
              rw [show p + 1 + (q - (p + 1)) = q by omega, if_neg (by intro h; exact h5 h.2)])
            have hx := at0_lt l q
            clear hl hl5 hs hb hend hnl h34 h5
            generalize faultN l q = z at *
            generalize at0 l q = y at *
            go_wp2
            go_quiet ((go_at_call 33; exact Calls.quiet_of_same (hfl _)))
            go_wp2
            rename_i nq _
            have hK2 : (W5.drewN nq).heap[w.heap.size + 4]? = some (.deferred (some [])) := hK
            have hb2 : Below w.heap.size w (W5.drewN nq) := below_drewN hbw _
            rw [Exit.noGoto_ret]
            refine ⟨by simp, .inl ⟨_, _, rfl, run_takeDeferred hK2, ?_⟩⟩
            refine ⟨_, ?_, by rw [HR.out], hb2.trans (belowK_b (w := w) (Nat.le_refl _) _ (w.heap.size + 4) _ _ (by omega) hK2 rfl rfl)⟩
            simp [results, Tryd.results16, go_sem]
    · have HR := Lib.hid (show readV l p = .tuple #[.string ⟨#[]⟩, .int .i64 (p : Int), .int .i64 7] by unfold readV; rw [if_neg hnl, if_pos h34])
      have hne : (((at0 l p : Nat) : Int) == 34) = false := by rw [beq_eq_false_iff_ne]; omega
      have hx := at0_lt l p
      clear hl h34
      generalize at0 l p = x at *
      go_enter Tryd.func16, Tryd.ntmps16
      go_wp2
      go_step3
      go_wp2
      go_quiet (fail)
      go_wp2
      rw [Exit.noGoto_ret]
      go_ret3
      exact ⟨by rw [HR.out]; rfl, below_drewN ((Below.refl _ _).alloc (Nat.le_refl _) _) _⟩
end Go.Proofs.YtgnialemiefeeaaDoor
