/-
  Layer 1: Text.
-/
import Derived.Test.YtgnialemiefeeaaDoorUtfJ
import Derived.Test.YtgnialemiefeeaaDoorUtfM
import Derived.Test.YtgnialemiefeeaaDoorStr
import Derived.LoopIn
namespace Go.Proofs.YtgnialemiefeeaaDoor
open Go.RowKit Go.Shelf
attribute [local go_sem] Oper.semAt_some

/-- The marks of rounds' deferred calls. -/
def marks (Ds : List Nat) : List Deferred := Ds.map fun D => { target := .collected D, args := #[] }
theorem leaves_marks {F : Fence} {n : Nat} {P : Program} {fn : Func} {tmps : Array Value} {R : Ending → World → Prop} (J : World → Prop) :
    ∀ (Ds : List Nat) (w : World), (∀ D ∈ Ds, w.heap[D]? = some (.deferred (some []))) → Ds.Nodup →
      (∀ W D, D ∈ Ds → J W → W.heap[D]? = some (.deferred (some [])) → J (W.putObj D (.deferred none))) → J w →
      (∀ W, J W → LeavesInM F n P fn tmps R [] .returning W) → LeavesInM F n P fn tmps R (marks Ds) .returning w
  | [], w, _, _, _, h0, hR => hR w h0
  | D :: Ds, w, hD, hn, hJ, h0, hR => by
    have hd := hD D (by simp)
    refine ⟨by simp, .inl ⟨D, _, rfl, run_takeDeferred hd, ?_⟩⟩
    refine leaves_marks J Ds _ (fun D' h' => ?_) (List.nodup_cons.1 hn).2 (fun W D' h' => hJ W D' (by simp [h'])) (hJ w D (by simp) h0 hd) hR
    have hne : D' ≠ D := fun e => (List.nodup_cons.1 hn).1 (e ▸ h')
    have hk := hD D' (by simp [h'])
    have hlt : D' < w.heap.size := (Array.getElem?_eq_some_iff.1 hk).1
    exact ((grownBy_putObj' w D (.deferred none)).block D' hlt (fun e => hne (by injection e))).trans hk

/-- What Text tells. -/
def textR (l : List Int) : Value := if l.all isCp = true then .tuple #[.string (ofL (textL (l.map Int.toNat))), .int .i64 0] else .tuple #[.string ⟨#[]⟩, .int .i64 110]
theorem marks_own {β : Type} (Ds : List Nat) (B : Nat) (hB : ∀ D ∈ Ds, D < B) : OwnFrom B (fun (_ : β) W => ∀ D ∈ Ds, W.heap[D]? = some (.deferred (some []))) := fun s W W' row hs hg hr D hD =>
  (hg.block D ((Array.getElem?_eq_some_iff.1 (hs D hD)).1) (fun e => by have := (hr D e.symm).1; have := hB D hD; omega)).trans (hs D hD)
/-- What has come when j code points are over. -/
def sofar (l : List Int) (j : Nat) : List UInt8 := textL ((l.take j).map Int.toNat)
theorem sofar_len (l : List Int) (j : Nat) : (sofar l j).length ≤ 4 * j := by
  unfold sofar
  induction j with
  | zero => simp [textL]
  | succ j ih =>
    rcases Nat.lt_or_ge j l.length with h | h
    · rw [takeI_snoc l j h, List.map_append, textL_append, List.length_append, List.map_cons, List.map_nil, textL_one]
      have := encL_len_pos (l.getD j 0).toNat
      omega
    · rw [List.take_of_length_le (by omega)]
      rw [List.take_of_length_le (by omega)] at ih
      omega
theorem sofar_succ (l : List Int) (j : Nat) (h : j < l.length) : sofar l (j + 1) = sofar l j ++ encL (l.getD j 0).toNat := by
  unfold sofar
  rw [takeI_snoc l j h, List.map_append, textL_append, List.map_cons, List.map_nil, textL_one]
def TI (l : List Int) (w : World) (j : Nat) (Ds : List Nat) (wr : World) : Prop :=
  (∀ q, q < j → isCp (l.getD q 0) = true) ∧ (∃ v, Boxed wr w.heap.size 22 v ∧ wr.ownsRow w.heap.size 5 1 v (sofar l j).length ((sofar l j).map bv)) ∧
  (∀ D ∈ Ds, wr.heap[D]? = some (.deferred (some []))) ∧ (∀ D ∈ Ds, w.heap.size ≤ D) ∧ Ds.Nodup ∧ Below w.heap.size w wr
set_option maxRecDepth 100000 in
set_option maxHeartbeats 4000000 in
theorem text_any (A : Option Addr) (m c0 B : Nat) (l : List Int) (w : World) (htab : UTab w) (hl : Ints w B A m l) (hB : B ≤ w.heap.size) (hm : m ≤ 100000) :
    Calls Tryd.prog 39 #[.slice A m c0] w fun e w' => e = .returned (textR l) ∧ Below w.heap.size w w' := by
  obtain ⟨i0, hi, hz0, hz1, hz2⟩ := u8_info'
  have Hl := Lib.hid hl.len
  refine (callsIn_wide (n := 6)).1 ?_
  refine callsIn_of_wp_marks Tryd.func39 rfl trivial ?_ rfl
  simp only [Tryd.ntmps39, List.size_toArray, List.length_cons, List.length_nil, Nat.reduceAdd, Nat.reduceSub, Array.replicate_succ, Array.replicate_zero, List.push_toArray, List.append_toArray, List.nil_append, List.cons_append]
  refine wpIn_wide.2 ?_
  go_wp2
  refine (wpIn_wide (n := 6)).1 ?_
  refine wpIn_loop (fun a' wr => ∃ (j : Nat) (Ds : List Nat) (u6 u7 u8 u12 u13 u14 u15 u16 u17 u18 u19 u20 u21 u22 u23 u24 u25 u26 u27 u28 : Value), a' = { tmps := #[.slice A m c0, undef, .string ⟨#[]⟩, .int .i64 0, .pointer (some ⟨w.heap.size, 0, none⟩), undef, u6, u7, u8, .slice A m c0, .int .i64 m, .int .i64 (j : Int), u12, u13, u14, u15, u16, u17, u18, u19, u20, u21, u22, u23, u24, u25, u26, u27, u28, undef, undef], defers := marks Ds } ∧ j ≤ m ∧ TI l w j Ds wr) (fun a' _ => m - (intOf (a'.tmps.getD 11 undef)).toNat) ?start ?round
  case start =>
    exact ⟨0, [], _, _, _, _, _, _, _, _, _, _, _, _, _, _, _, _, _, _, _, _, rfl, by omega, fun q hq => by omega, ⟨_, Boxed.new _ _ _, World.ownsRow_nil _ _ _ _⟩, by simp, by simp, by simp, (Below.refl _ _).alloc (Nat.le_refl _) _⟩
  case round =>
    rintro a' wr ⟨j, Ds, u6, u7, u8, u12, u13, u14, u15, u16, u17, u18, u19, u20, u21, u22, u23, u24, u25, u26, u27, u28, rfl, hj, hcp, ⟨v, hv, hrow⟩, hDs, hDlo, hDn, hbr⟩
    have hsl := sofar_len l j
    have Hcp := Lib.hid hcp
    clear hcp
    refine wpIn_wide.2 ?_
    rcases (show j = m ∨ j < m by omega) with rfl | hjm
    · have hc := hv.cell
      obtain ⟨A1, c1, rfl, -, -⟩ := own_form hrow
      have hconv := run_bytes_string (P := Tryd.prog) Tryd.underlying22 Tryd.underlying5 Tryd.underlying9 wr A1 _ c1 _ _ (Bytes.own hrow)
      have HR := Lib.hid (show textR l = .tuple #[.string (ofL (sofar l j)), .int .i64 0] by
        have hall : l.all isCp = true := by
          rw [List.all_eq_true]
          intro x hx
          obtain ⟨q, hq, rfl⟩ := List.mem_iff_getElem.1 hx
          have := Hcp.out q (by have := Hl.out; omega)
          rwa [List.getD_eq_getElem?_getD, List.getElem?_eq_getElem hq] at this
        unfold textR sofar
        rw [if_pos hall, List.take_of_length_le (by rw [Hl.out]; omega)])
      generalize sofar l j = T at *
      go_wp2
      refine leaves_marks (fun W => Below w.heap.size w W) Ds _ hDs hDn (fun W D hD hW hK => hW.trans (belowK_b (w := w) (Nat.le_refl _) W D _ _ (hDlo D hD) hK rfl rfl)) hbr (fun W hW => ?_)
      refine ⟨_, ?_, by rw [HR.out], hW⟩
      simp [results, Tryd.results39, go_sem]
    · have hlj : j < l.length := by have := Hl.out; omega
      obtain ⟨b0, off, rfl, hb0, hcx⟩ := (hl.below (hbr.mono hB)).cell hjm
      have Hx := Lib.hid (show l.getD j 0 = l.getD j 0 from rfl)
      have htr := htab.below hbr htab.lt
      have hjm1 : (j : Int) < (m : Int) := by omega
      have hj0 : (0 : Int) ≤ (j : Int) := by omega
      have hf := find_cp (l.getD j 0) wr htr
      cases hx : isCp (l.getD j 0)
      · rw [hIdx_no _ hx] at hf
        simp only [fl, fh, fs, fd] at hf
        have HR := Lib.hid (show textR l = .tuple #[.string ⟨#[]⟩, .int .i64 110] by
          have hall : ¬ l.all isCp = true := by
            intro h
            rw [List.all_eq_true] at h
            have := h l[j] (List.getElem_mem hlj)
            rw [List.getD_eq_getElem?_getD, List.getElem?_eq_getElem hlj] at hx
            simp only [Option.getD_some] at hx
            rw [hx] at this
            cases this
          unfold textR
          rw [if_neg hall])
        clear hx
        generalize l.getD j 0 = x at *
        go_wp2_with fail
        refine hf.mono ?_
        rintro e w1 ⟨rfl, hb1⟩
        have hDs1 : ∀ D ∈ Ds, w1.heap[D]? = some (.deferred (some [])) := fun D hD => (hb1.block D ((Array.getElem?_eq_some_iff.1 (hDs D hD)).1)).trans (hDs D hD)
        go_wp2
        refine leaves_marks (fun W => Below w.heap.size w W) Ds _ (fun D hD => (Below.heap_alloc w1 _ D ((Array.getElem?_eq_some_iff.1 (hDs1 D hD)).1)).trans (hDs1 D hD)) hDn (fun W D hD hW hK => hW.trans (belowK_b (w := w) (Nat.le_refl _) W D _ _ (hDlo D hD) hK rfl rfl)) (bel_alloc (bel_next hbr hb1) _) (fun W hW => ?_)
        refine ⟨_, ?_, by rw [HR.out], hW⟩
        simp [results, Tryd.results39, go_sem]
      · obtain ⟨c, Hc⟩ : ∃ c : Nat, Hid (l.getD j 0 = (c : Int)) := ⟨(l.getD j 0).toNat, Lib.hid (by have := (isCp_iff _).1 hx; omega)⟩
        have HS := Lib.hid (show sofar l (j + 1) = sofar l j ++ encL c by rw [sofar_succ l j hlj, Hc.out, Int.toNat_natCast])
        have HCP := Lib.hid (show ∀ q, q < j + 1 → isCp (l.getD q 0) = true from fun q hq => if e : q = j then e ▸ hx else Hcp.out q (by omega))
        rw [Hc.out] at hf hcx hx
        have hsz := hIdx_len c hx
        have hlen := encL_len_pos c
        have hstops := fun Bf Bc W => enc_stops 5 (by omega) Bf Bc c hx W
        rw [hsz] at hf hstops
        clear hsz Hc Hx Hcp hx
        generalize fl (hIdx c) = x0 at *
        generalize fh (hIdx c) = x1 at *
        generalize fd (hIdx c) = x3 at *
        obtain ⟨k, Hk⟩ : ∃ k, Hid ((encL c).length = k) := ⟨_, Lib.hid rfl⟩
        rw [Hk.out] at hf hstops hlen
        have hk0 : ((k : Int) == 0) = false := by rw [beq_eq_false_iff_ne]; omega
        obtain ⟨hk1, hk4⟩ := hlen
        generalize sofar l j = T at *
        have hIO : ∀ n₀ B t, Own (fun pre W => ∃ v, Boxed W B t v ∧ W.ownsRow n₀ 5 1 v (T.length + pre.length) ((T ++ pre).map bv) ∧ True) := fun n₀ B t => holdsRow_own n₀ B t 5 1 (fun pre => T.length + pre.length) (fun pre => (T ++ pre).map bv) (fun _ _ => True)
        go_wp2_with fail
        refine hf.mono ?_
        rintro e w1 ⟨rfl, hb1⟩
        obtain ⟨W1, hW1⟩ : ∃ W1, w1.alloc (.cells #[.int .i64 x0, .int .i64 x1, .int .i64 k, .int .i64 x3] 76) = W1 := ⟨_, rfl⟩
        have bx : Box W1 w1.heap.size [.int .i64 x0, .int .i64 x1, .int .i64 k, .int .i64 x3] := by rw [← hW1]; exact Box.new _ _ _
        have hbW : Below wr.heap.size wr W1 := by rw [← hW1]; exact bel_alloc hb1 _
        have e0 : W1.cell? ⟨w1.heap.size, 0, none⟩ = some (.int .i64 x0) := (bx 0 _ rfl).1
        have e1 : W1.cell? ⟨w1.heap.size, 1, none⟩ = some (.int .i64 x1) := (bx 1 _ rfl).1
        have e2 : W1.cell? ⟨w1.heap.size, 2, none⟩ = some (.int .i64 k) := (bx 2 _ rfl).1
        have e3 : W1.cell? ⟨w1.heap.size, 3, none⟩ = some (.int .i64 x3) := (bx 3 _ rfl).1
        clear bx
        go_wp2_with fail
        refine (encoding_any x0 x1 k x3 c W1).mono ?_
        rintro e w6 ⟨rfl, hW6⟩
        have hK5 := hstops W1.heap.size (W1.heap.size + 1) w6 (by rw [← hW6]; exact (Box.new _ _ _).alloc _) (by rw [← hW6]; exact (Box.new' _ _ _ (by simp) 0 _ rfl).1)
        have hb6 : Below wr.heap.size wr w6 := by rw [← hW6]; exact bel_alloc (bel_alloc hbW _) _
        have bO6 := boxed_below hv hb6
        have hown6 := own_below hrow hb6
        have hbw6 : Below w.heap.size w w6 := bel_next hbr hb6
        have hDs6 : ∀ D ∈ Ds, w6.heap[D]? = some (.deferred (some [])) := fun D hD => (hb6.block D ((Array.getElem?_eq_some_iff.1 (hDs D hD)).1)).trans (hDs D hD)
        have hDlt : ∀ D ∈ Ds, D < w6.heap.size := fun D hD => (Array.getElem?_eq_some_iff.1 (hDs6 D hD)).1
        have s6 : w6.heap.size = W1.heap.size + 2 := by rw [← hW6]; simp
        have sB : w.heap.size < W1.heap.size := Nat.lt_of_lt_of_le hv.lt hbW.size
        have bc6 : Boxed w6 (W1.heap.size + 1) 3 (.int .i64 c) := by
          rw [← hW6]
          have h := Boxed.new (W1.alloc (.cells #[.int .i64 x0, .int .i64 x1, .int .i64 k, .int .i64 x3] 76)) 3 (.int .i64 c)
          rw [World.size_alloc] at h
          exact h
        clear e0 e1 e2 e3 hW6 hW1 hv hrow
        go_wp2
        refine (wpIn_wide (n := 6)).1 ?_
        refine wpIn_rangeFunc_ownG rfl (by omega) (gf := 61) (lb := #[.pointer (some ⟨W1.heap.size, 0, none⟩), .pointer (some ⟨W1.heap.size + 1, 0, none⟩)]) rfl trivial (enters_of Tryd.func61 (by kernel_rfl) rfl)
          hK5 keptK_t (keptK_b (by omega)) (Below.refl _ _) (fun _ => rfl)
          (fun pre W => ((∃ v, Boxed W w.heap.size 22 v ∧ W.ownsRow w.heap.size 5 1 v (T.length + pre.length) ((T ++ pre).map bv) ∧ True) ∧ Boxed W (W1.heap.size + 1) 3 (.int .i64 c) ∧ Below w.heap.size w W) ∧ ∀ D ∈ Ds, W.heap[D]? = some (.deferred (some [])))
          (fun _ _ _ => False)
          (OwnFrom.and (OwnFrom.and (Own.from (hIO _ _ _) _) (OwnFrom.and (Own.from (boxed_own _ _ _) _) (ownFrom_below (Nat.le_refl _) hbw6.size))) (marks_own Ds _ hDlt))
          (fun _ _ _ _ _ hs _ _ => hs)
          ⟨⟨⟨_, bO6, by simpa using hown6, trivial⟩, bc6, hbw6⟩, hDs6⟩
          (fun x => { tmps := #[.slice (some ⟨b0, off, none⟩) m c0, undef, .string ⟨#[]⟩, .int .i64 0, .pointer (some ⟨w.heap.size, 0, none⟩), undef, .int .i64 c, .pointer (some ⟨w1.heap.size, 0, none⟩), (.int .u8 (x.toNat : Int)), .slice (some ⟨b0, off, none⟩) m c0, .int .i64 m, .int .i64 (j : Int), .bool true, .pointer (some ⟨b0, off + j, none⟩), .int .i64 c, .int .i64 c, .agg #[.int .i64 x0, .int .i64 x1, .int .i64 k, .int .i64 x3], .agg #[.int .i64 x0, .int .i64 x1, .int .i64 k, .int .i64 x3], .agg #[.int .i64 0, .int .i64 0, .int .i64 0, .int .i64 0], .bool false, .agg #[.int .i64 x0, .int .i64 x1, .int .i64 k, .int .i64 x3], .int .i64 c, .func (.func 61) #[] #[.pointer (some ⟨W1.heap.size, 0, none⟩), .pointer (some ⟨W1.heap.size + 1, 0, none⟩)], (.int .u8 (x.toNat : Int)), u24, u25, u26, u27, u28, undef, undef], defers := [] }) ?assign ?body ?done ?stop
        case assign =>
          intro l' x W K hK
          gi_wp2
          exact hK
        case body =>
          rintro l' pre x W ⟨⟨⟨v, hv, hrow, -⟩, hbc, hBW⟩, hDW⟩ hlt
          have hc := hv.cell
          have hvl := hv.lt
          gi_wp2_with (gi_at_builtin; refine wpListIn_append_own _ rfl _ _ 22 rfl w.heap.size 5 i0 (.int .u8 0) 1 1 Tryd.underlying22 hi hz0 hz1 hz2 rfl (by decide) _ _ _ rfl (hrow.alloc _) ⟨W.heap.size, 0, none⟩ 1 1 [.int .u8 (x.toNat : Int)] rfl rfl (cell_one_new _ _ _) (by simp [Value.oneCell']) (by unfold maxLen; omega) (by omega) (by simp; omega) ?_; intro v' w7 hown' hgrow' _; obtain ⟨g', cap', rfl⟩ := ownsRow_succ hown'; obtain ⟨hv1, hv2, hr2, hk2, hb2⟩ := hv.appended (by decide) hrow (by omega) (by omega) hown' hgrow'; have hc1 := hv1.cell; have hf1 := hv1.frozen; have hbc1 := ((hbc.alloc _).kept hgrow' (hbc.not_row (by decide) hrow)).other (B' := w.heap.size) (by omega) (.slice (some ⟨g', 0, none⟩) (T.length + pre.length + 1) cap'))
          exact ⟨hk2.from _, hbc1.cell.trans hbc.cell.symm, ⟨⟨_, hv2, by simpa [Nat.add_assoc, bv] using hr2, trivial⟩, hbc1, hBW.trans hb2⟩, fun D hD => hk2.same D _ (hDW D hD) rfl⟩
        case done =>
          rintro D ys W hD rfl ⟨⟨⟨v, hv, hrow, -⟩, -, hBW⟩, hDW⟩ hK
          go_wp2
          refine ⟨⟨j + 1, D :: Ds, _, _, _, _, _, _, _, _, _, _, _, _, _, _, _, _, _, _, _, _, rfl, by omega, HCP.out, ⟨v, hv, ?_⟩, ?_, ?_, ?_, hBW⟩, ?_⟩
          · rw [HS.out, List.length_append]; exact hrow
          · intro D' h'
            rcases List.mem_cons.1 h' with rfl | h'
            · exact hK
            · exact hDW D' h'
          · intro D' h'
            rcases List.mem_cons.1 h' with rfl | h'
            · exact Nat.le_trans hbw6.size hD
            · exact hDlo D' h'
          · exact List.nodup_cons.2 ⟨fun h => by have := hDlt D h; omega, hDn⟩
          · simp [intOf]; omega
        case stop =>
          rintro D c pre W _ _ h _
          exact h.elim
end Go.Proofs.YtgnialemiefeeaaDoor
