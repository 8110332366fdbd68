import Derived.Test.YtinaecmpigenoaaGam
/-
  Layer 4, the reference: within, Right.
-/
namespace Go.Proofs.Ytinaecmpigenoaa
open Go.RowKit
set_option linter.unusedVariables false

/-- What within tells. -/
def withR (T : VT) (l m : Int) : Int := if (T.dep : Int) ≤ l ∧ (T.cnt : Int) ≤ m ∧ T.all = true then (T.cnt : Int) else 0
theorem cnt_pos (T : VT) : 1 ≤ T.cnt := by cases T; rw [cnt_mk]; omega
theorem with_few {T : VT} {l m : Int} (h : m < 1) : withR T l m = 0 := by
  unfold withR; rw [if_neg]; rintro ⟨_, h2, _⟩; have := cnt_pos T; omega
theorem with_unfit {k n : Int} {s : ByteArray} {cA : Option Addr} {cn cc : Nat} {kA : Option Addr} {kn kc : Nat} {keys : List ByteArray} {kids : List VT} {l m : Int} (h : (VT.mk k n s cA cn cc kA kn kc keys kids).fit = false) : withR (.mk k n s cA cn cc kA kn kc keys kids) l m = 0 := by
  unfold withR; rw [if_neg]; rintro ⟨_, _, h3⟩; rw [all_mk, h] at h3; cases h3
theorem fit_kind {k n : Int} {s : ByteArray} {cA : Option Addr} {cn cc : Nat} {kA : Option Addr} {kn kc : Nat} {keys : List ByteArray} {kids : List VT} (h : (VT.mk k n s cA cn cc kA kn kc keys kids).fit = true) : (1 ≤ k ∧ k ≤ 6) ∧ (k < 5 → cn = 0) := by
  have h1 : (shKnown k && (numB k n && (strB k s && (eleB k cn && memB k cn kn keys)))) = true := h
  simp only [Bool.and_eq_true] at h1
  obtain ⟨h2, _, _, h3, _⟩ := h1
  unfold shKnown at h2
  simp only [Bool.and_eq_true, decide_eq_true_eq] at h2
  refine ⟨h2, fun hk => ?_⟩
  unfold eleB eleQ shKids at h3
  simp at h3
  omega
theorem with_deep {k n : Int} {s : ByteArray} {cA : Option Addr} {cn cc : Nat} {kA : Option Addr} {kn kc : Nat} {keys : List ByteArray} {kids : List VT} {m : Int} (h5 : 5 ≤ k) (h6 : k ≤ 6) : withR (.mk k n s cA cn cc kA kn kc keys kids) 0 m = 0 := by
  unfold withR; rw [if_neg]; rintro ⟨h1, _, _⟩; rw [dep_mk] at h1
  have : hN (k == 5 || k == 6) = 1 := by
    rcases (show k = 5 ∨ k = 6 by omega) with rfl | rfl <;> rfl
  omega
/-- So far. -/
structure SoFar (kids : List VT) (l m : Int) (j c : Nat) : Prop where
  sum : c = 1 + ((kids.take j).map VT.cnt).sum
  le : (c : Int) ≤ m
  each : ∀ x ∈ kids.take j, (x.dep : Int) ≤ l - 1 ∧ x.all = true
theorem SoFar.next {kids : List VT} {l m : Int} {j c : Nat} {x : VT} (h : SoFar kids l m j c) (hx : kids[j]? = some x) (hc : withR x (l - 1) (m - c) ≠ 0) : withR x (l - 1) (m - c) = (x.cnt : Int) ∧ SoFar kids l m (j + 1) (c + x.cnt) := by
  have h1 : (x.dep : Int) ≤ l - 1 ∧ (x.cnt : Int) ≤ m - c ∧ x.all = true := by
    rcases Classical.em ((x.dep : Int) ≤ l - 1 ∧ (x.cnt : Int) ≤ m - c ∧ x.all = true) with h | h
    · exact h
    · unfold withR at hc; rw [if_neg h] at hc; exact absurd rfl hc
  refine ⟨by unfold withR; rw [if_pos h1], by rw [cnt_take hx, h.sum], by omega, ?_⟩
  intro y hy
  rw [List.take_add_one, hx, List.mem_append] at hy
  rcases hy with hy | hy
  · exact h.each y hy
  · simp at hy; subst hy; exact ⟨h1.1, h1.2.2⟩
theorem SoFar.no {k n : Int} {s : ByteArray} {cA : Option Addr} {cn cc : Nat} {kA : Option Addr} {kn kc : Nat} {keys : List ByteArray} {kids : List VT} {l m : Int} {j c : Nat} {x : VT} (h : SoFar kids l m j c) (hx : kids[j]? = some x) (hk : 5 ≤ k ∧ k ≤ 6) (hc : withR x (l - 1) (m - c) = 0) : withR (.mk k n s cA cn cc kA kn kc keys kids) l m = 0 := by
  unfold withR
  rw [if_neg]
  rintro ⟨h1, h2, h3⟩
  have hm : x ∈ kids := List.mem_of_getElem? hx
  have hN1 : hN (k == 5 || k == 6) = 1 := by rcases (show k = 5 ∨ k = 6 by omega) with rfl | rfl <;> rfl
  rw [dep_mk, hN1] at h1
  rw [cnt_mk] at h2
  rw [all_mk, Bool.and_eq_true, List.all_eq_true] at h3
  have d1 := maxL_le (List.mem_map_of_mem (f := VT.dep) hm)
  have d2 := cnt_pre kids (j + 1)
  have d3 := cnt_take hx
  have d4 := h.sum
  unfold withR at hc
  rw [if_pos ⟨by omega, by omega, h3.2 x hm⟩] at hc
  have := cnt_pos x
  omega
theorem SoFar.all {k n : Int} {s : ByteArray} {cA : Option Addr} {cn cc : Nat} {kA : Option Addr} {kn kc : Nat} {keys : List ByteArray} {kids : List VT} {l m : Int} {c : Nat} (h : SoFar kids l m kids.length c) (hf : (VT.mk k n s cA cn cc kA kn kc keys kids).fit = true) (hl0 : 0 ≤ l) (hk : 5 ≤ k → 1 ≤ l) (hn : k < 5 → kids = []) : withR (.mk k n s cA cn cc kA kn kc keys kids) l m = (c : Int) := by
  have h1 := h.sum
  have h2 := h.each
  rw [List.take_length] at h1 h2
  have hc : (VT.mk k n s cA cn cc kA kn kc keys kids).cnt = c := by rw [cnt_mk, h1]
  have hle := h.le
  unfold withR
  rw [if_pos, hc]
  refine ⟨?_, by rw [hc]; exact hle, by rw [all_mk, hf, Bool.true_and, List.all_eq_true]; exact fun x hx => (h2 x hx).2⟩
  rw [dep_mk]
  by_cases h5 : k < 5
  · have e : hN (k == 5 || k == 6) = 0 := by
      have a : (k == 5) = false := by rw [beq_eq_false_iff_ne]; omega
      have b : (k == 6) = false := by rw [beq_eq_false_iff_ne]; omega
      rw [a, b]; rfl
    rw [hn h5, e]
    exact hl0
  · have hb : ∀ L : List VT, (∀ x ∈ L, (x.dep : Int) ≤ l - 1) → ((maxL (L.map VT.dep) : Nat) : Int) ≤ l - 1 := by
      intro L
      induction L with
      | nil => intro _; have := hk (by omega); simp [maxL]; omega
      | cons y L ih =>
        intro hy
        rw [List.map_cons, maxL_cons]
        have a := hy y (by simp)
        have b := ih fun z hz => hy z (by simp [hz])
        omega
    have := hb kids fun x hx => (h2 x hx).1
    have e : hN (k == 5 || k == 6) ≤ 1 := by unfold hN; split <;> omega
    omega
set_option maxRecDepth 20000 in
set_option maxHeartbeats 4000000 in
theorem within_any : ∀ (T : VT) (l m : Int) (B : Nat) (w : World), Lie w B T → Sml 1048576 T → B ≤ w.heap.size → 0 ≤ l → l ≤ 8 → 0 ≤ m → m ≤ 256 →
    Calls Try.prog 50 #[T.agg, .int .i64 l, .int .i64 m] w fun e w' => e = .returned (.int .i64 (withR T l m)) ∧ Below w.heap.size w w' := by
  intro T
  induction T using VT.ind with
  | h k n s cA cn cc kA kn kc keys kids ih =>
    intro l m B w hL hS hB hl0 hl8 hm0 hm256
    cases hL with | mk hkc hkk hkz hkid =>
    cases hS with | mk hs hks hsk =>
    have Hlc := Lib.hid (kids_len hkc)
    have HC := Lib.hid hkc
    have Hkid := Lib.hid hkid
    have Hsk := Lib.hid hsk
    have HAl := Lib.hid (fun (W : World) (h : Below w.heap.size w W) => alone_any k n s cA cn cc kA kn kc keys kids B W (hkk.below (h.mono hB)) (Nat.le_trans hkz.k1 hkz.k2) (Nat.le_trans hB h.size) hs hks)
    have Hih := Lib.hid ih
    have hcm := Nat.le_trans hkz.c1 hkz.c2
    unfold maxLen at hcm
    have hb1 := bel_alloc (Below.refl w.heap.size w) (.cells #[.int .i64 k, .int .i64 n, .string s, .slice cA cn cc, .slice kA kn kc] 42)
    have Hv := Lib.hid (VFive.new w (.int .i64 k) (.int .i64 n) (.string s) (.slice cA cn cc) (.slice kA kn kc) 42 w.heap.size rfl)
    simp only [VT.agg]
    clear hkc hkk hkz hkid hs hks hsk ih
    go_enter Try.func50, Try.ntmps50
    go_upto_region 1 with fail
    generalize (w.alloc (.cells #[.int .i64 k, .int .i64 n, .string s, .slice cA cn cc, .slice kA kn kc] 42)) = W1 at *
    obtain ⟨⟨v0, v1, v2, v3, v4⟩, -⟩ := Hv.out
    by_cases hm1 : m < 1
    · have HF := Lib.hid (with_few (T := .mk k n s cA cn cc kA kn kc keys kids) (l := l) hm1)
      go_wp2
      go_ret
      exact ⟨by rw [HF.out]; rfl, hb1⟩
    · have hm1' : (1 : Int) ≤ m := by omega
      clear hm1 hm0
      have hal := HAl.out W1 hb1
      cases hf : (VT.mk k n s cA cn cc kA kn kc keys kids).fit
      · rw [hf] at hal
        have HF := Lib.hid (with_unfit (l := l) (m := m) hf)
        clear hf
        go_wp2_with fail
        refine hal.mono ?_
        rintro e w2 ⟨rfl, hb2⟩
        go_wp2
        go_ret
        exact ⟨by rw [HF.out]; rfl, bel_next hb1 hb2⟩
      · rw [hf] at hal
        obtain ⟨⟨hk1, hk6⟩, hk5⟩ := fit_kind hf
        have Hf := Lib.hid hf
        have Hk5 := Lib.hid hk5
        clear hf hk5
        by_cases hd : 5 ≤ k ∧ l = 0
        · obtain ⟨hd5, rfl⟩ := hd
          have HF := Lib.hid (with_deep (n := n) (s := s) (cA := cA) (cn := cn) (cc := cc) (kA := kA) (kn := kn) (kc := kc) (keys := keys) (kids := kids) (m := m) hd5 hk6)
          go_wp2_with fail
          refine hal.mono ?_
          rintro e w2 ⟨rfl, hb2⟩
          obtain ⟨⟨z0, z1, z2, z3, z4⟩, -⟩ := Hv.out.later hb2
          clear v0 v1 v2 v3 v4
          go_wp2
          go_ret
          exact ⟨by rw [HF.out]; rfl, bel_next hb1 hb2⟩
        · have Hlk := Lib.hid (show 5 ≤ k → 1 ≤ l from fun h => by omega)
          go_cut [25] (fun s wx => s = .bool false ∧ Below W1.heap.size W1 wx)
          case first =>
            by_cases h5 : 5 ≤ k
            · have h50 : ¬ l = 0 := fun h => hd ⟨h5, h⟩
              have e0 : (l == 0) = false := by rw [beq_eq_false_iff_ne]; exact h50
              have e1 : decide (5 ≤ k) = true := decide_eq_true h5
              clear hd h50
              go_wp2_with fail
              refine hal.mono ?_
              rintro e w2 ⟨rfl, hb2⟩
              obtain ⟨⟨z0, z1, z2, z3, z4⟩, -⟩ := Hv.out.later hb2
              clear v0 v1 v2 v3 v4
              go_wp2
              go_meet
              case rel => exact ⟨by first | rfl | (congr 1; exact decide_eq_false (by omega)), hb2⟩
            · have h5' : k < 5 := by omega
              have e1 : decide (5 ≤ k) = false := decide_eq_false h5
              have e2 : (5 ≤ k) = False := eq_false h5
              clear hd h5
              go_wp2_with fail
              refine hal.mono ?_
              rintro e w2 ⟨rfl, hb2⟩
              obtain ⟨⟨z0, z1, z2, z3, z4⟩, -⟩ := Hv.out.later hb2
              clear v0 v1 v2 v3 v4
              go_wp2
              go_meet
              case rel => exact ⟨by first | rfl | (congr 1; exact decide_eq_false (by omega)), hb2⟩
          case rest =>
            obtain ⟨rfl, hbc⟩ := hcut
            clear v0 v1 v2 v3 v4 hal HAl hd
            go_wp2
            go_loopw [7, 8] (fun sn si wr => ∃ (j c : Nat), j ≤ cn ∧ si = .int .i64 j ∧ sn = .int .i64 c ∧ Hid (SoFar kids l m j c) ∧ 1 ≤ c ∧ (c : Int) ≤ m ∧ Below W1.heap.size W1 wr) (fun _ si _ => cn - (intOf si).toNat)
            case atStart => exact ⟨0, 1, Nat.zero_le _, rfl, rfl, Lib.hid ⟨rfl, hm1', by simp⟩, by omega, hm1', hbc⟩
            case round =>
              obtain ⟨j, c, hj, rfl, rfl, HI, hc1, hcm', hbr⟩ := hrel
              obtain ⟨⟨z0, z1, z2, z3, z4⟩, -⟩ := Hv.out.later hbr
              have hb2 := bel_next hb1 hbr
              by_cases hlt : j < cn
              · obtain ⟨b, off, x, rfl, _, hx, h5⟩ := kids_at (HC.out.below (hb2.mono hB)) hlt
                have hmem : x ∈ kids := List.mem_of_getElem? hx
                have hk5 : 5 ≤ k := by
                  by_cases h : k < 5
                  · have := Hk5.out h; omega
                  · omega
                have hl1 : 1 ≤ l := Hlk.out hk5
                have hw := Hih.out x hmem (l - 1) (m - c) B wr ((Hkid.out x hmem).later (hb2.mono hB)) (Hsk.out x hmem) (Nat.le_trans hB hb2.size) (by omega) (by omega) (by omega) (by omega)
                have hjc : (j : Int) < cn := by omega
                have hj0 : (0 : Int) ≤ j := by omega
                by_cases hz : withR x (l - 1) (m - c) = 0
                · rw [hz] at hw
                  have HF := Lib.hid (HI.out.no (n := n) (s := s) (cA := some ⟨b, off, none⟩) (cn := cn) (cc := cc) (kA := kA) (kn := kn) (kc := kc) (keys := keys) hx ⟨hk5, hk6⟩ hz)
                  clear hz hx hmem
                  obtain ⟨k', n', s', cA', cn', cc', kA', kn', kc', keys', kids'⟩ := x
                  obtain ⟨g0, g1, g2, g3, g4⟩ := h5
                  simp only [VT.agg] at hw
                  go_wp2_with fail
                  refine hw.mono ?_
                  rintro e w3 ⟨rfl, hb3⟩
                  go_wp2
                  go_ret
                  exact ⟨by rw [HF.out]; rfl, bel_next hb2 hb3⟩
                · obtain ⟨e1, hn⟩ := HI.out.next hx hz
                  rw [e1] at hw
                  have HN := Lib.hid hn
                  have hle := hn.le
                  have hcp := cnt_pos x
                  generalize x.cnt = cx at *
                  clear hz hx hmem e1 hn
                  obtain ⟨k', n', s', cA', cn', cc', kA', kn', kc', keys', kids'⟩ := x
                  obtain ⟨g0, g1, g2, g3, g4⟩ := h5
                  simp only [VT.agg] at hw
                  have e0 : ((cx : Int) == 0) = false := by rw [beq_eq_false_iff_ne]; omega
                  have e00 : ¬ cx = 0 := by omega
                  go_wp2_with fail
                  refine hw.mono ?_
                  rintro e w3 ⟨rfl, hb3⟩
                  have hb4 := bel_next hbr hb3
                  go_wp2
                  go_roundw
                  case rel => exact ⟨j + 1, c + cx, by omega, by go_num, by first | rfl | go_num, HN.out |> Lib.hid, by omega, hle, hb4⟩
                  case measure => simp [intOf]; omega
              · obtain rfl : j = cn := by omega
                have HF := Lib.hid (show withR (.mk k n s cA j cc kA kn kc keys kids) l m = (c : Int) from SoFar.all (by have := HI.out; rwa [← Hlc.out] at this) Hf.out hl0 Hlk.out (fun h => List.eq_nil_of_length_eq_zero (by rw [Hlc.out]; exact Hk5.out h)))
                go_wp2
                go_ret
                exact ⟨by rw [HF.out]; rfl, hb2⟩
end Go.Proofs.Ytinaecmpigenoaa
/-
  Layer 4, the reference: Right, Nodes, Depth.
-/
namespace Go.Proofs.Ytinaecmpigenoaa
open Go.RowKit
set_option linter.unusedVariables false

theorem with_ok (T : VT) : decide (0 < withR T 8 256) = T.ok := by
  unfold withR VT.ok
  have := cnt_pos T
  rw [Bool.eq_iff_iff]
  simp only [decide_eq_true_eq, Bool.and_eq_true]
  constructor
  · intro h
    split at h
    · rename_i h2; exact ⟨by omega, by omega, h2.2.2⟩
    · omega
  · rintro ⟨h1, h2, h3⟩
    rw [if_pos ⟨by omega, by omega, h3⟩]
    omega
set_option maxRecDepth 20000 in
theorem right_any (T : VT) (B : Nat) (w : World) (hL : Lie w B T) (hS : Sml 1048576 T) (hB : B ≤ w.heap.size) :
    Calls Try.prog 39 #[T.agg] w fun e w' => e = .returned (.bool T.ok) ∧ Below w.heap.size w w' := by
  have hok := Lib.hid (with_ok T)
  have hb1 := bel_alloc (Below.refl w.heap.size w)
  have hw := fun o => within_any T 8 256 B (w.alloc o) (hL.later ((hb1 o).mono hB)) hS (Nat.le_trans hB (hb1 o).size) (by decide) (by decide) (by decide) (by decide)
  generalize T.ok = ok at *
  generalize withR T 8 256 = z at *
  clear hL hS
  obtain ⟨k, n, s, cA, cn, cc, kA, kn, kc, keys, kids⟩ := T
  simp only [VT.agg] at hw ⊢
  have hb1 := hb1 (.cells #[.int .i64 k, .int .i64 n, .string s, .slice cA cn cc, .slice kA kn kc] 42)
  have hw := hw (.cells #[.int .i64 k, .int .i64 n, .string s, .slice cA cn cc, .slice kA kn kc] 42)
  go_enter Try.func39, Try.ntmps39
  go_wp2_with fail
  refine hw.mono ?_
  rintro e w2 ⟨rfl, hb2⟩
  go_wp2
  go_ret
  exact ⟨vret_b (by rw [← hok.out]), bel_next hb1 hb2⟩
theorem dep_low {k n : Int} {s : ByteArray} {cA : Option Addr} {cn cc : Nat} {kA : Option Addr} {kn kc : Nat} {keys : List ByteArray} {kids : List VT} (hf : (VT.mk k n s cA cn cc kA kn kc keys kids).fit = true) (hl : kids.length = cn) (h5 : k < 5) : (VT.mk k n s cA cn cc kA kn kc keys kids).dep = 0 := by
  have h0 := (fit_kind hf).2 h5
  have : kids = [] := List.eq_nil_of_length_eq_zero (by omega)
  subst this
  rw [dep_mk]
  have a : (k == 5) = false := by rw [beq_eq_false_iff_ne]; omega
  have b : (k == 6) = false := by rw [beq_eq_false_iff_ne]; omega
  rw [a, b]
  rfl
theorem dep_high {k n : Int} {s : ByteArray} {cA : Option Addr} {cn cc : Nat} {kA : Option Addr} {kn kc : Nat} {keys : List ByteArray} {kids : List VT} (hf : (VT.mk k n s cA cn cc kA kn kc keys kids).fit = true) (h5 : ¬ k < 5) : (VT.mk k n s cA cn cc kA kn kc keys kids).dep = maxL (kids.map VT.dep) + 1 := by
  have h6 := (fit_kind hf).1.2
  rw [dep_mk]
  have : hN (k == 5 || k == 6) = 1 := by rcases (show k = 5 ∨ k = 6 by omega) with rfl | rfl <;> rfl
  omega
end Go.Proofs.Ytinaecmpigenoaa
