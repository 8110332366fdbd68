import Derived.Test.YtndolgbbochpjaaDoorGam
import Derived.Test.YtndolgbbochpjaaDoorGal
import Derived.Test.YtndolgbbochpjaaDoorGah
import Derived.Test.YtndolgbbochpjaaDoorGaj
import Derived.Test.YtndolgbbochpjaaDoorRows
import Derived.Test.YtndolgbbochpjaaDoorGae
import Derived.Deep.Modes
import Derived.Test.YtndolgbbochpjaaDoorGak
import Derived.Test.YtndolgbbochpjaaDoorGaa
import Derived.Lib.LaidTab
import Derived.Lib.LaidU8
/-
  Layer 4, the reference: within, Right.
-/
namespace Go.Proofs.YtndolgbbochpjaaDoor
open Go.RowKit
set_option linter.unusedVariables false

/-- What within tells. -/
def withR (T : VT) (l m : Int) : Int := if (T.dep : Int) ≤ l ∧ (T.cnt : Int) ≤ m ∧ T.all = true then (T.cnt : Int) else 0
theorem cnt_pos (T : VT) : 1 ≤ T.cnt := by cases T; rw [cnt_mk]; omega
theorem with_few {T : VT} {l m : Int} (h : m < 1) : withR T l m = 0 := by
  unfold withR; rw [if_neg]; rintro ⟨_, h2, _⟩; have := cnt_pos T; omega
theorem with_unfit {k n : Int} {s : ByteArray} {cA : Option Addr} {cn cc : Nat} {kA : Option Addr} {kn kc : Nat} {keys : List ByteArray} {kids : List VT} {l m : Int} (h : (VT.mk k n s cA cn cc kA kn kc keys kids).fit = false) : withR (.mk k n s cA cn cc kA kn kc keys kids) l m = 0 := by
  unfold withR; rw [if_neg]; rintro ⟨_, _, h3⟩; rw [all_mk, h] at h3; cases h3
theorem fit_kind {k n : Int} {s : ByteArray} {cA : Option Addr} {cn cc : Nat} {kA : Option Addr} {kn kc : Nat} {keys : List ByteArray} {kids : List VT} (h : (VT.mk k n s cA cn cc kA kn kc keys kids).fit = true) : (1 ≤ k ∧ k ≤ 6) ∧ (k < 5 → cn = 0) := by
  have h1 : (shKnown k && (numB k n && (strB k s && (eleB k cn && memB k cn kn keys)))) = true := h
  simp only [Bool.and_eq_true] at h1
  obtain ⟨h2, _, _, h3, _⟩ := h1
  unfold shKnown at h2
  simp only [Bool.and_eq_true, decide_eq_true_eq] at h2
  refine ⟨h2, fun hk => ?_⟩
  unfold eleB eleQ shKids at h3
  simp at h3
  omega
theorem with_deep {k n : Int} {s : ByteArray} {cA : Option Addr} {cn cc : Nat} {kA : Option Addr} {kn kc : Nat} {keys : List ByteArray} {kids : List VT} {m : Int} (h5 : 5 ≤ k) (h6 : k ≤ 6) : withR (.mk k n s cA cn cc kA kn kc keys kids) 0 m = 0 := by
  unfold withR; rw [if_neg]; rintro ⟨h1, _, _⟩; rw [dep_mk] at h1
  have : hN (k == 5 || k == 6) = 1 := by
    rcases (show k = 5 ∨ k = 6 by omega) with rfl | rfl <;> rfl
  omega
/-- So far. -/
structure SoFar (kids : List VT) (l m : Int) (j c : Nat) : Prop where
  sum : c = 1 + ((kids.take j).map VT.cnt).sum
  le : (c : Int) ≤ m
  each : ∀ x ∈ kids.take j, (x.dep : Int) ≤ l - 1 ∧ x.all = true
theorem SoFar.next {kids : List VT} {l m : Int} {j c : Nat} {x : VT} (h : SoFar kids l m j c) (hx : kids[j]? = some x) (hc : withR x (l - 1) (m - c) ≠ 0) : withR x (l - 1) (m - c) = (x.cnt : Int) ∧ SoFar kids l m (j + 1) (c + x.cnt) := by
  have h1 : (x.dep : Int) ≤ l - 1 ∧ (x.cnt : Int) ≤ m - c ∧ x.all = true := by
    rcases Classical.em ((x.dep : Int) ≤ l - 1 ∧ (x.cnt : Int) ≤ m - c ∧ x.all = true) with h | h
    · exact h
    · unfold withR at hc; rw [if_neg h] at hc; exact absurd rfl hc
  refine ⟨by unfold withR; rw [if_pos h1], by rw [cnt_take hx, h.sum], by omega, ?_⟩
  intro y hy
  rw [List.take_add_one, hx, List.mem_append] at hy
  rcases hy with hy | hy
  · exact h.each y hy
  · simp at hy; subst hy; exact ⟨h1.1, h1.2.2⟩
theorem SoFar.no {k n : Int} {s : ByteArray} {cA : Option Addr} {cn cc : Nat} {kA : Option Addr} {kn kc : Nat} {keys : List ByteArray} {kids : List VT} {l m : Int} {j c : Nat} {x : VT} (h : SoFar kids l m j c) (hx : kids[j]? = some x) (hk : 5 ≤ k ∧ k ≤ 6) (hc : withR x (l - 1) (m - c) = 0) : withR (.mk k n s cA cn cc kA kn kc keys kids) l m = 0 := by
  unfold withR
  rw [if_neg]
  rintro ⟨h1, h2, h3⟩
  have hm : x ∈ kids := List.mem_of_getElem? hx
  have hN1 : hN (k == 5 || k == 6) = 1 := by rcases (show k = 5 ∨ k = 6 by omega) with rfl | rfl <;> rfl
  rw [dep_mk, hN1] at h1
  rw [cnt_mk] at h2
  rw [all_mk, Bool.and_eq_true, List.all_eq_true] at h3
  have d1 := maxL_le (List.mem_map_of_mem (f := VT.dep) hm)
  have d2 := cnt_pre kids (j + 1)
  have d3 := cnt_take hx
  have d4 := h.sum
  unfold withR at hc
  rw [if_pos ⟨by omega, by omega, h3.2 x hm⟩] at hc
  have := cnt_pos x
  omega
theorem SoFar.all {k n : Int} {s : ByteArray} {cA : Option Addr} {cn cc : Nat} {kA : Option Addr} {kn kc : Nat} {keys : List ByteArray} {kids : List VT} {l m : Int} {c : Nat} (h : SoFar kids l m kids.length c) (hf : (VT.mk k n s cA cn cc kA kn kc keys kids).fit = true) (hl0 : 0 ≤ l) (hk : 5 ≤ k → 1 ≤ l) (hn : k < 5 → kids = []) : withR (.mk k n s cA cn cc kA kn kc keys kids) l m = (c : Int) := by
  have h1 := h.sum
  have h2 := h.each
  rw [List.take_length] at h1 h2
  have hc : (VT.mk k n s cA cn cc kA kn kc keys kids).cnt = c := by rw [cnt_mk, h1]
  have hle := h.le
  unfold withR
  rw [if_pos, hc]
  refine ⟨?_, by rw [hc]; exact hle, by rw [all_mk, hf, Bool.true_and, List.all_eq_true]; exact fun x hx => (h2 x hx).2⟩
  rw [dep_mk]
  by_cases h5 : k < 5
  · have e : hN (k == 5 || k == 6) = 0 := by
      have a : (k == 5) = false := by rw [beq_eq_false_iff_ne]; omega
      have b : (k == 6) = false := by rw [beq_eq_false_iff_ne]; omega
      rw [a, b]; rfl
    rw [hn h5, e]
    exact hl0
  · have hb : ∀ L : List VT, (∀ x ∈ L, (x.dep : Int) ≤ l - 1) → ((maxL (L.map VT.dep) : Nat) : Int) ≤ l - 1 := by
      intro L
      induction L with
      | nil => intro _; have := hk (by omega); simp [maxL]; omega
      | cons y L ih =>
        intro hy
        rw [List.map_cons, maxL_cons]
        have a := hy y (by simp)
        have b := ih fun z hz => hy z (by simp [hz])
        omega
    have := hb kids fun x hx => (h2 x hx).1
    have e : hN (k == 5 || k == 6) ≤ 1 := by unfold hN; split <;> omega
    omega
set_option maxRecDepth 20000 in
set_option maxHeartbeats 4000000 in
theorem within_any : ∀ (T : VT) (l m : Int) (B : Nat) (w : World), Lie w B T → Sml 1048576 T → B ≤ w.heap.size → 0 ≤ l → l ≤ 8 → 0 ≤ m → m ≤ 256 →
    Calls Tryd.prog 41 #[T.agg, .int .i64 l, .int .i64 m] w fun e w' => e = .returned (.int .i64 (withR T l m)) ∧ Below w.heap.size w w' := by
  intro T
  induction T using VT.ind with
  | h k n s cA cn cc kA kn kc keys kids ih =>
    intro l m B w hL hS hB hl0 hl8 hm0 hm256
    cases hL with | mk hkc hkk hkz hkid =>
    cases hS with | mk hs hks hsk =>
    have Hlc := Lib.hid (kids_len hkc)
    have HC := Lib.hid hkc
    have Hkid := Lib.hid hkid
    have Hsk := Lib.hid hsk
    have HAl := Lib.hid (fun (W : World) (h : Below w.heap.size w W) => alone_any k n s cA cn cc kA kn kc keys kids B W (hkk.below (h.mono hB)) (Nat.le_trans hkz.k1 hkz.k2) (Nat.le_trans hB h.size) hs hks)
    have Hih := Lib.hid ih
    have hcm := Nat.le_trans hkz.c1 hkz.c2
    unfold maxLen at hcm
    have hb1 := bel_alloc (Below.refl w.heap.size w) (.cells #[.int .i64 k, .int .i64 n, .string s, .slice cA cn cc, .slice kA kn kc] 25)
    have Hv := Lib.hid (VFive.new w (.int .i64 k) (.int .i64 n) (.string s) (.slice cA cn cc) (.slice kA kn kc) 25 w.heap.size rfl)
    simp only [VT.agg]
    clear hkc hkk hkz hkid hs hks hsk ih
    go_enter Tryd.func41, Tryd.ntmps41
    go_upto_region 1 with fail
    generalize (w.alloc (.cells #[.int .i64 k, .int .i64 n, .string s, .slice cA cn cc, .slice kA kn kc] 25)) = W1 at *
    obtain ⟨⟨v0, v1, v2, v3, v4⟩, -⟩ := Hv.out
    by_cases hm1 : m < 1
    · have HF := Lib.hid (with_few (T := .mk k n s cA cn cc kA kn kc keys kids) (l := l) hm1)
      go_wp2
      go_ret
      exact ⟨by rw [HF.out]; rfl, hb1⟩
    · have hm1' : (1 : Int) ≤ m := by omega
      clear hm1 hm0
      have hal := HAl.out W1 hb1
      cases hf : (VT.mk k n s cA cn cc kA kn kc keys kids).fit
      · rw [hf] at hal
        have HF := Lib.hid (with_unfit (l := l) (m := m) hf)
        clear hf
        go_wp2_with fail
        refine hal.mono ?_
        rintro e w2 ⟨rfl, hb2⟩
        go_wp2
        go_ret
        exact ⟨by rw [HF.out]; rfl, bel_next hb1 hb2⟩
      · rw [hf] at hal
        obtain ⟨⟨hk1, hk6⟩, hk5⟩ := fit_kind hf
        have Hf := Lib.hid hf
        have Hk5 := Lib.hid hk5
        clear hf hk5
        by_cases hd : 5 ≤ k ∧ l = 0
        · obtain ⟨hd5, rfl⟩ := hd
          have HF := Lib.hid (with_deep (n := n) (s := s) (cA := cA) (cn := cn) (cc := cc) (kA := kA) (kn := kn) (kc := kc) (keys := keys) (kids := kids) (m := m) hd5 hk6)
          go_wp2_with fail
          refine hal.mono ?_
          rintro e w2 ⟨rfl, hb2⟩
          obtain ⟨⟨z0, z1, z2, z3, z4⟩, -⟩ := Hv.out.later hb2
          clear v0 v1 v2 v3 v4
          go_wp2
          go_ret
          exact ⟨by rw [HF.out]; rfl, bel_next hb1 hb2⟩
        · have Hlk := Lib.hid (show 5 ≤ k → 1 ≤ l from fun h => by omega)
          go_cut [25] (fun s wx => s = .bool false ∧ Below W1.heap.size W1 wx)
          case first =>
            by_cases h5 : 5 ≤ k
            · have h50 : ¬ l = 0 := fun h => hd ⟨h5, h⟩
              have e0 : (l == 0) = false := by rw [beq_eq_false_iff_ne]; exact h50
              have e1 : decide (5 ≤ k) = true := decide_eq_true h5
              clear hd h50
              go_wp2_with fail
              refine hal.mono ?_
              rintro e w2 ⟨rfl, hb2⟩
              obtain ⟨⟨z0, z1, z2, z3, z4⟩, -⟩ := Hv.out.later hb2
              clear v0 v1 v2 v3 v4
              go_wp2
              go_meet
              case rel => exact ⟨by first | rfl | (congr 1; exact decide_eq_false (by omega)), hb2⟩
            · have h5' : k < 5 := by omega
              have e1 : decide (5 ≤ k) = false := decide_eq_false h5
              have e2 : (5 ≤ k) = False := eq_false h5
              clear hd h5
              go_wp2_with fail
              refine hal.mono ?_
              rintro e w2 ⟨rfl, hb2⟩
              obtain ⟨⟨z0, z1, z2, z3, z4⟩, -⟩ := Hv.out.later hb2
              clear v0 v1 v2 v3 v4
              go_wp2
              go_meet
              case rel => exact ⟨by first | rfl | (congr 1; exact decide_eq_false (by omega)), hb2⟩
          case rest =>
            obtain ⟨rfl, hbc⟩ := hcut
            clear v0 v1 v2 v3 v4 hal HAl hd
            go_wp2
            go_loopw [7, 8] (fun sn si wr => ∃ (j c : Nat), j ≤ cn ∧ si = .int .i64 j ∧ sn = .int .i64 c ∧ Hid (SoFar kids l m j c) ∧ 1 ≤ c ∧ (c : Int) ≤ m ∧ Below W1.heap.size W1 wr) (fun _ si _ => cn - (intOf si).toNat)
            case atStart => exact ⟨0, 1, Nat.zero_le _, rfl, rfl, Lib.hid ⟨rfl, hm1', by simp⟩, by omega, hm1', hbc⟩
            case round =>
              obtain ⟨j, c, hj, rfl, rfl, HI, hc1, hcm', hbr⟩ := hrel
              obtain ⟨⟨z0, z1, z2, z3, z4⟩, -⟩ := Hv.out.later hbr
              have hb2 := bel_next hb1 hbr
              by_cases hlt : j < cn
              · obtain ⟨b, off, x, rfl, _, hx, h5⟩ := kids_at (HC.out.below (hb2.mono hB)) hlt
                have hmem : x ∈ kids := List.mem_of_getElem? hx
                have hk5 : 5 ≤ k := by
                  by_cases h : k < 5
                  · have := Hk5.out h; omega
                  · omega
                have hl1 : 1 ≤ l := Hlk.out hk5
                have hw := Hih.out x hmem (l - 1) (m - c) B wr ((Hkid.out x hmem).later (hb2.mono hB)) (Hsk.out x hmem) (Nat.le_trans hB hb2.size) (by omega) (by omega) (by omega) (by omega)
                have hjc : (j : Int) < cn := by omega
                have hj0 : (0 : Int) ≤ j := by omega
                by_cases hz : withR x (l - 1) (m - c) = 0
                · rw [hz] at hw
                  have HF := Lib.hid (HI.out.no (n := n) (s := s) (cA := some ⟨b, off, none⟩) (cn := cn) (cc := cc) (kA := kA) (kn := kn) (kc := kc) (keys := keys) hx ⟨hk5, hk6⟩ hz)
                  clear hz hx hmem
                  obtain ⟨k', n', s', cA', cn', cc', kA', kn', kc', keys', kids'⟩ := x
                  obtain ⟨g0, g1, g2, g3, g4⟩ := h5
                  simp only [VT.agg] at hw
                  go_wp2_with fail
                  refine hw.mono ?_
                  rintro e w3 ⟨rfl, hb3⟩
                  go_wp2
                  go_ret
                  exact ⟨by rw [HF.out]; rfl, bel_next hb2 hb3⟩
                · obtain ⟨e1, hn⟩ := HI.out.next hx hz
                  rw [e1] at hw
                  have HN := Lib.hid hn
                  have hle := hn.le
                  have hcp := cnt_pos x
                  generalize x.cnt = cx at *
                  clear hz hx hmem e1 hn
                  obtain ⟨k', n', s', cA', cn', cc', kA', kn', kc', keys', kids'⟩ := x
                  obtain ⟨g0, g1, g2, g3, g4⟩ := h5
                  simp only [VT.agg] at hw
                  have e0 : ((cx : Int) == 0) = false := by rw [beq_eq_false_iff_ne]; omega
                  have e00 : ¬ cx = 0 := by omega
                  go_wp2_with fail
                  refine hw.mono ?_
                  rintro e w3 ⟨rfl, hb3⟩
                  have hb4 := bel_next hbr hb3
                  go_wp2
                  go_roundw
                  case rel => exact ⟨j + 1, c + cx, by omega, by go_num, by first | rfl | go_num, HN.out |> Lib.hid, by omega, hle, hb4⟩
                  case measure => simp [intOf]; omega
              · obtain rfl : j = cn := by omega
                have HF := Lib.hid (show withR (.mk k n s cA j cc kA kn kc keys kids) l m = (c : Int) from SoFar.all (by have := HI.out; rwa [← Hlc.out] at this) Hf.out hl0 Hlk.out (fun h => List.eq_nil_of_length_eq_zero (by rw [Hlc.out]; exact Hk5.out h)))
                go_wp2
                go_ret
                exact ⟨by rw [HF.out]; rfl, hb2⟩
end Go.Proofs.YtndolgbbochpjaaDoor
/-
  Layer 4, the reference: Right, Nodes, Depth.
-/
namespace Go.Proofs.YtndolgbbochpjaaDoor
open Go.RowKit
set_option linter.unusedVariables false

theorem with_ok (T : VT) : decide (0 < withR T 8 256) = T.ok := by
  unfold withR VT.ok
  have := cnt_pos T
  rw [Bool.eq_iff_iff]
  simp only [decide_eq_true_eq, Bool.and_eq_true]
  constructor
  · intro h
    split at h
    · rename_i h2; exact ⟨by omega, by omega, h2.2.2⟩
    · omega
  · rintro ⟨h1, h2, h3⟩
    rw [if_pos ⟨by omega, by omega, h3⟩]
    omega
set_option maxRecDepth 20000 in
theorem right_any (T : VT) (B : Nat) (w : World) (hL : Lie w B T) (hS : Sml 1048576 T) (hB : B ≤ w.heap.size) :
    Calls Tryd.prog 19 #[T.agg] w fun e w' => e = .returned (.bool T.ok) ∧ Below w.heap.size w w' := by
  have hok := Lib.hid (with_ok T)
  have hb1 := bel_alloc (Below.refl w.heap.size w)
  have hw := fun o => within_any T 8 256 B (w.alloc o) (hL.later ((hb1 o).mono hB)) hS (Nat.le_trans hB (hb1 o).size) (by decide) (by decide) (by decide) (by decide)
  generalize T.ok = ok at *
  generalize withR T 8 256 = z at *
  clear hL hS
  obtain ⟨k, n, s, cA, cn, cc, kA, kn, kc, keys, kids⟩ := T
  simp only [VT.agg] at hw ⊢
  have hb1 := hb1 (.cells #[.int .i64 k, .int .i64 n, .string s, .slice cA cn cc, .slice kA kn kc] 25)
  have hw := hw (.cells #[.int .i64 k, .int .i64 n, .string s, .slice cA cn cc, .slice kA kn kc] 25)
  go_enter Tryd.func19, Tryd.ntmps19
  go_wp2_with fail
  refine hw.mono ?_
  rintro e w2 ⟨rfl, hb2⟩
  go_wp2
  go_ret
  exact ⟨vret_b (by rw [← hok.out]), bel_next hb1 hb2⟩
theorem dep_low {k n : Int} {s : ByteArray} {cA : Option Addr} {cn cc : Nat} {kA : Option Addr} {kn kc : Nat} {keys : List ByteArray} {kids : List VT} (hf : (VT.mk k n s cA cn cc kA kn kc keys kids).fit = true) (hl : kids.length = cn) (h5 : k < 5) : (VT.mk k n s cA cn cc kA kn kc keys kids).dep = 0 := by
  have h0 := (fit_kind hf).2 h5
  have : kids = [] := List.eq_nil_of_length_eq_zero (by omega)
  subst this
  rw [dep_mk]
  have a : (k == 5) = false := by rw [beq_eq_false_iff_ne]; omega
  have b : (k == 6) = false := by rw [beq_eq_false_iff_ne]; omega
  rw [a, b]
  rfl
theorem dep_high {k n : Int} {s : ByteArray} {cA : Option Addr} {cn cc : Nat} {kA : Option Addr} {kn kc : Nat} {keys : List ByteArray} {kids : List VT} (hf : (VT.mk k n s cA cn cc kA kn kc keys kids).fit = true) (h5 : ¬ k < 5) : (VT.mk k n s cA cn cc kA kn kc keys kids).dep = maxL (kids.map VT.dep) + 1 := by
  have h6 := (fit_kind hf).1.2
  rw [dep_mk]
  have : hN (k == 5 || k == 6) = 1 := by rcases (show k = 5 ∨ k = 6 by omega) with rfl | rfl <;> rfl
  omega
end Go.Proofs.YtndolgbbochpjaaDoor
/-
  Layer 7, the reference: Less and Compare at any two values that may be; the law's own right.
-/
namespace Go.Proofs.YtndolgbbochpjaaDoor
open Go.RowKit
set_option linter.unusedVariables false

theorem sml_kid {N : Nat} {T x : VT} (h : Sml N T) (hx : x ∈ T.kids) : Sml N x := by
  cases h with
  | mk a1 a2 a3 => exact a3 x hx
theorem dep_of_kid {B : Nat} {w : World} {T x : VT} (hL : Lie w B T) (hok : T.ok = true) (hx : x ∈ T.kids) : x.dep + 1 ≤ T.dep := by
  have hT := Szd.sized (ok_szd hL hok)
  refine dep_kid ?_ hx
  cases h5 : (T.k == 5 || T.k == 6) with
  | true => rfl
  | false => rw [hT.2.2.2 h5] at hx; cases hx
theorem rless_any : ∀ (d : Nat) (T U : VT) (B : Nat) (w : World), Lie w B T → Lie w B U → T.ok = true → U.ok = true → Sml 1048576 T → Sml 1048576 U → T.dep ≤ d → U.dep ≤ d → B ≤ w.heap.size →
    Calls Tryd.prog 20 #[T.agg, U.agg] w fun e w' => e = .returned (.bool (decide (cmpF (d + 1) T U < 0))) ∧ Fr w w' := by
  intro d
  induction d with
  | zero =>
    intro T U B w hL hL' h1 h2 s1 s2 hd hd' hB
    refine rless_step (cmpF 0) (cmpF_is 0) T U B w hL hL' h1 h2 s1 hB ?_ ?_
    · intro x hx
      have := dep_of_kid hL h1 hx
      omega
    · intro x hx
      have := dep_of_kid hL h1 hx
      omega
  | succ d ih =>
    intro T U B w hL hL' h1 h2 s1 s2 hd hd' hB
    refine rless_step (cmpF (d + 1)) (cmpF_is (d + 1)) T U B w hL hL' h1 h2 s1 hB ?_ ?_
    · intro x hx y hy W hW
      have e1 := dep_of_kid hL h1 hx
      have e2 := dep_of_kid hL' h2 hy
      exact ih x y B W ((lie_kid hL hx).later (hW.1.mono hB)) ((lie_kid hL' hy).later (hW.1.mono hB)) (ok_kid h1 hx) (ok_kid h2 hy) (sml_kid s1 hx) (sml_kid s2 hy) (by omega) (by omega) (Nat.le_trans hB hW.1.size)
    · intro x hx y hy W hW
      have e1 := dep_of_kid hL h1 hx
      have e2 := dep_of_kid hL' h2 hy
      have h := ih y x B W ((lie_kid hL' hy).later (hW.1.mono hB)) ((lie_kid hL hx).later (hW.1.mono hB)) (ok_kid h2 hy) (ok_kid h1 hx) (sml_kid s2 hy) (sml_kid s1 hx) (by omega) (by omega) (Nat.le_trans hB hW.1.size)
      rw [(cmpF_is (d + 1)).turn x y] at h
      rwa [show decide (-cmpF (d + 1) x y < 0) = decide (0 < cmpF (d + 1) x y) from by congr 1; apply propext; omega] at h
theorem ok_dep {T : VT} (h : T.ok = true) : T.dep ≤ 8 := by unfold VT.ok at h; simp only [Bool.and_eq_true, decide_eq_true_eq] at h; exact h.1
theorem rlessV_any (T U : VT) (B : Nat) (w : World) (hL : Lie w B T) (hL' : Lie w B U) (h1 : T.ok = true) (h2 : U.ok = true) (s1 : Sml 1048576 T) (s2 : Sml 1048576 U) (hB : B ≤ w.heap.size) :
    Calls Tryd.prog 20 #[T.agg, U.agg] w fun e w' => e = .returned (.bool (decide (cmpV T U < 0))) ∧ Fr w w' :=
  rless_any 8 T U B w hL hL' h1 h2 s1 s2 (ok_dep h1) (ok_dep h2) hB
set_option maxRecDepth 20000 in
set_option maxHeartbeats 1000000 in
theorem rcompare_any (T U : VT) (B : Nat) (w : World) (hL : Lie w B T) (hL' : Lie w B U) (h1 : T.ok = true) (h2 : U.ok = true) (s1 : Sml 1048576 T) (s2 : Sml 1048576 U) (hB : B ≤ w.heap.size) :
    Calls Tryd.prog 13 #[T.agg, U.agg] w fun e w' => e = .returned (.int .i64 (cmpV T U)) ∧ Fr w w' := by
  have H1 := Lib.hid (fun W (h : Fr w W) => rlessV_any T U B W (hL.later (h.1.mono hB)) (hL'.later (h.1.mono hB)) h1 h2 s1 s2 (Nat.le_trans hB h.1.size))
  have H2 := Lib.hid (fun W (h : Fr w W) => rlessV_any U T B W (hL'.later (h.1.mono hB)) (hL.later (h.1.mono hB)) h2 h1 s2 s1 (Nat.le_trans hB h.1.size))
  have hones := cmpV_is.ones T U
  rw [cmpV_is.turn T U] at H2
  clear hL hL' h1 h2 s1 s2
  generalize cmpV T U = v at *
  obtain ⟨k, n, s, cA, cn, cc, kA, kn, kc, keys, kids⟩ := T
  obtain ⟨k', n', s', cA', cn', cc', kA', kn', kc', keys', kids'⟩ := U
  simp only [VT.agg] at H1 H2 ⊢
  have hb := ((Fr.refl w).alloc (.cells #[.int .i64 k, .int .i64 n, .string s, .slice cA cn cc, .slice kA kn kc] 25)).alloc (.cells #[.int .i64 k', .int .i64 n', .string s', .slice cA' cn' cc', .slice kA' kn' kc'] 25)
  have HV := Lib.hid ((VFive.new w (.int .i64 k) (.int .i64 n) (.string s) (.slice cA cn cc) (.slice kA kn kc) 25 w.heap.size rfl).alloc (.cells #[.int .i64 k', .int .i64 n', .string s', .slice cA' cn' cc', .slice kA' kn' kc'] 25))
  have HU := Lib.hid (VFive.new (w.alloc (.cells #[.int .i64 k, .int .i64 n, .string s, .slice cA cn cc, .slice kA kn kc] 25)) (.int .i64 k') (.int .i64 n') (.string s') (.slice cA' cn' cc') (.slice kA' kn' kc') 25 (w.heap.size + 1) (World.size_alloc _ _))
  go_enter Tryd.func13, Tryd.ntmps13
  go_upto_region 1 with fail
  generalize ((w.alloc (.cells #[.int .i64 k, .int .i64 n, .string s, .slice cA cn cc, .slice kA kn kc] 25)).alloc (.cells #[.int .i64 k', .int .i64 n', .string s', .slice cA' cn' cc', .slice kA' kn' kc'] 25)) = w1 at *
  obtain ⟨⟨v0, v1, v2, v3, v4⟩, -⟩ := HV.out
  obtain ⟨⟨y0, y1, y2, y3, y4⟩, -⟩ := HU.out
  have h1 := H1.out _ hb
  rcases hones with rfl | rfl | rfl
  · go_wp2_with fail
    refine h1.mono ?_
    rintro e w2 ⟨rfl, hn⟩
    go_wp2
    go_ret
    exact ⟨rfl, hb.next hn⟩
  · go_wp2_with fail
    refine h1.mono ?_
    rintro e w2 ⟨rfl, hn⟩
    have hb2 := hb.next hn
    have h2 := H2.out _ hb2
    clear v0 v1 v2 v3 v4 y0 y1 y2 y3 y4 h1
    obtain ⟨⟨v0, v1, v2, v3, v4⟩, -⟩ := HV.out.later hn.1
    obtain ⟨⟨y0, y1, y2, y3, y4⟩, -⟩ := HU.out.later hn.1
    go_wp2_with fail
    refine h2.mono ?_
    rintro e w3 ⟨rfl, hn3⟩
    go_wp2
    go_ret
    exact ⟨rfl, hb2.next hn3⟩
  · go_wp2_with fail
    refine h1.mono ?_
    rintro e w2 ⟨rfl, hn⟩
    have hb2 := hb.next hn
    have h2 := H2.out _ hb2
    clear v0 v1 v2 v3 v4 y0 y1 y2 y3 y4 h1
    obtain ⟨⟨v0, v1, v2, v3, v4⟩, -⟩ := HV.out.later hn.1
    obtain ⟨⟨y0, y1, y2, y3, y4⟩, -⟩ := HU.out.later hn.1
    go_wp2_with fail
    refine h2.mono ?_
    rintro e w3 ⟨rfl, hn3⟩
    go_wp2
    go_ret
    exact ⟨rfl, hb2.next hn3⟩
set_option maxRecDepth 20000 in
set_option maxHeartbeats 1000000 in
theorem lright_any (A : Option Addr) (n c B : Nat) (L : List VT) (w : World) (h : Shows w B 5 A n (L.flatMap VT.cells)) (hL : ∀ x ∈ L, Lie w B x ∧ Sml 1048576 x) (hB : B ≤ w.heap.size) (hn : n ≤ 1000) :
    Calls Tryd.prog 12 #[.slice A n c] w fun e w' => e = .returned (.bool (L.all VT.ok)) ∧ Below w.heap.size w w' := by
  have Hs := Lib.hid (fun W (hb : Below w.heap.size w W) => h.below (hb.mono hB))
  have Hr := Lib.hid (fun x (hx : x ∈ L) W (hb : Below w.heap.size w W) => right_any x B W ((hL x hx).1.later (hb.mono hB)) (hL x hx).2 (Nat.le_trans hB hb.size))
  have Hlen := Lib.hid (kids_len h)
  clear h hL
  go_enter Tryd.func12, Tryd.ntmps12
  go_wp2
  go_loopw [7] (fun i wr => ∃ j : Nat, j ≤ n ∧ i = .int .i64 j ∧ Hid ((L.take j).all VT.ok = true) ∧ Below w.heap.size w wr) (fun i _ => n - (intOf i).toNat)
  case atStart => exact ⟨0, Nat.zero_le _, rfl, Lib.hid rfl, Below.refl _ _⟩
  case round =>
    obtain ⟨j, hj, rfl, HJ, hbr⟩ := hrel
    by_cases hlt : j < n
    · obtain ⟨b, off, x, rfl, _, hx, h5⟩ := kids_at (Hs.out wr hbr) hlt
      have hrx := Hr.out x (List.mem_of_getElem? hx)
      have Hyes := Lib.hid (fun hok : x.ok = true => all_take hx HJ.out hok)
      have Hno := Lib.hid (fun hok : x.ok = false => all_no (p := VT.ok) hx hok)
      generalize hok : x.ok = ok at *
      obtain ⟨k, m, s, cA, cn, cc, kA, kn, kc, keys, kids⟩ := x
      simp only [VT.agg] at hrx
      have Hrx := Lib.hid hrx
      clear hok hx hrx HJ
      obtain ⟨g0, g1, g2, g3, g4⟩ := h5
      have hlt' : (j : Int) < (n : Int) := by omega
      have hb2 := bel_alloc hbr (.cells #[.int .i64 k, .int .i64 m, .string s, .slice cA cn cc, .slice kA kn kc] 25)
      have HV := VFive.new wr (.int .i64 k) (.int .i64 m) (.string s) (.slice cA cn cc) (.slice kA kn kc) 25 wr.heap.size rfl
      obtain ⟨⟨v0, v1, v2, v3, v4⟩, -⟩ := HV
      have hck := Hrx.out _ hb2
      cases ok
      · have Hn := Lib.hid (Hno.out rfl)
        clear Hyes Hno
        go_wp2_with fail
        refine hck.mono ?_
        rintro e w5 ⟨rfl, hb5⟩
        clear hck
        go_wp2
        go_ret
        exact ⟨by rw [Hn.out]; rfl, bel_next hb2 hb5⟩
      · have Hy := Lib.hid (Hyes.out rfl)
        clear Hyes Hno
        go_wp2_with fail
        refine hck.mono ?_
        rintro e w5 ⟨rfl, hb5⟩
        clear hck
        go_wp2
        go_roundw
        case rel => exact ⟨j + 1, by omega, by go_num, Hy, bel_next hb2 hb5⟩
        case measure => simp [intOf]; omega
    · obtain rfl : j = n := by omega
      have Hy := Lib.hid (show L.all VT.ok = true from all_whole (by have := Hlen.out; omega) HJ.out)
      clear HJ
      go_wp2
      go_ret
      exact ⟨by rw [Hy.out]; rfl, hbr⟩
end Go.Proofs.YtndolgbbochpjaaDoor
/-
  CollateCompares: Compare returns the order of any two values, or the documented error: the walk.
-/
namespace Go.Proofs.YtndolgbbochpjaaDoor
open Go.RowKit
set_option linter.unusedVariables false

set_option maxRecDepth 20000 in
set_option maxHeartbeats 4000000 in
theorem ccompares_any (w : World) (T U : VT) (B : Nat) (hL : Lie w B T) (hL' : Lie w B U) (s1 : Sml 1048576 T) (s2 : Sml 1048576 U) (hB : B ≤ w.heap.size) (htab : UTab w) (hst : STab w) (hr : RTab w) :
    Calls Tryd.prog 3 #[T.agg, U.agg] w fun e w' => e = .returned (.bool true) ∧ Below w.heap.size w w' := by
  have HTx := Lib.hid (fun W (h : Below w.heap.size w W) => (⟨htab.below h htab.lt, hst.below h hst.lt, hr.below h hr.lt⟩ : UTab W ∧ STab W ∧ RTab W))
  have HW := Lib.hid (fun W (h : Below w.heap.size w W) => cwakes_any W (HTx.out W h).1 (HTx.out W h).2.1 (HTx.out W h).2.2)
  have HC := Lib.hid (fun W (h : Below w.heap.size w W) => compareT_any T U B W (hL.later (h.mono hB)) (hL'.later (h.mono hB)) (Nat.le_trans hB h.size) (HTx.out W h).1 (HTx.out W h).2.1 (HTx.out W h).2.2)
  have HRt := Lib.hid (fun (A : Option Addr) (c : Nat) W (h : Below w.heap.size w W) (hs : Shows W W.heap.size 5 A 2 ([T, U].flatMap VT.cells)) => lright_any A 2 c W.heap.size [T, U] W hs (fun x hx => by
    rcases List.mem_cons.1 hx with rfl | hx
    · exact ⟨(hL.later (h.mono hB)).more (Nat.le_trans hB h.size), s1⟩
    · rw [List.mem_singleton] at hx; subst hx; exact ⟨(hL'.later (h.mono hB)).more (Nat.le_trans hB h.size), s2⟩) (Nat.le_refl _) (by decide))
  have HRc := Lib.hid (fun (h1 : T.ok = true) (h2 : U.ok = true) W (h : Below w.heap.size w W) => rcompare_any T U B W (hL.later (h.mono hB)) (hL'.later (h.mono hB)) h1 h2 s1 s2 (Nat.le_trans hB h.size))
  have hok2 : [T, U].all VT.ok = (T.ok && U.ok) := by simp
  rw [hok2] at HRt
  unfold cmpT at HC
  clear hL hL' s1 s2 htab hst hr hok2
  generalize cmpV T U = v at *
  generalize T.ok = ok1 at *
  generalize U.ok = ok2 at *
  obtain ⟨k, n, s, cA, cn, cc, kA, kn, kc, keys, kids⟩ := T
  obtain ⟨k', n', s', cA', cn', cc', kA', kn', kc', keys', kids'⟩ := U
  have hfm : [VT.mk k n s cA cn cc kA kn kc keys kids, .mk k' n' s' cA' cn' cc' kA' kn' kc' keys' kids'].flatMap VT.cells = [.int .i64 k, .int .i64 n, .string s, .slice cA cn cc, .slice kA kn kc, .int .i64 k', .int .i64 n', .string s', .slice cA' cn' cc', .slice kA' kn' kc'] := rfl
  rw [hfm] at HRt
  simp only [VT.agg] at HC HRc ⊢
  clear hfm
  have hb1 := bel_alloc (bel_alloc (Below.refl w.heap.size w) (.cells #[.int .i64 k, .int .i64 n, .string s, .slice cA cn cc, .slice kA kn kc] 25)) (.cells #[.int .i64 k', .int .i64 n', .string s', .slice cA' cn' cc', .slice kA' kn' kc'] 25)
  have HA := Lib.hid ((VFive.new w (.int .i64 k) (.int .i64 n) (.string s) (.slice cA cn cc) (.slice kA kn kc) 25 w.heap.size rfl).alloc (.cells #[.int .i64 k', .int .i64 n', .string s', .slice cA' cn' cc', .slice kA' kn' kc'] 25))
  have HB := Lib.hid (VFive.new (w.alloc (.cells #[.int .i64 k, .int .i64 n, .string s, .slice cA cn cc, .slice kA kn kc] 25)) (.int .i64 k') (.int .i64 n') (.string s') (.slice cA' cn' cc') (.slice kA' kn' kc') 25 (w.heap.size + 1) (World.size_alloc _ _))
  have hcase : ((ok1 && ok2) = true ∧ ok1 = true ∧ ok2 = true) ∨ (ok1 && ok2) = false := by cases ok1 <;> cases ok2 <;> simp
  go_enter Tryd.func3, Tryd.ntmps3
  go_upto_region 1 with fail
  generalize ((w.alloc (.cells #[.int .i64 k, .int .i64 n, .string s, .slice cA cn cc, .slice kA kn kc] 25)).alloc (.cells #[.int .i64 k', .int .i64 n', .string s', .slice cA' cn' cc', .slice kA' kn' kc'] 25)) = w1 at *
  go_wp2_with fail
  refine (HW.out _ hb1).mono ?_
  rintro e w2 ⟨rfl, hn⟩
  have HA := Lib.hid (HA.out.later hn)
  have HB := Lib.hid (HB.out.later hn)
  have hb1 := bel_next hb1 hn
  clear hn
  clear HW
  obtain ⟨⟨a0, a1, a2, a3, a4⟩, -⟩ := HA.out
  obtain ⟨⟨b0, b1, b2, b3, b4⟩, -⟩ := HB.out
  have hc := HC.out _ hb1
  rcases hcase with ⟨hok, rfl, rfl⟩ | hok
  · rw [if_pos hok] at hc
    clear HC
    go_wp2_with fail
    refine hc.mono ?_
    rintro e w3 ⟨rfl, hn⟩
    clear hc a0 a1 a2 a3 a4 b0 b1 b2 b3 b4
    have HA := Lib.hid (HA.out.later hn)
    have HB := Lib.hid (HB.out.later hn)
    have hb1 := bel_next hb1 hn
    clear hn
    obtain ⟨⟨a0, a1, a2, a3, a4⟩, -⟩ := HA.out
    obtain ⟨⟨b0, b1, b2, b3, b4⟩, -⟩ := HB.out
    have hs := shows_new w3 #[.int .i64 k, .int .i64 n, .string s, .slice cA cn cc, .slice kA kn kc, .int .i64 k', .int .i64 n', .string s', .slice cA' cn' cc', .slice kA' kn' kc'] 25 w3.heap.size 2 5 rfl rfl
    have hn := bel_alloc (Below.refl w3.heap.size w3) (.cells #[.int .i64 k, .int .i64 n, .string s, .slice cA cn cc, .slice kA kn kc, .int .i64 k', .int .i64 n', .string s', .slice cA' cn' cc', .slice kA' kn' kc'] 25)
    have HA := Lib.hid (HA.out.later hn)
    have HB := Lib.hid (HB.out.later hn)
    have hb1 := bel_next hb1 hn
    clear hn
    have hrt := HRt.out (some ⟨w3.heap.size, 0, none⟩) 2 _ hb1 (hs.more (by simp))
    go_wp2_with fail
    refine hrt.mono ?_
    rintro e w4 ⟨rfl, hn⟩
    clear hrt hs HRt a0 a1 a2 a3 a4 b0 b1 b2 b3 b4
    have HA := Lib.hid (HA.out.later hn)
    have HB := Lib.hid (HB.out.later hn)
    have hb1 := bel_next hb1 hn
    clear hn
    obtain ⟨⟨a0, a1, a2, a3, a4⟩, -⟩ := HA.out
    obtain ⟨⟨b0, b1, b2, b3, b4⟩, -⟩ := HB.out
    have hrc := HRc.out trivial trivial _ hb1
    go_wp2_with fail
    refine hrc.mono ?_
    rintro e w5 ⟨rfl, hn⟩
    go_wp2
    go_ret
    exact ⟨by first | rfl | simp, bel_next hb1 hn.1⟩
  · rw [if_neg (by rw [hok]; decide)] at hc
    rw [hok] at HRt
    clear HC HRc
    go_wp2_with fail
    refine hc.mono ?_
    rintro e w3 ⟨rfl, hn⟩
    clear hc a0 a1 a2 a3 a4 b0 b1 b2 b3 b4
    have HA := Lib.hid (HA.out.later hn)
    have HB := Lib.hid (HB.out.later hn)
    have hb1 := bel_next hb1 hn
    clear hn
    obtain ⟨⟨a0, a1, a2, a3, a4⟩, -⟩ := HA.out
    obtain ⟨⟨b0, b1, b2, b3, b4⟩, -⟩ := HB.out
    have hs := shows_new w3 #[.int .i64 k, .int .i64 n, .string s, .slice cA cn cc, .slice kA kn kc, .int .i64 k', .int .i64 n', .string s', .slice cA' cn' cc', .slice kA' kn' kc'] 25 w3.heap.size 2 5 rfl rfl
    have hn := bel_alloc (Below.refl w3.heap.size w3) (.cells #[.int .i64 k, .int .i64 n, .string s, .slice cA cn cc, .slice kA kn kc, .int .i64 k', .int .i64 n', .string s', .slice cA' cn' cc', .slice kA' kn' kc'] 25)
    have HA := Lib.hid (HA.out.later hn)
    have HB := Lib.hid (HB.out.later hn)
    have hb1 := bel_next hb1 hn
    clear hn
    have hrt := HRt.out (some ⟨w3.heap.size, 0, none⟩) 2 _ hb1 (hs.more (by simp))
    go_wp2_with fail
    refine hrt.mono ?_
    rintro e w4 ⟨rfl, hn⟩
    go_wp2
    go_ret
    exact ⟨by first | rfl | simp, bel_next hb1 hn⟩
theorem collateCompares_walk (W : World) (T : VT) (hT : Lie W W.heap.size T) (sT : Sml 1048576 T) (U : VT) (hU : Lie W W.heap.size U) (sU : Sml 1048576 U) (htab : UTab W ∧ STab W ∧ RTab W) :
    Calls Tryd.prog 3 #[T.agg, U.agg] W fun e w' => e = .returned (.bool true) ∧ Below W.heap.size W w' :=
  ccompares_any W T U W.heap.size hT hU sT sU (Nat.le_refl _) htab.1 htab.2.1 htab.2.2
end Go.Proofs.YtndolgbbochpjaaDoor
/-
  What the second form's bound gives: no part of a reading is greater than the whole. Rows of things that came in, each within the bound.
-/
namespace Go.Proofs.YtndolgbbochpjaaDoor
open Go.ChangeShapes Go.WideShapes Go.ChangeAt Go.RowKit Go.Deep
set_option linter.unusedVariables false

theorem blk_part {H : Type} {d : DataW H} : ∀ {l : List (DataW H)}, d ∈ l → Rows.uptoBulk d ≤ Rows.uptoBulkAll l
  | x :: r, h => by
    rw [Rows.uptoBulkAll]
    rcases List.mem_cons.1 h with rfl | h
    · omega
    · have := blk_part h; omega
theorem blk_agg {H : Type} {d : DataW H} {l : List (DataW H)} (h : d ∈ l) : Rows.uptoBulk d ≤ Rows.uptoBulk (.agg l) := by
  have := blk_part h
  rw [Rows.uptoBulk]
  omega
theorem blk_slice {H : Type} {d : DataW H} {l r : List (DataW H)} (h : d ∈ l) : Rows.uptoBulk d ≤ Rows.uptoBulk (.slice l r) := by
  have := blk_part h
  rw [Rows.uptoBulk]
  omega
theorem blk_str {H : Type} {s : ByteArray} {N : Nat} (h : Rows.uptoBulk (DataW.lit (H := H) (.string s.data.toList)) ≤ N) : s.size ≤ N := by
  rw [Rows.uptoBulk] at h
  have : s.data.toList.length = s.size := by rw [Array.length_toList]; rfl
  omega
theorem blk_all {H : Type} {l : List (DataW H)} (h : Rows.uptoSmall H l = true) {d : DataW H} (hd : d ∈ l) : Rows.uptoBulk d ≤ 1048576 := by
  have h1 := of_decide_eq_true h
  exact Nat.le_trans (blk_part hd) h1
section
variable {H : Type} {enc : TypeId × Value → H} {P : Program} {w W : World} {base : Nat} {spare : Nat → Bool} {held : Bool} {t e : TypeId} {N : Nat}
/-- A row of things that came in, one by one, each within the bound. -/
theorem open_rowsN {α : Type} (f : α → List Value) (z : α) (k : Nat) (hk : 0 < k) (hf : ∀ x, (f x).length = k) (Q : α → Prop) {fuel : Nat} {cs : List Value} {x : DataW H × List MemPlace} (ht : P.underlying t = some (.slice e)) (hC : P.cellsOf e = k)
    (hQ : ∀ n cs y, n < fuel → cs.length = k → DataW.trod enc P w base spare held n e cs = some y → Rows.uptoBulk y.1 ≤ N → ∃ x : α, cs = f x ∧ Q x)
    (h : DataW.trod enc P w base spare held fuel t cs = some x) (hN : Rows.uptoBulk x.1 ≤ N) : ∃ (A : Option Addr) (n c : Nat) (l : List α), cs = [.slice A n c] ∧ Shows w w.heap.size k A n (l.flatMap f) ∧ (∀ x ∈ l, Q x) ∧ (A = none → c = 0) ∧ n ≤ c ∧ c ≤ maxLen := by
  rcases DataW.trod_slice ht h with ⟨hcs, _⟩ | ⟨a, len, cap, elems, rest, n, hn, hcs, hx, _, hl, hm, hlen, hi, _, _⟩
  · exact ⟨none, 0, 0, [], hcs, ⟨by simp, fun h => absurd h (by decide)⟩, by simp, fun _ => rfl, Nat.le_refl _, Nat.zero_le _⟩
  · have hF : ∀ i, ∃ r : α, i < len → Q r ∧ ∀ j u, (f r)[j]? = some u → w.cell? (a.add (i * k + j)) = some u := by
      intro i
      by_cases hin : i < len
      · have h2 := hi i hin
        have hi' : i < elems.length := by rw [hlen]; exact hin
        rw [List.getElem?_eq_getElem hi'] at h2
        obtain ⟨cs', hc, htr⟩ := Option.bind_eq_some_iff.1 h2
        obtain ⟨_, hlen', hat⟩ := World.cells?_some hc
        rw [hC] at hlen' hat
        have hb : Rows.uptoBulk (elems[i]).1 ≤ N := by
          rw [hx] at hN
          exact Nat.le_trans (blk_slice (List.mem_map_of_mem (f := (·.1)) (List.getElem_mem hi'))) hN
        obtain ⟨r, rfl, hr⟩ := hQ n cs' _ (by omega) hlen' htr hb
        refine ⟨r, fun _ => ⟨hr, fun j u hu => ?_⟩⟩
        have hj : j < k := by have := (List.getElem?_eq_some_iff.1 hu).1; rw [hlen'] at this; exact this
        have := hat j hj
        rw [hu] at this
        rw [← this, ← Go.Deep.add_add]
      · exact ⟨z, fun h => absurd h hin⟩
    refine ⟨some a, len, cap, (List.range len).map fun i => Classical.choose (hF i), hcs, shows_rows f k hk hf _ fun i hi j u hu => (Classical.choose_spec (hF i) hi).2 j u hu, ?_, nofun, hl, hm⟩
    intro r hr
    obtain ⟨i, hi, rfl⟩ := List.mem_map.1 hr
    exact (Classical.choose_spec (hF i) (List.mem_range.1 hi)).1
theorem open_keysN {fuel : Nat} {cs : List Value} {x : DataW H × List MemPlace} (ht : P.underlying t = some (.slice e)) (hC : P.cellsOf e = 1) (he : P.underlying e = some .string) (h : DataW.trod enc P w base spare held fuel t cs = some x) (hN : Rows.uptoBulk x.1 ≤ N) :
    ∃ (A : Option Addr) (n c : Nat) (l : List ByteArray), cs = [.slice A n c] ∧ Shows w w.heap.size 1 A n (l.map Value.string) ∧ (∀ x ∈ l, x.size ≤ maxLen ∧ x.size ≤ N) ∧ (A = none → c = 0) ∧ n ≤ c ∧ c ≤ maxLen := by
  obtain ⟨A, n, c, l, h1, h2, h3⟩ := open_rowsN (fun s : ByteArray => [Value.string s]) ⟨#[]⟩ 1 (by decide) (fun _ => rfl) (fun s => s.size ≤ maxLen ∧ s.size ≤ N) ht hC (fun n cs y _ _ hy hb => by
    obtain ⟨s, e, hy1, hs⟩ := DataW.trod_string he hy
    rw [hy1] at hb
    exact ⟨s, e, hs, blk_str hb⟩) h hN
  have hfl : ∀ l : List ByteArray, l.flatMap (fun s => [Value.string s]) = l.map Value.string := by
    intro l
    induction l with
    | nil => rfl
    | cons x l ih => rw [List.flatMap_cons, ih]; rfl
  rw [hfl] at h2
  exact ⟨A, n, c, l, h1, h2, h3⟩
end
end Go.Proofs.YtndolgbbochpjaaDoor
/-
  Layer 4: a value that came in within the second form's bound: each string in it is short.
-/
namespace Go.Proofs.YtndolgbbochpjaaDoor
open Go.ChangeShapes Go.WideShapes Go.ChangeAt Go.RowKit Go.Deep
set_option linter.unusedVariables false

section
variable {H : Type} {enc : TypeId × Value → H} {P : Program} {w W : World} {base b0 : Nat} {spare : Nat → Bool} {held : Bool} {r : Reach} {t e : TypeId} {v : Value} {d : DataW H} {p : List MemPlace} {N : Nat} {f0 f1 f2 f3 f4 : Field} {ek : TypeId}
theorem trod_valueN (ht : P.underlying t = some (.struct #[f0, f1, f2, f3, f4])) (hone : oneCellFields P #[f0, f1, f2, f3, f4] = true) (hC : P.cellsOf t = 5)
    (k0 : P.underlying f0.type = some (.int .i64)) (k1 : P.underlying f1.type = some (.int .i64)) (k2 : P.underlying f2.type = some .string) (k3 : P.underlying f3.type = some (.slice t)) (k4 : P.underlying f4.type = some (.slice ek)) (k5 : P.underlying ek = some .string) (hk : P.cellsOf ek = 1) :
    ∀ (fuel : Nat) (cs : List Value) (x : DataW H × List MemPlace), cs.length = 5 → DataW.trod enc P w base spare held fuel t cs = some x → Rows.uptoBulk x.1 ≤ N → ∃ T : VT, cs = T.cells ∧ Lie w w.heap.size T ∧ Sml N T := by
  intro fuel
  induction fuel using Nat.strongRecOn with
  | ind fuel ih =>
    intro cs x hsz h hN
    match cs, hsz with
    | [c0, c1, c2, c3, c4], _ =>
      obtain ⟨xs, n, hn, hx, _, hlen, hg⟩ := DataW.trod_struct ht h
      obtain ⟨o0, q0⟩ := hone_of hone 0 f0 rfl
      obtain ⟨o1, q1⟩ := hone_of hone 1 f1 rfl
      obtain ⟨o2, q2⟩ := hone_of hone 2 f2 rfl
      obtain ⟨o3, q3⟩ := hone_of hone 3 f3 rfl
      obtain ⟨o4, q4⟩ := hone_of hone 4 f4 rfl
      match xs, hlen with
      | [y0, y1, y2, y3, y4], _ =>
        have hy0 : DataW.trod enc P w base spare held n f0.type [c0] = some y0 := by simpa [o0, q0] using hg 0 f0 rfl
        have hy1 : DataW.trod enc P w base spare held n f1.type [c1] = some y1 := by simpa [o1, q1] using hg 1 f1 rfl
        have hy2 : DataW.trod enc P w base spare held n f2.type [c2] = some y2 := by simpa [o2, q2] using hg 2 f2 rfl
        have hy3 : DataW.trod enc P w base spare held n f3.type [c3] = some y3 := by simpa [o3, q3] using hg 3 f3 rfl
        have hy4 : DataW.trod enc P w base spare held n f4.type [c4] = some y4 := by simpa [o4, q4] using hg 4 f4 rfl
        have hb : ∀ y ∈ [y0, y1, y2, y3, y4], Rows.uptoBulk y.1 ≤ N := fun y hy => by
          rw [hx] at hN
          exact Nat.le_trans (blk_agg (List.mem_map_of_mem (f := (·.1)) hy)) hN
        obtain ⟨z0, e0, _, w0⟩ := DataW.trod_int k0 hy0
        obtain ⟨z1, e1, _, w1⟩ := DataW.trod_int k1 hy1
        obtain ⟨s, e2, g2, hs⟩ := DataW.trod_string k2 hy2
        have hs2 : s.size ≤ N := by
          have := hb y2 (by simp)
          rw [g2] at this
          exact blk_str this
        obtain ⟨A3, n3, d3, l3, e3, hS3, hL3, a3, b3, m3⟩ := open_rowsN VT.cells (scV 0 0 ⟨#[]⟩) 5 (by decide) VT.cells_len (fun T => Lie w w.heap.size T ∧ Sml N T) k3 hC (fun n' cs' y hn' hl' hy' hb' => ih n' (by omega) cs' y hl' hy' hb') hy3 (hb y3 (by simp))
        obtain ⟨A4, n4, d4, l4, e4, hS4, hL4, a4, b4, m4⟩ := open_keysN k4 hk k5 hy4 (hb y4 (by simp))
        simp at e0 e1 e2 e3 e4
        subst e0 e1 e2 e3 e4
        exact ⟨.mk z0 z1 s A3 n3 d3 A4 n4 d4 l4 l3, rfl, .mk hS3 hS4 ⟨w0, w1, hs, b3, m3, a3, b4, m4, a4, fun x hx => (hL4 x hx).1⟩ (fun x hx => (hL3 x hx).1), .mk hs2 (fun x hx => (hL4 x hx).2) (fun x hx => (hL3 x hx).2)⟩
theorem came_valueN (ht : P.underlying t = some (.struct #[f0, f1, f2, f3, f4])) (hone : oneCellFields P #[f0, f1, f2, f3, f4] = true) (hC : P.cellsOf t = 5)
    (k0 : P.underlying f0.type = some (.int .i64)) (k1 : P.underlying f1.type = some (.int .i64)) (k2 : P.underlying f2.type = some .string) (k3 : P.underlying f3.type = some (.slice t)) (k4 : P.underlying f4.type = some (.slice ek)) (k5 : P.underlying ek = some .string) (hk : P.cellsOf ek = 1)
    (hv : Value.okWide P W r b0 t v) (h : DataW.Trod enc P w base spare held t v d p) (hN : Rows.uptoBulk d ≤ N) : ∃ T : VT, v = T.agg ∧ Lie w w.heap.size T ∧ Sml N T := by
  obtain ⟨cs, rfl, hsz⟩ := okWide_struct ht hv
  obtain ⟨fuel, hf⟩ := h
  obtain ⟨T, hT, hL⟩ := trod_valueN ht hone hC k0 k1 k2 k3 k4 k5 hk fuel cs.toList _ (by simpa using hsz.trans hC) (by simpa [Value.cells] using hf) hN
  refine ⟨T, ?_, hL⟩
  rw [← Array.toArray_toList (xs := cs), hT]
  cases T; rfl
theorem came_keysN {A : Option Addr} {n c : Nat} (hu : P.underlying t = some (.slice e)) (hC : P.cellsOf e = 1) (he : P.underlying e = some .string) (h : DataW.Trod enc P w base spare held t (.slice A n c) d p) (hN : Rows.uptoBulk d ≤ N) :
    ∃ l : List ByteArray, Shows w w.heap.size 1 A n (l.map Value.string) ∧ (∀ x ∈ l, x.size ≤ maxLen ∧ x.size ≤ N) ∧ (A = none → c = 0) ∧ n ≤ c ∧ c ≤ maxLen := by
  obtain ⟨fuel, hf⟩ := h
  obtain ⟨A', n', c', l, hcs, h2, h3, h4⟩ := open_keysN hu hC he hf hN
  simp [Value.cells] at hcs
  obtain ⟨rfl, rfl, rfl⟩ := hcs
  exact ⟨l, h2, h3, h4⟩
variable {tp : TypeId} {g0 g1 : Field}
theorem trod_pairN (hp : P.underlying tp = some (.struct #[g0, g1])) (o0 : g0.offset = 0) (o1 : g1.offset = 1) (c0 : P.cellsOf g0.type = 1) (c1 : P.cellsOf g1.type = 5) (q0 : P.underlying g0.type = some .string)
    (ht : P.underlying g1.type = some (.struct #[f0, f1, f2, f3, f4])) (hone : oneCellFields P #[f0, f1, f2, f3, f4] = true)
    (k0 : P.underlying f0.type = some (.int .i64)) (k1 : P.underlying f1.type = some (.int .i64)) (k2 : P.underlying f2.type = some .string) (k3 : P.underlying f3.type = some (.slice g1.type)) (k4 : P.underlying f4.type = some (.slice ek)) (k5 : P.underlying ek = some .string) (hk : P.cellsOf ek = 1) :
    ∀ (fuel : Nat) (cs : List Value) (x : DataW H × List MemPlace), cs.length = 6 → DataW.trod enc P w base spare held fuel tp cs = some x → Rows.uptoBulk x.1 ≤ N → ∃ p : PT, cs = pCells p ∧ (Lie w w.heap.size p.2 ∧ p.1.size ≤ maxLen) ∧ Sml N p.2 ∧ p.1.size ≤ N := by
  intro fuel cs x hsz h hN
  match cs, hsz with
  | [b0, b1, b2, b3, b4, b5], _ =>
    obtain ⟨xs, n, hn, hx, _, hlen, hg⟩ := DataW.trod_struct hp h
    match xs, hlen with
    | [y0, y1], _ =>
      have hy0 : DataW.trod enc P w base spare held n g0.type [b0] = some y0 := by simpa [o0, c0] using hg 0 g0 rfl
      have hy1 : DataW.trod enc P w base spare held n g1.type [b1, b2, b3, b4, b5] = some y1 := by simpa [o1, c1] using hg 1 g1 rfl
      have hb : ∀ y ∈ [y0, y1], Rows.uptoBulk y.1 ≤ N := fun y hy => by
        rw [hx] at hN
        exact Nat.le_trans (blk_agg (List.mem_map_of_mem (f := (·.1)) hy)) hN
      obtain ⟨s, e2, g2, hs⟩ := DataW.trod_string q0 hy0
      have hs2 : s.size ≤ N := by
        have := hb y0 (by simp)
        rw [g2] at this
        exact blk_str this
      obtain ⟨T, hT, hL, hM⟩ := trod_valueN ht hone c1 k0 k1 k2 k3 k4 k5 hk n _ _ rfl hy1 (hb y1 (by simp))
      simp at e2
      subst e2
      exact ⟨(s, T), by rw [hT]; rfl, ⟨hL, hs⟩, hM, hs2⟩
theorem came_pairsN {A : Option Addr} {n c : Nat} (hu : P.underlying e = some (.slice tp)) (hp : P.underlying tp = some (.struct #[g0, g1])) (hC : P.cellsOf tp = 6) (o0 : g0.offset = 0) (o1 : g1.offset = 1) (c0 : P.cellsOf g0.type = 1) (c1 : P.cellsOf g1.type = 5) (q0 : P.underlying g0.type = some .string)
    (ht : P.underlying g1.type = some (.struct #[f0, f1, f2, f3, f4])) (hone : oneCellFields P #[f0, f1, f2, f3, f4] = true)
    (k0 : P.underlying f0.type = some (.int .i64)) (k1 : P.underlying f1.type = some (.int .i64)) (k2 : P.underlying f2.type = some .string) (k3 : P.underlying f3.type = some (.slice g1.type)) (k4 : P.underlying f4.type = some (.slice ek)) (k5 : P.underlying ek = some .string) (hk : P.cellsOf ek = 1)
    (h : DataW.Trod enc P w base spare held e (.slice A n c) d p) (hN : Rows.uptoBulk d ≤ N) : ∃ l : List PT, Shows w w.heap.size 6 A n (l.flatMap pCells) ∧ (∀ p ∈ l, (Lie w w.heap.size p.2 ∧ p.1.size ≤ maxLen) ∧ Sml N p.2 ∧ p.1.size ≤ N) ∧ (A = none → c = 0) ∧ n ≤ c ∧ c ≤ maxLen := by
  obtain ⟨fuel, hf⟩ := h
  obtain ⟨A', n', c', l, hcs, h2, h3, h4⟩ := open_rowsN pCells (⟨#[]⟩, scV 0 0 ⟨#[]⟩) 6 (by decide) pCells_len (fun p : PT => (Lie w w.heap.size p.2 ∧ p.1.size ≤ maxLen) ∧ Sml N p.2 ∧ p.1.size ≤ N) hu hC (fun n' cs' y _ hl' hy' hb' => trod_pairN hp o0 o1 c0 c1 q0 ht hone k0 k1 k2 k3 k4 k5 hk n' cs' y hl' hy' hb') hf hN
  simp [Value.cells] at hcs
  obtain ⟨rfl, rfl, rfl⟩ := hcs
  exact ⟨l, h2, h3, h4⟩
end
end Go.Proofs.YtndolgbbochpjaaDoor
/-
  Layer 1: the table of forms out of a row's condition: an array of structs of whole numbers holds what it reads as.
-/
namespace Go.Proofs.YtndolgbbochpjaaDoor
open Go.RowKit

section
variable {H : Type} {enc : TypeId × Value → H} {P : Program} {w : World} {base : Nat} {sp : Nat → Bool} {held : Bool} {k : IntKind}
def litRow (k : IntKind) (zs : List Int) : DataW H := .agg (zs.map fun z => .lit (.int k z))
theorem cells_of_struct {fuel : Nat} {t : TypeId} {fs : Array Field} {cs : List Value} {zs : List Int} {p : List MemPlace} (ht : P.underlying t = some (.struct fs)) (hn : P.cellsOf t = fs.size)
    (hf : ∀ (i : Nat) (f : Field), fs[i]? = some f → f.offset = i ∧ P.cellsOf f.type = 1 ∧ P.underlying f.type = some (.int k))
    (h : DataW.trod enc P w base sp held fuel t cs = some (litRow k zs, p)) : cs = zs.map fun z => Value.int k z := by
  obtain ⟨xs, n, _, hx, hl, hlen, hfx⟩ := DataW.trod_struct ht h
  have hxs : xs.map (·.1) = zs.map fun z => (DataW.lit (.int k z) : DataW H) := by
    have := congrArg Prod.fst hx
    simpa [litRow] using this.symm
  have hzl : zs.length = fs.size := by
    have := congrArg List.length hxs
    simp at this
    omega
  apply List.ext_getElem?
  intro i
  by_cases hi : i < fs.size
  · obtain ⟨h1, h2, h3⟩ := hf i fs[i] (Array.getElem?_eq_getElem hi)
    have hb := hfx i fs[i] (Array.getElem?_eq_getElem hi)
    rw [h1, h2, List.getElem?_eq_getElem (by omega)] at hb
    obtain ⟨z, hc, hz, _⟩ := DataW.trod_int h3 hb
    have e1 : cs[i]? = some (.int k z) := by
      have := congrArg (·[0]?) hc
      simpa [List.getElem?_take, List.getElem?_drop] using this
    have e2 : (xs.map (·.1))[i]? = some (DataW.lit (.int k z) : DataW H) := by
      rw [List.getElem?_map, List.getElem?_eq_getElem (by omega), hz]
      rfl
    rw [hxs] at e2
    simp only [List.getElem?_map, Option.map_eq_some_iff, DataW.lit.injEq, Lit.int.injEq, true_and] at e2
    obtain ⟨z', hz', rfl⟩ := e2
    simp [e1, hz']
  · rw [List.getElem?_eq_none (by omega), List.getElem?_eq_none (by simp; omega)]
theorem cells_of_rows {fuel : Nat} {t e : TypeId} {n m : Nat} {cs : List Value} {rows : List (List Int)} {p : List MemPlace} (ht : P.underlying t = some (.array n e)) (he : P.cellsOf e = m) (hct : P.cellsOf t = n * m)
    (hs : ∀ (cs' : List Value) (fuel' : Nat) (zs : List Int) (p' : List MemPlace), DataW.trod enc P w base sp held fuel' e cs' = some (litRow k zs, p') → cs' = zs.map fun z => Value.int k z)
    (h : DataW.trod enc P w base sp held fuel t cs = some (.agg (rows.map (litRow k)), p)) :
    cs.length = n * m ∧ rows.length = n ∧ ∀ i r, rows[i]? = some r → (cs.drop (i * m)).take m = r.map fun z => Value.int k z := by
  cases fuel with
  | zero => simp [DataW.trod] at h
  | succ fuel =>
    simp only [DataW.trod, ht, he, hct] at h
    split at h
    · rename_i hl
      obtain ⟨xs, hm, hx⟩ := Option.map_eq_some_iff.1 h
      have hxs : xs.map (·.1) = rows.map (litRow k) := by
        have := congrArg Prod.fst hx
        simpa using this
      have hxl : xs.length = n := by simpa using Lib.mapM_length hm
      have hzl : rows.length = n := by
        have := congrArg List.length hxs
        simp at this
        omega
      refine ⟨hl, hzl, fun i r hr => ?_⟩
      have hi : i < n := by rw [← hzl]; exact (List.getElem?_eq_some_iff.1 hr).1
      obtain ⟨b, hb, hf⟩ := Lib.mapM_at hm i i (by simp [hi])
      have h2 : (xs.map (·.1))[i]? = some (litRow k r) := by rw [hxs, List.getElem?_map, hr]; rfl
      rw [List.getElem?_map, hb] at h2
      have h3 : b.1 = litRow k r := by simpa using h2
      obtain ⟨b1, b2⟩ := b
      subst h3
      exact hs _ _ _ _ hf
    · cases h
end
theorem four (cs : List Value) (h : cs.length = 16) : cs = (cs.drop (0 * 4)).take 4 ++ ((cs.drop (1 * 4)).take 4 ++ ((cs.drop (2 * 4)).take 4 ++ (cs.drop (3 * 4)).take 4)) := by
  have e3 : (cs.drop (3 * 4)).take 4 = cs.drop 12 := List.take_of_length_le (by simp; omega)
  have e2 : (cs.drop (2 * 4)).take 4 ++ cs.drop 12 = cs.drop 8 := by
    have := List.take_append_drop 4 (cs.drop 8)
    rwa [List.drop_drop] at this
  have e1 : (cs.drop (1 * 4)).take 4 ++ cs.drop 8 = cs.drop 4 := by
    have := List.take_append_drop 4 (cs.drop 4)
    rwa [List.drop_drop] at this
  rw [e3, e2, e1]
  simp
set_option maxRecDepth 20000 in
theorem form_rows {W : World} {fuel : Nat} {cs : List Value} {zs : List Int} {p : List MemPlace} (h : DataW.trod (fun _ => ()) Tryd.prog W 0 (fun _ => true) false fuel 113 cs = some (litRow .i64 zs, p)) : cs = zs.map fun z => Value.int .i64 z :=
  cells_of_struct Tryd.underlying113 (by kernel_rfl) (fun i f hf => by
    match i, hf with
    | 0, hf => cases hf; exact ⟨rfl, by kernel_rfl, Tryd.underlying3⟩
    | 1, hf => cases hf; exact ⟨rfl, by kernel_rfl, Tryd.underlying3⟩
    | 2, hf => cases hf; exact ⟨rfl, by kernel_rfl, Tryd.underlying3⟩
    | 3, hf => cases hf; exact ⟨rfl, by kernel_rfl, Tryd.underlying3⟩
    | i + 4, hf => simp at hf) h
set_option maxRecDepth 20000 in
theorem gForms : Tryd.prog.globalNamed "davenport/utf.forms" = some 2 := by kernel_rfl
set_option maxRecDepth 20000 in
theorem gFormsType : (Tryd.prog.globals[2]?).map (·.type) = some 116 := by kernel_rfl
set_option maxRecDepth 20000 in
/-- The condition of a row gives the table. -/
theorem utab_of {W : World} (h : Lib.VarReads Tryd.prog W "davenport/utf.forms" Rows.laid_davenport_utf_forms) : UTab W := by
  obtain ⟨g', t', cs, fuel, p, hg', ht', hvar, hd⟩ := h
  obtain rfl := Option.some.inj (gForms.symm.trans hg')
  obtain rfl := Option.some.inj (gFormsType.symm.trans ht')
  obtain ⟨hl, -, hr⟩ := cells_of_rows (k := .i64) (m := 4) (rows := [[0, 127, 1, 0], [128, 2047, 2, 192], [2048, 65535, 3, 224], [65536, 1114111, 4, 240]]) Tryd.underlying116 (by kernel_rfl) (by kernel_rfl) (fun cs' f' zs p' h' => form_rows h') hd
  have e := four cs.toList hl
  rw [hr 0 _ rfl, hr 1 _ rfl, hr 2 _ rfl, hr 3 _ rfl] at e
  intro i v hi
  have hc := World.var?_cell gForms hvar i
  rw [Nat.zero_add, hc, ← Array.getElem?_toList, e]
  exact hi
end Go.Proofs.YtndolgbbochpjaaDoor
/-
  A laid variable that is an array of structs of mixed kinds: its cells, out of what it reads as.
-/
namespace Go.Proofs.YtndolgbbochpjaaDoor
open Go.RowKit

section
variable {H : Type} {enc : TypeId × Value → H} {P : Program} {w : World} {base : Nat} {sp : Nat → Bool} {held : Bool}
theorem cells_of_rowsG {R : Type} {F : R → DataW H} {V : R → List Value} {fuel : Nat} {t e : TypeId} {n m : Nat} {cs : List Value} {rows : List R} {p : List MemPlace} (ht : P.underlying t = some (.array n e)) (he : P.cellsOf e = m) (hct : P.cellsOf t = n * m)
    (hs : ∀ (cs' : List Value) (fuel' : Nat) (r : R) (p' : List MemPlace), DataW.trod enc P w base sp held fuel' e cs' = some (F r, p') → cs' = V r)
    (h : DataW.trod enc P w base sp held fuel t cs = some (.agg (rows.map F), p)) :
    cs.length = n * m ∧ rows.length = n ∧ ∀ i r, rows[i]? = some r → (cs.drop (i * m)).take m = V r := by
  cases fuel with
  | zero => simp [DataW.trod] at h
  | succ fuel =>
    simp only [DataW.trod, ht, he, hct] at h
    split at h
    · rename_i hl
      obtain ⟨xs, hm, hx⟩ := Option.map_eq_some_iff.1 h
      have hxs : xs.map (·.1) = rows.map F := by
        have := congrArg Prod.fst hx
        simpa using this
      have hxl : xs.length = n := by simpa using Lib.mapM_length hm
      have hzl : rows.length = n := by
        have := congrArg List.length hxs
        simp at this
        omega
      refine ⟨hl, hzl, fun i r hr => ?_⟩
      have hi : i < n := by rw [← hzl]; exact (List.getElem?_eq_some_iff.1 hr).1
      obtain ⟨b, hb, hf⟩ := Lib.mapM_at hm i i (by simp [hi])
      have h2 : (xs.map (·.1))[i]? = some (F r) := by rw [hxs, List.getElem?_map, hr]; rfl
      rw [List.getElem?_map, hb] at h2
      have h3 : b.1 = F r := by simpa using h2
      obtain ⟨b1, b2⟩ := b
      subst h3
      exact hs _ _ _ _ hf
    · cases h
end
theorem chunk {cs L : List Value} {q m r : Nat} {v : Value} (h : (cs.drop (q * m)).take m = L) (hv : L[r]? = some v) : cs[q * m + r]? = some v := by
  rw [← h, List.getElem?_take] at hv
  split at hv
  · rwa [List.getElem?_drop] at hv
  · cases hv
end Go.Proofs.YtndolgbbochpjaaDoor
