import Derived.Test.YtinaecmpigenoaaDoorGaf
import Derived.Laws.EntriesVeiled
import Derived.Deep.WholeRow
import Derived.Deep.RegionHeld3
import Derived.Deep.CutBlock
import Derived.Deep.DeepCutAuto
import Derived.Test.YtinaecmpigenoaaDoorGaa
import Derived.RangeFuncBox
import Derived.Shelf.Abstract
import Derived.RangeFuncNested
import Derived.RangeFuncBound
import Derived.RangeFuncCalls
import Derived.RangeFuncLeaves
import Derived.Shelf.RegionOpen
import Derived.OwnWalkIn
import Derived.TacticsInMore
import Derived.LoopNIn
import Derived.LoopIn
import Derived.Stop.RegionWithIn
import Derived.WalkMore
import Derived.Deep.QuietTactic
import Derived.BigQuiet
/-
  Layer 4: fits.
-/
namespace Go.Proofs.YtinaecmpigenoaaDoor
open Go.RowKit
set_option linter.unusedVariables false

theorem fit_mk (k n : Int) (s : ByteArray) (cA : Option Addr) (cn cc : Nat) (kA : Option Addr) (kn kc : Nat) (keys : List ByteArray) (kids : List VT) : (VT.mk k n s cA cn cc kA kn kc keys kids).fit = (shKnown k && (numB k n && (strB k s && (eleB k cn && memB k cn kn keys)))) := rfl
/-- The four checks, as they lie in their array. -/
def chk : Array Value := #[.func (.func 45) #[] #[], .func (.func 46) #[] #[], .func (.func 47) #[] #[], .func (.func 48) #[] #[]]
set_option maxRecDepth 20000 in
theorem chk_at : (∀ w, (Instr.index 93 (.agg chk) (.int .i64 0)).run Tryd.prog w = .ok (.func (.func 45) #[] #[]) w) ∧ (∀ w, (Instr.index 93 (.agg chk) (.int .i64 1)).run Tryd.prog w = .ok (.func (.func 46) #[] #[]) w) ∧
    (∀ w, (Instr.index 93 (.agg chk) (.int .i64 2)).run Tryd.prog w = .ok (.func (.func 47) #[] #[]) w) ∧ (∀ w, (Instr.index 93 (.agg chk) (.int .i64 3)).run Tryd.prog w = .ok (.func (.func 48) #[] #[]) w) :=
  ⟨fun _ => by kernel_rfl, fun _ => by kernel_rfl, fun _ => by kernel_rfl, fun _ => by kernel_rfl⟩
set_option maxRecDepth 20000 in
set_option maxHeartbeats 2000000 in
theorem fits_any (k n : Int) (s : ByteArray) (cA : Option Addr) (cn cc : Nat) (kA : Option Addr) (kn kc : Nat) (keys : List ByteArray) (kids : List VT) (B : Nat) (w : World) (hL : Lie w B (.mk k n s cA cn cc kA kn kc keys kids)) (hB : B ≤ w.heap.size) (htab : UTab w) (hst : STab w) :
    Calls Tryd.prog 40 #[.agg #[.int .i64 k, .int .i64 n, .string s, .slice cA cn cc, .slice kA kn kc]] w fun e w' => e = .returned (.bool (VT.fit (.mk k n s cA cn cc kA kn kc keys kids))) ∧ Below w.heap.size w w' := by
  obtain ⟨hc, hk, hz, -⟩ := hL
  have hb := bel_alloc (Below.refl w.heap.size w) (.cells #[.int .i64 k, .int .i64 n, .string s, .slice cA cn cc, .slice kA kn kc] 39)
  by_cases hk0 : k < 0
  · have HR := Lib.hid (show VT.fit (.mk k n s cA cn cc kA kn kc keys kids) = false by
      have : shKnown k = false := by unfold shKnown; simp; omega
      rw [fit_mk, this]; rfl)
    have k0 : (k < 0) = True := by simp; omega
    clear hk0
    go_enter Tryd.func40, Tryd.ntmps40
    go_wp2
    go_ret
    exact ⟨vret_b HR.out.symm, hb⟩
  · have k0 : (k < 0) = False := by simp; omega
    by_cases hk7 : 7 ≤ k
    · have HR := Lib.hid (show VT.fit (.mk k n s cA cn cc kA kn kc keys kids) = false by
        have : shKnown k = false := by unfold shKnown; simp; omega
        rw [fit_mk, this]; rfl)
      have k7 : ((7 : Int) ≤ k) = True := by simp; omega
      clear hk0 hk7
      go_enter Tryd.func40, Tryd.ntmps40
      go_wp2
      go_ret
      exact ⟨vret_b HR.out.symm, hb⟩
    · obtain ⟨q, rfl⟩ : ∃ q : Nat, k = (q : Int) := ⟨k.toNat, by omega⟩
      have hq7 : q < 7 := by omega
      have k7 : ((7 : Int) ≤ (q : Int)) = False := by simp; omega
      have k8 : (q : Int) < 7 := by omega
      have k9 : (0 : Int) ≤ q := by omega
      obtain ⟨r0, r1, r2, r3, r4, r5⟩ := (hst.below hb hst.lt).row q hq7
      by_cases hkn : shKnown (q : Int) = true
      · have hkn' := hkn
        rw [hkn] at r0
        have HF := Lib.hid (show VT.fit (.mk (q : Int) n s cA cn cc kA kn kc keys kids) = (numQ (shWide (q : Int)) (shTop (q : Int)) n && (strQ (shText (q : Int)) s && (eleQ (shKids (q : Int)) cn && memQ (shKeys (q : Int)) cn kn keys))) by
          rw [fit_mk, hkn]; rfl)
        have hi : (Tryd.prog.info? 93).map (·.size) = some 4 := by kernel_rfl
        obtain ⟨x0, x1, x2, x3⟩ := chk_at
        unfold chk at x0 x1 x2 x3
        have hu : Tryd.prog.underlying 93 = some (.array 4 92) := by kernel_rfl
        have hsc := run_storeCells_new (P := Tryd.prog) (w.alloc (.cells #[.int .i64 (q : Int), .int .i64 n, .string s, .slice cA cn cc, .slice kA kn kc] 39)) 93 #[.nilFunc, .nilFunc, .nilFunc, .nilFunc] #[.func (.func 45) #[] #[], .func (.func 46) #[] #[], .func (.func 47) #[] #[], .func (.func 48) #[] #[]] hi rfl (by simp [Value.oneCell'])
        clear hk0 hk7 hkn hq7
        go_enter Tryd.func40, Tryd.ntmps40
        go_wp2
        have hb' : Below w.heap.size w ((w.alloc (.cells #[.int .i64 (q : Int), .int .i64 n, .string s, .slice cA cn cc, .slice kA kn kc] 39)).alloc (.cells #[.func (.func 45) #[] #[], .func (.func 46) #[] #[], .func (.func 47) #[] #[], .func (.func 48) #[] #[]] 93)) := bel_alloc hb _
        have hvv : ∀ j u, (#[Value.int .i64 (q : Int), .int .i64 n, .string s, .slice cA cn cc, .slice kA kn kc] : Array Value)[j]? = some u → ((w.alloc (.cells #[.int .i64 (q : Int), .int .i64 n, .string s, .slice cA cn cc, .slice kA kn kc] 39)).alloc (.cells #[.func (.func 45) #[] #[], .func (.func 46) #[] #[], .func (.func 47) #[] #[], .func (.func 48) #[] #[]] 93)).cell? ⟨w.heap.size, j, none⟩ = some u := fun j u hu => by
          have := new_later (w := w) (C := #[Value.int .i64 (q : Int), .int .i64 n, .string s, .slice cA cn cc, .slice kA kn kc]) (t := 39) (bel_alloc (Below.refl _ _) (.cells #[.func (.func 45) #[] #[], .func (.func 46) #[] #[], .func (.func 47) #[] #[], .func (.func 48) #[] #[]] 93)) j hu
          exact this
        have hrr : ∀ j u, (sRow (q : Int))[j]? = some u → ((w.alloc (.cells #[.int .i64 (q : Int), .int .i64 n, .string s, .slice cA cn cc, .slice kA kn kc] 39)).alloc (.cells #[.func (.func 45) #[] #[], .func (.func 46) #[] #[], .func (.func 47) #[] #[], .func (.func 48) #[] #[]] 93)).cell? ⟨0, q * 6 + j, none⟩ = some u := fun j u hu => by
          have hj : j < 6 := (List.getElem?_eq_some_iff.1 hu).1
          have := (hst.below hb' hst.lt) (q * 6 + j) u ((stab_at q j (by omega) hj).trans hu)
          rwa [Nat.zero_add] at this
        rw [sRow, hkn'] at hrr
        generalize (w.alloc (.cells #[.int .i64 (q : Int), .int .i64 n, .string s, .slice cA cn cc, .slice kA kn kc] 39)).alloc (.cells #[.func (.func 45) #[] #[], .func (.func 46) #[] #[], .func (.func 47) #[] #[], .func (.func 48) #[] #[]] 93) = W1 at *
        have v0 : ∀ W, Below W1.heap.size W1 W → W.cell? ⟨w.heap.size, 0, none⟩ = some (.int .i64 (q : Int)) := fun W h => kept_later h (hvv 0 _ rfl)
        have v1 : ∀ W, Below W1.heap.size W1 W → W.cell? ⟨w.heap.size, 1, none⟩ = some (.int .i64 n) := fun W h => kept_later h (hvv 1 _ rfl)
        have v2 : ∀ W, Below W1.heap.size W1 W → W.cell? ⟨w.heap.size, 2, none⟩ = some (.string s) := fun W h => kept_later h (hvv 2 _ rfl)
        have v3 : ∀ W, Below W1.heap.size W1 W → W.cell? ⟨w.heap.size, 3, none⟩ = some (.slice cA cn cc) := fun W h => kept_later h (hvv 3 _ rfl)
        have v4 : ∀ W, Below W1.heap.size W1 W → W.cell? ⟨w.heap.size, 4, none⟩ = some (.slice kA kn kc) := fun W h => kept_later h (hvv 4 _ rfl)
        have s0 : ∀ W, Below W1.heap.size W1 W → W.cell? ⟨0, q * 6, none⟩ = some (.bool true) := fun W h => kept_later h (hrr 0 _ rfl)
        have s1 : ∀ W, Below W1.heap.size W1 W → W.cell? ⟨0, q * 6 + 1, none⟩ = some (.bool (shWide (q : Int))) := fun W h => kept_later h (hrr 1 _ rfl)
        have s2 : ∀ W, Below W1.heap.size W1 W → W.cell? ⟨0, q * 6 + 2, none⟩ = some (.int .i64 (shTop (q : Int))) := fun W h => kept_later h (hrr 2 _ rfl)
        have s3 : ∀ W, Below W1.heap.size W1 W → W.cell? ⟨0, q * 6 + 3, none⟩ = some (.bool (shText (q : Int))) := fun W h => kept_later h (hrr 3 _ rfl)
        have s4 : ∀ W, Below W1.heap.size W1 W → W.cell? ⟨0, q * 6 + 4, none⟩ = some (.bool (shKeys (q : Int))) := fun W h => kept_later h (hrr 4 _ rfl)
        have s5 : ∀ W, Below W1.heap.size W1 W → W.cell? ⟨0, q * 6 + 5, none⟩ = some (.bool (shKids (q : Int))) := fun W h => kept_later h (hrr 5 _ rfl)
        have Hstr := Lib.hid (fun (W : World) (h : Below W1.heap.size W1 W) => vstring_any true (shWide (q : Int)) (shTop (q : Int)) (shText (q : Int)) (shKeys (q : Int)) (shKids (q : Int)) (.int .i64 (q : Int)) (.int .i64 n) s (.slice cA cn cc) (.slice kA kn kc) W hz.s (htab.below (bel_next hb' h) htab.lt))
        have Hmem := Lib.hid (fun (W : World) (h : Below W1.heap.size W1 W) => vmembers_any true (shWide (q : Int)) (shTop (q : Int)) (shText (q : Int)) (shKeys (q : Int)) (shKids (q : Int)) (.int .i64 (q : Int)) (.int .i64 n) (.string s) cA cn cc kA kn kc keys B W (Nat.le_trans hz.k1 hz.k2) (hk.below ((bel_next hb' h).mono hB)) (Nat.le_trans hB (bel_next hb' h).size) hz.keys (htab.below (bel_next hb' h) htab.lt))
        clear hvv hrr hc hk hz hsc hu hi r0 r1 r2 r3 r4 r5
        have hr1 : Below W1.heap.size W1 W1 := Below.refl _ _
        generalize shWide (q : Int) = wi at *
        generalize shTop (q : Int) = top at *
        generalize shText (q : Int) = te at *
        generalize shKeys (q : Int) = ke at *
        generalize shKids (q : Int) = ki at *
        obtain ⟨b0, hb0⟩ : ∃ b0, numQ wi top n = b0 := ⟨_, rfl⟩
        obtain ⟨b1, hb1⟩ : ∃ b1, strQ te s = b1 := ⟨_, rfl⟩
        obtain ⟨b2, hb2⟩ : ∃ b2, eleQ ki cn = b2 := ⟨_, rfl⟩
        obtain ⟨b3, hb3⟩ : ∃ b3, memQ ke cn kn keys = b3 := ⟨_, rfl⟩
        rw [hb1] at Hstr
        rw [hb3] at Hmem
        rw [hb0, hb1, hb2, hb3] at HF
        have Hnum := Lib.hid (fun (W : World) => vnumber_any true wi top te ke ki (q : Int) n (.string s) (.slice cA cn cc) (.slice kA kn kc) W)
        rw [hb0] at Hnum
        have Hele := Lib.hid (fun (W : World) => velements_any true wi top te ke ki (.int .i64 (q : Int)) (.int .i64 n) (.string s) cA cn cc (.slice kA kn kc) W)
        rw [hb2] at Hele
        clear hb0 hb1 hb2 hb3
        go_loopw [24] (fun i wr => ∃ j : Nat, j ≤ 4 ∧ i = .int .i64 j ∧ (1 ≤ j → b0 = true) ∧ (2 ≤ j → b1 = true) ∧ (3 ≤ j → b2 = true) ∧ (4 ≤ j → b3 = true) ∧ Below W1.heap.size W1 wr) (fun i _ => 8 - (intOf i).toNat)
        case atStart => exact ⟨0, by omega, rfl, fun h => by omega, fun h => by omega, fun h => by omega, fun h => by omega, hr1⟩
        case round =>
          obtain ⟨j, hj, rfl, g0, g1, g2, g3, hbr⟩ := hrel
          rcases (show j = 0 ∨ j = 1 ∨ j = 2 ∨ j = 3 ∨ j = 4 by omega) with rfl | rfl | rfl | rfl | rfl
          · have hr2 : Below W1.heap.size W1 wr.drew := below_drewN hbr 1
            go_upto_region 7 with fail
            cases b0
            · go_region_held3 (fun W => Below W1.heap.size W1 W) (first | (with_reducible assumption) | exact Below.drew (by with_reducible assumption))
                ((go_at_call 45; (with_reducible refine (Hnum.out _).mono ?_); (rintro e wA ⟨rfl, hbA⟩); (have hSA := S_call hbA (by first | (with_reducible assumption) | exact Below.drew (by with_reducible assumption)) rfl)))
              all_goals
                go_wp2
                go_ret
                exact ⟨vret_b (by rw [HF.out]; simp), bel_next hb' (by first | with_reducible assumption | exact Below.drew (by with_reducible assumption))⟩
            · go_region_held3 (fun W => Below W1.heap.size W1 W) (first | (with_reducible assumption) | exact Below.drew (by with_reducible assumption))
                ((go_at_call 45; (with_reducible refine (Hnum.out _).mono ?_); (rintro e wA ⟨rfl, hbA⟩); (have hSA := S_call hbA (by first | (with_reducible assumption) | exact Below.drew (by with_reducible assumption)) rfl)))
              all_goals
                go_wp2
                go_roundw
                case rel => exact ⟨1, by omega, by go_num, fun _ => by first | rfl | trivial, fun h => by omega, fun h => by omega, fun h => by omega, by first | with_reducible assumption | exact Below.drew (by with_reducible assumption)⟩
                case measure => simp [intOf]
          · have hr2 : Below W1.heap.size W1 wr.drew := below_drewN hbr 1
            go_upto_region 7 with fail
            cases b1
            · go_region_held3 (fun W => Below W1.heap.size W1 W) (first | (with_reducible assumption) | exact Below.drew (by with_reducible assumption))
                ((go_at_call 46; (with_reducible refine (Hstr.out _ (by with_reducible assumption)).mono ?_); (rintro e wA ⟨rfl, hbA⟩); (have hSA := S_call hbA (by first | (with_reducible assumption) | exact Below.drew (by with_reducible assumption)) rfl)))
              all_goals
                go_wp2
                go_ret
                exact ⟨vret_b (by rw [HF.out]; simp), bel_next hb' (by first | with_reducible assumption | exact Below.drew (by with_reducible assumption))⟩
            · go_region_held3 (fun W => Below W1.heap.size W1 W) (first | (with_reducible assumption) | exact Below.drew (by with_reducible assumption))
                ((go_at_call 46; (with_reducible refine (Hstr.out _ (by with_reducible assumption)).mono ?_); (rintro e wA ⟨rfl, hbA⟩); (have hSA := S_call hbA (by first | (with_reducible assumption) | exact Below.drew (by with_reducible assumption)) rfl)))
              all_goals
                go_wp2
                go_roundw
                case rel => exact ⟨2, by omega, by go_num, fun _ => g0 (by omega), fun _ => by first | rfl | trivial, fun h => by omega, fun h => by omega, by first | with_reducible assumption | exact Below.drew (by with_reducible assumption)⟩
                case measure => simp [intOf]
          · have hr2 : Below W1.heap.size W1 wr.drew := below_drewN hbr 1
            go_upto_region 7 with fail
            cases b2
            · go_region_held3 (fun W => Below W1.heap.size W1 W) (first | (with_reducible assumption) | exact Below.drew (by with_reducible assumption))
                ((go_at_call 47; (with_reducible refine (Hele.out _).mono ?_); (rintro e wA ⟨rfl, hbA⟩); (have hSA := S_call hbA (by first | (with_reducible assumption) | exact Below.drew (by with_reducible assumption)) rfl)))
              all_goals
                go_wp2
                go_ret
                exact ⟨vret_b (by rw [HF.out]; simp), bel_next hb' (by first | with_reducible assumption | exact Below.drew (by with_reducible assumption))⟩
            · go_region_held3 (fun W => Below W1.heap.size W1 W) (first | (with_reducible assumption) | exact Below.drew (by with_reducible assumption))
                ((go_at_call 47; (with_reducible refine (Hele.out _).mono ?_); (rintro e wA ⟨rfl, hbA⟩); (have hSA := S_call hbA (by first | (with_reducible assumption) | exact Below.drew (by with_reducible assumption)) rfl)))
              all_goals
                go_wp2
                go_roundw
                case rel => exact ⟨3, by omega, by go_num, fun _ => g0 (by omega), fun _ => g1 (by omega), fun _ => by first | rfl | trivial, fun h => by omega, by first | with_reducible assumption | exact Below.drew (by with_reducible assumption)⟩
                case measure => simp [intOf]
          · have hr2 : Below W1.heap.size W1 wr.drew := below_drewN hbr 1
            go_upto_region 7 with fail
            cases b3
            · go_region_held3 (fun W => Below W1.heap.size W1 W) (first | (with_reducible assumption) | exact Below.drew (by with_reducible assumption))
                ((go_at_call 48; (with_reducible refine (Hmem.out _ (by with_reducible assumption)).mono ?_); (rintro e wA ⟨rfl, hbA⟩); (have hSA := S_call hbA (by first | (with_reducible assumption) | exact Below.drew (by with_reducible assumption)) rfl)))
              all_goals
                go_wp2
                go_ret
                exact ⟨vret_b (by rw [HF.out]; simp), bel_next hb' (by first | with_reducible assumption | exact Below.drew (by with_reducible assumption))⟩
            · go_region_held3 (fun W => Below W1.heap.size W1 W) (first | (with_reducible assumption) | exact Below.drew (by with_reducible assumption))
                ((go_at_call 48; (with_reducible refine (Hmem.out _ (by with_reducible assumption)).mono ?_); (rintro e wA ⟨rfl, hbA⟩); (have hSA := S_call hbA (by first | (with_reducible assumption) | exact Below.drew (by with_reducible assumption)) rfl)))
              all_goals
                go_wp2
                go_roundw
                case rel => exact ⟨4, by omega, by go_num, fun _ => g0 (by omega), fun _ => g1 (by omega), fun _ => g2 (by omega), fun _ => by first | rfl | trivial, by first | with_reducible assumption | exact Below.drew (by with_reducible assumption)⟩
                case measure => simp [intOf]
          · have e0 := g0 (by omega)
            have e1 := g1 (by omega)
            have e2 := g2 (by omega)
            have e3 := g3 (by omega)
            subst e0 e1 e2 e3
            clear g0 g1 g2 g3
            go_wp2
            go_ret
            exact ⟨vret_b (by rw [HF.out]; rfl), bel_next hb' hbr⟩
      · have hkn' : shKnown (q : Int) = false := by simpa using hkn
        rw [hkn'] at r0
        have HR := Lib.hid (show VT.fit (.mk (q : Int) n s cA cn cc kA kn kc keys kids) = false by rw [fit_mk, hkn']; rfl)
        clear hk0 hk7 hkn hkn' hq7
        go_enter Tryd.func40, Tryd.ntmps40
        go_wp2
        go_ret
        exact ⟨vret_b HR.out.symm, hb⟩
end Go.Proofs.YtinaecmpigenoaaDoor
/-
  Slices of whole numbers. No program in sight.
-/
namespace Go.Proofs.YtinaecmpigenoaaDoor
open Go.RowKit

/-- A whole number as a cell holds it. -/
def iv (x : Int) : Value := .int .i64 x
def nats (l : List Nat) : List Int := l.map fun (c : Nat) => (c : Int)
theorem nats_len (l : List Nat) : (nats l).length = l.length := by simp [nats]
theorem nats_snoc (l : List Nat) (c : Nat) : nats (l ++ [c]) = nats l ++ [(c : Int)] := by simp [nats]
theorem nats_inj : ∀ {l m : List Nat}, nats l = nats m → l = m
  | [], [], _ => rfl
  | [], _ :: _, h => by simp [nats] at h
  | _ :: _, [], h => by simp [nats] at h
  | a :: l, b :: m, h => by
    simp only [nats, List.map_cons, List.cons.injEq] at h
    obtain ⟨h1, h2⟩ := h
    rw [show a = b by omega, nats_inj (l := l) (m := m) h2]
theorem iv_one (l : List Int) : ∀ u ∈ l.map iv, u.oneCell' = true := by
  intro u hu
  obtain ⟨x, _, rfl⟩ := List.mem_map.1 hu
  rfl
def Ints (w : World) (B : Nat) (A : Option Addr) (n : Nat) (l : List Int) : Prop := Shows w B 1 A n (l.map iv)
section
variable {w w' : World} {B B' n : Nat} {A : Option Addr} {l : List Int}
theorem Ints.len (h : Ints w B A n l) : l.length = n := by have := h.1; simpa using this
theorem Ints.more (h : Ints w B A n l) (hB : B ≤ B') : Ints w B' A n l := Shows.more h hB
theorem Ints.below (h : Ints w B A n l) (hb : Below B w w') : Ints w' B A n l := Shows.below h hb
theorem Ints.drewN (h : Ints w B A n l) (k : Nat) : Ints (w.drewN k) B A n l := h
theorem Ints.drew (h : Ints w B A n l) : Ints w.drew B A n l := h
theorem Ints.alloc (h : Ints w B A n l) (hB : B ≤ w.heap.size) (o : Obj) : Ints (w.alloc o) B A n l := Shows.alloc h hB o
theorem Ints.first (h : Ints w B A n l) {k : Nat} (hk : k ≤ n) : Ints w B A k (l.take k) := by
  have := Shows.first h hk
  unfold Ints
  simpa [List.map_take] using this
theorem Ints.cell (h : Ints w B A n l) {k : Nat} (hk : k < n) : ∃ b off, A = some ⟨b, off, none⟩ ∧ b < B ∧ w.cell? ⟨b, off + k, none⟩ = some (.int .i64 (l.getD k 0)) := by
  obtain ⟨b, off, e, hb, hc⟩ := h.2 (by omega)
  refine ⟨b, off, e, hb, hc k _ ?_⟩
  have hl := h.len
  rw [List.getElem?_map, List.getElem?_eq_getElem (by omega), List.getD_eq_getElem?_getD, List.getElem?_eq_getElem (by omega)]
  rfl
theorem Ints.own {base : Nat} {e : TypeId} {c : Nat} (h : w.ownsRow base e 1 (.slice A n c) n (l.map iv)) : Ints w w.heap.size A n l := Shows.own h
theorem Ints.zero (A : Option Addr) : Ints w B A 0 [] := Shows.zero A
end
theorem ints_new (w : World) (l : List Int) (C : Array Value) (t : TypeId) (fr : Nat × Nat) (hC : C.toList = l.map iv) : Ints (w.alloc (.cells C t fr)) (w.heap.size + 1) (some ⟨w.heap.size, 0, none⟩) l.length l :=
  ⟨by simp, fun _ => ⟨w.heap.size, 0, rfl, by omega, fun j u hu => by
    rw [cell_of_row _ _ _ _ _ _ (heap_alloc_new w _), Nat.zero_add]
    rw [← hC] at hu
    simpa using hu⟩⟩
theorem takeI_snoc (l : List Int) (k : Nat) (h : k < l.length) : l.take (k + 1) = l.take k ++ [l.getD k 0] := by
  rw [List.take_succ_eq_append_getElem h, List.getD_eq_getElem?_getD, List.getElem?_eq_getElem h]
  rfl
theorem boxed_below {W W' : World} {B : Nat} {t : TypeId} {v : Value} (h : Boxed W B t v) (hb : Below W.heap.size W W') : Boxed W' B t v := (hb.block B h.lt).trans h
end Go.Proofs.YtinaecmpigenoaaDoor
/-
  A range over a function whose iterator writes a variable of its own: the statement opened into the iterator's one call, and a round into the body's walk; what the iterator may touch is the caller's to say. No program in sight.
-/
namespace Go.Proofs.YtinaecmpigenoaaDoor
open Go.RowKit Go.Shelf

variable {F : Fence} {n : Nat} {P : Program}

/-- The record that the statement lays. -/
def recOf (fn : FuncId) (tmps : Array Value) (ps : Array Tmp) (assign body : Code) (D : Nat) (st : LoopState) (pe : Option Code) : Loop :=
  { state := st, pending := pe, fn := fn, tmps := tmps, params := ps, assign := assign, body := body, defers := D }
/-- What follows the iterator's return, by the jump that waits. -/
def goesOn (F : Fence) (n : Nat) (P : Program) (Q : Exit → Act → World → Prop) (a : Act) (W : World) : Option Code → Prop
  | none => Q .normal a W
  | some c => c.wpIn F n P Q a W

theorem range_open {g : Operand} {ps : Array Tmp} {assign body : Code} {Q : Exit → Act → World → Prop} {a : Act} {w : World} {gf : Nat} {lb : Array Value}
    (hro : F.round = none) (h1 : 1 ≤ n) (hg : a.eval g = .func (.func gf) #[] lb) (hFg : F.fn gf) (eg : ∀ args w, (callFunc gf args).run P w = .ok (.enter gf args) w)
    (hcall : ∀ fn, F.fn fn → CallsIn F (n - 1) P gf (#[.func (.yield (w.heap.size + 1)) #[] #[]] ++ lb) ((w.alloc (.deferred (some []))).alloc (.loop (recOf fn a.tmps ps assign body w.heap.size .ready none)))
      fun e B => (∃ v, e = .returned v) ∧ ∃ st pe, B.heap[w.heap.size + 1]? = some (.loop (recOf fn a.tmps ps assign body w.heap.size st pe)) ∧ st ≠ .busy ∧
        goesOn F n P Q { a with defers := { target := .collected w.heap.size, args := #[] } :: a.defers } (B.putObj (w.heap.size + 1) (.loop (recOf fn a.tmps ps assign body w.heap.size .exhausted pe))) pe) :
    (Code.rangeFunc g ps assign body).wpIn F n P Q a w := by
  refine wpIn_rangeFunc fun fn hfn => ?_
  rw [hro]
  refine ⟨_, _, _, { target := .fn (.func gf) lb, args := #[.func (.yield (w.heap.size + 1)) #[] #[]] }, (w.alloc (.deferred (some []))).alloc (.loop (recOf fn a.tmps ps assign body w.heap.size .ready none)), gf, _, _, run_enterLoop_outer fn a.tmps ps assign body, ?_, ?_, ?_, fun _ => h1, (hcall fn hfn).mono ?_⟩
  · simp only [resolve, hg]
    simp [go_sem, recOf]
  · intro f' hf'
    simp [Target.leads] at hf'
    subst hf'
    exact hFg
  · simp [invoke, go_sem, eg]
  · rintro e B ⟨⟨v, rfl⟩, st, pe, hl, hb, hgo⟩
    refine ⟨pe, _, run_endLoop hl hb, ?_⟩
    cases pe <;> exact hgo

/-- How a round may be left, and what then holds. -/
def roundEnd (l : Nat) (r : Option Code → LoopState → Loop) (R : Ending → World → Prop) : Exit → Act → World → Prop
  | .normal, _, W => W.heap[l]? = some (.loop (r none .busy)) ∧ R (.returned (.bool true)) (W.putObj l (.loop (r none .ready)))
  | .exit id, _, W => W.heap[l]? = some (.loop (r none .busy)) ∧ R (.returned (.bool false)) (W.putObj l (.loop (r (some (.exit id)) .done)))
  | _, _, _ => False
theorem round_open {m l : Nat} {fn : FuncId} {tmps : Array Value} {ps : Array Tmp} {assign body : Code} {D : Nat} {args : Array Value} {W : World} {R : Ending → World → Prop} (hF : F.fn fn)
    (hl : W.heap[l]? = some (.loop (recOf fn tmps ps assign body D .ready none))) (hs : args.size = ps.size)
    (h : assign.wpIn (F.inRound l) m P (Exit.then (fun a' W2 => W2.heap[l]? = some (.loop (recOf fn tmps ps assign body D .ready none)) ∧
        body.wpIn (F.inRound l) m P (roundEnd l (fun pe st => recOf fn tmps ps assign body D st pe) R) a' (W2.putObj l (.loop (recOf fn tmps ps assign body D .busy none)))) (fun _ _ _ => False))
      { tmps := (ps.zip args).foldl (fun t (p, v) => t.setIfInBounds p v) tmps, defers := [] } W) :
    YieldAt F m P l args W R := by
  refine ⟨fn, _, assign, body, run_yield hl hs, roundIn_of_wpIn hF (wpIn_mono h ?_)⟩
  intro e a' W2 he
  cases e with
  | normal =>
    obtain ⟨h2, hb⟩ := he
    refine ⟨_, run_beginRound h2 rfl, wpIn_mono hb ?_⟩
    intro e3 a3 W3 h3
    cases e3 with
    | normal => exact ⟨_, _, run_endRound none h3.1, h3.2⟩
    | exit id => exact ⟨_, _, run_endRound (some (.exit id)) h3.1, h3.2⟩
    | ret => exact h3.elim
    | goto t => exact h3.elim
    | panic ch => exact h3.elim
    | outgrown => exact h3.elim
  | ret => exact he.elim
  | exit id => exact he.elim
  | goto t => exact he.elim
  | panic ch => exact he.elim
  | outgrown => exact he.elim
end Go.Proofs.YtinaecmpigenoaaDoor
/-
  Layer 4: the nodes of a value, from the outside in: an iterator that calls itself.
-/
namespace Go.Proofs.YtinaecmpigenoaaDoor
open Go.RowKit Go.Shelf
attribute [local go_sem] Oper.semAt_some
set_option linter.unusedVariables false

/-- Whatever lies from a block on stays as it is; there may be more. -/
def Keep (n : Nat) (W W' : World) : Prop := W.heap.size ≤ W'.heap.size ∧ ∀ b, n ≤ b → b < W.heap.size → W'.heap[b]? = W.heap[b]?
theorem Keep.refl (n : Nat) (W : World) : Keep n W W := ⟨Nat.le_refl _, fun _ _ _ => rfl⟩
theorem Keep.trans {n : Nat} {A B C : World} (h : Keep n A B) (k : Keep n B C) : Keep n A C := ⟨Nat.le_trans h.1 k.1, fun b hb hl => (k.2 b hb (Nat.lt_of_lt_of_le hl h.1)).trans (h.2 b hb hl)⟩
theorem Keep.of_below {n : Nat} {W W' : World} (h : Below W.heap.size W W') : Keep n W W' := ⟨h.size, fun b _ hl => h.block b hl⟩
theorem Keep.cell {n : Nat} {W W' : World} (h : Keep n W W') {b o : Nat} {v : Value} (hb : n ≤ b) (hc : W.cell? ⟨b, o, none⟩ = some v) : W'.cell? ⟨b, o, none⟩ = some v := by
  have hl := World.block_lt_of_cell? W _ hc
  have := h.2 b hb hl
  simp only [World.cell?] at hc ⊢
  rw [this]; exact hc
theorem nodes_split {k n : Int} {s : ByteArray} {cA : Option Addr} {cn cc : Nat} {kA : Option Addr} {kn kc : Nat} {keys : List ByteArray} {kids : List VT} (o j : Nat) {x : VT} (hx : kids[j]? = some x) :
    (VT.mk k n s cA cn cc kA kn kc keys kids).nodesL o = ((o + hN (k == 5 || k == 6), VT.mk k n s cA cn cc kA kn kc keys kids) :: (kids.take j).flatMap fun x => x.nodesL (o + hN (k == 5 || k == 6))) ++ (x.nodesL (o + hN (k == 5 || k == 6)) ++ (kids.drop (j + 1)).flatMap fun x => x.nodesL (o + hN (k == 5 || k == 6))) := by
  have hj := (List.getElem?_eq_some_iff.1 hx).1
  have hx' := (List.getElem?_eq_some_iff.1 hx).2
  have e : kids = kids.take j ++ (x :: kids.drop (j + 1)) := by
    have := List.take_append_drop j kids
    rw [List.drop_eq_getElem_cons hj, hx'] at this
    exact this.symm
  rw [nodes_mk, List.cons_append]
  congr 1
  have := congrArg (fun l => l.flatMap fun x : VT => x.nodesL (o + hN (k == 5 || k == 6))) e
  simp only [List.flatMap_append, List.flatMap_cons] at this
  exact this
theorem take_flat {α β : Type} (f : α → List β) (l : List α) (j : Nat) {x : α} (hx : l[j]? = some x) : (l.take (j + 1)).flatMap f = (l.take j).flatMap f ++ f x := by
  have hj := (List.getElem?_eq_some_iff.1 hx).1
  have hx' := (List.getElem?_eq_some_iff.1 hx).2
  rw [List.take_succ_eq_append_getElem hj, List.flatMap_append, hx']
  simp

/-- What the walk over a tree tells and leaves. -/
def WPost (J : List (Nat × VT) → World → Prop) (Jx : World → Prop) (n₁ : Nat) (pre L : List (Nat × VT)) (W : World) (e : Ending) (W' : World) : Prop :=
  e = .returned (.bool (passes pre L)) ∧ (passes pre L = true → J (pre ++ L) W') ∧ (passes pre L = false → Jx W') ∧ Keep n₁ W W'
def YPost (J : List (Nat × VT) → World → Prop) (Jx : World → Prop) (n₁ : Nat) (pre : List (Nat × VT)) (x : Nat × VT) (W : World) (e : Ending) (W' : World) : Prop :=
  e = .returned (.bool (stepOK pre x)) ∧ (stepOK pre x = true → J (pre ++ [x]) W') ∧ (stepOK pre x = false → Jx W') ∧ Keep n₁ W W'
theorem WPost.yes {J : List (Nat × VT) → World → Prop} {Jx : World → Prop} {n₁ : Nat} {pre L : List (Nat × VT)} {W W' : World} (h : passes pre L = true) (hj : J (pre ++ L) W') (hk : Keep n₁ W W') : WPost J Jx n₁ pre L W (.returned (.bool true)) W' :=
  ⟨by rw [h], fun _ => hj, fun e => (by rw [h] at e; cases e), hk⟩
theorem WPost.no {J : List (Nat × VT) → World → Prop} {Jx : World → Prop} {n₁ : Nat} {pre L : List (Nat × VT)} {W W' : World} (h : passes pre L = false) (hj : Jx W') (hk : Keep n₁ W W') : WPost J Jx n₁ pre L W (.returned (.bool false)) W' :=
  ⟨by rw [h], fun e => (by rw [h] at e; cases e), fun _ => hj, hk⟩
theorem step_le {L : List (Nat × VT)} {d : Nat} {T : VT} (h : stepOK L (d, T) = true) : d ≤ 8 := by
  unfold stepOK at h
  rw [Bool.and_eq_true, decide_eq_true_eq, mdL_snoc] at h
  have := h.1
  simp only at this
  omega
set_option maxRecDepth 100000 in
set_option maxHeartbeats 4000000 in
theorem vwalk_any (ln By Bw n₁ n₀ : Nat) (w0 : World) (J : List (Nat × VT) → World → Prop) (Jx : World → Prop)
    (hJ1 : ∀ pre W W', J pre W → Below W.heap.size W W' → J pre W')
    (hJ2 : ∀ pre W, J pre W → Below n₀ w0 W ∧ n₀ ≤ W.heap.size ∧ n₁ ≤ W.heap.size ∧ W.cell? ⟨By, 0, none⟩ = some (.func (.yield ln) #[] #[]) ∧ W.cell? ⟨Bw, 0, none⟩ = some (.func (.func 43) #[] #[.pointer (some ⟨By, 0, none⟩), .pointer (some ⟨Bw, 0, none⟩)]))
    (hY : ∀ m pre (d : Nat) (T : VT) W, J pre W → Lie w0 n₀ T → d ≤ 9 → YieldAt Fence.wide m Tryd.prog ln #[.int .i64 (d : Int), T.agg] W (YPost J Jx n₁ pre (d, T) W)) :
    ∀ T, Lie w0 n₀ T → ∀ outer, outer ≤ 8 → ∀ pre W, J pre W →
      Calls Tryd.prog 43 #[T.agg, .int .i64 (outer : Nat), .pointer (some ⟨By, 0, none⟩), .pointer (some ⟨Bw, 0, none⟩)] W (WPost J Jx n₁ pre (T.nodesL outer) W) := by
  intro T
  induction T using VT.ind with
  | h k n s cA cn cc kA kn kc keys kids ih =>
    intro hL outer ho pre W hJ
    have hL' := hL
    obtain ⟨hc, hk, hz, hkid⟩ := hL'
    have hcl := kids_len hc
    obtain ⟨d, hd⟩ : ∃ d, d = outer + hN (k == 5 || k == 6) := ⟨_, rfl⟩
    have hd9 : d ≤ 9 := by rw [hd]; unfold hN; split <;> omega
    have Hd := Lib.hid hd
    refine (callsIn_wide (n := 6)).1 ?_
    refine callsIn_of_wp Tryd.func43 rfl trivial ?_ rfl
    simp only [VT.agg, Tryd.ntmps43, List.size_toArray, List.length_cons, List.length_nil, Nat.reduceAdd, Nat.reduceSub, Array.replicate_succ, Array.replicate_zero, List.push_toArray, List.append_toArray, List.nil_append, List.cons_append]
    have hJ0 := hJ1 _ _ _ hJ (bel_alloc (Below.refl W.heap.size W) (.cells #[.int .i64 k, .int .i64 n, .string s, .slice cA cn cc, .slice kA kn kc] 39))
    gi_wp2_with fail
    refine ⟨trivial, (callsIn_wide.2 (vholder_any k (.int .i64 n) (.string s) (.slice cA cn cc) (.slice kA kn kc) _)).mono ?_⟩
    rintro e W1 ⟨rfl, hb1⟩
    have hJ3 := hJ1 _ _ _ hJ0 hb1
    have hK1 : Keep n₁ W W1 := (Keep.of_below (bel_alloc (Below.refl _ _) _)).trans (Keep.of_below hb1)
    obtain ⟨j1, j2, j3, j4, j5⟩ := hJ2 _ _ hJ3
    have bx : ∀ j u, (#[Value.int .i64 k, .int .i64 n, .string s, .slice cA cn cc, .slice kA kn kc] : Array Value)[j]? = some u → W1.cell? ⟨W.heap.size, j, none⟩ = some u := fun j u hu => new_later hb1 j hu
    have b0 : W1.cell? ⟨W.heap.size, 0, none⟩ = some (.int .i64 k) := bx 0 _ rfl
    have b1 : W1.cell? ⟨W.heap.size, 1, none⟩ = some (.int .i64 n) := bx 1 _ rfl
    have b2 : W1.cell? ⟨W.heap.size, 2, none⟩ = some (.string s) := bx 2 _ rfl
    have b3 : W1.cell? ⟨W.heap.size, 3, none⟩ = some (.slice cA cn cc) := bx 3 _ rfl
    have b4 : W1.cell? ⟨W.heap.size, 4, none⟩ = some (.slice kA kn kc) := bx 4 _ rfl
    have hn1W : n₁ ≤ W.heap.size := (hJ2 _ _ hJ).2.2.1
    have HK1 := Lib.hid hK1
    clear bx hK1 hJ hJ0
    have Hsplit := Lib.hid (fun (j : Nat) (x : VT) (hx : kids[j]? = some x) => nodes_split (k := k) (n := n) (s := s) (cA := cA) (cn := cn) (cc := cc) (kA := kA) (kn := kn) (kc := kc) (keys := keys) (kids := kids) outer j hx)
    have Hnodes := Lib.hid (nodes_mk k n s cA cn cc kA kn kc keys kids outer)
    rw [← hd] at Hsplit Hnodes
    have Hpre := Lib.hid (show stepOK pre (d, (.mk k n s cA cn cc kA kn kc keys kids)) = false → passes pre ((VT.mk k n s cA cn cc kA kn kc keys kids).nodesL outer) = false from fun h => by rw [Hnodes.out, passes, h]; rfl)
    generalize hNL : (VT.mk k n s cA cn cc kA kn kc keys kids).nodesL outer = NL at *
    clear hNL
    cases hh : (k == 5 || k == 6)
    · rw [hh, show hN false = 0 from rfl, Nat.add_zero] at hd
      subst hd
      clear Hd hh
      obtain ⟨fn, tmps, assign, body, hy, hR0⟩ := hY 5 pre d (.mk k n s cA cn cc kA kn kc keys kids) W1 hJ3 hL hd9
      simp only [VT.agg] at hy
      cases hs : stepOK pre (d, (VT.mk k n s cA cn cc kA kn kc keys kids))
      · have HP := Lib.hid (Hpre.out hs)
        have hR := hR0.mono (R' := fun e W' => e = .returned (.bool false) ∧ Jx W' ∧ Keep n₁ W1 W') (fun e W' h => ⟨by rw [h.1, hs], h.2.2.1 hs, h.2.2.2⟩)
        clear hJ1 hJ2 hY ih hJ3 hL hc hk hz hkid hb1 hs hn1W hR0 Hpre
        gi_wp2
        refine hR.mono ?_
        rintro e W3 ⟨rfl, hx, hK⟩
        gi_wp2
        go_ret
        exact WPost.no HP.out hx (HK1.out.trans hK)
      · have hR := hR0.mono (R' := fun e W' => e = .returned (.bool true) ∧ J (pre ++ [(d, (VT.mk k n s cA cn cc kA kn kc keys kids))]) W' ∧ Keep n₁ W1 W') (fun e W' h => ⟨by rw [h.1, hs], h.2.1 hs, h.2.2.2⟩)
        have hd8 := step_le hs
        have Hs := Lib.hid (show passes pre ((d, VT.mk k n s cA cn cc kA kn kc keys kids) :: (kids.take 0).flatMap fun x => x.nodesL d) = true by rw [passes, hs]; simp [passes])
        clear hs hR0 Hpre hJ3 hY hk hb1
        gi_wp2
        refine hR.mono ?_
        rintro e W3 ⟨rfl, hj3, hK⟩
        have c3 := hK.cell hn1W b3
        have HK3 := HK1.out.trans hK
        have hcn := Nat.le_trans hz.c1 hz.c2
        unfold maxLen at hcn
        clear hz b0 b1 b2 b3 b4 j1 j2 j3 j4 j5 hK hR hy
        gi_wp2
        gi_loopw [23] (fun i wr => ∃ j : Nat, j ≤ cn ∧ i = .int .i64 j ∧ Hid (passes pre ((d, VT.mk k n s cA cn cc kA kn kc keys kids) :: (kids.take j).flatMap fun x => x.nodesL d) = true) ∧ J (pre ++ ((d, VT.mk k n s cA cn cc kA kn kc keys kids) :: (kids.take j).flatMap fun x => x.nodesL d)) wr ∧ Keep n₁ W wr) (fun i _ => cn - (intOf i).toNat)
        case atStart => exact ⟨0, by omega, rfl, Hs, by simpa using hj3, HK3⟩
        case round =>
          obtain ⟨j, hj, rfl, Hp, hjr, hkr⟩ := hrel
          by_cases hlt : j < cn
          · have hlt' : (j : Int) < cn := by omega
            have hj0 : (0 : Int) ≤ j := by omega
            obtain ⟨i1, i2, i3, i4, i5⟩ := hJ2 _ _ hjr
            obtain ⟨b, off, x, hcA, hbB, hx, hfive⟩ := kids_at (hc.below i1) hlt
            have hxm := List.mem_of_getElem? hx
            have Hsp := Hsplit.out j x hx
            have Htk := take_flat (fun x : VT => x.nodesL d) kids j hx
            have hJn := fun o => hJ1 _ _ _ hjr (bel_alloc (Below.refl wr.heap.size wr) o)
            have Hno := Lib.hid (fun h : passes (pre ++ ((d, VT.mk k n s cA cn cc kA kn kc keys kids) :: (kids.take j).flatMap fun x => x.nodesL d)) (x.nodesL d) = false => show passes pre NL = false by rw [Hsp, passes_append, Hp.out, passes_append, h]; rfl)
            have e1 : ((d, VT.mk k n s cA cn cc kA kn kc keys kids) :: (kids.take (j + 1)).flatMap fun x => x.nodesL d) = ((d, VT.mk k n s cA cn cc kA kn kc keys kids) :: (kids.take j).flatMap fun x => x.nodesL d) ++ x.nodesL d := by rw [Htk]; rfl
            have Hyes := Lib.hid (fun h : passes (pre ++ ((d, VT.mk k n s cA cn cc kA kn kc keys kids) :: (kids.take j).flatMap fun x => x.nodesL d)) (x.nodesL d) = true => show passes pre ((d, VT.mk k n s cA cn cc kA kn kc keys kids) :: (kids.take (j + 1)).flatMap fun x => x.nodesL d) = true by rw [e1, passes_append, Hp.out, h]; rfl)
            have HJs := Lib.hid (fun (W : World) (h : J ((pre ++ ((d, VT.mk k n s cA cn cc kA kn kc keys kids) :: (kids.take j).flatMap fun x => x.nodesL d)) ++ x.nodesL d) W) => show J (pre ++ ((d, VT.mk k n s cA cn cc kA kn kc keys kids) :: (kids.take (j + 1)).flatMap fun x => x.nodesL d)) W by rw [e1, ← List.append_assoc]; exact h)
            have hcall := fun W' hJ' => ih x hxm (hkid x hxm) d hd8 (pre ++ ((d, VT.mk k n s cA cn cc kA kn kc keys kids) :: (kids.take j).flatMap fun x => x.nodesL d)) W' hJ'
            have HN := Lib.hid (show True from trivial)
            subst hcA
            clear Hsp Htk e1 hjr HN hJ1 hJ2 ih hc hkid Hsplit Hnodes Hp
            generalize hXL : x.nodesL d = XL at *
            clear hXL
            generalize pre ++ ((d, VT.mk k n s (some ⟨b, off, none⟩) cn cc kA kn kc keys kids) :: (kids.take j).flatMap fun x => x.nodesL d) = PA at *
            obtain ⟨xk, xn, xs, xcA, xcn, xcc, xkA, xkn, xkc, xkeys, xkids⟩ := x
            obtain ⟨f0, f1, f2, f3, f4⟩ := hfive
            simp only [VT.agg] at hcall
            have i5' := cell_keep i5 (.cells #[.int .i64 xk, .int .i64 xn, .string xs, .slice xcA xcn xcc, .slice xkA xkn xkc] 39)
            cases hp : passes PA XL
            · have HF := Lib.hid (Hno.out hp)
              have hcall2 := fun W' hJ' => (hcall W' hJ').mono (R' := fun e W2 => e = .returned (.bool false) ∧ Jx W2 ∧ Keep n₁ W' W2) (fun e W2 h => ⟨by rw [h.1, hp], h.2.2.1 hp, h.2.2.2⟩)
              clear hcall Hno Hyes HJs hp
              gi_wp2_with fail
              refine ⟨trivial, (callsIn_wide.2 (hcall2 _ (hJn _))).mono ?_⟩
              rintro e W5 ⟨rfl, hx5, hk5⟩
              gi_wp2
              go_ret
              exact WPost.no HF.out hx5 (hkr.trans ((Keep.of_below (bel_alloc (Below.refl _ _) _)).trans hk5))
            · have HT := Lib.hid (Hyes.out hp)
              have hcall2 := fun W' hJ' => (hcall W' hJ').mono (R' := fun e W2 => e = .returned (.bool true) ∧ J (PA ++ XL) W2 ∧ Keep n₁ W' W2) (fun e W2 h => ⟨by rw [h.1, hp], h.2.1 hp, h.2.2.2⟩)
              clear hcall Hno Hyes hp
              gi_wp2_with fail
              refine ⟨trivial, (callsIn_wide.2 (hcall2 _ (hJn _))).mono ?_⟩
              rintro e W5 ⟨rfl, hx5, hk5⟩
              have Hj5 := Lib.hid (HJs.out W5 hx5)
              clear hx5 hcall2 hJn
              gi_wp2
              go_roundw
              case rel => exact ⟨j + 1, by omega, by go_num, HT, Hj5.out, hkr.trans ((Keep.of_below (bel_alloc (Below.refl _ _) _)).trans hk5)⟩
              case measure => simp [intOf]; omega
          · have hjn : j = cn := by omega
            have HF : Hid (passes pre NL = true) := Lib.hid (by have h0 := Hp.out; rw [List.take_of_length_le (l := kids) (i := j) (by omega)] at h0; rw [Hnodes.out]; exact h0)
            have HJ : Hid (J (pre ++ NL) wr) := Lib.hid (by have h0 := hjr; rw [List.take_of_length_le (l := kids) (i := j) (by omega)] at h0; rw [Hnodes.out]; exact h0)
            subst hjn
            clear hJ1 hJ2 ih hc hkid hjr Hsplit Hnodes
            gi_wp2
            go_ret
            exact WPost.yes HF.out HJ.out hkr
    · rw [hh, show hN true = 1 from rfl] at hd
      have hdi : (outer : Int) + 1 = (d : Int) := by omega
      clear hd
      clear Hd hh
      obtain ⟨fn, tmps, assign, body, hy, hR0⟩ := hY 5 pre d (.mk k n s cA cn cc kA kn kc keys kids) W1 hJ3 hL hd9
      simp only [VT.agg] at hy
      cases hs : stepOK pre (d, (VT.mk k n s cA cn cc kA kn kc keys kids))
      · have HP := Lib.hid (Hpre.out hs)
        have hR := hR0.mono (R' := fun e W' => e = .returned (.bool false) ∧ Jx W' ∧ Keep n₁ W1 W') (fun e W' h => ⟨by rw [h.1, hs], h.2.2.1 hs, h.2.2.2⟩)
        clear hJ1 hJ2 hY ih hJ3 hL hc hk hz hkid hb1 hs hn1W hR0 Hpre
        gi_wp2
        refine hR.mono ?_
        rintro e W3 ⟨rfl, hx, hK⟩
        gi_wp2
        go_ret
        exact WPost.no HP.out hx (HK1.out.trans hK)
      · have hR := hR0.mono (R' := fun e W' => e = .returned (.bool true) ∧ J (pre ++ [(d, (VT.mk k n s cA cn cc kA kn kc keys kids))]) W' ∧ Keep n₁ W1 W') (fun e W' h => ⟨by rw [h.1, hs], h.2.1 hs, h.2.2.2⟩)
        have hd8 := step_le hs
        have Hs := Lib.hid (show passes pre ((d, VT.mk k n s cA cn cc kA kn kc keys kids) :: (kids.take 0).flatMap fun x => x.nodesL d) = true by rw [passes, hs]; simp [passes])
        clear hs hR0 Hpre hJ3 hY hk hb1
        gi_wp2
        refine hR.mono ?_
        rintro e W3 ⟨rfl, hj3, hK⟩
        have c3 := hK.cell hn1W b3
        have HK3 := HK1.out.trans hK
        have hcn := Nat.le_trans hz.c1 hz.c2
        unfold maxLen at hcn
        clear hz b0 b1 b2 b3 b4 j1 j2 j3 j4 j5 hK hR hy
        gi_wp2
        gi_loopw [23] (fun i wr => ∃ j : Nat, j ≤ cn ∧ i = .int .i64 j ∧ Hid (passes pre ((d, VT.mk k n s cA cn cc kA kn kc keys kids) :: (kids.take j).flatMap fun x => x.nodesL d) = true) ∧ J (pre ++ ((d, VT.mk k n s cA cn cc kA kn kc keys kids) :: (kids.take j).flatMap fun x => x.nodesL d)) wr ∧ Keep n₁ W wr) (fun i _ => cn - (intOf i).toNat)
        case atStart => exact ⟨0, by omega, rfl, Hs, by simpa using hj3, HK3⟩
        case round =>
          obtain ⟨j, hj, rfl, Hp, hjr, hkr⟩ := hrel
          by_cases hlt : j < cn
          · have hlt' : (j : Int) < cn := by omega
            have hj0 : (0 : Int) ≤ j := by omega
            obtain ⟨i1, i2, i3, i4, i5⟩ := hJ2 _ _ hjr
            obtain ⟨b, off, x, hcA, hbB, hx, hfive⟩ := kids_at (hc.below i1) hlt
            have hxm := List.mem_of_getElem? hx
            have Hsp := Hsplit.out j x hx
            have Htk := take_flat (fun x : VT => x.nodesL d) kids j hx
            have hJn := fun o => hJ1 _ _ _ hjr (bel_alloc (Below.refl wr.heap.size wr) o)
            have Hno := Lib.hid (fun h : passes (pre ++ ((d, VT.mk k n s cA cn cc kA kn kc keys kids) :: (kids.take j).flatMap fun x => x.nodesL d)) (x.nodesL d) = false => show passes pre NL = false by rw [Hsp, passes_append, Hp.out, passes_append, h]; rfl)
            have e1 : ((d, VT.mk k n s cA cn cc kA kn kc keys kids) :: (kids.take (j + 1)).flatMap fun x => x.nodesL d) = ((d, VT.mk k n s cA cn cc kA kn kc keys kids) :: (kids.take j).flatMap fun x => x.nodesL d) ++ x.nodesL d := by rw [Htk]; rfl
            have Hyes := Lib.hid (fun h : passes (pre ++ ((d, VT.mk k n s cA cn cc kA kn kc keys kids) :: (kids.take j).flatMap fun x => x.nodesL d)) (x.nodesL d) = true => show passes pre ((d, VT.mk k n s cA cn cc kA kn kc keys kids) :: (kids.take (j + 1)).flatMap fun x => x.nodesL d) = true by rw [e1, passes_append, Hp.out, h]; rfl)
            have HJs := Lib.hid (fun (W : World) (h : J ((pre ++ ((d, VT.mk k n s cA cn cc kA kn kc keys kids) :: (kids.take j).flatMap fun x => x.nodesL d)) ++ x.nodesL d) W) => show J (pre ++ ((d, VT.mk k n s cA cn cc kA kn kc keys kids) :: (kids.take (j + 1)).flatMap fun x => x.nodesL d)) W by rw [e1, ← List.append_assoc]; exact h)
            have hcall := fun W' hJ' => ih x hxm (hkid x hxm) d hd8 (pre ++ ((d, VT.mk k n s cA cn cc kA kn kc keys kids) :: (kids.take j).flatMap fun x => x.nodesL d)) W' hJ'
            have HN := Lib.hid (show True from trivial)
            subst hcA
            clear Hsp Htk e1 hjr HN hJ1 hJ2 ih hc hkid Hsplit Hnodes Hp
            generalize hXL : x.nodesL d = XL at *
            clear hXL
            generalize pre ++ ((d, VT.mk k n s (some ⟨b, off, none⟩) cn cc kA kn kc keys kids) :: (kids.take j).flatMap fun x => x.nodesL d) = PA at *
            obtain ⟨xk, xn, xs, xcA, xcn, xcc, xkA, xkn, xkc, xkeys, xkids⟩ := x
            obtain ⟨f0, f1, f2, f3, f4⟩ := hfive
            simp only [VT.agg] at hcall
            have i5' := cell_keep i5 (.cells #[.int .i64 xk, .int .i64 xn, .string xs, .slice xcA xcn xcc, .slice xkA xkn xkc] 39)
            cases hp : passes PA XL
            · have HF := Lib.hid (Hno.out hp)
              have hcall2 := fun W' hJ' => (hcall W' hJ').mono (R' := fun e W2 => e = .returned (.bool false) ∧ Jx W2 ∧ Keep n₁ W' W2) (fun e W2 h => ⟨by rw [h.1, hp], h.2.2.1 hp, h.2.2.2⟩)
              clear hcall Hno Hyes HJs hp
              gi_wp2_with fail
              refine ⟨trivial, (callsIn_wide.2 (hcall2 _ (hJn _))).mono ?_⟩
              rintro e W5 ⟨rfl, hx5, hk5⟩
              gi_wp2
              go_ret
              exact WPost.no HF.out hx5 (hkr.trans ((Keep.of_below (bel_alloc (Below.refl _ _) _)).trans hk5))
            · have HT := Lib.hid (Hyes.out hp)
              have hcall2 := fun W' hJ' => (hcall W' hJ').mono (R' := fun e W2 => e = .returned (.bool true) ∧ J (PA ++ XL) W2 ∧ Keep n₁ W' W2) (fun e W2 h => ⟨by rw [h.1, hp], h.2.1 hp, h.2.2.2⟩)
              clear hcall Hno Hyes hp
              gi_wp2_with fail
              refine ⟨trivial, (callsIn_wide.2 (hcall2 _ (hJn _))).mono ?_⟩
              rintro e W5 ⟨rfl, hx5, hk5⟩
              have Hj5 := Lib.hid (HJs.out W5 hx5)
              clear hx5 hcall2 hJn
              gi_wp2
              go_roundw
              case rel => exact ⟨j + 1, by omega, by go_num, HT, Hj5.out, hkr.trans ((Keep.of_below (bel_alloc (Below.refl _ _) _)).trans hk5)⟩
              case measure => simp [intOf]; omega
          · have hjn : j = cn := by omega
            have HF : Hid (passes pre NL = true) := Lib.hid (by have h0 := Hp.out; rw [List.take_of_length_le (l := kids) (i := j) (by omega)] at h0; rw [Hnodes.out]; exact h0)
            have HJ : Hid (J (pre ++ NL) wr) := Lib.hid (by have h0 := hjr; rw [List.take_of_length_le (l := kids) (i := j) (by omega)] at h0; rw [Hnodes.out]; exact h0)
            subst hjn
            clear hJ1 hJ2 ih hc hkid hjr Hsplit Hnodes
            gi_wp2
            go_ret
            exact WPost.yes HF.out HJ.out hkr
end Go.Proofs.YtinaecmpigenoaaDoor
/-
  Layer 4: nodes, measure.
-/
namespace Go.Proofs.YtinaecmpigenoaaDoor
open Go.RowKit Go.Shelf
attribute [local go_sem] Oper.semAt_some
set_option linter.unusedVariables false

set_option maxRecDepth 20000 in
theorem vnodes_any (k n : Int) (s : ByteArray) (cA : Option Addr) (cn cc : Nat) (kA : Option Addr) (kn kc : Nat) (w : World) :
    Calls Tryd.prog 39 #[.agg #[.int .i64 k, .int .i64 n, .string s, .slice cA cn cc, .slice kA kn kc]] w fun e w' => e = .returned (.func (.func 42) #[] #[.pointer (some ⟨w.heap.size, 0, none⟩)]) ∧ w.alloc (.cells #[.int .i64 k, .int .i64 n, .string s, .slice cA cn cc, .slice kA kn kc] 39) = w' := by
  go_enter Tryd.func39, Tryd.ntmps39
  go_wp2
  go_ret
  exact ⟨by simp, rfl⟩

def NPost (J : List (Nat × VT) → World → Prop) (Jx : World → Prop) (T : VT) (e : Ending) (W' : World) : Prop := (∃ v, e = .returned v) ∧ (T.ok = true → J (T.nodesL 0) W') ∧ (T.ok = false → Jx W')
set_option maxRecDepth 100000 in
set_option maxHeartbeats 2000000 in
theorem vnodes1_any (ln Bv n₁ n₀ : Nat) (w0 : World) (J : List (Nat × VT) → World → Prop) (Jx : World → Prop) (T : VT) (hL : Lie w0 n₀ T)
    (hJ1 : ∀ pre W W', J pre W → Below W.heap.size W W' → J pre W')
    (hJ2 : ∀ pre W, J pre W → Below n₀ w0 W ∧ n₀ ≤ W.heap.size)
    (hY : ∀ m pre (d : Nat) (T : VT) W, J pre W → Lie w0 n₀ T → d ≤ 9 → YieldAt Fence.wide m Tryd.prog ln #[.int .i64 (d : Int), T.agg] W (YPost J Jx n₁ pre (d, T) W))
    (W : World) (h0 : J [] W) (hn : n₁ ≤ W.heap.size) (hv : Cell5 W Bv 0 T) :
    Calls Tryd.prog 42 #[.func (.yield ln) #[] #[], .pointer (some ⟨Bv, 0, none⟩)] W (NPost J Jx T) := by
  have hw := fun W' (hJ : J [] W') (hn' : n₁ ≤ W'.heap.size) (hB : W.heap.size ≤ W'.heap.size) (c1 : W'.cell? ⟨W.heap.size, 0, none⟩ = some (.func (.yield ln) #[] #[])) (c2 : W'.cell? ⟨W.heap.size + 1, 0, none⟩ = some (.func (.func 43) #[] #[.pointer (some ⟨W.heap.size, 0, none⟩), .pointer (some ⟨W.heap.size + 1, 0, none⟩)])) =>
    vwalk_any ln W.heap.size (W.heap.size + 1) n₁ n₀ w0 (fun pre X => J pre X ∧ n₁ ≤ X.heap.size ∧ X.cell? ⟨W.heap.size, 0, none⟩ = some (.func (.yield ln) #[] #[]) ∧ X.cell? ⟨W.heap.size + 1, 0, none⟩ = some (.func (.func 43) #[] #[.pointer (some ⟨W.heap.size, 0, none⟩), .pointer (some ⟨W.heap.size + 1, 0, none⟩)])) Jx
      (fun pre X X' h hb => ⟨hJ1 _ _ _ h.1 hb, Nat.le_trans h.2.1 hb.size, kept_later hb h.2.2.1, kept_later hb h.2.2.2⟩)
      (fun pre X h => ⟨(hJ2 _ _ h.1).1, (hJ2 _ _ h.1).2, h.2.1, h.2.2.1, h.2.2.2⟩)
      (fun m pre d T' X h hL' hd => by
        obtain ⟨fn, tmps, assign, body, hy, hR⟩ := hY m pre d T' X h.1 hL' hd
        exact ⟨fn, tmps, assign, body, hy, hR.mono fun e X' hp => ⟨hp.1, fun hs => ⟨hp.2.1 hs, Nat.le_trans h.2.1 hp.2.2.2.1, hp.2.2.2.cell hn h.2.2.1, hp.2.2.2.cell (Nat.le_succ_of_le hn) h.2.2.2⟩, hp.2.2.1, hp.2.2.2⟩⟩)
      T hL 0 (by omega) [] W' ⟨hJ, hn', c1, c2⟩
  have hJn := fun o o' => hJ1 _ _ _ h0 (bel_alloc (bel_alloc (Below.refl W.heap.size W) o) o')
  have hpo := passes_ok T
  cases T with
  | mk k n s cA cn cc kA kn kc keys kids =>
    obtain ⟨f0, f1, f2, f3, f4⟩ := hv
    simp only [VT.agg, Nat.zero_add] at hw f1 f2 f3 f4
    have g0 := cell_keep (cell_keep f0 (.cells #[.func (.yield ln) #[] #[]] 87)) (.cells #[.func (.func 43) #[] #[.pointer (some ⟨W.heap.size, 0, none⟩), .pointer (some ⟨W.heap.size + 1, 0, none⟩)]] 88)
    have g1 := cell_keep (cell_keep f1 (.cells #[.func (.yield ln) #[] #[]] 87)) (.cells #[.func (.func 43) #[] #[.pointer (some ⟨W.heap.size, 0, none⟩), .pointer (some ⟨W.heap.size + 1, 0, none⟩)]] 88)
    have g2 := cell_keep (cell_keep f2 (.cells #[.func (.yield ln) #[] #[]] 87)) (.cells #[.func (.func 43) #[] #[.pointer (some ⟨W.heap.size, 0, none⟩), .pointer (some ⟨W.heap.size + 1, 0, none⟩)]] 88)
    have g3 := cell_keep (cell_keep f3 (.cells #[.func (.yield ln) #[] #[]] 87)) (.cells #[.func (.func 43) #[] #[.pointer (some ⟨W.heap.size, 0, none⟩), .pointer (some ⟨W.heap.size + 1, 0, none⟩)]] 88)
    have g4 := cell_keep (cell_keep f4 (.cells #[.func (.yield ln) #[] #[]] 87)) (.cells #[.func (.func 43) #[] #[.pointer (some ⟨W.heap.size, 0, none⟩), .pointer (some ⟨W.heap.size + 1, 0, none⟩)]] 88)
    have c1 := cell_keep (Box.new W #[.func (.yield ln) #[] #[]] 87 0 _ rfl).1 (.cells #[.func (.func 43) #[] #[.pointer (some ⟨W.heap.size, 0, none⟩), .pointer (some ⟨W.heap.size + 1, 0, none⟩)]] 88)
    have c2 := (Box.new (W.alloc (.cells #[.func (.yield ln) #[] #[]] 87)) #[.func (.func 43) #[] #[.pointer (some ⟨W.heap.size, 0, none⟩), .pointer (some ⟨W.heap.size + 1, 0, none⟩)]] 88 0 _ rfl).1
    rw [World.size_alloc] at c2
    have hcall := hw _ (hJn _ _) (by simp; omega) (by simp; omega) c1 c2
    have Hpo := Lib.hid hpo
    clear hw hJ1 hJ2 hY hJn h0 hL f0 f1 f2 f3 f4 hpo
    go_enter Tryd.func42, Tryd.ntmps42
    go_wp2_with fail
    refine hcall.mono ?_
    rintro e W5 ⟨he, h1, h2, -⟩
    rw [Hpo.out] at he h1 h2
    subst he
    have Hend := Lib.hid (show NPost J Jx (.mk k n s cA cn cc kA kn kc keys kids) (.returned (.tuple #[])) W5 from ⟨⟨_, rfl⟩, fun h => (h1 h).1, h2⟩)
    clear h1 h2
    go_wp2
    go_end0
    exact ⟨⟨_, rfl⟩, Hend.out.2⟩
end Go.Proofs.YtinaecmpigenoaaDoor
