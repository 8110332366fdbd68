/-
  Layer 4: fits.
-/
import Derived.Test.YtnldiemggabdkaaDoorValS
import Derived.Laws.EntriesVeiled
import Derived.Deep.WholeRow
import Derived.Deep.RegionHeld3
import Derived.Deep.CutBlock
import Derived.Deep.DeepCutAuto
namespace Go.Proofs.YtnldiemggabdkaaDoor
open Go.RowKit
set_option linter.unusedVariables false

theorem fit_mk (k n : Int) (s : ByteArray) (cA : Option Addr) (cn cc : Nat) (kA : Option Addr) (kn kc : Nat) (keys : List ByteArray) (kids : List VT) : (VT.mk k n s cA cn cc kA kn kc keys kids).fit = (shKnown k && (numB k n && (strB k s && (eleB k cn && memB k cn kn keys)))) := rfl
/-- The four checks, as they lie in their array. -/
def chk : Array Value := #[.func (.func 66) #[] #[], .func (.func 67) #[] #[], .func (.func 68) #[] #[], .func (.func 69) #[] #[]]
set_option maxRecDepth 20000 in
theorem chk_at : (∀ w, (Instr.index 93 (.agg chk) (.int .i64 0)).run Tryd.prog w = .ok (.func (.func 66) #[] #[]) w) ∧ (∀ w, (Instr.index 93 (.agg chk) (.int .i64 1)).run Tryd.prog w = .ok (.func (.func 67) #[] #[]) w) ∧
    (∀ w, (Instr.index 93 (.agg chk) (.int .i64 2)).run Tryd.prog w = .ok (.func (.func 68) #[] #[]) w) ∧ (∀ w, (Instr.index 93 (.agg chk) (.int .i64 3)).run Tryd.prog w = .ok (.func (.func 69) #[] #[]) w) :=
  ⟨fun _ => by kernel_rfl, fun _ => by kernel_rfl, fun _ => by kernel_rfl, fun _ => by kernel_rfl⟩
set_option maxRecDepth 20000 in
set_option maxHeartbeats 2000000 in
theorem fits_any (k n : Int) (s : ByteArray) (cA : Option Addr) (cn cc : Nat) (kA : Option Addr) (kn kc : Nat) (keys : List ByteArray) (kids : List VT) (B : Nat) (w : World) (hL : Lie w B (.mk k n s cA cn cc kA kn kc keys kids)) (hB : B ≤ w.heap.size) (htab : UTab w) (hst : STab w) :
    Calls Tryd.prog 56 #[.agg #[.int .i64 k, .int .i64 n, .string s, .slice cA cn cc, .slice kA kn kc]] w fun e w' => e = .returned (.bool (VT.fit (.mk k n s cA cn cc kA kn kc keys kids))) ∧ Below w.heap.size w w' := by
  obtain ⟨hc, hk, hz, -⟩ := hL
  have hb := bel_alloc (Below.refl w.heap.size w) (.cells #[.int .i64 k, .int .i64 n, .string s, .slice cA cn cc, .slice kA kn kc] 25)
  by_cases hk0 : k < 0
  · have HR := Lib.hid (show VT.fit (.mk k n s cA cn cc kA kn kc keys kids) = false by
      have : shKnown k = false := by unfold shKnown; simp; omega
      rw [fit_mk, this]; rfl)
    have k0 : (k < 0) = True := by simp; omega
    clear hk0
    go_enter Tryd.func56, Tryd.ntmps56
    go_wp2
    go_ret
    exact ⟨vret_b HR.out.symm, hb⟩
  · have k0 : (k < 0) = False := by simp; omega
    by_cases hk7 : 7 ≤ k
    · have HR := Lib.hid (show VT.fit (.mk k n s cA cn cc kA kn kc keys kids) = false by
        have : shKnown k = false := by unfold shKnown; simp; omega
        rw [fit_mk, this]; rfl)
      have k7 : ((7 : Int) ≤ k) = True := by simp; omega
      clear hk0 hk7
      go_enter Tryd.func56, Tryd.ntmps56
      go_wp2
      go_ret
      exact ⟨vret_b HR.out.symm, hb⟩
    · obtain ⟨q, rfl⟩ : ∃ q : Nat, k = (q : Int) := ⟨k.toNat, by omega⟩
      have hq7 : q < 7 := by omega
      have k7 : ((7 : Int) ≤ (q : Int)) = False := by simp; omega
      have k8 : (q : Int) < 7 := by omega
      have k9 : (0 : Int) ≤ q := by omega
      obtain ⟨r0, r1, r2, r3, r4, r5⟩ := (hst.below hb hst.lt).row q hq7
      by_cases hkn : shKnown (q : Int) = true
      · have hkn' := hkn
        rw [hkn] at r0
        have HF := Lib.hid (show VT.fit (.mk (q : Int) n s cA cn cc kA kn kc keys kids) = (numQ (shWide (q : Int)) (shTop (q : Int)) n && (strQ (shText (q : Int)) s && (eleQ (shKids (q : Int)) cn && memQ (shKeys (q : Int)) cn kn keys))) by
          rw [fit_mk, hkn]; rfl)
        have hi : (Tryd.prog.info? 93).map (·.size) = some 4 := by kernel_rfl
        obtain ⟨x0, x1, x2, x3⟩ := chk_at
        unfold chk at x0 x1 x2 x3
        have hu : Tryd.prog.underlying 93 = some (.array 4 92) := by kernel_rfl
        have hsc := run_storeCells_new (P := Tryd.prog) (w.alloc (.cells #[.int .i64 (q : Int), .int .i64 n, .string s, .slice cA cn cc, .slice kA kn kc] 25)) 93 #[.nilFunc, .nilFunc, .nilFunc, .nilFunc] #[.func (.func 66) #[] #[], .func (.func 67) #[] #[], .func (.func 68) #[] #[], .func (.func 69) #[] #[]] hi rfl (by simp [Value.oneCell'])
        clear hk0 hk7 hkn hq7
        go_enter Tryd.func56, Tryd.ntmps56
        go_wp2
        have hb' : Below w.heap.size w ((w.alloc (.cells #[.int .i64 (q : Int), .int .i64 n, .string s, .slice cA cn cc, .slice kA kn kc] 25)).alloc (.cells #[.func (.func 66) #[] #[], .func (.func 67) #[] #[], .func (.func 68) #[] #[], .func (.func 69) #[] #[]] 93)) := bel_alloc hb _
        have hvv : ∀ j u, (#[Value.int .i64 (q : Int), .int .i64 n, .string s, .slice cA cn cc, .slice kA kn kc] : Array Value)[j]? = some u → ((w.alloc (.cells #[.int .i64 (q : Int), .int .i64 n, .string s, .slice cA cn cc, .slice kA kn kc] 25)).alloc (.cells #[.func (.func 66) #[] #[], .func (.func 67) #[] #[], .func (.func 68) #[] #[], .func (.func 69) #[] #[]] 93)).cell? ⟨w.heap.size, j, none⟩ = some u := fun j u hu => by
          have := new_later (w := w) (C := #[Value.int .i64 (q : Int), .int .i64 n, .string s, .slice cA cn cc, .slice kA kn kc]) (t := 25) (bel_alloc (Below.refl _ _) (.cells #[.func (.func 66) #[] #[], .func (.func 67) #[] #[], .func (.func 68) #[] #[], .func (.func 69) #[] #[]] 93)) j hu
          exact this
        have hrr : ∀ j u, (sRow (q : Int))[j]? = some u → ((w.alloc (.cells #[.int .i64 (q : Int), .int .i64 n, .string s, .slice cA cn cc, .slice kA kn kc] 25)).alloc (.cells #[.func (.func 66) #[] #[], .func (.func 67) #[] #[], .func (.func 68) #[] #[], .func (.func 69) #[] #[]] 93)).cell? ⟨0, q * 6 + j, none⟩ = some u := fun j u hu => by
          have hj : j < 6 := (List.getElem?_eq_some_iff.1 hu).1
          have := (hst.below hb' hst.lt) (q * 6 + j) u ((stab_at q j (by omega) hj).trans hu)
          rwa [Nat.zero_add] at this
        rw [sRow, hkn'] at hrr
        generalize (w.alloc (.cells #[.int .i64 (q : Int), .int .i64 n, .string s, .slice cA cn cc, .slice kA kn kc] 25)).alloc (.cells #[.func (.func 66) #[] #[], .func (.func 67) #[] #[], .func (.func 68) #[] #[], .func (.func 69) #[] #[]] 93) = W1 at *
        have v0 : ∀ W, Below W1.heap.size W1 W → W.cell? ⟨w.heap.size, 0, none⟩ = some (.int .i64 (q : Int)) := fun W h => kept_later h (hvv 0 _ rfl)
        have v1 : ∀ W, Below W1.heap.size W1 W → W.cell? ⟨w.heap.size, 1, none⟩ = some (.int .i64 n) := fun W h => kept_later h (hvv 1 _ rfl)
        have v2 : ∀ W, Below W1.heap.size W1 W → W.cell? ⟨w.heap.size, 2, none⟩ = some (.string s) := fun W h => kept_later h (hvv 2 _ rfl)
        have v3 : ∀ W, Below W1.heap.size W1 W → W.cell? ⟨w.heap.size, 3, none⟩ = some (.slice cA cn cc) := fun W h => kept_later h (hvv 3 _ rfl)
        have v4 : ∀ W, Below W1.heap.size W1 W → W.cell? ⟨w.heap.size, 4, none⟩ = some (.slice kA kn kc) := fun W h => kept_later h (hvv 4 _ rfl)
        have s0 : ∀ W, Below W1.heap.size W1 W → W.cell? ⟨0, q * 6, none⟩ = some (.bool true) := fun W h => kept_later h (hrr 0 _ rfl)
        have s1 : ∀ W, Below W1.heap.size W1 W → W.cell? ⟨0, q * 6 + 1, none⟩ = some (.bool (shWide (q : Int))) := fun W h => kept_later h (hrr 1 _ rfl)
        have s2 : ∀ W, Below W1.heap.size W1 W → W.cell? ⟨0, q * 6 + 2, none⟩ = some (.int .i64 (shTop (q : Int))) := fun W h => kept_later h (hrr 2 _ rfl)
        have s3 : ∀ W, Below W1.heap.size W1 W → W.cell? ⟨0, q * 6 + 3, none⟩ = some (.bool (shText (q : Int))) := fun W h => kept_later h (hrr 3 _ rfl)
        have s4 : ∀ W, Below W1.heap.size W1 W → W.cell? ⟨0, q * 6 + 4, none⟩ = some (.bool (shKeys (q : Int))) := fun W h => kept_later h (hrr 4 _ rfl)
        have s5 : ∀ W, Below W1.heap.size W1 W → W.cell? ⟨0, q * 6 + 5, none⟩ = some (.bool (shKids (q : Int))) := fun W h => kept_later h (hrr 5 _ rfl)
        have Hstr := Lib.hid (fun (W : World) (h : Below W1.heap.size W1 W) => vstring_any true (shWide (q : Int)) (shTop (q : Int)) (shText (q : Int)) (shKeys (q : Int)) (shKids (q : Int)) (.int .i64 (q : Int)) (.int .i64 n) s (.slice cA cn cc) (.slice kA kn kc) W hz.s (htab.below (bel_next hb' h) htab.lt))
        have Hmem := Lib.hid (fun (W : World) (h : Below W1.heap.size W1 W) => vmembers_any true (shWide (q : Int)) (shTop (q : Int)) (shText (q : Int)) (shKeys (q : Int)) (shKids (q : Int)) (.int .i64 (q : Int)) (.int .i64 n) (.string s) cA cn cc kA kn kc keys B W (Nat.le_trans hz.k1 hz.k2) (hk.below ((bel_next hb' h).mono hB)) (Nat.le_trans hB (bel_next hb' h).size) hz.keys (htab.below (bel_next hb' h) htab.lt))
        clear hvv hrr hc hk hz hsc hu hi r0 r1 r2 r3 r4 r5
        have hr1 : Below W1.heap.size W1 W1 := Below.refl _ _
        generalize shWide (q : Int) = wi at *
        generalize shTop (q : Int) = top at *
        generalize shText (q : Int) = te at *
        generalize shKeys (q : Int) = ke at *
        generalize shKids (q : Int) = ki at *
        obtain ⟨b0, hb0⟩ : ∃ b0, numQ wi top n = b0 := ⟨_, rfl⟩
        obtain ⟨b1, hb1⟩ : ∃ b1, strQ te s = b1 := ⟨_, rfl⟩
        obtain ⟨b2, hb2⟩ : ∃ b2, eleQ ki cn = b2 := ⟨_, rfl⟩
        obtain ⟨b3, hb3⟩ : ∃ b3, memQ ke cn kn keys = b3 := ⟨_, rfl⟩
        rw [hb1] at Hstr
        rw [hb3] at Hmem
        rw [hb0, hb1, hb2, hb3] at HF
        have Hnum := Lib.hid (fun (W : World) => vnumber_any true wi top te ke ki (q : Int) n (.string s) (.slice cA cn cc) (.slice kA kn kc) W)
        rw [hb0] at Hnum
        have Hele := Lib.hid (fun (W : World) => velements_any true wi top te ke ki (.int .i64 (q : Int)) (.int .i64 n) (.string s) cA cn cc (.slice kA kn kc) W)
        rw [hb2] at Hele
        clear hb0 hb1 hb2 hb3
        go_loopw [24] (fun i wr => ∃ j : Nat, j ≤ 4 ∧ i = .int .i64 j ∧ (1 ≤ j → b0 = true) ∧ (2 ≤ j → b1 = true) ∧ (3 ≤ j → b2 = true) ∧ (4 ≤ j → b3 = true) ∧ Below W1.heap.size W1 wr) (fun i _ => 8 - (intOf i).toNat)
        case atStart => exact ⟨0, by omega, rfl, fun h => by omega, fun h => by omega, fun h => by omega, fun h => by omega, hr1⟩
        case round =>
          obtain ⟨j, hj, rfl, g0, g1, g2, g3, hbr⟩ := hrel
          rcases (show j = 0 ∨ j = 1 ∨ j = 2 ∨ j = 3 ∨ j = 4 by omega) with rfl | rfl | rfl | rfl | rfl
          · have hr2 : Below W1.heap.size W1 wr.drew := below_drewN hbr 1
            go_upto_region 7 with fail
            cases b0
            · go_region_held3 (fun W => Below W1.heap.size W1 W) (first | (with_reducible assumption) | exact Below.drew (by with_reducible assumption))
                ((go_at_call 66; (with_reducible refine (Hnum.out _).mono ?_); (rintro e wA ⟨rfl, hbA⟩); (have hSA := S_call hbA (by first | (with_reducible assumption) | exact Below.drew (by with_reducible assumption)) rfl)))
              all_goals
                go_wp2
                go_ret
                exact ⟨vret_b (by rw [HF.out]; simp), bel_next hb' (by first | with_reducible assumption | exact Below.drew (by with_reducible assumption))⟩
            · go_region_held3 (fun W => Below W1.heap.size W1 W) (first | (with_reducible assumption) | exact Below.drew (by with_reducible assumption))
                ((go_at_call 66; (with_reducible refine (Hnum.out _).mono ?_); (rintro e wA ⟨rfl, hbA⟩); (have hSA := S_call hbA (by first | (with_reducible assumption) | exact Below.drew (by with_reducible assumption)) rfl)))
              all_goals
                go_wp2
                go_roundw
                case rel => exact ⟨1, by omega, by go_num, fun _ => by first | rfl | trivial, fun h => by omega, fun h => by omega, fun h => by omega, by first | with_reducible assumption | exact Below.drew (by with_reducible assumption)⟩
                case measure => simp [intOf]
          · have hr2 : Below W1.heap.size W1 wr.drew := below_drewN hbr 1
            go_upto_region 7 with fail
            cases b1
            · go_region_held3 (fun W => Below W1.heap.size W1 W) (first | (with_reducible assumption) | exact Below.drew (by with_reducible assumption))
                ((go_at_call 67; (with_reducible refine (Hstr.out _ (by with_reducible assumption)).mono ?_); (rintro e wA ⟨rfl, hbA⟩); (have hSA := S_call hbA (by first | (with_reducible assumption) | exact Below.drew (by with_reducible assumption)) rfl)))
              all_goals
                go_wp2
                go_ret
                exact ⟨vret_b (by rw [HF.out]; simp), bel_next hb' (by first | with_reducible assumption | exact Below.drew (by with_reducible assumption))⟩
            · go_region_held3 (fun W => Below W1.heap.size W1 W) (first | (with_reducible assumption) | exact Below.drew (by with_reducible assumption))
                ((go_at_call 67; (with_reducible refine (Hstr.out _ (by with_reducible assumption)).mono ?_); (rintro e wA ⟨rfl, hbA⟩); (have hSA := S_call hbA (by first | (with_reducible assumption) | exact Below.drew (by with_reducible assumption)) rfl)))
              all_goals
                go_wp2
                go_roundw
                case rel => exact ⟨2, by omega, by go_num, fun _ => g0 (by omega), fun _ => by first | rfl | trivial, fun h => by omega, fun h => by omega, by first | with_reducible assumption | exact Below.drew (by with_reducible assumption)⟩
                case measure => simp [intOf]
          · have hr2 : Below W1.heap.size W1 wr.drew := below_drewN hbr 1
            go_upto_region 7 with fail
            cases b2
            · go_region_held3 (fun W => Below W1.heap.size W1 W) (first | (with_reducible assumption) | exact Below.drew (by with_reducible assumption))
                ((go_at_call 68; (with_reducible refine (Hele.out _).mono ?_); (rintro e wA ⟨rfl, hbA⟩); (have hSA := S_call hbA (by first | (with_reducible assumption) | exact Below.drew (by with_reducible assumption)) rfl)))
              all_goals
                go_wp2
                go_ret
                exact ⟨vret_b (by rw [HF.out]; simp), bel_next hb' (by first | with_reducible assumption | exact Below.drew (by with_reducible assumption))⟩
            · go_region_held3 (fun W => Below W1.heap.size W1 W) (first | (with_reducible assumption) | exact Below.drew (by with_reducible assumption))
                ((go_at_call 68; (with_reducible refine (Hele.out _).mono ?_); (rintro e wA ⟨rfl, hbA⟩); (have hSA := S_call hbA (by first | (with_reducible assumption) | exact Below.drew (by with_reducible assumption)) rfl)))
              all_goals
                go_wp2
                go_roundw
                case rel => exact ⟨3, by omega, by go_num, fun _ => g0 (by omega), fun _ => g1 (by omega), fun _ => by first | rfl | trivial, fun h => by omega, by first | with_reducible assumption | exact Below.drew (by with_reducible assumption)⟩
                case measure => simp [intOf]
          · have hr2 : Below W1.heap.size W1 wr.drew := below_drewN hbr 1
            go_upto_region 7 with fail
            cases b3
            · go_region_held3 (fun W => Below W1.heap.size W1 W) (first | (with_reducible assumption) | exact Below.drew (by with_reducible assumption))
                ((go_at_call 69; (with_reducible refine (Hmem.out _ (by with_reducible assumption)).mono ?_); (rintro e wA ⟨rfl, hbA⟩); (have hSA := S_call hbA (by first | (with_reducible assumption) | exact Below.drew (by with_reducible assumption)) rfl)))
              all_goals
                go_wp2
                go_ret
                exact ⟨vret_b (by rw [HF.out]; simp), bel_next hb' (by first | with_reducible assumption | exact Below.drew (by with_reducible assumption))⟩
            · go_region_held3 (fun W => Below W1.heap.size W1 W) (first | (with_reducible assumption) | exact Below.drew (by with_reducible assumption))
                ((go_at_call 69; (with_reducible refine (Hmem.out _ (by with_reducible assumption)).mono ?_); (rintro e wA ⟨rfl, hbA⟩); (have hSA := S_call hbA (by first | (with_reducible assumption) | exact Below.drew (by with_reducible assumption)) rfl)))
              all_goals
                go_wp2
                go_roundw
                case rel => exact ⟨4, by omega, by go_num, fun _ => g0 (by omega), fun _ => g1 (by omega), fun _ => g2 (by omega), fun _ => by first | rfl | trivial, by first | with_reducible assumption | exact Below.drew (by with_reducible assumption)⟩
                case measure => simp [intOf]
          · have e0 := g0 (by omega)
            have e1 := g1 (by omega)
            have e2 := g2 (by omega)
            have e3 := g3 (by omega)
            subst e0 e1 e2 e3
            clear g0 g1 g2 g3
            go_wp2
            go_ret
            exact ⟨vret_b (by rw [HF.out]; rfl), bel_next hb' hbr⟩
      · have hkn' : shKnown (q : Int) = false := by simpa using hkn
        rw [hkn'] at r0
        have HR := Lib.hid (show VT.fit (.mk (q : Int) n s cA cn cc kA kn kc keys kids) = false by rw [fit_mk, hkn']; rfl)
        clear hk0 hk7 hkn hkn' hq7
        go_enter Tryd.func56, Tryd.ntmps56
        go_wp2
        go_ret
        exact ⟨vret_b HR.out.symm, hb⟩
end Go.Proofs.YtnldiemggabdkaaDoor
