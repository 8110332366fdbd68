/-
  Package crc: operators.
-/
import Derived.Test.YtjkdbhhcmpmknaaDoorCrcF
import Derived.Deep.MidRow
namespace Go.Proofs.YtjkdbhhcmpmknaaDoor
open Go.RowKit

def opl (f : Nat → Nat) : List Value := (List.range 32).map fun i => Value.int .u32 (f (2 ^ i) : Int)
def mix (f : Nat → Nat) (k : Nat) : List Value := (List.range 32).map fun i => Value.int .u32 (if i < k then (f (2 ^ i) : Int) else 0)
theorem opl_len (f : Nat → Nat) : (opl f).length = 32 := by simp [opl]
theorem opl_one (f : Nat → Nat) : ∀ v ∈ opl f, v.oneCell' = true := by
  intro v hv
  obtain ⟨i, _, rfl⟩ := List.mem_map.1 hv
  rfl
theorem opl_at (f : Nat → Nat) {i : Nat} (h : i < 32) : (opl f)[i]? = some (.int .u32 (f (2 ^ i) : Int)) := by
  unfold opl
  simp [h]
theorem mix_at (f : Nat → Nat) {k : Nat} (h : k < 32) : (mix f k)[k]? = some (.int .u32 0) := by
  unfold mix
  simp [h]
theorem mix_set (f : Nat → Nat) {k : Nat} (h : k < 32) : (mix f k).set k (.int .u32 (f (2 ^ k) : Int)) = mix f (k + 1) := by
  apply List.ext_getElem?
  intro i
  unfold mix
  rw [List.getElem?_set]
  by_cases hik : k = i
  · subst hik
    simp [h]
  · rw [if_neg hik]
    by_cases hi : i < 32
    · simp only [List.getElem?_map, List.getElem?_range hi, Option.map_some]
      by_cases h2 : i < k
      · rw [if_pos h2, if_pos (by omega)]
      · rw [if_neg h2, if_neg (by omega)]
    · simp [hi]
theorem mix_full (f : Nat → Nat) : mix f 32 = opl f := by
  unfold mix opl
  apply List.map_congr_left
  intro i hi
  rw [if_pos (List.mem_range.1 hi)]
theorem mix_none (f : Nat → Nat) : mix f 0 = List.replicate 32 (.int .u32 0) := by
  unfold mix
  simp only [Nat.not_lt_zero, if_false]
  rfl
theorem range_set {w : World} {b : Nat} {cs : List Value} (h : w.rangeAt b 0 cs) (k : Nat) (u : Value) : (w.setCell ⟨b, k, none⟩ u).rangeAt b 0 (cs.set k u) := by
  intro j v hv
  rw [List.getElem?_set] at hv
  by_cases hk : k = j
  · subst hk
    rw [if_pos rfl] at hv
    by_cases hl : k < cs.length
    · rw [if_pos hl] at hv
      cases hv
      have := h k _ (List.getElem?_eq_getElem hl)
      rw [Nat.zero_add] at this ⊢
      exact cell_set this _
    · rw [if_neg hl] at hv
      cases hv
  · rw [if_neg hk] at hv
    rw [World.cell?_setCell_other]
    · exact h j v hv
    · intro e
      injection e with _ e
      omega
theorem range_far {w : World} {b b' : Nat} {cs : List Value} (h : w.rangeAt b 0 cs) (hb : b' ≠ b) (k : Nat) (u : Value) : (w.setCell ⟨b', k, none⟩ u).rangeAt b 0 cs := fun j v hv => by
  rw [World.cell?_setCell_other]
  · exact h j v hv
  · intro e
    injection e with e _
    exact hb e
theorem there_set {w : World} {b : Nat} {n : Nat} (h : w.there b 0 n) (p : Addr) (u : Value) : (w.setCell p u).there b 0 n := fun j hj => by
  obtain ⟨h1, h2⟩ := h j hj
  refine ⟨?_, by rw [frozen_set]; exact h2⟩
  obtain ⟨v, hv⟩ := Option.isSome_iff_exists.1 h1
  by_cases e : p = ⟨b, 0 + j, none⟩
  · subst e
    rw [cell_set hv]
    rfl
  · rw [World.cell?_setCell_other w p _ u e, hv]
    rfl

/-- The columns of a linear map. -/
def IsOp (L : List Value) (f : Nat → Nat) : Prop := L = opl f
theorem IsOp.len {L : List Value} {f : Nat → Nat} (h : IsOp L f) : L.length = 32 := by rw [show L = opl f from h, opl_len]
theorem IsOp.one {L : List Value} {f : Nat → Nat} (h : IsOp L f) : ∀ v ∈ L, v.oneCell' = true := by rw [show L = opl f from h]; exact opl_one f
theorem IsOp.at {L : List Value} {f : Nat → Nat} (h : IsOp L f) {i : Nat} (hi : i < 32) : L[i]? = some (.int .u32 (f (2 ^ i) : Int)) := by rw [show L = opl f from h]; exact opl_at f hi
theorem IsOp.atA {L : List Value} {f : Nat → Nat} (h : IsOp L f) {i : Nat} (hi : i < 32) : L.toArray[i]? = some (.int .u32 (f (2 ^ i) : Int)) := by
  rw [List.getElem?_toArray]
  exact h.at hi

theorem bit_and (s k : Nat) (hs : s < 4294967296) : bits .and .u32 ((s : Int) / 2 ^ k) 1 = ((s / 2 ^ k % 2 : Nat) : Int) := by
  have h1 : ((s : Int) / 2 ^ k) = ((s / 2 ^ k : Nat) : Int) := by simp
  rw [h1]
  have h2 := u32_and_nat (s / 2 ^ k) 1 (Nat.lt_of_le_of_lt (Nat.div_le_self _ _) hs) (by decide)
  rw [nat_mask1] at h2
  exact h2

set_option maxHeartbeats 1000000 in
theorem apply_any (L : List Value) (f : Nat → Nat) (hL : IsOp L f) (hf : Crc.Lin f) (s : Nat) (w : World) (hs : s < 4294967296) :
    Calls Tryd.prog 25 #[.agg L.toArray, .int .u32 (s : Int)] w fun e w' => e = .returned (.int .u32 (f s : Int)) ∧ w.alloc (.cells L.toArray 46) = w' := by
  have hcell : ∀ i, i < 32 → (w.alloc (.cells L.toArray 46)).cell? ⟨w.heap.size, i, none⟩ = some (.int .u32 (f (2 ^ i) : Int)) := fun i hi => by
    rw [cell_of_row _ _ _ _ _ _ (heap_alloc_new w _)]
    exact hL.atA hi
  have Hcell := Lib.hid hcell
  clear hcell
  go_enter Tryd.func25, Tryd.ntmps25
  go_wp2
  go_loop [5, 7] (fun x i => ∃ k t : Nat, k ≤ 32 ∧ i = .int .i64 k ∧ x = .int .u32 t ∧ Hid (t = f (s % 2 ^ k)) ∧ t < 4294967296) (fun _ i => 32 - (intOf i).toNat)
  case atStart => exact ⟨0, 0, by omega, rfl, rfl, Lib.hid (by rw [Nat.pow_zero, Nat.mod_one]; exact hf.zero.symm), by omega⟩
  case round =>
    obtain ⟨k, t, hk, rfl, rfl, Ht, htl⟩ := hrel
    by_cases hlt : k < 32
    · have hc := Hcell.out k hlt
      have hn := hf.next s k
      have hfl := hf.lt (2 ^ k) (Nat.pow_lt_pow_right (by decide) (by omega) : 2 ^ k < 2 ^ 32)
      by_cases hbit : s / 2 ^ k % 2 = 1
      · have hb : (bits .and .u32 ((s : Int) / 2 ^ k) 1 == 1) = true := by rw [bit_and s k hs, hbit]; rfl
        have hx : bits .xor .u32 (t : Int) (f (2 ^ k) : Int) = ((t ^^^ f (2 ^ k) : Nat) : Int) := u32_xor_nat _ _ htl hfl
        have hxl : t ^^^ f (2 ^ k) < 4294967296 := Nat.xor_lt_two_pow (n := 32) htl hfl
        rw [if_pos hbit, ← Ht.out] at hn
        have Hn := Lib.hid hn
        clear hn hbit
        go_wp2
        go_round
        case rel => exact ⟨k + 1, _, by omega, by go_num, rfl, Lib.hid Hn.out.symm, hxl⟩
        case measure => simp [intOf]; omega
      · have hb : (bits .and .u32 ((s : Int) / 2 ^ k) 1 == 1) = false := by rw [bit_and s k hs, show s / 2 ^ k % 2 = 0 by omega]; rfl
        rw [if_neg hbit, ← Ht.out] at hn
        have Hn := Lib.hid hn
        clear hn hbit
        go_wp2
        go_round
        case rel => exact ⟨k + 1, _, by omega, by go_num, rfl, Lib.hid Hn.out.symm, htl⟩
        case measure => simp [intOf]; omega
    · have hk' : k = 32 := by omega
      have hr : t = f s := by rw [Ht.out, hk', Nat.mod_eq_of_lt (by simpa using hs)]
      have Hr := Lib.hid hr
      clear hk' hr
      go_wp2
      go_ret
      exact ⟨by rw [← Hr.out]; rfl, rfl⟩

theorem opInfo : (Tryd.prog.info? 46).map (·.size) = some 32 := by kernel_rfl
theorem there_new (w : World) (cs : Array Value) (t : TypeId) : (w.alloc (.cells cs t)).there w.heap.size 0 cs.size := fun j hj => by
  refine ⟨?_, by simp⟩
  rw [cell_of_row _ _ _ _ _ _ (heap_alloc_new w _), Nat.zero_add, Array.getElem?_eq_getElem hj]
  rfl

theorem below_cells {B g : Nat} {w0 w : World} (hb : Below B w0 w) (hg : B ≤ g) (o : Nat) (vs : List Value) : Below B w0 (w.setCells g o vs) := by
  revert o w
  induction vs with
  | nil => intro w hb o; exact hb
  | cons v r ih => intro w hb o; exact ih (hb.setCell (p := ⟨g, o, none⟩) hg v) (o + 1)
theorem keep_op {w : World} {H G k : Nat} {L : List Value} {v0 v1 : Value} (h1 : w.rangeAt H 0 L) (hc : w.cell? ⟨H, k, none⟩ = some v0) (hd : w.cell? ⟨G, k, none⟩ = some v1) (hfz : w.frozen? ⟨G, k, none⟩ = false) (u : Value) (o : Obj) (hne : G ≠ H) :
    ((w.setCell ⟨G, k, none⟩ u).alloc o).rangeAt H 0 L ∧ ((w.setCell ⟨G, k, none⟩ u).alloc o).cell? ⟨H, k, none⟩ = some v0 ∧ (((w.setCell ⟨G, k, none⟩ u).alloc o).cell? ⟨G, k, none⟩).isSome = true ∧ ((w.setCell ⟨G, k, none⟩ u).alloc o).frozen? ⟨G, k, none⟩ = false := by
  have h2 := cell_set hd u
  refine ⟨World.rangeAt_alloc (range_far h1 hne k u) o, cell_keep ?_ o, by rw [cell_keep h2 o]; rfl, (frozen_keep h2 o).trans ((frozen_set _ _ _ _).trans hfz)⟩
  rw [World.cell?_setCell_other]
  · exact hc
  · intro e
    injection e with e _
    exact hne e

theorem range_at (w : World) (L : List Value) (t : TypeId) (n : Nat) (h : w.heap.size = n) : (w.alloc (.cells L.toArray t)).rangeAt n 0 L := fun j v hv => by
  subst h
  rw [cell_of_row _ _ _ _ _ _ (heap_alloc_new w _), Nat.zero_add, List.getElem?_toArray]
  exact hv
theorem range_new (w : World) (L : List Value) (t : TypeId) : (w.alloc (.cells L.toArray t)).rangeAt w.heap.size 0 L := range_at w L t _ rfl
theorem there_at (w : World) (cs : Array Value) (t : TypeId) (n : Nat) (h : w.heap.size = n) : (w.alloc (.cells cs t)).there n 0 cs.size := by
  subst h
  exact there_new w cs t

set_option maxRecDepth 100000 in
set_option maxHeartbeats 1000000 in
theorem squared_any (L : List Value) (f : Nat → Nat) (hL : IsOp L f) (hf : Crc.Lin f) (w : World) :
    Calls Tryd.prog 26 #[.agg L.toArray] w fun e w' => (∃ M : List Value, e = .returned (.agg M.toArray) ∧ IsOp M (fun s => f (f s))) ∧ Below w.heap.size w w' := by
  have hu := Tryd.underlying46
  go_enter Tryd.func26, Tryd.ntmps26
  go_wp2
  go_loopw [5] (fun i wr => ∃ (k : Nat) (M : List Value), k ≤ 32 ∧ Hid (M = mix (fun s => f (f s)) k) ∧ i = .int .i64 k ∧ wr.rangeAt w.heap.size 0 L ∧ wr.rangeAt (w.heap.size + 1 + 1) 0 M ∧ wr.there (w.heap.size + 1 + 1) 0 32 ∧ wr.there (w.heap.size + 1) 0 32 ∧ Below w.heap.size w wr ∧ w.heap.size + 1 + 1 < wr.heap.size) (fun i _ => 32 - (intOf i).toNat)
  case atStart =>
    have e1 : ∀ o : Obj, (w.alloc o).heap.size = w.heap.size + 1 := fun o => by simp
    have e2 : ∀ o o' : Obj, ((w.alloc o).alloc o').heap.size = w.heap.size + 1 + 1 := fun o o' => by simp
    refine ⟨0, _, by omega, Lib.hid rfl, rfl, ?_, ?_, ?_, ?_, ?_, ?_⟩
    · exact World.rangeAt_alloc (World.rangeAt_alloc (range_new w L _) _) _
    · rw [mix_none]
      exact range_at _ (List.replicate 32 (.int .u32 0)) _ _ (e2 _ _)
    · exact there_at _ (List.replicate 32 (.int .u32 0)).toArray _ _ (e2 _ _)
    · exact World.there_alloc (there_at _ (List.replicate 32 (.int .u32 0)).toArray _ _ (e1 _)) _
    · exact (((Below.refl _ _).alloc (Nat.le_refl _) _).alloc (by simp) _).alloc (by simp; omega) _
    · simp
  case round =>
    obtain ⟨k, M, hk, HM, rfl, h1, h2, h3, h4, hb, hz⟩ := hrel
    by_cases hlt : k < 32
    · have hi0 : (0 : Int) ≤ (k : Int) := by omega
      have hi1 : (k : Int) < 32 := by omega
      have hc := h1 k _ (hL.at hlt)
      have hd := h2 k (.int .u32 0) (by rw [HM.out]; exact mix_at (fun s => f (f s)) hlt)
      have hfz := (h3 k hlt).2
      simp only [Nat.zero_add] at hc hd hfz
      have hfl := hf.lt (2 ^ k) (Nat.pow_lt_pow_right (by decide) (by omega) : 2 ^ k < 2 ^ 32)
      have hinf : (Tryd.prog.info? 46).map (·.size) = some L.length := by rw [opInfo, hL.len]
      have hone := hL.one
      go_wp2
      go_region_held3 (fun w' => w'.rangeAt w.heap.size 0 L ∧ w'.cell? ⟨w.heap.size, k, none⟩ = some (.int .u32 (f (2 ^ k) : Int)) ∧ (w'.cell? ⟨w.heap.size + 1 + 1, k, none⟩).isSome = true ∧ w'.frozen? ⟨w.heap.size + 1 + 1, k, none⟩ = false) (first | exact ⟨h1, hc, (by rw [World.cell?_drew, hd]; rfl), hfz⟩ | exact ⟨World.rangeAt_alloc h1 _, cell_keep hc _, (by rw [World.cell?_drew, cell_keep hd _]; rfl), (frozen_keep hd _).trans hfz⟩ | exact keep_op h1 hc hd hfz _ _ (by omega)) (first
        | (go_at_call 25; refine (apply_any L f hL hf (f (2 ^ k)) _ hfl).mono ?_; rintro e w1 ⟨rfl, rfl⟩))
      go_wp2
      go_roundw
      case rel =>
        refine ⟨k + 1, M.set k (.int .u32 (f (f (2 ^ k)) : Int)), by omega, Lib.hid (by rw [HM.out]; exact mix_set (fun s => f (f s)) hlt), by go_num, ?_, ?_, ?_, ?_, ?_, ?_⟩
        · exact World.rangeAt_alloc (range_far h1 (by omega) k _) _
        · exact World.rangeAt_alloc (range_set h2 k _) _
        · exact World.there_alloc (there_set h3 _ _) _
        · exact World.there_alloc (there_set h4 _ _) _
        · exact ((hb.setCell (p := ⟨w.heap.size + 1 + 1, k, none⟩) (by show w.heap.size ≤ w.heap.size + 1 + 1; omega) _).alloc (by rw [size_set]; omega) _).drew
        · simp [World.setCell]; omega
      case measure => simp [intOf]; omega
    · have hk' : k = 32 := by omega
      have hM : IsOp M (fun s => f (f s)) := by rw [HM.out, hk']; exact mix_full _
      have hinf : (Tryd.prog.info? 46).map (·.size) = some M.length := by rw [opInfo, hM.len]
      clear hk'
      go_wp2_with (first
        | (with_reducible refine wpList_load_mid (op := ⟨some 16, _, _, _, _, _⟩) rfl _ _ rfl (w.heap.size + 1 + 1) 0 rfl M _ h2 hu rfl hinf ?_)
        | (with_reducible refine wpList_store_mid (op := ⟨none, _, _, _, _, _⟩) rfl _ _ _ rfl (w.heap.size + 1) 0 M.toArray rfl rfl ?d1 ?d2 ?d3 ?_))
      case d1 => rw [show M.toArray.size = 32 by rw [List.size_toArray, hM.len]]; exact h4
      case d2 => rw [show M.toArray.size = M.length from List.size_toArray]; exact hinf
      case d3 => exact Array.all_eq_true_iff_forall_mem.2 (fun v hv => hM.one v (by simpa using hv))
      · go_wp2
        have hrg : (wr.setCells (w.heap.size + 1) 0 M).rangeAt (w.heap.size + 1) 0 M := World.rangeAt_setCells_same _ _ _ _ (by rw [hM.len]; exact h4)
        refine bodyPost_ret (v := .agg M.toArray) ?_ rfl ⟨⟨M, rfl, hM⟩, below_cells hb (by omega) _ _⟩
        have hrun := run_loadVar_mid (P := Tryd.prog) _ _ _ 46 M _ hrg hu rfl hinf
        simp only [results, Tryd.results26]
        simp [Act.put, asAddr, hrun]
end Go.Proofs.YtjkdbhhcmpmknaaDoor
