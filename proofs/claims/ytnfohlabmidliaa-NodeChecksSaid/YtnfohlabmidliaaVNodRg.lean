import Derived.Test.YtnfohlabmidliaaVNodRf
import Derived.Test.YtnfohlabmidliaaVNodAa
import Derived.Test.YtnfohlabmidliaaGah
import Derived.Test.YtnfohlabmidliaaGag
/-
  The reference: All over items; Red of a right node.
-/
namespace Go.Proofs.Ytnfohlabmidliaa
open Go.RowKit
set_option linter.unusedVariables false
set_option linter.unusedSimpArgs false

def Six6 (w : World) (g : Nat) (a : RedT) : Prop := Six w g (.int .i64 a.c) (.int .i64 a.i) (.int .i64 (hiI a.v)) (.int .u64 (loI a.v)) (.int .i64 a.l) (.int .i64 a.m)
set_option maxRecDepth 100000 in
set_option maxHeartbeats 2000000 in
theorem rAll14_any (A : Option Addr) (n c B : Nat) (l : List ItT) (w : World) (h : Shows w B 4 A n (l.flatMap ItT.cells)) (hB : B ≤ w.heap.size) (hx : ∀ x ∈ l, R64 x.n) (hn : n ≤ 60) :
    Calls Try.prog 41 #[.slice A n c] w fun e w' => e = .returned (aggR (jsum (l.map ItT.red))) ∧ Below w.heap.size w w' := by
  have hlen := Lib.hid (show l.length = n by have := h.1; rw [flatN_len ItT.cells 4 (fun _ => rfl)] at this; omega)
  unfold aggR
  go_enter Try.func41, Try.ntmps41
  go_wp2_with fail
  obtain ⟨W1, hW1⟩ : ∃ W1, (w.alloc (.cells #[.int .i64 0, .int .i64 0, .int .i64 0, .int .u64 0, .int .i64 0, .int .i64 0] 37)).alloc (.cells #[.int .i64 0, .int .i64 0, .int .i64 0, .int .u64 0, .int .i64 0, .int .i64 0] 37) = W1 := ⟨_, rfl⟩
  have hb1 : Below w.heap.size w W1 := by rw [← hW1]; exact ((Below.refl _ _).alloc (Nat.le_refl _) _).alloc (by simp) _
  have hz1 : W1.heap.size = w.heap.size + 2 := by rw [← hW1]; simp
  have hs1 : Six6 W1 (w.heap.size + 1) RedT.zero := by
    have := Six.new (w.alloc (.cells #[.int .i64 0, .int .i64 0, .int .i64 0, .int .u64 0, .int .i64 0, .int .i64 0] 37)) (.int .i64 0) (.int .i64 0) (.int .i64 0) (.int .u64 0) (.int .i64 0) (.int .i64 0) 37
    rw [hW1] at this
    unfold Six6 RedT.zero
    rw [hl_zero.1, hl_zero.2]
    simpa using this
  have hs0 : Six W1 w.heap.size (.int .i64 0) (.int .i64 0) (.int .i64 0) (.int .u64 0) (.int .i64 0) (.int .i64 0) := by rw [← hW1]; exact (Six.new _ _ _ _ _ _ _ _).alloc _
  have hl1 : Shows W1 B 4 A n (l.flatMap ItT.cells) := h.below (hb1.mono hB)
  obtain ⟨D, hD⟩ : ∃ D, w.heap.size + 1 = D := ⟨_, rfl⟩
  rw [hW1]
  rw [hD] at hs1 ⊢
  have hDw : w.heap.size < D := by omega
  clear hW1 h
  have HS1 := Lib.hid hs1
  have HS0 := Lib.hid hs0
  have HL1 := Lib.hid hl1
  have hD1 : D ≤ W1.heap.size := by omega
  have hBD : B ≤ D := by omega
  clear hs1 hs0 hl1 hz1 hD
  go_loopw [4] (fun x wr => ∃ k : Nat, k ≤ n ∧ x = .int .i64 (k : Int) ∧ Below D W1 wr ∧ Hid (Six6 wr D (jsum ((l.map ItT.red).take k)))) (fun x _ => n - (intOf x).toNat)
  case atStart => exact ⟨0, Nat.zero_le _, rfl, Below.refl _ _, HS1⟩
  case round =>
    obtain ⟨k, hk, rfl, hbr, HSX0⟩ := hrel
    rename World => wr
    have hszr := hbr.size
    by_cases hlt : k < n
    · obtain ⟨b, off, x, rfl, hbB, hx1, x0, x1, x2, x3⟩ := it_at (HL1.out.below (hbr.mono hBD)) hlt
      have hxr := Lib.hid (hx x (List.mem_of_getElem? hx1))
      have hnx := jsum_next (l := l.map ItT.red) (k := k) (r := x.red) (by rw [List.getElem?_map, hx1]; rfl)
      have hbd := Lib.hid (ones_at l k (by rw [hlen.out]; omega))
      have h1b := Lib.hid (show (x.red.c = 1) ∧ (0 ≤ x.red.i ∧ x.red.i ≤ 1073741824) ∧ (x.red.i = 0 → x.red.l = 0 ∧ x.red.m = 0) by
        refine ⟨rfl, ?_, ?_⟩
        · show 0 ≤ o1 x.b ∧ o1 x.b ≤ 1073741824
          unfold o1; cases x.b <;> simp
        · show o1 x.b = 0 → oN x.b x.n = 0 ∧ oN x.b x.n = 0
          unfold o1 oN; cases x.b <;> simp)
      generalize jsum ((l.map ItT.red).take k) = a at *
      obtain ⟨a', ha'⟩ : ∃ a', jsum ((l.map ItT.red).take (k + 1)) = a' := ⟨_, rfl⟩
      rw [ha'] at hnx
      have HA' := Lib.hid ha'
      clear ha'
      have HNX := Lib.hid hnx
      have HcB := Lib.hid (fun W => rBoth_agg a x.red W hbd.out.1 (by rw [h1b.out.1]; omega) hbd.out.2 h1b.out.2.1 h1b.out.2.2)
      have HcO := Lib.hid (fun W => rOne_agg x W hxr.out)
      have HSX : Hid (Six wr.drew D (.int .i64 a.c) (.int .i64 a.i) (.int .i64 (hiI a.v)) (.int .u64 (loI a.v)) (.int .i64 a.l) (.int .i64 a.m)) := HSX0
      have hDW : D ≤ wr.drew.heap.size := Nat.le_trans hD1 hszr
      have hbD : b < D := by omega
      have d0 : ∀ W, Below D wr W → W.cell? ⟨b, off + k * 4, none⟩ = some (.slice x.k.A x.k.n x.k.c) := fun W h => (h.cell hbD).trans x0
      have d1 : ∀ W, Below D wr W → W.cell? ⟨b, off + k * 4 + 1, none⟩ = some (.slice x.v.A x.v.n x.v.c) := fun W h => (h.cell hbD).trans x1
      have d2 : ∀ W, Below D wr W → W.cell? ⟨b, off + k * 4 + 2, none⟩ = some (.bool x.b) := fun W h => (h.cell hbD).trans x2
      have d3 : ∀ W, Below D wr W → W.cell? ⟨b, off + k * 4 + 3, none⟩ = some (.int .i64 x.n) := fun W h => (h.cell hbD).trans x3
      have hkn : (k : Int) < (n : Int) := by omega
      have hk0 : (0 : Int) ≤ (k : Int) := by omega
      clear x0 x1 x2 x3 hx1 hbd h1b HSX0 hnx hxr
      go_upto_region 5 with fail
      refine wp_region_held_drew (S := fun W => Below D wr W) (by kernel_rfl) (below_drewN (Below.refl _ _) 1) (fun hHeld => ?_)
      refine rg_in 1 rfl (by kernel_rfl) (by kernel_rfl) (by kernel_rfl) (by rfl) (v := ?_) (fun _ _ _ h => h) hHeld (fun w hSw => ?_) ?_
      rotate_left
      · (try dsimp only at hSw); go_simp <;> (with_reducible rfl)
      (try simp only [Act.put, List.setIfInBounds_toArray, List.set_cons_zero, List.set_cons_succ])
      refine rg_in 2 rfl (by kernel_rfl) (by kernel_rfl) (by kernel_rfl) (by rfl) (v := ?_) (fun _ _ _ h => h) hHeld (fun w hSw => ?_) ?_
      rotate_left
      · (try dsimp only at hSw); go_simp <;> (with_reducible rfl)
      (try simp only [Act.put, List.setIfInBounds_toArray, List.set_cons_zero, List.set_cons_succ])
      refine rg_in 3 rfl (by kernel_rfl) (by kernel_rfl) (by kernel_rfl) (by rfl) (v := ?_) (fun _ _ _ h => h) hHeld (fun w hSw => ?_) ?_
      rotate_left
      · (try dsimp only at hSw); go_simp <;> (with_reducible rfl)
      (try simp only [Act.put, List.setIfInBounds_toArray, List.set_cons_zero, List.set_cons_succ])
      refine rg_in 4 rfl (by kernel_rfl) (by kernel_rfl) (by kernel_rfl) (by rfl) (v := ?_) (fun _ _ _ h => h) hHeld (fun w hSw => ?_) ?_
      rotate_left
      · (try dsimp only at hSw); go_simp <;> (with_reducible rfl)
      (try simp only [Act.put, List.setIfInBounds_toArray, List.set_cons_zero, List.set_cons_succ])
      refine wpAnyH_ready (rs := [0, 5]) (by kernel_rfl) (by simp) ?_
      refine rg_cons rfl (by rfl) (fun K hK => ?_) ?_
      · have hsx := HSX.out
        obtain ⟨⟨c0, c1, c2, c3, c4, c5⟩, -⟩ := hsx
        go_simp
        clear c0 c1 c2 c3 c4 c5
        refine hK.out _ _ hHeld (fun hHeld => ?_)
        clear hK K
        (try simp only [Act.put, List.setIfInBounds_toArray, List.set_cons_zero, List.set_cons_succ])
        refine rg_do 5 rfl (by kernel_rfl) (by rfl) (fun K hK => ?_)
        have hDW0 := hDW
        go_simp
        (go_at_call 55; (with_reducible refine (HcO.out _).mono ?_); (rintro e w105 ⟨rfl, hbo⟩))
        have HSX := Lib.hid (Six.below HSX.out hbo rfl)
        have hDW := Nat.le_trans hDW hbo.size
        refine hK.out _ _ (hHeld.trans (hbo.mono hDW0)) (fun hHeld => ?_)
        clear hK K
        (try simp only [Act.put, List.setIfInBounds_toArray, List.set_cons_zero, List.set_cons_succ])
        refine rg_do 6 rfl (by kernel_rfl) (by rfl) (fun K hK => ?_)
        go_simp
        (go_at_call 42; (with_reducible refine (HcB.out _).mono ?_); (rintro e w106 ⟨rfl, hbb⟩))
        have HSX := Lib.hid (Six.below HSX.out hbb rfl)
        have hDW2 := Nat.le_trans hDW hbb.size
        refine hK.out _ _ (hHeld.trans (hbb.mono hDW)) (fun hHeld => ?_)
        clear hK K
        (try simp only [Act.put, List.setIfInBounds_toArray, List.set_cons_zero, List.set_cons_succ])
        refine rg_do 7 rfl (by kernel_rfl) (by rfl) (fun K hK => ?_)
        obtain ⟨⟨c0, c1, c2, c3, c4, c5⟩, f0, f1, f2, f3, f4, f5⟩ := HSX.out
        go_simp
        clear c0 c1 c2 c3 c4 c5 f0 f1 f2 f3 f4 f5
        refine hK.out _ _ (below_set6 hHeld (Nat.le_refl _)) (fun hHeld => ?_)
        clear hK K
        (try simp only [Act.put, List.setIfInBounds_toArray, List.set_cons_zero, List.set_cons_succ])
        refine wpAnyH_done (by kernel_rfl) ?_ _
        have hsn := ((((((HSX.out.s0 (.int .i64 (a.join x.red).c)).s1 (.int .i64 (a.join x.red).i)).s2 (.int .i64 (hiI (a.join x.red).v))).s3 (.int .u64 (loI (a.join x.red).v))).s4 (.int .i64 (a.join x.red).l)).s5 (.int .i64 (a.join x.red).m))
        have HSN := Lib.hid hsn
        have HBN := Lib.hid (hbr.trans hHeld)
        rw [← HNX.out] at HSN HBN ⊢
        clear hHeld hsn HSX d0 d1 d2 d3
        go_wp2_with fail
        go_roundw
        case rel => first | exact ⟨k + 1, by omega, by go_num, HBN.out, Lib.hid (by rw [HA'.out]; exact HSN.out)⟩ | exact ⟨_, ⟨k + 1, by omega, by go_num, HBN.out, Lib.hid (by rw [HA'.out]; exact HSN.out)⟩, rfl⟩
        case measure => simp [intOf]; omega
      refine rg_cons rfl (by rfl) (fun K hK => ?_) ?_
      · have hDW0 := hDW
        go_simp
        (go_at_call 55; (with_reducible refine (HcO.out _).mono ?_); (rintro e w105 ⟨rfl, hbo⟩))
        have HSX := Lib.hid (Six.below HSX.out hbo rfl)
        have hDW := Nat.le_trans hDW hbo.size
        refine hK.out _ _ (hHeld.trans (hbo.mono hDW0)) (fun hHeld => ?_)
        clear hK K
        (try simp only [Act.put, List.setIfInBounds_toArray, List.set_cons_zero, List.set_cons_succ])
        refine rg_do 0 rfl (by kernel_rfl) (by rfl) (fun K hK => ?_)
        have hsx := HSX.out
        obtain ⟨⟨c0, c1, c2, c3, c4, c5⟩, -⟩ := hsx
        go_simp
        clear c0 c1 c2 c3 c4 c5
        refine hK.out _ _ hHeld (fun hHeld => ?_)
        clear hK K
        (try simp only [Act.put, List.setIfInBounds_toArray, List.set_cons_zero, List.set_cons_succ])
        refine rg_do 6 rfl (by kernel_rfl) (by rfl) (fun K hK => ?_)
        go_simp
        (go_at_call 42; (with_reducible refine (HcB.out _).mono ?_); (rintro e w106 ⟨rfl, hbb⟩))
        have HSX := Lib.hid (Six.below HSX.out hbb rfl)
        have hDW2 := Nat.le_trans hDW hbb.size
        refine hK.out _ _ (hHeld.trans (hbb.mono hDW)) (fun hHeld => ?_)
        clear hK K
        (try simp only [Act.put, List.setIfInBounds_toArray, List.set_cons_zero, List.set_cons_succ])
        refine rg_do 7 rfl (by kernel_rfl) (by rfl) (fun K hK => ?_)
        obtain ⟨⟨c0, c1, c2, c3, c4, c5⟩, f0, f1, f2, f3, f4, f5⟩ := HSX.out
        go_simp
        clear c0 c1 c2 c3 c4 c5 f0 f1 f2 f3 f4 f5
        refine hK.out _ _ (below_set6 hHeld (Nat.le_refl _)) (fun hHeld => ?_)
        clear hK K
        (try simp only [Act.put, List.setIfInBounds_toArray, List.set_cons_zero, List.set_cons_succ])
        refine wpAnyH_done (by kernel_rfl) ?_ _
        have hsn := ((((((HSX.out.s0 (.int .i64 (a.join x.red).c)).s1 (.int .i64 (a.join x.red).i)).s2 (.int .i64 (hiI (a.join x.red).v))).s3 (.int .u64 (loI (a.join x.red).v))).s4 (.int .i64 (a.join x.red).l)).s5 (.int .i64 (a.join x.red).m))
        have HSN := Lib.hid hsn
        have HBN := Lib.hid (hbr.trans hHeld)
        rw [← HNX.out] at HSN HBN ⊢
        clear hHeld hsn HSX d0 d1 d2 d3
        go_wp2_with fail
        go_roundw
        case rel => first | exact ⟨k + 1, by omega, by go_num, HBN.out, Lib.hid (by rw [HA'.out]; exact HSN.out)⟩ | exact ⟨_, ⟨k + 1, by omega, by go_num, HBN.out, Lib.hid (by rw [HA'.out]; exact HSN.out)⟩, rfl⟩
        case measure => simp [intOf]; omega
      exact AllReadyH.nil
    · obtain rfl : n = k := by omega
      have hs2 : Hid (Six wr w.heap.size (.int .i64 0) (.int .i64 0) (.int .i64 0) (.int .u64 0) (.int .i64 0) (.int .i64 0)) := Lib.hid (HS0.out.under hbr hDw)
      have hall : (l.map ItT.red).take n = l.map ItT.red := List.take_of_length_le (by rw [List.length_map, hlen.out]; exact Nat.le_refl _)
      obtain ⟨a, ha⟩ : ∃ a, jsum (l.map ItT.red) = a := ⟨_, rfl⟩
      rw [hall, ha] at HSX0
      have HR := Lib.hid ha
      clear ha
      have hbz := hb1.trans (hbr.mono (Nat.le_of_lt hDw))
      have hbz6 := below_set6 hbz (Nat.le_refl _) (a := .int .i64 a.c) (b := .int .i64 a.i) (c := .int .i64 (hiI a.v)) (d := .int .u64 (loI a.v)) (e := .int .i64 a.l) (f := .int .i64 a.m)
      obtain ⟨⟨c0, c1, c2, c3, c4, c5⟩, -⟩ := HSX0.out
      obtain ⟨⟨r0, r1, r2, r3, r4, r5⟩, f0, f1, f2, f3, f4, f5⟩ := hs2.out
      clear hall hlt hk
      go_wp2
      refine bodyPost_ret (v := .agg #[.int .i64 a.c, .int .i64 a.i, .int .i64 (hiI a.v), .int .u64 (loI a.v), .int .i64 a.l, .int .i64 a.m]) ?_ rfl ⟨by rw [HR.out], hbz6⟩
      simp [results, Try.results41, go_sem, *]
/-- The sum of a node's items and of its first kids. -/
def NoT.sumK (X : NoT) (k : Nat) : RedT := ((X.K.map (·.r)).take k).foldl RedT.join (jsum (X.I.map ItT.red))
theorem sumK_next {X : NoT} {k : Nat} {x : KiT} (h : X.K[k]? = some x) : X.sumK (k + 1) = (X.sumK k).join x.r := by
  unfold NoT.sumK
  rw [take_next (show (X.K.map (·.r))[k]? = some x.r by rw [List.getElem?_map, h]; rfl), List.foldl_append]
  rfl
theorem fold_ci (ps : List RedT) (hv : ∀ p ∈ ps, p.valid = true) : ∀ a : RedT, 0 ≤ a.i ∧ a.i ≤ a.c → 0 ≤ (ps.foldl RedT.join a).i ∧ (ps.foldl RedT.join a).i ≤ (ps.foldl RedT.join a).c := by
  induction ps with
  | nil => intro a h; exact h
  | cons p ps ih =>
    intro a h
    have hp := valid_bounds p (hv p List.mem_cons_self)
    have h1 : (a.join p).i = a.i + p.i := rfl
    have h2 : (a.join p).c = a.c + p.c := rfl
    exact ih (fun q hq => hv q (List.mem_cons_of_mem _ hq)) (a.join p) (by omega)
theorem jrun_c2 : ∀ (l : List RedT) (a : RedT), a.c ≤ 1073741824 → (jrun l a).2 = 0 → (l.foldl RedT.join a).c ≤ 1073741824
  | [], a, ha, _ => ha
  | p :: l, a, ha, h => by
    have h' : (if 1073741824 - a.c < p.c then (RedT.zero, (5 : Int)) else jrun l (a.join p)).2 = 0 := h
    by_cases hc : 1073741824 - a.c < p.c
    · rw [if_pos hc] at h'
      exact absurd h' (by decide)
    · rw [if_neg hc] at h'
      have h3 : (a.join p).c = a.c + p.c := rfl
      exact jrun_c2 l (a.join p) (by omega) h'
theorem sum_ok {X : NoT} {w : World} {B : Nat} (hX : LieN w B X) (hok : X.okB = true) : X.sumK X.kN = X.all.1 ∧ ∀ k, k ≤ X.kN → (0 ≤ (X.sumK k).c ∧ (X.sumK k).c ≤ 1073741824) ∧ (0 ≤ (X.sumK k).i ∧ (X.sumK k).i ≤ 1073741824) := by
  obtain ⟨hs, hr, ha⟩ := okB_parts hok
  have hall := runOk_all _ _ hr
  unfold NoT.shape at hs
  cases hl : X.leaf
  · rw [hl, if_neg Bool.false_ne_true] at hs
    have h0 := of_decide_eq_true hs
    have hI : X.I = [] := List.eq_nil_of_length_eq_zero (by rw [hX.ilen]; exact h0.1)
    have he : X.ents = X.K.map EnT.ki := by unfold NoT.ents; rw [hl]; rfl
    have hv : ∀ p ∈ X.K.map (·.r), p.valid = true := by
      intro p hp
      obtain ⟨x, hx, rfl⟩ := List.mem_map.1 hp
      exact (ki_okB (x := x) (hall (.ki x) (by rw [he]; exact List.mem_map.2 ⟨x, hx, rfl⟩))).2.2.1
    have hA : X.all = jall (X.K.map (·.r)) := by
      unfold NoT.all
      rw [he, List.map_map]
      rfl
    have hz : ∀ k, X.sumK k = jsum ((X.K.map (·.r)).take k) := fun k => by unfold NoT.sumK; rw [hI]; rfl
    have hle : (jsum (X.K.map (·.r))).c ≤ 1073741824 := by
      rw [hA, jall_of _ (List.all_eq_true.2 hv)] at ha
      exact jrun_c2 _ _ (by decide) ha
    refine ⟨?_, fun k hk => ?_⟩
    · rw [hz, List.take_of_length_le (by rw [List.length_map, hX.klen]; exact Nat.le_refl _), hA, jall_fold _ hv hle]
      rfl
    · rw [hz]
      have h1 := fold_ci ((X.K.map (·.r)).take k) (fun p hp => hv p (List.mem_of_mem_take hp)) RedT.zero (by decide)
      have h2 : ((X.K.map (·.r)).take k).foldl RedT.join RedT.zero = jsum ((X.K.map (·.r)).take k) := rfl
      have h3 : (jsum ((X.K.map (·.r)).take k)).c ≤ (jsum (X.K.map (·.r))).c := by
        have h4 := fold_c ((X.K.map (·.r)).drop k) (jsum ((X.K.map (·.r)).take k)) (fun p hp => (valid_bounds p (hv p (List.mem_of_mem_drop hp))).1.1)
        unfold jsum at h4 ⊢
        rw [← List.foldl_append, List.take_append_drop] at h4
        exact h4
      rw [h2] at h1
      omega
  · rw [hl, if_pos rfl] at hs
    have h0 := of_decide_eq_true hs
    have hK : X.K = [] := List.eq_nil_of_length_eq_zero (by rw [hX.klen]; exact h0.1)
    have hz : ∀ k, X.sumK k = jsum (X.I.map ItT.red) := fun k => by unfold NoT.sumK; rw [hK, List.map_nil, List.take_nil]; rfl
    have hp := leaf_parts hok hl hX.ilen (fun x hx => (hX.items x hx).num)
    have hf : jsum (X.I.map ItT.red) = itR X.I := fold_rows X.I RedT.zero
    refine ⟨?_, fun k _ => ?_⟩
    · rw [hz, hp.2.2.1, hf]
    · rw [hz]
      have h1 := ones_at X.I X.I.length (by rw [hX.ilen]; omega)
      rw [List.take_of_length_le (by rw [List.length_map]; exact Nat.le_refl _)] at h1
      exact h1
set_option maxRecDepth 100000 in
set_option maxHeartbeats 2000000 in
theorem rRed14_any (X : NoT) (B : Nat) (w : World) (hX : LieN w B X) (hB : B ≤ w.heap.size) (hok : X.okB = true) :
    Calls Try.prog 21 #[X.agg] w fun e w' => e = .returned (aggR X.all.1) ∧ Below w.heap.size w w' := by
  have hso := sum_ok hX hok
  have hi6 : X.iN ≤ 60 := by
    have h1 := (okB_parts hok).1
    unfold NoT.shape at h1
    cases hl : X.leaf
    · rw [hl, if_neg Bool.false_ne_true] at h1
      have := of_decide_eq_true h1
      omega
    · rw [hl, if_pos rfl] at h1
      have := of_decide_eq_true h1
      omega
  have hkv : ∀ x ∈ X.K, x.r.valid = true ∨ X.kN = 0 := by
    intro x hx
    cases hl : X.leaf
    · have he : X.ents = X.K.map EnT.ki := by unfold NoT.ents; rw [hl]; rfl
      exact .inl (ki_okB (x := x) (runOk_all _ _ (okB_parts hok).2.1 (.ki x) (by rw [he]; exact List.mem_map.2 ⟨x, hx, rfl⟩))).2.2.1
    · have h1 := (okB_parts hok).1
      unfold NoT.shape at h1
      rw [hl, if_pos rfl] at h1
      exact .inr (of_decide_eq_true h1).1
  rw [← hso.1]
  have HSO := Lib.hid hso.2
  have HKV := Lib.hid hkv
  clear hso hkv hok
  have hb0 := bel_alloc (Below.refl w.heap.size w) (.cells #[.bool X.leaf, .slice X.iA X.iN X.iC, .slice X.kA X.kN X.kC] 25)
  have hb1 := bel_alloc hb0 (.cells #[.int .i64 0, .int .i64 0, .int .i64 0, .int .u64 0, .int .i64 0, .int .i64 0] 37)
  have hn0 := (NBox.new w (.bool X.leaf) (.slice X.iA X.iN X.iC) (.slice X.kA X.kN X.kC) 25).later (bel_alloc (Below.refl _ _) (.cells #[.int .i64 0, .int .i64 0, .int .i64 0, .int .u64 0, .int .i64 0, .int .i64 0] 37))
  have hs0 := Six.new (w.alloc (.cells #[.bool X.leaf, .slice X.iA X.iN X.iC, .slice X.kA X.kN X.kC] 25)) (.int .i64 0) (.int .i64 0) (.int .i64 0) (.int .u64 0) (.int .i64 0) (.int .i64 0) 37
  rw [World.size_alloc] at hs0
  have hagg : X.agg = .agg #[.bool X.leaf, .slice X.iA X.iN X.iC, .slice X.kA X.kN X.kC] := rfl
  rw [hagg]
  have HXL := Lib.hid (hX.later (hb1.mono hB))
  have hkl := Lib.hid hX.klen
  have h63 : (X.kN : Int) ≤ 9223372036854775807 := by
    have h3 := hX.kfit
    have h4 := hX.kmost
    unfold maxLen at h4
    omega
  clear hX hagg hb0
  unfold aggR
  have HN0 := Lib.hid hn0
  have HS0 := Lib.hid hs0
  obtain ⟨⟨m0, m1, m2⟩, -⟩ := hn0
  go_enter Try.func21, Try.ntmps21
  go_upto_region 1 with fail
  have hz1 : ((w.alloc (.cells #[.bool X.leaf, .slice X.iA X.iN X.iC, .slice X.kA X.kN X.kC] 25)).alloc (.cells #[.int .i64 0, .int .i64 0, .int .i64 0, .int .u64 0, .int .i64 0, .int .i64 0] 37)).heap.size = w.heap.size + 2 := by rw [World.size_alloc, World.size_alloc]
  generalize (w.alloc (.cells #[.bool X.leaf, .slice X.iA X.iN X.iC, .slice X.kA X.kN X.kC] 25)).alloc (.cells #[.int .i64 0, .int .i64 0, .int .i64 0, .int .u64 0, .int .i64 0, .int .i64 0] 37) = W1 at *
  have hca := rAll14_any X.iA X.iN X.iC B X.I W1 HXL.out.irow (by omega) (fun x hx => (HXL.out.items x hx).num) hi6
  unfold aggR at hca
  go_wp2_with fail
  refine hca.mono ?_
  rintro e W2 ⟨rfl, hb2⟩
  obtain ⟨r0, hr0⟩ : ∃ r, jsum (X.I.map ItT.red) = r := ⟨_, rfl⟩
  rw [hr0]
  have hb3 := bel_alloc hb2 (.cells #[.int .i64 r0.c, .int .i64 r0.i, .int .i64 (hiI r0.v), .int .u64 (loI r0.v), .int .i64 r0.l, .int .i64 r0.m] 37)
  have hs3 := Six.new W2 (.int .i64 r0.c) (.int .i64 r0.i) (.int .i64 (hiI r0.v)) (.int .u64 (loI r0.v)) (.int .i64 r0.l) (.int .i64 r0.m) 37
  have hD2 : W2.heap.size ≤ (W2.alloc (.cells #[.int .i64 r0.c, .int .i64 r0.i, .int .i64 (hiI r0.v), .int .u64 (loI r0.v), .int .i64 r0.l, .int .i64 r0.m] 37)).heap.size := by rw [World.size_alloc]; omega
  have HR0 := Lib.hid hr0
  have hsz2 := hb2.size
  clear hca hr0 m0 m1 m2
  go_upto_region 3 with fail
  generalize W2.alloc (.cells #[.int .i64 r0.c, .int .i64 r0.i, .int .i64 (hiI r0.v), .int .u64 (loI r0.v), .int .i64 r0.l, .int .i64 r0.m] 37) = W3 at *
  obtain ⟨D, hD⟩ : ∃ D, W2.heap.size = D := ⟨_, rfl⟩
  rw [hD] at hs3 hD2 hsz2 ⊢
  have hgn : w.heap.size + 1 < D := by omega
  have hBD : B ≤ D := by omega
  have HN3 := Lib.hid (HN0.out.later hb3)
  have HS3 : Hid (Six6 W3 D (X.sumK 0)) := Lib.hid (by unfold NoT.sumK; rw [List.take_zero, List.foldl_nil, HR0.out]; exact hs3)
  have HSZ3 := Lib.hid (HS0.out.below hb3 rfl)
  have HXL3 := Lib.hid (HXL.out.later (hb3.mono (by omega)))
  have hbz3 := hb1.trans (hb3.mono (by omega))
  obtain ⟨N, hN⟩ : ∃ N, X.kN = N := ⟨_, rfl⟩
  have HNN := Lib.hid hN
  obtain ⟨⟨m0, m1, m2⟩, -⟩ := HN3.out
  rw [hN] at h63 m2 ⊢
  clear hb1 hb2 hb3 hs3 hs0 hz1 hD hsz2 HN0 HS0 HXL hi6 HR0 hN
  go_wp2_with fail
  go_loopw [4] (fun x wr => ∃ k : Nat, k ≤ N ∧ x = .int .i64 (k : Int) ∧ Below D W3 wr ∧ Hid (Six6 wr D (X.sumK k))) (fun x _ => N - (intOf x).toNat)
  case atStart => exact ⟨0, Nat.zero_le _, rfl, Below.refl _ _, HS3⟩
  case round =>
    clear m0 m1 m2
    obtain ⟨k, hk, rfl, hbr, HSX0⟩ := hrel
    rename World => wr
    have hszr := hbr.size
    have hkeep : ∀ (j : Nat) (v : Value), W3.cell? ⟨w.heap.size, j, none⟩ = some v → ∀ W, Below D wr W → W.cell? ⟨w.heap.size, j, none⟩ = some v := fun j v h W hW => (hW.cell (show w.heap.size < D by omega)).trans ((hbr.cell (show w.heap.size < D by omega)).trans h)
    have m2 := hkeep _ _ HN3.out.1.2.2 wr (Below.refl _ _)
    rw [HNN.out] at m2
    by_cases hlt : k < N
    · obtain ⟨b, off, x, hxA, hbB, hx1, x0, x1, x2, x3, x4, x5, x6, x7⟩ := ki_at (HXL3.out.later (hbr.mono hBD)).krow (show k < X.kN by rw [HNN.out]; exact hlt)
      have hnx := sumK_next hx1
      have hbd := Lib.hid (HSO.out k (by rw [HNN.out]; exact hk))
      have hv : x.r.valid = true := by
        rcases HKV.out x (List.mem_of_getElem? hx1) with h | h
        · exact h
        · rw [HNN.out] at h
          omega
      have h1b := Lib.hid (And.intro (valid_bounds x.r hv) (norm_valid x.r hv).2)
      generalize X.sumK k = a at *
      obtain ⟨a', ha'⟩ : ∃ a', X.sumK (k + 1) = a' := ⟨_, rfl⟩
      rw [ha'] at hnx
      have HA' := Lib.hid ha'
      clear ha'
      have HNX := Lib.hid hnx
      have HcB := Lib.hid (fun W => rBoth_agg a x.r W hbd.out.1 h1b.out.1.1 hbd.out.2 ⟨h1b.out.1.2.1, by have := h1b.out.1; omega⟩ h1b.out.2)
      have HSX : Hid (Six wr.drew D (.int .i64 a.c) (.int .i64 a.i) (.int .i64 (hiI a.v)) (.int .u64 (loI a.v)) (.int .i64 a.l) (.int .i64 a.m)) := HSX0
      have hDW : D ≤ wr.drew.heap.size := Nat.le_trans hD2 hszr
      have hbD : b < D := by omega
      have d0 : ∀ W, Below D wr W → W.cell? ⟨w.heap.size, 2, none⟩ = some (.slice (some ⟨b, off, none⟩) N X.kC) := fun W h => by
        have h1 := hkeep _ _ HN3.out.1.2.2 W h
        rw [HNN.out, hxA] at h1
        exact h1
      have d1 : ∀ W, Below D wr W → W.cell? ⟨b, off + k * 8 + 2, none⟩ = some (.int .i64 x.r.c) := fun W h => (h.cell hbD).trans x2
      have d2 : ∀ W, Below D wr W → W.cell? ⟨b, off + k * 8 + 3, none⟩ = some (.int .i64 x.r.i) := fun W h => (h.cell hbD).trans x3
      have d3 : ∀ W, Below D wr W → W.cell? ⟨b, off + k * 8 + 4, none⟩ = some (.int .i64 (hiI x.r.v)) := fun W h => (h.cell hbD).trans x4
      have d4 : ∀ W, Below D wr W → W.cell? ⟨b, off + k * 8 + 5, none⟩ = some (.int .u64 (loI x.r.v)) := fun W h => (h.cell hbD).trans x5
      have d5 : ∀ W, Below D wr W → W.cell? ⟨b, off + k * 8 + 6, none⟩ = some (.int .i64 x.r.l) := fun W h => (h.cell hbD).trans x6
      have d6 : ∀ W, Below D wr W → W.cell? ⟨b, off + k * 8 + 7, none⟩ = some (.int .i64 x.r.m) := fun W h => (h.cell hbD).trans x7
      have hkn : (k : Int) < (N : Int) := by omega
      have hk0 : (0 : Int) ≤ (k : Int) := by omega
      rw [hxA] at m2
      clear x0 x1 x2 x3 x4 x5 x6 x7 hx1 hbd h1b HSX0 hnx hv hxA hkeep
      go_upto_region 5 with fail
      clear m2
      refine wp_region_held_drew (S := fun W => Below D wr W) (by kernel_rfl) (below_drewN (Below.refl _ _) 1) (fun hHeld => ?_)
      refine rg_in 1 rfl (by kernel_rfl) (by kernel_rfl) (by kernel_rfl) (by rfl) (v := ?_) (fun _ _ _ h => h) hHeld (fun w hSw => ?_) ?_
      rotate_left
      · (try dsimp only at hSw); go_simp <;> (with_reducible rfl)
      (try simp only [Act.put, List.setIfInBounds_toArray, List.set_cons_zero, List.set_cons_succ])
      refine rg_in 2 rfl (by kernel_rfl) (by kernel_rfl) (by kernel_rfl) (by rfl) (v := ?_) (fun _ _ _ h => h) hHeld (fun w hSw => ?_) ?_
      rotate_left
      · (try dsimp only at hSw); go_simp <;> (with_reducible rfl)
      (try simp only [Act.put, List.setIfInBounds_toArray, List.set_cons_zero, List.set_cons_succ])
      refine rg_in 3 rfl (by kernel_rfl) (by kernel_rfl) (by kernel_rfl) (by rfl) (v := ?_) (fun _ _ _ h => h) hHeld (fun w hSw => ?_) ?_
      rotate_left
      · (try dsimp only at hSw); go_simp <;> (with_reducible rfl)
      (try simp only [Act.put, List.setIfInBounds_toArray, List.set_cons_zero, List.set_cons_succ])
      refine rg_in 4 rfl (by kernel_rfl) (by kernel_rfl) (by kernel_rfl) (by rfl) (v := ?_) (fun _ _ _ h => h) hHeld (fun w hSw => ?_) ?_
      rotate_left
      · (try dsimp only at hSw); go_simp <;> (with_reducible rfl)
      (try simp only [Act.put, List.setIfInBounds_toArray, List.set_cons_zero, List.set_cons_succ])
      refine rg_in 5 rfl (by kernel_rfl) (by kernel_rfl) (by kernel_rfl) (by rfl) (v := ?_) (fun _ _ _ h => h) hHeld (fun w hSw => ?_) ?_
      rotate_left
      · (try dsimp only at hSw); go_simp <;> (with_reducible rfl)
      (try simp only [Act.put, List.setIfInBounds_toArray, List.set_cons_zero, List.set_cons_succ])
      refine rg_in 6 rfl (by kernel_rfl) (by kernel_rfl) (by kernel_rfl) (by rfl) (v := ?_) (fun _ _ _ h => h) hHeld (fun w hSw => ?_) ?_
      rotate_left
      · (try dsimp only at hSw); go_simp <;> (with_reducible rfl)
      (try simp only [Act.put, List.setIfInBounds_toArray, List.set_cons_zero, List.set_cons_succ])
      refine rg_do 0 rfl (by kernel_rfl) (by rfl) (fun K hK => ?_)
      have hsx := HSX.out
      obtain ⟨⟨c0, c1, c2, c3, c4, c5⟩, -⟩ := hsx
      go_simp
      clear c0 c1 c2 c3 c4 c5
      refine hK.out _ _ hHeld (fun hHeld => ?_)
      clear hK K
      (try simp only [Act.put, List.setIfInBounds_toArray, List.set_cons_zero, List.set_cons_succ])
      refine rg_do 7 rfl (by kernel_rfl) (by rfl) (fun K hK => ?_)
      go_simp
      (go_at_call 42; (with_reducible refine (HcB.out _).mono ?_); (rintro e w107 ⟨rfl, hbb⟩))
      have HSX := Lib.hid (Six.below HSX.out hbb rfl)
      have hDW2 := Nat.le_trans hDW hbb.size
      refine hK.out _ _ (hHeld.trans (hbb.mono hDW)) (fun hHeld => ?_)
      clear hK K
      (try simp only [Act.put, List.setIfInBounds_toArray, List.set_cons_zero, List.set_cons_succ])
      refine rg_do 8 rfl (by kernel_rfl) (by rfl) (fun K hK => ?_)
      obtain ⟨⟨c0, c1, c2, c3, c4, c5⟩, f0, f1, f2, f3, f4, f5⟩ := HSX.out
      go_simp
      clear c0 c1 c2 c3 c4 c5 f0 f1 f2 f3 f4 f5
      refine hK.out _ _ (below_set6 hHeld (Nat.le_refl _)) (fun hHeld => ?_)
      clear hK K
      (try simp only [Act.put, List.setIfInBounds_toArray, List.set_cons_zero, List.set_cons_succ])
      refine wpAnyH_done (by kernel_rfl) ?_ _
      have hsn := ((((((HSX.out.s0 (.int .i64 (a.join x.r).c)).s1 (.int .i64 (a.join x.r).i)).s2 (.int .i64 (hiI (a.join x.r).v))).s3 (.int .u64 (loI (a.join x.r).v))).s4 (.int .i64 (a.join x.r).l)).s5 (.int .i64 (a.join x.r).m))
      have HSN := Lib.hid hsn
      have HBN := Lib.hid (hbr.trans hHeld)
      rw [← HNX.out] at HSN HBN ⊢
      clear hHeld hsn HSX d0 d1 d2 d3 d4 d5 d6
      go_wp2_with fail
      go_roundw
      case rel => first | exact ⟨k + 1, by omega, by go_num, HBN.out, Lib.hid (by rw [HA'.out]; exact HSN.out)⟩ | exact ⟨_, ⟨k + 1, by omega, by go_num, HBN.out, Lib.hid (by rw [HA'.out]; exact HSN.out)⟩, rfl⟩
      case measure => simp [intOf]; omega
    · obtain rfl : N = k := by omega
      have hs2 : Hid (Six wr (w.heap.size + 1) (.int .i64 0) (.int .i64 0) (.int .i64 0) (.int .u64 0) (.int .i64 0) (.int .i64 0)) := Lib.hid (HSZ3.out.under hbr hgn)
      obtain ⟨a, ha⟩ : ∃ a, X.sumK N = a := ⟨_, rfl⟩
      rw [ha] at HSX0
      have HR : Hid (X.sumK X.kN = a) := Lib.hid (by rw [HNN.out]; exact ha)
      clear ha
      have hbz := hbz3.trans (hbr.mono (by omega))
      have hbz6 := below_set6 hbz (show w.heap.size ≤ w.heap.size + 1 by omega) (a := .int .i64 a.c) (b := .int .i64 a.i) (c := .int .i64 (hiI a.v)) (d := .int .u64 (loI a.v)) (e := .int .i64 a.l) (f := .int .i64 a.m)
      obtain ⟨⟨c0, c1, c2, c3, c4, c5⟩, -⟩ := HSX0.out
      obtain ⟨⟨r0', r1, r2, r3, r4, r5⟩, f0, f1, f2, f3, f4, f5⟩ := hs2.out
      clear hlt hk
      go_wp2
      refine bodyPost_ret (v := .agg #[.int .i64 a.c, .int .i64 a.i, .int .i64 (hiI a.v), .int .u64 (loI a.v), .int .i64 a.l, .int .i64 a.m]) ?_ rfl ⟨by rw [HR.out], hbz6⟩
      simp [results, Try.results21, go_sem, *]
end Go.Proofs.Ytnfohlabmidliaa
