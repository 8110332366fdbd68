/-
  Layer 4: the nodes of a value, from the outside in: an iterator that calls itself.
-/
import Derived.Test.YtnldiemggabdkaaDoorValF
import Derived.Test.YtnldiemggabdkaaDoorRf
import Derived.RangeFuncBound
import Derived.RangeFuncCalls
import Derived.RangeFuncLeaves
import Derived.Shelf.Abstract
import Derived.Shelf.RegionOpen
import Derived.OwnWalkIn
import Derived.TacticsInMore
import Derived.LoopNIn
import Derived.LoopIn
import Derived.Stop.RegionWithIn
import Derived.Deep.DeepCutAuto
namespace Go.Proofs.YtnldiemggabdkaaDoor
open Go.RowKit Go.Shelf
attribute [local go_sem] Oper.semAt_some
set_option linter.unusedVariables false

/-- Whatever lies from a block on stays as it is; there may be more. -/
def Keep (n : Nat) (W W' : World) : Prop := W.heap.size ≤ W'.heap.size ∧ ∀ b, n ≤ b → b < W.heap.size → W'.heap[b]? = W.heap[b]?
theorem Keep.refl (n : Nat) (W : World) : Keep n W W := ⟨Nat.le_refl _, fun _ _ _ => rfl⟩
theorem Keep.trans {n : Nat} {A B C : World} (h : Keep n A B) (k : Keep n B C) : Keep n A C := ⟨Nat.le_trans h.1 k.1, fun b hb hl => (k.2 b hb (Nat.lt_of_lt_of_le hl h.1)).trans (h.2 b hb hl)⟩
theorem Keep.of_below {n : Nat} {W W' : World} (h : Below W.heap.size W W') : Keep n W W' := ⟨h.size, fun b _ hl => h.block b hl⟩
theorem Keep.cell {n : Nat} {W W' : World} (h : Keep n W W') {b o : Nat} {v : Value} (hb : n ≤ b) (hc : W.cell? ⟨b, o, none⟩ = some v) : W'.cell? ⟨b, o, none⟩ = some v := by
  have hl := World.block_lt_of_cell? W _ hc
  have := h.2 b hb hl
  simp only [World.cell?] at hc ⊢
  rw [this]; exact hc
theorem nodes_split {k n : Int} {s : ByteArray} {cA : Option Addr} {cn cc : Nat} {kA : Option Addr} {kn kc : Nat} {keys : List ByteArray} {kids : List VT} (o j : Nat) {x : VT} (hx : kids[j]? = some x) :
    (VT.mk k n s cA cn cc kA kn kc keys kids).nodesL o = ((o + hN (k == 5 || k == 6), VT.mk k n s cA cn cc kA kn kc keys kids) :: (kids.take j).flatMap fun x => x.nodesL (o + hN (k == 5 || k == 6))) ++ (x.nodesL (o + hN (k == 5 || k == 6)) ++ (kids.drop (j + 1)).flatMap fun x => x.nodesL (o + hN (k == 5 || k == 6))) := by
  have hj := (List.getElem?_eq_some_iff.1 hx).1
  have hx' := (List.getElem?_eq_some_iff.1 hx).2
  have e : kids = kids.take j ++ (x :: kids.drop (j + 1)) := by
    have := List.take_append_drop j kids
    rw [List.drop_eq_getElem_cons hj, hx'] at this
    exact this.symm
  rw [nodes_mk, List.cons_append]
  congr 1
  have := congrArg (fun l => l.flatMap fun x : VT => x.nodesL (o + hN (k == 5 || k == 6))) e
  simp only [List.flatMap_append, List.flatMap_cons] at this
  exact this
theorem take_flat {α β : Type} (f : α → List β) (l : List α) (j : Nat) {x : α} (hx : l[j]? = some x) : (l.take (j + 1)).flatMap f = (l.take j).flatMap f ++ f x := by
  have hj := (List.getElem?_eq_some_iff.1 hx).1
  have hx' := (List.getElem?_eq_some_iff.1 hx).2
  rw [List.take_succ_eq_append_getElem hj, List.flatMap_append, hx']
  simp

/-- What the walk over a tree tells and leaves. -/
def WPost (J : List (Nat × VT) → World → Prop) (Jx : World → Prop) (n₁ : Nat) (pre L : List (Nat × VT)) (W : World) (e : Ending) (W' : World) : Prop :=
  e = .returned (.bool (passes pre L)) ∧ (passes pre L = true → J (pre ++ L) W') ∧ (passes pre L = false → Jx W') ∧ Keep n₁ W W'
def YPost (J : List (Nat × VT) → World → Prop) (Jx : World → Prop) (n₁ : Nat) (pre : List (Nat × VT)) (x : Nat × VT) (W : World) (e : Ending) (W' : World) : Prop :=
  e = .returned (.bool (stepOK pre x)) ∧ (stepOK pre x = true → J (pre ++ [x]) W') ∧ (stepOK pre x = false → Jx W') ∧ Keep n₁ W W'
theorem WPost.yes {J : List (Nat × VT) → World → Prop} {Jx : World → Prop} {n₁ : Nat} {pre L : List (Nat × VT)} {W W' : World} (h : passes pre L = true) (hj : J (pre ++ L) W') (hk : Keep n₁ W W') : WPost J Jx n₁ pre L W (.returned (.bool true)) W' :=
  ⟨by rw [h], fun _ => hj, fun e => (by rw [h] at e; cases e), hk⟩
theorem WPost.no {J : List (Nat × VT) → World → Prop} {Jx : World → Prop} {n₁ : Nat} {pre L : List (Nat × VT)} {W W' : World} (h : passes pre L = false) (hj : Jx W') (hk : Keep n₁ W W') : WPost J Jx n₁ pre L W (.returned (.bool false)) W' :=
  ⟨by rw [h], fun e => (by rw [h] at e; cases e), fun _ => hj, hk⟩
theorem step_le {L : List (Nat × VT)} {d : Nat} {T : VT} (h : stepOK L (d, T) = true) : d ≤ 8 := by
  unfold stepOK at h
  rw [Bool.and_eq_true, decide_eq_true_eq, mdL_snoc] at h
  have := h.1
  simp only at this
  omega
set_option maxRecDepth 100000 in
set_option maxHeartbeats 4000000 in
theorem vwalk_any (ln By Bw n₁ n₀ : Nat) (w0 : World) (J : List (Nat × VT) → World → Prop) (Jx : World → Prop)
    (hJ1 : ∀ pre W W', J pre W → Below W.heap.size W W' → J pre W')
    (hJ2 : ∀ pre W, J pre W → Below n₀ w0 W ∧ n₀ ≤ W.heap.size ∧ n₁ ≤ W.heap.size ∧ W.cell? ⟨By, 0, none⟩ = some (.func (.yield ln) #[] #[]) ∧ W.cell? ⟨Bw, 0, none⟩ = some (.func (.func 65) #[] #[.pointer (some ⟨By, 0, none⟩), .pointer (some ⟨Bw, 0, none⟩)]))
    (hY : ∀ m pre (d : Nat) (T : VT) W, J pre W → Lie w0 n₀ T → d ≤ 9 → YieldAt Fence.wide m Tryd.prog ln #[.int .i64 (d : Int), T.agg] W (YPost J Jx n₁ pre (d, T) W)) :
    ∀ T, Lie w0 n₀ T → ∀ outer, outer ≤ 8 → ∀ pre W, J pre W →
      Calls Tryd.prog 65 #[T.agg, .int .i64 (outer : Nat), .pointer (some ⟨By, 0, none⟩), .pointer (some ⟨Bw, 0, none⟩)] W (WPost J Jx n₁ pre (T.nodesL outer) W) := by
  intro T
  induction T using VT.ind with
  | h k n s cA cn cc kA kn kc keys kids ih =>
    intro hL outer ho pre W hJ
    have hL' := hL
    obtain ⟨hc, hk, hz, hkid⟩ := hL'
    have hcl := kids_len hc
    obtain ⟨d, hd⟩ : ∃ d, d = outer + hN (k == 5 || k == 6) := ⟨_, rfl⟩
    have hd9 : d ≤ 9 := by rw [hd]; unfold hN; split <;> omega
    have Hd := Lib.hid hd
    refine (callsIn_wide (n := 6)).1 ?_
    refine callsIn_of_wp Tryd.func65 rfl trivial ?_ rfl
    simp only [VT.agg, Tryd.ntmps65, List.size_toArray, List.length_cons, List.length_nil, Nat.reduceAdd, Nat.reduceSub, Array.replicate_succ, Array.replicate_zero, List.push_toArray, List.append_toArray, List.nil_append, List.cons_append]
    have hJ0 := hJ1 _ _ _ hJ (bel_alloc (Below.refl W.heap.size W) (.cells #[.int .i64 k, .int .i64 n, .string s, .slice cA cn cc, .slice kA kn kc] 25))
    gi_wp2_with fail
    refine ⟨trivial, (callsIn_wide.2 (vholder_any k (.int .i64 n) (.string s) (.slice cA cn cc) (.slice kA kn kc) _)).mono ?_⟩
    rintro e W1 ⟨rfl, hb1⟩
    have hJ3 := hJ1 _ _ _ hJ0 hb1
    have hK1 : Keep n₁ W W1 := (Keep.of_below (bel_alloc (Below.refl _ _) _)).trans (Keep.of_below hb1)
    obtain ⟨j1, j2, j3, j4, j5⟩ := hJ2 _ _ hJ3
    have bx : ∀ j u, (#[Value.int .i64 k, .int .i64 n, .string s, .slice cA cn cc, .slice kA kn kc] : Array Value)[j]? = some u → W1.cell? ⟨W.heap.size, j, none⟩ = some u := fun j u hu => new_later hb1 j hu
    have b0 : W1.cell? ⟨W.heap.size, 0, none⟩ = some (.int .i64 k) := bx 0 _ rfl
    have b1 : W1.cell? ⟨W.heap.size, 1, none⟩ = some (.int .i64 n) := bx 1 _ rfl
    have b2 : W1.cell? ⟨W.heap.size, 2, none⟩ = some (.string s) := bx 2 _ rfl
    have b3 : W1.cell? ⟨W.heap.size, 3, none⟩ = some (.slice cA cn cc) := bx 3 _ rfl
    have b4 : W1.cell? ⟨W.heap.size, 4, none⟩ = some (.slice kA kn kc) := bx 4 _ rfl
    have hn1W : n₁ ≤ W.heap.size := (hJ2 _ _ hJ).2.2.1
    have HK1 := Lib.hid hK1
    clear bx hK1 hJ hJ0
    have Hsplit := Lib.hid (fun (j : Nat) (x : VT) (hx : kids[j]? = some x) => nodes_split (k := k) (n := n) (s := s) (cA := cA) (cn := cn) (cc := cc) (kA := kA) (kn := kn) (kc := kc) (keys := keys) (kids := kids) outer j hx)
    have Hnodes := Lib.hid (nodes_mk k n s cA cn cc kA kn kc keys kids outer)
    rw [← hd] at Hsplit Hnodes
    have Hpre := Lib.hid (show stepOK pre (d, (.mk k n s cA cn cc kA kn kc keys kids)) = false → passes pre ((VT.mk k n s cA cn cc kA kn kc keys kids).nodesL outer) = false from fun h => by rw [Hnodes.out, passes, h]; rfl)
    generalize hNL : (VT.mk k n s cA cn cc kA kn kc keys kids).nodesL outer = NL at *
    clear hNL
    cases hh : (k == 5 || k == 6)
    · rw [hh, show hN false = 0 from rfl, Nat.add_zero] at hd
      subst hd
      clear Hd hh
      obtain ⟨fn, tmps, assign, body, hy, hR0⟩ := hY 5 pre d (.mk k n s cA cn cc kA kn kc keys kids) W1 hJ3 hL hd9
      simp only [VT.agg] at hy
      cases hs : stepOK pre (d, (VT.mk k n s cA cn cc kA kn kc keys kids))
      · have HP := Lib.hid (Hpre.out hs)
        have hR := hR0.mono (R' := fun e W' => e = .returned (.bool false) ∧ Jx W' ∧ Keep n₁ W1 W') (fun e W' h => ⟨by rw [h.1, hs], h.2.2.1 hs, h.2.2.2⟩)
        clear hJ1 hJ2 hY ih hJ3 hL hc hk hz hkid hb1 hs hn1W hR0 Hpre
        gi_wp2
        refine hR.mono ?_
        rintro e W3 ⟨rfl, hx, hK⟩
        gi_wp2
        go_ret
        exact WPost.no HP.out hx (HK1.out.trans hK)
      · have hR := hR0.mono (R' := fun e W' => e = .returned (.bool true) ∧ J (pre ++ [(d, (VT.mk k n s cA cn cc kA kn kc keys kids))]) W' ∧ Keep n₁ W1 W') (fun e W' h => ⟨by rw [h.1, hs], h.2.1 hs, h.2.2.2⟩)
        have hd8 := step_le hs
        have Hs := Lib.hid (show passes pre ((d, VT.mk k n s cA cn cc kA kn kc keys kids) :: (kids.take 0).flatMap fun x => x.nodesL d) = true by rw [passes, hs]; simp [passes])
        clear hs hR0 Hpre hJ3 hY hk hb1
        gi_wp2
        refine hR.mono ?_
        rintro e W3 ⟨rfl, hj3, hK⟩
        have c3 := hK.cell hn1W b3
        have HK3 := HK1.out.trans hK
        have hcn := Nat.le_trans hz.c1 hz.c2
        unfold maxLen at hcn
        clear hz b0 b1 b2 b3 b4 j1 j2 j3 j4 j5 hK hR hy
        gi_wp2
        gi_loopw [23] (fun i wr => ∃ j : Nat, j ≤ cn ∧ i = .int .i64 j ∧ Hid (passes pre ((d, VT.mk k n s cA cn cc kA kn kc keys kids) :: (kids.take j).flatMap fun x => x.nodesL d) = true) ∧ J (pre ++ ((d, VT.mk k n s cA cn cc kA kn kc keys kids) :: (kids.take j).flatMap fun x => x.nodesL d)) wr ∧ Keep n₁ W wr) (fun i _ => cn - (intOf i).toNat)
        case atStart => exact ⟨0, by omega, rfl, Hs, by simpa using hj3, HK3⟩
        case round =>
          obtain ⟨j, hj, rfl, Hp, hjr, hkr⟩ := hrel
          by_cases hlt : j < cn
          · have hlt' : (j : Int) < cn := by omega
            have hj0 : (0 : Int) ≤ j := by omega
            obtain ⟨i1, i2, i3, i4, i5⟩ := hJ2 _ _ hjr
            obtain ⟨b, off, x, hcA, hbB, hx, hfive⟩ := kids_at (hc.below i1) hlt
            have hxm := List.mem_of_getElem? hx
            have Hsp := Hsplit.out j x hx
            have Htk := take_flat (fun x : VT => x.nodesL d) kids j hx
            have hJn := fun o => hJ1 _ _ _ hjr (bel_alloc (Below.refl wr.heap.size wr) o)
            have Hno := Lib.hid (fun h : passes (pre ++ ((d, VT.mk k n s cA cn cc kA kn kc keys kids) :: (kids.take j).flatMap fun x => x.nodesL d)) (x.nodesL d) = false => show passes pre NL = false by rw [Hsp, passes_append, Hp.out, passes_append, h]; rfl)
            have e1 : ((d, VT.mk k n s cA cn cc kA kn kc keys kids) :: (kids.take (j + 1)).flatMap fun x => x.nodesL d) = ((d, VT.mk k n s cA cn cc kA kn kc keys kids) :: (kids.take j).flatMap fun x => x.nodesL d) ++ x.nodesL d := by rw [Htk]; rfl
            have Hyes := Lib.hid (fun h : passes (pre ++ ((d, VT.mk k n s cA cn cc kA kn kc keys kids) :: (kids.take j).flatMap fun x => x.nodesL d)) (x.nodesL d) = true => show passes pre ((d, VT.mk k n s cA cn cc kA kn kc keys kids) :: (kids.take (j + 1)).flatMap fun x => x.nodesL d) = true by rw [e1, passes_append, Hp.out, h]; rfl)
            have HJs := Lib.hid (fun (W : World) (h : J ((pre ++ ((d, VT.mk k n s cA cn cc kA kn kc keys kids) :: (kids.take j).flatMap fun x => x.nodesL d)) ++ x.nodesL d) W) => show J (pre ++ ((d, VT.mk k n s cA cn cc kA kn kc keys kids) :: (kids.take (j + 1)).flatMap fun x => x.nodesL d)) W by rw [e1, ← List.append_assoc]; exact h)
            have hcall := fun W' hJ' => ih x hxm (hkid x hxm) d hd8 (pre ++ ((d, VT.mk k n s cA cn cc kA kn kc keys kids) :: (kids.take j).flatMap fun x => x.nodesL d)) W' hJ'
            have HN := Lib.hid (show True from trivial)
            subst hcA
            clear Hsp Htk e1 hjr HN hJ1 hJ2 ih hc hkid Hsplit Hnodes Hp
            generalize hXL : x.nodesL d = XL at *
            clear hXL
            generalize pre ++ ((d, VT.mk k n s (some ⟨b, off, none⟩) cn cc kA kn kc keys kids) :: (kids.take j).flatMap fun x => x.nodesL d) = PA at *
            obtain ⟨xk, xn, xs, xcA, xcn, xcc, xkA, xkn, xkc, xkeys, xkids⟩ := x
            obtain ⟨f0, f1, f2, f3, f4⟩ := hfive
            simp only [VT.agg] at hcall
            have i5' := cell_keep i5 (.cells #[.int .i64 xk, .int .i64 xn, .string xs, .slice xcA xcn xcc, .slice xkA xkn xkc] 25)
            cases hp : passes PA XL
            · have HF := Lib.hid (Hno.out hp)
              have hcall2 := fun W' hJ' => (hcall W' hJ').mono (R' := fun e W2 => e = .returned (.bool false) ∧ Jx W2 ∧ Keep n₁ W' W2) (fun e W2 h => ⟨by rw [h.1, hp], h.2.2.1 hp, h.2.2.2⟩)
              clear hcall Hno Hyes HJs hp
              gi_wp2_with fail
              refine ⟨trivial, (callsIn_wide.2 (hcall2 _ (hJn _))).mono ?_⟩
              rintro e W5 ⟨rfl, hx5, hk5⟩
              gi_wp2
              go_ret
              exact WPost.no HF.out hx5 (hkr.trans ((Keep.of_below (bel_alloc (Below.refl _ _) _)).trans hk5))
            · have HT := Lib.hid (Hyes.out hp)
              have hcall2 := fun W' hJ' => (hcall W' hJ').mono (R' := fun e W2 => e = .returned (.bool true) ∧ J (PA ++ XL) W2 ∧ Keep n₁ W' W2) (fun e W2 h => ⟨by rw [h.1, hp], h.2.1 hp, h.2.2.2⟩)
              clear hcall Hno Hyes hp
              gi_wp2_with fail
              refine ⟨trivial, (callsIn_wide.2 (hcall2 _ (hJn _))).mono ?_⟩
              rintro e W5 ⟨rfl, hx5, hk5⟩
              have Hj5 := Lib.hid (HJs.out W5 hx5)
              clear hx5 hcall2 hJn
              gi_wp2
              go_roundw
              case rel => exact ⟨j + 1, by omega, by go_num, HT, Hj5.out, hkr.trans ((Keep.of_below (bel_alloc (Below.refl _ _) _)).trans hk5)⟩
              case measure => simp [intOf]; omega
          · have hjn : j = cn := by omega
            have HF : Hid (passes pre NL = true) := Lib.hid (by have h0 := Hp.out; rw [List.take_of_length_le (l := kids) (i := j) (by omega)] at h0; rw [Hnodes.out]; exact h0)
            have HJ : Hid (J (pre ++ NL) wr) := Lib.hid (by have h0 := hjr; rw [List.take_of_length_le (l := kids) (i := j) (by omega)] at h0; rw [Hnodes.out]; exact h0)
            subst hjn
            clear hJ1 hJ2 ih hc hkid hjr Hsplit Hnodes
            gi_wp2
            go_ret
            exact WPost.yes HF.out HJ.out hkr
    · rw [hh, show hN true = 1 from rfl] at hd
      have hdi : (outer : Int) + 1 = (d : Int) := by omega
      clear hd
      clear Hd hh
      obtain ⟨fn, tmps, assign, body, hy, hR0⟩ := hY 5 pre d (.mk k n s cA cn cc kA kn kc keys kids) W1 hJ3 hL hd9
      simp only [VT.agg] at hy
      cases hs : stepOK pre (d, (VT.mk k n s cA cn cc kA kn kc keys kids))
      · have HP := Lib.hid (Hpre.out hs)
        have hR := hR0.mono (R' := fun e W' => e = .returned (.bool false) ∧ Jx W' ∧ Keep n₁ W1 W') (fun e W' h => ⟨by rw [h.1, hs], h.2.2.1 hs, h.2.2.2⟩)
        clear hJ1 hJ2 hY ih hJ3 hL hc hk hz hkid hb1 hs hn1W hR0 Hpre
        gi_wp2
        refine hR.mono ?_
        rintro e W3 ⟨rfl, hx, hK⟩
        gi_wp2
        go_ret
        exact WPost.no HP.out hx (HK1.out.trans hK)
      · have hR := hR0.mono (R' := fun e W' => e = .returned (.bool true) ∧ J (pre ++ [(d, (VT.mk k n s cA cn cc kA kn kc keys kids))]) W' ∧ Keep n₁ W1 W') (fun e W' h => ⟨by rw [h.1, hs], h.2.1 hs, h.2.2.2⟩)
        have hd8 := step_le hs
        have Hs := Lib.hid (show passes pre ((d, VT.mk k n s cA cn cc kA kn kc keys kids) :: (kids.take 0).flatMap fun x => x.nodesL d) = true by rw [passes, hs]; simp [passes])
        clear hs hR0 Hpre hJ3 hY hk hb1
        gi_wp2
        refine hR.mono ?_
        rintro e W3 ⟨rfl, hj3, hK⟩
        have c3 := hK.cell hn1W b3
        have HK3 := HK1.out.trans hK
        have hcn := Nat.le_trans hz.c1 hz.c2
        unfold maxLen at hcn
        clear hz b0 b1 b2 b3 b4 j1 j2 j3 j4 j5 hK hR hy
        gi_wp2
        gi_loopw [23] (fun i wr => ∃ j : Nat, j ≤ cn ∧ i = .int .i64 j ∧ Hid (passes pre ((d, VT.mk k n s cA cn cc kA kn kc keys kids) :: (kids.take j).flatMap fun x => x.nodesL d) = true) ∧ J (pre ++ ((d, VT.mk k n s cA cn cc kA kn kc keys kids) :: (kids.take j).flatMap fun x => x.nodesL d)) wr ∧ Keep n₁ W wr) (fun i _ => cn - (intOf i).toNat)
        case atStart => exact ⟨0, by omega, rfl, Hs, by simpa using hj3, HK3⟩
        case round =>
          obtain ⟨j, hj, rfl, Hp, hjr, hkr⟩ := hrel
          by_cases hlt : j < cn
          · have hlt' : (j : Int) < cn := by omega
            have hj0 : (0 : Int) ≤ j := by omega
            obtain ⟨i1, i2, i3, i4, i5⟩ := hJ2 _ _ hjr
            obtain ⟨b, off, x, hcA, hbB, hx, hfive⟩ := kids_at (hc.below i1) hlt
            have hxm := List.mem_of_getElem? hx
            have Hsp := Hsplit.out j x hx
            have Htk := take_flat (fun x : VT => x.nodesL d) kids j hx
            have hJn := fun o => hJ1 _ _ _ hjr (bel_alloc (Below.refl wr.heap.size wr) o)
            have Hno := Lib.hid (fun h : passes (pre ++ ((d, VT.mk k n s cA cn cc kA kn kc keys kids) :: (kids.take j).flatMap fun x => x.nodesL d)) (x.nodesL d) = false => show passes pre NL = false by rw [Hsp, passes_append, Hp.out, passes_append, h]; rfl)
            have e1 : ((d, VT.mk k n s cA cn cc kA kn kc keys kids) :: (kids.take (j + 1)).flatMap fun x => x.nodesL d) = ((d, VT.mk k n s cA cn cc kA kn kc keys kids) :: (kids.take j).flatMap fun x => x.nodesL d) ++ x.nodesL d := by rw [Htk]; rfl
            have Hyes := Lib.hid (fun h : passes (pre ++ ((d, VT.mk k n s cA cn cc kA kn kc keys kids) :: (kids.take j).flatMap fun x => x.nodesL d)) (x.nodesL d) = true => show passes pre ((d, VT.mk k n s cA cn cc kA kn kc keys kids) :: (kids.take (j + 1)).flatMap fun x => x.nodesL d) = true by rw [e1, passes_append, Hp.out, h]; rfl)
            have HJs := Lib.hid (fun (W : World) (h : J ((pre ++ ((d, VT.mk k n s cA cn cc kA kn kc keys kids) :: (kids.take j).flatMap fun x => x.nodesL d)) ++ x.nodesL d) W) => show J (pre ++ ((d, VT.mk k n s cA cn cc kA kn kc keys kids) :: (kids.take (j + 1)).flatMap fun x => x.nodesL d)) W by rw [e1, ← List.append_assoc]; exact h)
            have hcall := fun W' hJ' => ih x hxm (hkid x hxm) d hd8 (pre ++ ((d, VT.mk k n s cA cn cc kA kn kc keys kids) :: (kids.take j).flatMap fun x => x.nodesL d)) W' hJ'
            have HN := Lib.hid (show True from trivial)
            subst hcA
            clear Hsp Htk e1 hjr HN hJ1 hJ2 ih hc hkid Hsplit Hnodes Hp
            generalize hXL : x.nodesL d = XL at *
            clear hXL
            generalize pre ++ ((d, VT.mk k n s (some ⟨b, off, none⟩) cn cc kA kn kc keys kids) :: (kids.take j).flatMap fun x => x.nodesL d) = PA at *
            obtain ⟨xk, xn, xs, xcA, xcn, xcc, xkA, xkn, xkc, xkeys, xkids⟩ := x
            obtain ⟨f0, f1, f2, f3, f4⟩ := hfive
            simp only [VT.agg] at hcall
            have i5' := cell_keep i5 (.cells #[.int .i64 xk, .int .i64 xn, .string xs, .slice xcA xcn xcc, .slice xkA xkn xkc] 25)
            cases hp : passes PA XL
            · have HF := Lib.hid (Hno.out hp)
              have hcall2 := fun W' hJ' => (hcall W' hJ').mono (R' := fun e W2 => e = .returned (.bool false) ∧ Jx W2 ∧ Keep n₁ W' W2) (fun e W2 h => ⟨by rw [h.1, hp], h.2.2.1 hp, h.2.2.2⟩)
              clear hcall Hno Hyes HJs hp
              gi_wp2_with fail
              refine ⟨trivial, (callsIn_wide.2 (hcall2 _ (hJn _))).mono ?_⟩
              rintro e W5 ⟨rfl, hx5, hk5⟩
              gi_wp2
              go_ret
              exact WPost.no HF.out hx5 (hkr.trans ((Keep.of_below (bel_alloc (Below.refl _ _) _)).trans hk5))
            · have HT := Lib.hid (Hyes.out hp)
              have hcall2 := fun W' hJ' => (hcall W' hJ').mono (R' := fun e W2 => e = .returned (.bool true) ∧ J (PA ++ XL) W2 ∧ Keep n₁ W' W2) (fun e W2 h => ⟨by rw [h.1, hp], h.2.1 hp, h.2.2.2⟩)
              clear hcall Hno Hyes hp
              gi_wp2_with fail
              refine ⟨trivial, (callsIn_wide.2 (hcall2 _ (hJn _))).mono ?_⟩
              rintro e W5 ⟨rfl, hx5, hk5⟩
              have Hj5 := Lib.hid (HJs.out W5 hx5)
              clear hx5 hcall2 hJn
              gi_wp2
              go_roundw
              case rel => exact ⟨j + 1, by omega, by go_num, HT, Hj5.out, hkr.trans ((Keep.of_below (bel_alloc (Below.refl _ _) _)).trans hk5)⟩
              case measure => simp [intOf]; omega
          · have hjn : j = cn := by omega
            have HF : Hid (passes pre NL = true) := Lib.hid (by have h0 := Hp.out; rw [List.take_of_length_le (l := kids) (i := j) (by omega)] at h0; rw [Hnodes.out]; exact h0)
            have HJ : Hid (J (pre ++ NL) wr) := Lib.hid (by have h0 := hjr; rw [List.take_of_length_le (l := kids) (i := j) (by omega)] at h0; rw [Hnodes.out]; exact h0)
            subst hjn
            clear hJ1 hJ2 ih hc hkid hjr Hsplit Hnodes
            gi_wp2
            go_ret
            exact WPost.yes HF.out HJ.out hkr
end Go.Proofs.YtnldiemggabdkaaDoor
