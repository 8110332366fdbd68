/-
  Layer 10: an operation run: its four askings in their order, then its work.
-/
import Derived.Test.YthoenmggjbojoaaFilZ
import Derived.Laws.EntriesVeiled
import Derived.Deep.WholeRow
namespace Go.Proofs.Ythoenmggjbojoaa
open Go.RowKit
set_option linter.unusedVariables false

theorem FVar.set3 {W : World} {g : Nat} {a b c d e : Value} (v : Value) (h : FVar W g a b c d e) : FVar (W.setCell ⟨g, 3, none⟩ v) g a b c v e := by
  obtain ⟨⟨h0, h1, h2, h3, h4⟩, k0, k1, k2, k3, k4⟩ := h
  refine ⟨⟨?_, ?_, ?_, ?_, ?_⟩, ?_, ?_, ?_, ?_, ?_⟩ <;> simp [go_sem, *]
theorem FVar.set2 {W : World} {g : Nat} {a b c d e : Value} (v : Value) (h : FVar W g a b c d e) : FVar (W.setCell ⟨g, 2, none⟩ v) g a b v d e := by
  obtain ⟨⟨h0, h1, h2, h3, h4⟩, k0, k1, k2, k3, k4⟩ := h
  refine ⟨⟨?_, ?_, ?_, ?_, ?_⟩, ?_, ?_, ?_, ?_, ?_⟩ <;> simp [go_sem, *]
theorem FVar.set4 {W : World} {g : Nat} {a b c d e : Value} (v : Value) (h : FVar W g a b c d e) : FVar (W.setCell ⟨g, 4, none⟩ v) g a b c d v := by
  obtain ⟨⟨h0, h1, h2, h3, h4⟩, k0, k1, k2, k3, k4⟩ := h
  refine ⟨⟨?_, ?_, ?_, ?_, ?_⟩, ?_, ?_, ?_, ?_, ?_⟩ <;> simp [go_sem, *]
theorem FVar.other {W : World} {g k i : Nat} {a b c d e : Value} (v : Value) (hk : k ≠ g) (h : FVar W k a b c d e) : FVar (W.setCell ⟨g, i, none⟩ v) k a b c d e := by
  obtain ⟨⟨h0, h1, h2, h3, h4⟩, k0, k1, k2, k3, k4⟩ := h
  refine ⟨⟨?_, ?_, ?_, ?_, ?_⟩, ?_, ?_, ?_, ?_, ?_⟩ <;> simp [go_sem, *]
/-- A file's store into a variable. -/
def set5F (W : World) (k : Nat) (a b c d e : Value) : World := ((((W.setCell ⟨k, 0, none⟩ a).setCell ⟨k, 1, none⟩ b).setCell ⟨k, 2, none⟩ c).setCell ⟨k, 3, none⟩ d).setCell ⟨k, 4, none⟩ e
/-- The variables other than one stay. -/
def KeepsF (g : Nat) (W W' : World) : Prop := ∀ k a b c d e, k ≠ g → k < W.heap.size → FVar W k a b c d e → FVar W' k a b c d e
/-- The blocks other than one are as they were. -/
def OnlyG (g : Nat) (w W : World) : Prop := ∀ k, k < w.heap.size → k ≠ g → W.heap[k]? = w.heap[k]?
theorem OnlyG.next {g : Nat} {w W W' : World} (h : OnlyG g w W) (hs : w.heap.size ≤ W.heap.size) (hb : Below W.heap.size W W') : OnlyG g w W' := fun k hk hne => (hb.block k (by omega)).trans (h k hk hne)
theorem OnlyG.set {g : Nat} {w W : World} (h : OnlyG g w W) (i : Nat) (v : Value) : OnlyG g w (W.setCell ⟨g, i, none⟩ v) := fun k hk hne => (Below.heap_setCell W _ v k hne).trans (h k hk hne)
def RunP (X : FileT) (gr B : Nat) (J : Value → Value → World → Prop) (w : World) (e : Ending) (w' : World) : Prop :=
  ∃ r : FileS × Int, X.s.asked X.long gr = r ∧ Below B w w' ∧
    (r.2 ≠ 0 ∧ e = .returned (.tuple #[.agg #[.slice X.F.A X.F.n X.F.c, .slice X.lA X.ln X.lc, .int .i64 r.1.fuse, .int .i64 r.1.fault, .bool r.1.off], .int .i64 r.2])
    ∨ r.2 = 0 ∧ ∃ v0 v1, J v0 v1 w' ∧ e = .returned (.tuple #[.agg #[v0, v1, .int .i64 r.1.fuse, .int .i64 r.1.fault, .bool r.1.off], .int .i64 0]))
def Var0 (X : FileT) (gr g : Nat) (W : World) : Prop := FVar W g (.slice X.F.A X.F.n X.F.c) (.slice X.lA X.ln X.lc) (.int .i64 X.fuse) (.int .i64 X.fault) (.bool X.off) ∧ W.cell? ⟨g, 5, none⟩ = some (.int .i64 (gr : Nat))
def Var4 (X : FileT) (g : Nat) (W : World) : Prop := FVar W g (.slice X.F.A X.F.n X.F.c) (.slice X.lA X.ln X.lc) (.int .i64 (tickN X.fuse)) (.int .i64 (tickN X.fault)) (.bool false)
def Phase (X : FileT) (gr g : Nat) (W : World) (k : Nat) : Prop :=
  k = 0 ∧ Var0 X gr g W ∨ k = 1 ∧ X.off = false ∧ Var0 X gr g W ∨ k = 2 ∧ X.off = false ∧ ¬ 524288 < X.long + gr ∧ Var0 X gr g W ∨
  k = 3 ∧ X.off = false ∧ ¬ 524288 < X.long + gr ∧ ¬ X.fault = 0 ∧ Var0 X gr g W ∨ k = 4 ∧ X.off = false ∧ ¬ 524288 < X.long + gr ∧ ¬ X.fault = 0 ∧ ¬ X.fuse = 0 ∧ Var4 X g W
theorem asked_1 {X : FileT} {gr : Nat} (h : X.off = true) : X.s.asked X.long gr = (⟨X.F.l, X.L.map (·.l), X.fuse, X.fault, X.off⟩, 10) := by
  unfold FileS.asked; exact if_pos h
theorem asked_2 {X : FileT} {gr : Nat} (h : X.off = false) (h2 : 524288 < X.long + gr) : X.s.asked X.long gr = (⟨X.F.l, X.L.map (·.l), X.fuse, X.fault, X.off⟩, 8) := by
  unfold FileS.asked; exact (if_neg (by show ¬ X.off = true; rw [h]; decide)).trans (if_pos h2)
theorem asked_3 {X : FileT} {gr : Nat} (h : X.off = false) (h2 : ¬ 524288 < X.long + gr) (h3 : X.fault = 0) : X.s.asked X.long gr = (⟨X.F.l, X.L.map (·.l), X.fuse, -1, X.off⟩, 9) := by
  unfold FileS.asked; exact (if_neg (by show ¬ X.off = true; rw [h]; decide)).trans ((if_neg h2).trans (if_pos h3))
theorem asked_4 {X : FileT} {gr : Nat} (h : X.off = false) (h2 : ¬ 524288 < X.long + gr) (h3 : ¬ X.fault = 0) (h4 : X.fuse = 0) : X.s.asked X.long gr = (⟨X.F.l, X.L.map (·.l), -1, tickN X.fault, true⟩, 10) := by
  unfold FileS.asked; exact (if_neg (by show ¬ X.off = true; rw [h]; decide)).trans ((if_neg h2).trans ((if_neg h3).trans (if_pos h4)))
theorem asked_5 {X : FileT} {gr : Nat} (h : X.off = false) (h2 : ¬ 524288 < X.long + gr) (h3 : ¬ X.fault = 0) (h4 : ¬ X.fuse = 0) : X.s.asked X.long gr = (⟨X.F.l, X.L.map (·.l), tickN X.fuse, tickN X.fault, false⟩, 0) := by
  unfold FileS.asked; exact (if_neg (by show ¬ X.off = true; rw [h]; decide)).trans ((if_neg h2).trans ((if_neg h3).trans ((if_neg h4).trans (by show ((⟨X.F.l, X.L.map (·.l), tickN X.fuse, tickN X.fault, X.off⟩, 0) : FileS × Int) = _; rw [h]))))
set_option maxRecDepth 20000 in
set_option maxHeartbeats 4000000 in
theorem run_any (X : FileT) (g gr B fw : Nat) (cap : Array Value) (J : Value → Value → World → Prop) (w : World) (h : FVar w g (.slice X.F.A X.F.n X.F.c) (.slice X.lA X.ln X.lc) (.int .i64 X.fuse) (.int .i64 X.fault) (.bool X.off)) (h5 : w.cell? ⟨g, 5, none⟩ = some (.int .i64 (gr : Nat))) (hL : LieF w B X) (hB : B ≤ g) (hg : g < w.heap.size) (hN : ∀ p ∈ X.Q, p.n ≤ 1048576) (hl : X.long ≤ 524288)
    (hcf : ∀ W, Sem.run Try.prog (callFunc fw cap) W = .ok (.enter fw cap) W)
    (hwork : ∀ W, FVar W g (.slice X.F.A X.F.n X.F.c) (.slice X.lA X.ln X.lc) (.int .i64 (tickN X.fuse)) (.int .i64 (tickN X.fault)) (.bool false) → Below B w W → w.heap.size + 2 ≤ W.heap.size → OnlyG g w W →
      Calls Try.prog fw cap W fun e W' => e = .returned (.tuple #[]) ∧ Below B W W' ∧ KeepsF g W W' ∧ ∃ A0 n0 c0 A1 n1 c1, FVar W' g (.slice A0 n0 c0) (.slice A1 n1 c1) (.int .i64 (tickN X.fuse)) (.int .i64 (tickN X.fault)) (.bool false) ∧ J (.slice A0 n0 c0) (.slice A1 n1 c1) W')
    (hJ : ∀ v0 v1 W a b c d e, J v0 v1 W → J v0 v1 (set5F W w.heap.size a b c d e)) :
    Calls Try.prog 48 #[.pointer (some ⟨g, 0, none⟩), .func (.func fw) #[] cap] w (RunP X gr B J w) := by
  have hmf : ∀ (fn : Fn) (first cap : Array Value) (w : World), (Instr.makeFunc fn first cap).run Try.prog w = .ok (.func fn first cap) w := fun _ _ _ _ => rfl
  go_enter Try.func48, Try.ntmps48
  go_upto_region 1 with fail
  go_step3
  go_upto_region 3 with fail
  have hb0 := ((Below.refl B w).alloc (by omega) (.cells #[.slice none 0 0, .slice none 0 0, .int .i64 0, .int .i64 0, .bool false] 25)).alloc (by simp; omega) (.cells #[.func (.func 54) #[.pointer (some ⟨g, 0, none⟩)] #[], .func (.func 55) #[.pointer (some ⟨g, 0, none⟩)] #[], .func (.func 56) #[.pointer (some ⟨g, 0, none⟩)] #[], .func (.func 57) #[.pointer (some ⟨g, 0, none⟩)] #[]] 77)
  have HX := bel_next (bel_alloc (Below.refl w.heap.size w) (.cells #[.slice none 0 0, .slice none 0 0, .int .i64 0, .int .i64 0, .bool false] 25)) (bel_alloc (Below.refl _ _) (.cells #[.func (.func 54) #[.pointer (some ⟨g, 0, none⟩)] #[], .func (.func 55) #[.pointer (some ⟨g, 0, none⟩)] #[], .func (.func 56) #[.pointer (some ⟨g, 0, none⟩)] #[], .func (.func 57) #[.pointer (some ⟨g, 0, none⟩)] #[]] 77))
  have HO0 := Lib.hid (show OnlyG g w ((w.alloc (.cells #[.slice none 0 0, .slice none 0 0, .int .i64 0, .int .i64 0, .bool false] 25)).alloc (.cells #[.func (.func 54) #[.pointer (some ⟨g, 0, none⟩)] #[], .func (.func 55) #[.pointer (some ⟨g, 0, none⟩)] #[], .func (.func 56) #[.pointer (some ⟨g, 0, none⟩)] #[], .func (.func 57) #[.pointer (some ⟨g, 0, none⟩)] #[]] 77)) from fun k hk _ => HX.block k hk)
  have hv0 : Var0 X gr g ((w.alloc (.cells #[.slice none 0 0, .slice none 0 0, .int .i64 0, .int .i64 0, .bool false] 25)).alloc (.cells #[.func (.func 54) #[.pointer (some ⟨g, 0, none⟩)] #[], .func (.func 55) #[.pointer (some ⟨g, 0, none⟩)] #[], .func (.func 56) #[.pointer (some ⟨g, 0, none⟩)] #[], .func (.func 57) #[.pointer (some ⟨g, 0, none⟩)] #[]] 77)) := ⟨h.later HX, kept_later HX h5⟩
  have hK0 : FVar ((w.alloc (.cells #[.slice none 0 0, .slice none 0 0, .int .i64 0, .int .i64 0, .bool false] 25)).alloc (.cells #[.func (.func 54) #[.pointer (some ⟨g, 0, none⟩)] #[], .func (.func 55) #[.pointer (some ⟨g, 0, none⟩)] #[], .func (.func 56) #[.pointer (some ⟨g, 0, none⟩)] #[], .func (.func 57) #[.pointer (some ⟨g, 0, none⟩)] #[]] 77)) w.heap.size (.slice none 0 0) (.slice none 0 0) (.int .i64 0) (.int .i64 0) (.bool false) := (FVar.new w _ _ _ _ _ _).later (bel_alloc (Below.refl _ _) _)
  have hs0 : w.heap.size + 2 ≤ ((w.alloc (.cells #[.slice none 0 0, .slice none 0 0, .int .i64 0, .int .i64 0, .bool false] 25)).alloc (.cells #[.func (.func 54) #[.pointer (some ⟨g, 0, none⟩)] #[], .func (.func 55) #[.pointer (some ⟨g, 0, none⟩)] #[], .func (.func 56) #[.pointer (some ⟨g, 0, none⟩)] #[], .func (.func 57) #[.pointer (some ⟨g, 0, none⟩)] #[]] 77)).heap.size := by simp
  have ix0 : ∀ W, (Instr.index 77 (.agg #[.func (.func 54) #[.pointer (some ⟨g, 0, none⟩)] #[], .func (.func 55) #[.pointer (some ⟨g, 0, none⟩)] #[], .func (.func 56) #[.pointer (some ⟨g, 0, none⟩)] #[], .func (.func 57) #[.pointer (some ⟨g, 0, none⟩)] #[]]) (.int .i64 0)).run Try.prog W = .ok (.func (.func 54) #[.pointer (some ⟨g, 0, none⟩)] #[]) W := fun _ => by kernel_rfl
  have ix1 : ∀ W, (Instr.index 77 (.agg #[.func (.func 54) #[.pointer (some ⟨g, 0, none⟩)] #[], .func (.func 55) #[.pointer (some ⟨g, 0, none⟩)] #[], .func (.func 56) #[.pointer (some ⟨g, 0, none⟩)] #[], .func (.func 57) #[.pointer (some ⟨g, 0, none⟩)] #[]]) (.int .i64 1)).run Try.prog W = .ok (.func (.func 55) #[.pointer (some ⟨g, 0, none⟩)] #[]) W := fun _ => by kernel_rfl
  have ix2 : ∀ W, (Instr.index 77 (.agg #[.func (.func 54) #[.pointer (some ⟨g, 0, none⟩)] #[], .func (.func 55) #[.pointer (some ⟨g, 0, none⟩)] #[], .func (.func 56) #[.pointer (some ⟨g, 0, none⟩)] #[], .func (.func 57) #[.pointer (some ⟨g, 0, none⟩)] #[]]) (.int .i64 2)).run Try.prog W = .ok (.func (.func 56) #[.pointer (some ⟨g, 0, none⟩)] #[]) W := fun _ => by kernel_rfl
  have ix3 : ∀ W, (Instr.index 77 (.agg #[.func (.func 54) #[.pointer (some ⟨g, 0, none⟩)] #[], .func (.func 55) #[.pointer (some ⟨g, 0, none⟩)] #[], .func (.func 56) #[.pointer (some ⟨g, 0, none⟩)] #[], .func (.func 57) #[.pointer (some ⟨g, 0, none⟩)] #[]]) (.int .i64 3)).run Try.prog W = .ok (.func (.func 57) #[.pointer (some ⟨g, 0, none⟩)] #[]) W := fun _ => by kernel_rfl
  go_step3
  go_wp2_with fail
  generalize (w.alloc (.cells #[.slice none 0 0, .slice none 0 0, .int .i64 0, .int .i64 0, .bool false] 25)).alloc (.cells #[.func (.func 54) #[.pointer (some ⟨g, 0, none⟩)] #[], .func (.func 55) #[.pointer (some ⟨g, 0, none⟩)] #[], .func (.func 56) #[.pointer (some ⟨g, 0, none⟩)] #[], .func (.func 57) #[.pointer (some ⟨g, 0, none⟩)] #[]] 77) = W0 at *
  clear h h5 HX
  have Hn := Lib.hid (Nat.ne_of_gt hg)
  have hBK : B ≤ w.heap.size := by omega
  have HL := Lib.hid hL
  have HN := Lib.hid hN
  have HW := Lib.hid hwork
  have HJ := Lib.hid hJ
  clear hL hN hwork hJ
  go_loopw [7, 9, 20] (fun er ck i wr => ∃ k : Nat, i = .int .i64 k ∧ k ≤ 4 ∧ er = .int .i64 0 ∧ Hid (Phase X gr g wr k) ∧ Below B w wr ∧ w.heap.size + 2 ≤ wr.heap.size ∧ Hid (FVar wr w.heap.size (.slice none 0 0) (.slice none 0 0) (.int .i64 0) (.int .i64 0) (.bool false)) ∧ Hid (OnlyG g w wr)) (fun _ _ i _ => 4 - (intOf i).toNat)
  case atStart => exact ⟨0, rfl, by omega, rfl, Lib.hid (.inl ⟨rfl, hv0⟩), hb0, hs0, Lib.hid hK0, HO0⟩
  case round =>
    obtain ⟨k, rfl, hk, rfl, HP, hb, hs, HK, HO⟩ := hrel
    rcases HP.out with ⟨rfl, hv⟩ | ⟨rfl, ho, hv⟩ | ⟨rfl, ho, hf, hv⟩ | ⟨rfl, ho, hf, hr, hv⟩ | ⟨rfl, ho, hf, hr, hu, hv⟩
    · by_cases ho : X.off = true
      · have hd := (dark_any g X.off wr hv.1.1.2.2.2.2).mono (R' := fun e w' => e = .returned (.int .i64 10) ∧ wr = w') (fun _ _ h => ⟨h.1.trans (by rw [if_pos ho]), h.2⟩)
        go_wp2_with fail
        refine hd.mono ?_
        rintro e w2 ⟨rfl, rfl⟩
        have HK2 := HK.out
        obtain ⟨⟨c0, c1, c2, c3, c4⟩, -⟩ := hv.1
        obtain ⟨⟨j0, j1, j2, j3, j4⟩, k0, k1, k2, k3, k4⟩ := HK2
        have hbe := fbelow_set5 (a := .slice X.F.A X.F.n X.F.c) (b := .slice X.lA X.ln X.lc) (c := .int .i64 X.fuse) (d := .int .i64 X.fault) (e := .bool X.off) hb hBK
        have hne : (10 : Int) ≠ 0 := by decide
        have hask := Lib.hid (asked_1 (gr := gr) ho)
        clear HP hv HK HW HJ HL HN hb0 hv0 hK0 ix0 ix1 ix2 ix3 hmf hb hs hs0 ho hd
        go_wp2
        rw [Exit.noGoto_ret]
        refine bodyPost_ret (v := .tuple #[.agg #[.slice X.F.A X.F.n X.F.c, .slice X.lA X.ln X.lc, .int .i64 X.fuse, .int .i64 X.fault, .bool X.off], .int .i64 10]) ?_ rfl ⟨_, hask.out, hbe, .inl ⟨hne, rfl⟩⟩
        simp [results, Try.results48, go_sem, *]
      · have ho' : X.off = false := by simpa using ho
        have hd := (dark_any g X.off wr hv.1.1.2.2.2.2).mono (R' := fun e w' => e = .returned (.int .i64 0) ∧ wr = w') (fun _ _ h => ⟨h.1.trans (by rw [if_neg ho]), h.2⟩)
        go_wp2_with fail
        refine hd.mono ?_
        rintro e w2 ⟨rfl, rfl⟩
        go_wp2_with fail
        go_roundw
        case rel => exact ⟨1, rfl, by omega, rfl, Lib.hid (.inr (.inl ⟨rfl, ho', hv⟩)), hb, hs, HK, HO⟩
        case measure => simp [intOf]
    · have hfl := full_any X g gr B wr hv.1.1 hv.2 (HL.out.later hb) (by omega) HN.out hl
      by_cases hf : 524288 < X.long + gr
      · have hd := hfl.mono (R' := fun e w' => e = .returned (.int .i64 8) ∧ Below wr.heap.size wr w') (fun _ _ h => ⟨h.1.trans (by rw [if_pos hf]), h.2⟩)
        clear hfl
        go_wp2_with fail
        refine hd.mono ?_
        rintro e w2 ⟨rfl, hb2⟩
        have HK2 := HK.out.later hb2
        have hv2 := hv.1.later hb2
        have hb3 := hb.trans (hb2.mono (by omega))
        obtain ⟨⟨c0, c1, c2, c3, c4⟩, -⟩ := hv2
        obtain ⟨⟨j0, j1, j2, j3, j4⟩, k0, k1, k2, k3, k4⟩ := HK2
        have hbe := fbelow_set5 (a := .slice X.F.A X.F.n X.F.c) (b := .slice X.lA X.ln X.lc) (c := .int .i64 X.fuse) (d := .int .i64 X.fault) (e := .bool X.off) hb3 hBK
        have hne : (8 : Int) ≠ 0 := by decide
        have hask := Lib.hid (asked_2 ho hf)
        clear HP hv HK HW HJ HL HN hb0 hv0 hK0 ix0 ix1 ix2 ix3 hmf hb hs hs0 ho hd hf
        go_wp2
        rw [Exit.noGoto_ret]
        refine bodyPost_ret (v := .tuple #[.agg #[.slice X.F.A X.F.n X.F.c, .slice X.lA X.ln X.lc, .int .i64 X.fuse, .int .i64 X.fault, .bool X.off], .int .i64 8]) ?_ rfl ⟨_, hask.out, hbe, .inl ⟨hne, rfl⟩⟩
        simp [results, Try.results48, go_sem, *]
      · have hd := hfl.mono (R' := fun e w' => e = .returned (.int .i64 0) ∧ Below wr.heap.size wr w') (fun _ _ h => ⟨h.1.trans (by rw [if_neg hf]), h.2⟩)
        clear hfl
        go_wp2_with fail
        refine hd.mono ?_
        rintro e w2 ⟨rfl, hb2⟩
        have HK2 := HK.out.later hb2
        have hv2 : Var0 X gr g w2 := ⟨hv.1.later hb2, kept_later hb2 hv.2⟩
        have hb3 := hb.trans (hb2.mono (by omega))
        have hs3 := Nat.le_trans hs hb2.size
        go_wp2_with fail
        go_roundw
        case rel => exact ⟨2, rfl, by omega, rfl, Lib.hid (.inr (.inr (.inl ⟨rfl, ho, hf, hv2⟩))), hb3, hs3, Lib.hid HK2, Lib.hid (HO.out.next (by omega) hb2)⟩
        case measure => simp [intOf]
    · by_cases hr : X.fault = 0
      · have hv1 := hv.1
        rw [hr] at hv1
        have hd := refused_no g wr hv1.1.2.2.2.1 hv1.2.2.2.2.1
        go_wp2_with fail
        refine hd.mono ?_
        rintro e w2 ⟨rfl, rfl⟩
        have HK2 := HK.out.other (g := g) (i := 3) (.int .i64 (-1)) Hn.out
        have hv2 := hv1.set3 (.int .i64 (-1))
        have hb3 := hb.setCell (p := ⟨g, 3, none⟩) hB (.int .i64 (-1))
        obtain ⟨⟨c0, c1, c2, c3, c4⟩, -⟩ := hv2
        obtain ⟨⟨j0, j1, j2, j3, j4⟩, k0, k1, k2, k3, k4⟩ := HK2
        have hbe := fbelow_set5 (a := .slice X.F.A X.F.n X.F.c) (b := .slice X.lA X.ln X.lc) (c := .int .i64 X.fuse) (d := .int .i64 (-1)) (e := .bool X.off) hb3 hBK
        have hne : (9 : Int) ≠ 0 := by decide
        have hask := Lib.hid (asked_3 ho hf hr)
        clear HP hv HK HW HJ HL HN hb0 hv0 hK0 ix0 ix1 ix2 ix3 hmf hb hs hs0 ho hd hf hr hv1
        go_wp2
        rw [Exit.noGoto_ret]
        refine bodyPost_ret (v := .tuple #[.agg #[.slice X.F.A X.F.n X.F.c, .slice X.lA X.ln X.lc, .int .i64 X.fuse, .int .i64 (-1), .bool X.off], .int .i64 9]) ?_ rfl ⟨_, hask.out, hbe, .inl ⟨hne, rfl⟩⟩
        simp [results, Try.results48, go_sem, *]
      · have hd := refused_yes g X.fault wr hv.1.1.2.2.2.1 (by simpa using hr)
        go_wp2_with fail
        refine hd.mono ?_
        rintro e w2 ⟨rfl, rfl⟩
        go_wp2_with fail
        go_roundw
        case rel => exact ⟨3, rfl, by omega, rfl, Lib.hid (.inr (.inr (.inr (.inl ⟨rfl, ho, hf, hr, hv⟩)))), hb, hs, HK, HO⟩
        case measure => simp [intOf]
    · by_cases hu : X.fuse = 0
      · have hv1 := hv.1
        rw [hu] at hv1
        have hd := lost_no g X.fault X.off wr HL.out.fault hv1.1.2.2.2.1 hv1.2.2.2.2.1 hv1.1.2.2.1 hv1.2.2.2.1 hv1.1.2.2.2.2 hv1.2.2.2.2.2
        go_wp2_with fail
        refine hd.mono ?_
        rintro e w2 ⟨rfl, rfl⟩
        have HK2 := ((HK.out.other (g := g) (i := 3) (.int .i64 (tickN X.fault)) Hn.out).other (g := g) (i := 2) (.int .i64 (-1)) Hn.out).other (g := g) (i := 4) (.bool true) Hn.out
        have hv2 := ((hv1.set3 (.int .i64 (tickN X.fault))).set2 (.int .i64 (-1))).set4 (.bool true)
        have hb3 := ((hb.setCell (p := ⟨g, 3, none⟩) hB (.int .i64 (tickN X.fault))).setCell (p := ⟨g, 2, none⟩) hB (.int .i64 (-1))).setCell (p := ⟨g, 4, none⟩) hB (.bool true)
        obtain ⟨⟨c0, c1, c2, c3, c4⟩, -⟩ := hv2
        obtain ⟨⟨j0, j1, j2, j3, j4⟩, k0, k1, k2, k3, k4⟩ := HK2
        have hbe := fbelow_set5 (a := .slice X.F.A X.F.n X.F.c) (b := .slice X.lA X.ln X.lc) (c := .int .i64 (-1)) (d := .int .i64 (tickN X.fault)) (e := .bool true) hb3 hBK
        have hne : (10 : Int) ≠ 0 := by decide
        have hask := Lib.hid (asked_4 ho hf hr hu)
        clear HP hv HK HW HJ HL HN hb0 hv0 hK0 ix0 ix1 ix2 ix3 hmf hb hs hs0 ho hd hf hr hu hv1
        go_wp2
        rw [Exit.noGoto_ret]
        refine bodyPost_ret (v := .tuple #[.agg #[.slice X.F.A X.F.n X.F.c, .slice X.lA X.ln X.lc, .int .i64 (-1), .int .i64 (tickN X.fault), .bool true], .int .i64 10]) ?_ rfl ⟨_, hask.out, hbe, .inl ⟨hne, rfl⟩⟩
        simp [results, Try.results48, go_sem, *]
      · have hd := lost_yes g X.fault X.fuse wr HL.out.fault HL.out.fuse hv.1.1.2.2.2.1 hv.1.2.2.2.2.1 hv.1.1.2.2.1 hv.1.2.2.2.1 (by simpa using hu)
        go_wp2_with fail
        refine hd.mono ?_
        rintro e w2 ⟨rfl, rfl⟩
        have HK2 := (HK.out.other (g := g) (i := 3) (.int .i64 (tickN X.fault)) Hn.out).other (g := g) (i := 2) (.int .i64 (tickN X.fuse)) Hn.out
        have hv2 : Var4 X g ((wr.setCell ⟨g, 3, none⟩ (.int .i64 (tickN X.fault))).setCell ⟨g, 2, none⟩ (.int .i64 (tickN X.fuse))) := by have := (hv.1.set3 (.int .i64 (tickN X.fault))).set2 (.int .i64 (tickN X.fuse)); rw [ho] at this; exact this
        have hb3 := (hb.setCell (p := ⟨g, 3, none⟩) hB (.int .i64 (tickN X.fault))).setCell (p := ⟨g, 2, none⟩) hB (.int .i64 (tickN X.fuse))
        have hs3 : w.heap.size + 2 ≤ ((wr.setCell ⟨g, 3, none⟩ (.int .i64 (tickN X.fault))).setCell ⟨g, 2, none⟩ (.int .i64 (tickN X.fuse))).heap.size := by simpa using hs
        clear hv
        go_wp2_with fail
        go_roundw
        case rel => exact ⟨4, rfl, by omega, rfl, Lib.hid (.inr (.inr (.inr (.inr ⟨rfl, ho, hf, hr, hu, hv2⟩)))), hb3, hs3, Lib.hid HK2, Lib.hid ((HO.out.set 3 (.int .i64 (tickN X.fault))).set 2 (.int .i64 (tickN X.fuse)))⟩
        case measure => simp [intOf]
    · have hd := HW.out wr hv hb hs HO.out
      go_wp2_with fail
      refine hd.mono ?_
      rintro e w2 ⟨rfl, hb2, hkp, A0, n0, q0, A1, n1, q1, hv2, hj⟩
      have HK2 := hkp _ _ _ _ _ _ Hn.out (by omega) HK.out
      have hb3 := hb.trans hb2
      have HJ2 := Lib.hid (HJ.out _ _ w2 (.slice A0 n0 q0) (.slice A1 n1 q1) (.int .i64 (tickN X.fuse)) (.int .i64 (tickN X.fault)) (.bool false) hj)
      clear hd hkp hj hb2
      obtain ⟨⟨c0, c1, c2, c3, c4⟩, -⟩ := hv2
      obtain ⟨⟨j0, j1, j2, j3, j4⟩, k0, k1, k2, k3, k4⟩ := HK2
      have hbe := fbelow_set5 (a := .slice A0 n0 q0) (b := .slice A1 n1 q1) (c := .int .i64 (tickN X.fuse)) (d := .int .i64 (tickN X.fault)) (e := .bool false) hb3 hBK
      have hask := Lib.hid (asked_5 (gr := gr) ho hf hr hu)
      clear HP hv HK HW HJ HL HN hb0 hv0 hK0 ix0 ix1 ix2 ix3 hmf hb hs hs0 ho hf hr hu
      go_wp2
      rw [Exit.noGoto_ret]
      refine bodyPost_ret (v := .tuple #[.agg #[.slice A0 n0 q0, .slice A1 n1 q1, .int .i64 (tickN X.fuse), .int .i64 (tickN X.fault), .bool false], .int .i64 0]) ?_ rfl ⟨_, hask.out, hbe, .inr ⟨rfl, _, _, HJ2.out, rfl⟩⟩
      simp [results, Try.results48, go_sem, *]
end Go.Proofs.Ythoenmggjbojoaa
