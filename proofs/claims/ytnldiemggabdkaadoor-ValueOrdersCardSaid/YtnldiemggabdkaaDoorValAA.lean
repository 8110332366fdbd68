/-
  Layer 4: List.
-/
import Derived.Test.YtnldiemggabdkaaDoorValD
import Derived.Test.YtnldiemggabdkaaDoorRg
namespace Go.Proofs.YtnldiemggabdkaaDoor
open Go.RowKit
set_option linter.unusedVariables false

def chkT (T : VT) : VT := if T.ok = true then T else scV 0 0 ⟨#[]⟩
def chkE (T : VT) : Int := if T.ok = true then 0 else 140
theorem chkR_T (T : VT) : chkR T = .tuple #[(chkT T).agg, .int .i64 (chkE T)] := by unfold chkR chkT chkE; split <;> rfl
theorem chkT_ok {T : VT} (h : T.ok = true) : chkT T = T := by unfold chkT; rw [if_pos h]
theorem chkE_ok {T : VT} (h : T.ok = true) : chkE T = 0 := by unfold chkE; rw [if_pos h]
theorem chkE_no {T : VT} (h : T.ok = false) : chkE T = 140 := by unfold chkE; rw [h]; rfl
theorem chkT_no {T : VT} (h : T.ok = false) : chkT T = scV 0 0 ⟨#[]⟩ := by unfold chkT; rw [h]; rfl
/-- A list of these. -/
abbrev lsV (A : Option Addr) (n c : Nat) (l : List VT) : VT := .mk 5 0 ⟨#[]⟩ A n c none 0 0 [] l
theorem lie_ls {W : World} {b n c : Nat} {A : Option Addr} {l : List VT} (ho : W.ownsRow b 25 5 (.slice A n c) n (l.flatMap VT.cells)) (hl : ∀ x ∈ l, Lie W W.heap.size x) : Lie W W.heap.size (lsV A n c l) := by
  have hf := own_form ho
  obtain ⟨A', c', e, h1, h2⟩ := hf
  injection e with e1 e2 e3
  subst e1; subst e3
  refine .mk (Shows.own ho) (Shows.zero none) ⟨by decide, by decide, by decide, h1, h2, ?_, Nat.le_refl _, by decide, fun _ => rfl, by simp⟩ hl
  intro hA
  rcases ho.2 with ⟨e, _⟩ | ⟨g, cap, cur, e, _⟩
  · injection e
  · injection e with e1; rw [hA] at e1; cases e1
set_option maxRecDepth 20000 in
set_option maxHeartbeats 1000000 in
theorem list_any (B : Nat) (w : World) (A : Option Addr) (n c : Nat) (l : List VT) (h : Shows w B 5 A n (l.flatMap VT.cells)) (hl : ∀ x ∈ l, Lie w B x) (hA : A = none → c = 0) (hB : B ≤ w.heap.size) (hn : n ≤ 1000) (htab : UTab w) (hst : STab w) :
    Calls Tryd.prog 32 #[.slice A n c] w fun e w' => ∃ A' c', e = .returned (.tuple #[(chkT (lsV A' n c' l)).agg, .int .i64 (chkE (lsV A' n c' l))]) ∧ Lie w' w'.heap.size (lsV A' n c' l) ∧ Below w.heap.size w w' := by
  have hb := bel_alloc (Below.refl w.heap.size w) (.cells #[.int .i64 0, .int .i64 0, .string ⟨#[]⟩, .slice none 0 0, .slice none 0 0] 25)
  have Hz := Lib.hid (show VFive (w.alloc (.cells #[.int .i64 0, .int .i64 0, .string ⟨#[]⟩, .slice none 0 0, .slice none 0 0] 25)) w.heap.size (.int .i64 0) (.int .i64 0) (.string ⟨#[]⟩) (.slice none 0 0) (.slice none 0 0) from VFive.new _ _ _ _ _ _ _ _ rfl)
  have hcl := cloneV_any A n c (l.flatMap VT.cells) B _ (h.below (hb.mono hB)) (vcells_one l) hA (Nat.le_trans hB hb.size) hn
  have HC := Lib.hid (fun W A' c' (h : Below w.heap.size w W) (ho : W.ownsRow w.heap.size 25 5 (.slice A' n c') n (l.flatMap VT.cells)) => checked_R W.heap.size W (lsV A' n c' l) (lie_ls ho fun x hx => ((hl x hx).later (h.mono hB)).more (Nat.le_trans hB h.size)) (Nat.le_refl _) (htab.below h htab.lt) (hst.below h hst.lt))
  have HL := Lib.hid (fun W (h : Below w.heap.size w W) x (hx : x ∈ l) => ((hl x hx).later (h.mono hB)).more (Nat.le_trans hB h.size))
  have hle0 : w.heap.size ≤ w.heap.size := Nat.le_refl _
  clear h hl htab hst hA
  go_enter Tryd.func32, Tryd.ntmps32
  go_wp2_with fail
  refine hcl.mono ?_
  rintro e w1 ⟨A', c', rfl, hown, hb1⟩
  have hb2 := bel_next hb hb1
  have hown' : w1.ownsRow w.heap.size 25 5 (.slice A' n c') n (l.flatMap VT.cells) := own_base hown hb.size
  have hc := HC.out w1 A' c' hb2 hown'
  have Hown := Lib.hid hown
  rw [chkR_T] at hc
  generalize hX : chkT (lsV A' n c' l) = X at hc
  generalize hE : chkE (lsV A' n c' l) = E at hc
  have HX := Lib.hid hX
  have HE := Lib.hid hE
  obtain ⟨kx, nx, sx, cAx, cnx, ccx, kAx, knx, kcx, keysx, kidsx⟩ := X
  simp only [VT.agg] at hc
  clear HC hcl hX hE hown hown'
  go_wp2_with fail
  refine hc.mono ?_
  rintro e w2 ⟨rfl, hb3⟩
  obtain ⟨⟨e0, e1, e2, e3, e4⟩, f0, f1, f2, f3, f4⟩ := (Hz.out.later hb1).later hb3
  have hb4 := bel_next hb2 hb3
  have Hown3 := Lib.hid (own_later Hown.out hb3)
  clear hb1 hb2 hb3 hc Hown
  go_wp2
  refine bodyPost_ret (v := .tuple #[.agg #[.int .i64 kx, .int .i64 nx, .string sx, .slice cAx cnx ccx, .slice kAx knx kcx], .int .i64 E]) ?_ rfl ⟨A', c', by rw [HX.out, HE.out]; rfl, ?_, vbelow_set5 hb4 hle0⟩
  · simp [results, Tryd.results32, go_sem, *]
  · exact lie_ls (own_set5 Hown3.out (by simp)) (HL.out _ (vbelow_set5 hb4 hle0))
end Go.Proofs.YtnldiemggabdkaaDoor
