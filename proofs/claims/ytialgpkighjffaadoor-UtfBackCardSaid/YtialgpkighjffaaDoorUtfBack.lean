/-
  The walk of UtfBack.
-/
import Derived.Test.YtialgpkighjffaaDoorUtfOrders
import Derived.Deep.CutBlock
import Derived.Deep.DeepCutAuto
namespace Go.Proofs.YtialgpkighjffaaDoor
open Go.RowKit
set_option linter.unusedVariables false

theorem nats_toNat : ∀ l : List Nat, (nats l).map Int.toNat = l
  | [] => rfl
  | a :: l => by
    have ih := nats_toNat l
    show ((a : Int).toNat) :: (nats l).map Int.toNat = a :: l
    rw [ih]; simp
theorem nats_all (l : List Nat) (h : allCp l) : (nats l).all isCp = true := by
  rw [List.all_eq_true]
  intro x hx
  obtain ⟨c, hc, rfl⟩ := List.mem_map.1 hx
  exact h c hc
theorem allCp_snoc {l : List Nat} {c : Nat} (h : allCp l) (hc : isCp c = true) : allCp (l ++ [c]) := by
  intro x hx
  rcases List.mem_append.1 hx with h1 | h1
  · exact h x h1
  · obtain rfl : x = c := by simpa using h1
    exact hc
theorem own_apart {w w2 : World} {base e e' size size' : Nat} {v v' : Value} {n n' : Nat} {xs xs' : List Value} (h : w.ownsRow base e size v n xs) (h' : w2.ownsRow w.heap.size e' size' v' n' xs') : v'.ownBlock = none ∨ v'.ownBlock ≠ v.ownBlock := by
  cases hv : v'.ownBlock with
  | none => exact .inl rfl
  | some k =>
    refine .inr fun e => ?_
    have h1 := (h'.lt k hv).1
    have h2 := (h.lt k e.symm).2
    omega
theorem text_take (l : List Nat) (k : Nat) (h : k < l.length) : textL l = textL (l.take k) ++ (encL (l.getD k 0) ++ textL (l.drop (k + 1))) := by
  have e := List.take_append_drop k l
  rw [List.drop_eq_getElem_cons h] at e
  have := congrArg textL e
  rw [textL_append, textL_cons] at this
  rw [List.getD_eq_getElem?_getD, List.getElem?_eq_getElem h]
  exact this.symm
theorem text_take_succ (l : List Nat) (k : Nat) (h : k < l.length) : (textL (l.take (k + 1))).length = (textL (l.take k)).length + (encL (l.getD k 0)).length := by
  rw [List.take_succ_eq_append_getElem h, textL_append, textL_one, List.length_append, List.getD_eq_getElem?_getD, List.getElem?_eq_getElem h]
  rfl
theorem nats_getD (l : List Nat) (k : Nat) (h : k < l.length) : (nats l).getD k 0 = ((l.getD k 0 : Nat) : Int) := by
  simp [nats, List.getD_eq_getElem?_getD, h]
/-- What the first loop leaves. -/
def Put1 (w : World) (cps : List Nat) (A3 : Option Addr) (n3 : Nat) (A4 : Option Addr) (n4 c4 : Nat) (wx : World) : Prop :=
  allCp cps ∧ cps.length ≤ 60 ∧ Bytes wx wx.heap.size A3 n3 (textL cps) ∧ wx.ownsRow w.heap.size 3 1 (.slice A4 n4 c4) n4 ((nats cps).map iv) ∧ Below w.heap.size w wx

set_option maxRecDepth 20000 in
set_option maxHeartbeats 2000000 in
theorem utfBack_walk (w : World) (A : Option Addr) (n c : Nat) (l : List Int) (h : Ints w w.heap.size A n l) (hl : ∀ z ∈ l, (Lit.int .i64 z).wf = true) (hA : A = none → c = 0) (hn : n ≤ c) (hc : c ≤ maxLen) (htab : UTab w) :
    Calls Tryd.prog 6 #[.slice A n c] w fun e w' => e = .returned (.bool true) ∧ Below w.heap.size w w' := by
  clear hl
  unfold maxLen at hc
  go_enter Tryd.func6, Tryd.ntmps6
  go_wp2_with fail
  refine (wakes_any w htab).mono ?_
  rintro e w1 ⟨rfl, hb1⟩
  obtain ⟨i0, hi, hz0, hz1, hz2⟩ := i64_info
  go_upto_block 0 with fail
  go_cut [3, 4] (fun s3 s4 wx => ∃ (cps : List Nat) (A3 : Option Addr) (n3 c3 : Nat) (A4 : Option Addr) (n4 c4 : Nat), s3 = .slice A3 n3 c3 ∧ s4 = .slice A4 n4 c4 ∧ Put1 w cps A3 n3 A4 n4 c4 wx)
  case first =>
    go_wp2_with fail
    go_loopw [3, 4, 24] (fun s3 s4 i wr => ∃ (k : Nat) (cps : List Nat) (A3 : Option Addr) (n3 c3 : Nat) (A4 : Option Addr) (n4 c4 : Nat), k ≤ n ∧ k ≤ 60 ∧ i = .int .i64 k ∧ cps.length ≤ k ∧ s3 = .slice A3 n3 c3 ∧ s4 = .slice A4 n4 c4 ∧ Put1 w cps A3 n3 A4 n4 c4 wr) (fun _ _ i _ => n - (intOf i).toNat)
    case atStart => exact ⟨0, [], none, 0, 0, none, 0, 0, by omega, by omega, rfl, by simp, rfl, rfl, by simp [allCp], by simp, Bytes.zero _, World.ownsRow_nil _ _ _ _, hb1⟩
    case round =>
      obtain ⟨k, cps, A3, n3, c3, A4, n4, c4, hk, hk60, rfl, hck, rfl, rfl, hcp, hc60, hl3, hown4, hbr⟩ := hrel
      by_cases hlt : k < n
      · by_cases h60 : k = 60
        · subst h60
          obtain ⟨b1, o1, rfl, hbk, hcell⟩ := (h.below hbr).cell hlt
          generalize l.getD 60 0 = x at *
          go_wp2_with fail
          go_meet
          case rel => exact ⟨cps, A3, n3, c3, A4, n4, c4, rfl, rfl, hcp, hc60, hl3, hown4, hbr⟩
        · have h60' : ((k : Int) == 60) = false := by rw [beq_eq_false_iff_ne]; omega
          obtain ⟨b1, o1, rfl, hbk, hcell⟩ := (h.below hbr).cell hlt
          generalize l.getD k 0 = x at *
          have Hl3 := Lib.hid hl3.len
          have hle := (textL_le cps).2
          have tr := htab.below hbr htab.lt
          have hk59 : k < 60 := by omega
          clear h60
          cases hx : isCp x
          · have hput := put_no A3 n3 c3 x wr tr hx
            clear hx
            go_wp2_with fail
            refine hput.mono ?_
            rintro e w2 ⟨rfl, hb2⟩
            go_wp2_with fail
            go_roundw
            case rel => exact ⟨k + 1, cps, A3, n3, c3, A4, n4, c4, by omega, by omega, by go_num, by omega, rfl, rfl, hcp, hc60, (hl3.below hb2).more hb2.size, own_below hown4 hb2, bel_next hbr hb2⟩
            case measure => simp [intOf]; omega
          · obtain ⟨y, rfl⟩ : ∃ y : Nat, x = (y : Int) := ⟨x.toNat, by have := (isCp_iff _).1 hx; omega⟩
            have hput := put_yes A3 n3 c3 wr.heap.size (textL cps) y wr tr hl3 (Nat.le_refl _) (by rw [← Hl3.out]; omega) hx
            have Hx := Lib.hid hx
            clear hx
            go_wp2_with fail
            refine hput.mono ?_
            rintro e w2 ⟨A5, n5, c5, rfl, hown5, hb2⟩
            have hown4' := own_below hown4 hb2
            have s2 := hb2.size
            have sr := hbr.size
            have h5 : Bytes w2 w2.heap.size A5 n5 (textL (cps ++ [y])) := by rw [textL_append, textL_one]; exact Bytes.own hown5
            have hn4 : n4 ≤ 60 := by have := hown4.1; simp [nats] at this; omega
            have hnew : Shows (w2.alloc (.cells #[.int .i64 (y : Int)] 3)) (w2.heap.size + 1) 1 (some ⟨w2.heap.size, 0, none⟩) 1 [.int .i64 (y : Int)] := ints_new w2 [(y : Int)] _ _ _ rfl
            have hne := own_apart hown4 hown5
            clear hput
            go_wp2_with (at_builtin; refine wpList_append_shows _ rfl _ _ 37 rfl w.heap.size 3 i0 (.int .i64 0) 1 8 Tryd.underlying37 hi hz0 hz1 hz2 rfl (by decide) _ _ _ rfl (hown4'.alloc _) (w2.heap.size + 1) _ 1 1 [.int .i64 (y : Int)] rfl hnew (by simp [Value.oneCell']) (by unfold maxLen; omega) (by omega) (by simp; omega) ?_; intro A7 c7 w7 hown7 hgrow7 hb7)
            go_roundw
            case rel =>
              refine ⟨k + 1, cps ++ [y], A5, n5, c5, A7, n4 + 1, c7, by omega, by omega, by go_num, by simp; omega, rfl, rfl, allCp_snoc hcp Hx.out, by simp; omega, ?_, ?_, ((bel_next hbr hb2).alloc (by omega) _).trans hb7⟩
              · rw [textL_append, textL_one]; exact Bytes.own ((hown5.alloc _).kept hgrow7 hne)
              · rw [nats_snoc, List.map_append]; exact hown7
            case measure => simp [intOf]; omega
      · go_wp2_with fail
        go_meet
        case rel => exact ⟨cps, A3, n3, c3, A4, n4, c4, rfl, rfl, hcp, hc60, hl3, hown4, hbr⟩
  case rest =>
    obtain ⟨cps, A3, n3, c3, A4, n4, c4, rfl, rfl, hcp, hc60, hl3, hown4, hbr⟩ := hcut
    have hown4' : Ints wc wc.heap.size A4 n4 (nats cps) := Ints.own hown4
    have Hn4 : Hid (cps.length = n4) := by have := hown4'.len; rw [nats_len] at this; exact Lib.hid this
    have Hn3 := Lib.hid hl3.len
    have hn4 : n4 ≤ 60 := by rw [← Hn4.out]; exact hc60
    have hn3 : n3 ≤ 240 := by rw [← Hn3.out]; have := (textL_le cps).2; omega
    clear hown4 h hA hn hc
    have hs0 := hbr.size
    have htc := htab.below hbr htab.lt
    go_wp2_with fail
    go_loopw [9, 49] (fun a i wr => ∃ (k : Nat) (p : Nat), k ≤ n4 ∧ i = .int .i64 k ∧ a = .int .i64 p ∧ Hid (p = (textL (cps.take k)).length) ∧ Below wc.heap.size wc wr) (fun _ i _ => n4 - (intOf i).toNat)
    case atStart => exact ⟨0, 0, by omega, rfl, rfl, Lib.hid (by simp [textL]), Below.refl _ _⟩
    case round =>
      obtain ⟨k, p, hk, rfl, rfl, Hp, hbk⟩ := hrel
      have tk := htc.below hbk htc.lt
      have hlk := hl3.below hbk
      have hik := hown4'.below hbk
      have sk := hbk.size
      by_cases hlt : k < n4
      · obtain ⟨b1, o1, rfl, hb1', hcell⟩ := hik.cell hlt
        have hkl : k < cps.length := by rw [Hn4.out]; exact hlt
        rw [nats_getD cps k hkl] at hcell
        have e1 := text_take cps k hkl
        have hcpk : isCp ((cps.getD k 0 : Nat) : Int) = true := by
          rw [List.getD_eq_getElem?_getD, List.getElem?_eq_getElem hkl]
          exact hcp _ (List.getElem_mem hkl)
        have e2 := text_take_succ cps k hkl
        rw [← Hp.out] at e2
        have hdrop : (textL cps).drop p = encL (cps.getD k 0) ++ textL (cps.drop (k + 1)) := by
          have := congrArg (List.drop p) e1
          rw [this, Hp.out, List.drop_left]
        have hpos := encL_len_pos (cps.getD k 0)
        have hpl : p + (encL (cps.getD k 0)).length ≤ n3 := by
          have := congrArg List.length hdrop
          rw [List.length_drop, List.length_append, Hn3.out] at this
          omega
        have hnx := next_in A3 n3 c3 wc.heap.size p (textL cps) wr tk hlk sk (by unfold maxLen; omega) (by omega)
        have hdec : decL ((textL cps).drop p) = (cps.getD k 0, (encL (cps.getD k 0)).length) := by rw [hdrop]; exact dec_enc _ hcpk _
        rw [decR_yes hdec (by omega)] at hnx
        have hsz := fun W hT => size_any ((cps.getD k 0 : Nat) : Int) W hT
        rw [hIdx_len _ hcpk] at hsz
        have E2 := Lib.hid e2
        clear e1 e2 hdrop hdec hcpk hkl
        generalize cps.getD k 0 = y at *
        generalize (encL y).length = z at *
        have hpz : ((p + z : Nat) : Int) = (p : Int) + (z : Int) := by omega
        rw [hpz] at hnx
        clear hpz
        go_wp2_with fail
        refine hnx.mono ?_
        rintro e w2 ⟨rfl, hb2⟩
        have t2 := tk.below hb2 tk.lt
        go_wp2_with fail
        refine (hsz _ t2).mono ?_
        rintro e w3 ⟨rfl, hb3⟩
        have hb13 := bel_next hbk (bel_next hb2 hb3)
        go_wp2_with fail
        go_roundw
        case rel => exact ⟨k + 1, p + z, by omega, by go_num, by go_num, Lib.hid E2.out.symm, hb13⟩
        case measure => simp [intOf]; omega
      · have hkn : k = n4 := by omega
        have Hpn : Hid (p = n3) := by
          have := Hp.out
          rw [List.take_of_length_le (by rw [Hn4.out]; omega)] at this
          rw [this]; exact Hn3
        have hpn := Hpn.out
        clear hkn Hpn Hp
        subst hpn
        have hall := nats_all cps hcp
        have hconv := run_bytes_string (P := Tryd.prog) Tryd.underlying22 Tryd.underlying5 Tryd.underlying9 wr A3 p c3 wc.heap.size (textL cps) hlk
        have hconv' := fun W (hW : Below wr.heap.size wr W) => run_bytes_string (P := Tryd.prog) Tryd.underlying22 Tryd.underlying5 Tryd.underlying9 W A3 p c3 wc.heap.size (textL cps) (hlk.below (hW.mono sk))
        have hpt := points_text (nats cps) hall (by rw [nats_len]; omega) wr tk
        rw [nats_toNat] at hpt
        have hself : ((ofL (textL cps)).toList == (ofL (textL cps)).toList) = true := by simp
        have htx := fun W (hW : Below wr.heap.size wr W) => text_any A4 n4 c4 wc.heap.size (nats cps) W (tk.below hW tk.lt) (hik.below (hW.mono sk)) (Nat.le_trans sk hW.size) (by omega)
        unfold textR at htx
        simp only [hall, if_true, nats_toNat] at htx
        have hb0r := bel_next hbr hbk
        clear hall hl3 hbk hbr hb1
        generalize ofL (textL cps) = S at *
        go_wp2_with fail
        refine hpt.mono ?_
        rintro e w2 ⟨A6, n6, c6, rfl, hP6, hb2⟩
        go_wp2_with fail
        refine (htx _ hb2).mono ?_
        rintro e w3 ⟨rfl, hb3⟩
        have hb13 := bel_next hb2 hb3
        have hn6 : n6 ≤ 60 := by rw [← hP6.len, nats_len]; exact hc60
        have heq := equalI_any A6 A4 n6 c6 n4 c4 (nats cps) (nats cps) w2.heap.size wc.heap.size w3 (hP6.below hb3) (hik.below (hb13.mono sk)) (by unfold maxLen; omega)
        rw [show sameI (nats cps) (nats cps) = true from decide_eq_true rfl] at heq
        have hconv3 := fun k => hconv' (w3.drewN k) (below_drewN hb13 k)
        have hb03 := bel_next hb0r hb13
        clear hP6 hconv hconv' htx hpt
        go_wp2_with fail
        refine heq.mono ?_
        rintro e w4 ⟨rfl, k4, rfl⟩
        have hconv4 := hconv3 k4
        clear hconv3
        go_wp2
        go_ret
        exact ⟨rfl, below_drewN hb03 _⟩
end Go.Proofs.YtialgpkighjffaaDoor
