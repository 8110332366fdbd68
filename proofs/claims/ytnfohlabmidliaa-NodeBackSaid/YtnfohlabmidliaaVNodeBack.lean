import Derived.Test.YtnfohlabmidliaaGal
import Derived.Test.YtnfohlabmidliaaGam
import Derived.Test.YtnfohlabmidliaaVNodAb
import Derived.Test.YtnfohlabmidliaaGad
/-
  The law NodeBack: an encoding is decoded to the node; with a byte less or more, it is not.
-/
namespace Go.Proofs.Ytnfohlabmidliaa
open Go.RowKit
set_option linter.unusedVariables false
set_option linter.unusedSimpArgs false

set_option maxRecDepth 20000 in
set_option maxHeartbeats 4000000 in
theorem nodeBack_walk (w : World) (X : NoT) (hX : LieN w w.heap.size X) (a2 : Int) (wa2 : (Lit.int .u8 a2).wf = true) :
    Calls Try.prog 7 #[X.agg, .int .u8 a2] w fun e w' => e = .returned (.bool true) ∧ Below w.heap.size w w' := by
  obtain ⟨b2, hb2v⟩ := u8_of wa2
  have HBV := Lib.hid hb2v
  clear wa2 hb2v
  have hb0 := bel_alloc (Below.refl w.heap.size w) (.cells #[.bool X.leaf, .slice X.iA X.iN X.iC, .slice X.kA X.kN X.kC] 25)
  have hL := hX.later hb0
  have hn := NBox.new w (.bool X.leaf) (.slice X.iA X.iN X.iC) (.slice X.kA X.kN X.kC) 25
  have hagX : X.agg = .agg #[.bool X.leaf, .slice X.iA X.iN X.iC, .slice X.kA X.kN X.kC] := rfl
  have HL := Lib.hid hL
  have HN := Lib.hid hn
  have HA := Lib.hid hagX
  rw [hagX]
  clear hX hL hn hagX
  go_enter Try.func7, Try.ntmps7
  go_wp2_with fail
  generalize w.alloc (.cells #[.bool X.leaf, .slice X.iA X.iN X.iC, .slice X.kA X.kN X.kC] 25) = W1 at *
  refine (nwakes_any _).mono ?_
  rintro e W2 ⟨rfl, hb1⟩
  have hb2 := bel_next hb0 hb1
  have hown := nown_any X w.heap.size W2 (HL.out.later (hb1.mono hb0.size)) hb2.size
  obtain ⟨⟨m0, m1, m2⟩, -⟩ := HN.out.later hb1
  rw [HA.out] at hown
  clear hb0 hb1
  go_wp2_with fail
  refine hown.mono ?_
  rintro e W3 ⟨hb3, Y, rfl, hO⟩
  have hb4 := bel_next hb2 hb3
  have hlie := hO.lie
  have hb34 := bel_alloc (Below.refl W3.heap.size W3) (.cells #[.bool Y.leaf, .slice Y.iA Y.iN Y.iC, .slice Y.kA Y.kN Y.kC] 25)
  have hnb := NBox.new W3 (.bool Y.leaf) (.slice Y.iA Y.iN Y.iC) (.slice Y.kA Y.kN Y.kC) 25
  have hb5 := bel_next hb4 hb34
  have hagY : Y.agg = .agg #[.bool Y.leaf, .slice Y.iA Y.iN Y.iC, .slice Y.kA Y.kN Y.kC] := rfl
  have hce := encode_any Y W3.heap.size _ (hlie.later hb34) hb34.size
  rw [hagY] at hce ⊢
  have HLY := Lib.hid (hlie.later hb34)
  have HNY := Lib.hid hnb
  have HAY := Lib.hid hagY
  have hsz := hb34.size
  obtain ⟨⟨q0, q1, q2⟩, -⟩ := hnb
  clear hown m0 m1 m2 hb2 hb3 hO hb4 hlie hb34 hagY HL HN HA
  go_wp2_with fail
  generalize W3.alloc (.cells #[.bool Y.leaf, .slice Y.iA Y.iN Y.iC, .slice Y.kA Y.kN Y.kC] 25) = W4 at *
  refine hce.mono ?_
  rintro e W5 ⟨hb6, ⟨hok, rfl⟩ | ⟨hok, A, n, c, rfl, hO⟩⟩
  · have hb7 := bel_next hb5 hb6
    have hck := check14_any Y W3.heap.size W5 (HLY.out.later (hb6.mono hsz)) (Nat.le_trans hsz hb6.size)
    rw [HAY.out, chk_no hok] at hck
    obtain ⟨⟨q0, q1, q2⟩, -⟩ := HNY.out.later hb6
    clear hce hok hb5 hb6
    go_wp2_with fail
    refine hck.mono ?_
    rintro e W6 ⟨rfl, hb8⟩
    have hb9 := bel_next hb7 hb8
    clear hck hb7 hb8
    go_wp2
    go_ret
    exact ⟨rfl, hb9⟩
  have hb7 := bel_next hb5 hb6
  have hLY5 := HLY.out.later (hb6.mono hsz)
  have hlen := enc_len hLY5 hok
  have hnl : Y.enc.length = n := by have := hO.1; rw [List.length_map] at this; omega
  obtain ⟨f1, f2, f3⟩ := nown_facts hO
  have hbok : PcT.Ok W5 W5.heap.size ⟨A, n, c, Y.enc⟩ := ⟨Bytes.own hO, f1, f2, f3⟩
  have hcd := decode14_any ⟨A, n, c, Y.enc⟩ W5.heap.size W5 hbok (Nat.le_refl _)
  simp only at hcd
  have HOK := Lib.hid hok
  have HLN := Lib.hid hnl
  have HBK := Lib.hid hbok
  have HO := Lib.hid hO
  have HL5 := Lib.hid hLY5
  have HN5 := Lib.hid (HNY.out.later hb6)
  have hn1 : n ≤ 1442 := by omega
  have hs56 : W3.heap.size ≤ W5.heap.size := Nat.le_trans hsz hb6.size
  clear hce hok hb5 hb6 q0 q1 q2 hO hlen hnl hLY5 hbok HNY HLY
  go_wp2_with fail
  refine hcd.mono ?_
  rintro e W6 ⟨hb8, ⟨rfl, hno⟩ | ⟨Z, rfl, hr, hokZ, hG⟩⟩
  · refine absurd (hno Y HL5.out.lens ?_) (by rw [HOK.out]; exact Bool.noConfusion)
    have := enc_read HL5.out HOK.out []
    rw [List.append_nil, if_pos rfl] at this
    exact this
  have hlieZ := hG.lie hb8 hb8.size
  have hagZ : Z.agg = .agg #[.bool Z.leaf, .slice Z.iA Z.iN Z.iC, .slice Z.kA Z.kN Z.kC] := rfl
  rw [hagZ]
  have HAZ := Lib.hid hagZ
  have HSM := Lib.hid (back_same HL5.out HOK.out hokZ hr)
  have hbZ := bel_alloc (Below.refl W6.heap.size W6) (.cells #[.bool Z.leaf, .slice Z.iA Z.iN Z.iC, .slice Z.kA Z.kN Z.kC] 25)
  have hb9 := bel_next hb8 hbZ
  have HLZ := Lib.hid (hlieZ.later hbZ)
  have HNZ := Lib.hid (NBox.new W6 (.bool Z.leaf) (.slice Z.iA Z.iN Z.iC) (.slice Z.kA Z.kN Z.kC) 25)
  have HL7 := Lib.hid (HL5.out.later (hb9.mono hs56))
  have HB7 := Lib.hid (HBK.out.later hb9)
  have HN7 := Lib.hid (HN5.out.later hb9)
  have hb10 := bel_next hb7 hb9
  have hs6 := hb9.size
  have hs67 := hbZ.size
  clear hcd hr hokZ hG hlieZ hagZ hb8 hbZ hb9 hb7 HBK HN5 HL5
  go_upto_region 8 with fail
  generalize W6.alloc (.cells #[.bool Z.leaf, .slice Z.iA Z.iN Z.iC, .slice Z.kA Z.kN Z.kC] 25) = W7 at *
  obtain ⟨i0, hi, hz0, hz1, hz2⟩ := u8_info
  have hcl := nbclone_any A n c Y.enc W5.heap.size W7 HB7.out.here HB7.out.nil hs6 (by omega)
  go_wp2_with fail
  refine hcl.mono ?_
  rintro e W8 ⟨Ac, nc, cc, rfl, hOc, hb11⟩
  have hncl : nc = n := by have := hOc.1; rw [List.length_map, HLN.out] at this; omega
  rw [hncl] at hOc ⊢
  clear hncl
  have hba := bel_alloc (Below.refl W8.heap.size W8) (.cells #[.int .u8 a2] 5)
  have own0 := own_later hOc hba
  have hs := nshows_new W8 #[.int .u8 a2] 5 1 1 rfl
  have hz : W7.heap.size ≤ (W8.alloc (.cells #[.int .u8 a2] 5)).heap.size := Nat.le_trans hb11.size hba.size
  have g1 : n + 1 ≤ maxLen := by unfold maxLen; omega
  have g2 : (n + 1) * 1 ≤ 140737488355328 := by omega
  have hb12 := bel_next hb11 hba
  clear hcl hOc hba hb11
  go_wp2_with (at_builtin; refine wpList_append_shows _ rfl _ _ 32 rfl W7.heap.size 5 i0 (.int .u8 0) 1 1 Try.underlying32 hi hz0 hz1 hz2 rfl (by decide) _ _ _ rfl own0 _ _ 1 _ _ rfl hs (by intro x hx; rw [List.mem_singleton.1 hx]; rfl) g1 g2 hz ?_; intro A7 c7 w7 hown7 hgrow7 hb7; have HO7 := Lib.hid hown7; have HB9 := Lib.hid (hb12.trans hb7); clear hown7 hgrow7 own0 hs hz hb7 hb12)
  have hO8 : w7.ownsRow W7.heap.size 5 1 (.slice A7 (n + 1) c7) (n + 1) ((Y.enc ++ [b2]).map bv) := by rw [List.map_append, List.map_cons, List.map_nil, HBV.out]; exact HO7.out
  have hbok2 : PcT.Ok w7 w7.heap.size ⟨A7, n + 1, c7, Y.enc ++ [b2]⟩ := own_ok hO8
  have hcd := decode14_any ⟨A7, n + 1, c7, Y.enc ++ [b2]⟩ w7.heap.size w7 hbok2 (Nat.le_refl _)
  simp only at hcd
  clear hO8 hbok2 HO7 g1 g2 hi hz0 hz1 hz2 f1 f2 f3
  refine hcd.mono ?_
  rintro e W10 ⟨hb13, ⟨rfl, _⟩ | ⟨V, rfl, hr, hokV, _⟩⟩
  rotate_left
  · rw [more_bad HL7.out HOK.out b2] at hr
    cases hr
  have hb14 := bel_alloc (bel_next HB9.out hb13) (.cells #[.bool false, .slice none 0 0, .slice none 0 0] 25)
  have hsm := same14_any Z Y W7.heap.size _ ((HLZ.out.later (hb14.mono hs67)).more hs67) ((HL7.out.later (hb14.mono (Nat.le_trans hs56 hs6))).more (Nat.le_trans hs56 hs6)) hb14.size
  rw [HSM.out, HAZ.out, HAY.out] at hsm
  obtain ⟨⟨p0, p1, p2⟩, -⟩ := HNZ.out.later hb14
  obtain ⟨⟨q0, q1, q2⟩, -⟩ := HN7.out.later hb14
  have hbz := bel_next hb10 hb14
  have HB11 := Lib.hid hb14
  have hn4 : ¬ (4096 : Int) < (n : Int) := by omega
  clear hcd hb13 hb14 HB9 HAZ HAY HSM hb10
  go_upto_region 9 with fail
  generalize W10.alloc (.cells #[.bool false, .slice none 0 0, .slice none 0 0] 25) = W11 at *
  go_wp2_with fail
  refine hsm.mono ?_
  rintro e W12 ⟨rfl, hb15⟩
  have hbz2 := bel_next hbz hb15
  have HB12 := Lib.hid (bel_next HB11.out hb15)
  clear hsm p0 p1 p2 q0 q1 q2 hbz HB11 hb15
  go_wp2_with fail
  go_loopw [66] (fun iv wr => ∃ i : Nat, i ≤ n ∧ iv = .int .i64 (i : Nat) ∧ Below W12.heap.size W12 wr) (fun iv _ => n - (intOf iv).toNat)
  case atStart => exact ⟨0, Nat.zero_le _, rfl, Below.refl _ _⟩
  case round =>
    obtain ⟨i, hi, rfl, hbr⟩ := hrel
    rename World => wr
    by_cases hlt : i < n
    · have hbb : Below W7.heap.size W7 wr := bel_next HB12.out hbr
      have hbx := HB7.out.later (hbb.mono hs6)
      have hbi : PcT.Ok wr W5.heap.size ⟨A, i, c, Y.enc.take i⟩ := ⟨hbx.here.first (show i ≤ n by omega), hbx.nil, Nat.le_trans (Nat.le_of_lt hlt) hbx.fits, hbx.most⟩
      have hcd := decode14_any ⟨A, i, c, Y.enc.take i⟩ wr.heap.size wr (hbi.more (Nat.le_trans hs6 hbb.size)) (Nat.le_refl _)
      simp only at hcd
      have hfc := hbx.fits
      simp only at hfc
      have hlt' : (i : Int) < (n : Int) := by omega
      have hic : (i : Int) ≤ (c : Int) := by omega
      clear hbi hbx hfc
      go_wp2_with fail
      refine hcd.mono ?_
      rintro e w20 ⟨hb20, ⟨rfl, _⟩ | ⟨V, rfl, hr, hokV, hG⟩⟩
      rotate_left
      · exact (cut_bad HL7.out HOK.out (by rw [HLN.out]; exact hlt) (hG.lie hb20 hb20.size) hr hokV).elim
      have hb21 := bel_next hbr (bel_alloc hb20 (.cells #[.bool false, .slice none 0 0, .slice none 0 0] 25))
      clear hcd hb20 hbb
      go_wp2_with fail
      go_roundw
      case rel => exact ⟨i + 1, by omega, by go_num, hb21⟩
      case measure => simp [intOf]; omega
    · have hbq := bel_next hbz2 hbr
      obtain rfl : i = n := by omega
      clear hlt hi
      go_wp2
      go_ret
      exact ⟨rfl, hbq⟩
end Go.Proofs.Ytnfohlabmidliaa
