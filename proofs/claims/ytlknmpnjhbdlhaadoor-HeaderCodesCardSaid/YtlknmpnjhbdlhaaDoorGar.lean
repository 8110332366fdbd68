import Derived.Test.YtlknmpnjhbdlhaaDoorGao
import Derived.Test.YtlknmpnjhbdlhaaDoorGaa
import Derived.Deep.QuietTactic
import Derived.Test.YtlknmpnjhbdlhaaDoorGaq
/-
  Layer 12: the walk of HeaderTurned.
-/
namespace Go.Proofs.YtlknmpnjhbdlhaaDoor
open Go.RowKit
set_option linter.unusedVariables false

theorem u8_turn (u : UInt8) (e : Nat) (he : e < 8) : bits .xor .u8 (u.toNat : Int) (IntKind.u8.wrap ((2 : Int) ^ e)) = ((u ^^^ UInt8.ofNat (2 ^ e)).toNat : Int) := by
  have hp : 2 ^ e < 256 := Nat.pow_lt_pow_of_lt (a := 2) (n := e) (m := 8) (by decide) he
  have hc : ((2 : Int) ^ e) = ((2 ^ e : Nat) : Int) := by push_cast; rfl
  have hw : ∀ x : Nat, x < 256 → IntKind.u8.wrap (x : Int) = (x : Int) := fun x hx => by
    have : IntKind.u8.wrap (x : Int) = (x : Int) % 256 := by simp [IntKind.wrap, IntKind.bits, IntKind.signed]
    rw [this]; omega
  have ho : ∀ n : Nat, n < 256 → (BitVec.ofInt 8 (n : Int)).toNat = n := fun n hn => by rw [BitVec.toNat_ofInt]; omega
  rw [hc, hw _ hp, Fra.xor_u8 u e he]
  show IntKind.u8.wrap ((BitVec.ofInt 8 (u.toNat : Int) ^^^ BitVec.ofInt 8 ((2 ^ e : Nat) : Int)).toNat : Int) = _
  rw [BitVec.toNat_xor, ho _ u.toNat_lt, ho _ hp, hw _ (Nat.xor_lt_two_pow (n := 8) u.toNat_lt hp)]
theorem u32_bit (t k : Nat) (ht : t < 4294967296) : bits .and .u32 ((t : Int) / 2 ^ k) 1 = ((t / 2 ^ k % 2 : Nat) : Int) := by
  have hx : t / 2 ^ k < 4294967296 := Nat.lt_of_le_of_lt (Nat.div_le_self _ _) ht
  have e : (t : Int) / 2 ^ k = ((t / 2 ^ k : Nat) : Int) := by push_cast; rfl
  rw [e]
  generalize t / 2 ^ k = x at *
  show IntKind.u32.wrap ((BitVec.ofInt 32 (x : Int) &&& BitVec.ofInt 32 1).toNat : Int) = _
  have h1 : (BitVec.ofInt 32 (x : Int)).toNat = x := by rw [BitVec.toNat_ofInt]; omega
  have h2 : (BitVec.ofInt 32 (1 : Int)).toNat = 2 ^ 1 - 1 := by decide
  rw [BitVec.toNat_and, h1, h2, Nat.and_two_pow_sub_one_eq_mod]
  have : IntKind.u32.wrap ((x % 2 ^ 1 : Nat) : Int) = ((x % 2 ^ 1 : Nat) : Int) % 4294967296 := by simp [IntKind.wrap, IntKind.bits, IntKind.signed]
  rw [this]; omega
theorem cut_at (cut : Int) (m : Nat) (hm : 0 < m) : ∃ d : Nat, (IntKind.u64.wrap cut).tmod (m : Int) = (d : Int) ∧ d < m := by
  have h0 : 0 ≤ IntKind.u64.wrap cut := by
    have : IntKind.u64.wrap cut = cut % 18446744073709551616 := by simp [IntKind.wrap, IntKind.bits, IntKind.signed]
    rw [this]; omega
  refine ⟨((IntKind.u64.wrap cut).tmod (m : Int)).toNat, ?_, ?_⟩
  · rw [Int.tmod_eq_emod_of_nonneg h0]
    have := Int.emod_nonneg (IntKind.u64.wrap cut) (show (m : Int) ≠ 0 by omega)
    omega
  · rw [Int.tmod_eq_emod_of_nonneg h0]
    have h1 := Int.emod_nonneg (IntKind.u64.wrap cut) (show (m : Int) ≠ 0 by omega)
    have h2 := Int.emod_lt_of_pos (IntKind.u64.wrap cut) (show (0 : Int) < (m : Int) by omega)
    omega
/-- What a header's block is, and what it says. -/
def blkV (g : Nat) (a : Int) : List UInt8 := if okH g a = true then Hdr.blockL g a.toNat else z64
theorem blkV_len (g : Nat) (a : Int) : (blkV g a).length = 64 := by 
  unfold blkV
  split
  · exact Hdr.block_len _ _
  · exact z64_len
theorem blockH_any (g : Nat) (a : Int) (w : World) (htab : Tab w) (hg : g < 18446744073709551616) :
    Calls Tryd.prog 15 #[.agg #[.int .u64 (g : Int), .int .i64 a]] w fun e w' => e = .returned (arrV (blkV g a)) ∧ Below w.heap.size w w' := by
  by_cases h : okH g a = true
  · obtain ⟨h1, h2, h3⟩ := okH_iff.1 h
    obtain ⟨b, rfl⟩ : ∃ b : Nat, a = (b : Int) := ⟨a.toNat, by omega⟩
    unfold blkV
    rw [if_pos h]
    exact blockH_ok g b w htab h1 hg (by omega)
  · unfold blkV
    rw [if_neg h]
    exact blockH_no g a w (by simpa using h)
set_option maxRecDepth 100000 in
set_option maxHeartbeats 4000000 in
theorem headerTurned_walk (w : World) (g : Nat) (a : Int) (hg : g < 18446744073709551616) (wa : (Lit.int .i64 a).wf = true) (cut : Int) (wc : (Lit.int .i64 cut).wf = true) (tb : Int) (wt : (Lit.int .u32 tb).wf = true) (htab : Tab w) :
    Calls Tryd.prog 8 #[.agg #[.int .u64 (g : Int), .int .i64 a], .int .i64 cut, .int .u32 tb] w fun e w' => e = .returned (.bool true) ∧ Below w.heap.size w w' := by
  obtain ⟨t, rfl, ht⟩ : ∃ t : Nat, tb = (t : Int) ∧ t < 4294967296 := by
    obtain ⟨h0, h1⟩ := wf_u32 wt
    exact ⟨tb.toNat, by omega, by omega⟩
  have Ht := Lib.hid ht
  have HWK := Lib.hid (fun W (h : Below w.heap.size w W) => hwakes_any W (htab.below h htab.lt))
  have HBK := Lib.hid (fun W (h : Below w.heap.size w W) => blockH_any g a W (htab.below h htab.lt) hg)
  have HCK := Lib.hid (fun W => checkH_any g a W)
  have HSY := Lib.hid (fun W l (hl : l.length = 64) (h : Below w.heap.size w W) => saysH_any l hl W (htab.below h htab.lt))
  have HG := Lib.hid hg
  clear wt wc wa htab ht hg
  go_enter Tryd.func8, Tryd.ntmps8
  go_wp2_with fail
  have hb1 := bel_alloc (Below.refl w.heap.size w) (.cells #[.int .u64 (g : Int), .int .i64 a] 24)
  have hh1 : HBox (w.alloc (.cells #[.int .u64 (g : Int), .int .i64 a] 24)) w.heap.size g a := heap_alloc_new w _
  generalize w.alloc (.cells #[.int .u64 (g : Int), .int .i64 a] 24) = W1 at *
  refine (HWK.out _ hb1).mono ?_
  rintro e W2 ⟨rfl, hb2⟩
  have hb3 := bel_next hb1 hb2
  have hh2 := hh1.later hb2
  have x0 := hh2.c0
  have x1 := hh2.c1
  clear hb1 hb2 hh1 HWK
  go_upto_region 4 with (first
    | (go_at_call 15; refine (HBK.out _ hb3).mono ?_; rintro e w3 ⟨rfl, hb4⟩; have hA3 := arr_lit w3)
    | (with_reducible refine wpList_storeArr rfl (.tmp 7) (.tmp 14) rfl rfl rfl hA3 (info64 z64_len) ((blkV_len g a).trans z64_len.symm) ?_; intro W4 ha4 ho4))
  (try simp only [Act.put])
  have hb5 : Below W2.heap.size W2 W4 := (bel_alloc hb4 _).trans (ho4.below _ hb4.size)
  have hb6 := bel_next hb3 hb5
  have hh4 := hh2.later hb5
  obtain ⟨gb, hgb⟩ : ∃ gb, w3.heap.size = gb := ⟨_, rfl⟩
  have hgw : w.heap.size ≤ gb := by have h1 := hb3.size; have h2 := hb4.size; rw [← hgb]; omega
  rw [hgb] at ha4 ⊢
  clear hb3 hb4 hb5 hh2 hA3 ho4 hgb x0 x1 HBK
  go_upto_region 5 with (first
    | (with_reducible refine wpList_loadArr rfl (.tmp 7) rfl rfl ha4 Tryd.underlying25 (info64 (blkV_len g a)) ?_)
    | (go_at_call 13; refine (HSY.out _ _ (blkV_len g a) hb6).mono ?_; rintro e w5 ⟨rfl, hb7⟩))
  have hb8 := bel_alloc (bel_next hb6 hb7) (.cells #[.int .u64 (sayG (blkV g a) : Nat), .int .i64 (sayA (blkV g a) : Nat)] 24)
  have hb9 := bel_alloc hb7 (.cells #[.int .u64 (sayG (blkV g a) : Nat), .int .i64 (sayA (blkV g a) : Nat)] 24)
  have hs5 : HBox (w5.alloc (.cells #[.int .u64 (sayG (blkV g a) : Nat), .int .i64 (sayA (blkV g a) : Nat)] 24)) w5.heap.size (sayG (blkV g a)) (sayA (blkV g a) : Nat) := heap_alloc_new w5 _
  have hh5 := hh4.later hb9
  have ha5 := ha4.later hb9
  generalize w5.alloc (.cells #[.int .u64 (sayG (blkV g a) : Nat), .int .i64 (sayA (blkV g a) : Nat)] 24) = W5 at *
  generalize w5.heap.size = gs at *
  clear hh4 ha4 hb7 hb6 hb9
  have x0 := hh5.c0
  have x1 := hh5.c1
  by_cases hok : okH g a = true
  · obtain ⟨k1, k2, k3⟩ := okH_iff.1 hok
    obtain ⟨b, rfl⟩ : ∃ b : Nat, a = (b : Int) := ⟨a.toNat, by omega⟩
    have k4 : b < 524288 := by omega
    have hbe : blkV g (b : Int) = Hdr.blockL g b := by unfold blkV; rw [if_pos hok]; rfl
    rw [hbe] at hs5 ha5 ⊢
    obtain ⟨e1, e2, e3⟩ := say_some (Hdr.says_block g b k1 HG.out k4)
    rw [e1, e2] at hs5
    rw [e1, e2, e3]
    rw [errH_yes hok] at HCK
    clear hok hbe e1 e2 e3 k2 k3
    go_wp2_with fail
    refine (HCK.out _).mono ?_
    rintro e W6 ⟨rfl, hb10⟩
    have hs6 := hs5.later hb10
    have hh6 := hh5.later hb10
    have ha6 := ha5.later hb10
    have hb11 := bel_next hb8 hb10
    have y0 := hs6.c0
    have y1 := hs6.c1
    have z0 := hh6.c0
    have z1 := hh6.c1
    clear hs5 hh5 ha5 hb8 hb10 x0 x1 HCK
    by_cases ht0 : t = 0
    · subst ht0
      go_wp2
      go_ret
      exact ⟨rfl, hb11⟩
    · have ht1 : ((t : Int) == 0) = false := beq_eq_false_iff_ne.2 (by omega)
      obtain ⟨d, hd, hdm⟩ := cut_at cut 481 (by omega)
      have hd' : (IntKind.u64.wrap cut).tmod 481 = (d : Int) := hd
      have hdw : IntKind.i64.wrap (d : Int) = (d : Int) := by rw [IntKind.wrap_i64]; omega
      have HT0 := Lib.hid ht0
      clear ht0 hd
      go_upto_region 9 with fail
      have hgb := ha6.lt
      have HA0 := Lib.hid (show Arr W6 gb 25 (Fra.turnsL (Hdr.blockL g b) d t 0) from ha6)
      clear hs6 hh6 ha6 y0 y1 z0 z1
      go_wp2_with fail
      go_loopw [43] (fun iv wr => ∃ k : Nat, k ≤ 32 ∧ iv = .int .i64 k ∧ Hid (Arr wr gb 25 (Fra.turnsL (Hdr.blockL g b) d t k)) ∧ Below w.heap.size w wr) (fun iv _ => 32 - (intOf iv).toNat)
      case atStart => exact ⟨0, Nat.zero_le _, rfl, HA0, hb11⟩
      case round =>
        obtain ⟨k, hk, rfl, HA, hbr⟩ := hrel
        clear HA0 hb11 hd' hdw
        by_cases hlt : k < 32
        · have hlt' : ((k : Int) < 32) = True := eq_true (by omega)
          by_cases hbt : t / 2 ^ k % 2 = 1
          · have hb1 : (bits BinOp.and IntKind.u32 ((t : Int) / 2 ^ k) 1 == 1) = true := by rw [u32_bit t k Ht.out, hbt]; rfl
            have hln : (Fra.turnsL (Hdr.blockL g b) d t k).length = 64 := by rw [Fra.turns_len, Hdr.block_len]
            obtain ⟨u, hu⟩ : ∃ u, (Fra.turnsL (Hdr.blockL g b) d t k).getD ((d + k) / 8) 0 = u := ⟨_, rfl⟩
            obtain ⟨P, hP⟩ : ∃ P, (d + k) / 8 = P := ⟨_, rfl⟩
            have hP8 : P < 64 := by omega
            have w1 : IntKind.i64.wrap ((d : Int) + (k : Int)) = (d : Int) + (k : Int) := by rw [IntKind.wrap_i64]; omega
            have w2 : ((d : Int) + (k : Int)).tdiv 8 = (P : Int) := by rw [Int.tdiv_eq_ediv_of_nonneg (by omega)]; omega
            have w2' : ((d : Int) + (k : Int)) / 8 = (P : Int) := by omega
            have w3 : ((d : Int) + (k : Int)).tmod 8 = ((d : Int) + (k : Int)) % 8 := Int.tmod_eq_emod_of_nonneg (by omega)
            have w7 : IntKind.i64.wrap (P : Int) = (P : Int) := by rw [IntKind.wrap_i64]; omega
            have w8 : IntKind.i64.wrap (((d : Int) + (k : Int)) % 8) = ((d : Int) + (k : Int)) % 8 := by rw [IntKind.wrap_i64]; omega
            have w9 : 0 ≤ ((d : Int) + (k : Int)) % 8 := by omega
            have hq : wr.cell? ⟨gb, P, none⟩ = some (.int .u8 (u.toNat : Int)) := by
              have h := HA.out.cell (j := P) (by rw [hln]; exact hP8)
              rw [h]
              unfold at8
              rw [← hP, hu]
            have hf := HA.out.soft P
            have hx8 : (((d : Int) + (k : Int)) % 8).toNat = (d + k) % 8 := by omega
            have hxo := u8_turn u ((d + k) % 8) (by omega)
            rw [← hx8] at hxo
            have HXO := Lib.hid hxo
            have hst := HA.out.set P (u ^^^ UInt8.ofNat (2 ^ ((d + k) % 8)))
            have hnx : (Fra.turnsL (Hdr.blockL g b) d t k).set P (u ^^^ UInt8.ofNat (2 ^ ((d + k) % 8))) = Fra.turnsL (Hdr.blockL g b) d t (k + 1) := by
              rw [Fra.turnsL, if_pos hbt]
              unfold Fra.turnL
              rw [hP, ← hu, hP]
            rw [hnx] at hst
            have HST := Lib.hid hst
            clear hst hnx hu hbt hxo hln hP
            have HX8 := Lib.hid hx8
            clear hx8
            go_upto_region 14 with fail
            go_region
            have hv : Value.int .u8 (bits BinOp.xor IntKind.u8 (u.toNat : Int) ((2 : Int) ^ ((d + k) % 8) % 256)) = bv (u ^^^ UInt8.ofNat (2 ^ ((d + k) % 8))) := by
              unfold bv
              rw [← u8_turn u ((d + k) % 8) (by omega)]
              congr 2
            rw [hv]
            have HA3 := Lib.hid (show Arr ((wr.setCell ⟨gb, P, none⟩ (bv (u ^^^ UInt8.ofNat (2 ^ ((d + k) % 8))))).drew) gb 25 (Fra.turnsL (Hdr.blockL g b) d t (k + 1)) from HST.out.1)
            have hb12 : Below w.heap.size w ((wr.setCell ⟨gb, P, none⟩ (bv (u ^^^ UInt8.ofNat (2 ^ ((d + k) % 8))))).drew) := below_drewN (hbr.setCell hgw _) 1
            generalize (wr.setCell ⟨gb, P, none⟩ (bv (u ^^^ UInt8.ofNat (2 ^ ((d + k) % 8))))).drew = w12 at *
            clear hv HST HXO HX8 hq hf w1 w2 w2' w3 w7 w8 w9 HA hbr
            go_wp2
            go_roundw
            case rel => exact ⟨k + 1, by omega, by go_num, HA3, hb12⟩
            case measure => simp [intOf]; omega
          · have hb1 : (bits BinOp.and IntKind.u32 ((t : Int) / 2 ^ k) 1 == 1) = false := by
              rw [u32_bit t k Ht.out, show t / 2 ^ k % 2 = 0 by omega]; rfl
            have HA3 := Lib.hid (show Arr wr gb 25 (Fra.turnsL (Hdr.blockL g b) d t (k + 1)) by
              rw [show Fra.turnsL (Hdr.blockL g b) d t (k + 1) = Fra.turnsL (Hdr.blockL g b) d t k by rw [Fra.turnsL, if_neg hbt]]
              exact HA.out)
            clear hbt HA
            go_wp2_with fail
            go_roundw
            case rel => exact ⟨k + 1, by omega, by go_num, HA3, hbr⟩
            case measure => simp [intOf]; omega
        · obtain rfl : k = 32 := by omega
          have hlt' : ((((32 : Nat) : Int)) < 32) = False := eq_false (by omega)
          have hln : (Fra.turnsL (Hdr.blockL g b) d t 32).length = 64 := by rw [Fra.turns_len, Hdr.block_len]
          obtain ⟨l, hl⟩ : ∃ l, Fra.turnsL (Hdr.blockL g b) d t 32 = l := ⟨_, rfl⟩
          have hno : Hdr.saysL l = none := by rw [← hl]; exact Hdr.turned_says Ht.out HT0.out (by omega)
          have ha7 := HA.out
          rw [hl] at ha7 hln
          have hsy := HSY.out wr l hln hbr
          rw [(say_none hno).1, (say_none hno).2.1, (say_none hno).2.2] at hsy
          clear HA hl hno HSY hlt
          go_wp2_with (first
            | (with_reducible refine wpList_loadArr rfl (.tmp 7) rfl rfl ha7 Tryd.underlying25 (info64 hln) ?_)
            | (go_at_call 13; refine hsy.mono ?_; rintro e w8 ⟨rfl, hb12⟩; have hb13 := bel_next hbr hb12))
          go_ret
          exact ⟨rfl, hb13⟩
  · have hok' : okH g a = false := by simpa using hok
    have hbe : blkV g a = z64 := by unfold blkV; rw [if_neg hok]
    rw [hbe] at hs5 ha5 ⊢
    obtain ⟨e1, e2, e3⟩ := say_none z64_says
    rw [e1, e2] at hs5
    rw [e1, e2, e3]
    rw [errH_no hok'] at HCK
    clear hok hok' hbe e1 e2 e3
    go_wp2_with fail
    refine (HCK.out _).mono ?_
    rintro e W6 ⟨rfl, hb10⟩
    have hb11 := bel_next hb8 hb10
    clear hs5 hh5 ha5 hb8 hb10 x0 x1 HCK
    go_wp2
    go_ret
    exact ⟨rfl, hb11⟩
end Go.Proofs.YtlknmpnjhbdlhaaDoor
/-
  Layer 12: the walk of HeaderCodes.
-/
namespace Go.Proofs.YtlknmpnjhbdlhaaDoor
open Go.RowKit
set_option linter.unusedVariables false

set_option maxRecDepth 100000 in
set_option maxHeartbeats 4000000 in
theorem headerCodes_walk (w : World) (g : Nat) (a : Int) (hg : g < 18446744073709551616) (wa : (Lit.int .i64 a).wf = true) (l : List UInt8) (hl : l.length = 64) (htab : Tab w) :
    Calls Tryd.prog 3 #[.agg #[.int .u64 (g : Int), .int .i64 a], .agg ⟨l.map bv⟩] w fun e w' => e = .returned (.bool true) ∧ Below w.heap.size w w' := by
  obtain ⟨i8, hi8, -⟩ := u8_info
  have HWK := Lib.hid (fun W (h : Below w.heap.size w W) => hwakes_any W (htab.below h htab.lt))
  have HBK := Lib.hid (fun W (h : Below w.heap.size w W) => blockH_any g a W (htab.below h htab.lt) hg)
  have HCK := Lib.hid (fun W => checkH_any g a W)
  have HRT := Lib.hid (fun W => refRightH_any g a W)
  have HSY := Lib.hid (fun W (h : Below w.heap.size w W) => saysH_any l hl W (htab.below h htab.lt))
  have HSR := Lib.hid (fun W => refSaysH_any l hl W)
  have HG := Lib.hid hg
  have HL := Lib.hid hl
  obtain ⟨s, hs⟩ : ∃ s, (Hdr.saysL l).isSome = s := ⟨_, rfl⟩
  obtain ⟨g1, hg1⟩ : ∃ g1, sayG l = g1 := ⟨_, rfl⟩
  obtain ⟨a1, ha1⟩ : ∃ a1, sayA l = a1 := ⟨_, rfl⟩
  rw [hs, hg1, ha1] at HSY HSR
  clear wa htab hg hl hs hg1 ha1
  go_enter Tryd.func3, Tryd.ntmps3
  go_wp2_with fail
  obtain ⟨W1, hW1⟩ : ∃ W1, (w.alloc (.cells #[.int .u64 (g : Int), .int .i64 a] 24)).alloc (.cells ⟨l.map bv⟩ 25) = W1 := ⟨_, rfl⟩
  have hb1 : Below w.heap.size w W1 := by rw [← hW1]; exact bel_alloc (bel_alloc (Below.refl _ _) _) _
  have hh1 : HBox W1 w.heap.size g a := by
    rw [← hW1]
    exact (show HBox _ _ g a from heap_alloc_new w _).later (bel_alloc (Below.refl _ _) _)
  have hA1 : Arr W1 (w.heap.size + 1) 25 l := by
    have h := Arr.new (w.alloc (.cells #[.int .u64 (g : Int), .int .i64 a] 24)) 25 l
    rw [World.size_alloc] at h
    rw [← hW1]
    exact h
  rw [hW1]
  clear hW1
  refine (HWK.out _ hb1).mono ?_
  rintro e W2 ⟨rfl, hb2⟩
  have hb3 := bel_next hb1 hb2
  have hh2 := hh1.later hb2
  have hA2 := hA1.later hb2
  have x0 := hh2.c0
  have x1 := hh2.c1
  clear hb1 hb2 hh1 hA1 HWK
  go_wp2_with fail
  refine (HRT.out _).mono ?_
  rintro e W3 ⟨rfl, hb4⟩
  have hb5 := bel_next hb3 hb4
  have hh3 := hh2.later hb4
  have hA3 := hA2.later hb4
  have y0 := hh3.c0
  have y1 := hh3.c1
  clear hb3 hb4 hh2 hA2 x0 x1 HRT
  go_wp2_with fail
  refine (HCK.out _).mono ?_
  rintro e W4 ⟨rfl, hb6⟩
  have hb7 := bel_next hb5 hb6
  have hh4 := hh3.later hb6
  have hA4 := hA3.later hb6
  clear hb5 hb6 hh3 hA3 y0 y1 HCK
  by_cases hok : okH g a = true
  · rw [hok, errH_yes hok]
    have hwant : blkV g a = Hdr.blockL g a.toNat := by unfold blkV; rw [if_pos hok]
    obtain ⟨k1, k2, k3⟩ := okH_iff.1 hok
    obtain ⟨b, rfl⟩ : ∃ b : Nat, a = (b : Int) := ⟨a.toNat, by omega⟩
    have HWN := Lib.hid (show blkV g (b : Int) = Hdr.blockL g b from hwant)
    have HRB := Lib.hid (fun W => refBlockH_any g b W HG.out (show b < 524288 by omega))
    clear hok hwant k1 k2 k3
    have x0 := hh4.c0
    have x1 := hh4.c1
    go_upto_region 7 with fail
    have hA5 := arr_lit W4
    go_upto_region 8 with (refine wpList_storeArr rfl (.tmp 7) (.tmp 30) rfl rfl (show _ = arrV z64 from rfl) hA5 (info64 z64_len) rfl ?_; intro W5 ha5 ho5)
    (try simp only [Act.put])
    obtain ⟨g5, hg5⟩ : ∃ g5, W4.heap.size = g5 := ⟨_, rfl⟩
    have hbo : Below W4.heap.size W4 W5 := (bel_alloc (Below.refl _ _) _).trans (ho5.below _ (Nat.le_refl _))
    have hb8 := bel_next hb7 hbo
    have hh5 := hh4.later hbo
    have hA5' := hA4.later hbo
    have hg5' : w.heap.size + 1 < g5 := by rw [← hg5]; exact hA4.lt
    rw [hg5] at ha5 ⊢
    have y0 := hh5.c0
    have y1 := hh5.c1
    clear hg5 hbo hb7 hh4 hA4 hA5 ho5 x0 x1
    go_upto_region 10 with (first
      | (go_at_call 12; refine (HRB.out _).mono ?_; rintro e w6 ⟨rfl, hbr⟩; have ha5' := ha5.later hbr)
      | (with_reducible refine wpList_storeArr rfl (.tmp 7) (.tmp 33) rfl rfl rfl ha5' (info64 z64_len) ((Hdr.block_len g b).trans z64_len.symm) ?_; intro W6 ha6 ho6))
    (try simp only [Act.put])
    have hh6 : HBox W6 w.heap.size g (b : Nat) := (ho6.other _ (by omega)).trans (hh5.later hbr)
    have hA6 : Arr W6 (w.heap.size + 1) 25 l := ho6.arr (hA5'.later hbr) (by omega)
    have hb9 := (bel_next hb8 hbr).trans (ho6.below w.heap.size (by omega))
    rw [← HWN.out] at ha6
    clear ha5 ha5' hbr ho6 hh5 hA5' hb8 y0 y1 HRB
    have hlw := blkV_len g (b : Int)
    go_upto_region 10 with fail
    have hls := HL.out
    go_upto_region 11 with (first
      | (with_reducible refine wpList_loadArr rfl (.tmp 3) rfl rfl hA6 Tryd.underlying25 (info64 hls) ?_)
      | (go_at_call 13; refine (HSY.out _ hb9).mono ?_; rintro e w7 ⟨rfl, hb10⟩))
    have hbq := bel_alloc hb10 (.cells #[.int .u64 (g1 : Nat), .int .i64 (a1 : Nat)] 24)
    have hb11 := bel_next hb9 hbq
    have hk7 : HBox (w7.alloc (.cells #[.int .u64 (g1 : Nat), .int .i64 (a1 : Nat)] 24)) w7.heap.size g1 (a1 : Nat) := heap_alloc_new w7 _
    have hh7 := hh6.later hbq
    have hA7 := hA6.later hbq
    have hw7 := ha6.later hbq
    generalize w7.alloc (.cells #[.int .u64 (g1 : Nat), .int .i64 (a1 : Nat)] 24) = W7 at *
    generalize w7.heap.size = gk at *
    clear hb9 hb10 hbq hh6 hA6 ha6 HSY
    go_upto_region 12 with (first
      | (with_reducible refine wpList_loadArr rfl (.tmp 3) rfl rfl hA7 Tryd.underlying25 (info64 hls) ?_)
      | (go_at_call 14; refine (HSR.out _).mono ?_; rintro e w8 ⟨rfl, hb12⟩))
    have hbq := bel_alloc hb12 (.cells #[.int .u64 (g1 : Nat), .int .i64 (a1 : Nat)] 24)
    have hb13 := bel_next hb11 hbq
    have hm8 : HBox (w8.alloc (.cells #[.int .u64 (g1 : Nat), .int .i64 (a1 : Nat)] 24)) w8.heap.size g1 (a1 : Nat) := heap_alloc_new w8 _
    have hk8 := hk7.later hbq
    have hh8 := hh7.later hbq
    have hw8 := hw7.later hbq
    generalize w8.alloc (.cells #[.int .u64 (g1 : Nat), .int .i64 (a1 : Nat)] 24) = W9 at *
    generalize w8.heap.size = gm at *
    have x0 : ∀ W, Below W9.heap.size W9 W → W.cell? ⟨w.heap.size, 0, none⟩ = some (.int .u64 (g : Int)) := fun W h => (hh8.later h).c0
    have x1 : ∀ W, Below W9.heap.size W9 W → W.cell? ⟨w.heap.size, 1, none⟩ = some (.int .i64 (b : Int)) := fun W h => (hh8.later h).c1
    have y0 : ∀ W, Below W9.heap.size W9 W → W.cell? ⟨gk, 0, none⟩ = some (.int .u64 (g1 : Nat)) := fun W h => (hk8.later h).c0
    have y1 : ∀ W, Below W9.heap.size W9 W → W.cell? ⟨gk, 1, none⟩ = some (.int .i64 (a1 : Nat)) := fun W h => (hk8.later h).c1
    have z0 : ∀ W, Below W9.heap.size W9 W → W.cell? ⟨gm, 0, none⟩ = some (.int .u64 (g1 : Nat)) := fun W h => (hm8.later h).c0
    have z1 : ∀ W, Below W9.heap.size W9 W → W.cell? ⟨gm, 1, none⟩ = some (.int .i64 (a1 : Nat)) := fun W h => (hm8.later h).c1
    have HAW := Lib.hid (fun W (h : Below W9.heap.size W9 W) => hw8.later h)
    have HBW := Lib.hid hb13
    have HB9 := Lib.hid (fun W (h : Below W9.heap.size W9 W) => HBK.out W (HBW.out.trans (h.mono HBW.out.size)))
    clear hb11 hb12 hbq hb13 hm8 hk7 hk8 hh7 hh8 hw7 hw8 hA7 hls hlw HSR HBK
    refine wp_region_held_drew (S := fun W => Below W9.heap.size W9 W) (by kernel_rfl) (below_drewN (Below.refl _ _) 1) (fun hHeld => ?_)
    refine rg_in 0 rfl (by kernel_rfl) (by kernel_rfl) (by kernel_rfl) (by rfl) (v := ?_) (fun _ _ _ h => h) hHeld (fun w hSw => ?_) ?_
    rotate_left
    · (try dsimp only at hSw); go_simp <;> (with_reducible rfl)
    (try simp only [Act.put, List.setIfInBounds_toArray, List.set_cons_zero, List.set_cons_succ])
    refine wpAnyH_ready (rs := [1, 2]) (by kernel_rfl) (by simp) ?_
    refine rg_cons rfl (by rfl) (fun K hK => ?_) ?_
    · go_simp
      (go_at_call 15; (with_reducible refine (HB9.out _ hHeld).mono ?_); (rintro e w101 ⟨rfl, hb1⟩))
      refine hK.out _ _ (S_call hb1 hHeld rfl) (fun hHeld => ?_)
      clear hK K
      (try simp only [Act.put, List.setIfInBounds_toArray, List.set_cons_zero, List.set_cons_succ])
      refine rg_do 2 rfl (by kernel_rfl) (by rfl) (fun K hK => ?_)
      refine wp_loadArr (.tmp 7) rfl rfl (HAW.out _ hHeld) Tryd.underlying25 (info64 (blkV_len _ _)) ?_
      refine hK.out _ _ hHeld (fun hHeld => ?_)
      clear hK K
      (try simp only [Act.put, List.setIfInBounds_toArray, List.set_cons_zero, List.set_cons_succ])
      refine rg_do 3 rfl (by kernel_rfl) (by rfl) (fun K hK => ?_)
      refine wp_eqArr (.tmp 45) (.tmp 46) _ rfl rfl rfl Tryd.underlying25 Tryd.underlying5 hi8 ce8 (blkV_len _ _) (blkV_len _ _) eqg64 ?_
      rw [decide_eq_true rfl]
      refine hK.out _ _ hHeld (fun hHeld => ?_)
      clear hK K
      (try simp only [Act.put, List.setIfInBounds_toArray, List.set_cons_zero, List.set_cons_succ])
      refine rg_in 4 rfl (by kernel_rfl) (by kernel_rfl) (by kernel_rfl) (by rfl) (v := ?_) (fun _ _ _ h => h) hHeld (fun w hSw => ?_) ?_
      rotate_left
      · (try dsimp only at hSw); go_simp <;> (with_reducible rfl)
      (try simp only [Act.put, List.setIfInBounds_toArray, List.set_cons_zero, List.set_cons_succ])
      refine rg_in 5 rfl (by kernel_rfl) (by kernel_rfl) (by kernel_rfl) (by rfl) (v := ?_) (fun _ _ _ h => h) hHeld (fun w hSw => ?_) ?_
      rotate_left
      · (try dsimp only at hSw); go_simp <;> (with_reducible rfl)
      (try simp only [Act.put, List.setIfInBounds_toArray, List.set_cons_zero, List.set_cons_succ])
      refine rg_in 6 rfl (by kernel_rfl) (by kernel_rfl) (by kernel_rfl) (by rfl) (v := ?_) (fun _ _ _ h => h) hHeld (fun w hSw => ?_) ?_
      rotate_left
      · (try dsimp only at hSw); go_simp <;> (with_reducible rfl)
      (try simp only [Act.put, List.setIfInBounds_toArray, List.set_cons_zero, List.set_cons_succ])
      refine rg_in 7 rfl (by kernel_rfl) (by kernel_rfl) (by kernel_rfl) (by rfl) (v := ?_) (fun _ _ _ h => h) hHeld (fun w hSw => ?_) ?_
      rotate_left
      · (try dsimp only at hSw); go_simp <;> (with_reducible rfl)
      (try simp only [Act.put, List.setIfInBounds_toArray, List.set_cons_zero, List.set_cons_succ])
      refine rg_in 8 rfl (by kernel_rfl) (by kernel_rfl) (by kernel_rfl) (by rfl) (v := ?_) (fun _ _ _ h => h) hHeld (fun w hSw => ?_) ?_
      rotate_left
      · (try dsimp only at hSw); go_simp <;> (with_reducible rfl)
      (try simp only [Act.put, List.setIfInBounds_toArray, List.set_cons_zero, List.set_cons_succ])
      refine rg_in 9 rfl (by kernel_rfl) (by kernel_rfl) (by kernel_rfl) (by rfl) (v := ?_) (fun _ _ _ h => h) hHeld (fun w hSw => ?_) ?_
      rotate_left
      · (try dsimp only at hSw); go_simp <;> (with_reducible rfl)
      (try simp only [Act.put, List.setIfInBounds_toArray, List.set_cons_zero, List.set_cons_succ])
      refine rg_in 10 rfl (by kernel_rfl) (by kernel_rfl) (by kernel_rfl) (by rfl) (v := ?_) (fun _ _ _ h => h) hHeld (fun w hSw => ?_) ?_
      rotate_left
      · (try dsimp only at hSw); go_simp <;> (with_reducible rfl)
      (try simp only [Act.put, List.setIfInBounds_toArray, List.set_cons_zero, List.set_cons_succ])
      refine rg_in 11 rfl (by kernel_rfl) (by kernel_rfl) (by kernel_rfl) (by rfl) (v := ?_) (fun _ _ _ h => h) hHeld (fun w hSw => ?_) ?_
      rotate_left
      · (try dsimp only at hSw); go_simp <;> (with_reducible rfl)
      (try simp only [Act.put, List.setIfInBounds_toArray, List.set_cons_zero, List.set_cons_succ])
      refine rg_in 12 rfl (by kernel_rfl) (by kernel_rfl) (by kernel_rfl) (by rfl) (v := ?_) (fun _ _ _ h => h) hHeld (fun w hSw => ?_) ?_
      rotate_left
      · (try dsimp only at hSw); go_simp <;> (with_reducible rfl)
      (try simp only [Act.put, List.setIfInBounds_toArray, List.set_cons_zero, List.set_cons_succ])
      refine rg_in 13 rfl (by kernel_rfl) (by kernel_rfl) (by kernel_rfl) (by rfl) (v := ?_) (fun _ _ _ h => h) hHeld (fun w hSw => ?_) ?_
      rotate_left
      · (try dsimp only at hSw); go_simp <;> (with_reducible rfl)
      (try simp only [Act.put, List.setIfInBounds_toArray, List.set_cons_zero, List.set_cons_succ])
      refine rg_in 14 rfl (by kernel_rfl) (by kernel_rfl) (by kernel_rfl) (by rfl) (v := ?_) (fun _ _ _ h => h) hHeld (fun w hSw => ?_) ?_
      rotate_left
      · (try dsimp only at hSw); go_simp <;> (with_reducible rfl)
      (try simp only [Act.put, List.setIfInBounds_toArray, List.set_cons_zero, List.set_cons_succ])
      refine wpAnyH_done (by kernel_rfl) ?_ _
      have hbz := HBW.out.trans (hHeld.mono HBW.out.size)
      clear x0 x1 y0 y1 z0 z1 hHeld
      go_wp2
      go_ret
      exact ⟨by first | rfl | simp, hbz⟩
    refine rg_cons rfl (by rfl) (fun K hK => ?_) ?_
    · refine wp_loadArr (.tmp 7) rfl rfl (HAW.out _ hHeld) Tryd.underlying25 (info64 (blkV_len _ _)) ?_
      refine hK.out _ _ hHeld (fun hHeld => ?_)
      clear hK K
      (try simp only [Act.put, List.setIfInBounds_toArray, List.set_cons_zero, List.set_cons_succ])
      refine rg_do 1 rfl (by kernel_rfl) (by rfl) (fun K hK => ?_)
      go_simp
      (go_at_call 15; (with_reducible refine (HB9.out _ hHeld).mono ?_); (rintro e w101 ⟨rfl, hb1⟩))
      refine hK.out _ _ (S_call hb1 hHeld rfl) (fun hHeld => ?_)
      clear hK K
      (try simp only [Act.put, List.setIfInBounds_toArray, List.set_cons_zero, List.set_cons_succ])
      refine rg_do 3 rfl (by kernel_rfl) (by rfl) (fun K hK => ?_)
      refine wp_eqArr (.tmp 45) (.tmp 46) _ rfl rfl rfl Tryd.underlying25 Tryd.underlying5 hi8 ce8 (blkV_len _ _) (blkV_len _ _) eqg64 ?_
      rw [decide_eq_true rfl]
      refine hK.out _ _ hHeld (fun hHeld => ?_)
      clear hK K
      (try simp only [Act.put, List.setIfInBounds_toArray, List.set_cons_zero, List.set_cons_succ])
      refine rg_in 4 rfl (by kernel_rfl) (by kernel_rfl) (by kernel_rfl) (by rfl) (v := ?_) (fun _ _ _ h => h) hHeld (fun w hSw => ?_) ?_
      rotate_left
      · (try dsimp only at hSw); go_simp <;> (with_reducible rfl)
      (try simp only [Act.put, List.setIfInBounds_toArray, List.set_cons_zero, List.set_cons_succ])
      refine rg_in 5 rfl (by kernel_rfl) (by kernel_rfl) (by kernel_rfl) (by rfl) (v := ?_) (fun _ _ _ h => h) hHeld (fun w hSw => ?_) ?_
      rotate_left
      · (try dsimp only at hSw); go_simp <;> (with_reducible rfl)
      (try simp only [Act.put, List.setIfInBounds_toArray, List.set_cons_zero, List.set_cons_succ])
      refine rg_in 6 rfl (by kernel_rfl) (by kernel_rfl) (by kernel_rfl) (by rfl) (v := ?_) (fun _ _ _ h => h) hHeld (fun w hSw => ?_) ?_
      rotate_left
      · (try dsimp only at hSw); go_simp <;> (with_reducible rfl)
      (try simp only [Act.put, List.setIfInBounds_toArray, List.set_cons_zero, List.set_cons_succ])
      refine rg_in 7 rfl (by kernel_rfl) (by kernel_rfl) (by kernel_rfl) (by rfl) (v := ?_) (fun _ _ _ h => h) hHeld (fun w hSw => ?_) ?_
      rotate_left
      · (try dsimp only at hSw); go_simp <;> (with_reducible rfl)
      (try simp only [Act.put, List.setIfInBounds_toArray, List.set_cons_zero, List.set_cons_succ])
      refine rg_in 8 rfl (by kernel_rfl) (by kernel_rfl) (by kernel_rfl) (by rfl) (v := ?_) (fun _ _ _ h => h) hHeld (fun w hSw => ?_) ?_
      rotate_left
      · (try dsimp only at hSw); go_simp <;> (with_reducible rfl)
      (try simp only [Act.put, List.setIfInBounds_toArray, List.set_cons_zero, List.set_cons_succ])
      refine rg_in 9 rfl (by kernel_rfl) (by kernel_rfl) (by kernel_rfl) (by rfl) (v := ?_) (fun _ _ _ h => h) hHeld (fun w hSw => ?_) ?_
      rotate_left
      · (try dsimp only at hSw); go_simp <;> (with_reducible rfl)
      (try simp only [Act.put, List.setIfInBounds_toArray, List.set_cons_zero, List.set_cons_succ])
      refine rg_in 10 rfl (by kernel_rfl) (by kernel_rfl) (by kernel_rfl) (by rfl) (v := ?_) (fun _ _ _ h => h) hHeld (fun w hSw => ?_) ?_
      rotate_left
      · (try dsimp only at hSw); go_simp <;> (with_reducible rfl)
      (try simp only [Act.put, List.setIfInBounds_toArray, List.set_cons_zero, List.set_cons_succ])
      refine rg_in 11 rfl (by kernel_rfl) (by kernel_rfl) (by kernel_rfl) (by rfl) (v := ?_) (fun _ _ _ h => h) hHeld (fun w hSw => ?_) ?_
      rotate_left
      · (try dsimp only at hSw); go_simp <;> (with_reducible rfl)
      (try simp only [Act.put, List.setIfInBounds_toArray, List.set_cons_zero, List.set_cons_succ])
      refine rg_in 12 rfl (by kernel_rfl) (by kernel_rfl) (by kernel_rfl) (by rfl) (v := ?_) (fun _ _ _ h => h) hHeld (fun w hSw => ?_) ?_
      rotate_left
      · (try dsimp only at hSw); go_simp <;> (with_reducible rfl)
      (try simp only [Act.put, List.setIfInBounds_toArray, List.set_cons_zero, List.set_cons_succ])
      refine rg_in 13 rfl (by kernel_rfl) (by kernel_rfl) (by kernel_rfl) (by rfl) (v := ?_) (fun _ _ _ h => h) hHeld (fun w hSw => ?_) ?_
      rotate_left
      · (try dsimp only at hSw); go_simp <;> (with_reducible rfl)
      (try simp only [Act.put, List.setIfInBounds_toArray, List.set_cons_zero, List.set_cons_succ])
      refine rg_in 14 rfl (by kernel_rfl) (by kernel_rfl) (by kernel_rfl) (by rfl) (v := ?_) (fun _ _ _ h => h) hHeld (fun w hSw => ?_) ?_
      rotate_left
      · (try dsimp only at hSw); go_simp <;> (with_reducible rfl)
      (try simp only [Act.put, List.setIfInBounds_toArray, List.set_cons_zero, List.set_cons_succ])
      refine wpAnyH_done (by kernel_rfl) ?_ _
      have hbz := HBW.out.trans (hHeld.mono HBW.out.size)
      clear x0 x1 y0 y1 z0 z1 hHeld
      go_wp2
      go_ret
      exact ⟨by first | rfl | simp, hbz⟩
    exact AllReadyH.nil
  · have hok' : okH g a = false := by simpa using hok
    rw [hok', errH_no hok']
    have HWN := Lib.hid (show blkV g a = z64 by unfold blkV; rw [if_neg hok])
    clear hok hok'
    have x0 := hh4.c0
    have x1 := hh4.c1
    go_upto_region 7 with fail
    have hA5 := arr_lit W4
    go_upto_region 8 with (refine wpList_storeArr rfl (.tmp 7) (.tmp 30) rfl rfl (show _ = arrV z64 from rfl) hA5 (info64 z64_len) rfl ?_; intro W5 ha5 ho5)
    (try simp only [Act.put])
    obtain ⟨g5, hg5⟩ : ∃ g5, W4.heap.size = g5 := ⟨_, rfl⟩
    have hbo : Below W4.heap.size W4 W5 := (bel_alloc (Below.refl _ _) _).trans (ho5.below _ (Nat.le_refl _))
    have hb9 := bel_next hb7 hbo
    have hh6 := hh4.later hbo
    have hA6 := hA4.later hbo
    rw [hg5] at ha5 ⊢
    have ha6 := ha5
    rw [← HWN.out] at ha6
    clear hg5 hbo hb7 hh4 hA4 hA5 ho5 ha5 x0 x1
    have hlw := blkV_len g a
    go_upto_region 10 with fail
    have hls := HL.out
    go_upto_region 11 with (first
      | (with_reducible refine wpList_loadArr rfl (.tmp 3) rfl rfl hA6 Tryd.underlying25 (info64 hls) ?_)
      | (go_at_call 13; refine (HSY.out _ hb9).mono ?_; rintro e w7 ⟨rfl, hb10⟩))
    have hbq := bel_alloc hb10 (.cells #[.int .u64 (g1 : Nat), .int .i64 (a1 : Nat)] 24)
    have hb11 := bel_next hb9 hbq
    have hk7 : HBox (w7.alloc (.cells #[.int .u64 (g1 : Nat), .int .i64 (a1 : Nat)] 24)) w7.heap.size g1 (a1 : Nat) := heap_alloc_new w7 _
    have hh7 := hh6.later hbq
    have hA7 := hA6.later hbq
    have hw7 := ha6.later hbq
    generalize w7.alloc (.cells #[.int .u64 (g1 : Nat), .int .i64 (a1 : Nat)] 24) = W7 at *
    generalize w7.heap.size = gk at *
    clear hb9 hb10 hbq hh6 hA6 ha6 HSY
    go_upto_region 12 with (first
      | (with_reducible refine wpList_loadArr rfl (.tmp 3) rfl rfl hA7 Tryd.underlying25 (info64 hls) ?_)
      | (go_at_call 14; refine (HSR.out _).mono ?_; rintro e w8 ⟨rfl, hb12⟩))
    have hbq := bel_alloc hb12 (.cells #[.int .u64 (g1 : Nat), .int .i64 (a1 : Nat)] 24)
    have hb13 := bel_next hb11 hbq
    have hm8 : HBox (w8.alloc (.cells #[.int .u64 (g1 : Nat), .int .i64 (a1 : Nat)] 24)) w8.heap.size g1 (a1 : Nat) := heap_alloc_new w8 _
    have hk8 := hk7.later hbq
    have hh8 := hh7.later hbq
    have hw8 := hw7.later hbq
    generalize w8.alloc (.cells #[.int .u64 (g1 : Nat), .int .i64 (a1 : Nat)] 24) = W9 at *
    generalize w8.heap.size = gm at *
    have x0 : ∀ W, Below W9.heap.size W9 W → W.cell? ⟨w.heap.size, 0, none⟩ = some (.int .u64 (g : Int)) := fun W h => (hh8.later h).c0
    have x1 : ∀ W, Below W9.heap.size W9 W → W.cell? ⟨w.heap.size, 1, none⟩ = some (.int .i64 a) := fun W h => (hh8.later h).c1
    have y0 : ∀ W, Below W9.heap.size W9 W → W.cell? ⟨gk, 0, none⟩ = some (.int .u64 (g1 : Nat)) := fun W h => (hk8.later h).c0
    have y1 : ∀ W, Below W9.heap.size W9 W → W.cell? ⟨gk, 1, none⟩ = some (.int .i64 (a1 : Nat)) := fun W h => (hk8.later h).c1
    have z0 : ∀ W, Below W9.heap.size W9 W → W.cell? ⟨gm, 0, none⟩ = some (.int .u64 (g1 : Nat)) := fun W h => (hm8.later h).c0
    have z1 : ∀ W, Below W9.heap.size W9 W → W.cell? ⟨gm, 1, none⟩ = some (.int .i64 (a1 : Nat)) := fun W h => (hm8.later h).c1
    have HAW := Lib.hid (fun W (h : Below W9.heap.size W9 W) => hw8.later h)
    have HBW := Lib.hid hb13
    have HB9 := Lib.hid (fun W (h : Below W9.heap.size W9 W) => HBK.out W (HBW.out.trans (h.mono HBW.out.size)))
    clear hb11 hb12 hbq hb13 hm8 hk7 hk8 hh7 hh8 hw7 hw8 hA7 hls hlw HSR HBK
    refine wp_region_held_drew (S := fun W => Below W9.heap.size W9 W) (by kernel_rfl) (below_drewN (Below.refl _ _) 1) (fun hHeld => ?_)
    refine rg_in 0 rfl (by kernel_rfl) (by kernel_rfl) (by kernel_rfl) (by rfl) (v := ?_) (fun _ _ _ h => h) hHeld (fun w hSw => ?_) ?_
    rotate_left
    · (try dsimp only at hSw); go_simp <;> (with_reducible rfl)
    (try simp only [Act.put, List.setIfInBounds_toArray, List.set_cons_zero, List.set_cons_succ])
    refine wpAnyH_ready (rs := [1, 2]) (by kernel_rfl) (by simp) ?_
    refine rg_cons rfl (by rfl) (fun K hK => ?_) ?_
    · go_simp
      (go_at_call 15; (with_reducible refine (HB9.out _ hHeld).mono ?_); (rintro e w101 ⟨rfl, hb1⟩))
      refine hK.out _ _ (S_call hb1 hHeld rfl) (fun hHeld => ?_)
      clear hK K
      (try simp only [Act.put, List.setIfInBounds_toArray, List.set_cons_zero, List.set_cons_succ])
      refine rg_do 2 rfl (by kernel_rfl) (by rfl) (fun K hK => ?_)
      refine wp_loadArr (.tmp 7) rfl rfl (HAW.out _ hHeld) Tryd.underlying25 (info64 (blkV_len _ _)) ?_
      refine hK.out _ _ hHeld (fun hHeld => ?_)
      clear hK K
      (try simp only [Act.put, List.setIfInBounds_toArray, List.set_cons_zero, List.set_cons_succ])
      refine rg_do 3 rfl (by kernel_rfl) (by rfl) (fun K hK => ?_)
      refine wp_eqArr (.tmp 45) (.tmp 46) _ rfl rfl rfl Tryd.underlying25 Tryd.underlying5 hi8 ce8 (blkV_len _ _) (blkV_len _ _) eqg64 ?_
      rw [decide_eq_true rfl]
      refine hK.out _ _ hHeld (fun hHeld => ?_)
      clear hK K
      (try simp only [Act.put, List.setIfInBounds_toArray, List.set_cons_zero, List.set_cons_succ])
      refine rg_in 4 rfl (by kernel_rfl) (by kernel_rfl) (by kernel_rfl) (by rfl) (v := ?_) (fun _ _ _ h => h) hHeld (fun w hSw => ?_) ?_
      rotate_left
      · (try dsimp only at hSw); go_simp <;> (with_reducible rfl)
      (try simp only [Act.put, List.setIfInBounds_toArray, List.set_cons_zero, List.set_cons_succ])
      refine rg_in 5 rfl (by kernel_rfl) (by kernel_rfl) (by kernel_rfl) (by rfl) (v := ?_) (fun _ _ _ h => h) hHeld (fun w hSw => ?_) ?_
      rotate_left
      · (try dsimp only at hSw); go_simp <;> (with_reducible rfl)
      (try simp only [Act.put, List.setIfInBounds_toArray, List.set_cons_zero, List.set_cons_succ])
      refine rg_in 6 rfl (by kernel_rfl) (by kernel_rfl) (by kernel_rfl) (by rfl) (v := ?_) (fun _ _ _ h => h) hHeld (fun w hSw => ?_) ?_
      rotate_left
      · (try dsimp only at hSw); go_simp <;> (with_reducible rfl)
      (try simp only [Act.put, List.setIfInBounds_toArray, List.set_cons_zero, List.set_cons_succ])
      refine rg_in 7 rfl (by kernel_rfl) (by kernel_rfl) (by kernel_rfl) (by rfl) (v := ?_) (fun _ _ _ h => h) hHeld (fun w hSw => ?_) ?_
      rotate_left
      · (try dsimp only at hSw); go_simp <;> (with_reducible rfl)
      (try simp only [Act.put, List.setIfInBounds_toArray, List.set_cons_zero, List.set_cons_succ])
      refine rg_in 8 rfl (by kernel_rfl) (by kernel_rfl) (by kernel_rfl) (by rfl) (v := ?_) (fun _ _ _ h => h) hHeld (fun w hSw => ?_) ?_
      rotate_left
      · (try dsimp only at hSw); go_simp <;> (with_reducible rfl)
      (try simp only [Act.put, List.setIfInBounds_toArray, List.set_cons_zero, List.set_cons_succ])
      refine rg_in 9 rfl (by kernel_rfl) (by kernel_rfl) (by kernel_rfl) (by rfl) (v := ?_) (fun _ _ _ h => h) hHeld (fun w hSw => ?_) ?_
      rotate_left
      · (try dsimp only at hSw); go_simp <;> (with_reducible rfl)
      (try simp only [Act.put, List.setIfInBounds_toArray, List.set_cons_zero, List.set_cons_succ])
      refine rg_in 10 rfl (by kernel_rfl) (by kernel_rfl) (by kernel_rfl) (by rfl) (v := ?_) (fun _ _ _ h => h) hHeld (fun w hSw => ?_) ?_
      rotate_left
      · (try dsimp only at hSw); go_simp <;> (with_reducible rfl)
      (try simp only [Act.put, List.setIfInBounds_toArray, List.set_cons_zero, List.set_cons_succ])
      refine rg_in 11 rfl (by kernel_rfl) (by kernel_rfl) (by kernel_rfl) (by rfl) (v := ?_) (fun _ _ _ h => h) hHeld (fun w hSw => ?_) ?_
      rotate_left
      · (try dsimp only at hSw); go_simp <;> (with_reducible rfl)
      (try simp only [Act.put, List.setIfInBounds_toArray, List.set_cons_zero, List.set_cons_succ])
      refine rg_in 12 rfl (by kernel_rfl) (by kernel_rfl) (by kernel_rfl) (by rfl) (v := ?_) (fun _ _ _ h => h) hHeld (fun w hSw => ?_) ?_
      rotate_left
      · (try dsimp only at hSw); go_simp <;> (with_reducible rfl)
      (try simp only [Act.put, List.setIfInBounds_toArray, List.set_cons_zero, List.set_cons_succ])
      refine rg_in 13 rfl (by kernel_rfl) (by kernel_rfl) (by kernel_rfl) (by rfl) (v := ?_) (fun _ _ _ h => h) hHeld (fun w hSw => ?_) ?_
      rotate_left
      · (try dsimp only at hSw); go_simp <;> (with_reducible rfl)
      (try simp only [Act.put, List.setIfInBounds_toArray, List.set_cons_zero, List.set_cons_succ])
      refine rg_in 14 rfl (by kernel_rfl) (by kernel_rfl) (by kernel_rfl) (by rfl) (v := ?_) (fun _ _ _ h => h) hHeld (fun w hSw => ?_) ?_
      rotate_left
      · (try dsimp only at hSw); go_simp <;> (with_reducible rfl)
      (try simp only [Act.put, List.setIfInBounds_toArray, List.set_cons_zero, List.set_cons_succ])
      refine wpAnyH_done (by kernel_rfl) ?_ _
      have hbz := HBW.out.trans (hHeld.mono HBW.out.size)
      clear x0 x1 y0 y1 z0 z1 hHeld
      go_wp2
      go_ret
      exact ⟨by first | rfl | simp, hbz⟩
    refine rg_cons rfl (by rfl) (fun K hK => ?_) ?_
    · refine wp_loadArr (.tmp 7) rfl rfl (HAW.out _ hHeld) Tryd.underlying25 (info64 (blkV_len _ _)) ?_
      refine hK.out _ _ hHeld (fun hHeld => ?_)
      clear hK K
      (try simp only [Act.put, List.setIfInBounds_toArray, List.set_cons_zero, List.set_cons_succ])
      refine rg_do 1 rfl (by kernel_rfl) (by rfl) (fun K hK => ?_)
      go_simp
      (go_at_call 15; (with_reducible refine (HB9.out _ hHeld).mono ?_); (rintro e w101 ⟨rfl, hb1⟩))
      refine hK.out _ _ (S_call hb1 hHeld rfl) (fun hHeld => ?_)
      clear hK K
      (try simp only [Act.put, List.setIfInBounds_toArray, List.set_cons_zero, List.set_cons_succ])
      refine rg_do 3 rfl (by kernel_rfl) (by rfl) (fun K hK => ?_)
      refine wp_eqArr (.tmp 45) (.tmp 46) _ rfl rfl rfl Tryd.underlying25 Tryd.underlying5 hi8 ce8 (blkV_len _ _) (blkV_len _ _) eqg64 ?_
      rw [decide_eq_true rfl]
      refine hK.out _ _ hHeld (fun hHeld => ?_)
      clear hK K
      (try simp only [Act.put, List.setIfInBounds_toArray, List.set_cons_zero, List.set_cons_succ])
      refine rg_in 4 rfl (by kernel_rfl) (by kernel_rfl) (by kernel_rfl) (by rfl) (v := ?_) (fun _ _ _ h => h) hHeld (fun w hSw => ?_) ?_
      rotate_left
      · (try dsimp only at hSw); go_simp <;> (with_reducible rfl)
      (try simp only [Act.put, List.setIfInBounds_toArray, List.set_cons_zero, List.set_cons_succ])
      refine rg_in 5 rfl (by kernel_rfl) (by kernel_rfl) (by kernel_rfl) (by rfl) (v := ?_) (fun _ _ _ h => h) hHeld (fun w hSw => ?_) ?_
      rotate_left
      · (try dsimp only at hSw); go_simp <;> (with_reducible rfl)
      (try simp only [Act.put, List.setIfInBounds_toArray, List.set_cons_zero, List.set_cons_succ])
      refine rg_in 6 rfl (by kernel_rfl) (by kernel_rfl) (by kernel_rfl) (by rfl) (v := ?_) (fun _ _ _ h => h) hHeld (fun w hSw => ?_) ?_
      rotate_left
      · (try dsimp only at hSw); go_simp <;> (with_reducible rfl)
      (try simp only [Act.put, List.setIfInBounds_toArray, List.set_cons_zero, List.set_cons_succ])
      refine rg_in 7 rfl (by kernel_rfl) (by kernel_rfl) (by kernel_rfl) (by rfl) (v := ?_) (fun _ _ _ h => h) hHeld (fun w hSw => ?_) ?_
      rotate_left
      · (try dsimp only at hSw); go_simp <;> (with_reducible rfl)
      (try simp only [Act.put, List.setIfInBounds_toArray, List.set_cons_zero, List.set_cons_succ])
      refine rg_in 8 rfl (by kernel_rfl) (by kernel_rfl) (by kernel_rfl) (by rfl) (v := ?_) (fun _ _ _ h => h) hHeld (fun w hSw => ?_) ?_
      rotate_left
      · (try dsimp only at hSw); go_simp <;> (with_reducible rfl)
      (try simp only [Act.put, List.setIfInBounds_toArray, List.set_cons_zero, List.set_cons_succ])
      refine rg_in 9 rfl (by kernel_rfl) (by kernel_rfl) (by kernel_rfl) (by rfl) (v := ?_) (fun _ _ _ h => h) hHeld (fun w hSw => ?_) ?_
      rotate_left
      · (try dsimp only at hSw); go_simp <;> (with_reducible rfl)
      (try simp only [Act.put, List.setIfInBounds_toArray, List.set_cons_zero, List.set_cons_succ])
      refine rg_in 10 rfl (by kernel_rfl) (by kernel_rfl) (by kernel_rfl) (by rfl) (v := ?_) (fun _ _ _ h => h) hHeld (fun w hSw => ?_) ?_
      rotate_left
      · (try dsimp only at hSw); go_simp <;> (with_reducible rfl)
      (try simp only [Act.put, List.setIfInBounds_toArray, List.set_cons_zero, List.set_cons_succ])
      refine rg_in 11 rfl (by kernel_rfl) (by kernel_rfl) (by kernel_rfl) (by rfl) (v := ?_) (fun _ _ _ h => h) hHeld (fun w hSw => ?_) ?_
      rotate_left
      · (try dsimp only at hSw); go_simp <;> (with_reducible rfl)
      (try simp only [Act.put, List.setIfInBounds_toArray, List.set_cons_zero, List.set_cons_succ])
      refine rg_in 12 rfl (by kernel_rfl) (by kernel_rfl) (by kernel_rfl) (by rfl) (v := ?_) (fun _ _ _ h => h) hHeld (fun w hSw => ?_) ?_
      rotate_left
      · (try dsimp only at hSw); go_simp <;> (with_reducible rfl)
      (try simp only [Act.put, List.setIfInBounds_toArray, List.set_cons_zero, List.set_cons_succ])
      refine rg_in 13 rfl (by kernel_rfl) (by kernel_rfl) (by kernel_rfl) (by rfl) (v := ?_) (fun _ _ _ h => h) hHeld (fun w hSw => ?_) ?_
      rotate_left
      · (try dsimp only at hSw); go_simp <;> (with_reducible rfl)
      (try simp only [Act.put, List.setIfInBounds_toArray, List.set_cons_zero, List.set_cons_succ])
      refine rg_in 14 rfl (by kernel_rfl) (by kernel_rfl) (by kernel_rfl) (by rfl) (v := ?_) (fun _ _ _ h => h) hHeld (fun w hSw => ?_) ?_
      rotate_left
      · (try dsimp only at hSw); go_simp <;> (with_reducible rfl)
      (try simp only [Act.put, List.setIfInBounds_toArray, List.set_cons_zero, List.set_cons_succ])
      refine wpAnyH_done (by kernel_rfl) ?_ _
      have hbz := HBW.out.trans (hHeld.mono HBW.out.size)
      clear x0 x1 y0 y1 z0 z1 hHeld
      go_wp2
      go_ret
      exact ⟨by first | rfl | simp, hbz⟩
    exact AllReadyH.nil
end Go.Proofs.YtlknmpnjhbdlhaaDoor
