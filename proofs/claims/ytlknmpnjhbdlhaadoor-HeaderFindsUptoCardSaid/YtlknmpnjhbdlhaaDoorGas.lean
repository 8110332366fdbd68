import Derived.Test.YtlknmpnjhbdlhaaDoorGao
import Derived.Test.YtlknmpnjhbdlhaaDoorGaa
import Derived.Deep.QuietTactic
import Derived.Test.YtlknmpnjhbdlhaaDoorGar
import Derived.Test.YtlknmpnjhbdlhaaDoorGab
import Derived.Test.YtlknmpnjhbdlhaaDoorGac
import Derived.Test.YtlknmpnjhbdlhaaDoorGad
import Derived.Test.YtlknmpnjhbdlhaaDoorGaf
/-
  Layer 12: the walk of HeaderTurned.
-/
namespace Go.Proofs.YtlknmpnjhbdlhaaDoor
open Go.RowKit
set_option linter.unusedVariables false

theorem u8_turn (u : UInt8) (e : Nat) (he : e < 8) : bits .xor .u8 (u.toNat : Int) (IntKind.u8.wrap ((2 : Int) ^ e)) = ((u ^^^ UInt8.ofNat (2 ^ e)).toNat : Int) := by
  have hp : 2 ^ e < 256 := Nat.pow_lt_pow_of_lt (a := 2) (n := e) (m := 8) (by decide) he
  have hc : ((2 : Int) ^ e) = ((2 ^ e : Nat) : Int) := by push_cast; rfl
  have hw : ∀ x : Nat, x < 256 → IntKind.u8.wrap (x : Int) = (x : Int) := fun x hx => by
    have : IntKind.u8.wrap (x : Int) = (x : Int) % 256 := by simp [IntKind.wrap, IntKind.bits, IntKind.signed]
    rw [this]; omega
  have ho : ∀ n : Nat, n < 256 → (BitVec.ofInt 8 (n : Int)).toNat = n := fun n hn => by rw [BitVec.toNat_ofInt]; omega
  rw [hc, hw _ hp, Fra.xor_u8 u e he]
  show IntKind.u8.wrap ((BitVec.ofInt 8 (u.toNat : Int) ^^^ BitVec.ofInt 8 ((2 ^ e : Nat) : Int)).toNat : Int) = _
  rw [BitVec.toNat_xor, ho _ u.toNat_lt, ho _ hp, hw _ (Nat.xor_lt_two_pow (n := 8) u.toNat_lt hp)]
theorem u32_bit (t k : Nat) (ht : t < 4294967296) : bits .and .u32 ((t : Int) / 2 ^ k) 1 = ((t / 2 ^ k % 2 : Nat) : Int) := by
  have hx : t / 2 ^ k < 4294967296 := Nat.lt_of_le_of_lt (Nat.div_le_self _ _) ht
  have e : (t : Int) / 2 ^ k = ((t / 2 ^ k : Nat) : Int) := by push_cast; rfl
  rw [e]
  generalize t / 2 ^ k = x at *
  show IntKind.u32.wrap ((BitVec.ofInt 32 (x : Int) &&& BitVec.ofInt 32 1).toNat : Int) = _
  have h1 : (BitVec.ofInt 32 (x : Int)).toNat = x := by rw [BitVec.toNat_ofInt]; omega
  have h2 : (BitVec.ofInt 32 (1 : Int)).toNat = 2 ^ 1 - 1 := by decide
  rw [BitVec.toNat_and, h1, h2, Nat.and_two_pow_sub_one_eq_mod]
  have : IntKind.u32.wrap ((x % 2 ^ 1 : Nat) : Int) = ((x % 2 ^ 1 : Nat) : Int) % 4294967296 := by simp [IntKind.wrap, IntKind.bits, IntKind.signed]
  rw [this]; omega
theorem cut_at (cut : Int) (m : Nat) (hm : 0 < m) : ∃ d : Nat, (IntKind.u64.wrap cut).tmod (m : Int) = (d : Int) ∧ d < m := by
  have h0 : 0 ≤ IntKind.u64.wrap cut := by
    have : IntKind.u64.wrap cut = cut % 18446744073709551616 := by simp [IntKind.wrap, IntKind.bits, IntKind.signed]
    rw [this]; omega
  refine ⟨((IntKind.u64.wrap cut).tmod (m : Int)).toNat, ?_, ?_⟩
  · rw [Int.tmod_eq_emod_of_nonneg h0]
    have := Int.emod_nonneg (IntKind.u64.wrap cut) (show (m : Int) ≠ 0 by omega)
    omega
  · rw [Int.tmod_eq_emod_of_nonneg h0]
    have h1 := Int.emod_nonneg (IntKind.u64.wrap cut) (show (m : Int) ≠ 0 by omega)
    have h2 := Int.emod_lt_of_pos (IntKind.u64.wrap cut) (show (0 : Int) < (m : Int) by omega)
    omega
/-- What a header's block is, and what it says. -/
def blkV (g : Nat) (a : Int) : List UInt8 := if okH g a = true then Hdr.blockL g a.toNat else z64
theorem blkV_len (g : Nat) (a : Int) : (blkV g a).length = 64 := by 
  unfold blkV
  split
  · exact Hdr.block_len _ _
  · exact z64_len
theorem blockH_any (g : Nat) (a : Int) (w : World) (htab : Tab w) (hg : g < 18446744073709551616) :
    Calls Tryd.prog 15 #[.agg #[.int .u64 (g : Int), .int .i64 a]] w fun e w' => e = .returned (arrV (blkV g a)) ∧ Below w.heap.size w w' := by
  by_cases h : okH g a = true
  · obtain ⟨h1, h2, h3⟩ := okH_iff.1 h
    obtain ⟨b, rfl⟩ : ∃ b : Nat, a = (b : Int) := ⟨a.toNat, by omega⟩
    unfold blkV
    rw [if_pos h]
    exact blockH_ok g b w htab h1 hg (by omega)
  · unfold blkV
    rw [if_neg h]
    exact blockH_no g a w (by simpa using h)
set_option maxRecDepth 100000 in
set_option maxHeartbeats 4000000 in
theorem headerTurned_walk (w : World) (g : Nat) (a : Int) (hg : g < 18446744073709551616) (wa : (Lit.int .i64 a).wf = true) (cut : Int) (wc : (Lit.int .i64 cut).wf = true) (tb : Int) (wt : (Lit.int .u32 tb).wf = true) (htab : Tab w) :
    Calls Tryd.prog 8 #[.agg #[.int .u64 (g : Int), .int .i64 a], .int .i64 cut, .int .u32 tb] w fun e w' => e = .returned (.bool true) ∧ Below w.heap.size w w' := by
  obtain ⟨t, rfl, ht⟩ : ∃ t : Nat, tb = (t : Int) ∧ t < 4294967296 := by
    obtain ⟨h0, h1⟩ := wf_u32 wt
    exact ⟨tb.toNat, by omega, by omega⟩
  have Ht := Lib.hid ht
  have HWK := Lib.hid (fun W (h : Below w.heap.size w W) => hwakes_any W (htab.below h htab.lt))
  have HBK := Lib.hid (fun W (h : Below w.heap.size w W) => blockH_any g a W (htab.below h htab.lt) hg)
  have HCK := Lib.hid (fun W => checkH_any g a W)
  have HSY := Lib.hid (fun W l (hl : l.length = 64) (h : Below w.heap.size w W) => saysH_any l hl W (htab.below h htab.lt))
  have HG := Lib.hid hg
  clear wt wc wa htab ht hg
  go_enter Tryd.func8, Tryd.ntmps8
  go_wp2_with fail
  have hb1 := bel_alloc (Below.refl w.heap.size w) (.cells #[.int .u64 (g : Int), .int .i64 a] 24)
  have hh1 : HBox (w.alloc (.cells #[.int .u64 (g : Int), .int .i64 a] 24)) w.heap.size g a := heap_alloc_new w _
  generalize w.alloc (.cells #[.int .u64 (g : Int), .int .i64 a] 24) = W1 at *
  refine (HWK.out _ hb1).mono ?_
  rintro e W2 ⟨rfl, hb2⟩
  have hb3 := bel_next hb1 hb2
  have hh2 := hh1.later hb2
  have x0 := hh2.c0
  have x1 := hh2.c1
  clear hb1 hb2 hh1 HWK
  go_upto_region 4 with (first
    | (go_at_call 15; refine (HBK.out _ hb3).mono ?_; rintro e w3 ⟨rfl, hb4⟩; have hA3 := arr_lit w3)
    | (with_reducible refine wpList_storeArr rfl (.tmp 7) (.tmp 14) rfl rfl rfl hA3 (info64 z64_len) ((blkV_len g a).trans z64_len.symm) ?_; intro W4 ha4 ho4))
  (try simp only [Act.put])
  have hb5 : Below W2.heap.size W2 W4 := (bel_alloc hb4 _).trans (ho4.below _ hb4.size)
  have hb6 := bel_next hb3 hb5
  have hh4 := hh2.later hb5
  obtain ⟨gb, hgb⟩ : ∃ gb, w3.heap.size = gb := ⟨_, rfl⟩
  have hgw : w.heap.size ≤ gb := by have h1 := hb3.size; have h2 := hb4.size; rw [← hgb]; omega
  rw [hgb] at ha4 ⊢
  clear hb3 hb4 hb5 hh2 hA3 ho4 hgb x0 x1 HBK
  go_upto_region 5 with (first
    | (with_reducible refine wpList_loadArr rfl (.tmp 7) rfl rfl ha4 Tryd.underlying25 (info64 (blkV_len g a)) ?_)
    | (go_at_call 13; refine (HSY.out _ _ (blkV_len g a) hb6).mono ?_; rintro e w5 ⟨rfl, hb7⟩))
  have hb8 := bel_alloc (bel_next hb6 hb7) (.cells #[.int .u64 (sayG (blkV g a) : Nat), .int .i64 (sayA (blkV g a) : Nat)] 24)
  have hb9 := bel_alloc hb7 (.cells #[.int .u64 (sayG (blkV g a) : Nat), .int .i64 (sayA (blkV g a) : Nat)] 24)
  have hs5 : HBox (w5.alloc (.cells #[.int .u64 (sayG (blkV g a) : Nat), .int .i64 (sayA (blkV g a) : Nat)] 24)) w5.heap.size (sayG (blkV g a)) (sayA (blkV g a) : Nat) := heap_alloc_new w5 _
  have hh5 := hh4.later hb9
  have ha5 := ha4.later hb9
  generalize w5.alloc (.cells #[.int .u64 (sayG (blkV g a) : Nat), .int .i64 (sayA (blkV g a) : Nat)] 24) = W5 at *
  generalize w5.heap.size = gs at *
  clear hh4 ha4 hb7 hb6 hb9
  have x0 := hh5.c0
  have x1 := hh5.c1
  by_cases hok : okH g a = true
  · obtain ⟨k1, k2, k3⟩ := okH_iff.1 hok
    obtain ⟨b, rfl⟩ : ∃ b : Nat, a = (b : Int) := ⟨a.toNat, by omega⟩
    have k4 : b < 524288 := by omega
    have hbe : blkV g (b : Int) = Hdr.blockL g b := by unfold blkV; rw [if_pos hok]; rfl
    rw [hbe] at hs5 ha5 ⊢
    obtain ⟨e1, e2, e3⟩ := say_some (Hdr.says_block g b k1 HG.out k4)
    rw [e1, e2] at hs5
    rw [e1, e2, e3]
    rw [errH_yes hok] at HCK
    clear hok hbe e1 e2 e3 k2 k3
    go_wp2_with fail
    refine (HCK.out _).mono ?_
    rintro e W6 ⟨rfl, hb10⟩
    have hs6 := hs5.later hb10
    have hh6 := hh5.later hb10
    have ha6 := ha5.later hb10
    have hb11 := bel_next hb8 hb10
    have y0 := hs6.c0
    have y1 := hs6.c1
    have z0 := hh6.c0
    have z1 := hh6.c1
    clear hs5 hh5 ha5 hb8 hb10 x0 x1 HCK
    by_cases ht0 : t = 0
    · subst ht0
      go_wp2
      go_ret
      exact ⟨rfl, hb11⟩
    · have ht1 : ((t : Int) == 0) = false := beq_eq_false_iff_ne.2 (by omega)
      obtain ⟨d, hd, hdm⟩ := cut_at cut 481 (by omega)
      have hd' : (IntKind.u64.wrap cut).tmod 481 = (d : Int) := hd
      have hdw : IntKind.i64.wrap (d : Int) = (d : Int) := by rw [IntKind.wrap_i64]; omega
      have HT0 := Lib.hid ht0
      clear ht0 hd
      go_upto_region 9 with fail
      have hgb := ha6.lt
      have HA0 := Lib.hid (show Arr W6 gb 25 (Fra.turnsL (Hdr.blockL g b) d t 0) from ha6)
      clear hs6 hh6 ha6 y0 y1 z0 z1
      go_wp2_with fail
      go_loopw [43] (fun iv wr => ∃ k : Nat, k ≤ 32 ∧ iv = .int .i64 k ∧ Hid (Arr wr gb 25 (Fra.turnsL (Hdr.blockL g b) d t k)) ∧ Below w.heap.size w wr) (fun iv _ => 32 - (intOf iv).toNat)
      case atStart => exact ⟨0, Nat.zero_le _, rfl, HA0, hb11⟩
      case round =>
        obtain ⟨k, hk, rfl, HA, hbr⟩ := hrel
        clear HA0 hb11 hd' hdw
        by_cases hlt : k < 32
        · have hlt' : ((k : Int) < 32) = True := eq_true (by omega)
          by_cases hbt : t / 2 ^ k % 2 = 1
          · have hb1 : (bits BinOp.and IntKind.u32 ((t : Int) / 2 ^ k) 1 == 1) = true := by rw [u32_bit t k Ht.out, hbt]; rfl
            have hln : (Fra.turnsL (Hdr.blockL g b) d t k).length = 64 := by rw [Fra.turns_len, Hdr.block_len]
            obtain ⟨u, hu⟩ : ∃ u, (Fra.turnsL (Hdr.blockL g b) d t k).getD ((d + k) / 8) 0 = u := ⟨_, rfl⟩
            obtain ⟨P, hP⟩ : ∃ P, (d + k) / 8 = P := ⟨_, rfl⟩
            have hP8 : P < 64 := by omega
            have w1 : IntKind.i64.wrap ((d : Int) + (k : Int)) = (d : Int) + (k : Int) := by rw [IntKind.wrap_i64]; omega
            have w2 : ((d : Int) + (k : Int)).tdiv 8 = (P : Int) := by rw [Int.tdiv_eq_ediv_of_nonneg (by omega)]; omega
            have w2' : ((d : Int) + (k : Int)) / 8 = (P : Int) := by omega
            have w3 : ((d : Int) + (k : Int)).tmod 8 = ((d : Int) + (k : Int)) % 8 := Int.tmod_eq_emod_of_nonneg (by omega)
            have w7 : IntKind.i64.wrap (P : Int) = (P : Int) := by rw [IntKind.wrap_i64]; omega
            have w8 : IntKind.i64.wrap (((d : Int) + (k : Int)) % 8) = ((d : Int) + (k : Int)) % 8 := by rw [IntKind.wrap_i64]; omega
            have w9 : 0 ≤ ((d : Int) + (k : Int)) % 8 := by omega
            have hq : wr.cell? ⟨gb, P, none⟩ = some (.int .u8 (u.toNat : Int)) := by
              have h := HA.out.cell (j := P) (by rw [hln]; exact hP8)
              rw [h]
              unfold at8
              rw [← hP, hu]
            have hf := HA.out.soft P
            have hx8 : (((d : Int) + (k : Int)) % 8).toNat = (d + k) % 8 := by omega
            have hxo := u8_turn u ((d + k) % 8) (by omega)
            rw [← hx8] at hxo
            have HXO := Lib.hid hxo
            have hst := HA.out.set P (u ^^^ UInt8.ofNat (2 ^ ((d + k) % 8)))
            have hnx : (Fra.turnsL (Hdr.blockL g b) d t k).set P (u ^^^ UInt8.ofNat (2 ^ ((d + k) % 8))) = Fra.turnsL (Hdr.blockL g b) d t (k + 1) := by
              rw [Fra.turnsL, if_pos hbt]
              unfold Fra.turnL
              rw [hP, ← hu, hP]
            rw [hnx] at hst
            have HST := Lib.hid hst
            clear hst hnx hu hbt hxo hln hP
            have HX8 := Lib.hid hx8
            clear hx8
            go_upto_region 14 with fail
            go_region
            have hv : Value.int .u8 (bits BinOp.xor IntKind.u8 (u.toNat : Int) ((2 : Int) ^ ((d + k) % 8) % 256)) = bv (u ^^^ UInt8.ofNat (2 ^ ((d + k) % 8))) := by
              unfold bv
              rw [← u8_turn u ((d + k) % 8) (by omega)]
              congr 2
            rw [hv]
            have HA3 := Lib.hid (show Arr ((wr.setCell ⟨gb, P, none⟩ (bv (u ^^^ UInt8.ofNat (2 ^ ((d + k) % 8))))).drew) gb 25 (Fra.turnsL (Hdr.blockL g b) d t (k + 1)) from HST.out.1)
            have hb12 : Below w.heap.size w ((wr.setCell ⟨gb, P, none⟩ (bv (u ^^^ UInt8.ofNat (2 ^ ((d + k) % 8))))).drew) := below_drewN (hbr.setCell hgw _) 1
            generalize (wr.setCell ⟨gb, P, none⟩ (bv (u ^^^ UInt8.ofNat (2 ^ ((d + k) % 8))))).drew = w12 at *
            clear hv HST HXO HX8 hq hf w1 w2 w2' w3 w7 w8 w9 HA hbr
            go_wp2
            go_roundw
            case rel => exact ⟨k + 1, by omega, by go_num, HA3, hb12⟩
            case measure => simp [intOf]; omega
          · have hb1 : (bits BinOp.and IntKind.u32 ((t : Int) / 2 ^ k) 1 == 1) = false := by
              rw [u32_bit t k Ht.out, show t / 2 ^ k % 2 = 0 by omega]; rfl
            have HA3 := Lib.hid (show Arr wr gb 25 (Fra.turnsL (Hdr.blockL g b) d t (k + 1)) by
              rw [show Fra.turnsL (Hdr.blockL g b) d t (k + 1) = Fra.turnsL (Hdr.blockL g b) d t k by rw [Fra.turnsL, if_neg hbt]]
              exact HA.out)
            clear hbt HA
            go_wp2_with fail
            go_roundw
            case rel => exact ⟨k + 1, by omega, by go_num, HA3, hbr⟩
            case measure => simp [intOf]; omega
        · obtain rfl : k = 32 := by omega
          have hlt' : ((((32 : Nat) : Int)) < 32) = False := eq_false (by omega)
          have hln : (Fra.turnsL (Hdr.blockL g b) d t 32).length = 64 := by rw [Fra.turns_len, Hdr.block_len]
          obtain ⟨l, hl⟩ : ∃ l, Fra.turnsL (Hdr.blockL g b) d t 32 = l := ⟨_, rfl⟩
          have hno : Hdr.saysL l = none := by rw [← hl]; exact Hdr.turned_says Ht.out HT0.out (by omega)
          have ha7 := HA.out
          rw [hl] at ha7 hln
          have hsy := HSY.out wr l hln hbr
          rw [(say_none hno).1, (say_none hno).2.1, (say_none hno).2.2] at hsy
          clear HA hl hno HSY hlt
          go_wp2_with (first
            | (with_reducible refine wpList_loadArr rfl (.tmp 7) rfl rfl ha7 Tryd.underlying25 (info64 hln) ?_)
            | (go_at_call 13; refine hsy.mono ?_; rintro e w8 ⟨rfl, hb12⟩; have hb13 := bel_next hbr hb12))
          go_ret
          exact ⟨rfl, hb13⟩
  · have hok' : okH g a = false := by simpa using hok
    have hbe : blkV g a = z64 := by unfold blkV; rw [if_neg hok]
    rw [hbe] at hs5 ha5 ⊢
    obtain ⟨e1, e2, e3⟩ := say_none z64_says
    rw [e1, e2] at hs5
    rw [e1, e2, e3]
    rw [errH_no hok'] at HCK
    clear hok hok' hbe e1 e2 e3
    go_wp2_with fail
    refine (HCK.out _).mono ?_
    rintro e W6 ⟨rfl, hb10⟩
    have hb11 := bel_next hb8 hb10
    clear hs5 hh5 ha5 hb8 hb10 x0 x1 HCK
    go_wp2
    go_ret
    exact ⟨rfl, hb11⟩
end Go.Proofs.YtlknmpnjhbdlhaaDoor
/-
  Layer 12: the walk of HeaderFinds.
-/
namespace Go.Proofs.YtlknmpnjhbdlhaaDoor
open Go.RowKit
set_option linter.unusedVariables false

theorem xor8 (a b : UInt8) : bits .xor .u8 (a.toNat : Int) (b.toNat : Int) = ((a ^^^ b).toNat : Int) := by
  have hw : ∀ x : Nat, x < 256 → IntKind.u8.wrap (x : Int) = (x : Int) := fun x hx => by
    have : IntKind.u8.wrap (x : Int) = (x : Int) % 256 := by simp [IntKind.wrap, IntKind.bits, IntKind.signed]
    rw [this]; omega
  have ho : ∀ n : Nat, n < 256 → (BitVec.ofInt 8 (n : Int)).toNat = n := fun n hn => by rw [BitVec.toNat_ofInt]; omega
  show IntKind.u8.wrap ((BitVec.ofInt 8 (a.toNat : Int) ^^^ BitVec.ofInt 8 (b.toNat : Int)).toNat : Int) = _
  rw [BitVec.toNat_xor, ho _ a.toNat_lt, ho _ b.toNat_lt, hw _ (Nat.xor_lt_two_pow (n := 8) a.toNat_lt b.toNat_lt), UInt8.toNat_xor]
theorem only_set (g : Nat) (w : World) (i : Nat) (u : Value) : OnlyB g w (w.setCell ⟨g, i, none⟩ u).drew := OnlyB.thenDrew (OnlyB.set ⟨rfl, fun _ _ => rfl, fun B _ => Below.refl _ _⟩ i u)
theorem OnlyB.grown {g : Nat} {w w' : World} (h : OnlyB g w w') : w.grownBy w' (some g) :=
  have hb := h.below 0 (Nat.zero_le _)
  ⟨hb.os, hb.tape, hb.output, hb.size, fun k _ hk => h.other k (fun e => hk (by rw [e]))⟩
theorem OthB.grown {g : Nat} {w W W' : World} (h : OthB g w W) (hg : W.grownBy W' (some g)) : OthB g w W' :=
  ⟨Nat.le_trans h.size hg.size, fun k hk hne => (hg.block k (Nat.lt_of_lt_of_le hk h.size) (fun e => hne (by injection e))).trans (h.o k hk hne)⟩
theorem OthB.fvar {g k : Nat} {w W : World} {a b c d e : Value} (h : OthB g w W) (hv : FVar w k a b c d e) (hk : k < w.heap.size) (hne : k ≠ g) : FVar W k a b c d e := by
  obtain ⟨⟨h0, h1, h2, h3, h4⟩, k0, k1, k2, k3, k4⟩ := hv
  have hc := fun i => World.cell?_of_block (a := ⟨k, i, none⟩) (h.o k hk hne)
  have hf := fun i => World.frozen?_of_block (a := ⟨k, i, none⟩) (h.o k hk hne)
  exact ⟨⟨(hc 0).trans h0, (hc 1).trans h1, (hc 2).trans h2, (hc 3).trans h3, (hc 4).trans h4⟩, (hf 0).trans k0, (hf 1).trans k1, (hf 2).trans k2, (hf 3).trans k3, (hf 4).trans k4⟩
theorem splice_bv (l m : List UInt8) (p k : Nat) : splice (l.map bv) p ((m.map bv).take k) = (splice l p (m.take k)).map bv := by
  unfold splice
  simp [List.map_take, List.map_drop]
/-- The numbers of the place. -/
theorem place_nums {n3 d q : Nat} (hn : n3 ≤ 4000) (hq : n3 / 64 = q) (h1 : 64 ≤ n3) (hd : d < q) : (n3 : Int).tdiv 64 = (q : Int) ∧ (n3 : Int) / 64 = (q : Int) ∧ IntKind.i64.wrap (q : Int) = (q : Int) ∧ IntKind.u64.wrap (q : Int) = (q : Int) ∧ IntKind.i64.wrap (d : Int) = (d : Int) ∧ IntKind.u64.wrap (d : Int) = (d : Int) ∧ IntKind.i64.wrap ((d : Int) * 64) = ((d * 64 : Nat) : Int) ∧ (d : Int) * 64 = ((d * 64 : Nat) : Int) ∧ ((q : Int) == 0) = false ∧ d * 64 + 64 ≤ n3 := by
  refine ⟨?_, by omega, ?_, ?_, ?_, ?_, ?_, by omega, beq_eq_false_iff_ne.2 (by omega), by omega⟩
  · rw [Int.tdiv_eq_ediv_of_nonneg (by omega)]; omega
  · rw [IntKind.wrap_i64]; omega
  · simp [IntKind.wrap, IntKind.bits, IntKind.signed]; omega
  · rw [IntKind.wrap_i64]; omega
  · simp [IntKind.wrap, IntKind.bits, IntKind.signed]; omega
  · rw [IntKind.wrap_i64]; omega
/-- A spot's variable. -/
def PBox (w : World) (h : Nat) (x : SpotT) : Prop := w.heap[h]? = some (.cells #[.int .i64 x.at', .int .i64 x.byt, .int .u64 (x.g : Int), .int .i64 x.a, .int .u8 (x.x.toNat : Int)] 49 (0, 0))
theorem PBox.later {w w' : World} {h : Nat} {x : SpotT} (hb : PBox w h x) (hl : Below w.heap.size w w') : PBox w' h x := blk_later hb hl
theorem PBox.c0 {w : World} {h : Nat} {x : SpotT} (hb : PBox w h x) : w.cell? ⟨h, 0, none⟩ = some (.int .i64 x.at') := (cell_of_row _ _ 0 _ _ _ hb).trans rfl
theorem PBox.c1 {w : World} {h : Nat} {x : SpotT} (hb : PBox w h x) : w.cell? ⟨h, 1, none⟩ = some (.int .i64 x.byt) := (cell_of_row _ _ 1 _ _ _ hb).trans rfl
theorem PBox.c2 {w : World} {h : Nat} {x : SpotT} (hb : PBox w h x) : w.cell? ⟨h, 2, none⟩ = some (.int .u64 (x.g : Int)) := (cell_of_row _ _ 2 _ _ _ hb).trans rfl
theorem PBox.c3 {w : World} {h : Nat} {x : SpotT} (hb : PBox w h x) : w.cell? ⟨h, 3, none⟩ = some (.int .i64 x.a) := (cell_of_row _ _ 3 _ _ _ hb).trans rfl
theorem PBox.c4 {w : World} {h : Nat} {x : SpotT} (hb : PBox w h x) : w.cell? ⟨h, 4, none⟩ = some (.int .u8 (x.x.toNat : Int)) := (cell_of_row _ _ 4 _ _ _ hb).trans rfl
set_option maxRecDepth 100000 in
set_option maxHeartbeats 8000000 in
theorem headerFinds_walk (w : World) (X : FileT) (hX : LieF w w.heap.size X) (hN1 : ∀ p ∈ X.Q, p.n ≤ 1048576) (A : Option Addr) (n c : Nat) (xs : List SpotT) (hx : Shows w w.heap.size 5 A n (xs.flatMap SpotT.cells)) (hok : ∀ x ∈ xs, x.Ok) (hA : A = none → c = 0) (hnc : n ≤ c) (hcm : c ≤ maxLen) (htab : Tab w) :
    Calls Tryd.prog 5 #[X.agg, .slice A n c] w fun e w' => e = .returned (.bool true) ∧ Below w.heap.size w w' := by
  have HWK := Lib.hid (fun W (h : Below w.heap.size w W) => hwakes_any W (htab.below h htab.lt))
  have HXL := Lib.hid hX
  have HN := Lib.hid hN1
  have HT := Lib.hid htab
  have HX := Lib.hid hx
  have HK := Lib.hid hok
  have HXS := Lib.hid (show xs.length = n by have h := hx.1; rw [flatH_len SpotT.cells 5 (fun _ => rfl)] at h; omega)
  have HV0 := Lib.hid (FVar.new w (.slice X.F.A X.F.n X.F.c) (.slice X.lA X.ln X.lc) (.int .i64 X.fuse) (.int .i64 X.fault) (.bool X.off) 37)
  have hb1 := bel_alloc (Below.refl w.heap.size w) (.cells #[.slice X.F.A X.F.n X.F.c, .slice X.lA X.ln X.lc, .int .i64 X.fuse, .int .i64 X.fault, .bool X.off] 37)
  have hgs : w.heap.size < (w.alloc (.cells #[.slice X.F.A X.F.n X.F.c, .slice X.lA X.ln X.lc, .int .i64 X.fuse, .int .i64 X.fault, .bool X.off] 37)).heap.size := by simp
  simp only [FileT.agg, PcT.val]
  clear hX hN1 htab hx hok hA
  go_enter Tryd.func5, Tryd.ntmps5
  go_wp2_with fail
  generalize w.alloc (.cells #[.slice X.F.A X.F.n X.F.c, .slice X.lA X.ln X.lc, .int .i64 X.fuse, .int .i64 X.fault, .bool X.off] 37) = W1 at *
  refine (HWK.out _ hb1).mono ?_
  rintro e W2 ⟨rfl, hb2⟩
  have HV2 := Lib.hid (HV0.out.later hb2)
  have HB2 := Lib.hid (bel_next hb1 hb2)
  have hgD : w.heap.size < W2.heap.size := Nat.lt_of_lt_of_le hgs hb2.size
  clear hb1 hb2 HV0 HWK hgs
  obtain ⟨q, hq⟩ : ∃ q, min X.F.n 4000 = q := ⟨_, rfl⟩
  have hmq : min (X.F.n : Int) 4000 = (q : Int) := by omega
  have hiq1 : (if (X.F.n : Int) < 4000 then (X.F.n : Int) else 4000) = (q : Int) := by split <;> omega
  have hiq2 : (if (4000 : Int) < (X.F.n : Int) then 4000 else (X.F.n : Int)) = (q : Int) := by split <;> omega
  have hiq3 : (if (X.F.n : Int) ≤ 4000 then (X.F.n : Int) else 4000) = (q : Int) := by split <;> omega
  have hiq4 : (if (4000 : Int) ≤ (X.F.n : Int) then 4000 else (X.F.n : Int)) = (q : Int) := by split <;> omega
  have hqn : q ≤ X.F.n := by omega
  have hq4 : q ≤ 4000 := by omega
  have hfo := HXL.out.firm
  have hqc : q ≤ X.F.c := Nat.le_trans hqn hfo.fits
  have hcl := clone_any X.F.A q X.F.c (X.F.l.take q) w.heap.size W2 (Bytes.below (hfo.here.first hqn) HB2.out) hfo.nil HB2.out.size (by omega)
  have HLQ := Lib.hid (show (X.F.l.take q).length = q by rw [List.length_take, hfo.len]; omega)
  clear hq hfo
  obtain ⟨⟨j0, j1, j2, j3, j4⟩, k0, k1, k2, k3, k4⟩ := HV2.out
  go_upto_region 4 with (go_at_call 22; refine hcl.mono ?_; rintro e W3 ⟨A3, n3, c3, rfl, hown3, hb3⟩; have hv5 := HV2.out.later hb3; obtain ⟨⟨m0, m1, m2, m3, m4⟩, l0, l1, l2, l3, l4⟩ := hv5)
  obtain ⟨l, hl⟩ : ∃ l, X.F.l.take q = l := ⟨_, rfl⟩
  rw [hl] at hown3 HLQ
  have hn3 : n3 ≤ 4000 := by have h := hown3.1; rw [List.length_map, HLQ.out] at h; omega
  have HV4 := Lib.hid ((HV2.out.later hb3).set0 (.slice A3 n3 c3))
  have HO4 := Lib.hid (ownsRow_setCell_below (a := ⟨w.heap.size, 0, none⟩) hown3 hgD (.slice A3 n3 c3))
  have HB4 := Lib.hid ((bel_next HB2.out hb3).setCell (p := ⟨w.heap.size, 0, none⟩) (Nat.le_refl w.heap.size) (.slice A3 n3 c3))
  have hD4 : W2.heap.size ≤ (W3.setCell ⟨w.heap.size, 0, none⟩ (.slice A3 n3 c3)).heap.size := by rw [size_set]; exact hb3.size
  clear hcl j0 j1 j2 j3 j4 k0 k1 k2 k3 k4 m0 m1 m2 m3 m4 l0 l1 l2 l3 l4 hl HLQ hown3 hb3 HV2 HB2 hmq hiq1 hiq2 hiq3 hiq4 hqn hq4 hqc
  generalize W3.setCell ⟨w.heap.size, 0, none⟩ (.slice A3 n3 c3) = W4 at *
  generalize W2.heap.size = D at *
  go_wp2_with fail
  go_loopw [27] (fun iv wr => ∃ (i : Nat) (l : List UInt8), i ≤ n ∧ i ≤ 20 ∧ iv = .int .i64 (i : Nat) ∧ Hid (FVar wr w.heap.size (.slice A3 n3 c3) (.slice X.lA X.ln X.lc) (.int .i64 X.fuse) (.int .i64 X.fault) (.bool X.off)) ∧ Hid (wr.ownsRow D 5 1 (.slice A3 n3 c3) n3 (l.map bv)) ∧ Hid (Below w.heap.size w wr) ∧ D ≤ wr.heap.size) (fun iv _ => n - (intOf iv).toNat)
  case atStart => exact ⟨0, l, Nat.zero_le _, Nat.zero_le _, rfl, HV4, HO4, HB4, hD4⟩
  case round =>
    clear HV4 HO4 HB4 hD4
    obtain ⟨i, l, hi, hi20, rfl, HV, HO, HB, hDr⟩ := hrel
    rename World => wr
    by_cases hlt : i < n
    · have hlt' : ((i : Int) < (n : Int)) = True := eq_true (by omega)
      obtain ⟨b1, o1, rfl, hb1, hc1⟩ := HX.out.2 (by omega)
      obtain ⟨x, hxi⟩ : ∃ x, xs[i]? = some x := ⟨_, List.getElem?_eq_getElem (by rw [HXS.out]; omega)⟩
      have hat := fun (k : Nat) (v : Value) (hk : (SpotT.cells x)[k]? = some v) (hk5 : k < 5) => (HB.out.cell (by show b1 < _; omega)).trans (hc1 (i * 5 + k) v (by rw [flatH_at SpotT.cells 5 (fun _ => rfl) xs i _ hxi k hk5]; exact hk))
      have d0 : wr.cell? ⟨b1, o1 + i * 5, none⟩ = some (.int .i64 x.at') := hat 0 _ rfl (by omega)
      have d1 : wr.cell? ⟨b1, o1 + (i * 5 + 1), none⟩ = some (.int .i64 x.byt) := hat 1 _ rfl (by omega)
      have d2 : wr.cell? ⟨b1, o1 + (i * 5 + 2), none⟩ = some (.int .u64 (x.g : Int)) := hat 2 _ rfl (by omega)
      have d3 : wr.cell? ⟨b1, o1 + (i * 5 + 3), none⟩ = some (.int .i64 x.a) := hat 3 _ rfl (by omega)
      have d4 : wr.cell? ⟨b1, o1 + (i * 5 + 4), none⟩ = some (.int .u8 (x.x.toNat : Int)) := hat 4 _ rfl (by omega)
      have e1 : wr.cell? ⟨b1, o1 + i * 5 + 1, none⟩ = some (.int .i64 x.byt) := by rw [Nat.add_assoc]; exact d1
      have e2 : wr.cell? ⟨b1, o1 + i * 5 + 2, none⟩ = some (.int .u64 (x.g : Int)) := by rw [Nat.add_assoc]; exact d2
      have e3 : wr.cell? ⟨b1, o1 + i * 5 + 3, none⟩ = some (.int .i64 x.a) := by rw [Nat.add_assoc]; exact d3
      have e4 : wr.cell? ⟨b1, o1 + i * 5 + 4, none⟩ = some (.int .u8 (x.x.toNat : Int)) := by rw [Nat.add_assoc]; exact d4
      have hxk := Lib.hid (HK.out x (List.mem_of_getElem? hxi))
      clear hc1 hxi hat
      go_upto_region 7 with fail
      clear d0 d1 d2 d3 d4 e1 e2 e3 e4
      have hbx : PBox (wr.alloc (.cells #[.int .i64 x.at', .int .i64 x.byt, .int .u64 (x.g : Int), .int .i64 x.a, .int .u8 (x.x.toNat : Int)] 49)) wr.heap.size x := heap_alloc_new wr _
      have hba := bel_alloc (Below.refl wr.heap.size wr) (.cells #[.int .i64 x.at', .int .i64 x.byt, .int .u64 (x.g : Int), .int .i64 x.a, .int .u8 (x.x.toNat : Int)] 49)
      have HV5 := Lib.hid (HV.out.later hba)
      have HO5 := Lib.hid (own_later HO.out hba)
      have HB5 := Lib.hid (bel_next HB.out hba)
      have hD5 := Nat.le_trans hDr hba.size
      have HP5 := Lib.hid hbx
      have hS0 : D ≤ wr.heap.size := hDr
      have HLT := Lib.hid (fun k (h : (Value.slice A3 n3 c3).ownBlock = some k) => (World.ownsRow.lt HO.out k h).2)
      clear HV HO HB hba hDr hbx
      generalize wr.alloc (.cells #[.int .i64 x.at', .int .i64 x.byt, .int .u64 (x.g : Int), .int .i64 x.a, .int .u8 (x.x.toNat : Int)] 49) = W5 at *
      generalize wr.heap.size = S0 at *
      by_cases h20 : i = 20
      · have h20' : ((i : Int) == 20) = true := by simp [h20]
        clear h20
        obtain ⟨r1, r2, r3⟩ := own_facts HO5.out
        have hl3 : l.length = n3 := by have h := HO5.out.1; simpa using h
        obtain ⟨Y, hY⟩ : ∃ Y : FileT, Y = ⟨⟨A3, n3, c3, l⟩, X.lA, X.ln, X.lc, X.L, X.fuse, X.fault, X.off⟩ := ⟨_, rfl⟩
        have hYL : LieF W5 W5.heap.size Y := by
          have h := (HXL.out.later HB5.out).more HB5.out.size
          rw [hY]
          exact ⟨⟨Bytes.own HO5.out, r1, r2, r3⟩, h.2, h.3, h.4, h.5, h.6, h.7, h.8⟩
        have hYN : ∀ p ∈ Y.Q, p.n ≤ 1048576 := by
          rw [hY]
          intro p hp
          rcases List.mem_cons.1 hp with e | h
          · rw [e]; show n3 ≤ _; omega
          · exact HN.out p (List.mem_cons_of_mem _ h)
        have HVY := Lib.hid (show FVar W5 w.heap.size (.slice Y.F.A Y.F.n Y.F.c) (.slice Y.lA Y.ln Y.lc) (.int .i64 Y.fuse) (.int .i64 Y.fault) (.bool Y.off) by rw [hY]; exact HV5.out)
        have HYL := Lib.hid hYL
        have HYN := Lib.hid hYN
        have HTB := Lib.hid (HT.out.below HB5.out HT.out.lt)
        have HBT := Lib.hid HB5.out
        clear r1 r2 r3 hl3 hY hYL hYN HV5 HO5
        have hR : ∃ R : Option (Nat × Nat × Nat), Calls Tryd.prog 23 #[Y.agg] W5 (fun e w' => e = .returned (.tuple #[.agg #[.int .u64 (fG R : Nat), .int .i64 (fA R : Nat)], .int .i64 (fP R : Nat), .bool R.isSome]) ∧ Below W5.heap.size W5 w') ∧ ((Y.right = true ∧ R = Hdr.lastH Y.all) ∨ (Y.right = false ∧ R = none)) := by
          cases hr : Y.right
          · exact ⟨none, find_any Y W5.heap.size W5 HTB.out HYL.out (Nat.le_refl _) HYN.out none 0 (.inr ⟨hr, rfl⟩) rfl, .inr ⟨rfl, rfl⟩⟩
          · exact ⟨Hdr.lastH Y.all, find_any Y W5.heap.size W5 HTB.out HYL.out (Nat.le_refl _) HYN.out _ Y.all.length (.inl ⟨hr, rfl⟩) rfl, .inl ⟨rfl, rfl⟩⟩
        obtain ⟨R, hfd, hR⟩ := hR
        have HR := Lib.hid hR
        simp only [FileT.agg, PcT.val] at hfd
        clear hR
        obtain ⟨⟨j0, j1, j2, j3, j4⟩, k0, k1, k2, k3, k4⟩ := HVY.out
        go_upto_region 13 with (go_at_call 23; refine hfd.mono ?_; rintro e W20 ⟨rfl, hb20⟩)
        have HG21 := Lib.hid (show HBox (W20.alloc (.cells #[.int .u64 (fG R : Nat), .int .i64 (fA R : Nat)] 24)) W20.heap.size (fG R) (fA R : Nat) from heap_alloc_new W20 _)
        have hb21 := bel_alloc hb20 (.cells #[.int .u64 (fG R : Nat), .int .i64 (fA R : Nat)] 24)
        have HV21 := Lib.hid (HVY.out.later hb21)
        have HL21 := Lib.hid ((HYL.out.later hb21).more hb21.size)
        have HB21 := Lib.hid (bel_next HBT.out hb21)
        clear hfd j0 j1 j2 j3 j4 k0 k1 k2 k3 k4 hb20 hb21 HVY HYL HTB HBT
        generalize W20.alloc (.cells #[.int .u64 (fG R : Nat), .int .i64 (fA R : Nat)] 24) = W21 at *
        generalize W20.heap.size = g8 at *
        have hri := refRight_any Y W21.heap.size W21 HL21.out (Nat.le_refl _) HYN.out
        simp only [FileT.agg, PcT.val] at hri
        obtain ⟨⟨j0, j1, j2, j3, j4⟩, k0, k1, k2, k3, k4⟩ := HV21.out
        rcases HR.out with ⟨hr, hRR⟩ | ⟨hr, hRR⟩
        · rw [hr] at hri
          have HRT := Lib.hid hr
          have HRR := Lib.hid hRR
          clear hr hRR
          go_wp2_with fail
          refine hri.mono ?_
          rintro e W22 ⟨rfl, hb22⟩
          clear hri j0 j1 j2 j3 j4 k0 k1 k2 k3 k4
          have hfr := refFindH_any Y W22 ((HL21.out.later hb22).more hb22.size) HRT.out
          rw [← HRR.out] at hfr
          simp only [FileT.agg, PcT.val] at hfr
          have HG22 := Lib.hid (HG21.out.later hb22)
          have HV22 := Lib.hid (HV21.out.later hb22)
          have HB22 := Lib.hid (bel_next HB21.out hb22)
          clear hb22 HG21 HV21 HB21 HL21
          obtain ⟨⟨j0, j1, j2, j3, j4⟩, k0, k1, k2, k3, k4⟩ := HV22.out
          go_upto_region 16 with (go_at_call 24; refine hfr.mono ?_; rintro e W23 ⟨rfl, hb23⟩)
          have hg24 : HBox (W23.alloc (.cells #[.int .u64 (fG R : Nat), .int .i64 (fA R : Nat)] 24)) W23.heap.size (fG R) (fA R : Nat) := heap_alloc_new W23 _
          have hb24 := bel_alloc hb23 (.cells #[.int .u64 (fG R : Nat), .int .i64 (fA R : Nat)] 24)
          have hg8 := HG22.out.later hb24
          have hb25 := bel_next HB22.out hb24
          clear hfr j0 j1 j2 j3 j4 k0 k1 k2 k3 k4 hb23 hb24 HG22 HV22 HB22
          generalize W23.alloc (.cells #[.int .u64 (fG R : Nat), .int .i64 (fA R : Nat)] 24) = W25 at *
          generalize W23.heap.size = g11 at *
          have q0 := hg24.c0
          have q1 := hg24.c1
          have q2 := hg8.c0
          have q3 := hg8.c1
          have HB25 := Lib.hid hb25
          clear hg24 hg8 hb25
          go_wp2
          go_ret
          exact ⟨rfl, HB25.out⟩
        · rw [hr] at hri
          subst hRR
          clear hr
          have q2 := HG21.out.c0
          have q3 := HG21.out.c1
          go_wp2_with fail
          refine hri.mono ?_
          rintro e W22 ⟨rfl, hb22⟩
          clear hri j0 j1 j2 j3 j4 k0 k1 k2 k3 k4 q2 q3
          have q2 := (HG21.out.later hb22).c0
          have q3 := (HG21.out.later hb22).c1
          have HB25 := Lib.hid (bel_next HB21.out hb22)
          clear hb22 HG21 HV21 HB21 HL21
          go_wp2
          go_ret
          exact ⟨rfl, HB25.out⟩
      · have h20' : ((i : Int) == 20) = false := beq_eq_false_iff_ne.2 (by omega)
        by_cases h64 : n3 < 64
        · have h64' : ((n3 : Int) < 64) = True := eq_true (by omega)
          obtain ⟨⟨y0, -⟩, -⟩ := HV5.out
          go_upto_region 12 with fail
          clear y0
          obtain ⟨r1, r2, r3⟩ := own_facts HO5.out
          have hl3 : l.length = n3 := by have h := HO5.out.1; simpa using h
          obtain ⟨Y, hY⟩ : ∃ Y : FileT, Y = ⟨⟨A3, n3, c3, l⟩, X.lA, X.ln, X.lc, X.L, X.fuse, X.fault, X.off⟩ := ⟨_, rfl⟩
          have hYL : LieF W5 W5.heap.size Y := by
            have h := (HXL.out.later HB5.out).more HB5.out.size
            rw [hY]
            exact ⟨⟨Bytes.own HO5.out, r1, r2, r3⟩, h.2, h.3, h.4, h.5, h.6, h.7, h.8⟩
          have hYN : ∀ p ∈ Y.Q, p.n ≤ 1048576 := by
            rw [hY]
            intro p hp
            rcases List.mem_cons.1 hp with e | h
            · rw [e]; show n3 ≤ _; omega
            · exact HN.out p (List.mem_cons_of_mem _ h)
          have HVY := Lib.hid (show FVar W5 w.heap.size (.slice Y.F.A Y.F.n Y.F.c) (.slice Y.lA Y.ln Y.lc) (.int .i64 Y.fuse) (.int .i64 Y.fault) (.bool Y.off) by rw [hY]; exact HV5.out)
          have HYL := Lib.hid hYL
          have HYN := Lib.hid hYN
          have HTB := Lib.hid (HT.out.below HB5.out HT.out.lt)
          have HBT := Lib.hid HB5.out
          clear r1 r2 r3 hl3 hY hYL hYN HV5 HO5
          have hR : ∃ R : Option (Nat × Nat × Nat), Calls Tryd.prog 23 #[Y.agg] W5 (fun e w' => e = .returned (.tuple #[.agg #[.int .u64 (fG R : Nat), .int .i64 (fA R : Nat)], .int .i64 (fP R : Nat), .bool R.isSome]) ∧ Below W5.heap.size W5 w') ∧ ((Y.right = true ∧ R = Hdr.lastH Y.all) ∨ (Y.right = false ∧ R = none)) := by
            cases hr : Y.right
            · exact ⟨none, find_any Y W5.heap.size W5 HTB.out HYL.out (Nat.le_refl _) HYN.out none 0 (.inr ⟨hr, rfl⟩) rfl, .inr ⟨rfl, rfl⟩⟩
            · exact ⟨Hdr.lastH Y.all, find_any Y W5.heap.size W5 HTB.out HYL.out (Nat.le_refl _) HYN.out _ Y.all.length (.inl ⟨hr, rfl⟩) rfl, .inl ⟨rfl, rfl⟩⟩
          obtain ⟨R, hfd, hR⟩ := hR
          have HR := Lib.hid hR
          simp only [FileT.agg, PcT.val] at hfd
          clear hR
          obtain ⟨⟨j0, j1, j2, j3, j4⟩, k0, k1, k2, k3, k4⟩ := HVY.out
          go_upto_region 13 with (go_at_call 23; refine hfd.mono ?_; rintro e W20 ⟨rfl, hb20⟩)
          have HG21 := Lib.hid (show HBox (W20.alloc (.cells #[.int .u64 (fG R : Nat), .int .i64 (fA R : Nat)] 24)) W20.heap.size (fG R) (fA R : Nat) from heap_alloc_new W20 _)
          have hb21 := bel_alloc hb20 (.cells #[.int .u64 (fG R : Nat), .int .i64 (fA R : Nat)] 24)
          have HV21 := Lib.hid (HVY.out.later hb21)
          have HL21 := Lib.hid ((HYL.out.later hb21).more hb21.size)
          have HB21 := Lib.hid (bel_next HBT.out hb21)
          clear hfd j0 j1 j2 j3 j4 k0 k1 k2 k3 k4 hb20 hb21 HVY HYL HTB HBT
          generalize W20.alloc (.cells #[.int .u64 (fG R : Nat), .int .i64 (fA R : Nat)] 24) = W21 at *
          generalize W20.heap.size = g8 at *
          have hri := refRight_any Y W21.heap.size W21 HL21.out (Nat.le_refl _) HYN.out
          simp only [FileT.agg, PcT.val] at hri
          obtain ⟨⟨j0, j1, j2, j3, j4⟩, k0, k1, k2, k3, k4⟩ := HV21.out
          rcases HR.out with ⟨hr, hRR⟩ | ⟨hr, hRR⟩
          · rw [hr] at hri
            have HRT := Lib.hid hr
            have HRR := Lib.hid hRR
            clear hr hRR
            go_wp2_with fail
            refine hri.mono ?_
            rintro e W22 ⟨rfl, hb22⟩
            clear hri j0 j1 j2 j3 j4 k0 k1 k2 k3 k4
            have hfr := refFindH_any Y W22 ((HL21.out.later hb22).more hb22.size) HRT.out
            rw [← HRR.out] at hfr
            simp only [FileT.agg, PcT.val] at hfr
            have HG22 := Lib.hid (HG21.out.later hb22)
            have HV22 := Lib.hid (HV21.out.later hb22)
            have HB22 := Lib.hid (bel_next HB21.out hb22)
            clear hb22 HG21 HV21 HB21 HL21
            obtain ⟨⟨j0, j1, j2, j3, j4⟩, k0, k1, k2, k3, k4⟩ := HV22.out
            go_upto_region 16 with (go_at_call 24; refine hfr.mono ?_; rintro e W23 ⟨rfl, hb23⟩)
            have hg24 : HBox (W23.alloc (.cells #[.int .u64 (fG R : Nat), .int .i64 (fA R : Nat)] 24)) W23.heap.size (fG R) (fA R : Nat) := heap_alloc_new W23 _
            have hb24 := bel_alloc hb23 (.cells #[.int .u64 (fG R : Nat), .int .i64 (fA R : Nat)] 24)
            have hg8 := HG22.out.later hb24
            have hb25 := bel_next HB22.out hb24
            clear hfr j0 j1 j2 j3 j4 k0 k1 k2 k3 k4 hb23 hb24 HG22 HV22 HB22
            generalize W23.alloc (.cells #[.int .u64 (fG R : Nat), .int .i64 (fA R : Nat)] 24) = W25 at *
            generalize W23.heap.size = g11 at *
            have q0 := hg24.c0
            have q1 := hg24.c1
            have q2 := hg8.c0
            have q3 := hg8.c1
            have HB25 := Lib.hid hb25
            clear hg24 hg8 hb25
            go_wp2
            go_ret
            exact ⟨rfl, HB25.out⟩
          · rw [hr] at hri
            subst hRR
            clear hr
            have q2 := HG21.out.c0
            have q3 := HG21.out.c1
            go_wp2_with fail
            refine hri.mono ?_
            rintro e W22 ⟨rfl, hb22⟩
            clear hri j0 j1 j2 j3 j4 k0 k1 k2 k3 k4 q2 q3
            have q2 := (HG21.out.later hb22).c0
            have q3 := (HG21.out.later hb22).c1
            have HB25 := Lib.hid (bel_next HB21.out hb22)
            clear hb22 HG21 HV21 HB21 HL21
            go_wp2
            go_ret
            exact ⟨rfl, HB25.out⟩
        · have h64' : ((n3 : Int) < 64) = False := eq_false (by omega)
          obtain ⟨gC, rfl⟩ := own_some HO5.out (by omega)
          have hCS : gC < S0 := HLT.out gC rfl
          have hDC : D ≤ gC := (World.ownsRow.lt HO5.out gC rfl).1
          clear HLT
          obtain ⟨⟨y0, -⟩, -⟩ := HV5.out
          go_upto_region 8 with fail
          have x2 := HP5.out.c2
          have x3 := HP5.out.c3
          have hbk := blockH_any x.g x.a W5 (HT.out.below HB5.out HT.out.lt) hxk.out.g
          go_upto_region 9 with (first
            | (go_at_call 15; refine hbk.mono ?_; rintro e w6 ⟨rfl, hb6⟩; have hA3 := arr_lit w6)
            | (with_reducible refine wpList_storeArr rfl (.tmp 7) (.tmp 42) rfl rfl rfl hA3 (info64 z64_len) ((blkV_len x.g x.a).trans z64_len.symm) ?_; intro W7 ha7 ho7))
          (try simp only [Act.put])
          have hb7 : Below W5.heap.size W5 W7 := (bel_alloc hb6 _).trans (ho7.below _ hb6.size)
          have HV7 := Lib.hid (HV5.out.later hb7)
          have HO7 := Lib.hid (own_later HO5.out hb7)
          have HB7 := Lib.hid (bel_next HB5.out hb7)
          have HP7 := Lib.hid (HP5.out.later hb7)
          have hD7 := Nat.le_trans hD5 hb7.size
          have hS6 : S0 < w6.heap.size := Nat.lt_of_lt_of_le (blk_lt HP5.out) hb6.size
          obtain ⟨gb, hgb⟩ : ∃ gb, w6.heap.size = gb := ⟨_, rfl⟩
          have hDg : D ≤ gb := by rw [← hgb]; exact Nat.le_trans hD5 hb6.size
          rw [hgb] at ha7 hS6 ⊢
          clear hbk hA3 ho7 hb6 hb7 x2 x3 y0 hgb HV5 HO5 HB5 HP5 hD5
          obtain ⟨B7, hB7⟩ : ∃ B7, blkV x.g x.a = B7 := ⟨_, rfl⟩
          have hBl : B7.length = 64 := by rw [← hB7]; exact blkV_len _ _
          rw [hB7] at ha7 ⊢
          clear hB7
          obtain ⟨d, hd, hdm⟩ := cut_at x.byt 64 (by omega)
          have hd' : (IntKind.u64.wrap x.byt).tmod 64 = (d : Int) := hd
          obtain ⟨u, hu⟩ : ∃ u, B7.getD d 0 = u := ⟨_, rfl⟩
          have hq : W7.cell? ⟨gb, d, none⟩ = some (.int .u8 (u.toNat : Int)) := by
            have h := ha7.cell (j := d) (by rw [hBl]; exact hdm)
            rw [h]
            unfold at8
            rw [hu]
          have hf := ha7.soft d
          have x1 := HP7.out.c1
          have x4 := HP7.out.c4
          have HST := Lib.hid (ha7.set d (u ^^^ x.x))
          have HA7 := Lib.hid ha7
          have hxo := xor8 u x.x
          clear hu ha7 hd
          go_region
          have hbv : Value.int .u8 ((u.toNat ^^^ x.x.toNat : Nat) : Int) = bv (u ^^^ x.x) := by unfold bv; rw [UInt8.toNat_xor]
          rw [hbv]
          have honly := only_set gb W7 d (bv (u ^^^ x.x))
          have HA9 := Lib.hid (show Arr (W7.setCell ⟨gb, d, none⟩ (bv (u ^^^ x.x))).drew gb 25 (B7.set d (u ^^^ x.x)) from HST.out.1)
          have hgb7 := HA7.out.lt
          have HV9 := Lib.hid (FVar.later (FVar.other (bv (u ^^^ x.x)) (i := d) (show w.heap.size ≠ gb by omega) HV7.out) (below_drew1 (Below.refl _ _)))
          have hne9 : gC ≠ gb := by omega
          have HO9 := Lib.hid (World.ownsRow.kept HO7.out honly.grown (.inr (fun e => hne9 (by simpa [Value.ownBlock] using e))))
          have HB9 := Lib.hid (HB7.out.trans (honly.below _ (show w.heap.size ≤ gb by omega)))
          have HP9 := Lib.hid (show PBox (W7.setCell ⟨gb, d, none⟩ (bv (u ^^^ x.x))).drew S0 x from (honly.other S0 (by omega)).trans HP7.out)
          have hs9 : (W7.setCell ⟨gb, d, none⟩ (bv (u ^^^ x.x))).drew.heap.size = W7.heap.size := honly.size
          have hL9 : (B7.set d (u ^^^ x.x)).length = 64 := by rw [List.length_set]; exact hBl
          clear honly hbv HST HA7 hq hf x1 x4 hxo hd' HV7 HO7 HB7 HP7 hBl
          generalize (W7.setCell ⟨gb, d, none⟩ (bv (u ^^^ x.x))).drew = W9 at *
          generalize B7.set d (u ^^^ x.x) = L9 at *
          rw [← hs9] at hgb7 hD7
          have hgD' : w.heap.size < W9.heap.size := Nat.lt_of_lt_of_le hgD hD7
          have hS9 : S0 < W9.heap.size := blk_lt HP9.out
          clear hs9 hdm
          obtain ⟨q3, hq3⟩ : ∃ q3, n3 / 64 = q3 := ⟨_, rfl⟩
          obtain ⟨d2, hd2, hdm2⟩ := cut_at x.at' q3 (by omega)
          obtain ⟨v1, v2, v3, v4, v5, v6, v7, v8, v9, v10⟩ := place_nums hn3 hq3 (by omega) hdm2
          have v11 : (q3 = 0) = False := eq_false (fun e => by rw [e] at hdm2; exact Nat.not_lt_zero _ hdm2)
          obtain ⟨P, hP⟩ : ∃ P, d2 * 64 = P := ⟨_, rfl⟩
          rw [hP] at v7 v8 v10
          obtain ⟨-, hn3c, -⟩ := own_facts HO9.out
          have hPc : P ≤ c3 := by
            clear v1 v2 v3 v4 v5 v6 v7 v8 v9 hd2
            omega
          have hPn : P ≤ n3 := by
            clear v1 v2 v3 v4 v5 v6 v7 v8 v9 hd2
            omega
          have v12 : IntKind.i64.wrap (P : Int) = (P : Int) := by
            clear v1 v2 v3 v4 v5 v6 v7 v8 v9 hd2
            rw [IntKind.wrap_i64]
            omega
          have v13 : (c3 = P) = False := by
            clear v1 v2 v3 v4 v5 v6 v7 v8 v9 hd2 v12
            exact eq_false (by omega)
          have v14 : ((P : Int) ≤ (n3 : Int)) = True := eq_true (Int.ofNat_le.2 hPn)
          have v15 : (0 ≤ (P : Int)) = True := eq_true (Int.natCast_nonneg P)
          have hfit : P + (n3 - P) ≤ n3 := by
            clear v1 v2 v3 v4 v5 v6 v7 v8 v9 hd2 v12 v13 v14 v15
            omega
          have gne1 : w.heap.size ≠ gC := by
            clear v1 v2 v3 v4 v5 v6 v7 v8 v9 hd2 v12 v13 v14 v15
            omega
          have gne2 : S0 ≠ gC := by
            clear v1 v2 v3 v4 v5 v6 v7 v8 v9 hd2 v12 v13 v14 v15
            omega
          have HA9b := Lib.hid (show Shows W9.drew W9.heap.size 1 (some ⟨gb, 0, none⟩) 64 (L9.map bv) by have h := HA9.out.bytes hgb7; rw [hL9] at h; exact h)
          have x0 : ∀ W, OthB gC W9 W → W.cell? ⟨w.heap.size, 0, none⟩ = some (.slice (some ⟨gC, 0, none⟩) n3 c3) := fun W h => (h.cell hgD' gne1).trans HV9.out.1.1
          have x1 : ∀ W, OthB gC W9 W → W.cell? ⟨S0, 0, none⟩ = some (.int .i64 x.at') := fun W h => (h.cell hS9 gne2).trans HP9.out.c0
          clear hP hdm2 hL9 hgb7
          go_upto_region 10 with fail
          refine wp_region_held_drew (S := fun W => OthB gC W9 W) (by kernel_rfl) (OthB.drewN _ _ 1) (fun hHeld => ?_)
          refine rg_in 0 rfl (by kernel_rfl) (by kernel_rfl) (by kernel_rfl) (by rfl) (v := ?_) (fun _ _ _ h => h) hHeld (fun w hSw => ?_) ?_
          rotate_left
          · (try dsimp only at hSw); go_simp <;> (with_reducible rfl)
          (try simp only [Act.put, List.setIfInBounds_toArray, List.set_cons_zero, List.set_cons_succ])
          refine rg_in 1 rfl (by kernel_rfl) (by kernel_rfl) (by kernel_rfl) (by rfl) (v := ?_) (fun _ _ _ h => h) hHeld (fun w hSw => ?_) ?_
          rotate_left
          · (try dsimp only at hSw); go_simp <;> (with_reducible rfl)
          (try simp only [Act.put, List.setIfInBounds_toArray, List.set_cons_zero, List.set_cons_succ])
          refine rg_in 2 rfl (by kernel_rfl) (by kernel_rfl) (by kernel_rfl) (by rfl) (v := ?_) (fun _ _ _ h => h) hHeld (fun w hSw => ?_) ?_
          rotate_left
          · (try dsimp only at hSw); go_simp <;> (with_reducible rfl)
          (try simp only [Act.put, List.setIfInBounds_toArray, List.set_cons_zero, List.set_cons_succ])
          refine rg_in 3 rfl (by kernel_rfl) (by kernel_rfl) (by kernel_rfl) (by rfl) (v := ?_) (fun _ _ _ h => h) hHeld (fun w hSw => ?_) ?_
          rotate_left
          · (try dsimp only at hSw); go_simp <;> (with_reducible rfl)
          (try simp only [Act.put, List.setIfInBounds_toArray, List.set_cons_zero, List.set_cons_succ])
          refine rg_in 4 rfl (by kernel_rfl) (by kernel_rfl) (by kernel_rfl) (by rfl) (v := ?_) (fun _ _ _ h => h) hHeld (fun w hSw => ?_) ?_
          rotate_left
          · (try dsimp only at hSw); go_simp <;> (with_reducible rfl)
          (try simp only [Act.put, List.setIfInBounds_toArray, List.set_cons_zero, List.set_cons_succ])
          refine rg_in 5 rfl (by kernel_rfl) (by kernel_rfl) (by kernel_rfl) (by rfl) (v := ?_) (fun _ _ _ h => h) hHeld (fun w hSw => ?_) ?_
          rotate_left
          · (try dsimp only at hSw); go_simp <;> (with_reducible rfl)
          (try simp only [Act.put, List.setIfInBounds_toArray, List.set_cons_zero, List.set_cons_succ])
          refine rg_in 6 rfl (by kernel_rfl) (by kernel_rfl) (by kernel_rfl) (by rfl) (v := ?_) (fun _ _ _ h => h) hHeld (fun w hSw => ?_) ?_
          rotate_left
          · (try dsimp only at hSw); go_simp <;> (with_reducible rfl)
          (try simp only [Act.put, List.setIfInBounds_toArray, List.set_cons_zero, List.set_cons_succ])
          refine rg_in 7 rfl (by kernel_rfl) (by kernel_rfl) (by kernel_rfl) (by rfl) (v := ?_) (fun _ _ _ h => h) hHeld (fun w hSw => ?_) ?_
          rotate_left
          · (try dsimp only at hSw); go_simp <;> (with_reducible rfl)
          (try simp only [Act.put, List.setIfInBounds_toArray, List.set_cons_zero, List.set_cons_succ])
          refine rg_in 8 rfl (by kernel_rfl) (by kernel_rfl) (by kernel_rfl) (by rfl) (v := ?_) (fun _ _ _ h => h) hHeld (fun w hSw => ?_) ?_
          rotate_left
          · (try dsimp only at hSw); go_simp <;> (with_reducible rfl)
          (try simp only [Act.put, List.setIfInBounds_toArray, List.set_cons_zero, List.set_cons_succ])
          refine rg_in 9 rfl (by kernel_rfl) (by kernel_rfl) (by kernel_rfl) (by rfl) (v := ?_) (fun _ _ _ h => h) hHeld (fun w hSw => ?_) ?_
          rotate_left
          · (try dsimp only at hSw); go_simp <;> (with_reducible rfl)
          (try simp only [Act.put, List.setIfInBounds_toArray, List.set_cons_zero, List.set_cons_succ])
          refine rg_in 10 rfl (by kernel_rfl) (by kernel_rfl) (by kernel_rfl) (by rfl) (v := ?_) (fun _ _ _ h => h) hHeld (fun w hSw => ?_) ?_
          rotate_left
          · (try dsimp only at hSw); go_simp <;> (with_reducible rfl)
          (try simp only [Act.put, List.setIfInBounds_toArray, List.set_cons_zero, List.set_cons_succ])
          refine rg_in 11 rfl (by kernel_rfl) (by kernel_rfl) (by kernel_rfl) (by rfl) (v := ?_) (fun _ _ _ h => h) hHeld (fun w hSw => ?_) ?_
          rotate_left
          · (try dsimp only at hSw); go_simp <;> (with_reducible rfl)
          (try simp only [Act.put, List.setIfInBounds_toArray, List.set_cons_zero, List.set_cons_succ])
          refine rg_in 12 rfl (by kernel_rfl) (by kernel_rfl) (by kernel_rfl) (by rfl) (v := ?_) (fun _ _ _ h => h) hHeld (fun w hSw => ?_) ?_
          rotate_left
          · (try dsimp only at hSw); go_simp <;> (with_reducible rfl)
          (try simp only [Act.put, List.setIfInBounds_toArray, List.set_cons_zero, List.set_cons_succ])
          refine rg_in 13 rfl (by kernel_rfl) (by kernel_rfl) (by kernel_rfl) (by rfl) (v := ?_) (fun _ _ _ h => h) hHeld (fun w hSw => ?_) ?_
          rotate_left
          · (try dsimp only at hSw); go_simp <;> (with_reducible rfl)
          (try simp only [Act.put, List.setIfInBounds_toArray, List.set_cons_zero, List.set_cons_succ])
          refine rg_in 14 rfl (by kernel_rfl) (by kernel_rfl) (by kernel_rfl) (by rfl) (v := ?_) (fun _ _ _ h => h) hHeld (fun w hSw => ?_) ?_
          rotate_left
          · (try dsimp only at hSw); go_simp <;> (with_reducible rfl)
          (try simp only [Act.put, List.setIfInBounds_toArray, List.set_cons_zero, List.set_cons_succ])
          refine rg_do 15 rfl (by kernel_rfl) (by rfl) (fun K hK => ?_)
          refine wp_copy_shows (.tmp 66) (.tmp 67) 34 34 rfl 5 Tryd.underlying34 size8 D 5 gC n3 c3 (l.map bv) (show W9.drew.ownsRow D 5 1 _ n3 _ from HO9.out) P (some ⟨gC, P, none⟩) (n3 - P) (c3 - P) (by rfl) (fun _ => rfl) hfit _ (some ⟨gb, 0, none⟩) 64 64 (L9.map bv) (by rfl) HA9b.out (bv_one _) ?_
          intro w115 hown hgrow hbel
          refine hK.out _ _ (hHeld.grown hgrow) (fun hHeld => ?_)
          clear hK K
          (try simp only [Act.put, List.setIfInBounds_toArray, List.set_cons_zero, List.set_cons_succ])
          refine wpAnyH_done (by kernel_rfl) ?_ _
          skip
          clear x0 x1 v1 v2 v3 v4 v5 v6 v7 v8 v9 v10 v11 v12 v13 v14 v15 hd2
          have HV10 := Lib.hid (hHeld.fvar HV9.out hgD' gne1)
          have HO10 := Lib.hid (show w115.ownsRow D 5 1 (.slice (some ⟨gC, 0, none⟩) n3 c3) n3 ((splice l P (L9.take (n3 - P))).map bv) by rw [← splice_bv]; exact hown)
          have HB10 := Lib.hid (HB9.out.trans (below_undrew (hbel.mono (Nat.le_of_lt hgD))))
          have hD10 := Nat.le_trans hD7 hHeld.size
          clear hHeld hown hgrow hbel HV9 HO9 HB9 HP9 HA9 HA9b
          go_wp2
          go_roundw
          case rel => exact ⟨i + 1, _, by omega, by omega, by go_num, HV10, HO10, HB10, hD10⟩
          case measure => simp [intOf]; omega
    · have hlt' : ((i : Int) < (n : Int)) = False := eq_false (by omega)
      obtain ⟨r1, r2, r3⟩ := own_facts HO.out
      have hl3 : l.length = n3 := by have h := HO.out.1; simpa using h
      obtain ⟨Y, hY⟩ : ∃ Y : FileT, Y = ⟨⟨A3, n3, c3, l⟩, X.lA, X.ln, X.lc, X.L, X.fuse, X.fault, X.off⟩ := ⟨_, rfl⟩
      have hYL : LieF wr wr.heap.size Y := by
        have h := (HXL.out.later HB.out).more HB.out.size
        rw [hY]
        exact ⟨⟨Bytes.own HO.out, r1, r2, r3⟩, h.2, h.3, h.4, h.5, h.6, h.7, h.8⟩
      have hYN : ∀ p ∈ Y.Q, p.n ≤ 1048576 := by
        rw [hY]
        intro p hp
        rcases List.mem_cons.1 hp with e | h
        · rw [e]; show n3 ≤ _; omega
        · exact HN.out p (List.mem_cons_of_mem _ h)
      have HVY := Lib.hid (show FVar wr w.heap.size (.slice Y.F.A Y.F.n Y.F.c) (.slice Y.lA Y.ln Y.lc) (.int .i64 Y.fuse) (.int .i64 Y.fault) (.bool Y.off) by rw [hY]; exact HV.out)
      have HYL := Lib.hid hYL
      have HYN := Lib.hid hYN
      have HTB := Lib.hid (HT.out.below HB.out HT.out.lt)
      have HBT := Lib.hid HB.out
      clear r1 r2 r3 hl3 hY hYL hYN HV HO
      have hR : ∃ R : Option (Nat × Nat × Nat), Calls Tryd.prog 23 #[Y.agg] wr (fun e w' => e = .returned (.tuple #[.agg #[.int .u64 (fG R : Nat), .int .i64 (fA R : Nat)], .int .i64 (fP R : Nat), .bool R.isSome]) ∧ Below wr.heap.size wr w') ∧ ((Y.right = true ∧ R = Hdr.lastH Y.all) ∨ (Y.right = false ∧ R = none)) := by
        cases hr : Y.right
        · exact ⟨none, find_any Y wr.heap.size wr HTB.out HYL.out (Nat.le_refl _) HYN.out none 0 (.inr ⟨hr, rfl⟩) rfl, .inr ⟨rfl, rfl⟩⟩
        · exact ⟨Hdr.lastH Y.all, find_any Y wr.heap.size wr HTB.out HYL.out (Nat.le_refl _) HYN.out _ Y.all.length (.inl ⟨hr, rfl⟩) rfl, .inl ⟨rfl, rfl⟩⟩
      obtain ⟨R, hfd, hR⟩ := hR
      have HR := Lib.hid hR
      simp only [FileT.agg, PcT.val] at hfd
      clear hR
      obtain ⟨⟨j0, j1, j2, j3, j4⟩, k0, k1, k2, k3, k4⟩ := HVY.out
      go_upto_region 13 with (go_at_call 23; refine hfd.mono ?_; rintro e W20 ⟨rfl, hb20⟩)
      have HG21 := Lib.hid (show HBox (W20.alloc (.cells #[.int .u64 (fG R : Nat), .int .i64 (fA R : Nat)] 24)) W20.heap.size (fG R) (fA R : Nat) from heap_alloc_new W20 _)
      have hb21 := bel_alloc hb20 (.cells #[.int .u64 (fG R : Nat), .int .i64 (fA R : Nat)] 24)
      have HV21 := Lib.hid (HVY.out.later hb21)
      have HL21 := Lib.hid ((HYL.out.later hb21).more hb21.size)
      have HB21 := Lib.hid (bel_next HBT.out hb21)
      clear hfd j0 j1 j2 j3 j4 k0 k1 k2 k3 k4 hb20 hb21 HVY HYL HTB HBT
      generalize W20.alloc (.cells #[.int .u64 (fG R : Nat), .int .i64 (fA R : Nat)] 24) = W21 at *
      generalize W20.heap.size = g8 at *
      have hri := refRight_any Y W21.heap.size W21 HL21.out (Nat.le_refl _) HYN.out
      simp only [FileT.agg, PcT.val] at hri
      obtain ⟨⟨j0, j1, j2, j3, j4⟩, k0, k1, k2, k3, k4⟩ := HV21.out
      rcases HR.out with ⟨hr, hRR⟩ | ⟨hr, hRR⟩
      · rw [hr] at hri
        have HRT := Lib.hid hr
        have HRR := Lib.hid hRR
        clear hr hRR
        go_wp2_with fail
        refine hri.mono ?_
        rintro e W22 ⟨rfl, hb22⟩
        clear hri j0 j1 j2 j3 j4 k0 k1 k2 k3 k4
        have hfr := refFindH_any Y W22 ((HL21.out.later hb22).more hb22.size) HRT.out
        rw [← HRR.out] at hfr
        simp only [FileT.agg, PcT.val] at hfr
        have HG22 := Lib.hid (HG21.out.later hb22)
        have HV22 := Lib.hid (HV21.out.later hb22)
        have HB22 := Lib.hid (bel_next HB21.out hb22)
        clear hb22 HG21 HV21 HB21 HL21
        obtain ⟨⟨j0, j1, j2, j3, j4⟩, k0, k1, k2, k3, k4⟩ := HV22.out
        go_upto_region 16 with (go_at_call 24; refine hfr.mono ?_; rintro e W23 ⟨rfl, hb23⟩)
        have hg24 : HBox (W23.alloc (.cells #[.int .u64 (fG R : Nat), .int .i64 (fA R : Nat)] 24)) W23.heap.size (fG R) (fA R : Nat) := heap_alloc_new W23 _
        have hb24 := bel_alloc hb23 (.cells #[.int .u64 (fG R : Nat), .int .i64 (fA R : Nat)] 24)
        have hg8 := HG22.out.later hb24
        have hb25 := bel_next HB22.out hb24
        clear hfr j0 j1 j2 j3 j4 k0 k1 k2 k3 k4 hb23 hb24 HG22 HV22 HB22
        generalize W23.alloc (.cells #[.int .u64 (fG R : Nat), .int .i64 (fA R : Nat)] 24) = W25 at *
        generalize W23.heap.size = g11 at *
        have q0 := hg24.c0
        have q1 := hg24.c1
        have q2 := hg8.c0
        have q3 := hg8.c1
        have HB25 := Lib.hid hb25
        clear hg24 hg8 hb25
        go_wp2
        go_ret
        exact ⟨rfl, HB25.out⟩
      · rw [hr] at hri
        subst hRR
        clear hr
        have q2 := HG21.out.c0
        have q3 := HG21.out.c1
        go_wp2_with fail
        refine hri.mono ?_
        rintro e W22 ⟨rfl, hb22⟩
        clear hri j0 j1 j2 j3 j4 k0 k1 k2 k3 k4 q2 q3
        have q2 := (HG21.out.later hb22).c0
        have q3 := (HG21.out.later hb22).c1
        have HB25 := Lib.hid (bel_next HB21.out hb22)
        clear hb22 HG21 HV21 HB21 HL21
        go_wp2
        go_ret
        exact ⟨rfl, HB25.out⟩
end Go.Proofs.YtlknmpnjhbdlhaaDoor
