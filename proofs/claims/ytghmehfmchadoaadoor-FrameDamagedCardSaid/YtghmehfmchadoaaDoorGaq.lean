import Derived.Test.YtghmehfmchadoaaDoorGan
import Derived.Test.YtghmehfmchadoaaDoorGao
import Derived.Test.YtghmehfmchadoaaDoorGap
/-
  Layer 11, the law FrameDamaged: the walk.
-/
namespace Go.Proofs.YtghmehfmchadoaaDoor
open Go.RowKit
set_option linter.unusedVariables false
set_option linter.unusedSimpArgs false

theorem size_pos (all : List UInt8) : 0 < sizeN all 4 := by
  have h := size_is all [0, 0, 0, 0]
  have h1 := (Fra.layP_ge (Fra.encL [0, 0, 0, 0]) (Fra.atN all)).1
  rw [Fra.encL_len] at h1
  unfold Fra.pieceL at h
  rw [List.length_append] at h
  have : sizeN all 4 = (Fra.aheadL all).length + (Fra.layP (Fra.atN all) (Fra.encL [0, 0, 0, 0])).length := h
  simp only [List.length_cons, List.length_nil] at h1
  omega
def nv (n : Nat) : Value := .int .i64 (n : Int)
theorem u8_turn (u : UInt8) (e : Nat) (he : e < 8) : bits .xor .u8 (u.toNat : Int) (IntKind.u8.wrap ((2 : Int) ^ e)) = ((u ^^^ UInt8.ofNat (2 ^ e)).toNat : Int) := by
  have hp : 2 ^ e < 256 := Nat.pow_lt_pow_of_lt (a := 2) (n := e) (m := 8) (by decide) he
  have hc : ((2 : Int) ^ e) = ((2 ^ e : Nat) : Int) := by push_cast; rfl
  have hw : ∀ x : Nat, x < 256 → IntKind.u8.wrap (x : Int) = (x : Int) := fun x hx => by
    have : IntKind.u8.wrap (x : Int) = (x : Int) % 256 := by simp [IntKind.wrap, IntKind.bits, IntKind.signed]
    rw [this]; omega
  have ho : ∀ n : Nat, n < 256 → (BitVec.ofInt 8 (n : Int)).toNat = n := fun n hn => by rw [BitVec.toNat_ofInt]; omega
  rw [hc, hw _ hp, Fra.xor_u8 u e he]
  show IntKind.u8.wrap ((BitVec.ofInt 8 (u.toNat : Int) ^^^ BitVec.ofInt 8 ((2 ^ e : Nat) : Int)).toNat : Int) = _
  rw [BitVec.toNat_xor, ho _ u.toNat_lt, ho _ hp, hw _ (Nat.xor_lt_two_pow (n := 8) u.toNat_lt hp)]
theorem u32_bit (t k : Nat) (ht : t < 4294967296) : bits .and .u32 ((t : Int) / 2 ^ k) 1 = ((t / 2 ^ k % 2 : Nat) : Int) := by
  have hx : t / 2 ^ k < 4294967296 := Nat.lt_of_le_of_lt (Nat.div_le_self _ _) ht
  have e : (t : Int) / 2 ^ k = ((t / 2 ^ k : Nat) : Int) := by push_cast; rfl
  rw [e]
  generalize t / 2 ^ k = x at *
  show IntKind.u32.wrap ((BitVec.ofInt 32 (x : Int) &&& BitVec.ofInt 32 1).toNat : Int) = _
  have h1 : (BitVec.ofInt 32 (x : Int)).toNat = x := by rw [BitVec.toNat_ofInt]; omega
  have h2 : (BitVec.ofInt 32 (1 : Int)).toNat = 2 ^ 1 - 1 := by decide
  rw [BitVec.toNat_and, h1, h2, Nat.and_two_pow_sub_one_eq_mod]
  have : IntKind.u32.wrap ((x % 2 ^ 1 : Nat) : Int) = ((x % 2 ^ 1 : Nat) : Int) % 4294967296 := by simp [IntKind.wrap, IntKind.bits, IntKind.signed]
  rw [this]; omega
set_option maxRecDepth 20000 in
set_option maxHeartbeats 1000000 in
theorem bclone_any (b off n c : Nat) (l : List UInt8) (B : Nat) (w : World) (h : Bytes w B (some ⟨b, off, none⟩) n l) (hB : B ≤ w.heap.size) (hn : n ≤ 1000000) :
    Calls Tryd.prog 26 #[.slice (some ⟨b, off, none⟩) n c] w (GivesBytes 5 l w) := by
  have hnil := fun (W : World) (a : Option Addr) (n c : Nat) => Lib.run_eql_slice_nil (P := Tryd.prog) W 22 5 a n c 0 0 Tryd.underlying22
  obtain ⟨i0, hi, hz0, hz1, hz2⟩ := u8_info
  have own0 := World.ownsRow_lit (base := w.heap.size) (e := 5) (size := 1) w #[] 0 (Nat.le_refl _) (Nat.zero_le _) (by simp)
  have hb := bel_alloc (Below.refl w.heap.size w) (.cells #[] 5)
  have hs := (h.more hB).alloc (Nat.le_refl _) (.cells #[] 5)
  have hz : w.heap.size ≤ (w.alloc (.cells #[] 5)).heap.size := hb.size
  have g1 : 0 + n ≤ maxLen := by unfold maxLen; omega
  have g2 : (0 + n) * 1 ≤ 140737488355328 := by omega
  clear h
  go_enter Tryd.func26, Tryd.ntmps26
  go_wp2_with (at_builtin; refine wpList_append_shows _ rfl _ _ 22 rfl w.heap.size 5 i0 (.int .u8 0) 1 1 Tryd.underlying22 hi hz0 hz1 hz2 rfl (by decide) _ _ _ rfl own0 w.heap.size _ n _ (l.map bv) rfl hs (bv_one l) g1 g2 hz ?_; intro A7 c7 w7 hown7 hgrow7 hb7; have HO7 := Lib.hid hown7; have hb8 := hb.trans hb7; clear hown7 hgrow7 own0 hs hz hb7)
  go_ret
  exact ⟨A7, _, c7, rfl, by have h := HO7.out; simpa using h, hb8⟩
set_option maxRecDepth 100000 in
set_option maxHeartbeats 8000000 in
theorem frameDamaged_walk (w : World) (A0 : Option Addr) (n0 c0 : Nat) (l0 : List UInt8) (h0 : Bytes w w.heap.size A0 n0 l0) (hA0 : A0 = none → c0 = 0) (hn0 : n0 ≤ c0) (hc0 : c0 ≤ maxLen)
    (A1 : Option Addr) (n1 c1 : Nat) (l1 : List UInt8) (h1 : Bytes w w.heap.size A1 n1 l1) (hA1 : A1 = none → c1 = 0) (hn1 : n1 ≤ c1) (hc1 : c1 ≤ maxLen)
    (cut : Int) (hcut : (Lit.int .i64 cut).wf = true) (tu : Int) (htu : (Lit.int .u32 tu).wf = true) (htab : Tab w) :
    Calls Tryd.prog 6 #[.slice A0 n0 c0, .slice A1 n1 c1, .int .i64 cut, .int .u32 tu] w fun e w' => e = .returned (.bool true) ∧ Below w.heap.size w w' := by
  have HP0 := Lib.hid (show PcT.Ok w w.heap.size ⟨A0, n0, c0, l0⟩ from ⟨h0, hA0, hn0, hc0⟩)
  have HP1 := Lib.hid (show PcT.Ok w w.heap.size ⟨A1, n1, c1, l1⟩ from ⟨h1, hA1, hn1, hc1⟩)
  have htu4 := wf_u32 htu
  obtain ⟨t, rfl⟩ : ∃ t : Nat, tu = (t : Int) := ⟨tu.toNat, by omega⟩
  have ht32 : t < 4294967296 := by omega
  clear h0 hA0 hn0 hc0 h1 hA1 hn1 hc1 htu htu4
  go_enter Tryd.func6, Tryd.ntmps6
  go_wp2_with fail
  refine (wakes_any _ htab).mono ?_
  rintro e W1 ⟨rfl, hb1⟩
  have hfe := few_any ⟨A0, n0, c0, l0⟩ 300 w.heap.size W1 (HP0.out.later hb1) hb1.size (by omega)
  rw [show ((300 : Nat) : Int) = 300 from rfl] at hfe
  go_wp2_with fail
  refine hfe.mono ?_
  rintro e W2 ⟨q, rfl, hql, hqo, hb2, -⟩
  have hb3 := bel_next hb1 hb2
  clear hfe hb1 hb2
  go_wp2_with fail
  refine (firm_any q _).mono ?_
  rintro e W3 ⟨rfl, hb4⟩
  have hb5 := bel_next hb3 hb4
  have hqo3 := (hqo.later hb4).more hb4.size
  have hqn : q.n ≤ 300 := by rw [← hqo.len, hql, List.length_take]; omega
  have HF := Lib.hid (FAt.new (firm_lie hqo3) 25)
  have hb6 := bel_alloc hb5 (.cells #[.slice q.A q.n q.c, .slice none 0 0, .int .i64 (-1), .int .i64 (-1), .bool false] 25)
  have hrq : (firmF q).right = true := firm_right (p := q) hqo3 (show q.n ≤ 524288 by omega)
  have hqlen : q.l.length = q.n := hqo.len
  simp only [firmF, FileT.agg, PcT.val] at HF ⊢
  clear hb3 hb4 hb5 hqo hqo3 hql
  have hfe := few_any ⟨A1, n1, c1, l1⟩ 400 w.heap.size (W3.alloc (.cells #[.slice q.A q.n q.c, .slice none 0 0, .int .i64 (-1), .int .i64 (-1), .bool false] 25)) (HP1.out.later hb6) hb6.size (by omega)
  rw [show ((400 : Nat) : Int) = 400 from rfl] at hfe
  go_wp2_with fail
  generalize W3.alloc (.cells #[.slice q.A q.n q.c, .slice none 0 0, .int .i64 (-1), .int .i64 (-1), .bool false] 25) = W4 at *
  generalize W3.heap.size = g7 at *
  refine hfe.mono ?_
  rintro e W5 ⟨b, rfl, hbl, hbo, hb7, -⟩
  have hb8 := bel_next hb6 hb7
  have HF5 := Lib.hid (show FAt W5 g7 (firmF q) from HF.out.later hb7)
  have hbn : b.n ≤ 400 := by rw [← hbo.len, hbl, List.length_take]; omega
  have HB := Lib.hid hbo
  clear hfe hb6 hb7 HF hbl hbo
  by_cases hsm : b.n < 4 ∨ t = 0
  · have hz := fsize_ok (firmF q) 4 W5.heap.size W5 (htab.below hb8 htab.lt) HF5.out.l (Nat.le_refl _) hrq (by omega)
    rw [firm_all] at hz
    obtain ⟨sz, hsz⟩ : ∃ sz, sizeN q.l 4 = sz := ⟨_, rfl⟩
    have hsz0 : (0 < sz) = True := eq_true (by have := size_pos q.l; omega)
    rw [hsz] at hz
    rw [show ((4 : Nat) : Int) = 4 from rfl] at hz
    obtain ⟨⟨f0, f1, f2, f3, f4⟩, -⟩ := HF5.out.v
    simp only [firmF, FileT.agg, PcT.val] at hz f0 f1 f2 f3 f4
    by_cases h4 : b.n < 4
    · have h4' : ((b.n : Int) < 4) = True := eq_true (by omega)
      clear hsm h4 hsz
      go_wp2_with fail
      refine hz.mono ?_
      rintro e W6 ⟨rfl, hb9⟩
      have hb10 := bel_next hb8 hb9
      clear hz f0 f1 f2 f3 f4 hb8 hb9
      go_wp2
      go_ret
      exact ⟨rfl, hb10⟩
    · have h4' : ((b.n : Int) < 4) = False := eq_false (by omega)
      have ht0 : ((t : Int) == 0) = true := by rw [beq_iff_eq]; omega
      clear hsm h4 hsz
      go_wp2_with fail
      refine hz.mono ?_
      rintro e W6 ⟨rfl, hb9⟩
      have hb10 := bel_next hb8 hb9
      clear hz f0 f1 f2 f3 f4 hb8 hb9
      go_wp2
      go_ret
      exact ⟨rfl, hb10⟩
  · have h4' : ((b.n : Int) < 4) = False := eq_false (by omega)
    have ht0 : ((t : Int) == 0) = false := by rw [beq_eq_false_iff_ne]; omega
    have hb4n : 4 ≤ b.n := by omega
    have Ht0 := Lib.hid (show t ≠ 0 by omega)
    clear hsm
    have hpl := Fra.piece_len q.l (Fra.encL b.l) (by rw [Fra.encL_len, HB.out.len]; omega)
    have hput := putS (firmF q) b q.l [] W5 (htab.below hb8 htab.lt) HF5.out.l HB.out rfl hrq (by omega) (by rw [List.flatten_nil, List.append_nil, hqlen]; omega)
    rw [List.flatten_nil, List.append_nil, List.nil_append] at hput
    obtain ⟨pc, hpc⟩ : ∃ pc, Fra.pieceL q.l (Fra.encL b.l) = pc := ⟨_, rfl⟩
    have HPC := Lib.hid hpc
    have hpc7 : 7 ≤ pc.length := by
      rw [← hpc]
      unfold Fra.pieceL
      rw [List.length_append]
      have := (Fra.layP_ge (Fra.encL b.l) (Fra.atN q.l)).1
      rw [Fra.encL_len, HB.out.len] at this
      omega
    rw [hpc] at hput hpl
    obtain ⟨at0, hat⟩ : ∃ a, Fra.atN q.l = a := ⟨_, rfl⟩
    rw [hat] at hput
    have Hat := Lib.hid hat
    clear hpc hat
    obtain ⟨⟨f0, f1, f2, f3, f4⟩, -⟩ := HF5.out.v
    simp only [firmF, FileT.agg, PcT.val] at hput f0 f1 f2 f3 f4
    have Hput := Lib.hid hput
    clear hput
    go_wp2_with fail
    refine Hput.out.mono ?_
    rintro e W6 ⟨Y, rfl, hYs, hYL, hb9, -⟩
    clear Hput f0 f1 f2 f3 f4
    have HB6 := Lib.hid ((HB.out.later hb9).more hb9.size)
    have hb10 := bel_next hb8 hb9
    have hb11 := bel_alloc (Below.refl W6.heap.size W6) (.cells #[.slice Y.F.A Y.F.n Y.F.c, .slice Y.lA Y.ln Y.lc, .int .i64 Y.fuse, .int .i64 Y.fault, .bool Y.off] 25)
    have HY7 := Lib.hid (FAt.new hYL 25)
    have HB7 := Lib.hid ((HB6.out.later hb11).more hb11.size)
    have hb12 := bel_next hb10 hb11
    have hallY : Y.all = q.l ++ pc := by rw [← all_s, hYs]; show q.l ++ [pc].flatten = _; simp
    have hrY := right_calm HY7.out.l hYs (by intro l hl e; rcases List.mem_singleton.1 hl with rfl; rw [e] at hpc7; simp at hpc7) (by simp; rw [hqlen]; omega)
    have hYF : Y.F.n < Y.all.length := by
      have e : Y.F.l = q.l := congrArg FileS.firm hYs
      rw [← HY7.out.l.firm.len, e, hallY, List.length_append]
      omega
    have hsd := said_own Y _ _ HY7.out.l (Nat.le_refl _) hrY hYF
    rw [hallY] at hsd
    clear hb8 hb9 hb10 hb11 HF5 HB HB6 hYL hYF
    simp only [FileT.agg, PcT.val]
    go_upto_region 10 with fail
    generalize W6.alloc (.cells #[.slice Y.F.A Y.F.n Y.F.c, .slice Y.lA Y.ln Y.lc, .int .i64 Y.fuse, .int .i64 Y.fault, .bool Y.off] 25) = W7 at *
    generalize W6.heap.size = g9 at *
    obtain ⟨⟨f0, f1, f2, f3, f4⟩, -⟩ := HY7.out.v
    simp only [FileT.agg, PcT.val] at hsd
    go_wp2_with fail
    refine hsd.mono ?_
    rintro e W8 ⟨A8, n8, c8, rfl, hO8, hb13⟩
    have hn8 : n8 = q.n + pc.length := by have := hO8.1; simp at this; omega
    have HN8 := Lib.hid hn8
    have hn8b : n8 ≤ 9000 := by omega
    have HO8 := Lib.hid hO8
    have HB8 := Lib.hid ((HB7.out.later hb13).more hb13.size)
    have hb14 := bel_next hb12 hb13
    have hs14 := hb14.size
    have hs12 := hb12.size
    -- the lengths
    have HL := Lib.hid (show n8 = at0 + (Fra.layP at0 (Fra.encL b.l)).length by
      have h := Fra.piece_end q.l (Fra.encL b.l)
      rw [HPC.out, Hat.out, List.length_append, hqlen] at h
      rw [hn8, h])
    have hatn : at0 ≤ n8 := by have := HL.out; omega
    have Hqlen := Lib.hid hqlen
    clear hsd f0 f1 f2 f3 f4 hb12 hb13 HY7 HB7 hYs hrY hallY hO8 hn8 hqlen hpl hpc7 hrq
    obtain ⟨j0, hj, hjz0, hjz1, hjz2⟩ := int_info11
    go_wp2_with fail
    go_loopw [15, 16] (fun ov iv wr => ∃ (k : Nat) (A : Option Addr) (m c : Nat), at0 + k ≤ n8 ∧ m ≤ k ∧ iv = .int .i64 ((at0 : Int) + (k : Int)) ∧ ov = .slice A m c ∧ Hid ((Fra.dataPos at0 k).length = m) ∧ Hid (wr.ownsRow W8.heap.size 3 1 (.slice A m c) m ((Fra.dataPos at0 k).map nv)) ∧ Below W8.heap.size W8 wr) (fun _ iv _ => n8 - (intOf iv).toNat)
    case atStart => exact ⟨0, none, 0, 0, hatn, Nat.le_refl _, by simp, rfl, Lib.hid (by rw [Fra.dataPos_zero]; rfl), Lib.hid (by rw [Fra.dataPos_zero]; exact World.ownsRow_nil W8 W8.heap.size 3 1), Below.refl _ _⟩
    case round =>
      obtain ⟨k, A, m, c, hk, hmk, rfl, rfl, HM, HO, hbr⟩ := hrel
      rename World => wr
      obtain ⟨i, hi⟩ : ∃ i, at0 + k = i := ⟨_, rfl⟩
      have hiI : (at0 : Int) + (k : Int) = (i : Int) := by omega
      rw [hiI]
      have hi0 : (0 : Int) ≤ (i : Int) := by omega
      have hin : i ≤ n8 := by omega
      have hmi : m ≤ i := by omega
      by_cases hlt : i < n8
      · have hlt' : ((i : Int) < (n8 : Int)) = True := eq_true (by omega)
        have hsn := Fra.dataPos_snoc k at0
        rw [hi] at hsn
        have hi1 : (at0 : Int) + ((k + 1 : Nat) : Int) = (i : Int) + 1 := by omega
        by_cases h64 : i % 64 = 0
        · have h64' : ((i : Int) % 64 != 0) = false := by rw [bne_eq_false_iff_eq]; omega
          rw [if_pos h64, List.append_nil] at hsn
          have HM2 := Lib.hid (show (Fra.dataPos at0 (k + 1)).length = m by rw [hsn, HM.out])
          have HO2 := Lib.hid (show wr.ownsRow W8.heap.size 3 1 (.slice A m c) m ((Fra.dataPos at0 (k + 1)).map nv) by rw [hsn]; exact HO.out)
          have hkn : at0 + (k + 1) ≤ n8 := by omega
          clear hsn h64 hiI hi HM HO hk
          go_wp2_with fail
          go_roundw
          case rel => exact ⟨k + 1, A, m, c, hkn, by omega, by rw [hi1], rfl, HM2, HO2, hbr⟩
          case measure => simp [intOf]; omega
        · have h64' : ((i : Int) % 64 != 0) = true := by rw [bne_iff_ne]; omega
          rw [if_neg h64] at hsn
          have HM2 := Lib.hid (show (Fra.dataPos at0 (k + 1)).length = m + 1 by rw [hsn, List.length_append, HM.out]; rfl)
          have HSN := Lib.hid hsn
          have hkn : at0 + (k + 1) ≤ n8 := by omega
          have hba := bel_alloc (Below.refl wr.heap.size wr) (.cells #[.int .i64 (i : Int)] 3)
          have n1' := own_later HO.out hba
          have s1 := shows_new' wr #[.int .i64 (i : Int)] 3 1 1 rfl
          have z1 : W8.heap.size ≤ (wr.alloc (.cells #[.int .i64 (i : Int)] 3)).heap.size := Nat.le_trans hbr.size hba.size
          have hX3 := hbr.trans (hba.mono hbr.size)
          have gg1 : m + 1 ≤ maxLen := by unfold maxLen; omega
          have gg3 : (m + 1) * 8 ≤ 140737488355328 := by omega
          clear hba hsn h64 hiI hi HM HO hk
          go_wp2_with (at_builtin; refine wpList_append_shows _ rfl _ _ 53 rfl W8.heap.size 3 j0 (.int .i64 0) 1 8 Tryd.underlying53 hj hjz0 hjz1 hjz2 rfl (by decide) _ _ _ rfl n1' _ _ 1 _ _ rfl s1 (by intro x hx; rw [List.mem_singleton.1 hx]; rfl) gg1 gg3 z1 ?_; intro A9 c9 w9 hown9 hgrow9 hb9; have HO9 := Lib.hid hown9; have hX4 := hX3.trans hb9; clear hown9 hgrow9 n1' s1 z1 hb9 hX3)
          go_roundw
          case rel => exact ⟨k + 1, A9, m + 1, c9, hkn, by omega, by rw [hi1], rfl, HM2, Lib.hid (by rw [HSN.out, List.map_append]; exact HO9.out), hX4⟩
          case measure => simp [intOf]; omega
      · have hlt' : ((i : Int) < (n8 : Int)) = False := eq_false (by omega)
        have hik : i = n8 := by omega
        have hkl : k = (Fra.layP at0 (Fra.encL b.l)).length := by have := HL.out; omega
        have HD := Lib.hid (show Fra.dataPos at0 k = (Fra.posP at0 (Fra.encL b.l)).map (fun x => x.2 - 1) by rw [hkl, Fra.dataPos_lay])
        have hm6 : m = 6 + b.n := by rw [← HM.out, HD.out, List.length_map, Fra.posP_len, Fra.encL_len, HB8.out.len]
        subst hm6
        clear hkl hik hiI hi hlt hk
        have hO := HO.out
        rw [HD.out] at hO
        obtain ⟨e1, e2, e3⟩ := own_facts hO
        unfold maxLen at e3
        obtain ⟨gb, goff, rfl, _, hcl⟩ := (Shows.own hO).2 (by omega)
        have hplace : ∀ W, Below wr.heap.size wr W → ∀ j, j < b.n → W.cell? ⟨gb, goff + 6 + j, none⟩ = some (.int .i64 ((Fra.placeN at0 (Fra.encL b.l) (6 + j) : Nat) : Int)) := fun W hW j hj => by
          have hlen : (Fra.posP at0 (Fra.encL b.l)).length = 6 + b.n := by rw [Fra.posP_len, Fra.encL_len, HB8.out.len]
          have h := kept_later hW (hcl (6 + j) (nv (Fra.placeN at0 (Fra.encL b.l) (6 + j))) (by
            rw [List.getElem?_map, List.getElem?_map, List.getElem?_eq_getElem (by omega)]
            unfold Fra.placeN
            rw [List.getD_eq_getElem?_getD, List.getElem?_eq_getElem (by omega)]
            rfl))
          rw [show goff + 6 + j = goff + (6 + j) by omega]
          exact h
        have HPl := Lib.hid hplace
        obtain ⟨mm, hmm⟩ : ∃ mm, 8 * b.n - 31 = mm := ⟨_, rfl⟩
        have hmm0 : 0 < mm ∧ mm ≤ 10000 := by omega
        obtain ⟨d, hd, hdm⟩ := cut_at cut mm hmm0.1
        have hdb : d + 32 ≤ 8 * b.n := by omega
        have m1 : (8 : Int) * (b.n : Int) - 31 = (mm : Int) := by omega
        have m2 : IntKind.u64.wrap (mm : Int) = (mm : Int) := wrapU_small mm (by omega)
        have m3 : (mm = 0) = False := eq_false (by omega)
        have m4 : IntKind.i64.wrap (d : Int) = (d : Int) := wrap_small _ (by omega)
        have m5 : (6 : Int) + (b.n : Int) - (b.n : Int) = 6 := by omega
        have m6 : ((6 : Int) + (b.n : Int) < (b.n : Int)) = False := eq_false (by omega)
        have m7 : ¬ c = 6 := by omega
        have m8 : (6 : Int) ≤ 6 + (b.n : Int) := by omega
        have m9 : (6 : Int) + (b.n : Int) ≤ (c : Int) := by omega
        have hbw := bel_next hb14 hbr
        have HO8w := Lib.hid (own_later HO8.out hbr)
        obtain ⟨a8b, a8o, hA8, _, _⟩ := (Bytes.own HO8w.out).cell (k := 0) (by omega)
        clear hmm hO hcl hplace HO HD HM hdm
        go_upto_region 20 with fail
        (try rw [show 6 + b.n - 6 = b.n by omega])
        have hcn := bclone_any a8b a8o n8 c8 (q.l ++ pc) wr.heap.size wr (by rw [← hA8]; exact Bytes.own HO8w.out) (Nat.le_refl _) (by omega)
        rw [hA8]
        go_wp2_with fail
        refine hcn.mono ?_
        rintro e W9 ⟨A9, n9, c9, rfl, hO9, hb15⟩
        have hn9 : n8 = n9 := by have := hO9.1; have h2 := HN8.out; simp [Hqlen.out] at this; omega
        subst hn9
        have HO9 := Lib.hid hO9
        have hb16 := bel_next hbw hb15
        have hs15 := hb15.size
        have HURT0 := Lib.hid (show q.l ++ pc = q.l ++ Fra.aheadL q.l ++ Fra.layP at0 (Fra.hdL b.l ++ Fra.turnsL b.l d t 0) by
          rw [← HPC.out]
          unfold Fra.pieceL
          rw [Hat.out, Fra.hd_enc, List.append_assoc]
          rfl)
        have HO9 := Lib.hid (show W9.ownsRow wr.heap.size 5 1 (.slice A9 n8 c9) n8 ((q.l ++ Fra.aheadL q.l ++ Fra.layP at0 (Fra.hdL b.l ++ Fra.turnsL b.l d t 0)).map bv) by rw [← HURT0.out]; exact hO9)
        have Hb15 := Lib.hid hb15
        obtain ⟨gh, cap9, hgv, hgb, _⟩ := HO9.out.form (by omega)
        obtain ⟨rfl, -, rfl⟩ : A9 = some ⟨gh, 0, none⟩ ∧ n8 = n8 ∧ c9 = cap9 := by
          injection hgv with h1 h2 h3
          exact ⟨h1, rfl, h3⟩
        have HB9 := Lib.hid (((HB8.out.later hbr).more hbr.size).later hb15)
        clear hgv
        clear hcn hb15 hO9 HO8 hd m1 m2 m3 m4 m5 m6 m7 m8 m9 hbr
        go_wp2_with fail
        go_loopw [19, 89] (fun x iv wr2 => ∃ k2 : Nat, k2 ≤ 32 ∧ iv = .int .i64 k2 ∧ Hid (wr2.ownsRow wr.heap.size 5 1 (.slice (some ⟨gh, 0, none⟩) n8 c9) n8 ((q.l ++ Fra.aheadL q.l ++ Fra.layP at0 (Fra.hdL b.l ++ Fra.turnsL b.l d t k2)).map bv)) ∧ Below wr.heap.size W9 wr2) (fun _ iv _ => 32 - (intOf iv).toNat)
        case atStart => exact ⟨0, Nat.zero_le _, rfl, HO9, Below.refl _ _⟩
        case round =>
          obtain ⟨k2, hk2, rfl, HO2, hbr2⟩ := hrel
          rename World => wr2
          have hk0 : (0 : Int) ≤ (k2 : Int) := by omega
          by_cases hlt2 : k2 < 32
          · have hlt2' : ((k2 : Int) < 32) = True := eq_true (by omega)
            by_cases hbt : t / 2 ^ k2 % 2 = 1
            · have hb1 : (bits BinOp.and IntKind.u32 ((t : Int) / 2 ^ k2) 1 == 1) = true := by rw [u32_bit t k2 ht32, hbt]; rfl
              obtain ⟨P, hP⟩ : ∃ P, Fra.placeN at0 (Fra.encL b.l) (6 + (d + k2) / 8) = P := ⟨_, rfl⟩
              have hj8 : (d + k2) / 8 < b.n := by omega
              have hy : ∀ W, Below wr.heap.size W9 W → W.cell? ⟨gb, goff + 6 + (d + k2) / 8, none⟩ = some (.int .i64 (P : Int)) := fun W hW => by rw [← hP]; exact HPl.out W (Hb15.out.trans hW) _ hj8
              have w1 : IntKind.i64.wrap ((d : Int) + (k2 : Int)) = (d : Int) + (k2 : Int) := by rw [wrap_small _ (by omega)]
              have w2 : ((d : Int) + (k2 : Int)).tdiv 8 = ((d : Int) + (k2 : Int)) / 8 := Int.tdiv_eq_ediv_of_nonneg (by omega)
              have w3 : ((d : Int) + (k2 : Int)).tmod 8 = ((d : Int) + (k2 : Int)) % 8 := Int.tmod_eq_emod_of_nonneg (by omega)
              have w4 : ((d : Int) + (k2 : Int)) / 8 < (b.n : Int) := by omega
              have w5 : 0 ≤ ((d : Int) + (k2 : Int)) / 8 := by omega
              have w6 : (((d : Int) + (k2 : Int)) / 8).toNat = (d + k2) / 8 := by omega
              have w7 : IntKind.i64.wrap (((d : Int) + (k2 : Int)) / 8) = ((d : Int) + (k2 : Int)) / 8 := by rw [wrap_small _ (by omega)]
              have w8 : IntKind.i64.wrap (((d : Int) + (k2 : Int)) % 8) = ((d : Int) + (k2 : Int)) % 8 := by rw [wrap_small _ (by omega)]
              have w9 : 0 ≤ ((d : Int) + (k2 : Int)) % 8 := by omega
              obtain ⟨t1, t2, t3, t4⟩ := Fra.hurt_turn (q.l ++ Fra.aheadL q.l) (Fra.hdL b.l) b.l (Fra.turnsL b.l d t k2) at0 (d + k2) (by rw [Fra.piece_at q.l [], Hat.out]) (Fra.hd_len _) (Fra.turns_len _ _ _ _) (by rw [HB9.out.len]; exact hj8)
              rw [← Fra.hd_enc, hP] at t1 t2 t3 t4
              have hP8 : P < n8 := by have h := HO2.out.1; rw [List.length_map] at h; omega
              have p0 : (0 : Int) ≤ (P : Int) := by omega
              have p1 : (P : Int) < (n8 : Int) := by omega
              obtain ⟨u, hu⟩ : ∃ u, (Fra.turnsL b.l d t k2).getD ((d + k2) / 8) 0 = u := ⟨_, rfl⟩
              rw [hu] at t3 t4
              have own2 := own_later HO2.out (below_drewN (Below.refl wr2.heap.size wr2) 1)
              obtain ⟨b4, off4, e4, hb4, hc4⟩ := (Shows.own own2).2 (by omega)
              obtain ⟨rfl, rfl⟩ : gh = b4 ∧ 0 = off4 := by simpa using e4
              have hq4 := hc4 P (.int .u8 (u.toNat : Int)) (by
                rw [List.getElem?_map, List.getElem?_eq_getElem t2]
                rw [List.getD_eq_getElem?_getD, List.getElem?_eq_getElem t2] at t3
                rw [show (q.l ++ Fra.aheadL q.l ++ Fra.layP at0 (Fra.hdL b.l ++ Fra.turnsL b.l d t k2))[P] = u from t3]
                rfl)
              rw [Nat.zero_add] at hq4
              have hf4 := World.ownsRow.frozenAt own2 P
              have hq5 : wr2.cell? ⟨gh, P, none⟩ = some (.int .u8 (u.toNat : Int)) := hq4
              have hf5 : wr2.frozen? ⟨gh, P, none⟩ = false := hf4
              clear hq4 hf4
              have HT4 := Lib.hid t4
              have HOW := Lib.hid own2
              have Hbt := Lib.hid hbt
              have Hu := Lib.hid (show u = u from rfl)
              clear hP hbt t1 t2 t3 t4 hu own2 hc4 hb4 e4
              go_upto_region 26 with fail
              refine wp_region_held_drew (S := fun W => Below wr.heap.size W9 W) (by kernel_rfl) (below_drewN hbr2 1) (fun hHeld => ?_)
              refine rg_in 0 rfl (by kernel_rfl) (by kernel_rfl) (by kernel_rfl) (by rfl) (v := ?_) (fun _ _ _ h => h) hHeld (fun w hSw => ?_) ?_
              rotate_left
              · (try dsimp only at hSw); go_simp <;> (with_reducible rfl)
              (try simp only [Act.put, List.setIfInBounds_toArray, List.set_cons_zero, List.set_cons_succ])
              refine rg_in 1 rfl (by kernel_rfl) (by kernel_rfl) (by kernel_rfl) (by rfl) (v := ?_) (fun _ _ _ h => h) hHeld (fun w hSw => ?_) ?_
              rotate_left
              · (try dsimp only at hSw); go_simp <;> (with_reducible rfl)
              (try simp only [Act.put, List.setIfInBounds_toArray, List.set_cons_zero, List.set_cons_succ])
              refine rg_in 2 rfl (by kernel_rfl) (by kernel_rfl) (by kernel_rfl) (by rfl) (v := ?_) (fun _ _ _ h => h) hHeld (fun w hSw => ?_) ?_
              rotate_left
              · (try dsimp only at hSw); go_simp <;> (with_reducible rfl)
              (try simp only [Act.put, List.setIfInBounds_toArray, List.set_cons_zero, List.set_cons_succ])
              refine rg_in 3 rfl (by kernel_rfl) (by kernel_rfl) (by kernel_rfl) (by rfl) (v := ?_) (fun _ _ _ h => h) hHeld (fun w hSw => ?_) ?_
              rotate_left
              · (try dsimp only at hSw); go_simp <;> (with_reducible rfl)
              (try simp only [Act.put, List.setIfInBounds_toArray, List.set_cons_zero, List.set_cons_succ])
              refine rg_in 4 rfl (by kernel_rfl) (by kernel_rfl) (by kernel_rfl) (by rfl) (v := ?_) (fun _ _ _ h => h) hHeld (fun w hSw => ?_) ?_
              rotate_left
              · (try dsimp only at hSw); go_simp <;> (with_reducible rfl)
              (try simp only [Act.put, List.setIfInBounds_toArray, List.set_cons_zero, List.set_cons_succ])
              refine rg_in 5 rfl (by kernel_rfl) (by kernel_rfl) (by kernel_rfl) (by rfl) (v := ?_) (fun _ _ _ h => h) hHeld (fun w hSw => ?_) ?_
              rotate_left
              · (try dsimp only at hSw); go_simp <;> (with_reducible rfl)
              (try simp only [Act.put, List.setIfInBounds_toArray, List.set_cons_zero, List.set_cons_succ])
              refine rg_in 6 rfl (by kernel_rfl) (by kernel_rfl) (by kernel_rfl) (by rfl) (v := ?_) (fun _ _ _ h => h) hHeld (fun w hSw => ?_) ?_
              rotate_left
              · (try dsimp only at hSw); go_simp <;> (with_reducible rfl)
              (try simp only [Act.put, List.setIfInBounds_toArray, List.set_cons_zero, List.set_cons_succ])
              refine rg_in 7 rfl (by kernel_rfl) (by kernel_rfl) (by kernel_rfl) (by rfl) (v := ?_) (fun _ _ _ h => h) hHeld (fun w hSw => ?_) ?_
              rotate_left
              · (try dsimp only at hSw); go_simp <;> (with_reducible rfl)
              (try simp only [Act.put, List.setIfInBounds_toArray, List.set_cons_zero, List.set_cons_succ])
              refine rg_in 8 rfl (by kernel_rfl) (by kernel_rfl) (by kernel_rfl) (by rfl) (v := ?_) (fun _ _ _ h => h) hHeld (fun w hSw => ?_) ?_
              rotate_left
              · (try dsimp only at hSw); go_simp <;> (with_reducible rfl)
              (try simp only [Act.put, List.setIfInBounds_toArray, List.set_cons_zero, List.set_cons_succ])
              refine rg_in 10 rfl (by kernel_rfl) (by kernel_rfl) (by kernel_rfl) (by rfl) (v := ?_) (fun _ _ _ h => h) hHeld (fun w hSw => ?_) ?_
              rotate_left
              · (try dsimp only at hSw); go_simp <;> (with_reducible rfl)
              (try simp only [Act.put, List.setIfInBounds_toArray, List.set_cons_zero, List.set_cons_succ])
              refine rg_in 11 rfl (by kernel_rfl) (by kernel_rfl) (by kernel_rfl) (by rfl) (v := ?_) (fun _ _ _ h => h) hHeld (fun w hSw => ?_) ?_
              rotate_left
              · (try dsimp only at hSw); go_simp <;> (with_reducible rfl)
              (try simp only [Act.put, List.setIfInBounds_toArray, List.set_cons_zero, List.set_cons_succ])
              refine rg_in 12 rfl (by kernel_rfl) (by kernel_rfl) (by kernel_rfl) (by rfl) (v := ?_) (fun _ _ _ h => h) hHeld (fun w hSw => ?_) ?_
              rotate_left
              · (try dsimp only at hSw); go_simp <;> (with_reducible rfl)
              (try simp only [Act.put, List.setIfInBounds_toArray, List.set_cons_zero, List.set_cons_succ])
              refine rg_in 13 rfl (by kernel_rfl) (by kernel_rfl) (by kernel_rfl) (by rfl) (v := ?_) (fun _ _ _ h => h) hHeld (fun w hSw => ?_) ?_
              rotate_left
              · (try dsimp only at hSw); go_simp <;> (with_reducible rfl)
              (try simp only [Act.put, List.setIfInBounds_toArray, List.set_cons_zero, List.set_cons_succ])
              refine rg_in 14 rfl (by kernel_rfl) (by kernel_rfl) (by kernel_rfl) (by rfl) (v := ?_) (fun _ _ _ h => h) hHeld (fun w hSw => ?_) ?_
              rotate_left
              · (try dsimp only at hSw); go_simp <;> (with_reducible rfl)
              (try simp only [Act.put, List.setIfInBounds_toArray, List.set_cons_zero, List.set_cons_succ])
              refine rg_do 9 rfl (by kernel_rfl) (by rfl) (fun K hK => ?_)
              go_simp
              refine hK.out _ _ hHeld (fun hHeld => ?_)
              clear hK K
              (try simp only [Act.put, List.setIfInBounds_toArray, List.set_cons_zero, List.set_cons_succ])
              refine rg_in 15 rfl (by kernel_rfl) (by kernel_rfl) (by kernel_rfl) (by rfl) (v := ?_) (fun _ _ _ h => h) hHeld (fun w hSw => ?_) ?_
              rotate_left
              · (try dsimp only at hSw); go_simp <;> (with_reducible rfl)
              (try simp only [Act.put, List.setIfInBounds_toArray, List.set_cons_zero, List.set_cons_succ])
              refine rg_in 16 rfl (by kernel_rfl) (by kernel_rfl) (by kernel_rfl) (by rfl) (v := ?_) (fun _ _ _ h => h) hHeld (fun w hSw => ?_) ?_
              rotate_left
              · (try dsimp only at hSw); go_simp <;> (with_reducible rfl)
              (try simp only [Act.put, List.setIfInBounds_toArray, List.set_cons_zero, List.set_cons_succ])
              refine rg_do 17 rfl (by kernel_rfl) (by rfl) (fun K hK => ?_)
              go_simp
              refine hK.out _ _ (Below.setCell hHeld hgb _) (fun hHeld => ?_)
              clear hK K
              (try simp only [Act.put, List.setIfInBounds_toArray, List.set_cons_zero, List.set_cons_succ])
              refine wpAnyH_done (by kernel_rfl) ?_ _
              have hx8 : (((d : Int) + (k2 : Int)) % 8).toNat = (d + k2) % 8 := by omega
              have hxo := u8_turn u ((d + k2) % 8) (by omega)
              rw [← hx8] at hxo
              have HO3 := Lib.hid (show ((wr2.setCell ⟨gh, P, none⟩ (.int .u8 (bits BinOp.xor IntKind.u8 (u.toNat : Int) (IntKind.u8.wrap (2 ^ (((d : Int) + (k2 : Int)) % 8).toNat))))).drew).ownsRow wr.heap.size 5 1 (.slice (some ⟨gh, 0, none⟩) n8 c9) n8 ((q.l ++ Fra.aheadL q.l ++ Fra.layP at0 (Fra.hdL b.l ++ Fra.turnsL b.l d t (k2 + 1))).map bv) by
                rw [hxo, hx8]
                have h := (World.ownsRow.stored HO2.out P (bv (u ^^^ UInt8.ofNat (2 ^ ((d + k2) % 8))))).1
                rw [← List.map_set, HT4.out] at h
                rw [show Fra.turnsL b.l d t (k2 + 1) = Fra.turnL (Fra.turnsL b.l d t k2) (d + k2) by rw [Fra.turnsL, if_pos Hbt.out]]
                exact own_later h (below_drewN (Below.refl _ _) 1))
              have hbr3 := hHeld
              clear hHeld hq5 hf5 hx8 hxo w1 w2 w3 w4 w5 w6 w7 w8 w9 hy HOW HT4 HO2
              generalize (wr2.setCell ⟨gh, P, none⟩ (.int .u8 (bits BinOp.xor IntKind.u8 (u.toNat : Int) (IntKind.u8.wrap (2 ^ (((d : Int) + (k2 : Int)) % 8).toNat))))).drew = wr3 at *
              go_wp2
              go_roundw
              case rel => exact ⟨k2 + 1, by omega, by go_num, HO3, hbr3⟩
              case measure => simp [intOf]; omega
            · have hb1 : (bits BinOp.and IntKind.u32 ((t : Int) / 2 ^ k2) 1 == 1) = false := by
                rw [u32_bit t k2 ht32, show t / 2 ^ k2 % 2 = 0 by omega]; rfl
              have HO3 := Lib.hid (show wr2.ownsRow wr.heap.size 5 1 (.slice (some ⟨gh, 0, none⟩) n8 c9) n8 ((q.l ++ Fra.aheadL q.l ++ Fra.layP at0 (Fra.hdL b.l ++ Fra.turnsL b.l d t (k2 + 1))).map bv) by
                rw [show Fra.turnsL b.l d t (k2 + 1) = Fra.turnsL b.l d t k2 by rw [Fra.turnsL, if_neg hbt]]
                exact HO2.out)
              clear hbt HO2
              go_wp2_with fail
              go_roundw
              case rel => exact ⟨k2 + 1, by omega, by go_num, HO3, hbr2⟩
              case measure => simp [intOf]; omega
          · obtain rfl : k2 = 32 := by omega
            have hlt2' : ((((32 : Nat) : Int)) < 32) = False := eq_false (by omega)
            obtain ⟨H, hH⟩ : ∃ H, q.l ++ Fra.aheadL q.l ++ Fra.layP at0 (Fra.hdL b.l ++ Fra.turnsL b.l d t 32) = H := ⟨_, rfl⟩
            have hbl : b.l.length = b.n := HB9.out.len
            have hno : Fra.getL H at0 = none := by
              rw [← hH, ← Hat.out]
              exact Fra.get_hurt q.l b.l _ (Fra.turns_len _ _ _ _) (by omega) (by omega) (Fra.turned_out ht32 Ht0.out (by rw [hbl]; exact hdb))
            have hO2 := HO2.out
            rw [hH] at hO2
            obtain ⟨q1, q2, q3⟩ := own_facts hO2
            have hph : PcT.Ok wr2 wr2.heap.size ⟨some ⟨gh, 0, none⟩, n8, c9, H⟩ := ⟨Bytes.own hO2, q1, q2, q3⟩
            have HPH := Lib.hid hph
            have hHl : H.length = n8 := hph.len
            have hat8 : at0 < n8 := by
              have h1 := HL.out
              have h2 := (Fra.layP_ge (Fra.encL b.l) at0).1
              rw [Fra.encL_len] at h2
              omega
            have hat64 : at0 % 64 ≠ 0 := by rw [← Hat.out]; exact Fra.atN_in q.l
            have HO8y := Lib.hid (own_later HO8w.out (Hb15.out.trans hbr2))
            have hbz := hb16.trans (hbr2.mono hbw.size)
            have hfi := firm_any ⟨some ⟨gh, 0, none⟩, n8, c9, H⟩ wr2
            clear HO2 hO2 q1 q2 q3 hH hph
            go_wp2_with fail
            refine hfi.mono ?_
            rintro e W10 ⟨rfl, hb20⟩
            have hph2 := (HPH.out.later hb20).more hb20.size
            have hbz2 := bel_next hbz hb20
            have hge := getS (firmF ⟨some ⟨gh, 0, none⟩, n8, c9, H⟩) at0 H none W10 (htab.below hbz2 htab.lt) (firm_lie hph2) (firm_all _) (firm_right hph2 (show n8 ≤ 524288 by omega)) (by rw [hHl]; exact hat8) hat64 hno
            have HO8z := Lib.hid (own_later HO8y.out hb20)
            simp only [firmF, FileT.agg, PcT.val] at hge ⊢
            clear hfi hph2 HPH HO8y hbz hb20 hHl hno
            go_wp2_with fail
            refine hge.mono ?_
            rintro e W11 ⟨hb21, ⟨-, rfl⟩ | ⟨p, nx, hno, -⟩⟩
            · clear hge
              have HO8a := Lib.hid (own_later HO8z.out hb21)
              have hbz3 := bel_next hbz2 hb21
              clear HO8z hbz2 hb21
              obtain ⟨mk, hmk⟩ : ∃ mk, at0 - at0 % 64 = mk := ⟨_, rfl⟩
              have x1 : (at0 : Int) - (at0 : Int) % 64 = (mk : Int) := by omega
              have x2 : (at0 : Int) - (at0 : Int).tmod 64 = (mk : Int) := by rw [Int.tmod_eq_emod_of_nonneg (by omega)]; omega
              have hmn : mk < n8 := by omega
              have x3 : (mk : Int) < (n8 : Int) := by omega
              have x4 : (0 : Int) ≤ (mk : Int) := by omega
              obtain ⟨v, hv⟩ : ∃ v, 1 + t % 255 = v := ⟨_, rfl⟩
              have hv1 : 1 ≤ v ∧ v ≤ 255 := by omega
              have x5 : (1 : Int) + (t : Int) % 255 = (v : Int) := by omega
              have x6 : (1 : Int) + (t : Int).tmod 255 = (v : Int) := by rw [Int.tmod_eq_emod_of_nonneg (by omega)]; omega
              have x7 : IntKind.u32.wrap (v : Int) = (v : Int) := by
                have : IntKind.u32.wrap (v : Int) = (v : Int) % 4294967296 := by simp [IntKind.wrap, IntKind.bits, IntKind.signed]
                rw [this]; omega
              have x8 : IntKind.u8.wrap (v : Int) = (v : Int) := by
                have : IntKind.u8.wrap (v : Int) = (v : Int) % 256 := by simp [IntKind.wrap, IntKind.bits, IntKind.signed]
                rw [this]; omega
              obtain ⟨g8, cap8, hgv, hgb8, _⟩ := HO8a.out.form (by omega)
              obtain ⟨⟨rfl, rfl⟩, rfl⟩ : (a8b = g8 ∧ a8o = 0) ∧ c8 = cap8 := by
                rw [hA8] at hgv
                injection hgv with h1 h2 h3
                injection h1 with h1
                injection h1 with h1 h4
                exact ⟨⟨h1, h4⟩, h3⟩
              rw [hA8] at HO8a
              obtain ⟨b4, off4, e4, hb4, hc4⟩ := (Shows.own HO8a.out).2 (by omega)
              obtain ⟨rfl, rfl⟩ : a8b = b4 ∧ 0 = off4 := by simpa using e4
              have hAl : (q.l ++ pc).length = n8 := by have h := HO8a.out.1; rw [List.length_map] at h; omega
              have hq4 := hc4 mk (bv ((q.l ++ pc)[mk]'(by omega))) (by rw [List.getElem?_map, List.getElem?_eq_getElem (by omega)]; rfl)
              rw [Nat.zero_add] at hq4
              unfold bv at hq4
              have hf4 := World.ownsRow.frozenAt HO8a.out mk
              have HO8b := Lib.hid (show (W11.setCell ⟨a8b, mk, none⟩ (.int .u8 (v : Int))).ownsRow W7.heap.size 5 1 (.slice (some ⟨a8b, 0, none⟩) n8 c8) n8 (((q.l ++ pc).set mk (UInt8.ofNat v)).map bv) by
                have h := (World.ownsRow.stored HO8a.out mk (bv (UInt8.ofNat v))).1
                rw [← List.map_set] at h
                rw [show Value.int .u8 (v : Int) = bv (UInt8.ofNat v) by unfold bv; rw [UInt8.toNat_ofNat', Nat.mod_eq_of_lt (by omega)]]
                exact h)
              have hno2 : Fra.getL ((q.l ++ pc).set mk (UInt8.ofNat v)) at0 = none := by
                apply Fra.get_marked
                rw [hmk, List.getD_eq_getElem?_getD, List.getElem?_set_self (by omega)]
                intro e
                have h := congrArg UInt8.toNat e
                rw [Option.getD_some, UInt8.toNat_ofNat', Nat.mod_eq_of_lt (by omega)] at h
                have : (0 : UInt8).toNat = 0 := rfl
                omega
              have hbz4 : Below w.heap.size w (W11.setCell ⟨a8b, mk, none⟩ (.int .u8 (v : Int))) := Below.setCell hbz3 (p := ⟨a8b, mk, none⟩) (show w.heap.size ≤ a8b by omega) (.int .u8 (v : Int))
              have hfi := fun W => firm_any ⟨some ⟨a8b, 0, none⟩, n8, c8, (q.l ++ pc).set mk (UInt8.ofNat v)⟩ W
              have hne1 : ((210 : Int) != 210) = false := by decide
              clear HO8a hc4 hb4 e4 hgv hgb8 hmk hv
              go_upto_region 33 with fail
              generalize W11.setCell ⟨a8b, mk, none⟩ (.int .u8 (v : Int)) = W12 at *
              go_wp2_with fail
              refine (hfi _).mono ?_
              rintro e W13 ⟨rfl, hb22⟩
              have hbz5 := bel_next hbz4 hb22
              have hO13 := own_later HO8b.out hb22
              obtain ⟨q1, q2, q3⟩ := own_facts hO13
              have hge := getS (firmF ⟨some ⟨a8b, 0, none⟩, n8, c8, (q.l ++ pc).set mk (UInt8.ofNat v)⟩) at0 _ none W13 (htab.below hbz5 htab.lt) (firm_lie ⟨Bytes.own hO13, q1, q2, q3⟩) (firm_all _) (firm_right (w := W13) ⟨Bytes.own hO13, q1, q2, q3⟩ (show n8 ≤ 524288 by omega)) (by rw [List.length_set, hAl]; exact hat8) hat64 hno2
              simp only [firmF, FileT.agg, PcT.val] at hge ⊢
              clear hfi hO13 q1 q2 q3 HO8b hbz4 hb22 hno2 hq4 hf4
              go_wp2_with fail
              refine hge.mono ?_
              rintro e W14 ⟨hb23, ⟨-, rfl⟩ | ⟨p, nx, hno, -⟩⟩
              · have hbz6 := bel_next hbz5 hb23
                clear hge
                go_wp2
                go_ret
                exact ⟨rfl, hbz6⟩
              · cases hno
            · cases hno
end Go.Proofs.YtghmehfmchadoaaDoor
