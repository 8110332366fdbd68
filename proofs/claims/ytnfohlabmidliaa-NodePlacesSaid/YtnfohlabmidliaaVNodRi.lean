import Derived.Test.YtnfohlabmidliaaVNodAc
import Derived.Test.YtnfohlabmidliaaVNodRa
import Derived.Test.YtnfohlabmidliaaGah
import Derived.Test.YtnfohlabmidliaaGak
/-
  The reference's Place.
-/
namespace Go.Proofs.Ytnfohlabmidliaa
open Go.RowKit
set_option linter.unusedVariables false
set_option linter.unusedSimpArgs false

set_option maxRecDepth 20000 in
set_option maxHeartbeats 4000000 in
theorem rPlace_leaf (X : NoT) (q : PcT) (B : Nat) (w : World) (hX : LieN w B X) (hq : q.Ok w B) (hB : B ≤ w.heap.size) (hlf : X.leaf = true) (hok : X.okB = true) :
    Calls Try.prog 29 #[X.agg, .slice q.A q.n q.c] w fun e w' => e = .returned (.tuple #[.int .i64 (X.plAt q.l : Nat), .bool (X.isAt q.l)]) ∧ Below w.heap.size w w' := by
  have hb := bel_alloc (Below.refl w.heap.size w) (.cells #[.bool X.leaf, .slice X.iA X.iN X.iC, .slice X.kA X.kN X.kC] 25)
  have hn := NBox.new w (.bool X.leaf) (.slice X.iA X.iN X.iC) (.slice X.kA X.kN X.kC) 25
  have hagg : X.agg = .agg #[.bool X.leaf, .slice X.iA X.iN X.iC, .slice X.kA X.kN X.kC] := rfl
  obtain ⟨hsh, hru, -⟩ := okB_parts hok
  have HRU := Lib.hid hru
  have hXL := hX.later (hb.mono hB)
  have hqL := hq.later (hb.mono hB)
  have hen : X.ents = X.I.map .it := by unfold NoT.ents; rw [hlf]; rfl
  have HE := Lib.hid hen
  have HLF := Lib.hid hlf
  have hlen : X.ents.length = X.iN := by rw [hen, List.length_map]; exact hX.ilen
  have hshp : X.shape = decide (X.kN = 0 ∧ 1 ≤ X.iN ∧ X.iN ≤ 6) := by unfold NoT.shape; rw [hlf]; rfl
  have h3 : X.kN = 0 ∧ 1 ≤ X.iN ∧ X.iN ≤ 6 := of_decide_eq_true (hshp.symm.trans hsh)
  obtain ⟨h30, h31, h36⟩ := h3
  obtain ⟨pl, hpl⟩ : ∃ p, X.plAt q.l = p := ⟨_, rfl⟩
  obtain ⟨is, his⟩ : ∃ p, X.isAt q.l = p := ⟨_, rfl⟩
  rw [hpl, his, hagg]
  have HPL := Lib.hid hpl
  have HIS := Lib.hid his
  rw [hlf, h30] at hb hn hXL hqL ⊢
  obtain ⟨N, hN⟩ : ∃ N, X.iN = N := ⟨_, rfl⟩
  have HNN := Lib.hid hN
  rw [hN] at h31 h36 hb hn hXL hqL ⊢
  have HLEN := Lib.hid (hlen.trans hN)
  have HN := Lib.hid hn
  have HX := Lib.hid hXL
  have HQ := Lib.hid hqL
  clear hXL hX hq hqL hagg hen hlf hlen hshp hsh h30 hN hru hpl his hok
  obtain ⟨⟨m0, m1, m2⟩, -⟩ := hn
  go_enter Try.func29, Try.ntmps29
  go_upto_region 3 with fail
  generalize w.alloc (.cells #[.bool true, .slice X.iA N X.iC, .slice X.kA 0 X.kC] 25) = W1 at *
  have hsz := hb.size
  go_wp2_with fail
  go_loopw [6, 7, 8] (fun a b y wr => ∃ (i at' : Nat) (b' : Bool), i ≤ N ∧ y = .int .i64 i ∧ a = .int .i64 at' ∧ b = .bool b' ∧ at' ≤ i ∧ Hid (at' = min i (lessN X.ents q.l)) ∧ Hid (b' = (decide (lessN X.ents q.l < i) && is)) ∧ Below W1.heap.size W1 wr) (fun _ _ y _ => N - (intOf y).toNat)
  case atStart => exact ⟨0, 0, false, Nat.zero_le _, rfl, rfl, rfl, Nat.le_refl _, Lib.hid (by rw [Nat.zero_min]), Lib.hid (by rw [decide_eq_false (by omega)]; rfl), Below.refl _ _⟩
  case round =>
    clear m0 m1 m2
    obtain ⟨i, at', b', hi, rfl, rfl, rfl, hat, HAT, HB, hbr⟩ := hrel
    obtain ⟨⟨m0, m1, m2⟩, -⟩ := HN.out.later hbr
    have hsr := hbr.size
    by_cases hlt : i < N
    · have hXr := HX.out.later (hbr.mono (Nat.le_trans hB hsz))
      have hqr := HQ.out.later (hbr.mono (Nat.le_trans hB hsz))
      obtain ⟨b1, f1, x, hxA, hb1, hx, x0, x1, x2, x3⟩ := it_at hXr.irow (show i < X.iN by rw [HNN.out]; exact hlt)
      have HXA5 := Lib.hid hxA
      rw [hxA] at m1
      have hxe : X.ents[i]? = some (.it x) := by rw [HE.out, List.getElem?_map, hx]; rfl
      have hxo := hXr.items x (List.mem_of_getElem? hx)
      have hlt' : (i : Int) < (N : Int) := by omega
      have hi0 : (0 : Int) ≤ (i : Int) := by omega
      have hBr := Nat.le_trans hB (Nat.le_trans hsz hsr)
      have hcA := ahead_any x.k.A q.A x.k.n x.k.c q.n q.c x.k.l q.l B B wr hxo.key.here hqr.here (Nat.le_trans hxo.key.fits hxo.key.most)
      obtain ⟨d, hd⟩ : ∃ d, ltB x.k.l q.l = d := ⟨_, rfl⟩
      rw [hd] at hcA
      have hitx : x.k.l = q.l ↔ (i = lessN X.ents q.l ∧ is = true) := by rw [← HIS.out]; exact hit_iff HRU.out hxe
      have hnext : Hid ((b' || sameB x.k.l q.l) = (decide (lessN X.ents q.l < i + 1) && is)) := Lib.hid (by
        rw [HB.out]
        by_cases hh : x.k.l = q.l
        · obtain ⟨e1, e2⟩ := hitx.1 hh
          rw [sameB_iff.2 hh, e2, decide_eq_true (show lessN X.ents q.l < i + 1 by omega), Bool.or_true]
          rfl
        · have hs : sameB x.k.l q.l = false := by
            cases hv : sameB x.k.l q.l
            · rfl
            · exact absurd (sameB_iff.1 hv) hh
          rw [hs, Bool.or_false]
          cases hv : is
          · rw [Bool.and_false, Bool.and_false]
          · rw [Bool.and_true, Bool.and_true, Bool.eq_iff_iff, decide_eq_true_iff, decide_eq_true_iff]
            have : ¬ i = lessN X.ents q.l := fun h => hh (hitx.2 ⟨h, hv⟩)
            omega)
      have hatd : d = true ↔ i < lessN X.ents q.l := by
        have h1 := less_iff _ _ q.l HRU.out i _ hxe
        rw [h1, ← hd]
        unfold ltB
        rw [decide_eq_true_iff]
        show cmpL x.k.l q.l < 0 ↔ 0 < cmpL q.l x.k.l
        rw [cmpL_turn q.l x.k.l]
        omega
      have HNX : Hid (if d = true then i + 1 = min (i + 1) (lessN X.ents q.l) else at' = min (i + 1) (lessN X.ents q.l)) := Lib.hid (by
        rw [HAT.out]
        split
        · next h => have := hatd.1 h; omega
        · next h => have : ¬ _ := fun h' => h (hatd.2 h'); omega)
      have x0' := fun W (h : Below wr.heap.size wr W) => mkept_later h x0
      have k1 := fun W (h : Below wr.heap.size wr W) => run_bytes_string (P := Try.prog) Try.underlying32 Try.underlying5 Try.underlying9 W x.k.A x.k.n x.k.c B x.k.l (hxo.key.later (h.mono hBr)).here
      have k2 := fun W (h : Below wr.heap.size wr W) => run_bytes_string (P := Try.prog) Try.underlying32 Try.underlying5 Try.underlying9 W q.A q.n q.c B q.l (hqr.later (h.mono hBr)).here
      have t1 := bofL_beq x.k.l q.l
      generalize sameB x.k.l q.l = sm at *
      generalize ofL x.k.l = s1 at *
      generalize ofL q.l = s2 at *
      have HQB := Lib.hid hbr
      clear hXr hqr hxo hxe hx hitx hatd hd hi HB HAT hbr x1 x2 x3 hxA
      cases d
      · have HNA : Hid (at' = min (i + 1) (lessN X.ents q.l)) := Lib.hid (by have := HNX.out; rw [if_neg (by decide)] at this; exact this)
        clear HNX
        go_wp2_with fail
        refine hcA.mono ?_
        rintro e w5 ⟨rfl, hb5⟩
        have hx5 := x0' w5 hb5
        have hx5d := x0' _ hb5.drew
        have k15 := k1 _ hb5.drew
        have k25 := k2 _ hb5.drew
        obtain ⟨⟨m0, m1, m2⟩, -⟩ := HN.out.later (HQB.out.trans (hb5.mono hsr))
        have hbq := HQB.out.trans (hb5.mono hsr)
        rw [HXA5.out] at m1
        clear hcA x0' k1 k2
        go_upto_region 7 with fail
        cases b'
        · cases sm
          · have HNB : Hid (false = (decide (lessN X.ents q.l < i + 1) && is)) := hnext
            clear hnext
            go_region
            go_wp2_with fail
            go_roundw
            case rel => first | exact ⟨i + 1, at', false, by omega, by go_num, by first | rfl | go_num, rfl, by omega, HNA, HNB, hbq.drew⟩ | exact ⟨_, ⟨i + 1, at', false, by omega, by go_num, by first | rfl | go_num, rfl, by omega, HNA, HNB, hbq.drew⟩, rfl⟩ | exact ⟨_, _, ⟨i + 1, at', false, by omega, by go_num, by first | rfl | go_num, rfl, by omega, HNA, HNB, hbq.drew⟩, rfl, rfl⟩
            case measure => simp [intOf]; omega
          · have HNB : Hid (true = (decide (lessN X.ents q.l < i + 1) && is)) := hnext
            clear hnext
            go_region
            go_wp2_with fail
            go_roundw
            case rel => first | exact ⟨i + 1, at', true, by omega, by go_num, by first | rfl | go_num, rfl, by omega, HNA, HNB, hbq.drew⟩ | exact ⟨_, ⟨i + 1, at', true, by omega, by go_num, by first | rfl | go_num, rfl, by omega, HNA, HNB, hbq.drew⟩, rfl⟩ | exact ⟨_, _, ⟨i + 1, at', true, by omega, by go_num, by first | rfl | go_num, rfl, by omega, HNA, HNB, hbq.drew⟩, rfl, rfl⟩
            case measure => simp [intOf]; omega
        · have HNB : Hid (true = (decide (lessN X.ents q.l < i + 1) && is)) := Lib.hid (by have := hnext.out; rw [Bool.true_or] at this; exact this)
          clear hnext
          go_region
          go_wp2_with fail
          go_roundw
          case rel => first | exact ⟨i + 1, at', true, by omega, by go_num, by first | rfl | go_num, rfl, by omega, HNA, HNB, hbq.drew⟩ | exact ⟨_, ⟨i + 1, at', true, by omega, by go_num, by first | rfl | go_num, rfl, by omega, HNA, HNB, hbq.drew⟩, rfl⟩ | exact ⟨_, _, ⟨i + 1, at', true, by omega, by go_num, by first | rfl | go_num, rfl, by omega, HNA, HNB, hbq.drew⟩, rfl, rfl⟩
          case measure => simp [intOf]; omega
      · have HNA : Hid (i + 1 = min (i + 1) (lessN X.ents q.l)) := Lib.hid (by have := HNX.out; rw [if_pos rfl] at this; exact this)
        clear HNX
        go_wp2_with fail
        refine hcA.mono ?_
        rintro e w5 ⟨rfl, hb5⟩
        have hx5 := x0' w5 hb5
        have hx5d := x0' _ hb5.drew
        have k15 := k1 _ hb5.drew
        have k25 := k2 _ hb5.drew
        obtain ⟨⟨m0, m1, m2⟩, -⟩ := HN.out.later (HQB.out.trans (hb5.mono hsr))
        have hbq := HQB.out.trans (hb5.mono hsr)
        rw [HXA5.out] at m1
        clear hcA x0' k1 k2
        go_upto_region 7 with fail
        cases b'
        · cases sm
          · have HNB : Hid (false = (decide (lessN X.ents q.l < i + 1) && is)) := hnext
            clear hnext
            go_region
            go_wp2_with fail
            go_roundw
            case rel => first | exact ⟨i + 1, i + 1, false, by omega, by go_num, by first | rfl | go_num, rfl, by omega, HNA, HNB, hbq.drew⟩ | exact ⟨_, ⟨i + 1, i + 1, false, by omega, by go_num, by first | rfl | go_num, rfl, by omega, HNA, HNB, hbq.drew⟩, rfl⟩ | exact ⟨_, _, ⟨i + 1, i + 1, false, by omega, by go_num, by first | rfl | go_num, rfl, by omega, HNA, HNB, hbq.drew⟩, rfl, rfl⟩
            case measure => simp [intOf]; omega
          · have HNB : Hid (true = (decide (lessN X.ents q.l < i + 1) && is)) := hnext
            clear hnext
            go_region
            go_wp2_with fail
            go_roundw
            case rel => first | exact ⟨i + 1, i + 1, true, by omega, by go_num, by first | rfl | go_num, rfl, by omega, HNA, HNB, hbq.drew⟩ | exact ⟨_, ⟨i + 1, i + 1, true, by omega, by go_num, by first | rfl | go_num, rfl, by omega, HNA, HNB, hbq.drew⟩, rfl⟩ | exact ⟨_, _, ⟨i + 1, i + 1, true, by omega, by go_num, by first | rfl | go_num, rfl, by omega, HNA, HNB, hbq.drew⟩, rfl, rfl⟩
            case measure => simp [intOf]; omega
        · have HNB : Hid (true = (decide (lessN X.ents q.l < i + 1) && is)) := Lib.hid (by have := hnext.out; rw [Bool.true_or] at this; exact this)
          clear hnext
          go_region
          go_wp2_with fail
          go_roundw
          case rel => first | exact ⟨i + 1, i + 1, true, by omega, by go_num, by first | rfl | go_num, rfl, by omega, HNA, HNB, hbq.drew⟩ | exact ⟨_, ⟨i + 1, i + 1, true, by omega, by go_num, by first | rfl | go_num, rfl, by omega, HNA, HNB, hbq.drew⟩, rfl⟩ | exact ⟨_, _, ⟨i + 1, i + 1, true, by omega, by go_num, by first | rfl | go_num, rfl, by omega, HNA, HNB, hbq.drew⟩, rfl, rfl⟩
          case measure => simp [intOf]; omega
    · obtain rfl : N = i := by omega
      have hm := less_le X.ents q.l
      rw [HLEN.out] at hm
      have hfa : at' = pl := by rw [HAT.out, ← HPL.out, plAt_leaf HLF.out]; omega
      have hfb : b' = is := by
        rw [HB.out]
        cases hv : is
        · rw [Bool.and_false]
        · obtain ⟨y, hy, _⟩ := is_lt (HIS.out.trans hv)
          have := (List.getElem?_eq_some_iff.1 hy).1
          rw [HLEN.out] at this
          rw [decide_eq_true this]
          rfl
      subst hfa hfb
      have hbz := hb.trans (hbr.mono hsz)
      have HBZ := Lib.hid hbz
      clear hlt HAT HB hm hi hat
      go_wp2_with fail
      go_loopw [6, 7, 9] (fun a b y wx => a = .int .i64 at' ∧ b = .bool b' ∧ y = .int .i64 0 ∧ wr = wx) (fun _ _ _ _ => 0)
      case atStart => exact ⟨rfl, rfl, rfl, rfl⟩
      case round =>
        obtain ⟨rfl, rfl, rfl, rfl⟩ := hrel
        go_wp2
        go_ret2
        exact ⟨rfl, HBZ.out⟩
set_option maxRecDepth 20000 in
set_option maxHeartbeats 4000000 in
theorem rPlace_inner (X : NoT) (q : PcT) (B : Nat) (w : World) (hX : LieN w B X) (hq : q.Ok w B) (hB : B ≤ w.heap.size) (hlf : X.leaf = false) (hok : X.okB = true) :
    Calls Try.prog 29 #[X.agg, .slice q.A q.n q.c] w fun e w' => e = .returned (.tuple #[.int .i64 (X.plAt q.l : Nat), .bool (X.isAt q.l)]) ∧ Below w.heap.size w w' := by
  have hb := bel_alloc (Below.refl w.heap.size w) (.cells #[.bool X.leaf, .slice X.iA X.iN X.iC, .slice X.kA X.kN X.kC] 25)
  have hn := NBox.new w (.bool X.leaf) (.slice X.iA X.iN X.iC) (.slice X.kA X.kN X.kC) 25
  have hagg : X.agg = .agg #[.bool X.leaf, .slice X.iA X.iN X.iC, .slice X.kA X.kN X.kC] := rfl
  obtain ⟨hsh, hru, -⟩ := okB_parts hok
  have HRU := Lib.hid hru
  have hXL := hX.later (hb.mono hB)
  have hqL := hq.later (hb.mono hB)
  have hen : X.ents = X.K.map .ki := by unfold NoT.ents; rw [hlf]; rfl
  have HE := Lib.hid hen
  have HLF := Lib.hid hlf
  have hlen : X.ents.length = X.kN := by rw [hen, List.length_map]; exact hX.klen
  have hshp : X.shape = decide (X.iN = 0 ∧ 2 ≤ X.kN ∧ X.kN ≤ 6) := by unfold NoT.shape; rw [hlf]; rfl
  have h3 : X.iN = 0 ∧ 2 ≤ X.kN ∧ X.kN ≤ 6 := of_decide_eq_true (hshp.symm.trans hsh)
  obtain ⟨h30, h31, h36⟩ := h3
  obtain ⟨pl, hpl⟩ : ∃ p, X.plAt q.l = p := ⟨_, rfl⟩
  obtain ⟨is, his⟩ : ∃ p, X.isAt q.l = p := ⟨_, rfl⟩
  rw [hpl, his, hagg]
  have HPL := Lib.hid hpl
  have HIS := Lib.hid his
  rw [hlf, h30] at hb hn hXL hqL ⊢
  obtain ⟨N, hN⟩ : ∃ N, X.kN = N := ⟨_, rfl⟩
  have HNN := Lib.hid hN
  rw [hN] at h31 h36 hb hn hXL hqL ⊢
  have HLEN := Lib.hid (hlen.trans hN)
  have HN := Lib.hid hn
  have HX := Lib.hid hXL
  have HQ := Lib.hid hqL
  clear hXL hX hq hqL hagg hen hlf hlen hshp hsh h30 hN hru hpl his hok
  obtain ⟨⟨m0, m1, m2⟩, -⟩ := hn
  go_enter Try.func29, Try.ntmps29
  go_upto_region 3 with fail
  generalize w.alloc (.cells #[.bool false, .slice X.iA 0 X.iC, .slice X.kA N X.kC] 25) = W1 at *
  have hsz := hb.size
  go_wp2_with fail
  go_loopw [6, 7, 8] (fun a b y wr => a = .int .i64 0 ∧ b = .bool false ∧ y = .int .i64 0 ∧ W1 = wr) (fun _ _ _ _ => 0)
  case atStart => exact ⟨rfl, rfl, rfl, rfl⟩
  case round =>
    obtain ⟨rfl, rfl, rfl, rfl⟩ := hrel
    go_wp2_with fail
    go_loopw [6, 7, 9] (fun a b y wr => ∃ (i at' : Nat) (b' : Bool), i ≤ N ∧ y = .int .i64 i ∧ a = .int .i64 at' ∧ b = .bool b' ∧ at' ≤ i ∧ Hid (at' = min i (X.upTo q.l) - 1) ∧ Hid (b' = (decide (lessN X.ents q.l < i) && is)) ∧ Below W1.heap.size W1 wr) (fun _ _ y _ => N - (intOf y).toNat)
    case atStart => exact ⟨0, 0, false, Nat.zero_le _, rfl, rfl, rfl, Nat.le_refl _, Lib.hid (by rw [Nat.zero_min]), Lib.hid (by rw [decide_eq_false (by omega)]; rfl), Below.refl _ _⟩
    case round =>
      clear m0 m1 m2
      obtain ⟨i, at', b', hi, rfl, rfl, rfl, hat, HAT, HB, hbr⟩ := hrel
      obtain ⟨⟨m0, m1, m2⟩, -⟩ := HN.out.later hbr
      have hsr := hbr.size
      by_cases hlt : i < N
      · have hXr := HX.out.later (hbr.mono (Nat.le_trans hB hsz))
        have hqr := HQ.out.later (hbr.mono (Nat.le_trans hB hsz))
        obtain ⟨b1, f1, x, hxA, hb1, hx, x0, x1, x2, x3, x4, x5, x6, x7⟩ := ki_at hXr.krow (show i < X.kN by rw [HNN.out]; exact hlt)
        have HXA5 := Lib.hid hxA
        rw [hxA] at m2
        have hxe : X.ents[i]? = some (.ki x) := by rw [HE.out, List.getElem?_map, hx]; rfl
        have hxo := hXr.kids x (List.mem_of_getElem? hx)
        have hlt' : (i : Int) < (N : Int) := by omega
        have hi0 : (0 : Int) ≤ (i : Int) := by omega
        have hBr := Nat.le_trans hB (Nat.le_trans hsz hsr)
        have hcA := ahead_any q.A x.k.A q.n q.c x.k.n x.k.c q.l x.k.l B B wr hqr.here hxo.key.here (Nat.le_trans hqr.fits hqr.most)
        obtain ⟨d, hd⟩ : ∃ d, ltB q.l x.k.l = d := ⟨_, rfl⟩
        rw [hd] at hcA
        have hitx : x.k.l = q.l ↔ (i = lessN X.ents q.l ∧ is = true) := by rw [← HIS.out]; exact hit_iff HRU.out hxe
        have hnext : Hid ((b' || sameB x.k.l q.l) = (decide (lessN X.ents q.l < i + 1) && is)) := Lib.hid (by
          rw [HB.out]
          by_cases hh : x.k.l = q.l
          · obtain ⟨e1, e2⟩ := hitx.1 hh
            rw [sameB_iff.2 hh, e2, decide_eq_true (show lessN X.ents q.l < i + 1 by omega), Bool.or_true]
            rfl
          · have hs : sameB x.k.l q.l = false := by
              cases hv : sameB x.k.l q.l
              · rfl
              · exact absurd (sameB_iff.1 hv) hh
            rw [hs, Bool.or_false]
            cases hv : is
            · rw [Bool.and_false, Bool.and_false]
            · rw [Bool.and_true, Bool.and_true, Bool.eq_iff_iff, decide_eq_true_iff, decide_eq_true_iff]
              have : ¬ i = lessN X.ents q.l := fun h => hh (hitx.2 ⟨h, hv⟩)
              omega)
        have hatd : d = false ↔ i < X.upTo q.l := by rw [← hd]; exact upto_iff HRU.out hxe
        have HNX : Hid (if d = false then i = min (i + 1) (X.upTo q.l) - 1 else at' = min (i + 1) (X.upTo q.l) - 1) := Lib.hid (by
          rw [HAT.out]
          split
          · next h => have := hatd.1 h; omega
          · next h => have : ¬ _ := fun h' => h (hatd.2 h'); omega)
        have x0' := fun W (h : Below wr.heap.size wr W) => mkept_later h x0
        have k1 := fun W (h : Below wr.heap.size wr W) => run_bytes_string (P := Try.prog) Try.underlying32 Try.underlying5 Try.underlying9 W x.k.A x.k.n x.k.c B x.k.l (hxo.key.later (h.mono hBr)).here
        have k2 := fun W (h : Below wr.heap.size wr W) => run_bytes_string (P := Try.prog) Try.underlying32 Try.underlying5 Try.underlying9 W q.A q.n q.c B q.l (hqr.later (h.mono hBr)).here
        have t1 := bofL_beq x.k.l q.l
        generalize sameB x.k.l q.l = sm at *
        generalize ofL x.k.l = s1 at *
        generalize ofL q.l = s2 at *
        have HQB := Lib.hid hbr
        clear hXr hqr hxo hxe hx hitx hatd hd hi HB HAT hbr x1 x2 x3 x4 x5 x6 x7 hxA
        cases d
        · have HNA : Hid (i = min (i + 1) (X.upTo q.l) - 1) := Lib.hid (by have := HNX.out; rw [if_pos rfl] at this; exact this)
          clear HNX
          go_wp2_with fail
          refine hcA.mono ?_
          rintro e w5 ⟨rfl, hb5⟩
          have hx5 := x0' w5 hb5
          have hx5d := x0' _ hb5.drew
          have k15 := k1 _ hb5.drew
          have k25 := k2 _ hb5.drew
          obtain ⟨⟨m0, m1, m2⟩, -⟩ := HN.out.later (HQB.out.trans (hb5.mono hsr))
          have hbq := HQB.out.trans (hb5.mono hsr)
          rw [HXA5.out] at m2
          clear hcA x0' k1 k2
          go_upto_region 13 with fail
          cases b'
          · cases sm
            · have HNB : Hid (false = (decide (lessN X.ents q.l < i + 1) && is)) := hnext
              clear hnext
              go_region
              go_wp2_with fail
              go_roundw
              case rel => first | exact ⟨i + 1, i, false, by omega, by go_num, by first | rfl | go_num, rfl, by omega, HNA, HNB, hbq.drew⟩ | exact ⟨_, ⟨i + 1, i, false, by omega, by go_num, by first | rfl | go_num, rfl, by omega, HNA, HNB, hbq.drew⟩, rfl⟩ | exact ⟨_, _, ⟨i + 1, i, false, by omega, by go_num, by first | rfl | go_num, rfl, by omega, HNA, HNB, hbq.drew⟩, rfl, rfl⟩
              case measure => simp [intOf]; omega
            · have HNB : Hid (true = (decide (lessN X.ents q.l < i + 1) && is)) := hnext
              clear hnext
              go_region
              go_wp2_with fail
              go_roundw
              case rel => first | exact ⟨i + 1, i, true, by omega, by go_num, by first | rfl | go_num, rfl, by omega, HNA, HNB, hbq.drew⟩ | exact ⟨_, ⟨i + 1, i, true, by omega, by go_num, by first | rfl | go_num, rfl, by omega, HNA, HNB, hbq.drew⟩, rfl⟩ | exact ⟨_, _, ⟨i + 1, i, true, by omega, by go_num, by first | rfl | go_num, rfl, by omega, HNA, HNB, hbq.drew⟩, rfl, rfl⟩
              case measure => simp [intOf]; omega
          · have HNB : Hid (true = (decide (lessN X.ents q.l < i + 1) && is)) := Lib.hid (by have := hnext.out; rw [Bool.true_or] at this; exact this)
            clear hnext
            go_region
            go_wp2_with fail
            go_roundw
            case rel => first | exact ⟨i + 1, i, true, by omega, by go_num, by first | rfl | go_num, rfl, by omega, HNA, HNB, hbq.drew⟩ | exact ⟨_, ⟨i + 1, i, true, by omega, by go_num, by first | rfl | go_num, rfl, by omega, HNA, HNB, hbq.drew⟩, rfl⟩ | exact ⟨_, _, ⟨i + 1, i, true, by omega, by go_num, by first | rfl | go_num, rfl, by omega, HNA, HNB, hbq.drew⟩, rfl, rfl⟩
            case measure => simp [intOf]; omega
        · have HNA : Hid (at' = min (i + 1) (X.upTo q.l) - 1) := Lib.hid (by have := HNX.out; rw [if_neg (by decide)] at this; exact this)
          clear HNX
          go_wp2_with fail
          refine hcA.mono ?_
          rintro e w5 ⟨rfl, hb5⟩
          have hx5 := x0' w5 hb5
          have hx5d := x0' _ hb5.drew
          have k15 := k1 _ hb5.drew
          have k25 := k2 _ hb5.drew
          obtain ⟨⟨m0, m1, m2⟩, -⟩ := HN.out.later (HQB.out.trans (hb5.mono hsr))
          have hbq := HQB.out.trans (hb5.mono hsr)
          rw [HXA5.out] at m2
          clear hcA x0' k1 k2
          go_upto_region 13 with fail
          cases b'
          · cases sm
            · have HNB : Hid (false = (decide (lessN X.ents q.l < i + 1) && is)) := hnext
              clear hnext
              go_region
              go_wp2_with fail
              go_roundw
              case rel => first | exact ⟨i + 1, at', false, by omega, by go_num, by first | rfl | go_num, rfl, by omega, HNA, HNB, hbq.drew⟩ | exact ⟨_, ⟨i + 1, at', false, by omega, by go_num, by first | rfl | go_num, rfl, by omega, HNA, HNB, hbq.drew⟩, rfl⟩ | exact ⟨_, _, ⟨i + 1, at', false, by omega, by go_num, by first | rfl | go_num, rfl, by omega, HNA, HNB, hbq.drew⟩, rfl, rfl⟩
              case measure => simp [intOf]; omega
            · have HNB : Hid (true = (decide (lessN X.ents q.l < i + 1) && is)) := hnext
              clear hnext
              go_region
              go_wp2_with fail
              go_roundw
              case rel => first | exact ⟨i + 1, at', true, by omega, by go_num, by first | rfl | go_num, rfl, by omega, HNA, HNB, hbq.drew⟩ | exact ⟨_, ⟨i + 1, at', true, by omega, by go_num, by first | rfl | go_num, rfl, by omega, HNA, HNB, hbq.drew⟩, rfl⟩ | exact ⟨_, _, ⟨i + 1, at', true, by omega, by go_num, by first | rfl | go_num, rfl, by omega, HNA, HNB, hbq.drew⟩, rfl, rfl⟩
              case measure => simp [intOf]; omega
          · have HNB : Hid (true = (decide (lessN X.ents q.l < i + 1) && is)) := Lib.hid (by have := hnext.out; rw [Bool.true_or] at this; exact this)
            clear hnext
            go_region
            go_wp2_with fail
            go_roundw
            case rel => first | exact ⟨i + 1, at', true, by omega, by go_num, by first | rfl | go_num, rfl, by omega, HNA, HNB, hbq.drew⟩ | exact ⟨_, ⟨i + 1, at', true, by omega, by go_num, by first | rfl | go_num, rfl, by omega, HNA, HNB, hbq.drew⟩, rfl⟩ | exact ⟨_, _, ⟨i + 1, at', true, by omega, by go_num, by first | rfl | go_num, rfl, by omega, HNA, HNB, hbq.drew⟩, rfl, rfl⟩
            case measure => simp [intOf]; omega
      · obtain rfl : N = i := by omega
        have hm := less_le X.ents q.l
        rw [HLEN.out] at hm
        have hu : X.upTo q.l ≤ N := by
          cases hv : X.isAt q.l
          · unfold NoT.upTo
            rw [hv, if_neg Bool.false_ne_true]
            exact hm
          · obtain ⟨y, hy, _⟩ := is_lt hv
            have h7 := (List.getElem?_eq_some_iff.1 hy).1
            rw [HLEN.out] at h7
            unfold NoT.upTo
            rw [hv, if_pos rfl]
            exact h7
        have hfa : at' = pl := by rw [HAT.out, ← HPL.out, plAt_inner HLF.out]; omega
        have hfb : b' = is := by
          rw [HB.out]
          cases hv : is
          · rw [Bool.and_false]
          · obtain ⟨y, hy, _⟩ := is_lt (HIS.out.trans hv)
            have := (List.getElem?_eq_some_iff.1 hy).1
            rw [HLEN.out] at this
            rw [decide_eq_true this]
            rfl
        subst hfa hfb
        have hbz := hb.trans (hbr.mono hsz)
        have HBZ := Lib.hid hbz
        clear hlt HAT HB hm hi hat
        go_wp2
        go_ret2
        exact ⟨rfl, HBZ.out⟩
theorem rPlace14_any (X : NoT) (q : PcT) (B : Nat) (w : World) (hX : LieN w B X) (hq : q.Ok w B) (hB : B ≤ w.heap.size) (hok : X.okB = true) :
    Calls Try.prog 29 #[X.agg, .slice q.A q.n q.c] w fun e w' => e = .returned (.tuple #[.int .i64 (X.plAt q.l : Nat), .bool (X.isAt q.l)]) ∧ Below w.heap.size w w' := by
  cases h : X.leaf
  · exact rPlace_inner X q B w hX hq hB h hok
  · exact rPlace_leaf X q B w hX hq hB h hok
end Go.Proofs.Ytnfohlabmidliaa
