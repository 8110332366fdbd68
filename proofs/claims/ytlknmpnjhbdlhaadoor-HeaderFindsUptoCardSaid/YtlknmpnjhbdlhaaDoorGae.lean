import Derived.Test.YtlknmpnjhbdlhaaDoorGad
import Derived.Test.YtlknmpnjhbdlhaaDoorGac
import Derived.Test.YtlknmpnjhbdlhaaDoorGaa
import Derived.Lib.Hide
/-
  Layer 12: the block of a header that may be.
-/
namespace Go.Proofs.YtlknmpnjhbdlhaaDoor
open Go.RowKit
set_option linter.unusedVariables false

theorem Arr.set {w : World} {g : Nat} {t : TypeId} {l : List UInt8} (h : Arr w g t l) (j : Nat) (x : UInt8) : Arr (w.setCell ⟨g, j, none⟩ (bv x)) g t (l.set j x) ∧ OnlyB g w (w.setCell ⟨g, j, none⟩ (bv x)) := by
  have e := setCell_eq_setRow w g j ⟨l.map bv⟩ t (0, 0) (bv x) h
  have hl : (⟨l.map bv⟩ : Array Value).setIfInBounds j (bv x) = ⟨(l.set j x).map bv⟩ := by
    apply Array.toList_inj.1
    rw [Array.toList_setIfInBounds, List.map_set]
  rw [hl] at e
  rw [e]
  exact ⟨setRow_heap w g _ _ t _ h, setRow_only w g _⟩
theorem num_info : ∃ i, Tryd.prog.info? 74 = some i ∧ i.zero = some (.agg #[.int .u64 0, .int .i64 0]) ∧ i.size = 2 := ⟨Tryd.t74, by kernel_rfl, by kernel_rfl, by kernel_rfl⟩
theorem size8 : (Tryd.prog.info? 5).map (·.size) = some 1 := by kernel_rfl
/-- The numbers of a header's block. -/
def k1L (g a : Nat) : List UInt8 := [1] ++ Hdr.hiL g 8 ++ Hdr.hiL a 4
theorem k1_len (g a : Nat) : (k1L g a).length = 13 := by unfold k1L; simp [Hdr.hi_len]
theorem k1_is (g a : Nat) : ([(1, 1), (g, 8), (a, 4)] : List (Nat × Nat)).flatMap numL = k1L g a := by
  unfold k1L numL
  simp only [List.flatMap_cons, List.flatMap_nil, List.append_nil]
  rw [List.append_assoc]
  rfl
theorem over_pre (g a : Nat) : (overL z64 (k1L g a)).take 59 = Hdr.preL g a := by
  have h := k1_len g a
  unfold overL z64 Hdr.preL
  rw [show [1] ++ Hdr.hiL g 8 ++ Hdr.hiL a 4 = k1L g a from rfl, h, List.drop_replicate, List.take_append, List.take_of_length_le (by omega), h, List.take_replicate]
  rfl
theorem over_len1 (g a : Nat) : (overL z64 (k1L g a)).length = 64 := by rw [over_len (by rw [k1_len, z64_len]; omega), z64_len]
theorem sum_len (g a : Nat) : (Hdr.preL g a ++ Crc.laid (Crc.more 0 (Hdr.preL g a))).length = 63 := by rw [List.length_append, Hdr.pre_len]; rfl
theorem over_block (g a : Nat) : (overL (overL z64 (k1L g a)) (Hdr.preL g a ++ Crc.laid (Crc.more 0 (Hdr.preL g a)))).set 63 165 = Hdr.blockL g a := by
  have h := sum_len g a
  have h1 := over_len1 g a
  obtain ⟨x, hx⟩ : ∃ x, (overL z64 (k1L g a)).drop 63 = [x] := by
    have : ((overL z64 (k1L g a)).drop 63).length = 1 := by rw [List.length_drop, h1]
    match (overL z64 (k1L g a)).drop 63, this with
    | [x], _ => exact ⟨x, rfl⟩
  generalize hl : overL z64 (k1L g a) = l1 at *
  unfold overL Hdr.blockL
  rw [h, hx, List.set_append_right _ _ (by omega), h]
  rfl
set_option maxRecDepth 20000 in
set_option maxHeartbeats 4000000 in
theorem blockH_ok (g a : Nat) (w : World) (htab : Tab w) (h1 : 1 ≤ g) (hg : g < 18446744073709551616) (ha : a < 524288) :
    Calls Tryd.prog 15 #[.agg #[.int .u64 (g : Int), .int .i64 (a : Nat)]] w fun e w' => e = .returned (arrV (Hdr.blockL g a)) ∧ Below w.heap.size w w' := by
  have hch := fun W => checkH_any g (a : Nat) W
  rw [errH_yes (okH_iff.2 ⟨h1, by omega, by omega⟩)] at hch
  obtain ⟨iN, jiN, jzN, jsN⟩ := num_info
  have HNS := Lib.hid (show ∀ p ∈ ([(1, 1), (g, 8), (a, 4)] : List (Nat × Nat)), p.1 < 18446744073709551616 ∧ 1 ≤ p.2 ∧ p.2 ≤ 8 by
    intro p hp
    simp only [List.mem_cons, List.not_mem_nil, or_false] at hp
    rcases hp with rfl | rfl | rfl
    · exact ⟨by show 1 < _; omega, by decide, by decide⟩
    · exact ⟨hg, by show 1 ≤ 8; omega, by show 8 ≤ 8; omega⟩
    · exact ⟨by show a < _; omega, by show 1 ≤ 4; omega, by show 4 ≤ 8; omega⟩)
  have HK1 := Lib.hid (k1_is g a)
  have HK1L := Lib.hid (k1_len g a)
  have HPL := Lib.hid (sum_len g a)
  have HL1 := Lib.hid (over_len1 g a)
  have Hg := Lib.hid hg
  have Ha := Lib.hid ha
  have hwa : IntKind.u64.wrap (a : Int) = (a : Int) := by
    have : IntKind.u64.wrap (a : Int) = (a : Int) % 18446744073709551616 := by simp [IntKind.wrap, IntKind.bits, IntKind.signed]
    rw [this]; omega
  clear hg
  go_enter Tryd.func15, Tryd.ntmps15
  go_upto_region 2 with fail
  rw [lit64]
  have HB := box_zz w #[.int .u64 (g : Int), .int .i64 (a : Nat)] 24 25
  generalize ((w.alloc (.cells #[.int .u64 (g : Int), .int .i64 (a : Nat)] 24)).alloc (.cells ⟨z64.map bv⟩ 25)).alloc (.cells ⟨z64.map bv⟩ 25) = W1 at *
  obtain ⟨hh, ha1, ha2, hs, hb⟩ := HB W1 rfl
  have x0 : W1.cell? ⟨w.heap.size, 0, none⟩ = some (.int .u64 (g : Int)) := by rw [cell_of_row _ _ _ _ _ _ hh]; rfl
  have x1 : W1.cell? ⟨w.heap.size, 1, none⟩ = some (.int .i64 (a : Nat)) := by rw [cell_of_row _ _ _ _ _ _ hh]; rfl
  clear HB
  go_upto_region 4 with (refine (hch _).mono ?_; rintro e W2 ⟨rfl, hb2⟩)
  have hs2 := hb2.size
  have HA := Lib.hid (ha2.later hb2)
  have HR1 := Lib.hid (ha1.later hb2)
  have HBB := Lib.hid (hb.trans (hb2.mono hb.size))
  have HT0 := Lib.hid htab.lt
  have HT2 := Lib.hid ((htab.below hb htab.lt).below hb2 (Nat.lt_of_lt_of_le htab.lt hb.size))
  have y0 : ∀ W, Below (w.heap.size + 1 + 1) W2 W → W.cell? ⟨w.heap.size, 0, none⟩ = some (.int .u64 (g : Int)) := fun W h => (h.cell (by show w.heap.size < _; omega)).trans (kept_later hb2 x0)
  have y1 : ∀ W, Below (w.heap.size + 1 + 1) W2 W → W.cell? ⟨w.heap.size, 1, none⟩ = some (.int .i64 (a : Nat)) := fun W h => (h.cell (by show w.heap.size < _; omega)).trans (kept_later hb2 x1)
  have hHB : w.heap.size + 1 + 1 ≤ W2.heap.size := by omega
  clear x0 x1 hch hh ha1 ha2 hb2 hb htab
  refine wp_region_held_drew (S := fun W => Below (w.heap.size + 1 + 1) W2 W) (by kernel_rfl) (below_drewN (Below.refl _ _) 1) (fun hHeld => ?_)
  refine rg_in 0 rfl (by kernel_rfl) (by kernel_rfl) (by kernel_rfl) (by rfl) (v := ?_) (fun _ _ _ h => h) hHeld (fun w hSw => ?_) ?_
  rotate_left
  · (try dsimp only at hSw); go_simp <;> (with_reducible rfl)
  (try simp only [Act.put, List.setIfInBounds_toArray, List.set_cons_zero, List.set_cons_succ])
  refine rg_in 1 rfl (by kernel_rfl) (by kernel_rfl) (by kernel_rfl) (by rfl) (v := ?_) (fun _ _ _ h => h) hHeld (fun w hSw => ?_) ?_
  rotate_left
  · (try dsimp only at hSw); go_simp <;> (with_reducible rfl)
  (try simp only [Act.put, List.setIfInBounds_toArray, List.set_cons_zero, List.set_cons_succ])
  refine rg_in 2 rfl (by kernel_rfl) (by kernel_rfl) (by kernel_rfl) (by rfl) (v := ?_) (fun _ _ _ h => h) hHeld (fun w hSw => ?_) ?_
  rotate_left
  · (try dsimp only at hSw); go_simp <;> (with_reducible rfl)
  (try simp only [Act.put, List.setIfInBounds_toArray, List.set_cons_zero, List.set_cons_succ])
  refine rg_in 3 rfl (by kernel_rfl) (by kernel_rfl) (by kernel_rfl) (by rfl) (v := ?_) (fun _ _ _ h => h) hHeld (fun w hSw => ?_) ?_
  rotate_left
  · (try dsimp only at hSw); go_simp <;> (with_reducible rfl)
  (try simp only [Act.put, List.setIfInBounds_toArray, List.set_cons_zero, List.set_cons_succ])
  refine rg_in 4 rfl (by kernel_rfl) (by kernel_rfl) (by kernel_rfl) (by rfl) (v := ?_) (fun _ _ _ h => h) hHeld (fun w hSw => ?_) ?_
  rotate_left
  · (try dsimp only at hSw); go_simp <;> (with_reducible rfl)
  (try simp only [Act.put, List.setIfInBounds_toArray, List.set_cons_zero, List.set_cons_succ])
  refine rg_in 5 rfl (by kernel_rfl) (by kernel_rfl) (by kernel_rfl) (by rfl) (v := ?_) (fun _ _ _ h => h) hHeld (fun w hSw => ?_) ?_
  rotate_left
  · (try dsimp only at hSw); go_simp <;> (with_reducible rfl)
  (try simp only [Act.put, List.setIfInBounds_toArray, List.set_cons_zero, List.set_cons_succ])
  refine rg_in 6 rfl (by kernel_rfl) (by kernel_rfl) (by kernel_rfl) (by rfl) (v := ?_) (fun _ _ _ h => h) hHeld (fun w hSw => ?_) ?_
  rotate_left
  · (try dsimp only at hSw); go_simp <;> (with_reducible rfl)
  (try simp only [Act.put, List.setIfInBounds_toArray, List.set_cons_zero, List.set_cons_succ])
  refine rg_in 7 rfl (by kernel_rfl) (by kernel_rfl) (by kernel_rfl) (by rfl) (v := ?_) (fun _ _ _ h => h) hHeld (fun w hSw => ?_) ?_
  rotate_left
  · (try dsimp only at hSw); go_simp <;> (with_reducible rfl)
  (try simp only [Act.put, List.setIfInBounds_toArray, List.set_cons_zero, List.set_cons_succ])
  refine rg_in 8 rfl (by kernel_rfl) (by kernel_rfl) (by kernel_rfl) (by rfl) (v := ?_) (fun _ _ _ h => h) hHeld (fun w hSw => ?_) ?_
  rotate_left
  · (try dsimp only at hSw); go_simp <;> (with_reducible rfl)
  (try simp only [Act.put, List.setIfInBounds_toArray, List.set_cons_zero, List.set_cons_succ])
  refine rg_do 9 rfl (by kernel_rfl) (by rfl) (fun K hK => ?_)
  refine step_rows 97 74 3 _ rfl 2 iN _ Tryd.underlying97 jiN jzN jsN #[.int .u64 1, .int .i64 1, .int .u64 (g : Int), .int .i64 8, .int .u64 (a : Nat), .int .i64 4] (by with_unfolding_all rfl) rfl (by decide) (by decide) ?_
  intro g109 w109 hge109 sh109 hl109 hb9
  refine hK.out _ _ (hHeld.trans (hb9.mono hHB)) (fun hHeld => ?_)
  clear hK K
  (try simp only [Act.put, List.setIfInBounds_toArray, List.set_cons_zero, List.set_cons_succ])
  refine rg_do 10 rfl (by kernel_rfl) (by rfl) (fun K hK => ?_)
  go_simp
  (go_at_call 35; (with_reducible refine (laidH_any _ 3 3 (g109 + 1) [(1, 1), (g, 8), (a, 4)] _ sh109 hl109 HNS.out (by omega)).mono ?_); (rintro e w110 ⟨A110, n110, c110, rfl, hown110, hb10⟩))
  rw [HK1.out] at hown110
  obtain rfl : n110 = 13 := by have := hown110.1; rw [List.length_map, HK1L.out] at this; omega
  refine hK.out _ _ (hHeld.trans (hb10.mono (Nat.le_trans hHB hb9.size))) (fun hHeld => ?_)
  clear hK K
  (try simp only [Act.put, List.setIfInBounds_toArray, List.set_cons_zero, List.set_cons_succ])
  refine rg_do 11 rfl (by kernel_rfl) (by rfl) (fun K hK => ?_)
  have hA110 := ((HA.out.drew).later hb9).later hb10
  refine step_copyArr (.tmp 8) (.tmp 18) _ _ 5 rfl hA110 59 64 rfl w110.heap.size A110 13 c110 (k1L g a) rfl (Bytes.own hown110) (by omega) (by omega) (by rw [z64_len]; omega) Tryd.underlying34 size8 ?_
  intro w111 ha111 ho111
  refine hK.out _ _ (hHeld.trans (ho111.below _ (Nat.le_refl _))) (fun hHeld => ?_)
  clear hK K
  (try simp only [Act.put, List.setIfInBounds_toArray, List.set_cons_zero, List.set_cons_succ])
  refine wpAnyH_done (by kernel_rfl) ?_ _
  skip
  have hd4 : Below (w.heap.size + 1 + 1) W2 w111 := hHeld
  have hHB5 : w.heap.size + 1 + 1 ≤ w111.heap.size := Nat.le_trans hHB hd4.size
  have HBB5 := Lib.hid (HBB.out.trans (hd4.mono (by omega)))
  have hs5 : w.heap.size + 1 + 1 < w111.heap.size := ha111.lt
  have HT5a : Tab w111 := (HT2.out.below hd4 (Nat.lt_of_lt_of_le HT0.out (show w.heap.size ≤ w.heap.size + 1 + 1 by omega)))
  have HT5 := Lib.hid HT5a.drew
  have HR5 := Lib.hid (HR1.out.below (by omega) hd4)
  have HP5 := Lib.hid (show Bytes w111.drew (w.heap.size + 1 + 1 + 1) (some ⟨w.heap.size + 1 + 1, 0, none⟩) 59 (Hdr.preL g a) by
    have hq := (ha111.bytes (Nat.lt_succ_self _)).first (k := 59) (by rw [HL1.out]; omega)
    rw [over_pre] at hq
    exact hq.drew)
  have HS5 := Lib.hid (show w.heap.size + 1 + 1 + 1 ≤ w111.drew.heap.size from hs5)
  clear HT5a y0 y1 hd4 hHeld sh109 hb9 hb10 hl109 hge109 hown110 hA110 ho111
  go_upto_region 5 with fail
  refine wp_region_held_drew (S := fun W => Below (w.heap.size + 1 + 1) w111 W) (by kernel_rfl) (below_drewN (Below.refl _ _) 1) (fun hHeld => ?_)
  refine rg_in 0 rfl (by kernel_rfl) (by kernel_rfl) (by kernel_rfl) (by rfl) (v := ?_) (fun _ _ _ h => h) hHeld (fun w hSw => ?_) ?_
  rotate_left
  · (try dsimp only at hSw); go_simp <;> (with_reducible rfl)
  (try simp only [Act.put, List.setIfInBounds_toArray, List.set_cons_zero, List.set_cons_succ])
  refine rg_in 1 rfl (by kernel_rfl) (by kernel_rfl) (by kernel_rfl) (by rfl) (v := ?_) (fun _ _ _ h => h) hHeld (fun w hSw => ?_) ?_
  rotate_left
  · (try dsimp only at hSw); go_simp <;> (with_reducible rfl)
  (try simp only [Act.put, List.setIfInBounds_toArray, List.set_cons_zero, List.set_cons_succ])
  refine rg_do 2 rfl (by kernel_rfl) (by rfl) (fun K hK => ?_)
  go_simp
  (go_at_call 36; (with_reducible refine (lay_full _ 59 64 (w.heap.size + 1 + 1 + 1) (Hdr.preL g a) _ HT5.out HP5.out HS5.out (by omega)).mono ?_); (rintro e w202 ⟨A202, n202, c202, rfl, hown202, hb202⟩))
  obtain rfl : n202 = 63 := by have := hown202.1; rw [List.length_map, HPL.out] at this; omega
  refine hK.out _ _ (hHeld.trans (hb202.mono hHB5)) (fun hHeld => ?_)
  clear hK K
  (try simp only [Act.put, List.setIfInBounds_toArray, List.set_cons_zero, List.set_cons_succ])
  refine rg_do 3 rfl (by kernel_rfl) (by rfl) (fun K hK => ?_)
  have hA202 := (ha111.drew).later hb202
  refine step_copyArr (.tmp 20) (.tmp 22) _ _ 5 rfl hA202 64 64 rfl w202.heap.size A202 63 c202 _ rfl (Bytes.own hown202) (by omega) (by omega) (by rw [HL1.out]; omega) Tryd.underlying34 size8 ?_
  intro w103 ha203 ho203
  refine hK.out _ _ (hHeld.trans (ho203.below _ (Nat.le_refl _))) (fun hHeld => ?_)
  clear hK K
  (try simp only [Act.put, List.setIfInBounds_toArray, List.set_cons_zero, List.set_cons_succ])
  refine wpAnyH_done (by kernel_rfl) ?_ _
  skip
  have hd5 : Below (w.heap.size + 1 + 1) w111 w103 := hHeld
  have HR6 := Lib.hid (HR5.out.below (by omega) hd5)
  have HBB6 := Lib.hid (HBB5.out.trans (hd5.mono (by omega)))
  have hs6 : w.heap.size + 1 + 1 < w103.heap.size := ha203.lt
  have hl6 : (overL (overL z64 (k1L g a)) (Hdr.preL g a ++ Crc.laid (Crc.more 0 (Hdr.preL g a)))).length = 64 := by rw [over_len (by rw [HPL.out, HL1.out]; omega), HL1.out]
  have z0 := ha203.cell (j := 63) (by rw [hl6]; omega)
  have z1 := ha203.soft 63
  obtain ⟨hset, hons⟩ := ha203.set 63 165
  rw [over_block] at hset
  have HSET := Lib.hid hset
  have HONS := Lib.hid hons
  clear hHeld hd5 hb202 hown202 hA202 ho203 ha111 ha203 hl6 hset hons
  go_upto_region 7 with fail
  generalize hwn : World.setCell w103 ⟨w.heap.size + 1 + 1, 63, none⟩ (Value.int .u8 165) = w6
  have hs6' : Arr w6 (w.heap.size + 1 + 1) 25 (Hdr.blockL g a) := by rw [← hwn]; exact HSET.out
  have ho6 : OnlyB (w.heap.size + 1 + 1) w103 w6 := by rw [← hwn]; exact HONS.out
  have hr6 := ho6.arr HR6.out (by omega)
  have hb6 := HBB6.out.trans (ho6.below w.heap.size (by omega))
  have hbl : (Hdr.blockL g a).length = z64.length := by rw [Hdr.block_len, z64_len]
  clear hwn ho6 z0 z1 HSET HONS HR6 HBB6
  go_wp2_with (first
    | (with_reducible refine wpList_loadArr rfl (.tmp 3) rfl rfl hs6' Tryd.underlying25 (info64 (Hdr.block_len g a)) ?_)
    | (with_reducible refine wpList_storeArr rfl (.tmp 2) (.tmp 25) rfl rfl rfl hr6 (info64 z64_len) hbl ?_; intro w8 ha8 hb8))
  refine bodyPost_ret (results64 rfl _ _ (w.heap.size + 1) _ (Hdr.block_len g a) rfl ha8) rfl ⟨rfl, hb6.trans (hb8.below _ (by omega))⟩
end Go.Proofs.YtlknmpnjhbdlhaaDoor
/-
  Layer 12: the header that a block says.
-/
namespace Go.Proofs.YtlknmpnjhbdlhaaDoor
open Go.RowKit
set_option linter.unusedVariables false

theorem Arr.part {w : World} {g : Nat} {t : TypeId} {l : List UInt8} (h : Arr w g t l) {B : Nat} (hB : g < B) (i k : Nat) (hk : i + k ≤ l.length) : Bytes w B (some ⟨g, i, none⟩) k ((l.drop i).take k) :=
  ⟨by simp; omega, fun _ => ⟨g, i, rfl, hB, fun j u hu => by
    rw [cell_of_row _ _ _ _ _ _ h]
    rw [List.getElem?_map, List.getElem?_take, List.getElem?_drop] at hu
    split at hu
    · simpa using hu
    · cases hu⟩⟩
theorem row_soft {w : World} {g : Nat} {C : Array Value} {t : TypeId} (h : w.heap[g]? = some (.cells C t (0, 0))) (j : Nat) : w.frozen? ⟨g, j, none⟩ = false := by
  simp [World.frozen?, h]
/-- A header's variable. -/
def HBox (w : World) (h : Nat) (g : Nat) (a : Int) : Prop := w.heap[h]? = some (.cells #[.int .u64 (g : Int), .int .i64 a] 24 (0, 0))
theorem HBox.later {w w' : World} {h g : Nat} {a : Int} (hb : HBox w h g a) (hl : Below w.heap.size w w') : HBox w' h g a := blk_later hb hl
theorem HBox.lt {w : World} {h g : Nat} {a : Int} (hb : HBox w h g a) : h < w.heap.size := blk_lt hb
theorem HBox.c0 {w : World} {h g : Nat} {a : Int} (hb : HBox w h g a) : w.cell? ⟨h, 0, none⟩ = some (.int .u64 (g : Int)) := (cell_of_row _ _ 0 _ _ _ hb).trans rfl
theorem HBox.c1 {w : World} {h g : Nat} {a : Int} (hb : HBox w h g a) : w.cell? ⟨h, 1, none⟩ = some (.int .i64 a) := (cell_of_row _ _ 1 _ _ _ hb).trans rfl
theorem HBox.soft {w : World} {h g : Nat} {a : Int} (hb : HBox w h g a) (j : Nat) : w.frozen? ⟨h, j, none⟩ = false := row_soft hb j
theorem set2_box {w : World} {h : Nat} {C : Array Value} (hb : w.heap[h]? = some (.cells C 24 (0, 0))) (g : Nat) (a : Int) (hC : C.size = 2 := by rfl) : HBox ((w.setCell ⟨h, 0, none⟩ (.int .u64 (g : Int))).setCell ⟨h, 1, none⟩ (.int .i64 a)) h g a := by
  obtain ⟨l⟩ := C
  match l, hC with
  | [x, y], _ =>
    rw [setCell_eq_setRow w h 0 _ _ _ _ hb]
    have h1 := setRow_heap w h _ ((⟨[x, y]⟩ : Array Value).setIfInBounds 0 (.int .u64 (g : Int))) _ _ hb
    rw [setCell_eq_setRow _ h 1 _ _ _ _ h1]
    exact setRow_heap _ h _ _ _ _ h1
theorem below_set2 {B h : Nat} {w w1 : World} {x y : Value} (hb : Below B w w1) (hg : B ≤ h) : Below B w ((w1.setCell ⟨h, 0, none⟩ x).setCell ⟨h, 1, none⟩ y) := (hb.setCell hg x).setCell hg y
theorem head_info : ∃ i, Tryd.prog.info? 24 = some i ∧ i.zero = some (.agg #[.int .u64 0, .int .i64 0]) := ⟨Tryd.t24, by kernel_rfl, by kernel_rfl⟩
theorem ce8 : Tryd.prog.cellsOf 5 = 1 := by kernel_rfl
theorem eqg64 : Tryd.prog.eqGuardType Tryd.prog.depth 25 = false := by kernel_rfl
theorem readB_any (A : Option Addr) (n c B : Nat) (l : List UInt8) (w : World) (h : Bytes w B A n l) (hn : n ≤ 8) :
    Calls Tryd.prog 34 #[.slice A n c] w fun e w' => e = .returned (.int .u64 (Hdr.rdN l : Nat)) ∧ Below w.heap.size w w' :=
  (read_any A n c B l w h hn).mono fun e w' ⟨he, hw⟩ => ⟨he, hw ▸ Below.refl _ _⟩
/-- What a block says: the number, the place, and whether it says any. -/
def sayG (l : List UInt8) : Nat := match Hdr.saysL l with | some p => p.1 | none => 0
def sayA (l : List UInt8) : Nat := match Hdr.saysL l with | some p => p.2 | none => 0
theorem say_none {l : List UInt8} (h : Hdr.saysL l = none) : sayG l = 0 ∧ sayA l = 0 ∧ (Hdr.saysL l).isSome = false := by unfold sayG sayA; rw [h]; exact ⟨rfl, rfl, rfl⟩
theorem say_some {l : List UInt8} {g a : Nat} (h : Hdr.saysL l = some (g, a)) : sayG l = g ∧ sayA l = a ∧ (Hdr.saysL l).isSome = true := by unfold sayG sayA; rw [h]; exact ⟨rfl, rfl, rfl⟩
set_option maxRecDepth 20000 in
set_option maxHeartbeats 4000000 in
theorem saysH_any (l : List UInt8) (hl : l.length = 64) (w : World) (htab : Tab w) :
    Calls Tryd.prog 13 #[arrV l] w fun e w' => e = .returned (.tuple #[.agg #[.int .u64 (sayG l : Nat), .int .i64 (sayA l : Nat)], .bool (Hdr.saysL l).isSome]) ∧ Below w.heap.size w w' := by
  obtain ⟨iH, hiH, hzH⟩ := head_info
  obtain ⟨i8, hi8, -⟩ := u8_info
  obtain ⟨g0, hg0⟩ : ∃ g0, Hdr.rdN ((l.drop 1).take 8) = g0 := ⟨_, rfl⟩
  obtain ⟨a0, ha0⟩ : ∃ a0, Hdr.rdN ((l.drop 9).take 4) = a0 := ⟨_, rfl⟩
  have hgl : g0 < 18446744073709551616 := by
    have h := rd_lt ((l.drop 1).take 8)
    rw [hg0, show ((l.drop 1).take 8).length = 8 by simp; omega] at h
    exact h
  have hal : a0 < 4294967296 := by
    have h := rd_lt ((l.drop 9).take 4)
    rw [ha0, show ((l.drop 9).take 4).length = 4 by simp; omega] at h
    exact h
  have HSay := Lib.hid (show Hdr.saysL l = if 1 ≤ g0 ∧ a0 < 524288 ∧ Hdr.blockL g0 a0 = l then some (g0, a0) else none by
    unfold Hdr.saysL
    rw [hg0, ha0])
  have HG0 := Lib.hid hg0
  have HA0 := Lib.hid ha0
  have HL := Lib.hid hl
  have HT := Lib.hid htab
  have HGL := Lib.hid hgl
  have hwa : IntKind.i64.wrap (a0 : Int) = (a0 : Int) := by rw [IntKind.wrap_i64]; omega
  have hwa2 : RowKit.wrap64 (a0 : Int) = (a0 : Int) := by unfold RowKit.wrap64; omega
  clear hl htab hg0 ha0 hgl
  unfold arrV
  go_enter Tryd.func13, Tryd.ntmps13
  go_upto_region 1 with fail
  obtain ⟨W1, hW1⟩ : ∃ W1, (w.alloc (.cells ⟨l.map bv⟩ 25)).alloc (.cells #[.int .u64 0, .int .i64 0] 24) = W1 := ⟨_, rfl⟩
  have hs1 : W1.heap.size = w.heap.size + 1 + 1 := by rw [← hW1]; simp
  have hb1 : Below w.heap.size w W1 := by rw [← hW1]; exact bel_alloc (bel_alloc (Below.refl _ _) _) _
  have hA1 : Arr W1 w.heap.size 25 l := by rw [← hW1]; exact (Arr.new w 25 l).alloc _
  have hR1 : HBox W1 (w.heap.size + 1) 0 0 := by
    have h := heap_alloc_new (w.alloc (.cells ⟨l.map bv⟩ 25)) (.cells #[.int .u64 0, .int .i64 0] 24)
    rw [World.size_alloc] at h
    rw [← hW1]
    exact h
  rw [hW1]
  clear hW1
  have HP1 := Lib.hid (fun W (h : Below W1.heap.size W1 W) => (hA1.later h).part (B := w.heap.size + 1) (by omega) 1 8 (by rw [HL.out]; omega))
  have HP3 := Lib.hid (fun W (h : Below W1.heap.size W1 W) => (hA1.later h).part (B := w.heap.size + 1) (by omega) 9 4 (by rw [HL.out]; omega))
  have HA1 := Lib.hid hA1
  have HR1 := Lib.hid hR1
  have HB1 := Lib.hid hb1
  clear hA1 hR1 hb1
  go_cut [4] (fun s wx => ∃ h, s = .pointer (some ⟨h, 0, none⟩) ∧ W1.heap.size ≤ h ∧ HBox wx h g0 (a0 : Nat) ∧ Below W1.heap.size W1 wx)
  case first =>
    refine wp_region_held_drew (S := fun W => Below W1.heap.size W1 W) (by kernel_rfl) (below_drewN (Below.refl _ _) 1) (fun hHeld => ?_)
    refine rg_in 0 rfl (by kernel_rfl) (by kernel_rfl) (by kernel_rfl) (by rfl) (v := ?_) (fun _ _ _ h => h) hHeld (fun w hSw => ?_) ?_
    rotate_left
    · (try dsimp only at hSw); go_simp <;> (with_reducible rfl)
    (try simp only [Act.put, List.setIfInBounds_toArray, List.set_cons_zero, List.set_cons_succ])
    refine rg_in 2 rfl (by kernel_rfl) (by kernel_rfl) (by kernel_rfl) (by rfl) (v := ?_) (fun _ _ _ h => h) hHeld (fun w hSw => ?_) ?_
    rotate_left
    · (try dsimp only at hSw); go_simp <;> (with_reducible rfl)
    (try simp only [Act.put, List.setIfInBounds_toArray, List.set_cons_zero, List.set_cons_succ])
    refine wpAnyH_ready (rs := [1, 6]) (by kernel_rfl) (by simp) ?_
    refine rg_cons rfl (by rfl) (fun K hK => ?_) ?_
    · go_simp
      (go_at_call 34; (with_reducible refine (readB_any _ 8 63 (w.heap.size + 1) _ _ (HP1.out _ hHeld) (by omega)).mono ?_); (rintro e w101 ⟨rfl, hb1⟩))
      rw [HG0.out]
      refine hK.out _ _ (S_call hb1 hHeld rfl) (fun hHeld => ?_)
      clear hK K
      (try simp only [Act.put, List.setIfInBounds_toArray, List.set_cons_zero, List.set_cons_succ])
      refine wpAnyH_ready (rs := [3, 6]) (by kernel_rfl) (by simp) ?_
      refine rg_cons rfl (by rfl) (fun K hK => ?_) ?_
      · go_simp
        (go_at_call 34; (with_reducible refine (readB_any _ 4 55 (w.heap.size + 1) _ _ (HP3.out _ hHeld) (by omega)).mono ?_); (rintro e w103 ⟨rfl, hb3⟩))
        rw [HA0.out]
        refine hK.out _ _ (S_call hb3 hHeld rfl) (fun hHeld => ?_)
        clear hK K
        (try simp only [Act.put, List.setIfInBounds_toArray, List.set_cons_zero, List.set_cons_succ])
        refine rg_in 4 rfl (by kernel_rfl) (by kernel_rfl) (by kernel_rfl) (by rfl) (v := ?_) (fun _ _ _ h => h) hHeld (fun w hSw => ?_) ?_
        rotate_left
        · (try dsimp only at hSw); go_simp <;> (with_reducible rfl)
        (try simp only [Act.put, List.setIfInBounds_toArray, List.set_cons_zero, List.set_cons_succ])
        refine rg_in 5 rfl (by kernel_rfl) (by kernel_rfl) (by kernel_rfl) (by rfl) (v := ?_) (fun _ _ _ h => h) hHeld (fun w hSw => ?_) ?_
        rotate_left
        · (try dsimp only at hSw); go_simp <;> (with_reducible rfl)
        (try simp only [Act.put, List.setIfInBounds_toArray, List.set_cons_zero, List.set_cons_succ])
        refine rg_do 6 rfl (by kernel_rfl) (by rfl) (fun K hK => ?_)
        have hgw6 := hHeld.size
        refine step_alloc 24 rfl iH _ hiH hzH ?_
        intro g106 w106 hge6 hbox6 hb6
        refine hK.out _ _ (S_call hb6 hHeld rfl) (fun hHeld => ?_)
        clear hK K
        (try simp only [Act.put, List.setIfInBounds_toArray, List.set_cons_zero, List.set_cons_succ])
        refine rg_do 7 rfl (by kernel_rfl) (by rfl) (fun K hK => ?_)
        have hbx := blk_later hbox6 (Below.refl _ _)
        have q0 : World.cell? _ ⟨g106, 0, none⟩ = some (.int .u64 0) := (cell_of_row _ _ 0 _ _ _ hbx).trans rfl
        have q1 : World.cell? _ ⟨g106, 1, none⟩ = some (.int .i64 0) := (cell_of_row _ _ 1 _ _ _ hbx).trans rfl
        have p0 := row_soft hbx 0
        have p1 := row_soft hbx 1
        have hsb := set2_box hbx g0 a0
        go_simp
        clear q0 q1 p0 p1
        refine hK.out _ _ (below_set2 hHeld (show W1.heap.size ≤ g106 by (have := hge6; have := hgw6; omega))) (fun hHeld => ?_)
        clear hK K
        (try simp only [Act.put, List.setIfInBounds_toArray, List.set_cons_zero, List.set_cons_succ])
        refine wpAnyH_done (by kernel_rfl) ?_ _
        go_wp2
        go_meet
        case rel => exact ⟨g106, rfl, by (have := hge6; have := hgw6; omega), hsb, hHeld⟩
      refine rg_cons rfl (by rfl) (fun K hK => ?_) ?_
      · have hgw6 := hHeld.size
        refine step_alloc 24 rfl iH _ hiH hzH ?_
        intro g106 w106 hge6 hbox6 hb6
        refine hK.out _ _ (S_call hb6 hHeld rfl) (fun hHeld => ?_)
        clear hK K
        (try simp only [Act.put, List.setIfInBounds_toArray, List.set_cons_zero, List.set_cons_succ])
        refine rg_do 3 rfl (by kernel_rfl) (by rfl) (fun K hK => ?_)
        go_simp
        (go_at_call 34; (with_reducible refine (readB_any _ 4 55 (w.heap.size + 1) _ _ (HP3.out _ hHeld) (by omega)).mono ?_); (rintro e w103 ⟨rfl, hb3⟩))
        rw [HA0.out]
        refine hK.out _ _ (S_call hb3 hHeld rfl) (fun hHeld => ?_)
        clear hK K
        (try simp only [Act.put, List.setIfInBounds_toArray, List.set_cons_zero, List.set_cons_succ])
        refine rg_in 4 rfl (by kernel_rfl) (by kernel_rfl) (by kernel_rfl) (by rfl) (v := ?_) (fun _ _ _ h => h) hHeld (fun w hSw => ?_) ?_
        rotate_left
        · (try dsimp only at hSw); go_simp <;> (with_reducible rfl)
        (try simp only [Act.put, List.setIfInBounds_toArray, List.set_cons_zero, List.set_cons_succ])
        refine rg_in 5 rfl (by kernel_rfl) (by kernel_rfl) (by kernel_rfl) (by rfl) (v := ?_) (fun _ _ _ h => h) hHeld (fun w hSw => ?_) ?_
        rotate_left
        · (try dsimp only at hSw); go_simp <;> (with_reducible rfl)
        (try simp only [Act.put, List.setIfInBounds_toArray, List.set_cons_zero, List.set_cons_succ])
        refine rg_do 7 rfl (by kernel_rfl) (by rfl) (fun K hK => ?_)
        have hbx := blk_later hbox6 hb3
        have q0 : World.cell? _ ⟨g106, 0, none⟩ = some (.int .u64 0) := (cell_of_row _ _ 0 _ _ _ hbx).trans rfl
        have q1 : World.cell? _ ⟨g106, 1, none⟩ = some (.int .i64 0) := (cell_of_row _ _ 1 _ _ _ hbx).trans rfl
        have p0 := row_soft hbx 0
        have p1 := row_soft hbx 1
        have hsb := set2_box hbx g0 a0
        go_simp
        clear q0 q1 p0 p1
        refine hK.out _ _ (below_set2 hHeld (show W1.heap.size ≤ g106 by (have := hge6; have := hgw6; omega))) (fun hHeld => ?_)
        clear hK K
        (try simp only [Act.put, List.setIfInBounds_toArray, List.set_cons_zero, List.set_cons_succ])
        refine wpAnyH_done (by kernel_rfl) ?_ _
        go_wp2
        go_meet
        case rel => exact ⟨g106, rfl, by (have := hge6; have := hgw6; omega), hsb, hHeld⟩
      exact AllReadyH.nil
    refine rg_cons rfl (by rfl) (fun K hK => ?_) ?_
    · have hgw6 := hHeld.size
      refine step_alloc 24 rfl iH _ hiH hzH ?_
      intro g106 w106 hge6 hbox6 hb6
      refine hK.out _ _ (S_call hb6 hHeld rfl) (fun hHeld => ?_)
      clear hK K
      (try simp only [Act.put, List.setIfInBounds_toArray, List.set_cons_zero, List.set_cons_succ])
      refine rg_do 1 rfl (by kernel_rfl) (by rfl) (fun K hK => ?_)
      go_simp
      (go_at_call 34; (with_reducible refine (readB_any _ 8 63 (w.heap.size + 1) _ _ (HP1.out _ hHeld) (by omega)).mono ?_); (rintro e w101 ⟨rfl, hb1⟩))
      rw [HG0.out]
      refine hK.out _ _ (S_call hb1 hHeld rfl) (fun hHeld => ?_)
      clear hK K
      (try simp only [Act.put, List.setIfInBounds_toArray, List.set_cons_zero, List.set_cons_succ])
      refine rg_do 3 rfl (by kernel_rfl) (by rfl) (fun K hK => ?_)
      go_simp
      (go_at_call 34; (with_reducible refine (readB_any _ 4 55 (w.heap.size + 1) _ _ (HP3.out _ hHeld) (by omega)).mono ?_); (rintro e w103 ⟨rfl, hb3⟩))
      rw [HA0.out]
      refine hK.out _ _ (S_call hb3 hHeld rfl) (fun hHeld => ?_)
      clear hK K
      (try simp only [Act.put, List.setIfInBounds_toArray, List.set_cons_zero, List.set_cons_succ])
      refine rg_in 4 rfl (by kernel_rfl) (by kernel_rfl) (by kernel_rfl) (by rfl) (v := ?_) (fun _ _ _ h => h) hHeld (fun w hSw => ?_) ?_
      rotate_left
      · (try dsimp only at hSw); go_simp <;> (with_reducible rfl)
      (try simp only [Act.put, List.setIfInBounds_toArray, List.set_cons_zero, List.set_cons_succ])
      refine rg_in 5 rfl (by kernel_rfl) (by kernel_rfl) (by kernel_rfl) (by rfl) (v := ?_) (fun _ _ _ h => h) hHeld (fun w hSw => ?_) ?_
      rotate_left
      · (try dsimp only at hSw); go_simp <;> (with_reducible rfl)
      (try simp only [Act.put, List.setIfInBounds_toArray, List.set_cons_zero, List.set_cons_succ])
      refine rg_do 7 rfl (by kernel_rfl) (by rfl) (fun K hK => ?_)
      have hbx := blk_later hbox6 (bel_next hb1 hb3)
      have q0 : World.cell? _ ⟨g106, 0, none⟩ = some (.int .u64 0) := (cell_of_row _ _ 0 _ _ _ hbx).trans rfl
      have q1 : World.cell? _ ⟨g106, 1, none⟩ = some (.int .i64 0) := (cell_of_row _ _ 1 _ _ _ hbx).trans rfl
      have p0 := row_soft hbx 0
      have p1 := row_soft hbx 1
      have hsb := set2_box hbx g0 a0
      go_simp
      clear q0 q1 p0 p1
      refine hK.out _ _ (below_set2 hHeld (show W1.heap.size ≤ g106 by (have := hge6; have := hgw6; omega))) (fun hHeld => ?_)
      clear hK K
      (try simp only [Act.put, List.setIfInBounds_toArray, List.set_cons_zero, List.set_cons_succ])
      refine wpAnyH_done (by kernel_rfl) ?_ _
      go_wp2
      go_meet
      case rel => exact ⟨g106, rfl, by (have := hge6; have := hgw6; omega), hsb, hHeld⟩
    exact AllReadyH.nil
  case rest =>
    obtain ⟨h, rfl, hgeh, hbox, hb2⟩ := hcut
    have HB2 := Lib.hid hb2
    have HT2 := Lib.hid ((HT.out.below HB1.out HT.out.lt).below (hb2.mono (Nat.le_refl _)) (Nat.lt_of_lt_of_le HT.out.lt HB1.out.size))
    have HAR := Lib.hid (fun W (h : Below wc.heap.size wc W) => (HA1.out.later hb2).later h)
    have x0 : ∀ W, Below wc.heap.size wc W → W.cell? ⟨h, 0, none⟩ = some (.int .u64 (g0 : Int)) := fun W hw => (hbox.later hw).c0
    have x1 : ∀ W, Below wc.heap.size wc W → W.cell? ⟨h, 1, none⟩ = some (.int .i64 (a0 : Nat)) := fun W hw => (hbox.later hw).c1
    have hch := fun W => checkH_any g0 (a0 : Nat) W
    clear hbox hb2
    by_cases hok : okH g0 (a0 : Nat) = true
    · obtain ⟨k1, -, k2⟩ := okH_iff.1 hok
      have k3 : a0 < 524288 := by omega
      have HBK := Lib.hid (fun W (h : Below wc.heap.size wc W) => blockH_ok g0 a0 W (HT2.out.below h HT2.out.lt) k1 HGL.out k3)
      rw [errH_yes hok] at hch
      by_cases heq : Hdr.blockL g0 a0 = l
      · have hsome : Hdr.saysL l = some (g0, a0) := by rw [HSay.out, if_pos ⟨k1, k3, heq⟩]
        have HSG := Lib.hid (say_some hsome).1
        have HSA := Lib.hid (say_some hsome).2.1
        have HSB := Lib.hid (say_some hsome).2.2
        have HNE := Lib.hid (show (!decide (Hdr.blockL g0 a0 = l)) = false by rw [decide_eq_true heq]; rfl)
        clear hsome heq hok k1 k2 k3 HSay
        go_upto_region 2 with fail
        refine wp_region_held_drew (S := fun W => Below wc.heap.size wc W) (by kernel_rfl) (below_drewN (Below.refl _ _) 1) (fun hHeld => ?_)
        refine rg_in 0 rfl (by kernel_rfl) (by kernel_rfl) (by kernel_rfl) (by rfl) (v := ?_) (fun _ _ _ h => h) hHeld (fun w hSw => ?_) ?_
        rotate_left
        · (try dsimp only at hSw); go_simp <;> (with_reducible rfl)
        (try simp only [Act.put, List.setIfInBounds_toArray, List.set_cons_zero, List.set_cons_succ])
        refine rg_do 1 rfl (by kernel_rfl) (by rfl) (fun K hK => ?_)
        go_simp
        (go_at_call 11; (with_reducible refine (hch _).mono ?_); (rintro e w101 ⟨rfl, hb1⟩))
        refine hK.out _ _ (S_call hb1 hHeld rfl) (fun hHeld => ?_)
        clear hK K
        (try simp only [Act.put, List.setIfInBounds_toArray, List.set_cons_zero, List.set_cons_succ])
        refine rg_in 2 rfl (by kernel_rfl) (by kernel_rfl) (by kernel_rfl) (by rfl) (v := ?_) (fun _ _ _ h => h) hHeld (fun w hSw => ?_) ?_
        rotate_left
        · (try dsimp only at hSw); go_simp <;> (with_reducible rfl)
        (try simp only [Act.put, List.setIfInBounds_toArray, List.set_cons_zero, List.set_cons_succ])
        refine rg_in 3 rfl (by kernel_rfl) (by kernel_rfl) (by kernel_rfl) (by rfl) (v := ?_) (fun _ _ _ h => h) hHeld (fun w hSw => ?_) ?_
        rotate_left
        · (try dsimp only at hSw); go_simp <;> (with_reducible rfl)
        (try simp only [Act.put, List.setIfInBounds_toArray, List.set_cons_zero, List.set_cons_succ])
        refine rg_in 4 rfl (by kernel_rfl) (by kernel_rfl) (by kernel_rfl) (by rfl) (v := ?_) (fun _ _ _ h => h) hHeld (fun w hSw => ?_) ?_
        rotate_left
        · (try dsimp only at hSw); go_simp <;> (with_reducible rfl)
        (try simp only [Act.put, List.setIfInBounds_toArray, List.set_cons_zero, List.set_cons_succ])
        refine wpAnyH_ready (rs := [5, 6]) (by kernel_rfl) (by simp) ?_
        refine rg_cons rfl (by rfl) (fun K hK => ?_) ?_
        · go_simp
          (go_at_call 15; (with_reducible refine (HBK.out _ hHeld).mono ?_); (rintro e w105 ⟨rfl, hb5⟩))
          refine hK.out _ _ (S_call hb5 hHeld rfl) (fun hHeld => ?_)
          clear hK K
          (try simp only [Act.put, List.setIfInBounds_toArray, List.set_cons_zero, List.set_cons_succ])
          refine rg_do 6 rfl (by kernel_rfl) (by rfl) (fun K hK => ?_)
          refine wp_loadArr (.tmp 1) rfl rfl (HAR.out _ hHeld) Tryd.underlying25 (info64 HL.out) ?_
          refine hK.out _ _ hHeld (fun hHeld => ?_)
          clear hK K
          (try simp only [Act.put, List.setIfInBounds_toArray, List.set_cons_zero, List.set_cons_succ])
          refine rg_do 7 rfl (by kernel_rfl) (by rfl) (fun K hK => ?_)
          refine wp_neqArr (.tmp 16) (.tmp 17) _ rfl rfl rfl Tryd.underlying25 Tryd.underlying5 hi8 ce8 (Hdr.block_len g0 a0) HL.out eqg64 ?_
          rw [HNE.out]
          refine hK.out _ _ hHeld (fun hHeld => ?_)
          clear hK K
          (try simp only [Act.put, List.setIfInBounds_toArray, List.set_cons_zero, List.set_cons_succ])
          refine rg_in 8 rfl (by kernel_rfl) (by kernel_rfl) (by kernel_rfl) (by rfl) (v := ?_) (fun _ _ _ h => h) hHeld (fun w hSw => ?_) ?_
          rotate_left
          · (try dsimp only at hSw); go_simp <;> (with_reducible rfl)
          (try simp only [Act.put, List.setIfInBounds_toArray, List.set_cons_zero, List.set_cons_succ])
          refine wpAnyH_done (by kernel_rfl) ?_ _
          have hr3 := HR1.out.later ((HB2.out).trans (hHeld.mono HB2.out.size))
          have hb3 := HB1.out.trans (((HB2.out).trans (hHeld.mono HB2.out.size)).mono HB1.out.size)
          have q0 := hr3.c0
          have q1 := hr3.c1
          have p0 := hr3.soft 0
          have p1 := hr3.soft 1
          have hb4 := below_set2 (h := w.heap.size + 1) (x := .int .u64 (g0 : Nat)) (y := .int .i64 (a0 : Nat)) hb3 (by omega)
          have e0 := x0 _ hHeld
          have e1 := x1 _ hHeld
          clear x0 x1 hch HP1 HP3 hr3 hHeld
          go_wp2
          refine bodyPost_ret (v := .tuple #[.agg #[.int .u64 (g0 : Nat), .int .i64 (a0 : Nat)], .bool true]) (by simp [results, Tryd.results13, go_sem, *]) rfl ⟨?_, hb4⟩
          rw [HSG.out, HSA.out, HSB.out] <;> rfl
        refine rg_cons rfl (by rfl) (fun K hK => ?_) ?_
        · refine wp_loadArr (.tmp 1) rfl rfl (HAR.out _ hHeld) Tryd.underlying25 (info64 HL.out) ?_
          refine hK.out _ _ hHeld (fun hHeld => ?_)
          clear hK K
          (try simp only [Act.put, List.setIfInBounds_toArray, List.set_cons_zero, List.set_cons_succ])
          refine rg_do 5 rfl (by kernel_rfl) (by rfl) (fun K hK => ?_)
          go_simp
          (go_at_call 15; (with_reducible refine (HBK.out _ hHeld).mono ?_); (rintro e w105 ⟨rfl, hb5⟩))
          refine hK.out _ _ (S_call hb5 hHeld rfl) (fun hHeld => ?_)
          clear hK K
          (try simp only [Act.put, List.setIfInBounds_toArray, List.set_cons_zero, List.set_cons_succ])
          refine rg_do 7 rfl (by kernel_rfl) (by rfl) (fun K hK => ?_)
          refine wp_neqArr (.tmp 16) (.tmp 17) _ rfl rfl rfl Tryd.underlying25 Tryd.underlying5 hi8 ce8 (Hdr.block_len g0 a0) HL.out eqg64 ?_
          rw [HNE.out]
          refine hK.out _ _ hHeld (fun hHeld => ?_)
          clear hK K
          (try simp only [Act.put, List.setIfInBounds_toArray, List.set_cons_zero, List.set_cons_succ])
          refine rg_in 8 rfl (by kernel_rfl) (by kernel_rfl) (by kernel_rfl) (by rfl) (v := ?_) (fun _ _ _ h => h) hHeld (fun w hSw => ?_) ?_
          rotate_left
          · (try dsimp only at hSw); go_simp <;> (with_reducible rfl)
          (try simp only [Act.put, List.setIfInBounds_toArray, List.set_cons_zero, List.set_cons_succ])
          refine wpAnyH_done (by kernel_rfl) ?_ _
          have hr3 := HR1.out.later ((HB2.out).trans (hHeld.mono HB2.out.size))
          have hb3 := HB1.out.trans (((HB2.out).trans (hHeld.mono HB2.out.size)).mono HB1.out.size)
          have q0 := hr3.c0
          have q1 := hr3.c1
          have p0 := hr3.soft 0
          have p1 := hr3.soft 1
          have hb4 := below_set2 (h := w.heap.size + 1) (x := .int .u64 (g0 : Nat)) (y := .int .i64 (a0 : Nat)) hb3 (by omega)
          have e0 := x0 _ hHeld
          have e1 := x1 _ hHeld
          clear x0 x1 hch HP1 HP3 hr3 hHeld
          go_wp2
          refine bodyPost_ret (v := .tuple #[.agg #[.int .u64 (g0 : Nat), .int .i64 (a0 : Nat)], .bool true]) (by simp [results, Tryd.results13, go_sem, *]) rfl ⟨?_, hb4⟩
          rw [HSG.out, HSA.out, HSB.out] <;> rfl
        exact AllReadyH.nil

      · have hnone : Hdr.saysL l = none := by rw [HSay.out, if_neg (fun h => heq h.2.2)]
        have HSG := Lib.hid (say_none hnone).1
        have HSA := Lib.hid (say_none hnone).2.1
        have HSB := Lib.hid (say_none hnone).2.2
        have HNE := Lib.hid (show (!decide (Hdr.blockL g0 a0 = l)) = true by rw [decide_eq_false heq]; rfl)
        clear hnone heq hok k1 k2 k3 HSay
        go_upto_region 2 with fail
        refine wp_region_held_drew (S := fun W => Below wc.heap.size wc W) (by kernel_rfl) (below_drewN (Below.refl _ _) 1) (fun hHeld => ?_)
        refine rg_in 0 rfl (by kernel_rfl) (by kernel_rfl) (by kernel_rfl) (by rfl) (v := ?_) (fun _ _ _ h => h) hHeld (fun w hSw => ?_) ?_
        rotate_left
        · (try dsimp only at hSw); go_simp <;> (with_reducible rfl)
        (try simp only [Act.put, List.setIfInBounds_toArray, List.set_cons_zero, List.set_cons_succ])
        refine rg_do 1 rfl (by kernel_rfl) (by rfl) (fun K hK => ?_)
        go_simp
        (go_at_call 11; (with_reducible refine (hch _).mono ?_); (rintro e w101 ⟨rfl, hb1⟩))
        refine hK.out _ _ (S_call hb1 hHeld rfl) (fun hHeld => ?_)
        clear hK K
        (try simp only [Act.put, List.setIfInBounds_toArray, List.set_cons_zero, List.set_cons_succ])
        refine rg_in 2 rfl (by kernel_rfl) (by kernel_rfl) (by kernel_rfl) (by rfl) (v := ?_) (fun _ _ _ h => h) hHeld (fun w hSw => ?_) ?_
        rotate_left
        · (try dsimp only at hSw); go_simp <;> (with_reducible rfl)
        (try simp only [Act.put, List.setIfInBounds_toArray, List.set_cons_zero, List.set_cons_succ])
        refine rg_in 3 rfl (by kernel_rfl) (by kernel_rfl) (by kernel_rfl) (by rfl) (v := ?_) (fun _ _ _ h => h) hHeld (fun w hSw => ?_) ?_
        rotate_left
        · (try dsimp only at hSw); go_simp <;> (with_reducible rfl)
        (try simp only [Act.put, List.setIfInBounds_toArray, List.set_cons_zero, List.set_cons_succ])
        refine rg_in 4 rfl (by kernel_rfl) (by kernel_rfl) (by kernel_rfl) (by rfl) (v := ?_) (fun _ _ _ h => h) hHeld (fun w hSw => ?_) ?_
        rotate_left
        · (try dsimp only at hSw); go_simp <;> (with_reducible rfl)
        (try simp only [Act.put, List.setIfInBounds_toArray, List.set_cons_zero, List.set_cons_succ])
        refine wpAnyH_ready (rs := [5, 6]) (by kernel_rfl) (by simp) ?_
        refine rg_cons rfl (by rfl) (fun K hK => ?_) ?_
        · go_simp
          (go_at_call 15; (with_reducible refine (HBK.out _ hHeld).mono ?_); (rintro e w105 ⟨rfl, hb5⟩))
          refine hK.out _ _ (S_call hb5 hHeld rfl) (fun hHeld => ?_)
          clear hK K
          (try simp only [Act.put, List.setIfInBounds_toArray, List.set_cons_zero, List.set_cons_succ])
          refine rg_do 6 rfl (by kernel_rfl) (by rfl) (fun K hK => ?_)
          refine wp_loadArr (.tmp 1) rfl rfl (HAR.out _ hHeld) Tryd.underlying25 (info64 HL.out) ?_
          refine hK.out _ _ hHeld (fun hHeld => ?_)
          clear hK K
          (try simp only [Act.put, List.setIfInBounds_toArray, List.set_cons_zero, List.set_cons_succ])
          refine rg_do 7 rfl (by kernel_rfl) (by rfl) (fun K hK => ?_)
          refine wp_neqArr (.tmp 16) (.tmp 17) _ rfl rfl rfl Tryd.underlying25 Tryd.underlying5 hi8 ce8 (Hdr.block_len g0 a0) HL.out eqg64 ?_
          rw [HNE.out]
          refine hK.out _ _ hHeld (fun hHeld => ?_)
          clear hK K
          (try simp only [Act.put, List.setIfInBounds_toArray, List.set_cons_zero, List.set_cons_succ])
          refine rg_in 8 rfl (by kernel_rfl) (by kernel_rfl) (by kernel_rfl) (by rfl) (v := ?_) (fun _ _ _ h => h) hHeld (fun w hSw => ?_) ?_
          rotate_left
          · (try dsimp only at hSw); go_simp <;> (with_reducible rfl)
          (try simp only [Act.put, List.setIfInBounds_toArray, List.set_cons_zero, List.set_cons_succ])
          refine wpAnyH_done (by kernel_rfl) ?_ _
          have hr3 := HR1.out.later ((HB2.out).trans (hHeld.mono HB2.out.size))
          have hb3 := HB1.out.trans (((HB2.out).trans (hHeld.mono HB2.out.size)).mono HB1.out.size)
          have q0 := hr3.c0
          have q1 := hr3.c1
          have p0 := hr3.soft 0
          have p1 := hr3.soft 1
          have hb4 := below_set2 (h := w.heap.size + 1) (x := .int .u64 0) (y := .int .i64 0) hb3 (by omega)
          clear x0 x1 hch HP1 HP3 hr3 hHeld
          go_wp2
          refine bodyPost_ret (v := .tuple #[.agg #[.int .u64 0, .int .i64 0], .bool false]) (by simp [results, Tryd.results13, go_sem, *]) rfl ⟨?_, hb4⟩
          rw [HSG.out, HSA.out, HSB.out] <;> rfl
        refine rg_cons rfl (by rfl) (fun K hK => ?_) ?_
        · refine wp_loadArr (.tmp 1) rfl rfl (HAR.out _ hHeld) Tryd.underlying25 (info64 HL.out) ?_
          refine hK.out _ _ hHeld (fun hHeld => ?_)
          clear hK K
          (try simp only [Act.put, List.setIfInBounds_toArray, List.set_cons_zero, List.set_cons_succ])
          refine rg_do 5 rfl (by kernel_rfl) (by rfl) (fun K hK => ?_)
          go_simp
          (go_at_call 15; (with_reducible refine (HBK.out _ hHeld).mono ?_); (rintro e w105 ⟨rfl, hb5⟩))
          refine hK.out _ _ (S_call hb5 hHeld rfl) (fun hHeld => ?_)
          clear hK K
          (try simp only [Act.put, List.setIfInBounds_toArray, List.set_cons_zero, List.set_cons_succ])
          refine rg_do 7 rfl (by kernel_rfl) (by rfl) (fun K hK => ?_)
          refine wp_neqArr (.tmp 16) (.tmp 17) _ rfl rfl rfl Tryd.underlying25 Tryd.underlying5 hi8 ce8 (Hdr.block_len g0 a0) HL.out eqg64 ?_
          rw [HNE.out]
          refine hK.out _ _ hHeld (fun hHeld => ?_)
          clear hK K
          (try simp only [Act.put, List.setIfInBounds_toArray, List.set_cons_zero, List.set_cons_succ])
          refine rg_in 8 rfl (by kernel_rfl) (by kernel_rfl) (by kernel_rfl) (by rfl) (v := ?_) (fun _ _ _ h => h) hHeld (fun w hSw => ?_) ?_
          rotate_left
          · (try dsimp only at hSw); go_simp <;> (with_reducible rfl)
          (try simp only [Act.put, List.setIfInBounds_toArray, List.set_cons_zero, List.set_cons_succ])
          refine wpAnyH_done (by kernel_rfl) ?_ _
          have hr3 := HR1.out.later ((HB2.out).trans (hHeld.mono HB2.out.size))
          have hb3 := HB1.out.trans (((HB2.out).trans (hHeld.mono HB2.out.size)).mono HB1.out.size)
          have q0 := hr3.c0
          have q1 := hr3.c1
          have p0 := hr3.soft 0
          have p1 := hr3.soft 1
          have hb4 := below_set2 (h := w.heap.size + 1) (x := .int .u64 0) (y := .int .i64 0) hb3 (by omega)
          clear x0 x1 hch HP1 HP3 hr3 hHeld
          go_wp2
          refine bodyPost_ret (v := .tuple #[.agg #[.int .u64 0, .int .i64 0], .bool false]) (by simp [results, Tryd.results13, go_sem, *]) rfl ⟨?_, hb4⟩
          rw [HSG.out, HSA.out, HSB.out] <;> rfl
        exact AllReadyH.nil

    · have hok' : okH g0 (a0 : Nat) = false := by simpa using hok
      have hnone : Hdr.saysL l = none := by rw [HSay.out, if_neg (fun h => hok (okH_iff.2 ⟨h.1, by omega, by omega⟩))]
      rw [errH_no hok'] at hch
      have HSG := Lib.hid (say_none hnone).1
      have HSA := Lib.hid (say_none hnone).2.1
      have HSB := Lib.hid (say_none hnone).2.2
      clear hnone hok hok' HSay
      go_upto_region 2 with fail
      refine wp_region_held_drew (S := fun W => Below wc.heap.size wc W) (by kernel_rfl) (below_drewN (Below.refl _ _) 1) (fun hHeld => ?_)
      refine rg_in 0 rfl (by kernel_rfl) (by kernel_rfl) (by kernel_rfl) (by rfl) (v := ?_) (fun _ _ _ h => h) hHeld (fun w hSw => ?_) ?_
      rotate_left
      · (try dsimp only at hSw); go_simp <;> (with_reducible rfl)
      (try simp only [Act.put, List.setIfInBounds_toArray, List.set_cons_zero, List.set_cons_succ])
      refine rg_do 1 rfl (by kernel_rfl) (by rfl) (fun K hK => ?_)
      go_simp
      (go_at_call 11; (with_reducible refine (hch _).mono ?_); (rintro e w101 ⟨rfl, hb1⟩))
      refine hK.out _ _ (S_call hb1 hHeld rfl) (fun hHeld => ?_)
      clear hK K
      (try simp only [Act.put, List.setIfInBounds_toArray, List.set_cons_zero, List.set_cons_succ])
      refine rg_in 2 rfl (by kernel_rfl) (by kernel_rfl) (by kernel_rfl) (by rfl) (v := ?_) (fun _ _ _ h => h) hHeld (fun w hSw => ?_) ?_
      rotate_left
      · (try dsimp only at hSw); go_simp <;> (with_reducible rfl)
      (try simp only [Act.put, List.setIfInBounds_toArray, List.set_cons_zero, List.set_cons_succ])
      refine rg_in 3 rfl (by kernel_rfl) (by kernel_rfl) (by kernel_rfl) (by rfl) (v := ?_) (fun _ _ _ h => h) hHeld (fun w hSw => ?_) ?_
      rotate_left
      · (try dsimp only at hSw); go_simp <;> (with_reducible rfl)
      (try simp only [Act.put, List.setIfInBounds_toArray, List.set_cons_zero, List.set_cons_succ])
      refine rg_off 4 rfl (by kernel_rfl) (by kernel_rfl) (by kernel_rfl) (by rfl) (fun _ _ _ h => h) hHeld ?_
      (try simp only [Act.put, List.setIfInBounds_toArray, List.set_cons_zero, List.set_cons_succ])
      refine rg_off 5 rfl (by kernel_rfl) (by kernel_rfl) (by kernel_rfl) (by rfl) (fun _ _ _ h => h) hHeld ?_
      (try simp only [Act.put, List.setIfInBounds_toArray, List.set_cons_zero, List.set_cons_succ])
      refine rg_off 6 rfl (by kernel_rfl) (by kernel_rfl) (by kernel_rfl) (by rfl) (fun _ _ _ h => h) hHeld ?_
      (try simp only [Act.put, List.setIfInBounds_toArray, List.set_cons_zero, List.set_cons_succ])
      refine rg_off 7 rfl (by kernel_rfl) (by kernel_rfl) (by kernel_rfl) (by rfl) (fun _ _ _ h => h) hHeld ?_
      (try simp only [Act.put, List.setIfInBounds_toArray, List.set_cons_zero, List.set_cons_succ])
      refine rg_in 8 rfl (by kernel_rfl) (by kernel_rfl) (by kernel_rfl) (by rfl) (v := ?_) (fun _ _ _ h => h) hHeld (fun w hSw => ?_) ?_
      rotate_left
      · (try dsimp only at hSw); go_simp <;> (with_reducible rfl)
      (try simp only [Act.put, List.setIfInBounds_toArray, List.set_cons_zero, List.set_cons_succ])
      refine wpAnyH_done (by kernel_rfl) ?_ _
      have hr3 := HR1.out.later ((HB2.out).trans (hHeld.mono HB2.out.size))
      have hb3 := HB1.out.trans (((HB2.out).trans (hHeld.mono HB2.out.size)).mono HB1.out.size)
      have q0 := hr3.c0
      have q1 := hr3.c1
      have p0 := hr3.soft 0
      have p1 := hr3.soft 1
      have hb4 := below_set2 (h := w.heap.size + 1) (x := .int .u64 0) (y := .int .i64 0) hb3 (by omega)
      clear x0 x1 hch HP1 HP3 hr3 hHeld
      go_wp2
      refine bodyPost_ret (v := .tuple #[.agg #[.int .u64 0, .int .i64 0], .bool false]) (by simp [results, Tryd.results13, go_sem, *]) rfl ⟨?_, hb4⟩
      rw [HSG.out, HSA.out, HSB.out] <;> rfl
end Go.Proofs.YtlknmpnjhbdlhaaDoor
/-
  Layer 11: the encoding of a record.
-/
namespace Go.Proofs.YtlknmpnjhbdlhaaDoor
open Go.RowKit
set_option linter.unusedVariables false

theorem size_cells (n : Nat) (h : n ≤ 4096) : [Value.int .u8 ((n : Int) / 256), .int .u8 ((n : Int) % 256)] = (Fra.sizeL n).map bv := by
  have hx : ∀ x : Nat, bv (UInt8.ofNat x) = .int .u8 ((x : Int) % 256) := fun x => by
    unfold bv
    rw [UInt8.toNat_ofNat']
    simp
  unfold Fra.sizeL
  simp only [List.map_cons, List.map_nil, hx]
  rw [show ((n / 256 : Nat) : Int) % 256 = (n : Int) / 256 by omega]
theorem more_append (s : Nat) (l m : List UInt8) (hs : s < 4294967296) : Crc.more (Crc.more s l) m = Crc.more s (l ++ m) := by
  unfold Crc.more
  rw [Crc.take_append]
  congr 2
  have := Crc.take_lt l (s := 4294967295 - s) (by omega)
  omega

set_option maxRecDepth 20000 in
set_option maxHeartbeats 2000000 in
theorem encoding_any (p : PcT) (B : Nat) (w : World) (htab : Tab w) (hp : p.Ok w B) (hB : B ≤ w.heap.size) (hn : p.n ≤ 4096) :
    Calls Tryd.prog 68 #[.slice p.A p.n p.c] w (GivesBytes 5 (Fra.encL p.l) w) := by
  obtain ⟨i0, hi, hz0, hz1, hz2⟩ := u8_info
  have hmk := fun W => run_make_one (P := Tryd.prog) Tryd.underlying34 hi hz0 rfl hz1 .i64 .i64 0 ((p.n : Int) + 6) (by omega) (by omega) (by rw [hz2]; omega) (by omega) W
  have hmk' := fun W => run_make_one (P := Tryd.prog) Tryd.underlying34 hi hz0 rfl hz1 .i64 .i64 0 (6 + (p.n : Int)) (by omega) (by omega) (by rw [hz2]; omega) (by omega) W
  rw [show (0 : Int).toNat = 0 from rfl, show (6 + (p.n : Int)).toNat = 6 + p.n by omega] at hmk'
  clear hmk
  obtain ⟨C, hC⟩ : ∃ C : List UInt8, C = Fra.sizeL p.n := ⟨_, rfl⟩
  have hcs := size_cells p.n hn
  rw [← hC] at hcs
  have hsz := Lib.hid (bytes_new w C #[.int .u8 ((p.n : Int) / 256), .int .u8 ((p.n : Int) % 256)] 5 (0, 0) hcs)
  have hCl : C.length = 2 := by rw [hC]; rfl
  have HE := Lib.hid (show Fra.encL p.l = C ++ (Crc.laid (Crc.more (Crc.more 0 C) p.l) ++ p.l) by
    unfold Fra.encL
    rw [hp.len, ← hC, more_append 0 C p.l (by omega)])
  rw [hCl] at hsz
  have HP := Lib.hid hp
  have htab1 := htab.alloc (.cells #[.int .u8 ((p.n : Int) / 256), .int .u8 ((p.n : Int) % 256)] 5)
  have hbw := bel_alloc (Below.refl w.heap.size w) (.cells #[.int .u8 ((p.n : Int) / 256), .int .u8 ((p.n : Int) % 256)] 5)
  have hs1 : w.heap.size + 1 ≤ (w.alloc (.cells #[.int .u8 ((p.n : Int) / 256), .int .u8 ((p.n : Int) % 256)] 5)).heap.size := by rw [World.size_alloc]; omega
  have Hcl := Lib.hid hCl
  have Htl := Lib.hid htab
  clear hC hcs hp htab hCl
  go_enter Tryd.func68, Tryd.ntmps68
  go_wp2_with fail
  generalize w.alloc (.cells #[.int .u8 ((p.n : Int) / 256), .int .u8 ((p.n : Int) % 256)] 5) = W1 at *
  refine (sum_any _ 2 2 _ C W1 htab1 hsz.out hs1 (by unfold maxLen; omega)).mono ?_
  rintro e W2 ⟨rfl, hb2⟩
  go_wp2_with fail
  refine (more_any p.A p.n p.c w.heap.size p.l (Crc.more 0 C) W2 (htab1.below hb2 htab1.lt) ((HP.out.here.more hB).below (hbw.trans (hb2.mono hbw.size))) (by have := hb2.size; omega) (Crc.more_lt 0 C) (by unfold maxLen; omega)).mono ?_
  rintro e W3 ⟨rfl, hb3⟩
  have hb4 := bel_next hb2 hb3
  have hb5 := bel_alloc (bel_next hbw hb4) (.cells (madeCells #[.int .u8 0] (6 + p.n)) 5)
  have own0 := own_zeros (base := w.heap.size) (e := 5) W3 (.int .u8 0) 0 (6 + p.n) (by have := hb4.size; omega) (by omega) (by unfold maxLen; omega)
  rw [List.replicate_zero] at own0
  have hS1 := Lib.hid ((hsz.out.more hs1).below (hb4.alloc hb4.size (.cells (madeCells #[.int .u8 0] (6 + p.n)) 5)))
  have hz3 : w.heap.size ≤ (W3.alloc (.cells (madeCells #[.int .u8 0] (6 + p.n)) 5)).heap.size := hb5.size
  obtain ⟨s, hs⟩ : ∃ s, Crc.more (Crc.more 0 C) p.l = s := ⟨_, rfl⟩
  have hsl : s < 4294967296 := by rw [← hs]; exact Crc.more_lt _ _
  rw [hs]
  have Hs := Lib.hid hs
  clear hb2 hb3 hb4 hbw hs1 hsz htab1 hs
  go_wp2_with (first
    | (at_builtin; go_must (refine wpList_append_shows (o := ⟨some 24, _, _, _, _, _⟩) _ rfl (.tmp 22) (.tmp 23) _ rfl w.heap.size 5 i0 (.int .u8 0) 1 1 Tryd.underlying34 hi hz0 hz1 hz2 rfl (by decide) _ _ _ rfl own0 W1.heap.size _ _ _ (C.map bv) rfl hS1.out (bv_one _) ?c3 ?c4 ?c5 ?_)))
  case c3 => unfold maxLen; omega
  case c4 => omega
  case c5 => exact hz3
  intro A4 c4 W4 own1 hg4 hb6
  replace own1 : W4.ownsRow w.heap.size 5 1 (.slice A4 2 c4) 2 (C.map bv) := by simpa using own1
  have hlc := laid_cells s hsl
  have hbn := bytes_new W4 (Crc.laid s) #[.int .u8 ((s : Int) % 256), .int .u8 ((s : Int) / 256 % 256), .int .u8 ((s : Int) / 65536 % 256), .int .u8 ((s : Int) / 16777216)] 5 (0, 0) hlc
  rw [show (Crc.laid s).length = 4 from rfl] at hbn
  have Hbn := Lib.hid hbn
  have hb7 := (hb5.trans hb6).alloc (Nat.le_trans hz3 hb6.size) (.cells #[.int .u8 ((s : Int) % 256), .int .u8 ((s : Int) / 256 % 256), .int .u8 ((s : Int) / 65536 % 256), .int .u8 ((s : Int) / 16777216)] 5)
  have hz4 : w.heap.size ≤ (W4.alloc (.cells #[.int .u8 ((s : Int) % 256), .int .u8 ((s : Int) / 256 % 256), .int .u8 ((s : Int) / 65536 % 256), .int .u8 ((s : Int) / 16777216)] 5)).heap.size := hb7.size
  clear own0 hlc hbn hg4 hb6 hb5 hz3
  go_wp2_with (first
    | (at_builtin; go_must (refine wpList_append_shows (o := ⟨some 38, _, _, _, _, _⟩) _ rfl (.tmp 25) (.tmp 37) _ rfl w.heap.size 5 i0 (.int .u8 0) 1 1 Tryd.underlying34 hi hz0 hz1 hz2 rfl (by decide) _ _ _ rfl (own1.alloc _) (W4.heap.size + 1) _ _ _ ((Crc.laid s).map bv) rfl Hbn.out (bv_one _) ?c3 ?c4 ?c5 ?_)))
  case c3 => unfold maxLen; omega
  case c4 => omega
  case c5 => exact hz4
  intro A5 c5 W5 own2 hg5 hb8
  have hb9 := hb7.trans hb8
  have hS3 := Lib.hid ((HP.out.here.more hB).below hb9)
  have hz5 := hb9.size
  clear own1 Hbn hg5 hb8 hb7 hz4
  go_wp2_with (first
    | (at_builtin; go_must (refine wpList_append_shows (o := ⟨some 41, _, _, _, _, _⟩) _ rfl (.tmp 39) (.tmp 40) _ rfl w.heap.size 5 i0 (.int .u8 0) 1 1 Tryd.underlying34 hi hz0 hz1 hz2 rfl (by decide) _ _ _ rfl own2 w.heap.size _ _ _ (p.l.map bv) rfl hS3.out (bv_one _) ?c3 ?c4 ?c5 ?_)))
  case c3 => unfold maxLen; omega
  case c4 => omega
  case c5 => exact hz5
  intro A6 c6 W6 own3 hg6 hb10
  have hb11 := hb9.trans hb10
  clear own2 hg6 hb10 hb9 hz5 hmk'
  go_wp2
  go_ret
  refine ⟨A6, _, c6, rfl, ?_, hb11⟩
  rw [HE.out, Hs.out, List.map_append, List.map_append]
  exact own3
end Go.Proofs.YtlknmpnjhbdlhaaDoor
