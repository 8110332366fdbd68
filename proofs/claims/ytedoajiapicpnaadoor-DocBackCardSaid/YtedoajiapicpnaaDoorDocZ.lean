/-
  Layer 19: wakes.
-/
import Derived.Test.YtedoajiapicpnaaDoorDocV
import Derived.Test.YtedoajiapicpnaaDoorDocM
import Derived.Test.YtedoajiapicpnaaDoorDocF
import Derived.Test.YtedoajiapicpnaaDoorDocD
namespace Go.Proofs.YtedoajiapicpnaaDoor
open Go.RowKit
attribute [local go_sem ↓] Go.wp_at_zero Go.wp_at_succ

def k3 : ByteArray := ⟨#[51, 45, 48, 48, 48, 48, 48, 48, 97, 98]⟩
def k03 : ByteArray := ⟨#[48, 51, 45, 48, 48, 48, 48, 48, 48, 97, 98]⟩
theorem k3_rev : ofL (revL 3 171) = k3 := by
  have h : revL 3 171 = k3.data.toList := by decide +kernel
  rw [h, ofL_of]
theorem k3_par : parseOk k3.data.toList = some (3, 171) := by decide +kernel
theorem k03_par : parseOk k03.data.toList = none := by decide +kernel
theorem wk_rev (w : World) : Calls Tryd.prog 19 #[.agg #[.int .u32 3, .int .u32 171]] w fun e w' => e = .returned (.tuple #[.string ⟨#[51, 45, 48, 48, 48, 48, 48, 48, 97, 98]⟩, .int .i64 0]) ∧ Below w.heap.size w w' :=
  (revText_any 3 171 w (by decide) (by decide)).mono fun e w' h => ⟨h.1.trans (by rw [k3_rev]; rfl), h.2⟩
theorem wk_p1 (w : World) : Calls Tryd.prog 21 #[.string ⟨#[51, 45, 48, 48, 48, 48, 48, 48, 97, 98]⟩] w fun e w' => e = .returned (.tuple #[.agg #[.int .u32 3, .int .u32 171], .int .i64 0]) ∧ Below w.heap.size w w' :=
  (parseRev_any k3 w (by decide) (by decide)).mono fun e w' h => ⟨h.1.trans (by unfold parV parE; rw [k3_par]; rfl), h.2⟩
theorem wk_p2 (w : World) : Calls Tryd.prog 21 #[.string ⟨#[48, 51, 45, 48, 48, 48, 48, 48, 48, 97, 98]⟩] w fun e w' => e = .returned (.tuple #[.agg #[.int .u32 0, .int .u32 0], .int .i64 291]) ∧ Below w.heap.size w w' :=
  (parseRev_any k03 w (by decide) (by decide)).mono fun e w' h => ⟨h.1.trans (by unfold parV parE; rw [k03_par]; rfl), h.2⟩
theorem wk_next (w : World) (htab : Tab w) : Calls Tryd.prog 15 #[.agg #[.int .u32 0, .int .u32 0], .slice none 0 0] w fun e w' => e = .returned (.tuple #[.agg #[.int .u32 1, .int .u32 (nextM 0 [] : Nat)], .int .i64 0]) ∧ Below w.heap.size w w' :=
  (next_any 0 0 none 0 0 w.heap.size [] w htab (by decide) (by decide) (Bytes.zero _) (Nat.le_refl _) (Nat.zero_le _)).mono fun e w' h => ⟨h.1.trans (by
    have h1 : possB 0 0 = true := by decide
    unfold nextV nextE
    rw [if_neg (by rw [h1]; decide), if_neg (by rw [h1]; decide), if_neg (by decide)]
    rfl), h.2⟩
def kinfo : List UInt8 := encL 1 2 3 false 4
theorem wk_enc (w : World) : Calls Tryd.prog 23 #[.agg #[.int .u32 1, .int .u32 2, .int .u64 3, .bool false, .int .i64 4]] w fun e w' => ∃ A n c, e = .returned (.tuple #[.slice A n c, .int .i64 0]) ∧ w'.ownsRow w.heap.size 5 1 (.slice A n c) n (kinfo.map bv) ∧ Below w.heap.size w w' :=
  Encode_yes 1 2 3 false 4 w (by decide) (by decide) (by decide) (by decide)
theorem kinfo_dec : decV kinfo = infoV 1 2 3 false 4 ∧ decE kinfo = 0 := by
  have h : decB kinfo = true := by decide +kernel
  have h1 : dG kinfo = 1 := by decide +kernel
  have h2 : dM kinfo = 2 := by decide +kernel
  have h3 : dS kinfo = 3 := by decide +kernel
  have h4 : dD kinfo = false := by decide +kernel
  have h5 : dA kinfo = 4 := by decide +kernel
  unfold decV decE
  rw [h, if_pos rfl, if_pos rfl, h1, h2, h3, h4, h5]
  exact ⟨rfl, rfl⟩
theorem wk_dec (b off c B : Nat) (w : World) (h : Bytes w B (some ⟨b, off, none⟩) 21 kinfo) (hB : B ≤ w.heap.size) (hcc : 21 ≤ c) (hcm : c ≤ maxLen) :
    Calls Tryd.prog 26 #[.slice (some ⟨b, off, none⟩) 21 c] w fun e w' => e = .returned (.tuple #[.agg #[.int .u32 1, .int .u32 2, .int .u64 3, .bool false, .int .i64 4], .int .i64 0]) ∧ Below w.heap.size w w' :=
  (decode_late b off c B kinfo w h hB hcc hcm (by decide +kernel)).mono fun e w' h => ⟨h.1.trans (by rw [kinfo_dec.1, kinfo_dec.2]; rfl), h.2⟩
theorem wk_c1 (w : World) : Calls Tryd.prog 13 #[.string ⟨#[97, 45, 49]⟩] w fun e w' => e = .returned (.int .i64 0) ∧ w = w' :=
  (check_any ⟨#[97, 45, 49]⟩ w).mono fun e w' h => ⟨h.1.trans (by rw [show idErr (⟨#[97, 45, 49]⟩ : ByteArray).data.toList = 0 by decide +kernel]), h.2⟩
theorem wk_c2 (w : World) : Calls Tryd.prog 13 #[.string ⟨#[65]⟩] w fun e w' => e = .returned (.int .i64 290) ∧ w = w' :=
  (check_any ⟨#[65]⟩ w).mono fun e w' h => ⟨h.1.trans (by rw [show idErr (⟨#[65]⟩ : ByteArray).data.toList = 290 by decide +kernel]), h.2⟩

theorem new_later {w w1 : World} {C : Array Value} {t : TypeId} (hb : Below (w.alloc (.cells C t)).heap.size (w.alloc (.cells C t)) w1) (k : Nat) {v : Value} (hk : C[k]? = some v) : w1.cell? ⟨w.heap.size, k, none⟩ = some v :=
  (hb.cell (p := ⟨w.heap.size, k, none⟩) (by simp)).trans ((World.cell?_alloc_new w C t k).trans hk)
theorem old_later {w w1 : World} {o : Obj} (hb : Below (w.alloc o).heap.size (w.alloc o) w1) {p : Addr} {v : Value} (h : w.cell? p = some v) : w1.cell? p = some v :=
  (hb.cell (p := p) (by have := World.block_lt_of_cell? w _ h; simp; omega)).trans (cell_keep h _)
theorem kept_later {w w1 : World} (hb : Below w.heap.size w w1) {p : Addr} {v : Value} (h : w.cell? p = some v) : w1.cell? p = some v :=
  (hb.cell (p := p) (World.block_lt_of_cell? w _ h)).trans h
theorem below_new {B : Nat} {w w1 w2 : World} {o : Obj} (h1 : Below B w w1) (hB : B ≤ w1.heap.size) (h2 : Below (w1.alloc o).heap.size (w1.alloc o) w2) : Below B w w2 :=
  h1.trans (((Below.refl _ _).alloc hB _).trans (h2.mono (by simp; omega)))

set_option maxRecDepth 100000 in
set_option maxHeartbeats 1000000 in
theorem wakes_any (w : World) (htab : Tab w) :
    Calls Tryd.prog 11 #[] w fun e w' => e = .returned (.bool true) ∧ Below w.heap.size w w' := by
  go_enter Tryd.func11, Tryd.ntmps11
  go_wp2_with fail
  refine (wk_rev _).mono ?_
  rintro e w1 ⟨rfl, hb1⟩
  go_wp2_with fail
  refine (wk_p1 _).mono ?_
  rintro e w2 ⟨rfl, hb2⟩
  have hb02 := hb1.trans (hb2.mono hb1.size)
  have s2 := hb02.size
  clear hb1 hb2
  go_wp2_with fail
  refine (wk_p2 _).mono ?_
  rintro e w3 ⟨rfl, hb3⟩
  have r0 := new_later hb3 0 rfl
  have r1 := new_later hb3 1 rfl
  have hb03 := below_new hb02 s2 hb3
  have s3 := hb03.size
  have z3 : w2.heap.size < w3.heap.size := World.block_lt_of_cell? w3 _ r0
  clear hb3 hb02
  go_wp2_with fail
  refine (wk_next _ ((htab.below hb03 htab.lt).alloc _)).mono ?_
  rintro e w4 ⟨rfl, hb4⟩
  have r0 := old_later hb4 r0
  have r1 := old_later hb4 r1
  have hb04 := below_new hb03 s3 hb4
  have s4 := hb04.size
  clear hb4 hb03
  have n0 := cell_keep (World.cell?_alloc_new w4 #[.int .u32 1, .int .u32 (nextM 0 [] : Nat)] 28 0) (.cells #[.int .u32 1, .int .u32 2, .int .u64 3, .bool false, .int .i64 4] 46)
  have hq := cell_keep (cell_keep r0 (.cells #[.int .u32 1, .int .u32 (nextM 0 [] : Nat)] 28)) (.cells #[.int .u32 1, .int .u32 2, .int .u64 3, .bool false, .int .i64 4] 46)
  have hq1 := cell_keep (cell_keep r1 (.cells #[.int .u32 1, .int .u32 (nextM 0 [] : Nat)] 28)) (.cells #[.int .u32 1, .int .u32 2, .int .u64 3, .bool false, .int .i64 4] 46)
  have z4 : w2.heap.size < w4.heap.size := World.block_lt_of_cell? w4 _ r0
  clear r0 r1
  go_wp2_with fail
  refine (wk_enc _).mono ?_
  rintro e w5 ⟨A, n, c, rfl, hown, hb5⟩
  have r0 := kept_later hb5 hq
  have r1 := kept_later hb5 hq1
  have n0 := kept_later hb5 n0
  have i0 := new_later hb5 0 rfl
  have i1 := new_later hb5 1 rfl
  have i2 := new_later hb5 2 rfl
  have i3 := new_later hb5 3 rfl
  have i4 := new_later hb5 4 rfl
  have z5 : w4.heap.size + 1 < w5.heap.size := by have := World.block_lt_of_cell? w5 _ i0; simpa using this
  rw [show (w4.alloc (.cells #[.int .u32 1, .int .u32 (nextM 0 [] : Nat)] 28)).heap.size = w4.heap.size + 1 by simp] at i0 i1 i2 i3 i4
  have hb05 := (hb04.alloc s4 (.cells #[.int .u32 1, .int .u32 (nextM 0 [] : Nat)] 28)).trans (((Below.refl _ _).alloc (Nat.le_refl _) _).trans (hb5.mono (by simp)) |>.mono (by simp; omega))
  have s5 := hb05.size
  clear hb5 hb04 hq hq1
  obtain rfl : n = 21 := by have := hown.1; rw [List.length_map] at this; have h2 := encL_length 1 2 3 false 4; unfold kinfo at this; omega
  have hl : Bytes w5 w5.heap.size A 21 kinfo := Bytes.own hown
  have hc21 : 21 ≤ c ∧ c ≤ maxLen := by
    obtain ⟨A', c', e, h1, h2⟩ := own_form hown
    injection e with _ _ e
    subst e
    exact ⟨h1, h2⟩
  obtain ⟨b, off, rfl, hblt, _⟩ := hl.cell (k := 0) (by omega)
  clear hown
  go_wp2_with fail
  refine (wk_dec b off c w5.heap.size _ hl (Nat.le_refl _) hc21.1 hc21.2).mono ?_
  rintro e w6 ⟨rfl, hb6⟩
  have r0 := kept_later hb6 r0
  have r1 := kept_later hb6 r1
  have n0 := kept_later hb6 n0
  have i0 := kept_later hb6 i0
  have i1 := kept_later hb6 i1
  have i2 := kept_later hb6 i2
  have i3 := kept_later hb6 i3
  have i4 := kept_later hb6 i4
  have hb06 := hb05.trans (hb6.mono s5)
  have s6 := hb06.size
  have z6 : w4.heap.size + 1 < w6.heap.size := Nat.lt_of_lt_of_le z5 hb6.size
  clear hb6 hb05 hl
  have r0 := cell_keep r0 (.cells #[.int .u32 1, .int .u32 2, .int .u64 3, .bool false, .int .i64 4] 46)
  have r1 := cell_keep r1 (.cells #[.int .u32 1, .int .u32 2, .int .u64 3, .bool false, .int .i64 4] 46)
  have n0 := cell_keep n0 (.cells #[.int .u32 1, .int .u32 2, .int .u64 3, .bool false, .int .i64 4] 46)
  have i0 := cell_keep i0 (.cells #[.int .u32 1, .int .u32 2, .int .u64 3, .bool false, .int .i64 4] 46)
  have i1 := cell_keep i1 (.cells #[.int .u32 1, .int .u32 2, .int .u64 3, .bool false, .int .i64 4] 46)
  have i2 := cell_keep i2 (.cells #[.int .u32 1, .int .u32 2, .int .u64 3, .bool false, .int .i64 4] 46)
  have i3 := cell_keep i3 (.cells #[.int .u32 1, .int .u32 2, .int .u64 3, .bool false, .int .i64 4] 46)
  have i4 := cell_keep i4 (.cells #[.int .u32 1, .int .u32 2, .int .u64 3, .bool false, .int .i64 4] 46)
  go_wp2_with fail
  refine (wk_c1 _).mono ?_
  rintro e w7 ⟨rfl, rfl⟩
  go_wp2_with fail
  refine (wk_c2 _).mono ?_
  rintro e w8 ⟨rfl, rfl⟩
  go_wp2
  go_ret
  exact ⟨rfl, hb06.alloc s6 _⟩
end Go.Proofs.YtedoajiapicpnaaDoor
