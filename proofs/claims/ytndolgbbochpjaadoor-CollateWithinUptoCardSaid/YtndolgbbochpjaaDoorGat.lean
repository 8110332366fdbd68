import Derived.Test.YtndolgbbochpjaaDoorGas
import Derived.Deep.WholeRow
import Derived.Laws.EntriesVeiled
/-
  CollateWithin: the order of two elements decides the order of lists and objects that differ only there: the walk.
-/
namespace Go.Proofs.YtndolgbbochpjaaDoor
open Go.RowKit
set_option linter.unusedVariables false

set_option maxRecDepth 20000 in
set_option maxHeartbeats 8000000 in
theorem cwithin_any (w : World) (a b z : VT) (A0 : Option Addr) (n0 c0 B : Nat) (l0 : List VT) (key : ByteArray) (hB : B ≤ w.heap.size)
    (h0 : Shows w B 5 A0 n0 (l0.flatMap VT.cells)) (hl0 : ∀ x ∈ l0, Lie w B x) (hc0 : n0 ≤ c0) (hM0 : c0 ≤ maxLen) (ha : Lie w B a) (hb : Lie w B b) (hz : Lie w B z) (hks : key.size ≤ 1048576) (htab : UTab w) (hst : STab w) (hr : RTab w) :
    Calls Tryd.prog 7 #[a.agg, b.agg, .slice A0 n0 c0, z.agg, .string key] w fun e w' => e = .returned (.bool true) ∧ Below w.heap.size w w' := by
  have HTx := Lib.hid (fun W (h : Below w.heap.size w W) => (⟨htab.below h htab.lt, hst.below h hst.lt, hr.below h hr.lt⟩ : UTab W ∧ STab W ∧ RTab W))
  have HW := Lib.hid (fun W (h : Below w.heap.size w W) => cwakes_any W (HTx.out W h).1 (HTx.out W h).2.1 (HTx.out W h).2.2)
  have Hsm := Lib.hid (fun W (h : Below w.heap.size w W) => someW_any A0 n0 c0 B l0 W (h0.below (h.mono hB)) (Nat.le_trans hB h.size) hc0 hM0)
  have hml : min n0 20 ≤ 20 := by omega
  have hlie : ∀ x ∈ l0.take (min n0 20), Lie w B x := fun x hx => hl0 x (List.mem_of_mem_take hx)
  generalize min n0 20 = m at *
  generalize l0.take m = L at *
  have HLie := Lib.hid (fun x (hx : x ∈ L) W (h : Below w.heap.size w W) => (((hlie x hx).later (h.mono hB)).more (Nat.le_trans hB h.size) : Lie W W.heap.size x))
  have HLa := Lib.hid (fun W (h : Below w.heap.size w W) => ((ha.later (h.mono hB)).more (Nat.le_trans hB h.size) : Lie W W.heap.size a))
  have HLb := Lib.hid (fun W (h : Below w.heap.size w W) => ((hb.later (h.mono hB)).more (Nat.le_trans hB h.size) : Lie W W.heap.size b))
  have HLz := Lib.hid (fun W (h : Below w.heap.size w W) => ((hz.later (h.mono hB)).more (Nat.le_trans hB h.size) : Lie W W.heap.size z))
  have Hcmp := Lib.hid (fun W (h : Below w.heap.size w W) => compareT_any a b W.heap.size W (HLa.out W h) (HLb.out W h) (Nat.le_refl _) (HTx.out W h).1 (HTx.out W h).2.1 (HTx.out W h).2.2)
  obtain ⟨nn, fe, hcT, HP0⟩ := cmpT_cases a b
  rw [hcT] at Hcmp
  have HP1 := Lib.hid HP0
  have HRow := Lib.hid (fun (h : (a.ok && b.ok) = true) => (by
    simp only [Bool.and_eq_true] at h
    exact rowIn_ins (ok_szd ha h.1) (ok_szd hb h.2) : InsP (RowIn L m z) a b))
  have HObj := Lib.hid (fun (h : (a.ok && b.ok) = true) => (by
    simp only [Bool.and_eq_true] at h
    exact objIn_ins (ok_szd ha h.1) (ok_szd hb h.2) : InsP (ObjIn key (key ++ ⟨#[122]⟩) z) a b))
  have HpR := Lib.hid (fun (x : VT) (hx : x = a ∨ x = b) (g : Nat) (A : Option Addr) (c : Nat) W (h : Below w.heap.size w W) (h1 : W.cell? ⟨g + 1 + 1, 0, none⟩ = some (.slice A m c)) (h2 : Shows W W.heap.size 5 A m (L.flatMap VT.cells)) (h3 : VBox W (g + 1 + 1 + 1) z) =>
    putRow_any W x z (g + 1 + 1) (g + 1 + 1 + 1) A m c W.heap.size L h1 h2 (fun y hy => HLie.out y hy W h) (Nat.le_refl _) (by omega) h3 (by rcases hx with rfl | rfl; exact HLa.out W h; exact HLb.out W h) (HLz.out W h))
  have HpO := Lib.hid (fun (x : VT) (hx : x = a ∨ x = b) (g : Nat) W (h : Below w.heap.size w W) (h1 : W.cell? ⟨g + 1 + 1 + 1 + 1, 0, none⟩ = some (.string key)) (h3 : VBox W (g + 1 + 1 + 1) z) =>
    putObj_any W x z (g + 1 + 1 + 1 + 1) (g + 1 + 1 + 1) key W.heap.size h1 hks (Nat.le_refl _) h3 (by rcases hx with rfl | rfl; exact HLa.out W h; exact HLb.out W h) (HLz.out W h))
  have HRa := Lib.hid (HpR.out a (.inl rfl))
  have HRb := Lib.hid (HpR.out b (.inr rfl))
  have HOa := Lib.hid (HpO.out a (.inl rfl))
  have HOb := Lib.hid (HpO.out b (.inr rfl))
  have Hal := Lib.hid (HP1.out)
  generalize hRo : RowIn L m z = RR at *
  generalize hOb : ObjIn key (key ++ ⟨#[122]⟩) z = OO at *
  clear HP0 HP1 hcT htab hst hr h0 hl0 hlie hc0 hM0 hB ha hb hz HLa HLb HLz HLie HpR HpO hRo hOb
  have HbZ := Lib.hid (fun (W : World) (g : Nat) (h : VBox W g z) => h)
  obtain ⟨ak, an, aS, acA, acn, acc, akA, akn, akc, akeys, akids⟩ := a
  obtain ⟨bk, bn, bS, bcA, bcn, bcc, bkA, bkn, bkc, bkeys, bkids⟩ := b
  obtain ⟨zk, zn, zS, zcA, zcn, zcc, zkA, zkn, zkc, zkeys, zkids⟩ := z
  simp only [VT.agg] at *
  have hb5 := bel_alloc (bel_alloc (bel_alloc (bel_alloc (bel_alloc (Below.refl w.heap.size w) (.cells #[.int .i64 ak, .int .i64 an, .string aS, .slice acA acn acc, .slice akA akn akc] 25)) (.cells #[.int .i64 bk, .int .i64 bn, .string bS, .slice bcA bcn bcc, .slice bkA bkn bkc] 25)) (.cells #[.slice A0 n0 c0] 22)) (.cells #[.int .i64 zk, .int .i64 zn, .string zS, .slice zcA zcn zcc, .slice zkA zkn zkc] 25)) (.cells #[.string key] 9)
  have HA0 := Lib.hid (((((VFive.new w (.int .i64 ak) (.int .i64 an) (.string aS) (.slice acA acn acc) (.slice akA akn akc) 25 w.heap.size rfl).alloc (.cells #[.int .i64 bk, .int .i64 bn, .string bS, .slice bcA bcn bcc, .slice bkA bkn bkc] 25)).alloc (.cells #[.slice A0 n0 c0] 22)).alloc (.cells #[.int .i64 zk, .int .i64 zn, .string zS, .slice zcA zcn zcc, .slice zkA zkn zkc] 25)).alloc (.cells #[.string key] 9))
  have HB0 := Lib.hid ((((VFive.new (w.alloc (.cells #[.int .i64 ak, .int .i64 an, .string aS, .slice acA acn acc, .slice akA akn akc] 25)) (.int .i64 bk) (.int .i64 bn) (.string bS) (.slice bcA bcn bcc) (.slice bkA bkn bkc) 25 (w.heap.size + 1) (World.size_alloc _ _)).alloc (.cells #[.slice A0 n0 c0] 22)).alloc (.cells #[.int .i64 zk, .int .i64 zn, .string zS, .slice zcA zcn zcc, .slice zkA zkn zkc] 25)).alloc (.cells #[.string key] 9))
  have HH0 := Lib.hid (show (((((w.alloc (.cells #[.int .i64 ak, .int .i64 an, .string aS, .slice acA acn acc, .slice akA akn akc] 25)).alloc (.cells #[.int .i64 bk, .int .i64 bn, .string bS, .slice bcA bcn bcc, .slice bkA bkn bkc] 25)).alloc (.cells #[.slice A0 n0 c0] 22)).alloc (.cells #[.int .i64 zk, .int .i64 zn, .string zS, .slice zcA zcn zcc, .slice zkA zkn zkc] 25)).alloc (.cells #[.string key] 9)).cell? ⟨w.heap.size + 1 + 1, 0, none⟩ = some (.slice A0 n0 c0) ∧ (((((w.alloc (.cells #[.int .i64 ak, .int .i64 an, .string aS, .slice acA acn acc, .slice akA akn akc] 25)).alloc (.cells #[.int .i64 bk, .int .i64 bn, .string bS, .slice bcA bcn bcc, .slice bkA bkn bkc] 25)).alloc (.cells #[.slice A0 n0 c0] 22)).alloc (.cells #[.int .i64 zk, .int .i64 zn, .string zS, .slice zcA zcn zcc, .slice zkA zkn zkc] 25)).alloc (.cells #[.string key] 9)).frozen? ⟨w.heap.size + 1 + 1, 0, none⟩ = false from ⟨by simp [go_sem], by simp [go_sem]⟩)
  have HZ0 := Lib.hid ((VFive.new (((w.alloc (.cells #[.int .i64 ak, .int .i64 an, .string aS, .slice acA acn acc, .slice akA akn akc] 25)).alloc (.cells #[.int .i64 bk, .int .i64 bn, .string bS, .slice bcA bcn bcc, .slice bkA bkn bkc] 25)).alloc (.cells #[.slice A0 n0 c0] 22)) (.int .i64 zk) (.int .i64 zn) (.string zS) (.slice zcA zcn zcc) (.slice zkA zkn zkc) 25 (w.heap.size + 1 + 1 + 1) (by simp)).alloc (.cells #[.string key] 9))
  have HK0 := Lib.hid (show (((((w.alloc (.cells #[.int .i64 ak, .int .i64 an, .string aS, .slice acA acn acc, .slice akA akn akc] 25)).alloc (.cells #[.int .i64 bk, .int .i64 bn, .string bS, .slice bcA bcn bcc, .slice bkA bkn bkc] 25)).alloc (.cells #[.slice A0 n0 c0] 22)).alloc (.cells #[.int .i64 zk, .int .i64 zn, .string zS, .slice zcA zcn zcc, .slice zkA zkn zkc] 25)).alloc (.cells #[.string key] 9)).cell? ⟨w.heap.size + 1 + 1 + 1 + 1, 0, none⟩ = some (.string key) from by simp [go_sem])
  have hz5 : Array.size (World.heap (((((w.alloc (.cells #[.int .i64 ak, .int .i64 an, .string aS, .slice acA acn acc, .slice akA akn akc] 25)).alloc (.cells #[.int .i64 bk, .int .i64 bn, .string bS, .slice bcA bcn bcc, .slice bkA bkn bkc] 25)).alloc (.cells #[.slice A0 n0 c0] 22)).alloc (.cells #[.int .i64 zk, .int .i64 zn, .string zS, .slice zcA zcn zcc, .slice zkA zkn zkc] 25)).alloc (.cells #[.string key] 9))) = w.heap.size + 5 := by simp
  go_enter Tryd.func7, Tryd.ntmps7
  go_upto_region 1 with fail
  generalize (((((w.alloc (.cells #[.int .i64 ak, .int .i64 an, .string aS, .slice acA acn acc, .slice akA akn akc] 25)).alloc (.cells #[.int .i64 bk, .int .i64 bn, .string bS, .slice bcA bcn bcc, .slice bkA bkn bkc] 25)).alloc (.cells #[.slice A0 n0 c0] 22)).alloc (.cells #[.int .i64 zk, .int .i64 zn, .string zS, .slice zcA zcn zcc, .slice zkA zkn zkc] 25)).alloc (.cells #[.string key] 9)) = w0 at *
  generalize hg0 : w.heap.size = g at *
  go_wp2_with fail
  refine (HW.out _ hb5).mono ?_
  rintro e w1 ⟨rfl, hb1⟩
  have hbw1 := hb5.trans (hb1.mono (by omega))
  have HA1 := Lib.hid (HA0.out.later hb1)
  have HB1 := Lib.hid (HB0.out.later hb1)
  have HZ1 := Lib.hid (HZ0.out.later hb1)
  have HH1 := Lib.hid (show w1.cell? ⟨g + 1 + 1, 0, none⟩ = some (.slice A0 n0 c0) ∧ w1.frozen? ⟨g + 1 + 1, 0, none⟩ = false from ⟨kept_later hb1 HH0.out.1, (hb1.frozen (p := ⟨g + 1 + 1, 0, none⟩) (World.block_lt_of_cell? _ _ HH0.out.1)).trans HH0.out.2⟩)
  have HK1 := Lib.hid (kept_later hb1 HK0.out)
  have hz1 : g + 5 ≤ w1.heap.size := by have := hb1.size; omega
  obtain ⟨⟨a0, a1, a2, a3, a4⟩, -⟩ := HA1.out
  obtain ⟨⟨b0, b1, b2, b3, b4⟩, -⟩ := HB1.out
  clear HA0 HB0 HZ0 HH0 HK0 hz5 hb1 hb5 HW
  go_wp2_with fail
  refine (Hcmp.out _ hbw1).mono ?_
  rintro e w2 ⟨rfl, hb2⟩
  have hbw2 := hbw1.trans (hb2.mono (by omega))
  have HA2 := Lib.hid (HA1.out.later hb2)
  have HB2 := Lib.hid (HB1.out.later hb2)
  have HZ2 := Lib.hid (HZ1.out.later hb2)
  obtain ⟨h2c, h2f⟩ := show w2.cell? ⟨g + 1 + 1, 0, none⟩ = some (.slice A0 n0 c0) ∧ w2.frozen? ⟨g + 1 + 1, 0, none⟩ = false from ⟨kept_later hb2 HH1.out.1, (hb2.frozen (p := ⟨g + 1 + 1, 0, none⟩) (World.block_lt_of_cell? _ _ HH1.out.1)).trans HH1.out.2⟩
  have HK2 := Lib.hid (kept_later hb2 HK1.out)
  have hz2 : g + 5 ≤ w2.heap.size := by have := hb2.size; omega
  clear a0 a1 a2 a3 a4 b0 b1 b2 b3 b4 HA1 HB1 HZ1 HH1 HK1 hb2 hz1 hbw1 Hcmp
  rcases Hal.out with ⟨hok, hnn, rfl⟩ | ⟨hok, rfl, rfl⟩
  rotate_left
  · clear Hsm HRow HObj HRa HRb HOa HOb Hal hok
    go_wp2
    go_ret
    exact ⟨rfl, by rw [hg0]; exact hbw2⟩
  have HRw := Lib.hid (HRow.out hok)
  have HOw := Lib.hid (HObj.out hok)
  have Hnn := Lib.hid hnn
  clear HRow HObj Hal hok hnn
  go_wp2_with fail
  refine (Hsm.out _ hbw2).mono ?_
  rintro e w3 ⟨A1, c1, rfl, HS3, hb3⟩
  have hbw3 := hbw2.trans (hb3.mono (by omega))
  have HA3 := Lib.hid (HA2.out.later hb3)
  have HB3 := Lib.hid (HB2.out.later hb3)
  have HZ3 := Lib.hid (HZ2.out.later hb3)
  obtain ⟨h3c, h3f⟩ := show w3.cell? ⟨g + 1 + 1, 0, none⟩ = some (.slice A0 n0 c0) ∧ w3.frozen? ⟨g + 1 + 1, 0, none⟩ = false from ⟨kept_later hb3 h2c, (hb3.frozen (p := ⟨g + 1 + 1, 0, none⟩) (World.block_lt_of_cell? _ _ h2c)).trans h2f⟩
  have HK3 := Lib.hid (kept_later hb3 HK2.out)
  have hz3 : g + 5 ≤ w3.heap.size := by have := hb3.size; omega
  clear h2c h2f HA2 HB2 HZ2 HK2 hb3 Hsm
  go_upto_region 7 with fail
  have HA4 := Lib.hid (show VFive (w3.setCell ⟨g + 1 + 1, 0, none⟩ (.slice A1 m c1)) g (.int .i64 ak) (.int .i64 an) (.string aS) (.slice acA acn acc) (.slice akA akn akc) from HA3.out.keep (Below.heap_setCell _ _ _ _ (by dsimp only; omega)))
  have HB4 := Lib.hid (show VFive (w3.setCell ⟨g + 1 + 1, 0, none⟩ (.slice A1 m c1)) (g + 1) (.int .i64 bk) (.int .i64 bn) (.string bS) (.slice bcA bcn bcc) (.slice bkA bkn bkc) from HB3.out.keep (Below.heap_setCell _ _ _ _ (by dsimp only; omega)))
  have HZ4 := Lib.hid (show VFive (w3.setCell ⟨g + 1 + 1, 0, none⟩ (.slice A1 m c1)) (g + 1 + 1 + 1) (.int .i64 zk) (.int .i64 zn) (.string zS) (.slice zcA zcn zcc) (.slice zkA zkn zkc) from HZ3.out.keep (Below.heap_setCell _ _ _ _ (by dsimp only; omega)))
  have HH4 := Lib.hid (show (w3.setCell ⟨g + 1 + 1, 0, none⟩ (.slice A1 m c1)).cell? ⟨g + 1 + 1, 0, none⟩ = some (.slice A1 m c1) from by simp [go_sem, h3c])
  have HK4 := Lib.hid (show (w3.setCell ⟨g + 1 + 1, 0, none⟩ (.slice A1 m c1)).cell? ⟨g + 1 + 1 + 1 + 1, 0, none⟩ = some (.string key) from (World.cell?_setCell_other w3 _ _ _ (fun e => by injection e with e1 e2; omega)).trans HK3.out)
  have HS4 := Lib.hid (own_set (i := 0) (u := .slice A1 m c1) HS3.out (show g + 1 + 1 < w2.heap.size by omega))
  have hbw4 : Below g w (w3.setCell ⟨g + 1 + 1, 0, none⟩ (.slice A1 m c1)) := hbw3.setCell (by show g ≤ g + 1 + 1; omega) _
  have hz4 : g + 5 ≤ (w3.setCell ⟨g + 1 + 1, 0, none⟩ (.slice A1 m c1)).heap.size := by simpa [World.setCell] using hz3
  generalize (w3.setCell ⟨g + 1 + 1, 0, none⟩ (.slice A1 m c1)) = w4 at *
  clear h3c h3f HA3 HB3 HZ3 HK3 HS3 hbw3 hz3 hz2 hbw2
  go_upto_region 9 with fail
  have hbn : Below w4.heap.size w4 (w4.alloc (.cells #[(.func (.func 26) #[] #[.pointer (some ⟨g + 1 + 1, 0, none⟩), .pointer (some ⟨g + 1 + 1 + 1, 0, none⟩)]), (.func (.func 28) #[] #[.pointer (some ⟨g + 1 + 1 + 1 + 1, 0, none⟩), .pointer (some ⟨g + 1 + 1 + 1, 0, none⟩)])] 47)) := (Below.refl _ _).alloc (Nat.le_refl _) _
  have hbw5 : Below g w (w4.alloc (.cells #[(.func (.func 26) #[] #[.pointer (some ⟨g + 1 + 1, 0, none⟩), .pointer (some ⟨g + 1 + 1 + 1, 0, none⟩)]), (.func (.func 28) #[] #[.pointer (some ⟨g + 1 + 1 + 1 + 1, 0, none⟩), .pointer (some ⟨g + 1 + 1 + 1, 0, none⟩)])] 47)) := hbw4.alloc (by omega) _
  have HF0 := Lib.hid (show (w4.alloc (.cells #[(.func (.func 26) #[] #[.pointer (some ⟨g + 1 + 1, 0, none⟩), .pointer (some ⟨g + 1 + 1 + 1, 0, none⟩)]), (.func (.func 28) #[] #[.pointer (some ⟨g + 1 + 1 + 1 + 1, 0, none⟩), .pointer (some ⟨g + 1 + 1 + 1, 0, none⟩)])] 47)).cell? ⟨w4.heap.size, 0, none⟩ = some (.func (.func 26) #[] #[.pointer (some ⟨g + 1 + 1, 0, none⟩), .pointer (some ⟨g + 1 + 1 + 1, 0, none⟩)]) from by simp [go_sem])
  have HF1 := Lib.hid (show (w4.alloc (.cells #[(.func (.func 26) #[] #[.pointer (some ⟨g + 1 + 1, 0, none⟩), .pointer (some ⟨g + 1 + 1 + 1, 0, none⟩)]), (.func (.func 28) #[] #[.pointer (some ⟨g + 1 + 1 + 1 + 1, 0, none⟩), .pointer (some ⟨g + 1 + 1 + 1, 0, none⟩)])] 47)).cell? ⟨w4.heap.size, 1, none⟩ = some (.func (.func 28) #[] #[.pointer (some ⟨g + 1 + 1 + 1 + 1, 0, none⟩), .pointer (some ⟨g + 1 + 1 + 1, 0, none⟩)]) from by simp [go_sem])
  have hz7 : g ≤ (w4.alloc (.cells #[(.func (.func 26) #[] #[.pointer (some ⟨g + 1 + 1, 0, none⟩), .pointer (some ⟨g + 1 + 1 + 1, 0, none⟩)]), (.func (.func 28) #[] #[.pointer (some ⟨g + 1 + 1 + 1 + 1, 0, none⟩), .pointer (some ⟨g + 1 + 1 + 1, 0, none⟩)])] 47)).heap.size := by rw [World.size_alloc]; omega
  go_wp2
  generalize (w4.alloc (.cells #[(.func (.func 26) #[] #[.pointer (some ⟨g + 1 + 1, 0, none⟩), .pointer (some ⟨g + 1 + 1 + 1, 0, none⟩)]), (.func (.func 28) #[] #[.pointer (some ⟨g + 1 + 1 + 1 + 1, 0, none⟩), .pointer (some ⟨g + 1 + 1 + 1, 0, none⟩)])] 47)) = w5 at *
  have la0 : ∀ W, Below w5.heap.size w5 W → W.cell? ⟨g, 0, none⟩ = some (.int .i64 ak) := fun W h => kept_later (bel_next hbn h) HA4.out.1.1
  have la1 : ∀ W, Below w5.heap.size w5 W → W.cell? ⟨g, 1, none⟩ = some (.int .i64 an) := fun W h => kept_later (bel_next hbn h) HA4.out.1.2.1
  have la2 : ∀ W, Below w5.heap.size w5 W → W.cell? ⟨g, 2, none⟩ = some (.string aS) := fun W h => kept_later (bel_next hbn h) HA4.out.1.2.2.1
  have la3 : ∀ W, Below w5.heap.size w5 W → W.cell? ⟨g, 3, none⟩ = some (.slice acA acn acc) := fun W h => kept_later (bel_next hbn h) HA4.out.1.2.2.2.1
  have la4 : ∀ W, Below w5.heap.size w5 W → W.cell? ⟨g, 4, none⟩ = some (.slice akA akn akc) := fun W h => kept_later (bel_next hbn h) HA4.out.1.2.2.2.2
  have lb0 : ∀ W, Below w5.heap.size w5 W → W.cell? ⟨g + 1, 0, none⟩ = some (.int .i64 bk) := fun W h => kept_later (bel_next hbn h) HB4.out.1.1
  have lb1 : ∀ W, Below w5.heap.size w5 W → W.cell? ⟨g + 1, 1, none⟩ = some (.int .i64 bn) := fun W h => kept_later (bel_next hbn h) HB4.out.1.2.1
  have lb2 : ∀ W, Below w5.heap.size w5 W → W.cell? ⟨g + 1, 2, none⟩ = some (.string bS) := fun W h => kept_later (bel_next hbn h) HB4.out.1.2.2.1
  have lb3 : ∀ W, Below w5.heap.size w5 W → W.cell? ⟨g + 1, 3, none⟩ = some (.slice bcA bcn bcc) := fun W h => kept_later (bel_next hbn h) HB4.out.1.2.2.2.1
  have lb4 : ∀ W, Below w5.heap.size w5 W → W.cell? ⟨g + 1, 4, none⟩ = some (.slice bkA bkn bkc) := fun W h => kept_later (bel_next hbn h) HB4.out.1.2.2.2.2
  have HT5 := Lib.hid (fun W (h : Below w5.heap.size w5 W) => HTx.out W (hbw5.trans (h.mono (by omega))))
  have HRa5 := Lib.hid (fun W (h : Below w5.heap.size w5 W) => HRa.out g A1 c1 W (hbw5.trans (h.mono (by omega))) (kept_later (bel_next hbn h) HH4.out) (Shows.own (own_later HS4.out (bel_next hbn h))) (VFive.later HZ4.out (bel_next hbn h)))
  have HRb5 := Lib.hid (fun W (h : Below w5.heap.size w5 W) => HRb.out g A1 c1 W (hbw5.trans (h.mono (by omega))) (kept_later (bel_next hbn h) HH4.out) (Shows.own (own_later HS4.out (bel_next hbn h))) (VFive.later HZ4.out (bel_next hbn h)))
  have HOa5 := Lib.hid (fun W (h : Below w5.heap.size w5 W) => HOa.out g W (hbw5.trans (h.mono (by omega))) (kept_later (bel_next hbn h) HK4.out) (VFive.later HZ4.out (bel_next hbn h)))
  have HOb5 := Lib.hid (fun W (h : Below w5.heap.size w5 W) => HOb.out g W (hbw5.trans (h.mono (by omega))) (kept_later (bel_next hbn h) HK4.out) (VFive.later HZ4.out (bel_next hbn h)))
  have HRc := Lib.hid (fun X Y h1 h2 h3 => (HRw.out.1 X Y h1 h2 h3).trans Hnn.out.symm)
  have HRs := Lib.hid HRw.out.2
  have HOc := Lib.hid (fun X Y h1 h2 h3 => (HOw.out.1 X Y h1 h2 h3).trans Hnn.out.symm)
  have HOs := Lib.hid HOw.out.2
  generalize w4.heap.size = g4 at *
  clear HA4 HB4 HZ4 HH4 HK4 HS4 hbn hbw4 hz4 HTx HRa HRb HOa HOb HRw HOw Hnn hml hks HbZ
  go_loopw [45] (fun i wr => ∃ j : Nat, j ≤ 2 ∧ i = .int .i64 j ∧ Below w5.heap.size w5 wr) (fun i _ => 2 - (intOf i).toNat)
  case atStart => exact ⟨0, Nat.zero_le _, rfl, Below.refl _ _⟩
  case round =>
    obtain ⟨j, hj, rfl, hbr⟩ := hrel
    rename World => wr
    obtain rfl | rfl | rfl : j = 0 ∨ j = 1 ∨ j = 2 := by omega
    · have hf := kept_later hbr HF0.out
      clear hj
      go_upto_region 12 with fail
      clear hf
      refine wp_region_held_drew (S := fun W => Below w5.heap.size w5 W) (by kernel_rfl) (below_drewN hbr 1) (fun hHeld => ?_)
      refine rg_in 0 rfl (by kernel_rfl) (by kernel_rfl) (by kernel_rfl) (by rfl) (v := ?_) (fun _ _ _ h => h) hHeld (fun w hSw => ?_) ?_
      rotate_left
      · (try dsimp only at hSw); go_simp <;> (with_reducible rfl)
      (try simp only [Act.put, List.setIfInBounds_toArray, List.set_cons_zero, List.set_cons_succ])
      refine rg_in 1 rfl (by kernel_rfl) (by kernel_rfl) (by kernel_rfl) (by rfl) (v := ?_) (fun _ _ _ h => h) hHeld (fun w hSw => ?_) ?_
      rotate_left
      · (try dsimp only at hSw); go_simp <;> (with_reducible rfl)
      (try simp only [Act.put, List.setIfInBounds_toArray, List.set_cons_zero, List.set_cons_succ])
      refine rg_in 3 rfl (by kernel_rfl) (by kernel_rfl) (by kernel_rfl) (by rfl) (v := ?_) (fun _ _ _ h => h) hHeld (fun w hSw => ?_) ?_
      rotate_left
      · (try dsimp only at hSw); go_simp <;> (with_reducible rfl)
      (try simp only [Act.put, List.setIfInBounds_toArray, List.set_cons_zero, List.set_cons_succ])
      refine rg_in 4 rfl (by kernel_rfl) (by kernel_rfl) (by kernel_rfl) (by rfl) (v := ?_) (fun _ _ _ h => h) hHeld (fun w hSw => ?_) ?_
      rotate_left
      · (try dsimp only at hSw); go_simp <;> (with_reducible rfl)
      (try simp only [Act.put, List.setIfInBounds_toArray, List.set_cons_zero, List.set_cons_succ])
      refine rg_do 2 rfl (by kernel_rfl) (by rfl) (fun K hK => ?_)
      go_simp
      (go_at_call 26; (with_reducible refine (HRa5.out _ hHeld).mono ?_); (rintro e w102 ⟨X, rfl, Hx, HLx, hb2⟩))
      obtain ⟨xk, xn, xs, xcA, xcn, xcc, xkA, xkn, xkc, xkeys, xkids⟩ := X
      (try dsimp only)
      refine hK.out _ _ (S_call hb2 hHeld rfl) (fun hHeld => ?_)
      clear hK K
      (try simp only [Act.put, List.setIfInBounds_toArray, List.set_cons_zero, List.set_cons_succ])
      refine rg_do 5 rfl (by kernel_rfl) (by rfl) (fun K hK => ?_)
      go_simp
      (go_at_call 26; (with_reducible refine (HRb5.out _ hHeld).mono ?_); (rintro e w105 ⟨X, rfl, Hy, HLy, hb5⟩))
      obtain ⟨yk, yn, ys, ycA, ycn, ycc, ykA, ykn, ykc, ykeys, ykids⟩ := X
      (try dsimp only)
      refine hK.out _ _ (S_call hb5 hHeld rfl) (fun hHeld => ?_)
      clear hK K
      (try simp only [Act.put, List.setIfInBounds_toArray, List.set_cons_zero, List.set_cons_succ])
      refine rg_do 6 rfl (by kernel_rfl) (by rfl) (fun K hK => ?_)
      have hcq := compareP_any (.mk xk xn xs xcA xcn xcc xkA xkn xkc xkeys xkids) (.mk yk yn ys ycA ycn ycc ykA ykn ykc ykeys ykids) w105.heap.size w105 ((HLx.later hb5).more hb5.size) HLy (Nat.le_refl _) (HT5.out _ hHeld).1 (HT5.out _ hHeld).2.1 (HT5.out _ hHeld).2.2
      simp only [VT.agg] at hcq
      go_simp
      (go_at_call 11; (with_reducible refine hcq.mono ?_); (rintro e w106 ⟨u, f, rfl, HP, hb6⟩))
      refine hK.out _ _ (S_call hb6 hHeld rfl) (fun hHeld => ?_)
      clear hK K
      (try simp only [Act.put, List.setIfInBounds_toArray, List.set_cons_zero, List.set_cons_succ])
      refine rg_in 7 rfl (by kernel_rfl) (by kernel_rfl) (by kernel_rfl) (by rfl) (v := ?_) (fun _ _ _ h => h) hHeld (fun w hSw => ?_) ?_
      rotate_left
      · (try dsimp only at hSw); go_simp <;> (with_reducible rfl)
      (try simp only [Act.put, List.setIfInBounds_toArray, List.set_cons_zero, List.set_cons_succ])
      refine rg_in 8 rfl (by kernel_rfl) (by kernel_rfl) (by kernel_rfl) (by rfl) (v := ?_) (fun _ _ _ h => h) hHeld (fun w hSw => ?_) ?_
      rotate_left
      · (try dsimp only at hSw); go_simp <;> (with_reducible rfl)
      (try simp only [Act.put, List.setIfInBounds_toArray, List.set_cons_zero, List.set_cons_succ])
      refine rg_in 9 rfl (by kernel_rfl) (by kernel_rfl) (by kernel_rfl) (by rfl) (v := ?_) (fun _ _ _ h => h) hHeld (fun w hSw => ?_) ?_
      rotate_left
      · (try dsimp only at hSw); go_simp <;> (with_reducible rfl)
      (try simp only [Act.put, List.setIfInBounds_toArray, List.set_cons_zero, List.set_cons_succ])
      refine rg_in 10 rfl (by kernel_rfl) (by kernel_rfl) (by kernel_rfl) (by rfl) (v := ?_) (fun _ _ _ h => h) hHeld (fun w hSw => ?_) ?_
      rotate_left
      · (try dsimp only at hSw); go_simp <;> (with_reducible rfl)
      (try simp only [Act.put, List.setIfInBounds_toArray, List.set_cons_zero, List.set_cons_succ])
      refine rg_in 11 rfl (by kernel_rfl) (by kernel_rfl) (by kernel_rfl) (by rfl) (v := ?_) (fun _ _ _ h => h) hHeld (fun w hSw => ?_) ?_
      rotate_left
      · (try dsimp only at hSw); go_simp <;> (with_reducible rfl)
      (try simp only [Act.put, List.setIfInBounds_toArray, List.set_cons_zero, List.set_cons_succ])
      refine wpAnyH_done (by kernel_rfl) ?_ _
      have hbm := hHeld
      obtain ⟨bx, by', ox, oy, hTT, hFF⟩ := cmpW_bits HP.out
      clear HP hcq hb2 hb5 hb6 HLx HLy hHeld
      cases bx <;> cases by'
      · obtain ⟨rfl, rfl⟩ := hFF rfl
        clear hTT hFF
        go_upto_region 15 with fail
        refine wp_region_held_drew (S := fun W => Below w5.heap.size w5 W) (by kernel_rfl) (below_drewN hbm 1) (fun hHeld => ?_)
        refine rg_in 0 rfl (by kernel_rfl) (by kernel_rfl) (by kernel_rfl) (by rfl) (v := ?_) (fun _ _ _ h => h) hHeld (fun w hSw => ?_) ?_
        rotate_left
        · (try dsimp only at hSw); go_simp <;> (with_reducible rfl)
        (try simp only [Act.put, List.setIfInBounds_toArray, List.set_cons_zero, List.set_cons_succ])
        refine rg_in 1 rfl (by kernel_rfl) (by kernel_rfl) (by kernel_rfl) (by rfl) (v := ?_) (fun _ _ _ h => h) hHeld (fun w hSw => ?_) ?_
        rotate_left
        · (try dsimp only at hSw); go_simp <;> (with_reducible rfl)
        (try simp only [Act.put, List.setIfInBounds_toArray, List.set_cons_zero, List.set_cons_succ])
        refine rg_in 5 rfl (by kernel_rfl) (by kernel_rfl) (by kernel_rfl) (by rfl) (v := ?_) (fun _ _ _ h => h) hHeld (fun w hSw => ?_) ?_
        rotate_left
        · (try dsimp only at hSw); go_simp <;> (with_reducible rfl)
        (try simp only [Act.put, List.setIfInBounds_toArray, List.set_cons_zero, List.set_cons_succ])
        refine rg_in 6 rfl (by kernel_rfl) (by kernel_rfl) (by kernel_rfl) (by rfl) (v := ?_) (fun _ _ _ h => h) hHeld (fun w hSw => ?_) ?_
        rotate_left
        · (try dsimp only at hSw); go_simp <;> (with_reducible rfl)
        (try simp only [Act.put, List.setIfInBounds_toArray, List.set_cons_zero, List.set_cons_succ])
        refine rg_do 2 rfl (by kernel_rfl) (by rfl) (fun K hK => ?_)
        go_simp
        (go_at_call 26; (with_reducible refine (HRa5.out _ hHeld).mono ?_); (rintro e w102 ⟨X, rfl, Hp, HLp, hb2⟩))
        obtain ⟨pk, pn, ps, pcA, pcn, pcc, pkA, pkn, pkc, pkeys, pkids⟩ := X
        (try dsimp only)
        refine hK.out _ _ (S_call hb2 hHeld rfl) (fun hHeld => ?_)
        clear hK K
        (try simp only [Act.put, List.setIfInBounds_toArray, List.set_cons_zero, List.set_cons_succ])
        refine rg_do 3 rfl (by kernel_rfl) (by rfl) (fun K hK => ?_)
        have hck := vcheck_any _ _ (.mk pk pn ps pcA pcn pcc pkA pkn pkc pkeys pkids) HLp (Nat.le_refl _) (HT5.out _ hHeld).1 (HT5.out _ hHeld).2.1
        rw [(HRs.out _ _ _ Hp.out Hx.out).trans ox, if_neg (by decide)] at hck
        simp only [VT.agg] at hck
        go_simp
        (go_at_call 29; (with_reducible refine hck.mono ?_); (rintro e w103 ⟨rfl, hb3⟩))
        clear hck
        refine hK.out _ _ (S_call hb3 hHeld rfl) (fun hHeld => ?_)
        clear hK K
        (try simp only [Act.put, List.setIfInBounds_toArray, List.set_cons_zero, List.set_cons_succ])
        refine rg_in 4 rfl (by kernel_rfl) (by kernel_rfl) (by kernel_rfl) (by rfl) (v := ?_) (fun _ _ _ h => h) hHeld (fun w hSw => ?_) ?_
        rotate_left
        · (try dsimp only at hSw); go_simp <;> (with_reducible rfl)
        (try simp only [Act.put, List.setIfInBounds_toArray, List.set_cons_zero, List.set_cons_succ])
        refine rg_do 7 rfl (by kernel_rfl) (by rfl) (fun K hK => ?_)
        go_simp
        (go_at_call 26; (with_reducible refine (HRb5.out _ hHeld).mono ?_); (rintro e w107 ⟨X, rfl, Hq, HLq, hb7⟩))
        obtain ⟨qk, qn, qs, qcA, qcn, qcc, qkA, qkn, qkc, qkeys, qkids⟩ := X
        (try dsimp only)
        refine hK.out _ _ (S_call hb7 hHeld rfl) (fun hHeld => ?_)
        clear hK K
        (try simp only [Act.put, List.setIfInBounds_toArray, List.set_cons_zero, List.set_cons_succ])
        refine rg_do 8 rfl (by kernel_rfl) (by rfl) (fun K hK => ?_)
        have hck := vcheck_any _ _ (.mk qk qn qs qcA qcn qcc qkA qkn qkc qkeys qkids) HLq (Nat.le_refl _) (HT5.out _ hHeld).1 (HT5.out _ hHeld).2.1
        rw [(HRs.out _ _ _ Hq.out Hy.out).trans oy, if_neg (by decide)] at hck
        simp only [VT.agg] at hck
        go_simp
        (go_at_call 29; (with_reducible refine hck.mono ?_); (rintro e w108 ⟨rfl, hb8⟩))
        clear hck
        refine hK.out _ _ (S_call hb8 hHeld rfl) (fun hHeld => ?_)
        clear hK K
        (try simp only [Act.put, List.setIfInBounds_toArray, List.set_cons_zero, List.set_cons_succ])
        refine rg_in 9 rfl (by kernel_rfl) (by kernel_rfl) (by kernel_rfl) (by rfl) (v := ?_) (fun _ _ _ h => h) hHeld (fun w hSw => ?_) ?_
        rotate_left
        · (try dsimp only at hSw); go_simp <;> (with_reducible rfl)
        (try simp only [Act.put, List.setIfInBounds_toArray, List.set_cons_zero, List.set_cons_succ])
        refine rg_in 10 rfl (by kernel_rfl) (by kernel_rfl) (by kernel_rfl) (by rfl) (v := ?_) (fun _ _ _ h => h) hHeld (fun w hSw => ?_) ?_
        rotate_left
        · (try dsimp only at hSw); go_simp <;> (with_reducible rfl)
        (try simp only [Act.put, List.setIfInBounds_toArray, List.set_cons_zero, List.set_cons_succ])
        refine rg_in 11 rfl (by kernel_rfl) (by kernel_rfl) (by kernel_rfl) (by rfl) (v := ?_) (fun _ _ _ h => h) hHeld (fun w hSw => ?_) ?_
        rotate_left
        · (try dsimp only at hSw); go_simp <;> (with_reducible rfl)
        (try simp only [Act.put, List.setIfInBounds_toArray, List.set_cons_zero, List.set_cons_succ])
        refine wpAnyH_done (by kernel_rfl) ?_ _
        have hbe := hHeld
        clear hHeld
        go_wp2
        go_roundw
        case rel => exact ⟨1, by omega, by first | rfl | go_num, hbe⟩
        case measure => simp [intOf]
      · obtain ⟨rfl, rfl⟩ := hFF rfl
        clear hTT hFF
        go_upto_region 15 with fail
        refine wp_region_held_drew (S := fun W => Below w5.heap.size w5 W) (by kernel_rfl) (below_drewN hbm 1) (fun hHeld => ?_)
        refine rg_in 0 rfl (by kernel_rfl) (by kernel_rfl) (by kernel_rfl) (by rfl) (v := ?_) (fun _ _ _ h => h) hHeld (fun w hSw => ?_) ?_
        rotate_left
        · (try dsimp only at hSw); go_simp <;> (with_reducible rfl)
        (try simp only [Act.put, List.setIfInBounds_toArray, List.set_cons_zero, List.set_cons_succ])
        refine rg_in 1 rfl (by kernel_rfl) (by kernel_rfl) (by kernel_rfl) (by rfl) (v := ?_) (fun _ _ _ h => h) hHeld (fun w hSw => ?_) ?_
        rotate_left
        · (try dsimp only at hSw); go_simp <;> (with_reducible rfl)
        (try simp only [Act.put, List.setIfInBounds_toArray, List.set_cons_zero, List.set_cons_succ])
        refine rg_in 5 rfl (by kernel_rfl) (by kernel_rfl) (by kernel_rfl) (by rfl) (v := ?_) (fun _ _ _ h => h) hHeld (fun w hSw => ?_) ?_
        rotate_left
        · (try dsimp only at hSw); go_simp <;> (with_reducible rfl)
        (try simp only [Act.put, List.setIfInBounds_toArray, List.set_cons_zero, List.set_cons_succ])
        refine rg_in 6 rfl (by kernel_rfl) (by kernel_rfl) (by kernel_rfl) (by rfl) (v := ?_) (fun _ _ _ h => h) hHeld (fun w hSw => ?_) ?_
        rotate_left
        · (try dsimp only at hSw); go_simp <;> (with_reducible rfl)
        (try simp only [Act.put, List.setIfInBounds_toArray, List.set_cons_zero, List.set_cons_succ])
        refine rg_do 2 rfl (by kernel_rfl) (by rfl) (fun K hK => ?_)
        go_simp
        (go_at_call 26; (with_reducible refine (HRa5.out _ hHeld).mono ?_); (rintro e w102 ⟨X, rfl, Hp, HLp, hb2⟩))
        obtain ⟨pk, pn, ps, pcA, pcn, pcc, pkA, pkn, pkc, pkeys, pkids⟩ := X
        (try dsimp only)
        refine hK.out _ _ (S_call hb2 hHeld rfl) (fun hHeld => ?_)
        clear hK K
        (try simp only [Act.put, List.setIfInBounds_toArray, List.set_cons_zero, List.set_cons_succ])
        refine rg_do 3 rfl (by kernel_rfl) (by rfl) (fun K hK => ?_)
        have hck := vcheck_any _ _ (.mk pk pn ps pcA pcn pcc pkA pkn pkc pkeys pkids) HLp (Nat.le_refl _) (HT5.out _ hHeld).1 (HT5.out _ hHeld).2.1
        rw [(HRs.out _ _ _ Hp.out Hx.out).trans ox, if_neg (by decide)] at hck
        simp only [VT.agg] at hck
        go_simp
        (go_at_call 29; (with_reducible refine hck.mono ?_); (rintro e w103 ⟨rfl, hb3⟩))
        clear hck
        refine hK.out _ _ (S_call hb3 hHeld rfl) (fun hHeld => ?_)
        clear hK K
        (try simp only [Act.put, List.setIfInBounds_toArray, List.set_cons_zero, List.set_cons_succ])
        refine rg_in 4 rfl (by kernel_rfl) (by kernel_rfl) (by kernel_rfl) (by rfl) (v := ?_) (fun _ _ _ h => h) hHeld (fun w hSw => ?_) ?_
        rotate_left
        · (try dsimp only at hSw); go_simp <;> (with_reducible rfl)
        (try simp only [Act.put, List.setIfInBounds_toArray, List.set_cons_zero, List.set_cons_succ])
        refine rg_do 7 rfl (by kernel_rfl) (by rfl) (fun K hK => ?_)
        go_simp
        (go_at_call 26; (with_reducible refine (HRb5.out _ hHeld).mono ?_); (rintro e w107 ⟨X, rfl, Hq, HLq, hb7⟩))
        obtain ⟨qk, qn, qs, qcA, qcn, qcc, qkA, qkn, qkc, qkeys, qkids⟩ := X
        (try dsimp only)
        refine hK.out _ _ (S_call hb7 hHeld rfl) (fun hHeld => ?_)
        clear hK K
        (try simp only [Act.put, List.setIfInBounds_toArray, List.set_cons_zero, List.set_cons_succ])
        refine rg_do 8 rfl (by kernel_rfl) (by rfl) (fun K hK => ?_)
        have hck := vcheck_any _ _ (.mk qk qn qs qcA qcn qcc qkA qkn qkc qkeys qkids) HLq (Nat.le_refl _) (HT5.out _ hHeld).1 (HT5.out _ hHeld).2.1
        rw [(HRs.out _ _ _ Hq.out Hy.out).trans oy, if_pos rfl] at hck
        simp only [VT.agg] at hck
        go_simp
        (go_at_call 29; (with_reducible refine hck.mono ?_); (rintro e w108 ⟨rfl, hb8⟩))
        clear hck
        refine hK.out _ _ (S_call hb8 hHeld rfl) (fun hHeld => ?_)
        clear hK K
        (try simp only [Act.put, List.setIfInBounds_toArray, List.set_cons_zero, List.set_cons_succ])
        refine rg_in 9 rfl (by kernel_rfl) (by kernel_rfl) (by kernel_rfl) (by rfl) (v := ?_) (fun _ _ _ h => h) hHeld (fun w hSw => ?_) ?_
        rotate_left
        · (try dsimp only at hSw); go_simp <;> (with_reducible rfl)
        (try simp only [Act.put, List.setIfInBounds_toArray, List.set_cons_zero, List.set_cons_succ])
        refine rg_in 10 rfl (by kernel_rfl) (by kernel_rfl) (by kernel_rfl) (by rfl) (v := ?_) (fun _ _ _ h => h) hHeld (fun w hSw => ?_) ?_
        rotate_left
        · (try dsimp only at hSw); go_simp <;> (with_reducible rfl)
        (try simp only [Act.put, List.setIfInBounds_toArray, List.set_cons_zero, List.set_cons_succ])
        refine rg_in 11 rfl (by kernel_rfl) (by kernel_rfl) (by kernel_rfl) (by rfl) (v := ?_) (fun _ _ _ h => h) hHeld (fun w hSw => ?_) ?_
        rotate_left
        · (try dsimp only at hSw); go_simp <;> (with_reducible rfl)
        (try simp only [Act.put, List.setIfInBounds_toArray, List.set_cons_zero, List.set_cons_succ])
        refine wpAnyH_done (by kernel_rfl) ?_ _
        have hbe := hHeld
        clear hHeld
        go_wp2
        go_roundw
        case rel => exact ⟨1, by omega, by first | rfl | go_num, hbe⟩
        case measure => simp [intOf]
      · obtain ⟨rfl, rfl⟩ := hFF rfl
        clear hTT hFF
        go_upto_region 15 with fail
        refine wp_region_held_drew (S := fun W => Below w5.heap.size w5 W) (by kernel_rfl) (below_drewN hbm 1) (fun hHeld => ?_)
        refine rg_in 0 rfl (by kernel_rfl) (by kernel_rfl) (by kernel_rfl) (by rfl) (v := ?_) (fun _ _ _ h => h) hHeld (fun w hSw => ?_) ?_
        rotate_left
        · (try dsimp only at hSw); go_simp <;> (with_reducible rfl)
        (try simp only [Act.put, List.setIfInBounds_toArray, List.set_cons_zero, List.set_cons_succ])
        refine rg_in 1 rfl (by kernel_rfl) (by kernel_rfl) (by kernel_rfl) (by rfl) (v := ?_) (fun _ _ _ h => h) hHeld (fun w hSw => ?_) ?_
        rotate_left
        · (try dsimp only at hSw); go_simp <;> (with_reducible rfl)
        (try simp only [Act.put, List.setIfInBounds_toArray, List.set_cons_zero, List.set_cons_succ])
        refine rg_in 5 rfl (by kernel_rfl) (by kernel_rfl) (by kernel_rfl) (by rfl) (v := ?_) (fun _ _ _ h => h) hHeld (fun w hSw => ?_) ?_
        rotate_left
        · (try dsimp only at hSw); go_simp <;> (with_reducible rfl)
        (try simp only [Act.put, List.setIfInBounds_toArray, List.set_cons_zero, List.set_cons_succ])
        refine rg_in 6 rfl (by kernel_rfl) (by kernel_rfl) (by kernel_rfl) (by rfl) (v := ?_) (fun _ _ _ h => h) hHeld (fun w hSw => ?_) ?_
        rotate_left
        · (try dsimp only at hSw); go_simp <;> (with_reducible rfl)
        (try simp only [Act.put, List.setIfInBounds_toArray, List.set_cons_zero, List.set_cons_succ])
        refine rg_do 2 rfl (by kernel_rfl) (by rfl) (fun K hK => ?_)
        go_simp
        (go_at_call 26; (with_reducible refine (HRa5.out _ hHeld).mono ?_); (rintro e w102 ⟨X, rfl, Hp, HLp, hb2⟩))
        obtain ⟨pk, pn, ps, pcA, pcn, pcc, pkA, pkn, pkc, pkeys, pkids⟩ := X
        (try dsimp only)
        refine hK.out _ _ (S_call hb2 hHeld rfl) (fun hHeld => ?_)
        clear hK K
        (try simp only [Act.put, List.setIfInBounds_toArray, List.set_cons_zero, List.set_cons_succ])
        refine rg_do 3 rfl (by kernel_rfl) (by rfl) (fun K hK => ?_)
        have hck := vcheck_any _ _ (.mk pk pn ps pcA pcn pcc pkA pkn pkc pkeys pkids) HLp (Nat.le_refl _) (HT5.out _ hHeld).1 (HT5.out _ hHeld).2.1
        rw [(HRs.out _ _ _ Hp.out Hx.out).trans ox, if_pos rfl] at hck
        simp only [VT.agg] at hck
        go_simp
        (go_at_call 29; (with_reducible refine hck.mono ?_); (rintro e w103 ⟨rfl, hb3⟩))
        clear hck
        refine hK.out _ _ (S_call hb3 hHeld rfl) (fun hHeld => ?_)
        clear hK K
        (try simp only [Act.put, List.setIfInBounds_toArray, List.set_cons_zero, List.set_cons_succ])
        refine rg_in 4 rfl (by kernel_rfl) (by kernel_rfl) (by kernel_rfl) (by rfl) (v := ?_) (fun _ _ _ h => h) hHeld (fun w hSw => ?_) ?_
        rotate_left
        · (try dsimp only at hSw); go_simp <;> (with_reducible rfl)
        (try simp only [Act.put, List.setIfInBounds_toArray, List.set_cons_zero, List.set_cons_succ])
        refine rg_do 7 rfl (by kernel_rfl) (by rfl) (fun K hK => ?_)
        go_simp
        (go_at_call 26; (with_reducible refine (HRb5.out _ hHeld).mono ?_); (rintro e w107 ⟨X, rfl, Hq, HLq, hb7⟩))
        obtain ⟨qk, qn, qs, qcA, qcn, qcc, qkA, qkn, qkc, qkeys, qkids⟩ := X
        (try dsimp only)
        refine hK.out _ _ (S_call hb7 hHeld rfl) (fun hHeld => ?_)
        clear hK K
        (try simp only [Act.put, List.setIfInBounds_toArray, List.set_cons_zero, List.set_cons_succ])
        refine rg_do 8 rfl (by kernel_rfl) (by rfl) (fun K hK => ?_)
        have hck := vcheck_any _ _ (.mk qk qn qs qcA qcn qcc qkA qkn qkc qkeys qkids) HLq (Nat.le_refl _) (HT5.out _ hHeld).1 (HT5.out _ hHeld).2.1
        rw [(HRs.out _ _ _ Hq.out Hy.out).trans oy, if_neg (by decide)] at hck
        simp only [VT.agg] at hck
        go_simp
        (go_at_call 29; (with_reducible refine hck.mono ?_); (rintro e w108 ⟨rfl, hb8⟩))
        clear hck
        refine hK.out _ _ (S_call hb8 hHeld rfl) (fun hHeld => ?_)
        clear hK K
        (try simp only [Act.put, List.setIfInBounds_toArray, List.set_cons_zero, List.set_cons_succ])
        refine rg_in 9 rfl (by kernel_rfl) (by kernel_rfl) (by kernel_rfl) (by rfl) (v := ?_) (fun _ _ _ h => h) hHeld (fun w hSw => ?_) ?_
        rotate_left
        · (try dsimp only at hSw); go_simp <;> (with_reducible rfl)
        (try simp only [Act.put, List.setIfInBounds_toArray, List.set_cons_zero, List.set_cons_succ])
        refine rg_in 10 rfl (by kernel_rfl) (by kernel_rfl) (by kernel_rfl) (by rfl) (v := ?_) (fun _ _ _ h => h) hHeld (fun w hSw => ?_) ?_
        rotate_left
        · (try dsimp only at hSw); go_simp <;> (with_reducible rfl)
        (try simp only [Act.put, List.setIfInBounds_toArray, List.set_cons_zero, List.set_cons_succ])
        refine rg_in 11 rfl (by kernel_rfl) (by kernel_rfl) (by kernel_rfl) (by rfl) (v := ?_) (fun _ _ _ h => h) hHeld (fun w hSw => ?_) ?_
        rotate_left
        · (try dsimp only at hSw); go_simp <;> (with_reducible rfl)
        (try simp only [Act.put, List.setIfInBounds_toArray, List.set_cons_zero, List.set_cons_succ])
        refine wpAnyH_done (by kernel_rfl) ?_ _
        have hbe := hHeld
        clear hHeld
        go_wp2
        go_roundw
        case rel => exact ⟨1, by omega, by first | rfl | go_num, hbe⟩
        case measure => simp [intOf]
      · obtain ⟨hu, rfl⟩ := hTT rfl
        have hu2 := hu.trans (HRc.out _ _ Hx.out Hy.out ox)
        subst hu2
        clear hu hTT hFF
        go_upto_region 15 with fail
        refine wp_region_held_drew (S := fun W => Below w5.heap.size w5 W) (by kernel_rfl) (below_drewN hbm 1) (fun hHeld => ?_)
        refine rg_in 0 rfl (by kernel_rfl) (by kernel_rfl) (by kernel_rfl) (by rfl) (v := ?_) (fun _ _ _ h => h) hHeld (fun w hSw => ?_) ?_
        rotate_left
        · (try dsimp only at hSw); go_simp <;> (with_reducible rfl)
        (try simp only [Act.put, List.setIfInBounds_toArray, List.set_cons_zero, List.set_cons_succ])
        refine rg_in 1 rfl (by kernel_rfl) (by kernel_rfl) (by kernel_rfl) (by rfl) (v := ?_) (fun _ _ _ h => h) hHeld (fun w hSw => ?_) ?_
        rotate_left
        · (try dsimp only at hSw); go_simp <;> (with_reducible rfl)
        (try simp only [Act.put, List.setIfInBounds_toArray, List.set_cons_zero, List.set_cons_succ])
        refine rg_in 5 rfl (by kernel_rfl) (by kernel_rfl) (by kernel_rfl) (by rfl) (v := ?_) (fun _ _ _ h => h) hHeld (fun w hSw => ?_) ?_
        rotate_left
        · (try dsimp only at hSw); go_simp <;> (with_reducible rfl)
        (try simp only [Act.put, List.setIfInBounds_toArray, List.set_cons_zero, List.set_cons_succ])
        refine rg_in 6 rfl (by kernel_rfl) (by kernel_rfl) (by kernel_rfl) (by rfl) (v := ?_) (fun _ _ _ h => h) hHeld (fun w hSw => ?_) ?_
        rotate_left
        · (try dsimp only at hSw); go_simp <;> (with_reducible rfl)
        (try simp only [Act.put, List.setIfInBounds_toArray, List.set_cons_zero, List.set_cons_succ])
        refine rg_do 2 rfl (by kernel_rfl) (by rfl) (fun K hK => ?_)
        go_simp
        (go_at_call 26; (with_reducible refine (HRa5.out _ hHeld).mono ?_); (rintro e w102 ⟨X, rfl, Hp, HLp, hb2⟩))
        obtain ⟨pk, pn, ps, pcA, pcn, pcc, pkA, pkn, pkc, pkeys, pkids⟩ := X
        (try dsimp only)
        refine hK.out _ _ (S_call hb2 hHeld rfl) (fun hHeld => ?_)
        clear hK K
        (try simp only [Act.put, List.setIfInBounds_toArray, List.set_cons_zero, List.set_cons_succ])
        refine rg_do 3 rfl (by kernel_rfl) (by rfl) (fun K hK => ?_)
        have hck := vcheck_any _ _ (.mk pk pn ps pcA pcn pcc pkA pkn pkc pkeys pkids) HLp (Nat.le_refl _) (HT5.out _ hHeld).1 (HT5.out _ hHeld).2.1
        rw [(HRs.out _ _ _ Hp.out Hx.out).trans ox, if_pos rfl] at hck
        simp only [VT.agg] at hck
        go_simp
        (go_at_call 29; (with_reducible refine hck.mono ?_); (rintro e w103 ⟨rfl, hb3⟩))
        clear hck
        refine hK.out _ _ (S_call hb3 hHeld rfl) (fun hHeld => ?_)
        clear hK K
        (try simp only [Act.put, List.setIfInBounds_toArray, List.set_cons_zero, List.set_cons_succ])
        refine rg_in 4 rfl (by kernel_rfl) (by kernel_rfl) (by kernel_rfl) (by rfl) (v := ?_) (fun _ _ _ h => h) hHeld (fun w hSw => ?_) ?_
        rotate_left
        · (try dsimp only at hSw); go_simp <;> (with_reducible rfl)
        (try simp only [Act.put, List.setIfInBounds_toArray, List.set_cons_zero, List.set_cons_succ])
        refine rg_do 7 rfl (by kernel_rfl) (by rfl) (fun K hK => ?_)
        go_simp
        (go_at_call 26; (with_reducible refine (HRb5.out _ hHeld).mono ?_); (rintro e w107 ⟨X, rfl, Hq, HLq, hb7⟩))
        obtain ⟨qk, qn, qs, qcA, qcn, qcc, qkA, qkn, qkc, qkeys, qkids⟩ := X
        (try dsimp only)
        refine hK.out _ _ (S_call hb7 hHeld rfl) (fun hHeld => ?_)
        clear hK K
        (try simp only [Act.put, List.setIfInBounds_toArray, List.set_cons_zero, List.set_cons_succ])
        refine rg_do 8 rfl (by kernel_rfl) (by rfl) (fun K hK => ?_)
        have hck := vcheck_any _ _ (.mk qk qn qs qcA qcn qcc qkA qkn qkc qkeys qkids) HLq (Nat.le_refl _) (HT5.out _ hHeld).1 (HT5.out _ hHeld).2.1
        rw [(HRs.out _ _ _ Hq.out Hy.out).trans oy, if_pos rfl] at hck
        simp only [VT.agg] at hck
        go_simp
        (go_at_call 29; (with_reducible refine hck.mono ?_); (rintro e w108 ⟨rfl, hb8⟩))
        clear hck
        refine hK.out _ _ (S_call hb8 hHeld rfl) (fun hHeld => ?_)
        clear hK K
        (try simp only [Act.put, List.setIfInBounds_toArray, List.set_cons_zero, List.set_cons_succ])
        refine rg_in 9 rfl (by kernel_rfl) (by kernel_rfl) (by kernel_rfl) (by rfl) (v := ?_) (fun _ _ _ h => h) hHeld (fun w hSw => ?_) ?_
        rotate_left
        · (try dsimp only at hSw); go_simp <;> (with_reducible rfl)
        (try simp only [Act.put, List.setIfInBounds_toArray, List.set_cons_zero, List.set_cons_succ])
        refine rg_in 10 rfl (by kernel_rfl) (by kernel_rfl) (by kernel_rfl) (by rfl) (v := ?_) (fun _ _ _ h => h) hHeld (fun w hSw => ?_) ?_
        rotate_left
        · (try dsimp only at hSw); go_simp <;> (with_reducible rfl)
        (try simp only [Act.put, List.setIfInBounds_toArray, List.set_cons_zero, List.set_cons_succ])
        refine rg_in 11 rfl (by kernel_rfl) (by kernel_rfl) (by kernel_rfl) (by rfl) (v := ?_) (fun _ _ _ h => h) hHeld (fun w hSw => ?_) ?_
        rotate_left
        · (try dsimp only at hSw); go_simp <;> (with_reducible rfl)
        (try simp only [Act.put, List.setIfInBounds_toArray, List.set_cons_zero, List.set_cons_succ])
        refine wpAnyH_done (by kernel_rfl) ?_ _
        have hbe := hHeld
        clear hHeld
        go_wp2
        go_roundw
        case rel => exact ⟨1, by omega, by first | rfl | go_num, hbe⟩
        case measure => simp [intOf]
    · have hf := kept_later hbr HF1.out
      clear hj
      go_upto_region 12 with fail
      clear hf
      refine wp_region_held_drew (S := fun W => Below w5.heap.size w5 W) (by kernel_rfl) (below_drewN hbr 1) (fun hHeld => ?_)
      refine rg_in 0 rfl (by kernel_rfl) (by kernel_rfl) (by kernel_rfl) (by rfl) (v := ?_) (fun _ _ _ h => h) hHeld (fun w hSw => ?_) ?_
      rotate_left
      · (try dsimp only at hSw); go_simp <;> (with_reducible rfl)
      (try simp only [Act.put, List.setIfInBounds_toArray, List.set_cons_zero, List.set_cons_succ])
      refine rg_in 1 rfl (by kernel_rfl) (by kernel_rfl) (by kernel_rfl) (by rfl) (v := ?_) (fun _ _ _ h => h) hHeld (fun w hSw => ?_) ?_
      rotate_left
      · (try dsimp only at hSw); go_simp <;> (with_reducible rfl)
      (try simp only [Act.put, List.setIfInBounds_toArray, List.set_cons_zero, List.set_cons_succ])
      refine rg_in 3 rfl (by kernel_rfl) (by kernel_rfl) (by kernel_rfl) (by rfl) (v := ?_) (fun _ _ _ h => h) hHeld (fun w hSw => ?_) ?_
      rotate_left
      · (try dsimp only at hSw); go_simp <;> (with_reducible rfl)
      (try simp only [Act.put, List.setIfInBounds_toArray, List.set_cons_zero, List.set_cons_succ])
      refine rg_in 4 rfl (by kernel_rfl) (by kernel_rfl) (by kernel_rfl) (by rfl) (v := ?_) (fun _ _ _ h => h) hHeld (fun w hSw => ?_) ?_
      rotate_left
      · (try dsimp only at hSw); go_simp <;> (with_reducible rfl)
      (try simp only [Act.put, List.setIfInBounds_toArray, List.set_cons_zero, List.set_cons_succ])
      refine rg_do 2 rfl (by kernel_rfl) (by rfl) (fun K hK => ?_)
      go_simp
      (go_at_call 28; (with_reducible refine (HOa5.out _ hHeld).mono ?_); (rintro e w102 ⟨X, rfl, Hx, HLx, hb2⟩))
      obtain ⟨xk, xn, xs, xcA, xcn, xcc, xkA, xkn, xkc, xkeys, xkids⟩ := X
      (try dsimp only)
      refine hK.out _ _ (S_call hb2 hHeld rfl) (fun hHeld => ?_)
      clear hK K
      (try simp only [Act.put, List.setIfInBounds_toArray, List.set_cons_zero, List.set_cons_succ])
      refine rg_do 5 rfl (by kernel_rfl) (by rfl) (fun K hK => ?_)
      go_simp
      (go_at_call 28; (with_reducible refine (HOb5.out _ hHeld).mono ?_); (rintro e w105 ⟨X, rfl, Hy, HLy, hb5⟩))
      obtain ⟨yk, yn, ys, ycA, ycn, ycc, ykA, ykn, ykc, ykeys, ykids⟩ := X
      (try dsimp only)
      refine hK.out _ _ (S_call hb5 hHeld rfl) (fun hHeld => ?_)
      clear hK K
      (try simp only [Act.put, List.setIfInBounds_toArray, List.set_cons_zero, List.set_cons_succ])
      refine rg_do 6 rfl (by kernel_rfl) (by rfl) (fun K hK => ?_)
      have hcq := compareP_any (.mk xk xn xs xcA xcn xcc xkA xkn xkc xkeys xkids) (.mk yk yn ys ycA ycn ycc ykA ykn ykc ykeys ykids) w105.heap.size w105 ((HLx.later hb5).more hb5.size) HLy (Nat.le_refl _) (HT5.out _ hHeld).1 (HT5.out _ hHeld).2.1 (HT5.out _ hHeld).2.2
      simp only [VT.agg] at hcq
      go_simp
      (go_at_call 11; (with_reducible refine hcq.mono ?_); (rintro e w106 ⟨u, f, rfl, HP, hb6⟩))
      refine hK.out _ _ (S_call hb6 hHeld rfl) (fun hHeld => ?_)
      clear hK K
      (try simp only [Act.put, List.setIfInBounds_toArray, List.set_cons_zero, List.set_cons_succ])
      refine rg_in 7 rfl (by kernel_rfl) (by kernel_rfl) (by kernel_rfl) (by rfl) (v := ?_) (fun _ _ _ h => h) hHeld (fun w hSw => ?_) ?_
      rotate_left
      · (try dsimp only at hSw); go_simp <;> (with_reducible rfl)
      (try simp only [Act.put, List.setIfInBounds_toArray, List.set_cons_zero, List.set_cons_succ])
      refine rg_in 8 rfl (by kernel_rfl) (by kernel_rfl) (by kernel_rfl) (by rfl) (v := ?_) (fun _ _ _ h => h) hHeld (fun w hSw => ?_) ?_
      rotate_left
      · (try dsimp only at hSw); go_simp <;> (with_reducible rfl)
      (try simp only [Act.put, List.setIfInBounds_toArray, List.set_cons_zero, List.set_cons_succ])
      refine rg_in 9 rfl (by kernel_rfl) (by kernel_rfl) (by kernel_rfl) (by rfl) (v := ?_) (fun _ _ _ h => h) hHeld (fun w hSw => ?_) ?_
      rotate_left
      · (try dsimp only at hSw); go_simp <;> (with_reducible rfl)
      (try simp only [Act.put, List.setIfInBounds_toArray, List.set_cons_zero, List.set_cons_succ])
      refine rg_in 10 rfl (by kernel_rfl) (by kernel_rfl) (by kernel_rfl) (by rfl) (v := ?_) (fun _ _ _ h => h) hHeld (fun w hSw => ?_) ?_
      rotate_left
      · (try dsimp only at hSw); go_simp <;> (with_reducible rfl)
      (try simp only [Act.put, List.setIfInBounds_toArray, List.set_cons_zero, List.set_cons_succ])
      refine rg_in 11 rfl (by kernel_rfl) (by kernel_rfl) (by kernel_rfl) (by rfl) (v := ?_) (fun _ _ _ h => h) hHeld (fun w hSw => ?_) ?_
      rotate_left
      · (try dsimp only at hSw); go_simp <;> (with_reducible rfl)
      (try simp only [Act.put, List.setIfInBounds_toArray, List.set_cons_zero, List.set_cons_succ])
      refine wpAnyH_done (by kernel_rfl) ?_ _
      have hbm := hHeld
      obtain ⟨bx, by', ox, oy, hTT, hFF⟩ := cmpW_bits HP.out
      clear HP hcq hb2 hb5 hb6 HLx HLy hHeld
      cases bx <;> cases by'
      · obtain ⟨rfl, rfl⟩ := hFF rfl
        clear hTT hFF
        go_upto_region 15 with fail
        refine wp_region_held_drew (S := fun W => Below w5.heap.size w5 W) (by kernel_rfl) (below_drewN hbm 1) (fun hHeld => ?_)
        refine rg_in 0 rfl (by kernel_rfl) (by kernel_rfl) (by kernel_rfl) (by rfl) (v := ?_) (fun _ _ _ h => h) hHeld (fun w hSw => ?_) ?_
        rotate_left
        · (try dsimp only at hSw); go_simp <;> (with_reducible rfl)
        (try simp only [Act.put, List.setIfInBounds_toArray, List.set_cons_zero, List.set_cons_succ])
        refine rg_in 1 rfl (by kernel_rfl) (by kernel_rfl) (by kernel_rfl) (by rfl) (v := ?_) (fun _ _ _ h => h) hHeld (fun w hSw => ?_) ?_
        rotate_left
        · (try dsimp only at hSw); go_simp <;> (with_reducible rfl)
        (try simp only [Act.put, List.setIfInBounds_toArray, List.set_cons_zero, List.set_cons_succ])
        refine rg_in 5 rfl (by kernel_rfl) (by kernel_rfl) (by kernel_rfl) (by rfl) (v := ?_) (fun _ _ _ h => h) hHeld (fun w hSw => ?_) ?_
        rotate_left
        · (try dsimp only at hSw); go_simp <;> (with_reducible rfl)
        (try simp only [Act.put, List.setIfInBounds_toArray, List.set_cons_zero, List.set_cons_succ])
        refine rg_in 6 rfl (by kernel_rfl) (by kernel_rfl) (by kernel_rfl) (by rfl) (v := ?_) (fun _ _ _ h => h) hHeld (fun w hSw => ?_) ?_
        rotate_left
        · (try dsimp only at hSw); go_simp <;> (with_reducible rfl)
        (try simp only [Act.put, List.setIfInBounds_toArray, List.set_cons_zero, List.set_cons_succ])
        refine rg_do 2 rfl (by kernel_rfl) (by rfl) (fun K hK => ?_)
        go_simp
        (go_at_call 28; (with_reducible refine (HOa5.out _ hHeld).mono ?_); (rintro e w102 ⟨X, rfl, Hp, HLp, hb2⟩))
        obtain ⟨pk, pn, ps, pcA, pcn, pcc, pkA, pkn, pkc, pkeys, pkids⟩ := X
        (try dsimp only)
        refine hK.out _ _ (S_call hb2 hHeld rfl) (fun hHeld => ?_)
        clear hK K
        (try simp only [Act.put, List.setIfInBounds_toArray, List.set_cons_zero, List.set_cons_succ])
        refine rg_do 3 rfl (by kernel_rfl) (by rfl) (fun K hK => ?_)
        have hck := vcheck_any _ _ (.mk pk pn ps pcA pcn pcc pkA pkn pkc pkeys pkids) HLp (Nat.le_refl _) (HT5.out _ hHeld).1 (HT5.out _ hHeld).2.1
        rw [(HOs.out _ _ _ Hp.out Hx.out).trans ox, if_neg (by decide)] at hck
        simp only [VT.agg] at hck
        go_simp
        (go_at_call 29; (with_reducible refine hck.mono ?_); (rintro e w103 ⟨rfl, hb3⟩))
        clear hck
        refine hK.out _ _ (S_call hb3 hHeld rfl) (fun hHeld => ?_)
        clear hK K
        (try simp only [Act.put, List.setIfInBounds_toArray, List.set_cons_zero, List.set_cons_succ])
        refine rg_in 4 rfl (by kernel_rfl) (by kernel_rfl) (by kernel_rfl) (by rfl) (v := ?_) (fun _ _ _ h => h) hHeld (fun w hSw => ?_) ?_
        rotate_left
        · (try dsimp only at hSw); go_simp <;> (with_reducible rfl)
        (try simp only [Act.put, List.setIfInBounds_toArray, List.set_cons_zero, List.set_cons_succ])
        refine rg_do 7 rfl (by kernel_rfl) (by rfl) (fun K hK => ?_)
        go_simp
        (go_at_call 28; (with_reducible refine (HOb5.out _ hHeld).mono ?_); (rintro e w107 ⟨X, rfl, Hq, HLq, hb7⟩))
        obtain ⟨qk, qn, qs, qcA, qcn, qcc, qkA, qkn, qkc, qkeys, qkids⟩ := X
        (try dsimp only)
        refine hK.out _ _ (S_call hb7 hHeld rfl) (fun hHeld => ?_)
        clear hK K
        (try simp only [Act.put, List.setIfInBounds_toArray, List.set_cons_zero, List.set_cons_succ])
        refine rg_do 8 rfl (by kernel_rfl) (by rfl) (fun K hK => ?_)
        have hck := vcheck_any _ _ (.mk qk qn qs qcA qcn qcc qkA qkn qkc qkeys qkids) HLq (Nat.le_refl _) (HT5.out _ hHeld).1 (HT5.out _ hHeld).2.1
        rw [(HOs.out _ _ _ Hq.out Hy.out).trans oy, if_neg (by decide)] at hck
        simp only [VT.agg] at hck
        go_simp
        (go_at_call 29; (with_reducible refine hck.mono ?_); (rintro e w108 ⟨rfl, hb8⟩))
        clear hck
        refine hK.out _ _ (S_call hb8 hHeld rfl) (fun hHeld => ?_)
        clear hK K
        (try simp only [Act.put, List.setIfInBounds_toArray, List.set_cons_zero, List.set_cons_succ])
        refine rg_in 9 rfl (by kernel_rfl) (by kernel_rfl) (by kernel_rfl) (by rfl) (v := ?_) (fun _ _ _ h => h) hHeld (fun w hSw => ?_) ?_
        rotate_left
        · (try dsimp only at hSw); go_simp <;> (with_reducible rfl)
        (try simp only [Act.put, List.setIfInBounds_toArray, List.set_cons_zero, List.set_cons_succ])
        refine rg_in 10 rfl (by kernel_rfl) (by kernel_rfl) (by kernel_rfl) (by rfl) (v := ?_) (fun _ _ _ h => h) hHeld (fun w hSw => ?_) ?_
        rotate_left
        · (try dsimp only at hSw); go_simp <;> (with_reducible rfl)
        (try simp only [Act.put, List.setIfInBounds_toArray, List.set_cons_zero, List.set_cons_succ])
        refine rg_in 11 rfl (by kernel_rfl) (by kernel_rfl) (by kernel_rfl) (by rfl) (v := ?_) (fun _ _ _ h => h) hHeld (fun w hSw => ?_) ?_
        rotate_left
        · (try dsimp only at hSw); go_simp <;> (with_reducible rfl)
        (try simp only [Act.put, List.setIfInBounds_toArray, List.set_cons_zero, List.set_cons_succ])
        refine wpAnyH_done (by kernel_rfl) ?_ _
        have hbe := hHeld
        clear hHeld
        go_wp2
        go_roundw
        case rel => exact ⟨2, by omega, by first | rfl | go_num, hbe⟩
        case measure => simp [intOf]
      · obtain ⟨rfl, rfl⟩ := hFF rfl
        clear hTT hFF
        go_upto_region 15 with fail
        refine wp_region_held_drew (S := fun W => Below w5.heap.size w5 W) (by kernel_rfl) (below_drewN hbm 1) (fun hHeld => ?_)
        refine rg_in 0 rfl (by kernel_rfl) (by kernel_rfl) (by kernel_rfl) (by rfl) (v := ?_) (fun _ _ _ h => h) hHeld (fun w hSw => ?_) ?_
        rotate_left
        · (try dsimp only at hSw); go_simp <;> (with_reducible rfl)
        (try simp only [Act.put, List.setIfInBounds_toArray, List.set_cons_zero, List.set_cons_succ])
        refine rg_in 1 rfl (by kernel_rfl) (by kernel_rfl) (by kernel_rfl) (by rfl) (v := ?_) (fun _ _ _ h => h) hHeld (fun w hSw => ?_) ?_
        rotate_left
        · (try dsimp only at hSw); go_simp <;> (with_reducible rfl)
        (try simp only [Act.put, List.setIfInBounds_toArray, List.set_cons_zero, List.set_cons_succ])
        refine rg_in 5 rfl (by kernel_rfl) (by kernel_rfl) (by kernel_rfl) (by rfl) (v := ?_) (fun _ _ _ h => h) hHeld (fun w hSw => ?_) ?_
        rotate_left
        · (try dsimp only at hSw); go_simp <;> (with_reducible rfl)
        (try simp only [Act.put, List.setIfInBounds_toArray, List.set_cons_zero, List.set_cons_succ])
        refine rg_in 6 rfl (by kernel_rfl) (by kernel_rfl) (by kernel_rfl) (by rfl) (v := ?_) (fun _ _ _ h => h) hHeld (fun w hSw => ?_) ?_
        rotate_left
        · (try dsimp only at hSw); go_simp <;> (with_reducible rfl)
        (try simp only [Act.put, List.setIfInBounds_toArray, List.set_cons_zero, List.set_cons_succ])
        refine rg_do 2 rfl (by kernel_rfl) (by rfl) (fun K hK => ?_)
        go_simp
        (go_at_call 28; (with_reducible refine (HOa5.out _ hHeld).mono ?_); (rintro e w102 ⟨X, rfl, Hp, HLp, hb2⟩))
        obtain ⟨pk, pn, ps, pcA, pcn, pcc, pkA, pkn, pkc, pkeys, pkids⟩ := X
        (try dsimp only)
        refine hK.out _ _ (S_call hb2 hHeld rfl) (fun hHeld => ?_)
        clear hK K
        (try simp only [Act.put, List.setIfInBounds_toArray, List.set_cons_zero, List.set_cons_succ])
        refine rg_do 3 rfl (by kernel_rfl) (by rfl) (fun K hK => ?_)
        have hck := vcheck_any _ _ (.mk pk pn ps pcA pcn pcc pkA pkn pkc pkeys pkids) HLp (Nat.le_refl _) (HT5.out _ hHeld).1 (HT5.out _ hHeld).2.1
        rw [(HOs.out _ _ _ Hp.out Hx.out).trans ox, if_neg (by decide)] at hck
        simp only [VT.agg] at hck
        go_simp
        (go_at_call 29; (with_reducible refine hck.mono ?_); (rintro e w103 ⟨rfl, hb3⟩))
        clear hck
        refine hK.out _ _ (S_call hb3 hHeld rfl) (fun hHeld => ?_)
        clear hK K
        (try simp only [Act.put, List.setIfInBounds_toArray, List.set_cons_zero, List.set_cons_succ])
        refine rg_in 4 rfl (by kernel_rfl) (by kernel_rfl) (by kernel_rfl) (by rfl) (v := ?_) (fun _ _ _ h => h) hHeld (fun w hSw => ?_) ?_
        rotate_left
        · (try dsimp only at hSw); go_simp <;> (with_reducible rfl)
        (try simp only [Act.put, List.setIfInBounds_toArray, List.set_cons_zero, List.set_cons_succ])
        refine rg_do 7 rfl (by kernel_rfl) (by rfl) (fun K hK => ?_)
        go_simp
        (go_at_call 28; (with_reducible refine (HOb5.out _ hHeld).mono ?_); (rintro e w107 ⟨X, rfl, Hq, HLq, hb7⟩))
        obtain ⟨qk, qn, qs, qcA, qcn, qcc, qkA, qkn, qkc, qkeys, qkids⟩ := X
        (try dsimp only)
        refine hK.out _ _ (S_call hb7 hHeld rfl) (fun hHeld => ?_)
        clear hK K
        (try simp only [Act.put, List.setIfInBounds_toArray, List.set_cons_zero, List.set_cons_succ])
        refine rg_do 8 rfl (by kernel_rfl) (by rfl) (fun K hK => ?_)
        have hck := vcheck_any _ _ (.mk qk qn qs qcA qcn qcc qkA qkn qkc qkeys qkids) HLq (Nat.le_refl _) (HT5.out _ hHeld).1 (HT5.out _ hHeld).2.1
        rw [(HOs.out _ _ _ Hq.out Hy.out).trans oy, if_pos rfl] at hck
        simp only [VT.agg] at hck
        go_simp
        (go_at_call 29; (with_reducible refine hck.mono ?_); (rintro e w108 ⟨rfl, hb8⟩))
        clear hck
        refine hK.out _ _ (S_call hb8 hHeld rfl) (fun hHeld => ?_)
        clear hK K
        (try simp only [Act.put, List.setIfInBounds_toArray, List.set_cons_zero, List.set_cons_succ])
        refine rg_in 9 rfl (by kernel_rfl) (by kernel_rfl) (by kernel_rfl) (by rfl) (v := ?_) (fun _ _ _ h => h) hHeld (fun w hSw => ?_) ?_
        rotate_left
        · (try dsimp only at hSw); go_simp <;> (with_reducible rfl)
        (try simp only [Act.put, List.setIfInBounds_toArray, List.set_cons_zero, List.set_cons_succ])
        refine rg_in 10 rfl (by kernel_rfl) (by kernel_rfl) (by kernel_rfl) (by rfl) (v := ?_) (fun _ _ _ h => h) hHeld (fun w hSw => ?_) ?_
        rotate_left
        · (try dsimp only at hSw); go_simp <;> (with_reducible rfl)
        (try simp only [Act.put, List.setIfInBounds_toArray, List.set_cons_zero, List.set_cons_succ])
        refine rg_in 11 rfl (by kernel_rfl) (by kernel_rfl) (by kernel_rfl) (by rfl) (v := ?_) (fun _ _ _ h => h) hHeld (fun w hSw => ?_) ?_
        rotate_left
        · (try dsimp only at hSw); go_simp <;> (with_reducible rfl)
        (try simp only [Act.put, List.setIfInBounds_toArray, List.set_cons_zero, List.set_cons_succ])
        refine wpAnyH_done (by kernel_rfl) ?_ _
        have hbe := hHeld
        clear hHeld
        go_wp2
        go_roundw
        case rel => exact ⟨2, by omega, by first | rfl | go_num, hbe⟩
        case measure => simp [intOf]
      · obtain ⟨rfl, rfl⟩ := hFF rfl
        clear hTT hFF
        go_upto_region 15 with fail
        refine wp_region_held_drew (S := fun W => Below w5.heap.size w5 W) (by kernel_rfl) (below_drewN hbm 1) (fun hHeld => ?_)
        refine rg_in 0 rfl (by kernel_rfl) (by kernel_rfl) (by kernel_rfl) (by rfl) (v := ?_) (fun _ _ _ h => h) hHeld (fun w hSw => ?_) ?_
        rotate_left
        · (try dsimp only at hSw); go_simp <;> (with_reducible rfl)
        (try simp only [Act.put, List.setIfInBounds_toArray, List.set_cons_zero, List.set_cons_succ])
        refine rg_in 1 rfl (by kernel_rfl) (by kernel_rfl) (by kernel_rfl) (by rfl) (v := ?_) (fun _ _ _ h => h) hHeld (fun w hSw => ?_) ?_
        rotate_left
        · (try dsimp only at hSw); go_simp <;> (with_reducible rfl)
        (try simp only [Act.put, List.setIfInBounds_toArray, List.set_cons_zero, List.set_cons_succ])
        refine rg_in 5 rfl (by kernel_rfl) (by kernel_rfl) (by kernel_rfl) (by rfl) (v := ?_) (fun _ _ _ h => h) hHeld (fun w hSw => ?_) ?_
        rotate_left
        · (try dsimp only at hSw); go_simp <;> (with_reducible rfl)
        (try simp only [Act.put, List.setIfInBounds_toArray, List.set_cons_zero, List.set_cons_succ])
        refine rg_in 6 rfl (by kernel_rfl) (by kernel_rfl) (by kernel_rfl) (by rfl) (v := ?_) (fun _ _ _ h => h) hHeld (fun w hSw => ?_) ?_
        rotate_left
        · (try dsimp only at hSw); go_simp <;> (with_reducible rfl)
        (try simp only [Act.put, List.setIfInBounds_toArray, List.set_cons_zero, List.set_cons_succ])
        refine rg_do 2 rfl (by kernel_rfl) (by rfl) (fun K hK => ?_)
        go_simp
        (go_at_call 28; (with_reducible refine (HOa5.out _ hHeld).mono ?_); (rintro e w102 ⟨X, rfl, Hp, HLp, hb2⟩))
        obtain ⟨pk, pn, ps, pcA, pcn, pcc, pkA, pkn, pkc, pkeys, pkids⟩ := X
        (try dsimp only)
        refine hK.out _ _ (S_call hb2 hHeld rfl) (fun hHeld => ?_)
        clear hK K
        (try simp only [Act.put, List.setIfInBounds_toArray, List.set_cons_zero, List.set_cons_succ])
        refine rg_do 3 rfl (by kernel_rfl) (by rfl) (fun K hK => ?_)
        have hck := vcheck_any _ _ (.mk pk pn ps pcA pcn pcc pkA pkn pkc pkeys pkids) HLp (Nat.le_refl _) (HT5.out _ hHeld).1 (HT5.out _ hHeld).2.1
        rw [(HOs.out _ _ _ Hp.out Hx.out).trans ox, if_pos rfl] at hck
        simp only [VT.agg] at hck
        go_simp
        (go_at_call 29; (with_reducible refine hck.mono ?_); (rintro e w103 ⟨rfl, hb3⟩))
        clear hck
        refine hK.out _ _ (S_call hb3 hHeld rfl) (fun hHeld => ?_)
        clear hK K
        (try simp only [Act.put, List.setIfInBounds_toArray, List.set_cons_zero, List.set_cons_succ])
        refine rg_in 4 rfl (by kernel_rfl) (by kernel_rfl) (by kernel_rfl) (by rfl) (v := ?_) (fun _ _ _ h => h) hHeld (fun w hSw => ?_) ?_
        rotate_left
        · (try dsimp only at hSw); go_simp <;> (with_reducible rfl)
        (try simp only [Act.put, List.setIfInBounds_toArray, List.set_cons_zero, List.set_cons_succ])
        refine rg_do 7 rfl (by kernel_rfl) (by rfl) (fun K hK => ?_)
        go_simp
        (go_at_call 28; (with_reducible refine (HOb5.out _ hHeld).mono ?_); (rintro e w107 ⟨X, rfl, Hq, HLq, hb7⟩))
        obtain ⟨qk, qn, qs, qcA, qcn, qcc, qkA, qkn, qkc, qkeys, qkids⟩ := X
        (try dsimp only)
        refine hK.out _ _ (S_call hb7 hHeld rfl) (fun hHeld => ?_)
        clear hK K
        (try simp only [Act.put, List.setIfInBounds_toArray, List.set_cons_zero, List.set_cons_succ])
        refine rg_do 8 rfl (by kernel_rfl) (by rfl) (fun K hK => ?_)
        have hck := vcheck_any _ _ (.mk qk qn qs qcA qcn qcc qkA qkn qkc qkeys qkids) HLq (Nat.le_refl _) (HT5.out _ hHeld).1 (HT5.out _ hHeld).2.1
        rw [(HOs.out _ _ _ Hq.out Hy.out).trans oy, if_neg (by decide)] at hck
        simp only [VT.agg] at hck
        go_simp
        (go_at_call 29; (with_reducible refine hck.mono ?_); (rintro e w108 ⟨rfl, hb8⟩))
        clear hck
        refine hK.out _ _ (S_call hb8 hHeld rfl) (fun hHeld => ?_)
        clear hK K
        (try simp only [Act.put, List.setIfInBounds_toArray, List.set_cons_zero, List.set_cons_succ])
        refine rg_in 9 rfl (by kernel_rfl) (by kernel_rfl) (by kernel_rfl) (by rfl) (v := ?_) (fun _ _ _ h => h) hHeld (fun w hSw => ?_) ?_
        rotate_left
        · (try dsimp only at hSw); go_simp <;> (with_reducible rfl)
        (try simp only [Act.put, List.setIfInBounds_toArray, List.set_cons_zero, List.set_cons_succ])
        refine rg_in 10 rfl (by kernel_rfl) (by kernel_rfl) (by kernel_rfl) (by rfl) (v := ?_) (fun _ _ _ h => h) hHeld (fun w hSw => ?_) ?_
        rotate_left
        · (try dsimp only at hSw); go_simp <;> (with_reducible rfl)
        (try simp only [Act.put, List.setIfInBounds_toArray, List.set_cons_zero, List.set_cons_succ])
        refine rg_in 11 rfl (by kernel_rfl) (by kernel_rfl) (by kernel_rfl) (by rfl) (v := ?_) (fun _ _ _ h => h) hHeld (fun w hSw => ?_) ?_
        rotate_left
        · (try dsimp only at hSw); go_simp <;> (with_reducible rfl)
        (try simp only [Act.put, List.setIfInBounds_toArray, List.set_cons_zero, List.set_cons_succ])
        refine wpAnyH_done (by kernel_rfl) ?_ _
        have hbe := hHeld
        clear hHeld
        go_wp2
        go_roundw
        case rel => exact ⟨2, by omega, by first | rfl | go_num, hbe⟩
        case measure => simp [intOf]
      · obtain ⟨hu, rfl⟩ := hTT rfl
        have hu2 := hu.trans (HOc.out _ _ Hx.out Hy.out ox)
        subst hu2
        clear hu hTT hFF
        go_upto_region 15 with fail
        refine wp_region_held_drew (S := fun W => Below w5.heap.size w5 W) (by kernel_rfl) (below_drewN hbm 1) (fun hHeld => ?_)
        refine rg_in 0 rfl (by kernel_rfl) (by kernel_rfl) (by kernel_rfl) (by rfl) (v := ?_) (fun _ _ _ h => h) hHeld (fun w hSw => ?_) ?_
        rotate_left
        · (try dsimp only at hSw); go_simp <;> (with_reducible rfl)
        (try simp only [Act.put, List.setIfInBounds_toArray, List.set_cons_zero, List.set_cons_succ])
        refine rg_in 1 rfl (by kernel_rfl) (by kernel_rfl) (by kernel_rfl) (by rfl) (v := ?_) (fun _ _ _ h => h) hHeld (fun w hSw => ?_) ?_
        rotate_left
        · (try dsimp only at hSw); go_simp <;> (with_reducible rfl)
        (try simp only [Act.put, List.setIfInBounds_toArray, List.set_cons_zero, List.set_cons_succ])
        refine rg_in 5 rfl (by kernel_rfl) (by kernel_rfl) (by kernel_rfl) (by rfl) (v := ?_) (fun _ _ _ h => h) hHeld (fun w hSw => ?_) ?_
        rotate_left
        · (try dsimp only at hSw); go_simp <;> (with_reducible rfl)
        (try simp only [Act.put, List.setIfInBounds_toArray, List.set_cons_zero, List.set_cons_succ])
        refine rg_in 6 rfl (by kernel_rfl) (by kernel_rfl) (by kernel_rfl) (by rfl) (v := ?_) (fun _ _ _ h => h) hHeld (fun w hSw => ?_) ?_
        rotate_left
        · (try dsimp only at hSw); go_simp <;> (with_reducible rfl)
        (try simp only [Act.put, List.setIfInBounds_toArray, List.set_cons_zero, List.set_cons_succ])
        refine rg_do 2 rfl (by kernel_rfl) (by rfl) (fun K hK => ?_)
        go_simp
        (go_at_call 28; (with_reducible refine (HOa5.out _ hHeld).mono ?_); (rintro e w102 ⟨X, rfl, Hp, HLp, hb2⟩))
        obtain ⟨pk, pn, ps, pcA, pcn, pcc, pkA, pkn, pkc, pkeys, pkids⟩ := X
        (try dsimp only)
        refine hK.out _ _ (S_call hb2 hHeld rfl) (fun hHeld => ?_)
        clear hK K
        (try simp only [Act.put, List.setIfInBounds_toArray, List.set_cons_zero, List.set_cons_succ])
        refine rg_do 3 rfl (by kernel_rfl) (by rfl) (fun K hK => ?_)
        have hck := vcheck_any _ _ (.mk pk pn ps pcA pcn pcc pkA pkn pkc pkeys pkids) HLp (Nat.le_refl _) (HT5.out _ hHeld).1 (HT5.out _ hHeld).2.1
        rw [(HOs.out _ _ _ Hp.out Hx.out).trans ox, if_pos rfl] at hck
        simp only [VT.agg] at hck
        go_simp
        (go_at_call 29; (with_reducible refine hck.mono ?_); (rintro e w103 ⟨rfl, hb3⟩))
        clear hck
        refine hK.out _ _ (S_call hb3 hHeld rfl) (fun hHeld => ?_)
        clear hK K
        (try simp only [Act.put, List.setIfInBounds_toArray, List.set_cons_zero, List.set_cons_succ])
        refine rg_in 4 rfl (by kernel_rfl) (by kernel_rfl) (by kernel_rfl) (by rfl) (v := ?_) (fun _ _ _ h => h) hHeld (fun w hSw => ?_) ?_
        rotate_left
        · (try dsimp only at hSw); go_simp <;> (with_reducible rfl)
        (try simp only [Act.put, List.setIfInBounds_toArray, List.set_cons_zero, List.set_cons_succ])
        refine rg_do 7 rfl (by kernel_rfl) (by rfl) (fun K hK => ?_)
        go_simp
        (go_at_call 28; (with_reducible refine (HOb5.out _ hHeld).mono ?_); (rintro e w107 ⟨X, rfl, Hq, HLq, hb7⟩))
        obtain ⟨qk, qn, qs, qcA, qcn, qcc, qkA, qkn, qkc, qkeys, qkids⟩ := X
        (try dsimp only)
        refine hK.out _ _ (S_call hb7 hHeld rfl) (fun hHeld => ?_)
        clear hK K
        (try simp only [Act.put, List.setIfInBounds_toArray, List.set_cons_zero, List.set_cons_succ])
        refine rg_do 8 rfl (by kernel_rfl) (by rfl) (fun K hK => ?_)
        have hck := vcheck_any _ _ (.mk qk qn qs qcA qcn qcc qkA qkn qkc qkeys qkids) HLq (Nat.le_refl _) (HT5.out _ hHeld).1 (HT5.out _ hHeld).2.1
        rw [(HOs.out _ _ _ Hq.out Hy.out).trans oy, if_pos rfl] at hck
        simp only [VT.agg] at hck
        go_simp
        (go_at_call 29; (with_reducible refine hck.mono ?_); (rintro e w108 ⟨rfl, hb8⟩))
        clear hck
        refine hK.out _ _ (S_call hb8 hHeld rfl) (fun hHeld => ?_)
        clear hK K
        (try simp only [Act.put, List.setIfInBounds_toArray, List.set_cons_zero, List.set_cons_succ])
        refine rg_in 9 rfl (by kernel_rfl) (by kernel_rfl) (by kernel_rfl) (by rfl) (v := ?_) (fun _ _ _ h => h) hHeld (fun w hSw => ?_) ?_
        rotate_left
        · (try dsimp only at hSw); go_simp <;> (with_reducible rfl)
        (try simp only [Act.put, List.setIfInBounds_toArray, List.set_cons_zero, List.set_cons_succ])
        refine rg_in 10 rfl (by kernel_rfl) (by kernel_rfl) (by kernel_rfl) (by rfl) (v := ?_) (fun _ _ _ h => h) hHeld (fun w hSw => ?_) ?_
        rotate_left
        · (try dsimp only at hSw); go_simp <;> (with_reducible rfl)
        (try simp only [Act.put, List.setIfInBounds_toArray, List.set_cons_zero, List.set_cons_succ])
        refine rg_in 11 rfl (by kernel_rfl) (by kernel_rfl) (by kernel_rfl) (by rfl) (v := ?_) (fun _ _ _ h => h) hHeld (fun w hSw => ?_) ?_
        rotate_left
        · (try dsimp only at hSw); go_simp <;> (with_reducible rfl)
        (try simp only [Act.put, List.setIfInBounds_toArray, List.set_cons_zero, List.set_cons_succ])
        refine wpAnyH_done (by kernel_rfl) ?_ _
        have hbe := hHeld
        clear hHeld
        go_wp2
        go_roundw
        case rel => exact ⟨2, by omega, by first | rfl | go_num, hbe⟩
        case measure => simp [intOf]
    · go_wp2
      go_ret
      exact ⟨rfl, by rw [hg0]; exact hbw5.trans (hbr.mono (by omega))⟩
theorem collateWithin_walk (W : World) (T0 : VT) (hT0 : Lie W W.heap.size T0) (sT0 : Sml 1048576 T0) (T1 : VT) (hT1 : Lie W W.heap.size T1) (sT1 : Sml 1048576 T1) (a2 : Option Addr) (len2 cap2 : Nat) (l2 : List VT) (b2 : Shows W W.heap.size 5 a2 len2 (l2.flatMap VT.cells)) (ok2 : ∀ T ∈ l2, Lie W W.heap.size T ∧ Sml 1048576 T) (z2 : a2 = none → cap2 = 0) (y2 : len2 ≤ cap2) (x2 : cap2 ≤ maxLen) (T3 : VT) (hT3 : Lie W W.heap.size T3) (sT3 : Sml 1048576 T3) (a4 : ByteArray) (w4 : a4.size ≤ maxLen) (hk4 : a4.size ≤ 1048576) (htab : UTab W ∧ STab W ∧ RTab W) :
    Calls Tryd.prog 7 #[T0.agg, T1.agg, .slice a2 len2 cap2, T3.agg, .string a4] W fun e W' => e = .returned (.bool true) ∧ Below W.heap.size W W' :=
  cwithin_any W T0 T1 T3 a2 len2 cap2 W.heap.size l2 a4 (Nat.le_refl _) b2 (fun x hx => (ok2 x hx).1) y2 x2 hT0 hT1 hT3 hk4 htab.1 htab.2.1 htab.2.2
end Go.Proofs.YtndolgbbochpjaaDoor
