/-
  Layer 3: the reader's block; takes.
-/
import Derived.Test.YtchmchbgbchipaaDoorNumP
import Derived.Test.YtchmchbgbchipaaDoorRows
import Derived.Test.YtchmchbgbchipaaDoorStr
import Derived.LoopTactic
import Derived.Deep.QuietTactic
import Derived.BigQuiet
import Derived.Lib.Hide
import Derived.RangeFuncBox
namespace Go.Proofs.YtchmchbgbchipaaDoor
open Go.RowKit

/-- The reader's block: its place, its text, its mark. -/
def Rd (w : World) (g p : Nat) (A : Option Addr) (n c : Nat) (part : Bool) : Prop :=
  w.heap[g]? = some (.cells #[.int .i64 (p : Int), .slice A n c, .bool part] 48 (0, 0))
section
variable {w w' : World} {g p n c : Nat} {A : Option Addr} {part : Bool}
theorem Rd.lt (h : Rd w g p A n c part) : g < w.heap.size := (Array.getElem?_eq_some_iff.1 h).1
theorem Rd.c0 (h : Rd w g p A n c part) : w.cell? ⟨g, 0, none⟩ = some (.int .i64 (p : Int)) := by unfold Rd at h; simp [World.cell?, h]
theorem Rd.c1 (h : Rd w g p A n c part) : w.cell? ⟨g, 1, none⟩ = some (.slice A n c) := by unfold Rd at h; simp [World.cell?, h]
theorem Rd.c2 (h : Rd w g p A n c part) : w.cell? ⟨g, 2, none⟩ = some (.bool part) := by unfold Rd at h; simp [World.cell?, h]
theorem Rd.f0 (h : Rd w g p A n c part) : w.frozen? ⟨g, 0, none⟩ = false := by unfold Rd at h; simp [World.frozen?, h]
theorem Rd.f2 (h : Rd w g p A n c part) : w.frozen? ⟨g, 2, none⟩ = false := by unfold Rd at h; simp [World.frozen?, h]
theorem Rd.below {B : Nat} (h : Rd w g p A n c part) (hb : Below B w w') (hB : g < B) : Rd w' g p A n c part := (hb.block g hB).trans h
theorem Rd.drewN (h : Rd w g p A n c part) (k : Nat) : Rd (w.drewN k) g p A n c part := h
theorem Rd.alloc (h : Rd w g p A n c part) (o : Obj) : Rd (w.alloc o) g p A n c part := h.below ((Below.refl _ _).alloc (Nat.le_refl _) o) h.lt
theorem Rd.set0 (h : Rd w g p A n c part) (q : Nat) : Rd (w.setCell ⟨g, 0, none⟩ (.int .i64 (q : Int))) g q A n c part := by
  unfold Rd at h ⊢
  have hlt := (Array.getElem?_eq_some_iff.1 h).1
  simp only [World.setCell]
  rw [Array.getElem?_modify, if_pos rfl, h]
  rfl
theorem Rd.set2 (h : Rd w g p A n c part) (b : Bool) : Rd (w.setCell ⟨g, 2, none⟩ (.bool b)) g p A n c b := by
  unfold Rd at h ⊢
  have hlt := (Array.getElem?_eq_some_iff.1 h).1
  simp only [World.setCell]
  rw [Array.getElem?_modify, if_pos rfl, h]
  rfl
end
theorem contains_take (l : List UInt8) (x : UInt8) (k : Nat) (hk : l.length ≤ k) (h : ∀ j, j < k → j < l.length → l.getD j 0 ≠ x) : l.contains x = false := by
  rw [Bool.eq_false_iff]
  intro hc
  rw [List.contains_eq_mem, decide_eq_true_eq] at hc
  obtain ⟨i, hi, rfl⟩ := List.getElem_of_mem hc
  refine h i (by omega) hi ?_
  rw [List.getD_eq_getElem?_getD, List.getElem?_eq_getElem hi]; rfl
theorem contains_at (l : List UInt8) (x : UInt8) (k : Nat) (hk : k < l.length) (h : l.getD k 0 = x) : l.contains x = true := by
  rw [List.contains_eq_mem, decide_eq_true_eq, ← h, List.getD_eq_getElem?_getD, List.getElem?_eq_getElem hk]
  exact List.getElem_mem hk
theorem str_at8 (s : ByteArray) (k : Nat) (h : k < s.size) : ((s[k]'h).toNat : Int) = at8 s.data.toList k := by
  unfold at8
  rw [List.getD_eq_getElem?_getD, List.getElem?_eq_getElem (by simpa using h)]
  rfl

/-- Nothing of what was there has turned but the block g. -/
def Only (g : Nat) (w w' : World) : Prop := w.grownBy w' (some g)
theorem Only.refl (g : Nat) (w : World) : Only g w w := World.grownBy.refl w _
theorem Only.trans {g : Nat} {a b c : World} (h : Only g a b) (k : Only g b c) : Only g a c :=
  ⟨k.os.trans h.os, k.tape.trans h.tape, k.output.trans h.output, Nat.le_trans h.size k.size, fun i hi hn => (k.block i (Nat.lt_of_lt_of_le hi h.size) hn).trans (h.block i hi hn)⟩
theorem Only.drewN {g : Nat} {a b : World} (h : Only g a b) (k : Nat) : Only g a (b.drewN k) := ⟨h.os, h.tape, h.output, h.size, h.block⟩
theorem Only.setCell {g : Nat} {a b : World} (h : Only g a b) (o : Nat) (v : Value) : Only g a (b.setCell ⟨g, o, none⟩ v) :=
  h.trans ⟨rfl, rfl, rfl, (KeepsWalks.setCell b _ v).size, fun k _ hk => Below.heap_setCell _ _ _ k (fun e => hk (by rw [e]))⟩
theorem Only.below {g B : Nat} {a b : World} (h : Only g a b) (hB : B ≤ g) (hs : B ≤ a.heap.size) : Below B a b := (Below.refl B a).grown h hs (fun k e => by cases e; exact hB)
theorem Only.other {g : Nat} {a b : World} (h : Only g a b) {k : Nat} {o : Obj} (hk : a.heap[k]? = some o) (hn : k ≠ g) : b.heap[k]? = some o :=
  (h.block k ((Array.getElem?_eq_some_iff.1 hk).1) (fun e => hn (by injection e))).trans hk
theorem bytes_only {w w' : World} {g B n : Nat} {A : Option Addr} {l : List UInt8} (hl : Bytes w B A n l) (h : Only g w w') (hB : B ≤ g) (hg : g < w.heap.size) : Bytes w' B A n l := hl.below (h.below hB (by omega))
/-- takes: one step further if the next byte is one of some. -/
def Taken (w : World) (g p : Nat) (A : Option Addr) (n c : Nat) (part : Bool) (b : Bool) (e : Ending) (w' : World) : Prop :=
  e = .returned (.bool b) ∧ Rd w' g (if b = true then p + 1 else p) A n c part ∧ Only g w w'
set_option maxRecDepth 20000 in
set_option maxHeartbeats 2000000 in
theorem takes_any (g p : Nat) (A : Option Addr) (n c B : Nat) (part : Bool) (l set : List UInt8) (S : ByteArray) (hS : S.data.toList = set) (hS2 : S.size ≤ 100) (w : World) (h : Rd w g p A n c part) (hl : Bytes w B A n l) (hp : p ≤ n) (hn : n ≤ maxLen) :
    Calls Tryd.prog 36 #[.pointer (some ⟨g, 0, none⟩), .string S] w (Taken w g p A n c part (tk set l p)) := by
  unfold maxLen at hn
  have Hl := Lib.hid hl.len
  have hc0 := h.c0
  have hc1 := h.c1
  have hf0 := h.f0
  by_cases hpn : p = n
  · have hT := tk_end (set := set) (l := l) (p := p) (by rw [Hl.out]; omega)
    rw [hT]
    clear hT
    subst hpn
    go_enter Tryd.func36, Tryd.ntmps36
    go_wp2
    go_quiet (fail)
    go_wp2
    go_ret
    exact ⟨rfl, h.drewN _, (Only.refl _ _).drewN _⟩
  · have hlt : p < n := by omega
    have hne : ((p : Int) == (n : Int)) = false := by rw [beq_eq_false_iff_ne]; omega
    have i0 : (0 : Int) ≤ (p : Int) := by omega
    have i1 : (p : Int) < (n : Int) := by omega
    have HS := Lib.hid hS
    have hSz : S.size = set.length := by rw [← hS, Array.length_toList]; rfl
    have HSz := Lib.hid hSz
    obtain ⟨b1, o1, rfl, _, hcell⟩ := hl.cell hlt
    clear hpn hS hSz
    go_enter Tryd.func36, Tryd.ntmps36
    go_wp2
    go_quiet (fail)
    go_wp2
    go_loopw [19] (fun i wr => ∃ k : Nat, k ≤ S.size ∧ i = .int .i64 k ∧ Hid (∀ j, j < k → j < set.length → set.getD j 0 ≠ l.getD p 0) ∧ ∃ m, wr = w.drewN m) (fun i _ => S.size - (intOf i).toNat)
    case atStart => exact ⟨0, Nat.zero_le _, rfl, Lib.hid (fun j hj => by omega), _, rfl⟩
    case round =>
      obtain ⟨k, hk, rfl, Hk, m, rfl⟩ := hrel
      by_cases hks : k < S.size
      · have hs := str_at8 S k hks
        rw [HS.out] at hs
        have hkl : k < set.length := by rw [← HSz.out]; exact hks
        by_cases hx : at8 l p = at8 set k
        · have hT : tk set l p = true := by
            unfold tk
            rw [decide_eq_true (by rw [Hl.out]; exact hlt), Bool.true_and]
            exact contains_at set _ k hkl (at8_inj hx).symm
          have HT := Lib.hid hT
          have hxe : (at8 l p == at8 set k) = true := beq_iff_eq.2 hx
          clear hT hx hkl
          generalize at8 l p = x at *
          generalize at8 set k = y at *
          go_wp2
          go_quiet (fail)
          go_wp2
          go_ret
          refine ⟨by rw [HT.out]; rfl, ?_, ?_⟩
          · rw [HT.out]
            exact (h.drewN _).set0 (p + 1)
          · exact ((Only.refl g w).drewN _).setCell 0 _
        · have Hx := Lib.hid hx
          have hxe : (at8 l p == at8 set k) = false := beq_eq_false_iff_ne.2 hx
          have Hk' : Hid (∀ j, j < k + 1 → j < set.length → set.getD j 0 ≠ l.getD p 0) := Lib.hid (by
            intro j hj hjl
            rcases Nat.lt_or_ge j k with h1 | h1
            · exact Hk.out j h1 hjl
            · obtain rfl : j = k := by omega
              intro e
              exact Hx.out (by unfold at8; rw [e]))
          clear hx hkl
          generalize at8 l p = x at *
          generalize at8 set k = y at *
          go_wp2
          go_quiet (fail)
          go_wp2
          go_roundw
          case rel => exact ⟨k + 1, by omega, by go_num, Hk', _, rfl⟩
          case measure => simp [intOf]; omega
      · have hkS : k = S.size := by omega
        have hT : tk set l p = false := by
          unfold tk
          rw [contains_take set _ k (by rw [← HSz.out]; omega) Hk.out, Bool.and_false]
        have HT := Lib.hid hT
        clear hT hkS
        go_wp2
        go_ret
        exact ⟨by rw [HT.out]; rfl, by rw [HT.out]; exact h.drewN _, (Only.refl _ _).drewN _⟩
end Go.Proofs.YtchmchbgbchipaaDoor
