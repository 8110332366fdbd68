/-
  Layer 3: Print, Size; the reference's Print; few.
-/
import Derived.Test.YtchmchbgbchipaaDoorNumD
import Derived.Test.YtchmchbgbchipaaDoorClone
import Derived.Test.YtchmchbgbchipaaDoorFr
import Derived.Lib.ItoaLen
import Derived.Lib.ItoaMem
namespace Go.Proofs.YtchmchbgbchipaaDoor
open Go.RowKit

theorem grow_below (w : World) (k : Nat) (os : Array Obj) : Below w.heap.size w (Sort.grow (w.drewN k) os) :=
  ⟨rfl, rfl, rfl, by rw [Sort.size_grow]; exact Nat.le_add_right _ _, fun i hi => Sort.heap_grow_old (w.drewN k) os hi⟩
/-- A number of 64 bits. -/
def I64 (n : Int) : Prop := -9223372036854775808 ≤ n ∧ n ≤ 9223372036854775807
theorem i64_wf {n : Int} (h : (Lit.int .i64 n).wf = true) : I64 n := by
  have := wf_i64 h
  exact ⟨this.1, by omega⟩
theorem print_any (n : Int) (h : I64 n) (w : World) (hv : NVars w) :
    Calls Tryd.prog 16 #[.int .i64 n] w fun e w' => e = .returned (.string (ofL (Lib.itoa n))) ∧ Below w.heap.size w w' := by
  have hf := Tryd.strconv_FormatInt_10 n h.1 h.2 w hv.1
  have he : (⟨(Lib.itoa n).toArray⟩ : ByteArray) = ofL (Lib.itoa n) := rfl
  rw [he] at hf
  generalize ofL (Lib.itoa n) = S at *
  clear h
  go_enter Tryd.func16, Tryd.ntmps16
  go_wp2_with fail
  refine hf.mono ?_
  rintro e w1 ⟨rfl, k, os, rfl⟩
  go_wp2
  go_ret
  exact ⟨rfl, grow_below _ _ _⟩
theorem size_any (n : Int) (h : I64 n) (w : World) (hv : NVars w) :
    Calls Tryd.prog 17 #[.int .i64 n] w fun e w' => e = .returned (.int .i64 ((Lib.itoa n).length : Int)) ∧ Below w.heap.size w w' := by
  have hf := print_any n h w hv
  have hs : ((ofL (Lib.itoa n)).size : Int) = ((Lib.itoa n).length : Int) := by rw [ofL_size]
  generalize ofL (Lib.itoa n) = S at *
  generalize ((Lib.itoa n).length : Int) = z at *
  clear h
  go_enter Tryd.func17, Tryd.ntmps17
  go_wp2_with fail
  refine hf.mono ?_
  rintro e w1 ⟨rfl, hb⟩
  go_wp2
  go_ret
  exact ⟨by rw [← hs]; rfl, hb⟩
theorem few_any (A : Option Addr) (n c B : Nat) (l : List UInt8) (w : World) (h : Bytes w B A n l) (hA : A = none → c = 0) (hB : B ≤ w.heap.size) (hn : n ≤ c) (hc : c ≤ maxLen) :
    Calls Tryd.prog 10 #[.slice A n c] w (GivesBytes 5 (l.take 200) w) := by
  unfold maxLen at hc
  by_cases h4 : n ≤ 200
  · have hl : l.take 200 = l := List.take_of_length_le (by rw [h.len]; exact h4)
    rw [hl]
    clear hl
    have hm : min (n : Int) 200 = (n : Int) := by omega
    go_enter Tryd.func10, Tryd.ntmps10
    go_wp2_with fail
    refine (clone_any A n c l B _ h hA hB (by omega)).mono ?_
    rintro e w1 ⟨A1, n1, c1, rfl, hown, hb⟩
    go_wp2
    go_ret
    exact ⟨A1, n1, c1, rfl, hown, hb⟩
  · have hm : min (n : Int) 200 = 200 := by omega
    have h5 := h.first (k := 200) (by omega)
    go_enter Tryd.func10, Tryd.ntmps10
    go_wp2_with fail
    refine (clone_any A 200 c (l.take 200) B _ h5 hA hB (by omega)).mono ?_
    rintro e w1 ⟨A1, n1, c1, rfl, hown, hb⟩
    go_wp2
    go_ret
    exact ⟨A1, n1, c1, rfl, hown, hb⟩
theorem ofL_append (a b : List UInt8) : ofL a ++ ofL b = ofL (a ++ b) := by
  apply ByteArray.ext
  rw [ByteArray.data_append]
  simp [ofL]

set_option maxRecDepth 20000 in
theorem refPrint_digit (u : Nat) (hu : u < 10) (w : World) :
    Calls Tryd.prog 15 #[.int .i64 (u : Int)] w fun e w' => e = .returned (.string (ofL (Lib.decDigits u))) ∧ Below w.heap.size w w' := by
  have hd : ofL (Lib.decDigits u) = ofL [UInt8.ofNat (48 + u)] := by rw [Lib.decDigits_one hu]
  have h0 : ¬ (u : Int) < 0 := by omega
  have h1 : (u : Int) < 10 := by omega
  rw [hd]
  have hnew := bytes_new w [UInt8.ofNat (48 + u)] #[.int .u8 (48 + (u : Int))] 5 (0, 0) (by
    have : (UInt8.ofNat (48 + u)).toNat = 48 + u := by rw [UInt8.toNat_ofNat']; omega
    simp only [List.map_cons, List.map_nil, bv, this]
    push_cast
    rfl)
  have hconv := run_bytes_string (P := Tryd.prog) Tryd.underlying22 Tryd.underlying5 Tryd.underlying9 _ _ _ 1 _ _ hnew
  simp only [List.length_cons, List.length_nil, Nat.zero_add] at hconv
  generalize ofL [UInt8.ofNat (48 + u)] = S at *
  clear hd hnew
  go_enter Tryd.func15, Tryd.ntmps15
  go_wp2_with fail
  go_ret
  exact ⟨rfl, (Below.refl _ _).alloc (Nat.le_refl _) _⟩
theorem dec_big (u : Nat) (h : ¬ u < 10) : Lib.decDigits u = Lib.decDigits (u / 10) ++ Lib.decDigits (u % 10) := by
  rw [Lib.decDigits, dif_neg h, Lib.decDigits_one (i := u % 10) (by omega)]
theorem dec_len (u : Nat) (h : u ≤ 9223372036854775808) : (Lib.decDigits u).length ≤ 21 := by
  by_cases h1 : u ≤ 9223372036854775807
  · have := Lib.itoa_length_le (u : Int) (by omega) (by omega)
    rwa [Lib.itoa_nonneg] at this
  · have := Lib.itoa_length_le (-(u : Int)) (by omega) (by omega)
    rw [Lib.itoa_neg u (by omega), List.length_cons] at this
    omega
theorem refPrint_nat : ∀ (k u : Nat) (w : World), u ≤ k → u ≤ 9223372036854775807 →
    Calls Tryd.prog 15 #[.int .i64 (u : Int)] w fun e w' => e = .returned (.string (ofL (Lib.decDigits u))) ∧ Below w.heap.size w w'
  | k, u, w, hk, hm => by
    by_cases hu : u < 10
    · exact refPrint_digit u hu w
    · match k, hk with
      | 0, hk => omega
      | k + 1, hk =>
        have ih1 := fun W => refPrint_nat k (u / 10) W (by omega) (by omega)
        have ih2 := fun W => refPrint_digit (u % 10) (by omega) W
        have hd : ofL (Lib.decDigits (u / 10)) ++ ofL (Lib.decDigits (u % 10)) = ofL (Lib.decDigits u) := by rw [ofL_append, ← dec_big u hu]
        have HD := Lib.hid hd
        have hs1 : (ofL (Lib.decDigits (u / 10))).size ≤ 21 := by rw [ofL_size]; exact dec_len _ (by omega)
        have hs2 : (ofL (Lib.decDigits (u % 10))).size ≤ 21 := by rw [ofL_size]; exact dec_len _ (by omega)
        have h0 : ¬ (u : Int) < 0 := by omega
        have h1 : ¬ (u : Int) < 10 := by omega
        have e1 : ((u / 10 : Nat) : Int) = (u : Int) / 10 := by omega
        have e2 : ((u % 10 : Nat) : Int) = (u : Int) % 10 := by omega
        rw [e1] at ih1
        rw [e2] at ih2
        have h2 : (0 : Int) ≤ (u : Int) := by omega
        have h3 : (u : Int) ≤ 9223372036854775807 := by omega
        clear e1 e2 hd hk hm hu
        generalize ofL (Lib.decDigits (u / 10)) = S1 at *
        generalize ofL (Lib.decDigits (u % 10)) = S2 at *
        go_enter Tryd.func15, Tryd.ntmps15
        go_wp2_with fail
        refine (ih1 _).mono ?_
        rintro e w1 ⟨rfl, hb1⟩
        go_wp2_with fail
        refine (ih2 _).mono ?_
        rintro e w2 ⟨rfl, hb2⟩
        go_wp2_with fail
        go_ret
        exact ⟨by rw [← HD.out]; rfl, bel_next hb1 hb2⟩
theorem refPrint_neg1 (u : Nat) (h1 : 1 ≤ u) (h10 : u < 10) (w : World) :
    Calls Tryd.prog 15 #[.int .i64 (-(u : Int))] w fun e w' => e = .returned (.string (ofL (Lib.itoa (-(u : Int))))) ∧ Below w.heap.size w w' := by
  have hi := Lib.itoa_neg u h1
  have hneg : -(u : Int) < 0 := by omega
  have hd : (⟨#[45]⟩ : ByteArray) ++ ofL (Lib.decDigits u) = ofL (Lib.itoa (-(u : Int))) := by
    rw [show (⟨#[45]⟩ : ByteArray) = ofL [45] from rfl, ofL_append, hi]
    rfl
  have HD := Lib.hid hd
  have ih := fun W => refPrint_digit u h10 W
  have hs : (ofL (Lib.decDigits u)).size ≤ 21 := by rw [ofL_size]; exact dec_len _ (by omega)
  have h1 : (-10 : Int) < -(u : Int) := by omega
  have e1 : -(-(u : Int)) = (u : Int) := by omega
  generalize ofL (Lib.decDigits u) = S at *
  clear hd hi
  go_enter Tryd.func15, Tryd.ntmps15
  go_wp2_with fail
  refine (ih _).mono ?_
  rintro e w1 ⟨rfl, hb1⟩
  go_wp2_with fail
  go_ret
  exact ⟨by rw [← HD.out]; rfl, hb1⟩
theorem refPrint_neg : ∀ (k u : Nat) (w : World), u ≤ k → 1 ≤ u → u ≤ 9223372036854775808 →
    Calls Tryd.prog 15 #[.int .i64 (-(u : Int))] w fun e w' => e = .returned (.string (ofL (Lib.itoa (-(u : Int))))) ∧ Below w.heap.size w w'
  | k, u, w, hk, h1, hm => by
    by_cases hu : u < 10
    · exact refPrint_neg1 u h1 hu w
    · match k, hk with
      | 0, hk => omega
      | k + 1, hk =>
        have ih1 := fun W => refPrint_neg k (u / 10) W (by omega) (by omega) (by omega)
        have ih2 := fun W => refPrint_digit (u % 10) (by omega) W
        have hd : ofL (Lib.itoa (-((u / 10 : Nat) : Int))) ++ ofL (Lib.decDigits (u % 10)) = ofL (Lib.itoa (-(u : Int))) := by
          rw [Lib.itoa_neg _ (by omega), Lib.itoa_neg u h1, ofL_append, List.cons_append, ← dec_big u hu]
        have HD := Lib.hid hd
        have hs1 : (ofL (Lib.itoa (-((u / 10 : Nat) : Int)))).size ≤ 21 := by rw [ofL_size]; exact Lib.itoa_length_le _ (by omega) (by omega)
        have hs2 : (ofL (Lib.decDigits (u % 10))).size ≤ 21 := by rw [ofL_size]; exact dec_len _ (by omega)
        have e1 : Int.tdiv (-(u : Int)) 10 = -((u / 10 : Nat) : Int) := by rw [Int.neg_tdiv, Int.tdiv_eq_ediv_of_nonneg (by omega)]; rfl
        have e2 : Int.tmod (-(u : Int)) 10 = -((u % 10 : Nat) : Int) := by rw [Int.neg_tmod, Int.tmod_eq_emod_of_nonneg (by omega)]; rfl
        have hm' : -9223372036854775808 ≤ -((u / 10 : Nat) : Int) := by omega
        have hq : ((u % 10 : Nat) : Int) < 10 := by omega
        generalize ofL (Lib.itoa (-((u / 10 : Nat) : Int))) = S1 at *
        generalize ofL (Lib.decDigits (u % 10)) = S2 at *
        generalize hn : -(u : Int) = n at *
        have HN := Lib.hid hn
        have hneg : n < 0 := by omega
        have hn10 : ¬ (-10 : Int) < n := by omega
        have hnlo : -9223372036854775808 ≤ n := by omega
        have hneg2 : -((u / 10 : Nat) : Int) < 0 := by omega
        clear hn hd hk hu hm
        generalize -((u / 10 : Nat) : Int) = m at *
        have hd0 : (0 : Int) ≤ ((u % 10 : Nat) : Int) := by omega
        generalize ((u % 10 : Nat) : Int) = d at *
        have e3 : -(-d) = d := by omega
        go_enter Tryd.func15, Tryd.ntmps15
        go_wp2_with fail
        refine (ih1 _).mono ?_
        rintro e w1 ⟨rfl, hb1⟩
        go_wp2_with fail
        refine (ih2 _).mono ?_
        rintro e w2 ⟨rfl, hb2⟩
        go_wp2_with fail
        go_ret
        exact ⟨by rw [← HD.out]; rfl, bel_next hb1 hb2⟩
theorem refPrint_any (n : Int) (h : I64 n) (w : World) :
    Calls Tryd.prog 15 #[.int .i64 n] w fun e w' => e = .returned (.string (ofL (Lib.itoa n))) ∧ Below w.heap.size w w' := by
  obtain ⟨hlo, hhi⟩ := h
  by_cases h0 : 0 ≤ n
  · obtain ⟨u, rfl⟩ : ∃ u : Nat, n = (u : Int) := ⟨n.toNat, by omega⟩
    rw [Lib.itoa_nonneg]
    exact refPrint_nat u u w (Nat.le_refl _) (by omega)
  · obtain ⟨u, rfl⟩ : ∃ u : Nat, n = -(u : Int) := ⟨n.natAbs, by omega⟩
    exact refPrint_neg u u w (Nat.le_refl _) (by omega) (by omega)
end Go.Proofs.YtchmchbgbchipaaDoor
