/-
  Layer 9: the walk of CrcApart.
-/
import Derived.Test.YtjkdbhhcmpmknaaDoorCrcLin
import Derived.Deep.RegionLaw
namespace Go.Proofs.YtjkdbhhcmpmknaaDoor
open Go.RowKit
attribute [local go_sem ↓] Go.wp_at_zero Go.wp_at_succ

theorem st_inj {s t : Nat} (hs : s < 4294967296) (ht : t < 4294967296) (h : Crc.st s = Crc.st t) : s = t := by
  have big : ∀ x : Nat, x < 2147483648 → 2147483648 ≤ x ^^^ Crc.pol := by
    intro x hx
    have h1 : (x ^^^ Crc.pol).testBit 31 = true := by
      rw [Nat.testBit_xor, Nat.testBit_lt_two_pow (x := x) (i := 31) (by simpa using hx)]
      decide
    rcases Nat.lt_or_ge (x ^^^ Crc.pol) 2147483648 with h2 | h2
    · rw [Nat.testBit_lt_two_pow (x := x ^^^ Crc.pol) (i := 31) (by simpa using h2)] at h1
      cases h1
    · exact h2
  have key : ∀ u : Nat, u < 4294967296 → (u % 2 = 1 → Crc.st u = u / 2 ^^^ Crc.pol ∧ 2147483648 ≤ Crc.st u) ∧ (u % 2 = 0 → Crc.st u = u / 2 ∧ Crc.st u < 2147483648) := by
    intro u hu
    refine ⟨fun h1 => ?_, fun h0 => ?_⟩
    · have e : Crc.st u = u / 2 ^^^ Crc.pol := if_pos h1
      exact ⟨e, by rw [e]; exact big _ (by omega)⟩
    · have e : Crc.st u = u / 2 := if_neg (by omega)
      exact ⟨e, by rw [e]; omega⟩
  obtain ⟨a1, a0⟩ := key s hs
  obtain ⟨b1, b0⟩ := key t ht
  rcases Nat.mod_two_eq_zero_or_one s with h1 | h1 <;> rcases Nat.mod_two_eq_zero_or_one t with h2 | h2
  · have := (a0 h1).1; have := (b0 h2).1; omega
  · have := (a0 h1).2; have := (b1 h2).2; omega
  · have := (a1 h1).2; have := (b0 h2).2; omega
  · have e1 := (a1 h1).1
    have e2 := (b1 h2).1
    rw [e1, e2] at h
    have h3 : s / 2 = t / 2 := by
      have := congrArg (· ^^^ Crc.pol) h
      simpa [Nat.xor_assoc] using this
    omega
theorem stN_inj (n : Nat) : ∀ {s t : Nat}, s < 4294967296 → t < 4294967296 → Crc.stN n s = Crc.stN n t → s = t := by
  induction n with
  | zero => intro s t _ _ h; exact h
  | succ n ih => intro s t hs ht h; exact st_inj hs ht (ih (Crc.st_lt hs) (Crc.st_lt ht) h)
theorem take_inj (l : List UInt8) : ∀ {s t : Nat}, s < 4294967296 → t < 4294967296 → Crc.take s l = Crc.take t l → s = t := by
  induction l with
  | nil => intro s t _ _ h; exact h
  | cons c l ih =>
    intro s t hs ht h
    have h1 := ih (Crc.eat_lt c hs) (Crc.eat_lt c ht) h
    unfold Crc.eat at h1
    have hc := c.toNat_lt
    have h2 := stN_inj 8 (Nat.xor_lt_two_pow (n := 32) hs (by omega)) (Nat.xor_lt_two_pow (n := 32) ht (by omega)) h1
    have := congrArg (· ^^^ c.toNat) h2
    simpa [Nat.xor_assoc] using this
/-- The number that four bytes make. -/
def word (a b c d : UInt8) : Nat := a.toNat ^^^ (2 ^ 8 * b.toNat ^^^ (2 ^ 16 * c.toNat ^^^ 2 ^ 24 * d.toNat))
theorem stN_shift (m k x : Nat) : Crc.stN (m + k) (2 ^ m * x) = Crc.stN k x := by rw [Crc.stN_add, Crc.stN_pow]
theorem take4 (s : Nat) (a b c d : UInt8) : Crc.take s [a, b, c, d] = Crc.stN 32 (s ^^^ word a b c d) := by
  show Crc.eat (Crc.eat (Crc.eat (Crc.eat s a) b) c) d = _
  unfold Crc.eat word
  have e : ∀ x k y, Crc.stN 8 (Crc.stN k x ^^^ y) = Crc.stN (k + 8) (x ^^^ 2 ^ k * y) := by
    intro x k y
    rw [Crc.stN_add, Crc.stN_xor k, Crc.stN_pow]
  rw [e (s ^^^ a.toNat) 8 b.toNat, e (s ^^^ a.toNat ^^^ 2 ^ 8 * b.toNat) (8 + 8) c.toNat, e _ (8 + 8 + 8) d.toNat]
  simp only [Nat.reduceAdd]
  rw [Nat.xor_assoc, Nat.xor_assoc, Nat.xor_assoc]
theorem word_sum (a b c d : UInt8) : word a b c d = a.toNat + 256 * b.toNat + 65536 * c.toNat + 16777216 * d.toNat := by
  have ha := a.toNat_lt
  have hb := b.toNat_lt
  have hc := c.toNat_lt
  have hd := d.toNat_lt
  have j : ∀ (i x y : Nat), y < 2 ^ i → y ^^^ 2 ^ i * x = y + 2 ^ i * x := by
    intro i x y hy
    rw [Nat.xor_comm]
    have h1 : 2 ^ i * x ^^^ y = 2 ^ i * x + y := by
      apply Nat.eq_of_testBit_eq
      intro n
      rw [Nat.testBit_xor, Nat.testBit_two_pow_mul_add _ hy, Nat.testBit_two_pow_mul]
      by_cases hi : n < i
      · rw [if_pos hi, decide_eq_false (by omega)]; simp
      · rw [if_neg hi, decide_eq_true (by omega : n ≥ i), Nat.testBit_lt_two_pow (x := y) (i := n) (Nat.lt_of_lt_of_le hy (Nat.pow_le_pow_right (by decide) (by omega)))]
        simp
    omega
  unfold word
  rw [← Nat.xor_assoc, ← Nat.xor_assoc, j 8 _ _ (by omega), j 16 _ _ (by omega), j 24 _ _ (by omega)]
theorem word_inj {a b c d a' b' c' d' : UInt8} (h : word a b c d = word a' b' c' d') : [a, b, c, d] = [a', b', c', d'] := by
  rw [word_sum, word_sum] at h
  have ha := a.toNat_lt
  have hb := b.toNat_lt
  have hc := c.toNat_lt
  have hd := d.toNat_lt
  have ha' := a'.toNat_lt
  have hb' := b'.toNat_lt
  have hc' := c'.toNat_lt
  have hd' := d'.toNat_lt
  have h1 : a = a' := UInt8.toNat_inj.1 (by omega)
  have h2 : b = b' := UInt8.toNat_inj.1 (by omega)
  have h3 : c = c' := UInt8.toNat_inj.1 (by omega)
  have h4 : d = d' := UInt8.toNat_inj.1 (by omega)
  rw [h1, h2, h3, h4]
theorem word_lt (a b c d : UInt8) : word a b c d < 4294967296 := by
  rw [word_sum]
  have ha := a.toNat_lt
  have hb := b.toNat_lt
  have hc := c.toNat_lt
  have hd := d.toNat_lt
  omega
theorem take4_inj (s : Nat) (hs : s < 4294967296) {v w : List UInt8} (hv : v.length = 4) (hw : w.length = 4) (h : Crc.take s v = Crc.take s w) : v = w := by
  match v, hv, w, hw with
  | [a, b, c, d], _, [a', b', c', d'], _ =>
    rw [take4, take4] at h
    have h1 := stN_inj 32 (Nat.xor_lt_two_pow (n := 32) hs (word_lt _ _ _ _)) (Nat.xor_lt_two_pow (n := 32) hs (word_lt _ _ _ _)) h
    have h2 := congrArg (s ^^^ ·) h1
    simp only [← Nat.xor_assoc, Nat.xor_self, Nat.zero_xor] at h2
    exact word_inj h2
/-- Sequences that differ only within four bytes have one sum only if they are one. -/
theorem apart (x v w y : List UInt8) (hv : v.length = 4) (hw : w.length = 4) (h : Crc.more 0 (x ++ (v ++ y)) = Crc.more 0 (x ++ (w ++ y))) : v = w := by
  unfold Crc.more at h
  have b1 := Crc.take_lt (x ++ (v ++ y)) (s := 4294967295 - 0) (by decide)
  have b2 := Crc.take_lt (x ++ (w ++ y)) (s := 4294967295 - 0) (by decide)
  have h1 : Crc.take (4294967295 - 0) (x ++ (v ++ y)) = Crc.take (4294967295 - 0) (x ++ (w ++ y)) := by omega
  rw [Crc.take_append, Crc.take_append, Crc.take_append, Crc.take_append] at h1
  have hx := Crc.take_lt x (s := 4294967295 - 0) (by decide)
  exact take4_inj _ hx hv hw (take_inj y (Crc.take_lt v hx) (Crc.take_lt w hx) h1)

theorem beq_cast (a b : Nat) : ((a : Int) == (b : Int)) = decide (a = b) := by
  rw [Bool.eq_iff_iff, beq_iff_eq, decide_eq_true_iff]
  omega
theorem own_some {w : World} {base : Nat} {e : TypeId} {A : Option Addr} {n c size : Nat} {xs : List Value} (h : w.ownsRow base e size (.slice A n c) n xs) (hn : 0 < n) : ∃ g, A = some ⟨g, 0, none⟩ := by
  obtain ⟨g, cap, hv, _, _⟩ := h.form hn
  injection hv with hA
  exact ⟨g, hA⟩
set_option maxRecDepth 100000 in
set_option maxHeartbeats 2000000 in
theorem crcApart_walk (w : World) (A : Option Addr) (n c : Nat) (l : List UInt8) (h : Bytes w w.heap.size A n l) (hA : A = none → c = 0) (hn : n ≤ c) (hc : c ≤ maxLen)
    (at_ : Int) (_wat : (Lit.int .i64 at_).wf = true) (o0 o1 o2 o3 : UInt8) (htab : Tab w) :
    Calls Tryd.prog 7 #[.slice A n c, .int .i64 at_, .agg #[bv o0, bv o1, bv o2, bv o3]] w fun e w' => e = .returned (.bool true) ∧ Below w.heap.size w w' := by
  have hb0 := (Below.refl w.heap.size w).alloc (Nat.le_refl _) (.cells #[bv o0, bv o1, bv o2, bv o3] 36)
  have ho := bytes_new w [o0, o1, o2, o3] #[bv o0, bv o1, bv o2, bv o3] 36 (0, 0) rfl
  go_enter Tryd.func7, Tryd.ntmps7
  go_wp2_with fail
  refine (wakes_any _ (htab.alloc _)).mono ?_
  rintro e w1 ⟨rfl, hb1'⟩
  have hb1 := hb0.trans (hb1'.mono hb0.size)
  have ho1 := ho.below (hb1'.mono (by simp))
  have s0 := hb1'.size
  rw [World.size_alloc] at s0
  have s1 := hb1.size
  go_wp2_with fail
  refine (few_any A n c w.heap.size l _ (h.below hb1) hA s1 hn hc).mono ?_
  rintro e w2 ⟨A2, n2, c2, rfl, hown2, hb2⟩
  have s2 := hb2.size
  have h12 := hb1.trans (hb2.mono s1)
  have hl2 : Bytes w2 w2.heap.size A2 n2 (l.take 400) := Bytes.own hown2
  have ho2 := ho1.below (hb2.mono s0)
  obtain ⟨hlen2, hn2, hc2⟩ := gives_len hown2
  have hle2 : n2 ≤ 400 := by rw [hlen2, List.length_take]; omega
  have t2 := htab.below h12 htab.lt
  clear hown2 hlen2
  obtain ⟨m, Hm⟩ : ∃ m, Hid (m = l.take 400) := ⟨_, Lib.hid rfl⟩
  rw [← Hm.out] at hl2
  have hm2 : n2 ≤ maxLen := by omega
  by_cases h4 : n2 < 4
  · go_wp2_with fail
    refine (sum_top A2 n2 c2 m _ t2 hl2 hm2).mono ?_
    rintro e w3 ⟨rfl, hb3⟩
    go_wp2_with fail
    refine (more_any A2 n2 c2 w2.heap.size m 0 _ (t2.below hb3 t2.lt) (hl2.below hb3) hb3.size (by decide) hm2).mono ?_
    rintro e w4 ⟨rfl, hb4⟩
    have hbb : ((Crc.more 0 m : Int) == (Crc.more 0 m : Int)) = true := by simp
    go_wp2
    go_ret
    exact ⟨rfl, (h12.trans (hb3.mono (by omega))).trans (hb4.mono (by have := hb3.size; omega))⟩
  · go_wp2_with fail
    have hA2 : A2 = none → c2 = 0 := by
      intro e
      subst e
      have := (bytes_nil hl2).1
      omega
    refine (clone_any A2 n2 c2 m _ _ hl2 hA2 (Nat.le_refl _) (by omega)).mono ?_
    rintro e w3 ⟨A3, n3, c3, rfl, hown3, hb3⟩
    have s3 := hb3.size
    obtain ⟨hlen3, hn3, hc3⟩ := gives_len hown3
    have hn23 : n3 = n2 := by rw [hlen3, hl2.len]
    subst hn23
    clear hlen3
    go_wp2_with fail
    obtain ⟨d, rfl⟩ : ∃ d, n3 = d + 3 := ⟨n3 - 3, by omega⟩
    have hd0 : 0 < d := by omega
    obtain ⟨u, hu⟩ : ∃ u : Nat, IntKind.u64.wrap at_ = (u : Int) := by
      have h0 : 0 ≤ IntKind.u64.wrap at_ := by simp [IntKind.wrap, IntKind.bits, IntKind.signed]; omega
      exact Int.eq_ofNat_of_zero_le h0
    have hd1 : ((d : Int) == 0) = false := by simp; omega
    have hd2 : ¬ ((d : Int) = 0) := by omega
    have hd3 : ¬ (d = 0) := by omega
    obtain ⟨p, Hp⟩ : ∃ p : Nat, Hid (p = u % d) := ⟨_, Lib.hid rfl⟩
    have hp : (u : Int) % (d : Int) = (p : Int) := by
      rw [Hp.out]
      exact (Int.natCast_emod u d).symm
    have hpd : p < d := by
      have := Nat.mod_lt u hd0
      rw [← Hp.out] at this
      omega
    have j1 : (0 : Int) ≤ (p : Int) := by omega
    have j2 : (p : Int) ≤ (d : Int) + 3 := by omega
    have j3 : (p : Int) ≤ (c3 : Int) := by omega
    have hw0 : IntKind.i64.wrap (p : Int) = (p : Int) := by rw [IntKind.wrap_i64]; omega
    have hw1 : IntKind.i64.wrap (d : Int) = (d : Int) := by rw [IntKind.wrap_i64]; omega
    have hw2 : IntKind.u64.wrap (d : Int) = (d : Int) := by simp [IntKind.wrap, IntKind.bits, IntKind.signed]; omega
    have htm : (u : Int).tmod (d : Int) = (p : Int) := by rw [Int.tmod_eq_emod_of_nonneg (by omega)]; exact hp
    have hb0' : ∀ (W : World), Below w3.heap.size w3 W → Bytes W (w.heap.size + 1) (some ⟨w.heap.size, 0, none⟩) 4 [o0, o1, o2, o3] := fun W hW => (ho2.below (hb3.mono (by omega))).below (hW.mono (by omega))
    have Hb0' := Lib.hid hb0'
    clear hb0'
    have hb3' : ∀ (W : World), Below w3.heap.size w3 W → W.ownsRow w2.heap.size 5 1 (.slice A3 (d + 3) c3) (d + 3) (m.map bv) := fun W hW => own_below hown3 hW
    have Hb3' := Lib.hid hb3'
    clear hb3'
    have hsz5 : (Tryd.prog.info? 5).map (·.size) = some 1 := by kernel_rfl
    have hone4 : ∀ v ∈ [bv o0, bv o1, bv o2, bv o3], v.oneCell' = true := bv_one [o0, o1, o2, o3]
    have hfit : p + (d + 3 - p) ≤ d + 3 := by omega
    have hcp : ¬ c3 = p := by omega
    clear hp hd1
    rcases own_some hown3 (by omega) with ⟨g, rfl⟩
    go_region_held3 (fun w' => True) (trivial) (first
      | (refine step_copy_shows (by rfl) (.tmp 32) (.tmp 33) 23 23 (by rfl) 5 Tryd.underlying23 hsz5 w2.heap.size 5 g (d + 3) c3 (m.map bv) (Hb3'.out w3.drew (Below.refl _ _).drew) p (some ⟨g, p, none⟩) (d + 3 - p) (c3 - p) (by rfl) (fun _ => rfl) hfit (w.heap.size + 1) (some ⟨w.heap.size, 0, none⟩) 4 4 [bv o0, bv o1, bv o2, bv o3] (by rfl) (Hb0'.out w3.drew (Below.refl _ _).drew) hone4 ?_; intro w5 hown5 _ hb5))
    have hb35 : Below w2.heap.size w2 w5 := hb3.trans (below_undrew hb5)
    have s5 := hb35.size
    obtain ⟨cc, Hcc⟩ : ∃ cc, Hid (cc = m.take p ++ ([o0, o1, o2, o3] ++ m.drop (p + 4))) := ⟨_, Lib.hid rfl⟩
    have hml := hl2.len
    have hcc : splice (m.map bv) p (List.take (d + 3 - p) [bv o0, bv o1, bv o2, bv o3]) = cc.map bv := by
      rw [List.take_of_length_le (by simp; omega), Hcc.out]
      unfold splice
      simp [List.map_take, List.map_drop]
    rw [hcc] at hown5
    have hl5 : Bytes w5 w5.heap.size (some ⟨g, 0, none⟩) (d + 3) cc := Bytes.own hown5
    have hmm : m = m.take p ++ ((m.drop p).take 4 ++ m.drop (p + 4)) := by
      conv => lhs; rw [← List.take_append_drop p m, ← List.take_append_drop 4 (m.drop p), List.drop_drop]
    have hv4 : ((m.drop p).take 4).length = 4 := by rw [List.length_take, List.length_drop, hml]; omega
    have hfin : (decide (Crc.more 0 m = Crc.more 0 cc)) = sameB m cc := by
      by_cases hmc : m = cc
      · rw [← hmc]
        unfold sameB
        rw [decide_eq_true rfl, decide_eq_true rfl]
      · unfold sameB
        rw [decide_eq_false hmc]
        apply decide_eq_false
        intro he
        rw [hmm, Hcc.out] at he
        have := apart _ _ _ _ hv4 rfl he
        exact hmc (by rw [hmm, Hcc.out, this])
    have Hfin := Lib.hid hfin
    clear hfin hmm hv4 hml hcc hown5
    go_wp2_with fail
    refine (sum_top A2 (d + 3) c2 m _ (t2.below hb35 t2.lt) (hl2.up hb35) hm2).mono ?_
    rintro e w6 ⟨rfl, hb6⟩
    have hb26 := hb35.trans (hb6.mono s5)
    go_wp2_with fail
    refine (sum_top (some ⟨g, 0, none⟩) (d + 3) c3 cc _ (t2.below hb26 t2.lt) (hl5.up hb6) hm2).mono ?_
    rintro e w7 ⟨rfl, hb7⟩
    have hb27 := hb26.trans (hb7.mono (by have := hb6.size; omega))
    go_wp2_with fail
    refine (equal_any A2 (some ⟨g, 0, none⟩) (d + 3) c2 (d + 3) c3 m cc _ _ _ (hl2.up hb27) ((hl5.up hb6).up hb7) hm2 hm2).mono ?_
    rintro e w8 ⟨rfl, k8, rfl⟩
    rw [← Hfin.out]
    have hii : ((Crc.more 0 m : Int) == (Crc.more 0 cc : Int)) = decide (Crc.more 0 m = Crc.more 0 cc) := beq_cast _ _
    rcases Bool.eq_false_or_eq_true (decide (Crc.more 0 m = Crc.more 0 cc)) with hz | hz
    · rw [hz] at hii ⊢
      go_wp2
      go_ret
      exact ⟨rfl, below_drewN (h12.trans (hb27.mono (by omega))) _⟩
    · rw [hz] at hii ⊢
      go_wp2
      go_ret
      exact ⟨rfl, below_drewN (h12.trans (hb27.mono (by omega))) _⟩
end Go.Proofs.YtjkdbhhcmpmknaaDoor
