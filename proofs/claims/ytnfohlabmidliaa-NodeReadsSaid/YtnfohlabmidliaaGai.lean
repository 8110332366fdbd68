import Derived.Test.YtnfohlabmidliaaGah
import Derived.Test.YtnfohlabmidliaaGag
import Derived.Laws.EntriesVeiled
import Derived.Deep.WholeRow
/-
  decode: num.
-/
namespace Go.Proofs.Ytnfohlabmidliaa
open Go.RowKit
set_option linter.unusedVariables false

/-- The closure that takes bytes. -/
def takeV (gb gk : Nat) : Value := .func (.func 60) #[] #[.pointer (some ⟨gb, 0, none⟩), .pointer (some ⟨gk, 0, none⟩)]
def NumP (gb gk B n : Nat) (p : PcT) (ok : Bool) (w : World) (e : Ending) (w' : World) : Prop :=
  ∃ (x : Nat) (q : PcT) (ok' : Bool), e = .returned (.int .u64 (x : Int)) ∧ x < 256 ^ n ∧ Rs w' gb gk B q ok' ∧ Tk gb gk w w' ∧ ((ok' = ok ∧ Nod.numO n p.l = some (x, q.l)) ∨ (ok' = false ∧ Nod.numO n p.l = none ∧ x = 0))
theorem nrd_take {l : List UInt8} {k : Nat} (h : k < l.length) : Nod.rdN (l.take (k + 1)) = Nod.rdN (l.take k) * 256 + (l.getD k 0).toNat := by
  rw [take_snoc l k h, Nod.rd_snoc]
theorem nu64_or_byte (a b : Nat) (ha : a < 72057594037927936) (hb : b < 256) : bits .or .u64 ((a : Int) * 256) (b : Int) = ((a * 256 + b : Nat) : Int) := by
  have ho : ∀ n : Nat, n < 18446744073709551616 → (BitVec.ofInt 64 (n : Int)).toNat = n := fun n hn => by
    rw [BitVec.toNat_ofInt]
    omega
  have hw : ∀ n : Nat, n < 18446744073709551616 → IntKind.u64.wrap (n : Int) = (n : Int) := fun n hn => by
    have : IntKind.u64.wrap (n : Int) = (n : Int) % 18446744073709551616 := by simp [IntKind.wrap, IntKind.bits, IntKind.signed]
    rw [this]; omega
  have e : (a * 256 ||| b : Nat) = a * 256 + b := by
    have := Nat.two_pow_add_eq_or_of_lt (i := 8) (b := b) hb a
    rw [Nat.mul_comm a 256]
    exact this.symm
  show IntKind.u64.wrap ((BitVec.ofInt 64 ((a : Int) * 256) ||| BitVec.ofInt 64 (b : Int)).toNat : Int) = _
  rw [show (a : Int) * 256 = ((a * 256 : Nat) : Int) by omega, BitVec.toNat_or, ho _ (by omega), ho b (by omega), e, hw _ (by omega)]
theorem num_none {n : Nat} {b : List UInt8} (h : b.length < n) : Nod.numO n b = none := by
  unfold Nod.numO Nod.cutL
  rw [if_pos h]
  rfl
theorem num_is {n : Nat} {b : List UInt8} (h : n ≤ b.length) : Nod.numO n b = some (Nod.rdN (b.take n), b.drop n) := by
  unfold Nod.numO Nod.cutL
  rw [if_neg (by omega)]
  rfl

set_option maxRecDepth 20000 in
set_option maxHeartbeats 2000000 in
theorem num_any (gb gk gt B : Nat) (p : PcT) (ok : Bool) (n : Nat) (w : World) (h : Rs w gb gk B p ok) (hne : gb ≠ gk) (hB : B ≤ gb ∧ B ≤ gk) (ht : w.cell? ⟨gt, 0, none⟩ = some (takeV gb gk)) (hn8 : n ≤ 8) :
    Calls Try.prog 61 #[.int .i64 (n : Nat), .pointer (some ⟨gt, 0, none⟩)] w (NumP gb gk B n p ok w) := by
  unfold takeV at ht
  have hpl := h.p.len
  by_cases hn : n ≤ p.n
  · have hc := take_ok gb gk B p ok n w h hne hB hn (by omega)
    have HN := Lib.hid (num_is (b := p.l) (n := n) (by omega))
    clear h
    go_enter Try.func61, Try.ntmps61
    go_wp2_with fail
    refine hc.mono ?_
    rintro e w1 ⟨hd, q, rfl, hl, hdn, hdc, ql, hok, hrs, htk⟩
    obtain ⟨hA, hn0, hc0, l⟩ := hd
    simp only at hdn hdc hl
    have hdn := hdn.symm
    subst hdn
    have hdc := hdc.symm
    subst hdc
    have HRS := Lib.hid hrs
    have HTK := Lib.hid htk
    have HQL := Lib.hid ql
    have HL := Lib.hid hl
    have H0 := Lib.hid hok.here
    have hll := hok.here.len
    clear hc hok hrs htk ql ht hl
    go_wp2
    go_loop [4, 11] (fun x i => ∃ k t : Nat, k ≤ n ∧ i = .int .i64 k ∧ x = .int .u64 t ∧ Hid (t = Nod.rdN (l.take k))) (fun _ i => n - (intOf i).toNat)
    case atStart => exact ⟨0, 0, Nat.zero_le _, rfl, rfl, Lib.hid rfl⟩
    case round =>
      obtain ⟨k, t, hk, rfl, rfl, Ht⟩ := hrel
      by_cases hlt : k < n
      · obtain ⟨b1, o1, rfl, hb1, hc1⟩ := H0.out.cell hlt
        have hl := H0.out.len
        have htl : t < 72057594037927936 := by
          rw [Ht.out]
          refine Nat.lt_of_lt_of_le (Nod.rd_lt k _ (by rw [List.length_take]; omega)) ?_
          exact Nat.pow_le_pow_right (by decide) (j := 7) (by omega)
        have hxl := (l.getD k 0).toNat_lt
        have hor := nu64_or_byte t (l.getD k 0).toNat htl hxl
        have HN2 := Lib.hid (nrd_take (l := l) (k := k) (by omega))
        rw [← Ht.out] at HN2
        obtain ⟨x, hx⟩ : ∃ x, (l.getD k 0).toNat = x := ⟨_, rfl⟩
        have hc2 : w1.cell? ⟨b1, o1 + k, none⟩ = some (.int .u8 (x : Nat)) := by rw [hc1]; unfold at8; rw [hx]
        rw [hx] at hor HN2 hxl
        clear hc1 hl hx
        have hsh : IntKind.u64.wrap ((t : Int) * 256) = (t : Int) * 256 := by
          have : IntKind.u64.wrap ((t : Int) * 256) = ((t : Int) * 256) % 18446744073709551616 := by simp [IntKind.wrap, IntKind.bits, IntKind.signed]
          rw [this]; omega
        go_wp2
        go_round
        case rel => exact ⟨k + 1, t * 256 + x, by omega, by go_num, by first | rfl | (rw [hor]) | go_num, Lib.hid HN2.out.symm⟩
        case measure => simp [intOf]; omega
      · have hk' : k = n := by omega
        have hr : t = Nod.rdN l := by
          rw [Ht.out, List.take_of_length_le (by omega)]
        have Hr := Lib.hid hr
        clear hk' hr
        go_wp2
        go_ret
        refine ⟨t, q, ok, rfl, ?_, HRS.out, HTK.out, .inl ⟨rfl, ?_⟩⟩
        · rw [Hr.out]; exact Nod.rd_lt n l hll
        · rw [HN.out, HQL.out, Hr.out, HL.out]
  · have hc := take_no gb gk B p ok n w h hne hB (by omega) (by omega)
    have HN := Lib.hid (num_none (b := p.l) (n := n) (by omega))
    have hp : 0 < 256 ^ n := Nat.pow_pos (by decide)
    clear h
    go_enter Try.func61, Try.ntmps61
    go_wp2_with fail
    refine hc.mono ?_
    rintro e w1 ⟨rfl, hrs, htk⟩
    clear hc ht
    go_wp2
    go_loop [4, 11] (fun x i => i = .int .i64 0 ∧ x = .int .u64 0) (fun _ i => 0)
    case atStart => exact ⟨rfl, rfl⟩
    case round =>
      obtain ⟨rfl, rfl⟩ := hrel
      go_wp2
      go_ret
      exact ⟨0, ⟨none, 0, 0, []⟩, false, rfl, hp, hrs, htk, .inr ⟨rfl, HN.out, rfl⟩⟩
end Go.Proofs.Ytnfohlabmidliaa
/-
  decode: text.
-/
namespace Go.Proofs.Ytnfohlabmidliaa
open Go.RowKit
set_option linter.unusedVariables false
set_option linter.unusedSimpArgs false

/-- The closure that reads numbers. -/
def numVa (gt : Nat) : Value := .func (.func 61) #[] #[.pointer (some ⟨gt, 0, none⟩)]
def TextP (gb gk B : Nat) (p : PcT) (ok : Bool) (w : World) (e : Ending) (w' : World) : Prop :=
  ∃ (h q : PcT) (ok' : Bool), e = .returned (.slice h.A h.n h.c) ∧ h.Ok w' B ∧ h.n ≤ 255 ∧ Rs w' gb gk B q ok' ∧ Tk gb gk w w' ∧ ((ok' = ok ∧ Nod.textO p.l = some (h.l, q.l)) ∨ (ok' = false ∧ Nod.textO p.l = none))
theorem TextP.mk' {gb gk B x : Nat} {p q : PcT} {ok ok1 : Bool} {w w1 : World} (hx : x < 256 ^ 1) (ht : Tk gb gk w w1) (hh : (ok1 = ok ∧ Nod.numO 1 p.l = some (x, q.l)) ∨ (ok1 = false ∧ Nod.numO 1 p.l = none ∧ x = 0)) (e : Ending) (w' : World) (hq : q.l.length = q.n)
    (h : (x ≤ q.n ∧ TakeP gb gk B x q ok1 w1 e w') ∨ (q.n < x ∧ e = .returned (.slice none 0 0) ∧ Rs w' gb gk B ⟨none, 0, 0, []⟩ false ∧ Tk gb gk w1 w')) : TextP gb gk B p ok w e w' := by
  have h256 : (256 : Nat) ^ 1 = 256 := rfl
  rcases h with ⟨hn, hd, r, rfl, hl, hdn, hdc, rl, hok, hrs, htk⟩ | ⟨hn, rfl, hrs, htk⟩
  · refine ⟨hd, r, ok1, rfl, hok, by omega, hrs, ht.trans htk, ?_⟩
    rcases hh with ⟨h1, h2⟩ | ⟨h1, h2, -⟩
    · refine .inl ⟨h1, ?_⟩
      unfold Nod.textO
      rw [h2]
      show Nod.cutL x q.l = _
      unfold Nod.cutL
      rw [if_neg (by omega), hl, rl]
    · refine .inr ⟨h1, ?_⟩
      unfold Nod.textO
      rw [h2]
      rfl
  · refine ⟨⟨none, 0, 0, []⟩, ⟨none, 0, 0, []⟩, false, rfl, ⟨Bytes.zero _, fun _ => rfl, Nat.le_refl _, Nat.zero_le _⟩, Nat.zero_le _, hrs, ht.trans htk, .inr ⟨rfl, ?_⟩⟩
    rcases hh with ⟨h1, h2⟩ | ⟨h1, h2, -⟩
    · unfold Nod.textO
      rw [h2]
      show Nod.cutL x q.l = _
      unfold Nod.cutL
      rw [if_pos (by omega)]
    · unfold Nod.textO
      rw [h2]
      rfl
theorem num1_any (gb gk gt B : Nat) (p : PcT) (ok : Bool) (w : World) (h : Rs w gb gk B p ok) (hne : gb ≠ gk) (hB : B ≤ gb ∧ B ≤ gk) (ht : w.cell? ⟨gt, 0, none⟩ = some (takeV gb gk)) :
    Calls Try.prog 61 #[.int .i64 1, .pointer (some ⟨gt, 0, none⟩)] w (NumP gb gk B 1 p ok w) := num_any gb gk gt B p ok 1 w h hne hB ht (by omega)
theorem num4_any (gb gk gt B : Nat) (p : PcT) (ok : Bool) (w : World) (h : Rs w gb gk B p ok) (hne : gb ≠ gk) (hB : B ≤ gb ∧ B ≤ gk) (ht : w.cell? ⟨gt, 0, none⟩ = some (takeV gb gk)) :
    Calls Try.prog 61 #[.int .i64 4, .pointer (some ⟨gt, 0, none⟩)] w (NumP gb gk B 4 p ok w) := num_any gb gk gt B p ok 4 w h hne hB ht (by omega)
theorem num8_any (gb gk gt B : Nat) (p : PcT) (ok : Bool) (w : World) (h : Rs w gb gk B p ok) (hne : gb ≠ gk) (hB : B ≤ gb ∧ B ≤ gk) (ht : w.cell? ⟨gt, 0, none⟩ = some (takeV gb gk)) :
    Calls Try.prog 61 #[.int .i64 8, .pointer (some ⟨gt, 0, none⟩)] w (NumP gb gk B 8 p ok w) := num_any gb gk gt B p ok 8 w h hne hB ht (by omega)
theorem take_any (gb gk B : Nat) (p : PcT) (ok : Bool) (n : Nat) (w : World) (h : Rs w gb gk B p ok) (hne : gb ≠ gk) (hB : B ≤ gb ∧ B ≤ gk) (hn2 : n < 1000000) :
    Calls Try.prog 60 #[.int .i64 (n : Nat), .pointer (some ⟨gb, 0, none⟩), .pointer (some ⟨gk, 0, none⟩)] w fun e w' => (∃ A m c, e = .returned (.slice A m c)) ∧ Tk gb gk w w' ∧ Hid ((n ≤ p.n ∧ TakeP gb gk B n p ok w e w') ∨ (p.n < n ∧ e = .returned (.slice none 0 0) ∧ Rs w' gb gk B ⟨none, 0, 0, []⟩ false ∧ Tk gb gk w w')) := by
  by_cases hn : n ≤ p.n
  · refine (take_ok gb gk B p ok n w h hne hB hn hn2).mono ?_
    intro e w' hp
    have hp' := hp
    obtain ⟨hd, q, rfl, _, _, _, _, _, _, ht⟩ := hp'
    exact ⟨⟨_, _, _, rfl⟩, ht, Lib.hid (.inl ⟨hn, hp⟩)⟩
  · refine (take_no gb gk B p ok n w h hne hB (by omega) hn2).mono ?_
    rintro e w' ⟨rfl, h1, h2⟩
    exact ⟨⟨_, _, _, rfl⟩, h2, Lib.hid (.inr ⟨by omega, rfl, h1, h2⟩)⟩
theorem Tk.cell {gb gk g : Nat} {v : Value} {w w' : World} (h : Tk gb gk w w') (h1 : g ≠ gb) (h2 : g ≠ gk) (hc : w.cell? ⟨g, 0, none⟩ = some v) : w'.cell? ⟨g, 0, none⟩ = some v := by
  unfold World.cell? at hc ⊢
  rw [show w'.heap[(⟨g, 0, none⟩ : Addr).block]? = w.heap[(⟨g, 0, none⟩ : Addr).block]? from h.block g h1 h2]
  exact hc
set_option maxRecDepth 20000 in
set_option maxHeartbeats 2000000 in
theorem text_any (gb gk gt gn B : Nat) (p : PcT) (ok : Bool) (w : World) (h : Rs w gb gk B p ok) (hne : gb ≠ gk) (hB : B ≤ gb ∧ B ≤ gk) (ht : w.cell? ⟨gt, 0, none⟩ = some (takeV gb gk)) (hn : w.cell? ⟨gn, 0, none⟩ = some (numVa gt)) (hd : gt ≠ gb ∧ gt ≠ gk ∧ gn ≠ gb ∧ gn ≠ gk) :
    Calls Try.prog 62 #[.pointer (some ⟨gt, 0, none⟩), .pointer (some ⟨gn, 0, none⟩)] w (TextP gb gk B p ok w) := by
  have hc1 := num1_any gb gk gt B p ok w.drew h.drew hne hB ht
  have HQ := Lib.hid (fun (q : PcT) (ok1 : Bool) (w1 : World) (x : Nat) (h1 : Rs w1 gb gk B q ok1) (h2 : x < 256) => take_any gb gk B q ok1 x w1 h1 hne hB (by omega))
  unfold takeV at ht
  unfold numVa at hn
  clear h
  go_enter Try.func62, Try.ntmps62
  go_upto_region 1 with fail
  refine wp_region_held_drew (S := fun W => W.cell? ⟨gt, 0, none⟩ = some (.func (.func 60) #[] #[.pointer (some ⟨gb, 0, none⟩), .pointer (some ⟨gk, 0, none⟩)]) ∧ W.cell? ⟨gn, 0, none⟩ = some (.func (.func 61) #[] #[.pointer (some ⟨gt, 0, none⟩)])) (by kernel_rfl) ⟨ht, hn⟩ (fun hHeld => ?_)
  refine rg_in 0 rfl (by kernel_rfl) (by kernel_rfl) (by kernel_rfl) (by rfl) (v := ?_) (fun _ _ _ h => h) hHeld (fun w hSw => ?_) ?_
  rotate_left
  · (try dsimp only at hSw); go_simp <;> (with_reducible rfl)
  (try simp only [Act.put, List.setIfInBounds_toArray, List.set_cons_zero, List.set_cons_succ])
  refine rg_in 1 rfl (by kernel_rfl) (by kernel_rfl) (by kernel_rfl) (by rfl) (v := ?_) (fun _ _ _ h => h) hHeld (fun w hSw => ?_) ?_
  rotate_left
  · (try dsimp only at hSw); go_simp <;> (with_reducible rfl)
  (try simp only [Act.put, List.setIfInBounds_toArray, List.set_cons_zero, List.set_cons_succ])
  refine rg_do 2 rfl (by kernel_rfl) (by rfl) (fun K hK => ?_)
  go_simp
  (go_at_call 61; (with_reducible refine hc1.mono ?_); (rintro e w102 ⟨x, q, ok1, rfl, hx, hrs1, htk1, hor1⟩))
  have hx' : x < 256 := hx
  have hwx : IntKind.i64.wrap (x : Int) = (x : Int) := by rw [IntKind.wrap_i64]; omega
  have HX := Lib.hid hx
  have hc2 := HQ.out q ok1 w102 x hrs1 hx'
  clear hx
  refine hK.out _ _ ⟨htk1.cell hd.1 hd.2.1 hHeld.1, htk1.cell hd.2.2.1 hd.2.2.2 hHeld.2⟩ (fun hHeld => ?_)
  clear hK K
  (try simp only [Act.put, List.setIfInBounds_toArray, List.set_cons_zero, List.set_cons_succ])
  refine rg_in 3 rfl (by kernel_rfl) (by kernel_rfl) (by kernel_rfl) (by rfl) (v := ?_) (fun _ _ _ h => h) hHeld (fun w hSw => ?_) ?_
  rotate_left
  · (try dsimp only at hSw); go_simp <;> (with_reducible rfl)
  (try simp only [Act.put, List.setIfInBounds_toArray, List.set_cons_zero, List.set_cons_succ])
  refine rg_do 4 rfl (by kernel_rfl) (by rfl) (fun K hK => ?_)
  go_simp
  (go_at_call 60; (with_reducible refine hc2.mono ?_); (rintro e w104 ⟨⟨A, m, c, rfl⟩, htk2, HP⟩))
  refine hK.out _ _ ⟨htk2.cell hd.1 hd.2.1 hHeld.1, htk2.cell hd.2.2.1 hd.2.2.2 hHeld.2⟩ (fun hHeld => ?_)
  clear hK K
  (try simp only [Act.put, List.setIfInBounds_toArray, List.set_cons_zero, List.set_cons_succ])
  refine rg_in 5 rfl (by kernel_rfl) (by kernel_rfl) (by kernel_rfl) (by rfl) (v := ?_) (fun _ _ _ h => h) hHeld (fun w hSw => ?_) ?_
  rotate_left
  · (try dsimp only at hSw); go_simp <;> (with_reducible rfl)
  (try simp only [Act.put, List.setIfInBounds_toArray, List.set_cons_zero, List.set_cons_succ])
  refine wpAnyH_done (by kernel_rfl) ?_ _
  clear hc1 hc2 hHeld
  go_wp2
  go_ret
  exact TextP.mk' HX.out htk1.undrew hor1 _ _ hrs1.p.len HP.out
end Go.Proofs.Ytnfohlabmidliaa
/-
  decode, plain: what a round reads; a node read.
-/
namespace Go.Proofs.Ytnfohlabmidliaa
open Go.RowKit
set_option linter.unusedVariables false

theorem it_step {b0 k b1 v b2 b3 b4 : List UInt8} {f n : Nat} {ok1 ok2 ok3 ok4 z : Bool}
    (H1 : (ok1 = true ∧ Nod.textO b0 = some (k, b1)) ∨ (ok1 = false ∧ Nod.textO b0 = none))
    (H2 : (ok2 = ok1 ∧ Nod.textO b1 = some (v, b2)) ∨ (ok2 = false ∧ Nod.textO b1 = none))
    (H3 : (ok3 = ok2 ∧ Nod.numO 1 b2 = some (f, b3)) ∨ (ok3 = false ∧ Nod.numO 1 b2 = none ∧ f = 0))
    (H4 : (ok4 = ok3 ∧ Nod.numO 8 b3 = some (n, b4)) ∨ (ok4 = false ∧ Nod.numO 8 b3 = none ∧ n = 0))
    (hz : z = (ok4 && decide (f ≤ 1))) :
    (z = true ∧ Nod.itemO b0 = some (⟨k, v, decide (f = 1), Nod.i64n n⟩, b4)) ∨ (z = false ∧ Nod.itemO b0 = none) := by
  subst hz
  unfold Nod.itemO
  rcases H1 with ⟨rfl, h1⟩ | ⟨rfl, h1⟩
  · rcases H2 with ⟨rfl, h2⟩ | ⟨rfl, h2⟩
    · rcases H3 with ⟨rfl, h3⟩ | ⟨rfl, h3, -⟩
      · rcases H4 with ⟨rfl, h4⟩ | ⟨rfl, h4, -⟩
        · by_cases hf : f ≤ 1
          · left; simp [h1, h2, h3, h4, hf]
          · right; simp [h1, h2, h3, h4, hf]
        · right; simp [h1, h2, h3, h4]
      · right
        have : ok4 = false := by rcases H4 with ⟨h, _⟩ | ⟨h, _⟩ <;> exact h
        simp [h1, h2, h3, this]
    · right
      have h3 : ok3 = false := by rcases H3 with ⟨h, _⟩ | ⟨h, _⟩ <;> exact h
      have : ok4 = false := by rcases H4 with ⟨h, _⟩ | ⟨h, _⟩; exact h.trans h3; exact h
      simp [h1, h2, this]
  · right
    have h2 : ok2 = false := by rcases H2 with ⟨h, _⟩ | ⟨h, _⟩ <;> exact h
    have h3 : ok3 = false := by rcases H3 with ⟨h, _⟩ | ⟨h, _⟩; exact h.trans h2; exact h
    have : ok4 = false := by rcases H4 with ⟨h, _⟩ | ⟨h, _⟩; exact h.trans h3; exact h
    simp [h1, this]
/-- One number more of a kid, all going well so far or not. -/
theorem num_on {α : Type} {n x : Nat} {b b' : List UInt8} {ok ok' : Bool} {f : Nat × List UInt8 → Option α} {o : Option α} (h : (ok = true ∧ o = (Nod.numO n b).bind f) ∨ (ok = false ∧ o = none)) (H : (ok' = ok ∧ Nod.numO n b = some (x, b')) ∨ (ok' = false ∧ Nod.numO n b = none ∧ x = 0)) :
    (ok' = true ∧ o = f (x, b')) ∨ (ok' = false ∧ o = none) := by
  rcases h with ⟨rfl, h⟩ | ⟨rfl, h⟩
  · rcases H with ⟨rfl, h2⟩ | ⟨rfl, h2, -⟩
    · exact .inl ⟨rfl, by rw [h, h2]; rfl⟩
    · exact .inr ⟨rfl, by rw [h, h2]; rfl⟩
  · have : ok' = false := by rcases H with ⟨h, _⟩ | ⟨h, _⟩ <;> exact h
    exact .inr ⟨this, h⟩
theorem ki_step {b0 k b1 b2 b3 b4 b5 b6 b7 b8 : List UInt8} {a c i h lo l m : Nat} {ok1 ok2 ok3 ok4 ok5 ok6 ok7 ok8 : Bool}
    (H1 : (ok1 = true ∧ Nod.textO b0 = some (k, b1)) ∨ (ok1 = false ∧ Nod.textO b0 = none))
    (H2 : (ok2 = ok1 ∧ Nod.numO 4 b1 = some (a, b2)) ∨ (ok2 = false ∧ Nod.numO 4 b1 = none ∧ a = 0))
    (H3 : (ok3 = ok2 ∧ Nod.numO 4 b2 = some (c, b3)) ∨ (ok3 = false ∧ Nod.numO 4 b2 = none ∧ c = 0))
    (H4 : (ok4 = ok3 ∧ Nod.numO 4 b3 = some (i, b4)) ∨ (ok4 = false ∧ Nod.numO 4 b3 = none ∧ i = 0))
    (H5 : (ok5 = ok4 ∧ Nod.numO 8 b4 = some (h, b5)) ∨ (ok5 = false ∧ Nod.numO 8 b4 = none ∧ h = 0))
    (H6 : (ok6 = ok5 ∧ Nod.numO 8 b5 = some (lo, b6)) ∨ (ok6 = false ∧ Nod.numO 8 b5 = none ∧ lo = 0))
    (H7 : (ok7 = ok6 ∧ Nod.numO 8 b6 = some (l, b7)) ∨ (ok7 = false ∧ Nod.numO 8 b6 = none ∧ l = 0))
    (H8 : (ok8 = ok7 ∧ Nod.numO 8 b7 = some (m, b8)) ∨ (ok8 = false ∧ Nod.numO 8 b7 = none ∧ m = 0)) :
    (ok8 = true ∧ Nod.kidO b0 = some (⟨k, (a : Int), ⟨(c : Int), (i : Int), Nod.i64n h * 18446744073709551616 + (lo : Int), Nod.i64n l, Nod.i64n m⟩⟩, b8)) ∨ (ok8 = false ∧ Nod.kidO b0 = none) := by
  have g1 : (ok1 = true ∧ Nod.kidO b0 = (Nod.numO 4 b1).bind fun a => (Nod.numO 4 a.2).bind fun c => (Nod.numO 4 c.2).bind fun i => (Nod.numO 8 i.2).bind fun h => (Nod.numO 8 h.2).bind fun lo => (Nod.numO 8 lo.2).bind fun l => (Nod.numO 8 l.2).bind fun m =>
      some (⟨k, (a.1 : Int), ⟨(c.1 : Int), (i.1 : Int), Nod.i64n h.1 * 18446744073709551616 + (lo.1 : Int), Nod.i64n l.1, Nod.i64n m.1⟩⟩, m.2)) ∨ (ok1 = false ∧ Nod.kidO b0 = none) := by
    unfold Nod.kidO
    rcases H1 with ⟨rfl, h1⟩ | ⟨rfl, h1⟩
    · exact .inl ⟨rfl, by rw [h1]; rfl⟩
    · exact .inr ⟨rfl, by rw [h1]; rfl⟩
  exact num_on (num_on (num_on (num_on (num_on (num_on (num_on g1 H2) H3) H4) H5) H6) H7) H8
theorem items_yes {n : Nat} {b b' : List UInt8} {x : ItS} (h : Nod.itemO b = some (x, b')) : Nod.itemsO (n + 1) b = (Nod.itemsO n b').map fun r => (x :: r.1, r.2) := by
  rw [Nod.itemsO, h]
  show (Nod.itemsO n b').bind _ = _
  cases Nod.itemsO n b' <;> rfl
theorem items_no {n : Nat} {b : List UInt8} (h : Nod.itemO b = none) : Nod.itemsO (n + 1) b = none := by
  rw [Nod.itemsO, h]
  rfl
theorem kids_yes {n : Nat} {b b' : List UInt8} {x : KiS} (h : Nod.kidO b = some (x, b')) : Nod.kidsO (n + 1) b = (Nod.kidsO n b').map fun r => (x :: r.1, r.2) := by
  rw [Nod.kidsO, h]
  show (Nod.kidsO n b').bind _ = _
  cases Nod.kidsO n b' <;> rfl
theorem kids_no {n : Nat} {b : List UInt8} (h : Nod.kidO b = none) : Nod.kidsO (n + 1) b = none := by
  rw [Nod.kidsO, h]
  rfl
/-- What a node's bytes say. -/
structure NoS where
  leaf : Bool
  I : List ItS
  K : List KiS
def NoT.s (X : NoT) : NoS := ⟨X.leaf, X.I.map ItT.s, X.K.map KiT.s⟩
def readO (b : List UInt8) : Option NoS := (Nod.numO 1 b).bind fun m => (Nod.numO 1 m.2).bind fun c =>
  if m.1 = 1 then (Nod.itemsO c.1 c.2).bind fun p => if p.2 = [] then some ⟨true, p.1, []⟩ else none
  else if m.1 = 2 then (Nod.kidsO c.1 c.2).bind fun p => if p.2 = [] then some ⟨false, [], p.1⟩ else none
  else none
theorem read_no1 {b : List UInt8} (h : Nod.numO 1 b = none) : readO b = none := by unfold readO; rw [h]; rfl
theorem read_no2 {b r : List UInt8} {x : Nat} (h : Nod.numO 1 b = some (x, r)) (h1 : ¬ x = 1) (h2 : ¬ x = 2) : readO b = none := by
  unfold readO
  rw [h]
  show (Nod.numO 1 r).bind _ = none
  cases Nod.numO 1 r with
  | none => rfl
  | some c => simp [h1, h2]
theorem read_no3 {b r : List UInt8} {x : Nat} (h : Nod.numO 1 b = some (x, r)) (h2 : Nod.numO 1 r = none) : readO b = none := by
  unfold readO
  rw [h]
  show (Nod.numO 1 r).bind _ = none
  rw [h2]
  rfl
theorem read_leaf {b r r2 : List UInt8} {c : Nat} (h : Nod.numO 1 b = some (1, r)) (h2 : Nod.numO 1 r = some (c, r2)) : readO b = (Nod.itemsO c r2).bind fun p => if p.2 = [] then some ⟨true, p.1, []⟩ else none := by
  unfold readO
  rw [h]
  show (Nod.numO 1 r).bind _ = _
  rw [h2]
  rfl
theorem read_inner {b r r2 : List UInt8} {c : Nat} (h : Nod.numO 1 b = some (2, r)) (h2 : Nod.numO 1 r = some (c, r2)) : readO b = (Nod.kidsO c r2).bind fun p => if p.2 = [] then some ⟨false, [], p.1⟩ else none := by
  unfold readO
  rw [h]
  show (Nod.numO 1 r).bind _ = _
  rw [h2]
  rfl
end Go.Proofs.Ytnfohlabmidliaa
/-
  decode: its memory; the start.
-/
namespace Go.Proofs.Ytnfohlabmidliaa
open Go.RowKit
set_option linter.unusedVariables false

/-- The blocks of decode, and what lies in them. -/
structure DecS (w0 W : World) (N g1 g2 g3 g4 g5 B : Nat) (p : PcT) (ok leaf : Bool) (vi vk : Value) : Prop where
  rs : Rs W N g2 B p ok
  ct : W.heap[g3]? = some (.cells #[takeV N g2] 101 (0, 0))
  cn : W.heap[g4]? = some (.cells #[numVa g3] 102 (0, 0))
  res : W.heap[g1]? = some (.cells #[.bool false, .slice none 0 0, .slice none 0 0] 25 (0, 0))
  out : W.heap[g5]? = some (.cells #[.bool leaf, vi, vk] 25 (0, 0))
  bel : Below N w0 W
/-- Their numbers. -/
structure DecG (N g1 g2 g3 g4 g5 B : Nat) : Prop where
  a : N < g1
  b : g1 < g2
  c : g2 < g3
  d : g3 < g4
  e : g4 < g5
  f : B ≤ N
section
variable {w0 W W' : World} {N g1 g2 g3 g4 g5 B : Nat} {p q : PcT} {ok ok' leaf : Bool} {vi vk : Value}
theorem DecG.ne (h : DecG N g1 g2 g3 g4 g5 B) : N ≠ g2 ∧ (B ≤ N ∧ B ≤ g2) ∧ (g3 ≠ N ∧ g3 ≠ g2 ∧ g4 ≠ N ∧ g4 ≠ g2) := by
  obtain ⟨a, b, c, d, e, f⟩ := h
  omega
theorem DecS.tk (h : DecS w0 W N g1 g2 g3 g4 g5 B p ok leaf vi vk) (hg : DecG N g1 g2 g3 g4 g5 B) (ht : Tk N g2 W W') (hr : Rs W' N g2 B q ok') : DecS w0 W' N g1 g2 g3 g4 g5 B q ok' leaf vi vk := by
  obtain ⟨a, b, c, d, e, f⟩ := hg
  exact ⟨hr, (ht.block _ (by omega) (by omega)).trans h.ct, (ht.block _ (by omega) (by omega)).trans h.cn, (ht.block _ (by omega) (by omega)).trans h.res, (ht.block _ (by omega) (by omega)).trans h.out, h.bel.trans (ht.below (Nat.le_refl _) (by omega))⟩
theorem Rs.later (h : Rs W N g2 B p ok) (hb : Below W.heap.size W W') (hB : B ≤ W.heap.size) : Rs W' N g2 B p ok := ⟨blk_later h.b hb, blk_later h.k hb, h.p.later (hb.mono hB)⟩
theorem DecS.later (h : DecS w0 W N g1 g2 g3 g4 g5 B p ok leaf vi vk) (hg : DecG N g1 g2 g3 g4 g5 B) (hb : Below W.heap.size W W') : DecS w0 W' N g1 g2 g3 g4 g5 B p ok leaf vi vk := by
  have hlt := blk_lt h.rs.b
  obtain ⟨a, b, c, d, e, f⟩ := hg
  exact ⟨h.rs.later hb (by omega), blk_later h.ct hb, blk_later h.cn hb, blk_later h.res hb, blk_later h.out hb, h.bel.trans (hb.mono (by omega))⟩
theorem DecS.drew (h : DecS w0 W N g1 g2 g3 g4 g5 B p ok leaf vi vk) : DecS w0 W.drew N g1 g2 g3 g4 g5 B p ok leaf vi vk := ⟨h.rs.drew, h.ct, h.cn, h.res, h.out, below_drewN h.bel 1⟩
/-- Another row has grown. -/
theorem DecS.grown {r : Option Nat} (h : DecS w0 W N g1 g2 g3 g4 g5 B p ok leaf vi vk) (hg : DecG N g1 g2 g3 g4 g5 B) (hb : W.grownBy W' r) (hr : ∀ j, r = some j → g5 < j) : DecS w0 W' N g1 g2 g3 g4 g5 B p ok leaf vi vk := by
  have hlt := blk_lt h.out
  obtain ⟨a, b, c, d, e, f⟩ := hg
  have k : ∀ i, i ≤ g5 → W'.heap[i]? = W.heap[i]? := fun i hi => hb.block i (by omega) (fun e => by have := hr i e.symm; omega)
  have hB : Below B W W' := ⟨hb.os, hb.tape, hb.output, hb.size, fun i hi => k i (by omega)⟩
  exact ⟨⟨(k _ (by omega)).trans h.rs.b, (k _ (by omega)).trans h.rs.k, h.rs.p.later hB⟩, (k _ (by omega)).trans h.ct, (k _ (by omega)).trans h.cn, (k _ (by omega)).trans h.res, (k _ (Nat.le_refl _)).trans h.out, h.bel.trans ⟨hb.os, hb.tape, hb.output, hb.size, fun i hi => k i (by omega)⟩⟩
theorem set_blkN {g k : Nat} {C : Array Value} {t : TypeId} {u : Value} (h : W.heap[g]? = some (.cells C t (0, 0))) : (W.setCell ⟨g, k, none⟩ u).heap[g]? = some (.cells (C.setIfInBounds k u) t (0, 0)) := by
  obtain ⟨hlt, he⟩ := Array.getElem?_eq_some_iff.1 h
  simp [World.setCell, hlt, Array.getElem_modify, he]
theorem set_othN {g k j : Nat} {u : Value} (h : j ≠ g) : (W.setCell ⟨g, k, none⟩ u).heap[j]? = W.heap[j]? := Below.heap_setCell W ⟨g, k, none⟩ u j h
/-- A store into the node under way. -/
theorem DecS.setOut {k : Nat} {u vi' vk' : Value} {leaf' : Bool} (h : DecS w0 W N g1 g2 g3 g4 g5 B p ok leaf vi vk) (hg : DecG N g1 g2 g3 g4 g5 B) (hu : (#[Value.bool leaf, vi, vk] : Array Value).setIfInBounds k u = #[.bool leaf', vi', vk']) : DecS w0 (W.setCell ⟨g5, k, none⟩ u) N g1 g2 g3 g4 g5 B p ok leaf' vi' vk' := by
  have hs := set_blkN (k := k) (u := u) h.out
  rw [hu] at hs
  obtain ⟨a, b, c, d, e, f⟩ := hg
  exact ⟨⟨(set_othN (by omega)).trans h.rs.b, (set_othN (by omega)).trans h.rs.k, ⟨h.rs.p.here.setCell (by show B ≤ g5; omega) _, h.rs.p.nil, h.rs.p.fits, h.rs.p.most⟩⟩, (set_othN (by omega)).trans h.ct, (set_othN (by omega)).trans h.cn, (set_othN (by omega)).trans h.res, hs, h.bel.setCell (by show N ≤ g5; omega) _⟩
/-- A store into the flag. -/
theorem DecS.setOk {z : Bool} (h : DecS w0 W N g1 g2 g3 g4 g5 B p ok leaf vi vk) (hg : DecG N g1 g2 g3 g4 g5 B) : DecS w0 (W.setCell ⟨g2, 0, none⟩ (.bool z)) N g1 g2 g3 g4 g5 B p z leaf vi vk := by
  obtain ⟨a, b, c, d, e, f⟩ := hg
  exact ⟨⟨(set_othN (by omega)).trans h.rs.b, set_blk h.rs.k rfl, ⟨h.rs.p.here.setCell (by show B ≤ g2; omega) _, h.rs.p.nil, h.rs.p.fits, h.rs.p.most⟩⟩, (set_othN (by omega)).trans h.ct, (set_othN (by omega)).trans h.cn, (set_othN (by omega)).trans h.res, (set_othN (by omega)).trans h.out, h.bel.setCell (by show N ≤ g2; omega) _⟩
/-- A store into a box above. -/
theorem DecS.setUp {g k : Nat} {u : Value} (h : DecS w0 W N g1 g2 g3 g4 g5 B p ok leaf vi vk) (hg : DecG N g1 g2 g3 g4 g5 B) (hgg : g5 < g) : DecS w0 (W.setCell ⟨g, k, none⟩ u) N g1 g2 g3 g4 g5 B p ok leaf vi vk := by
  obtain ⟨a, b, c, d, e, f⟩ := hg
  exact ⟨⟨(set_othN (by omega)).trans h.rs.b, (set_othN (by omega)).trans h.rs.k, ⟨h.rs.p.here.setCell (by show B ≤ g; omega) _, h.rs.p.nil, h.rs.p.fits, h.rs.p.most⟩⟩, (set_othN (by omega)).trans h.ct, (set_othN (by omega)).trans h.cn, (set_othN (by omega)).trans h.res, (set_othN (by omega)).trans h.out, h.bel.setCell (by show N ≤ g; omega) _⟩
theorem DecS.takes (h : DecS w0 W N g1 g2 g3 g4 g5 B p ok leaf vi vk) : W.cell? ⟨g3, 0, none⟩ = some (takeV N g2) := by rw [cell_of_row _ _ _ _ _ _ h.ct]; rfl
theorem DecS.nums (h : DecS w0 W N g1 g2 g3 g4 g5 B p ok leaf vi vk) : W.cell? ⟨g4, 0, none⟩ = some (numVa g3) := by rw [cell_of_row _ _ _ _ _ _ h.cn]; rfl
theorem box3 {g : Nat} {a b c : Value} {t : TypeId} (h : W.heap[g]? = some (.cells #[a, b, c] t (0, 0))) : NBox W g a b c := by
  refine ⟨⟨?_, ?_, ?_⟩, ?_, ?_, ?_⟩
  · rw [cell_of_row _ _ _ _ _ _ h]; rfl
  · rw [cell_of_row _ _ _ _ _ _ h]; rfl
  · rw [cell_of_row _ _ _ _ _ _ h]; rfl
  · simp [World.frozen?, h]
  · simp [World.frozen?, h]
  · simp [World.frozen?, h]
theorem DecS.outs (h : DecS w0 W N g1 g2 g3 g4 g5 B p ok leaf vi vk) : NBox W g5 (.bool leaf) vi vk := box3 h.out
theorem DecS.ress (h : DecS w0 W N g1 g2 g3 g4 g5 B p ok leaf vi vk) : NBox W g1 (.bool false) (.slice none 0 0) (.slice none 0 0) := box3 h.res
theorem DecS.num1 (h : DecS w0 W N g1 g2 g3 g4 g5 B p ok leaf vi vk) (hg : DecG N g1 g2 g3 g4 g5 B) : Calls Try.prog 61 #[.int .i64 1, .pointer (some ⟨g3, 0, none⟩)] W (NumP N g2 B 1 p ok W) := num1_any N g2 g3 B p ok W h.rs hg.ne.1 hg.ne.2.1 h.takes
theorem DecS.num4 (h : DecS w0 W N g1 g2 g3 g4 g5 B p ok leaf vi vk) (hg : DecG N g1 g2 g3 g4 g5 B) : Calls Try.prog 61 #[.int .i64 4, .pointer (some ⟨g3, 0, none⟩)] W (NumP N g2 B 4 p ok W) := num4_any N g2 g3 B p ok W h.rs hg.ne.1 hg.ne.2.1 h.takes
theorem DecS.num8 (h : DecS w0 W N g1 g2 g3 g4 g5 B p ok leaf vi vk) (hg : DecG N g1 g2 g3 g4 g5 B) : Calls Try.prog 61 #[.int .i64 8, .pointer (some ⟨g3, 0, none⟩)] W (NumP N g2 B 8 p ok W) := num8_any N g2 g3 B p ok W h.rs hg.ne.1 hg.ne.2.1 h.takes
theorem DecS.text (h : DecS w0 W N g1 g2 g3 g4 g5 B p ok leaf vi vk) (hg : DecG N g1 g2 g3 g4 g5 B) : Calls Try.prog 62 #[.pointer (some ⟨g3, 0, none⟩), .pointer (some ⟨g4, 0, none⟩)] W (TextP N g2 B p ok W) := text_any N g2 g3 g4 B p ok W h.rs hg.ne.1 hg.ne.2.1 h.takes h.nums hg.ne.2.2
end
/-- A node whose rows are new, and whose bytes lie in what was there. -/
structure GivesN (X : NoT) (B D : Nat) (w w' : World) : Prop where
  irow : w'.ownsRow D 58 4 (.slice X.iA X.iN X.iC) X.iN (X.I.flatMap ItT.cells)
  krow : w'.ownsRow D 60 8 (.slice X.kA X.kN X.kC) X.kN (X.K.flatMap KiT.cells)
  items : ∀ x ∈ X.I, x.Ok w B
  kids : ∀ x ∈ X.K, x.Ok w B
theorem nown_facts {W : World} {D n c size : Nat} {A : Option Addr} {t : TypeId} {xs : List Value} (h : W.ownsRow D t size (.slice A n c) n xs) : (A = none → c = 0) ∧ n ≤ c ∧ c ≤ maxLen := by
  rcases h.2 with ⟨e, rfl⟩ | ⟨g, cap, cur, e, _, _, h1, h2, _⟩
  · injection e with e1 e2 e3
    subst e1 e3
    exact ⟨fun _ => rfl, Nat.le_refl _, Nat.zero_le _⟩
  · injection e with e1 e2 e3
    subst e1 e3
    exact ⟨nofun, h1, h2⟩
theorem GivesN.lie {X : NoT} {B D : Nat} {w w' : World} (h : GivesN X B D w w') (hb : Below B w w') (hB : B ≤ w'.heap.size) : LieN w' w'.heap.size X := by
  obtain ⟨f1, f2, f3⟩ := nown_facts h.irow
  obtain ⟨k1, k2, k3⟩ := nown_facts h.krow
  exact ⟨Shows.own h.irow, fun x hx => ((h.items x hx).later hb).more hB, f1, f2, f3, Shows.own h.krow, fun x hx => ((h.kids x hx).later hb).more hB, k1, k2, k3⟩
theorem GivesN.later {X : NoT} {B D : Nat} {w w1 w2 : World} (h : GivesN X B D w w1) (hb : Below w1.heap.size w1 w2) : GivesN X B D w w2 := ⟨own_later h.irow hb, own_later h.krow hb, h.items, h.kids⟩
theorem GivesN.set {X : NoT} {B D : Nat} {w w1 : World} (h : GivesN X B D w w1) {a : Addr} (ha : a.block < D) (u : Value) : GivesN X B D w (w1.setCell a u) := ⟨ownsRow_setCell_below h.irow ha u, ownsRow_setCell_below h.krow ha u, h.items, h.kids⟩
/-- What decode hands back. -/
def DecP (b : PcT) (B : Nat) (w : World) (e : Ending) (w' : World) : Prop :=
  Below w.heap.size w w' ∧ ((readO b.l = none ∧ ∃ l A n c A' n' c', e = .returned (.tuple #[.agg #[.bool l, .slice A n c, .slice A' n' c'], .bool false])) ∨ (∃ X : NoT, e = .returned (.tuple #[X.agg, .bool true]) ∧ readO b.l = some X.s ∧ GivesN X B w.heap.size w w'))
theorem dec_start (b : PcT) (B : Nat) (w : World) (hb : b.Ok w B) (hB : B ≤ w.heap.size) :
    DecS w ((((((w.alloc (.cells #[.slice b.A b.n b.c] 32)).alloc (.cells #[.bool false, .slice none 0 0, .slice none 0 0] 25)).alloc (.cells #[.bool true] 4)).alloc (.cells #[takeV w.heap.size (w.heap.size + 1 + 1)] 101)).alloc (.cells #[numVa (w.heap.size + 1 + 1 + 1)] 102)).alloc (.cells #[.bool false, .slice none 0 0, .slice none 0 0] 25)) w.heap.size (w.heap.size + 1) (w.heap.size + 1 + 1) (w.heap.size + 1 + 1 + 1) (w.heap.size + 1 + 1 + 1 + 1) (w.heap.size + 1 + 1 + 1 + 1 + 1) B b true false (.slice none 0 0) (.slice none 0 0) ∧ DecG w.heap.size (w.heap.size + 1) (w.heap.size + 1 + 1) (w.heap.size + 1 + 1 + 1) (w.heap.size + 1 + 1 + 1 + 1) (w.heap.size + 1 + 1 + 1 + 1 + 1) B := by
  have k : ∀ (W : World) (o : Obj), Below W.heap.size W (W.alloc o) := fun W o => bel_alloc (Below.refl _ _) o
  have e1 : ∀ (W : World) (o : Obj) (g : Nat), W.heap.size = g → (W.alloc o).heap[g]? = some o := fun W o g h => by subst h; exact heap_alloc_new W o
  have hbel : Below w.heap.size w ((((((w.alloc (.cells #[.slice b.A b.n b.c] 32)).alloc (.cells #[.bool false, .slice none 0 0, .slice none 0 0] 25)).alloc (.cells #[.bool true] 4)).alloc (.cells #[takeV w.heap.size (w.heap.size + 1 + 1)] 101)).alloc (.cells #[numVa (w.heap.size + 1 + 1 + 1)] 102)).alloc (.cells #[.bool false, .slice none 0 0, .slice none 0 0] 25)) := bel_alloc (bel_alloc (bel_alloc (bel_alloc (bel_alloc (k _ _) _) _) _) _) _
  refine ⟨⟨⟨?_, ?_, hb.later (hbel.mono hB)⟩, ?_, ?_, ?_, ?_, hbel⟩, ⟨by omega, by omega, by omega, by omega, by omega, hB⟩⟩
  · exact blk_later (blk_later (blk_later (blk_later (blk_later (e1 _ _ _ rfl) (k _ _)) (k _ _)) (k _ _)) (k _ _)) (k _ _)
  · exact blk_later (blk_later (blk_later (e1 _ _ _ (by rw [World.size_alloc, World.size_alloc])) (k _ _)) (k _ _)) (k _ _)
  · exact blk_later (blk_later (e1 _ _ _ (by rw [World.size_alloc, World.size_alloc, World.size_alloc])) (k _ _)) (k _ _)
  · exact blk_later (e1 _ _ _ (by rw [World.size_alloc, World.size_alloc, World.size_alloc, World.size_alloc])) (k _ _)
  · exact blk_later (blk_later (blk_later (blk_later (e1 _ _ _ (by rw [World.size_alloc])) (k _ _)) (k _ _)) (k _ _)) (k _ _)
  · exact e1 _ _ _ (by rw [World.size_alloc, World.size_alloc, World.size_alloc, World.size_alloc, World.size_alloc])
end Go.Proofs.Ytnfohlabmidliaa
