import Derived.Test.YtnfohlabmidliaaGah
import Derived.Test.YtnfohlabmidliaaGai
import Derived.Test.YtnfohlabmidliaaGag
import Derived.Test.YtnfohlabmidliaaGac
/-
  The reference's parts of Read: cut, counted, number.
-/
namespace Go.Proofs.Ytnfohlabmidliaa
open Go.RowKit
set_option linter.unusedVariables false
set_option linter.unusedSimpArgs false

def CutP (p : PcT) (k B : Nat) (w : World) (e : Ending) (w' : World) : Prop :=
  Below w.heap.size w w' ∧ ∃ (ok : Bool) (t q : PcT), e = .returned (.tuple #[.slice t.A t.n t.c, .slice q.A q.n q.c, .bool ok]) ∧ t.Ok w' B ∧ q.Ok w' B ∧ (ok = true → t.n = k ∧ t.l = p.l.take k) ∧ ∀ l r : List UInt8, l.length = k → p.l = l ++ r → ok = true ∧ t.l = l ∧ q.l = r
theorem nil_ok (w : World) (B : Nat) : PcT.Ok w B ⟨none, 0, 0, []⟩ := ⟨Bytes.zero _, fun _ => rfl, Nat.le_refl _, by show 0 ≤ maxLen; omega⟩
set_option maxRecDepth 20000 in
set_option maxHeartbeats 2000000 in
theorem rCut_any (p : PcT) (k : Nat) (z : Int) (hz : z = (k : Int)) (B : Nat) (w : World) (hp : p.Ok w B) :
    Calls Try.prog 64 #[.slice p.A p.n p.c, .int .i64 z] w (CutP p k B w) := by
  subst hz
  have hlen := hp.len
  have hfi := hp.fits
  have hmo := hp.most
  obtain ⟨A, n, c, l⟩ := p
  simp only at hlen hfi hmo
  by_cases hk : k ≤ n
  · have hpc := hp
    have hs1 : PcT.Ok w B ⟨A, k, c, l.take k⟩ := ⟨hp.here.first hk, hp.nil, Nat.le_trans hk hfi, hmo⟩
    have hres : ∀ l' r : List UInt8, l'.length = k → l = l' ++ r → l.take k = l' ∧ l.drop k = r := fun l' r h1 h2 => by
      subst h1 h2
      exact ⟨List.take_left .., List.drop_left ..⟩
    have i1 : (k : Int) ≤ (n : Int) := by omega
    have i2 : (n : Int) ≤ (c : Int) := by omega
    have i3 : (k : Int) ≤ (c : Int) := by omega
    have i4 : ¬ (n : Int) < (k : Int) := by omega
    have i0 : (0 : Int) ≤ (k : Int) := by omega
    have hc63 : c ≤ 9223372036854775807 := by unfold maxLen at hmo; exact hmo
    rcases Nat.eq_zero_or_pos n with h0 | h0
    · subst h0
      obtain rfl : k = 0 := by omega
      have hl0 : l = [] := List.eq_nil_of_length_eq_zero hlen
      subst hl0
      rcases A with _ | a
      · obtain rfl : c = 0 := hp.nil rfl
        clear hp hpc hlen hfi hmo
        go_enter Try.func64, Try.ntmps64
        go_upto_region 3 with fail
        go_region
        go_wp2
        refine bodyPost_ret (v := .tuple #[.slice none 0 0, .slice none 0 0, .bool true]) (by simp [results, Try.results64, go_sem]) rfl ⟨(Below.refl _ _).drew, true, ⟨none, 0, 0, []⟩, ⟨none, 0, 0, []⟩, rfl, nil_ok _ _, nil_ok _ _, fun _ => ⟨rfl, rfl⟩, fun l' r h1 h2 => ⟨rfl, (hres l' r h1 h2).1, (hres l' r h1 h2).2⟩⟩
      · have hq : PcT.Ok w B ⟨some a, 0, c, []⟩ := ⟨Bytes.zero _, nofun, Nat.zero_le _, hmo⟩
        by_cases hc0 : c = 0
        · subst hc0
          clear hp hpc hlen hfi hmo
          go_enter Try.func64, Try.ntmps64
          go_upto_region 3 with fail
          go_region
          go_wp2
          refine bodyPost_ret (v := .tuple #[.slice (some a) 0 0, .slice (some a) 0 0, .bool true]) (by simp [results, Try.results64, go_sem]) rfl ⟨(Below.refl _ _).drew, true, ⟨some a, 0, 0, []⟩, ⟨some a, 0, 0, []⟩, rfl, hq.later ((Below.refl B w).drew), hq.later ((Below.refl B w).drew), fun _ => ⟨rfl, rfl⟩, fun l' r h1 h2 => ⟨rfl, (hres l' r h1 h2).1, (hres l' r h1 h2).2⟩⟩
        · clear hp hpc hlen hfi hmo
          go_enter Try.func64, Try.ntmps64
          go_upto_region 3 with fail
          go_region
          go_wp2
          refine bodyPost_ret (v := .tuple #[.slice (some a) 0 c, .slice (some a) 0 c, .bool true]) (by simp [results, Try.results64, go_sem]) rfl ⟨(Below.refl _ _).drew, true, ⟨some a, 0, c, []⟩, ⟨some a, 0, c, []⟩, rfl, hq.later ((Below.refl B w).drew), hq.later ((Below.refl B w).drew), fun _ => ⟨rfl, rfl⟩, fun l' r h1 h2 => ⟨rfl, (hres l' r h1 h2).1, (hres l' r h1 h2).2⟩⟩
    · obtain ⟨b, off, rfl, hbB, _⟩ := hp.here.2 h0
      have hcut := Shows.cut hp.here hk hfi
      by_cases hck : c = k
      · obtain rfl : n = k := by omega
        obtain rfl : c = n := hck
        have hdl : l.drop c = [] := List.drop_eq_nil_of_le (by omega)
        have hq : PcT.Ok w B ⟨some ⟨b, off, none⟩, 0, 0, l.drop c⟩ := by
          rw [hdl]
          exact ⟨Bytes.zero _, nofun, Nat.le_refl _, by show 0 ≤ maxLen; omega⟩
        clear hfi hmo hlen hk hcut hdl
        go_enter Try.func64, Try.ntmps64
        go_upto_region 3 with fail
        go_region
        go_wp2
        refine bodyPost_ret (v := .tuple #[.slice (some ⟨b, off, none⟩) c c, .slice (some ⟨b, off, none⟩) 0 0, .bool true]) (by simp [results, Try.results64, go_sem]) rfl ⟨(Below.refl _ _).drew, true, ⟨some ⟨b, off, none⟩, c, c, l.take c⟩, ⟨some ⟨b, off, none⟩, 0, 0, l.drop c⟩, rfl, hs1.later ((Below.refl B w).drew), hq.later ((Below.refl B w).drew), fun _ => ⟨rfl, rfl⟩, fun l' r h1 h2 => ⟨rfl, (hres l' r h1 h2).1, (hres l' r h1 h2).2⟩⟩
      · have hcut := hcut
        have hq : PcT.Ok w B ⟨some ⟨b, off + k, none⟩, n - k, c - k, l.drop k⟩ := by
          rw [if_neg hck, Option.map_some, addr_add, Nat.mul_one, ← List.map_drop] at hcut
          exact ⟨hcut, nofun, by show n - k ≤ c - k; omega, by show c - k ≤ maxLen; omega⟩
        clear hfi hmo hlen hk hcut
        go_enter Try.func64, Try.ntmps64
        go_upto_region 3 with fail
        go_region
        go_wp2
        refine bodyPost_ret (v := .tuple #[.slice (some ⟨b, off, none⟩) k c, .slice (some ⟨b, off + k, none⟩) (n - k) (c - k), .bool true]) (by simp [results, Try.results64, go_sem]) rfl ⟨(Below.refl _ _).drew, true, ⟨some ⟨b, off, none⟩, k, c, l.take k⟩, ⟨some ⟨b, off + k, none⟩, n - k, c - k, l.drop k⟩, rfl, hs1.later ((Below.refl B w).drew), hq.later ((Below.refl B w).drew), fun _ => ⟨rfl, rfl⟩, fun l' r h1 h2 => ⟨rfl, (hres l' r h1 h2).1, (hres l' r h1 h2).2⟩⟩
  · have i4 : (n : Int) < (k : Int) := by omega
    have hno : ∀ l' r : List UInt8, l'.length = k → l = l' ++ r → False := fun l' r h1 h2 => by
      rw [h2, List.length_append] at hlen
      omega
    clear hp hfi hmo hlen hk
    go_enter Try.func64, Try.ntmps64
    go_wp2
    refine bodyPost_ret (v := .tuple #[.slice none 0 0, .slice none 0 0, .bool false]) (by simp [results, Try.results64, go_sem]) rfl ⟨Below.refl _ _, false, ⟨none, 0, 0, []⟩, ⟨none, 0, 0, []⟩, rfl, nil_ok _ _, nil_ok _ _, fun h => (by cases h), fun l' r h1 h2 => (hno l' r h1 h2).elim⟩
set_option maxRecDepth 20000 in
set_option maxHeartbeats 2000000 in
theorem rNumber_any (p : PcT) (B : Nat) (w : World) (hp : p.Ok w B) (h8 : p.n ≤ 8) :
    Calls Try.prog 65 #[.slice p.A p.n p.c] w fun e w' => e = .returned (.int .u64 (Nod.rdN p.l : Nat)) ∧ Below w.heap.size w w' := by
  have hlen := hp.len
  have HH := Lib.hid hp.here
  obtain ⟨A, n, c, l⟩ := p
  simp only at hlen h8 HH ⊢
  obtain ⟨z, hz⟩ : ∃ z, Nod.rdN l = z := ⟨_, rfl⟩
  rw [hz]
  have HZ := Lib.hid hz
  have HL := Lib.hid hlen
  clear hp hlen hz
  go_enter Try.func65, Try.ntmps65
  go_wp2_with fail
  go_loopw [3, 4] (fun v y wr => ∃ (i X : Nat), i ≤ n ∧ y = .int .i64 i ∧ v = .int .u64 X ∧ Hid (X = Nod.rdN (l.take i)) ∧ w = wr) (fun _ y _ => n - (intOf y).toNat)
  case atStart => exact ⟨0, 0, Nat.zero_le _, rfl, rfl, Lib.hid rfl, rfl⟩
  case round =>
    obtain ⟨i, X, hi, rfl, rfl, HX, rfl⟩ := hrel
    by_cases hlt : i < n
    · obtain ⟨b, off, rfl, hbB, hc⟩ := HH.out.2 (by omega)
      obtain ⟨x, hx⟩ : ∃ x, l[i]? = some x := ⟨_, List.getElem?_eq_getElem (by rw [HL.out]; exact hlt)⟩
      have x0 : w.cell? ⟨b, off + i, none⟩ = some (.int .u8 (x.toNat : Nat)) := hc i (bv x) (by rw [List.getElem?_map, hx]; rfl)
      have hxl := x.toNat_lt
      have hXl : X < 256 ^ i := by rw [HX.out]; exact Nod.rd_lt i _ (by rw [List.length_take, HL.out]; omega)
      have hXs : X < 72057594037927936 := Nat.lt_of_lt_of_le hXl (Nat.pow_le_pow_right (n := 256) (i := i) (j := 7) (by decide) (by omega))
      obtain ⟨X2, hX2⟩ : ∃ X2, X2 = X * 256 := ⟨_, rfl⟩
      obtain ⟨X3, hX3⟩ : ∃ X3, X3 = X2 + x.toNat := ⟨_, rfl⟩
      have w1 : IntKind.u64.wrap ((X : Int) * 256) = (X2 : Int) := by rw [IntKind.wrap_u64]; omega
      obtain ⟨q, hq⟩ : ∃ q : Nat, x.toNat = q := ⟨_, rfl⟩
      rw [hq] at x0 hX3 hxl
      have w2 : IntKind.u64.wrap ((X2 : Int) + (q : Int)) = (X3 : Int) := by rw [IntKind.wrap_u64]; omega
      have w3 : IntKind.u64.wrap (q : Int) = (q : Int) := by rw [IntKind.wrap_u64]; omega
      have HX3 : Hid (X3 = Nod.rdN (l.take (i + 1))) := Lib.hid (by rw [takeN hx, Nod.rd_snoc, ← HX.out, hX3, hX2, hq])
      have hlt' : (i : Int) < (n : Int) := by omega
      have hi0 : (0 : Int) ≤ (i : Int) := by omega
      clear hc hx hXl hXs hX2 hX3 hq hxl
      go_wp2_with fail
      go_roundw
      case rel => first | exact ⟨i + 1, X3, by omega, by go_num, rfl, HX3, by first | rfl | trivial⟩ | exact ⟨_, _, ⟨i + 1, X3, by omega, by go_num, rfl, HX3, by first | rfl | trivial⟩, rfl, rfl⟩
      case measure => simp [intOf]; omega
    · obtain rfl : n = i := by omega
      obtain rfl : X = z := by rw [HX.out, ← HZ.out, List.take_of_length_le (by rw [HL.out]; exact Nat.le_refl _)]
      clear hlt hi
      go_wp2
      go_ret
      exact ⟨rfl, Below.refl _ _⟩
/-- Bytes behind how many they are. -/
def CntP (p : PcT) (B : Nat) (w : World) (e : Ending) (w' : World) : Prop :=
  Below w.heap.size w w' ∧ ∃ (ok : Bool) (t q : PcT), e = .returned (.tuple #[.slice t.A t.n t.c, .slice q.A q.n q.c, .bool ok]) ∧ t.Ok w' B ∧ q.Ok w' B ∧ ∀ l r : List UInt8, l.length ≤ 255 → p.l = (UInt8.ofNat l.length :: l) ++ r → ok = true ∧ t.l = l ∧ q.l = r
set_option maxRecDepth 20000 in
set_option maxHeartbeats 2000000 in
theorem rCounted_any (p : PcT) (B : Nat) (w : World) (hp : p.Ok w B) (hB : B ≤ w.heap.size) :
    Calls Try.prog 63 #[.slice p.A p.n p.c] w (CntP p B w) := by
  have hlen := hp.len
  have hfi := hp.fits
  have hmo := hp.most
  have HP := Lib.hid hp
  obtain ⟨A, n, c, l⟩ := p
  simp only at hlen hfi hmo
  rcases Nat.eq_zero_or_pos n with h0 | h0
  · subst h0
    have hl0 : l = [] := List.eq_nil_of_length_eq_zero hlen
    subst hl0
    clear hp hfi hmo hlen
    go_enter Try.func63, Try.ntmps63
    go_wp2
    refine bodyPost_ret (v := .tuple #[.slice none 0 0, .slice none 0 0, .bool false]) (by simp [results, Try.results63, go_sem]) rfl ⟨Below.refl _ _, false, ⟨none, 0, 0, []⟩, ⟨none, 0, 0, []⟩, rfl, nil_ok _ _, nil_ok _ _, fun l' r h1 h2 => (by simp at h2)⟩
  · obtain ⟨b, off, rfl, hbB, hc⟩ := hp.here.2 h0
    obtain ⟨x, hx⟩ : ∃ x, l[0]? = some x := ⟨_, List.getElem?_eq_getElem (by omega)⟩
    have x0 : w.cell? ⟨b, off, none⟩ = some (.int .u8 (x.toNat : Nat)) := by
      have h := hc 0 (bv x) (by rw [List.getElem?_map, hx]; rfl)
      rw [Nat.add_zero] at h
      exact h
    obtain ⟨q, hq⟩ : ∃ q : Nat, x.toNat = q := ⟨_, rfl⟩
    rw [hq] at x0
    have hxl := x.toNat_lt
    rw [hq] at hxl
    have w3 : IntKind.i64.wrap (q : Int) = (q : Int) := by rw [IntKind.wrap_i64]; omega
    have hl1 : l = x :: l.drop 1 := by
      cases l with
      | nil => simp at hx
      | cons y l => have e : y = x := by simpa using hx
                    rw [e]; rfl
    have hres : ∀ l' r : List UInt8, l'.length ≤ 255 → l = (UInt8.ofNat l'.length :: l') ++ r → l'.length = q ∧ l.drop 1 = l' ++ r := fun l' r h1 h2 => by
      rw [hl1, List.cons_append] at h2
      injection h2 with h3 h4
      refine ⟨?_, h4⟩
      rw [← hq, h3, UInt8.toNat_ofNat']
      omega
    have HRES := Lib.hid hres
    have i1 : (1 : Int) ≤ (n : Int) := by omega
    have i2 : (n : Int) ≤ (c : Int) := by omega
    have i3 : (1 : Int) ≤ (c : Int) := by omega
    have i0 : ¬ (n : Int) = 0 := by omega
    have i5 : (0 : Int) < (n : Int) := by omega
    have hc63 : c ≤ 9223372036854775807 := by unfold maxLen at hmo; exact hmo
    have hcut := Shows.cut hp.here (show 1 ≤ n from h0) hfi
    have key : ∀ (A' : Option Addr), PcT.Ok w B ⟨A', n - 1, c - 1, l.drop 1⟩ → Calls Try.prog 64 #[.slice A' (n - 1) (c - 1), .int .i64 (q : Int)] w.drew (CutP ⟨A', n - 1, c - 1, l.drop 1⟩ q B w.drew) := fun A' h => rCut_any _ q q rfl B w.drew (h.later ((Below.refl B w).drew))
    by_cases hck : c = 1
    · obtain rfl : n = 1 := by omega
      obtain rfl : c = 1 := hck
      have hqo : PcT.Ok w B ⟨some ⟨b, off, none⟩, 0, 0, l.drop 1⟩ := by
        rw [List.drop_eq_nil_of_le (by omega)]
        exact ⟨Bytes.zero _, nofun, Nat.le_refl _, by show 0 ≤ maxLen; omega⟩
      have hcall : Calls Try.prog 64 #[.slice (some ⟨b, off, none⟩) 0 0, .int .i64 (q : Int)] w.drew (CutP ⟨some ⟨b, off, none⟩, 0, 0, l.drop 1⟩ q B w.drew) := rCut_any ⟨some ⟨b, off, none⟩, 0, 0, l.drop 1⟩ q q rfl B w.drew (hqo.later ((Below.refl B w).drew))
      clear hfi hmo hlen hcut hp hres hl1 hx hq hc key hqo
      go_enter Try.func63, Try.ntmps63
      go_upto_region 3 with fail
      go_region_with (go_at_call 64; (refine hcall.mono ?_); (rintro e w3 ⟨hb3, ok, t, q2, rfl, ht, hq2, -, hfin⟩))
      go_wp2
      refine bodyPost_ret (v := .tuple #[.slice t.A t.n t.c, .slice q2.A q2.n q2.c, .bool ok]) (by simp [results, Try.results63, go_sem]) rfl ⟨below_undrew hb3, ok, t, q2, rfl, ht, hq2, fun l' r h1 h2 => hfin l' r (HRES.out l' r h1 h2).1 (HRES.out l' r h1 h2).2⟩
    · have hqo : PcT.Ok w B ⟨some ⟨b, off + 1, none⟩, n - 1, c - 1, l.drop 1⟩ := by
        rw [if_neg hck, Option.map_some, addr_add, Nat.one_mul] at hcut
        have hcut2 : Shows w B 1 (some ⟨b, off + 1, none⟩) (n - 1) ((l.drop 1).map bv) := by rw [List.map_drop]; exact hcut
        exact ⟨hcut2, nofun, by show n - 1 ≤ c - 1; omega, by show c - 1 ≤ maxLen; omega⟩
      have hcall := key _ hqo
      clear hfi hmo hlen hcut hp hres hl1 hx hq hc key hqo
      go_enter Try.func63, Try.ntmps63
      go_upto_region 3 with fail
      go_region_with (go_at_call 64; (refine hcall.mono ?_); (rintro e w3 ⟨hb3, ok, t, q2, rfl, ht, hq2, -, hfin⟩))
      go_wp2
      refine bodyPost_ret (v := .tuple #[.slice t.A t.n t.c, .slice q2.A q2.n q2.c, .bool ok]) (by simp [results, Try.results63, go_sem]) rfl ⟨below_undrew hb3, ok, t, q2, rfl, ht, hq2, fun l' r h1 h2 => hfin l' r (HRES.out l' r h1 h2).1 (HRES.out l' r h1 h2).2⟩
end Go.Proofs.Ytnfohlabmidliaa
