import Derived.Test.YtgnialemiefeeaaDoorGab
import Derived.RangeFuncBox
import Derived.Shelf.Abstract
import Derived.Test.YtgnialemiefeeaaDoorGaa
/-
  Layer 1: decode.
-/
namespace Go.Proofs.YtgnialemiefeeaaDoor
open Go.RowKit

theorem str_at (s : ByteArray) (k : Nat) (h : k < s.size) : ((s[k]'h).toNat : Int) = at8 s.data.toList k := by
  unfold at8
  rw [List.getD_eq_getElem?_getD, List.getElem?_eq_getElem (by simpa using h)]
  rfl
theorem drop_getD (l : List UInt8) (p q : Nat) : (l.drop p).getD q 0 = l.getD (p + q) 0 := by
  rw [List.getD_eq_getElem?_getD, List.getD_eq_getElem?_getD, List.getElem?_drop]
theorem firstK_le (P : Nat → Bool) : firstK P ≤ 4 := by
  unfold firstK
  split
  · omega
  split
  · omega
  split
  · omega
  split <;> omega
theorem first_lead (n : Int) (k : Nat) (h0 : 0 ≤ n) (h1 : n ≤ 255) (h : sIdx n = k) (hk : k < 4) : (fdN k : Int) ≤ n ∧ n - (fdN k : Int) < 128 := by
  obtain ⟨a, rfl⟩ : ∃ a : Nat, n = (a : Int) := ⟨n.toNat, by omega⟩
  have hs := sIdx_cases a (by omega)
  rw [h] at hs
  rcases (show k = 0 ∨ k = 1 ∨ k = 2 ∨ k = 3 by omega) with rfl | rfl | rfl | rfl <;> simp only [fdN] <;> omega
/-- What decode tells. -/
def decR (l : List UInt8) (p : Nat) : Value :=
  if (decL (l.drop p)).2 = 0 then .tuple #[.int .i64 0, .int .i64 0, .int .i64 110]
  else .tuple #[.int .i64 ((decL (l.drop p)).1 : Int), .int .i64 ((p + (decL (l.drop p)).2 : Nat) : Int), .int .i64 0]
theorem decR_no {l : List UInt8} {p : Nat} (h : decL (l.drop p) = (0, 0)) : decR l p = .tuple #[.int .i64 0, .int .i64 0, .int .i64 110] := by unfold decR; rw [h]; rfl
theorem decR_yes {l : List UInt8} {p c n : Nat} (h : decL (l.drop p) = (c, n)) (hn : n ≠ 0) : decR l p = .tuple #[.int .i64 (c : Int), .int .i64 ((p + n : Nat) : Int), .int .i64 0] := by unfold decR; rw [h, if_neg hn]
theorem find_first (n : Int) (w : World) (htab : UTab w) (h0 : 0 ≤ n) (h1 : n ≤ 300) :
    Calls Tryd.prog 47 #[.func (.func 69) #[] #[], .int .i64 n] w fun e w' => e = .returned (.agg #[.int .i64 (fl (sIdx n)), .int .i64 (fh (sIdx n)), .int .i64 (fs (sIdx n)), .int .i64 (fd (sIdx n))]) ∧ Below w.heap.size w w' :=
  find_starts (fun k => startsB (fs k) (fd k) n) n w htab fun k hk W =>
    starts_any _ _ _ _ _ W (by rcases (show k = 0 ∨ k = 1 ∨ k = 2 ∨ k = 3 by omega) with rfl | rfl | rfl | rfl <;> simp [fs]) (by rcases (show k = 0 ∨ k = 1 ∨ k = 2 ∨ k = 3 by omega) with rfl | rfl | rfl | rfl <;> simp [fd]) (by rcases (show k = 0 ∨ k = 1 ∨ k = 2 ∨ k = 3 by omega) with rfl | rfl | rfl | rfl <;> simp [fd]) h1 h0

set_option maxRecDepth 100000 in
set_option maxHeartbeats 2000000 in
theorem decode_bytes (A : Option Addr) (m c0 B p : Nat) (l : List UInt8) (w : World) (htab : UTab w) (hl : Bytes w B A m l) (hB : B ≤ w.heap.size) (hm : m ≤ maxLen) (hp : p < m) :
    Calls Tryd.prog 53 #[.slice A m c0, .int .i64 p] w fun e w' => e = .returned (decR l p) ∧ Below w.heap.size w w' := by
  have hlen := Lib.hid hl.len
  unfold maxLen at hm
  obtain ⟨b, off, rfl, hbB, hc0⟩ := hl.cell hp
  have hcell : ∀ (W : World) (j : Nat), Below w.heap.size w W → p + j < m → W.cell? ⟨b, off + (p + j), none⟩ = some (.int .u8 (at8 l (p + j))) := fun W j h hj => by
    obtain ⟨b', off', e, _, hc⟩ := (hl.below (h.mono hB)).cell hj
    injection e with e
    injection e with e1 e2
    subst e1; subst e2
    exact hc
  have hp0 : (0 : Int) ≤ (p : Int) := by omega
  have hp1 : (p : Int) < (m : Int) := by omega
  have g0 := at8_lo l p
  have g1 := at8_hi l p
  have hfirst : at8 l p = (((l.drop p).getD 0 0).toNat : Int) := by unfold at8; rw [drop_getD]; rfl
  obtain ⟨k, Hk⟩ : ∃ k, Hid (sIdx (at8 l p) = k) := ⟨_, Lib.hid rfl⟩
  have hfind := find_first (at8 l p) w htab g0 (by omega)
  rw [Hk.out] at hfind
  have hk4 : k ≤ 4 := by rw [← Hk.out]; exact firstK_le _
  rcases (show k = 4 ∨ k < 4 by omega) with rfl | hlt
  · have HR := Lib.hid (show decR l p = .tuple #[.int .i64 0, .int .i64 0, .int .i64 110] from decR_no (dec_none _ (by rw [← hfirst]; exact Hk.out)))
    clear Hk hfirst
    simp only [fl, fh, fs, fd] at hfind
    have hc0' := hcell w 0 (Below.refl _ _) hp
    simp only [Nat.add_zero] at hc0'
    go_enter Tryd.func53, Tryd.ntmps53
    go_wp2_with fail
    refine hfind.mono ?_
    rintro e w1 ⟨rfl, hb1⟩
    go_wp2
    go_ret3
    exact ⟨by rw [HR.out]; rfl, bel_alloc hb1 _⟩
  · have hfs := fs_of k hlt
    rw [hfs] at hfind
    have hdd := fdN_fd k
    rw [hdd] at hfind
    have hdl : fdN k ≤ 240 := by rcases (show k = 0 ∨ k = 1 ∨ k = 2 ∨ k = 3 by omega) with rfl | rfl | rfl | rfl <;> decide
    have hd2 : (fdN k : Int) ≤ at8 l p ∧ at8 l p - (fdN k : Int) < 128 := first_lead (at8 l p) k g0 g1 Hk.out hlt
    obtain ⟨hd2, hd3⟩ := hd2
    have Hp1 := Lib.hid (show IntKind.i64.wrap (at8 l p - (fdN k : Int)) = (part (l.drop p) (fdN k) 1 : Nat) by rw [IntWalk.i64_in _ (by omega)]; show _ = (((((l.drop p).getD 0 0).toNat) - fdN k : Nat) : Int); omega)
    have Hlt := Lib.hid (part_lt (l.drop p) (fdN k) (fun q => UInt8.toNat_lt _) (by omega))
    have Hshort := Lib.hid (fun h : l.length - p < k + 1 => decR_no (dec_short (l.drop p) k (by rw [← hfirst]; exact Hk.out) (by rw [List.length_drop, hlen.out]; omega) hlt (by rw [List.length_drop]; omega)))
    have Hbad := Lib.hid (fun (h : k + 1 ≤ l.length - p) (q : Nat) (h1 : 1 ≤ q) (h2 : q ≤ k) (hb : cont (l.getD (p + q) 0) = false) => decR_no (p := p) (dec_bad (l.drop p) k (by rw [← hfirst]; exact Hk.out) hlt (by rw [List.length_drop]; omega) q h1 h2 (by rw [drop_getD]; exact hb)))
    have Hall := Lib.hid (fun (h : k + 1 ≤ l.length - p) (hc : ∀ q, 1 ≤ q → q < k + 1 → cont (l.getD (p + q) 0) = true) => dec_all (l.drop p) k (by rw [← hfirst]; exact Hk.out) hlt (by rw [List.length_drop]; omega) (fun q h1 h2 => by rw [drop_getD]; exact hc q h1 h2))
    clear hfirst Hk hfs hdd
    generalize fl k = x0 at *
    generalize fh k = x1 at *
    generalize fdN k = d at *
    have hk0 : (((k + 1 : Nat) : Int) == 0) = false := by rw [beq_eq_false_iff_ne]; omega
    have hc0' := hcell w 0 (Below.refl _ _) hp
    simp only [Nat.add_zero] at hc0'
    obtain ⟨s1, hs1⟩ : ∃ s1 : Nat, s1 = k + 1 := ⟨_, rfl⟩
    rw [← hs1] at hfind hk0 Hall Hshort Hbad
    have hs4 : s1 ≤ 4 := by omega
    have hs0' : 1 ≤ s1 := by omega
    have Hs1 := Lib.hid hs1
    clear hs1
    by_cases hlong : s1 ≤ m - p
    · have hlong' : ¬ ((s1 : Int) > (m : Int) - (p : Int)) := by omega
      have hlong2 : (s1 : Int) ≤ (m : Int) - (p : Int) := by omega
      go_enter Tryd.func53, Tryd.ntmps53
      go_wp2_with fail
      refine hfind.mono ?_
      rintro e w1 ⟨rfl, hb1⟩
      have hc1 := hcell (w1.alloc (.cells #[.int .i64 x0, .int .i64 x1, .int .i64 s1, .int .i64 d] 76)) 0 (bel_alloc hb1 _) hp
      simp only [Nat.add_zero] at hc1
      go_wp2
      have hp1' := Hp1.out
      go_quiet (fail)
      clear hp1' hc1
      go_wp2
      have hb2 := bel_alloc hb1 (.cells #[.int .i64 x0, .int .i64 x1, .int .i64 s1, .int .i64 d] 76)
      have bx := Box.new w1 #[.int .i64 x0, .int .i64 x1, .int .i64 s1, .int .i64 d] 76
      go_loopw [8, 9] (fun c i wr => ∃ j : Nat, 1 ≤ j ∧ j ≤ s1 ∧ i = .int .i64 j ∧ c = .int .i64 (part (l.drop p) d j : Nat) ∧ (∀ q, 1 ≤ q → q < j → cont (l.getD (p + q) 0) = true) ∧ ∃ mm, wr = (w1.alloc (.cells #[.int .i64 x0, .int .i64 x1, .int .i64 s1, .int .i64 d] 76)).drewN mm) (fun c i _ => 8 - (intOf i).toNat)
      case atStart => exact ⟨1, by omega, hs0', rfl, rfl, fun q h1 h2 => by omega, _, rfl⟩
      case round =>
        obtain ⟨j, hj1, hjs, rfl, rfl, hq, mm, rfl⟩ := hrel
        have bx2 := (bx.drewN mm 2 _ rfl).1
        have hpj0 : (0 : Int) ≤ (p : Int) + (j : Int) := by omega
        by_cases hjl : j < s1
        · have hpj : p + j < m := by omega
          have hpj1 : (p : Int) + (j : Int) < (m : Int) := by omega
          have hcj := hcell ((w1.alloc (.cells #[.int .i64 x0, .int .i64 x1, .int .i64 s1, .int .i64 d] 76)).drewN mm) j (below_drewN hb2 _) hpj
          have hbn := and192 (l.getD (p + j) 0)
          rw [show ((l.getD (p + j) 0).toNat : Int) = at8 l (p + j) from rfl] at hbn
          have hbit0 := at8_lo l (p + j)
          have hbit1 := at8_hi l (p + j)
          cases hcont : cont (l.getD (p + j) 0)
          · rw [hcont] at hbn
            simp only [Bool.not_false] at hbn
            have HR := Lib.hid (Hbad.out (by rw [hlen.out]; exact hlong) j hj1 (by have := Hs1.out; omega) hcont)
            clear hq hcont
            go_wp2
            go_ret3
            exact ⟨by rw [HR.out]; rfl, below_drewN hb2 _⟩
          · rw [hcont] at hbn
            simp only [Bool.not_true] at hbn
            have hc' := (cont_iff _).1 hcont
            have hst := step6 (part (l.drop p) d j) (l.getD (p + j) 0).toNat (Hlt.out j (by omega)) hc'.1 hc'.2
            rw [show ((l.getD (p + j) 0).toNat : Int) = at8 l (p + j) from rfl] at hst
            have hpl := Hlt.out j (by omega)
            have HP := Lib.hid (show part (l.drop p) d (j + 1) = part (l.drop p) d j * 64 + ((l.getD (p + j) 0).toNat - 128) by rw [part_succ _ _ _ hj1, drop_getD])
            have HQ := Lib.hid (show ∀ q, 1 ≤ q → q < j + 1 → cont (l.getD (p + q) 0) = true from fun q h1 h2 => if e : q = j then e ▸ hcont else hq q h1 (by omega))
            clear hq hcont hc'
            go_wp2
            go_roundw
            case rel => exact ⟨j + 1, by omega, by omega, by go_num, by rw [HP.out]; simp, HQ.out, _, rfl⟩
            case measure => simp [intOf]; omega
        · have hjs' : j = s1 := by omega
          subst hjs'
          have HA := Lib.hid (Hall.out (by rw [hlen.out]; exact hlong) hq)
          have b0 := (bx.drewN mm 0 _ rfl).1
          have b1 := (bx.drewN mm 1 _ rfl).1
          have b3 := (bx.drewN mm 3 _ rfl).1
          have hb3 := below_drewN hb2 mm
          generalize hP : part (l.drop p) d j = P at *
          have Hs := Lib.hid hs0'
          clear hq hP hjl
          cases hh : holdsB x0 x1 (P : Int)
          · have HR := Lib.hid (decR_no (l := l) (p := p) (by rw [HA.out, hh]; rfl))
            have hno := fun W => holds_no x0 x1 j d P W hh
            clear hh
            go_wp2_with fail
            refine (hno _).mono ?_
            rintro e w2 ⟨rfl, hb4⟩
            go_wp2
            go_ret3
            exact ⟨by rw [HR.out]; rfl, bel_next hb3 hb4⟩
          · have HR := Lib.hid (decR_yes (l := l) (p := p) (c := P) (n := j) (by rw [HA.out, hh]; rfl) (by have := Hs.out; omega))
            have hyes := fun W => holds_yes x0 x1 j d P W hh
            clear hh
            go_wp2_with fail
            refine (hyes _).mono ?_
            rintro e w2 ⟨rfl, hb4⟩
            have b2' := kept_later hb4 bx2
            have hw : IntKind.i64.wrap ((p : Int) + (j : Int)) = (p : Int) + (j : Int) := IntWalk.i64_in _ (by omega)
            go_wp2
            go_quiet (fail)
            go_wp2
            go_ret3
            exact ⟨by rw [HR.out]; rfl, below_drewN (bel_next hb3 hb4) _⟩
    · have HR := Lib.hid (Hshort.out (by rw [hlen.out]; omega))
      have hlong' : (m : Int) - (p : Int) < (s1 : Int) := by omega
      go_enter Tryd.func53, Tryd.ntmps53
      go_wp2_with fail
      refine hfind.mono ?_
      rintro e w1 ⟨rfl, hb1⟩
      go_wp2
      go_ret3
      exact ⟨by rw [HR.out]; rfl, bel_alloc hb1 _⟩

set_option maxRecDepth 100000 in
set_option maxHeartbeats 2000000 in
theorem decode_string (s : ByteArray) (p : Nat) (w : World) (htab : UTab w) (hm : s.size ≤ maxLen) (hp : p < s.size) :
    Calls Tryd.prog 60 #[.string s, .int .i64 p] w fun e w' => e = .returned (decR s.data.toList p) ∧ Below w.heap.size w w' := by
  have hlen := Lib.hid (show s.data.toList.length = s.size by simp)
  unfold maxLen at hm
  obtain ⟨l, Hl⟩ : ∃ l, Hid (s.data.toList = l) := ⟨_, Lib.hid rfl⟩
  have hs0 : ((s[p]'hp).toNat : Int) = at8 l p := by rw [← Hl.out]; exact str_at s p hp
  have hsj : ∀ (j : Nat) (h : p + j < s.size), ((s[p + j]'h).toNat : Int) = at8 l (p + j) := fun j h => by rw [← Hl.out]; exact str_at s (p + j) h
  rw [Hl.out] at hlen
  have HR := Lib.hid (show decR s.data.toList p = decR l p by rw [Hl.out])
  rw [HR.out]
  clear HR
  clear Hl
  have hp0 : (0 : Int) ≤ (p : Int) := by omega
  have hp1 : (p : Int) < (s.size : Int) := by omega
  have g0 := at8_lo l p
  have g1 := at8_hi l p
  have hfirst : at8 l p = (((l.drop p).getD 0 0).toNat : Int) := by unfold at8; rw [drop_getD]; rfl
  obtain ⟨k, Hk⟩ : ∃ k, Hid (sIdx (at8 l p) = k) := ⟨_, Lib.hid rfl⟩
  have hfind := find_first (at8 l p) w htab g0 (by omega)
  rw [Hk.out] at hfind
  have hk4 : k ≤ 4 := by rw [← Hk.out]; exact firstK_le _
  rcases (show k = 4 ∨ k < 4 by omega) with rfl | hlt
  · have HR := Lib.hid (show decR l p = .tuple #[.int .i64 0, .int .i64 0, .int .i64 110] from decR_no (dec_none _ (by rw [← hfirst]; exact Hk.out)))
    clear Hk hfirst
    simp only [fl, fh, fs, fd] at hfind
    go_enter Tryd.func60, Tryd.ntmps60
    go_wp2_with fail
    refine hfind.mono ?_
    rintro e w1 ⟨rfl, hb1⟩
    go_wp2
    go_ret3
    exact ⟨by rw [HR.out]; rfl, bel_alloc hb1 _⟩
  · have hfs := fs_of k hlt
    rw [hfs] at hfind
    have hdd := fdN_fd k
    rw [hdd] at hfind
    have hdl : fdN k ≤ 240 := by rcases (show k = 0 ∨ k = 1 ∨ k = 2 ∨ k = 3 by omega) with rfl | rfl | rfl | rfl <;> decide
    have hd2 : (fdN k : Int) ≤ at8 l p ∧ at8 l p - (fdN k : Int) < 128 := first_lead (at8 l p) k g0 g1 Hk.out hlt
    obtain ⟨hd2, hd3⟩ := hd2
    have Hp1 := Lib.hid (show IntKind.i64.wrap (at8 l p - (fdN k : Int)) = (part (l.drop p) (fdN k) 1 : Nat) by rw [IntWalk.i64_in _ (by omega)]; show _ = (((((l.drop p).getD 0 0).toNat) - fdN k : Nat) : Int); omega)
    have Hlt := Lib.hid (part_lt (l.drop p) (fdN k) (fun q => UInt8.toNat_lt _) (by omega))
    have Hshort := Lib.hid (fun h : l.length - p < k + 1 => decR_no (dec_short (l.drop p) k (by rw [← hfirst]; exact Hk.out) (by rw [List.length_drop, hlen.out]; omega) hlt (by rw [List.length_drop]; omega)))
    have Hbad := Lib.hid (fun (h : k + 1 ≤ l.length - p) (q : Nat) (h1 : 1 ≤ q) (h2 : q ≤ k) (hb : cont (l.getD (p + q) 0) = false) => decR_no (p := p) (dec_bad (l.drop p) k (by rw [← hfirst]; exact Hk.out) hlt (by rw [List.length_drop]; omega) q h1 h2 (by rw [drop_getD]; exact hb)))
    have Hall := Lib.hid (fun (h : k + 1 ≤ l.length - p) (hc : ∀ q, 1 ≤ q → q < k + 1 → cont (l.getD (p + q) 0) = true) => dec_all (l.drop p) k (by rw [← hfirst]; exact Hk.out) hlt (by rw [List.length_drop]; omega) (fun q h1 h2 => by rw [drop_getD]; exact hc q h1 h2))
    clear hfirst Hk hfs hdd
    generalize fl k = x0 at *
    generalize fh k = x1 at *
    generalize fdN k = d at *
    have hk0 : (((k + 1 : Nat) : Int) == 0) = false := by rw [beq_eq_false_iff_ne]; omega
    obtain ⟨s1, hs1⟩ : ∃ s1 : Nat, s1 = k + 1 := ⟨_, rfl⟩
    rw [← hs1] at hfind hk0 Hall Hshort Hbad
    have hs4 : s1 ≤ 4 := by omega
    have hs0' : 1 ≤ s1 := by omega
    have Hs1 := Lib.hid hs1
    clear hs1
    by_cases hlong : s1 ≤ s.size - p
    · have hlong' : ¬ ((s1 : Int) > (s.size : Int) - (p : Int)) := by omega
      have hlong2 : (s1 : Int) ≤ (s.size : Int) - (p : Int) := by omega
      go_enter Tryd.func60, Tryd.ntmps60
      go_wp2_with fail
      refine hfind.mono ?_
      rintro e w1 ⟨rfl, hb1⟩
      go_wp2
      have hp1' := Hp1.out
      go_quiet (fail)
      clear hp1'
      go_wp2
      have hb2 := bel_alloc hb1 (.cells #[.int .i64 x0, .int .i64 x1, .int .i64 s1, .int .i64 d] 76)
      have bx := Box.new w1 #[.int .i64 x0, .int .i64 x1, .int .i64 s1, .int .i64 d] 76
      go_loopw [8, 9] (fun c i wr => ∃ j : Nat, 1 ≤ j ∧ j ≤ s1 ∧ i = .int .i64 j ∧ c = .int .i64 (part (l.drop p) d j : Nat) ∧ (∀ q, 1 ≤ q → q < j → cont (l.getD (p + q) 0) = true) ∧ ∃ mm, wr = (w1.alloc (.cells #[.int .i64 x0, .int .i64 x1, .int .i64 s1, .int .i64 d] 76)).drewN mm) (fun c i _ => 8 - (intOf i).toNat)
      case atStart => exact ⟨1, by omega, hs0', rfl, rfl, fun q h1 h2 => by omega, _, rfl⟩
      case round =>
        obtain ⟨j, hj1, hjs, rfl, rfl, hq, mm, rfl⟩ := hrel
        have bx2 := (bx.drewN mm 2 _ rfl).1
        have hpj0 : (0 : Int) ≤ (p : Int) + (j : Int) := by omega
        by_cases hjl : j < s1
        · have hpj : p + j < s.size := by omega
          have hpj1 : (p : Int) + (j : Int) < (s.size : Int) := by omega
          have hcj := hsj j hpj
          have hbn := and192 (l.getD (p + j) 0)
          rw [show ((l.getD (p + j) 0).toNat : Int) = at8 l (p + j) from rfl] at hbn
          have hbit0 := at8_lo l (p + j)
          have hbit1 := at8_hi l (p + j)
          cases hcont : cont (l.getD (p + j) 0)
          · rw [hcont] at hbn
            simp only [Bool.not_false] at hbn
            have HR := Lib.hid (Hbad.out (by rw [hlen.out]; exact hlong) j hj1 (by have := Hs1.out; omega) hcont)
            clear hq hcont
            go_wp2
            go_ret3
            exact ⟨by rw [HR.out]; rfl, below_drewN hb2 _⟩
          · rw [hcont] at hbn
            simp only [Bool.not_true] at hbn
            have hc' := (cont_iff _).1 hcont
            have hst := step6 (part (l.drop p) d j) (l.getD (p + j) 0).toNat (Hlt.out j (by omega)) hc'.1 hc'.2
            rw [show ((l.getD (p + j) 0).toNat : Int) = at8 l (p + j) from rfl] at hst
            have hpl := Hlt.out j (by omega)
            have HP := Lib.hid (show part (l.drop p) d (j + 1) = part (l.drop p) d j * 64 + ((l.getD (p + j) 0).toNat - 128) by rw [part_succ _ _ _ hj1, drop_getD])
            have HQ := Lib.hid (show ∀ q, 1 ≤ q → q < j + 1 → cont (l.getD (p + q) 0) = true from fun q h1 h2 => if e : q = j then e ▸ hcont else hq q h1 (by omega))
            clear hq hcont hc'
            go_wp2
            go_roundw
            case rel => exact ⟨j + 1, by omega, by omega, by go_num, by rw [HP.out]; simp, HQ.out, _, rfl⟩
            case measure => simp [intOf]; omega
        · have hjs' : j = s1 := by omega
          subst hjs'
          have HA := Lib.hid (Hall.out (by rw [hlen.out]; exact hlong) hq)
          have b0 := (bx.drewN mm 0 _ rfl).1
          have b1 := (bx.drewN mm 1 _ rfl).1
          have b3 := (bx.drewN mm 3 _ rfl).1
          have hb3 := below_drewN hb2 mm
          generalize hP : part (l.drop p) d j = P at *
          have Hs := Lib.hid hs0'
          clear hq hP hjl
          cases hh : holdsB x0 x1 (P : Int)
          · have HR := Lib.hid (decR_no (l := l) (p := p) (by rw [HA.out, hh]; rfl))
            have hno := fun W => holds_no x0 x1 j d P W hh
            clear hh
            go_wp2_with fail
            refine (hno _).mono ?_
            rintro e w2 ⟨rfl, hb4⟩
            go_wp2
            go_ret3
            exact ⟨by rw [HR.out]; rfl, bel_next hb3 hb4⟩
          · have HR := Lib.hid (decR_yes (l := l) (p := p) (c := P) (n := j) (by rw [HA.out, hh]; rfl) (by have := Hs.out; omega))
            have hyes := fun W => holds_yes x0 x1 j d P W hh
            clear hh
            go_wp2_with fail
            refine (hyes _).mono ?_
            rintro e w2 ⟨rfl, hb4⟩
            have b2' := kept_later hb4 bx2
            have hw : IntKind.i64.wrap ((p : Int) + (j : Int)) = (p : Int) + (j : Int) := IntWalk.i64_in _ (by omega)
            go_wp2
            go_quiet (fail)
            go_wp2
            go_ret3
            exact ⟨by rw [HR.out]; rfl, below_drewN (bel_next hb3 hb4) _⟩
    · have HR := Lib.hid (Hshort.out (by rw [hlen.out]; omega))
      have hlong' : (s.size : Int) - (p : Int) < (s1 : Int) := by omega
      go_enter Tryd.func60, Tryd.ntmps60
      go_wp2_with fail
      refine hfind.mono ?_
      rintro e w1 ⟨rfl, hb1⟩
      go_wp2
      go_ret3
      exact ⟨by rw [HR.out]; rfl, bel_alloc hb1 _⟩
end Go.Proofs.YtgnialemiefeeaaDoor
/-
  Layer 1: Next, walk, Check.
-/
namespace Go.Proofs.YtgnialemiefeeaaDoor
open Go.RowKit Go.Shelf

set_option maxRecDepth 20000 in
theorem next_bad (A : Option Addr) (m c0 : Nat) (p : Int) (w : World) (h : p < 0 ∨ (m : Int) < p) :
    Calls Tryd.prog 32 #[.slice A m c0, .int .i64 p] w fun e w' => e = .returned (.tuple #[.int .i64 0, .int .i64 0, .int .i64 2]) ∧ w' = w := by
  rcases h with h | h
  · go_enter Tryd.func32, Tryd.ntmps32
    go_wp2
    go_ret3
    exact ⟨rfl, rfl⟩
  · have h0 : ¬ p < 0 := by omega
    go_enter Tryd.func32, Tryd.ntmps32
    go_wp2
    go_ret3
    exact ⟨rfl, rfl⟩
set_option maxRecDepth 20000 in
theorem next_end (A : Option Addr) (m c0 : Nat) (w : World) :
    Calls Tryd.prog 32 #[.slice A m c0, .int .i64 (m : Int)] w fun e w' => e = .returned (.tuple #[.int .i64 0, .int .i64 0, .int .i64 6]) ∧ w' = w := by
  have h0 : ¬ (m : Int) < 0 := by omega
  go_enter Tryd.func32, Tryd.ntmps32
  go_wp2
  go_ret3
  exact ⟨rfl, rfl⟩
set_option maxRecDepth 20000 in
theorem next_in (A : Option Addr) (m c0 B p : Nat) (l : List UInt8) (w : World) (htab : UTab w) (hl : Bytes w B A m l) (hB : B ≤ w.heap.size) (hm : m ≤ maxLen) (hp : p < m) :
    Calls Tryd.prog 32 #[.slice A m c0, .int .i64 p] w fun e w' => e = .returned (decR l p) ∧ Below w.heap.size w w' := by
  have h0 : ¬ (p : Int) < 0 := by omega
  have h1 : ¬ (m : Int) < (p : Int) := by omega
  have h2 : ((p : Int) == (m : Int)) = false := by rw [beq_eq_false_iff_ne]; omega
  have hd := decode_bytes A m c0 B p l w htab hl hB hm hp
  rcases Nat.eq_zero_or_pos (decL (l.drop p)).2 with h | h
  · have e := decR_no (dec_zero h)
    rw [e] at hd ⊢
    clear e h
    go_enter Tryd.func32, Tryd.ntmps32
    go_wp2_with fail
    refine hd.mono ?_
    rintro e w1 ⟨rfl, hb⟩
    go_wp2
    go_ret3
    exact ⟨rfl, hb⟩
  · have e := decR_yes (l := l) (p := p) (c := (decL (l.drop p)).1) (n := (decL (l.drop p)).2) rfl (by omega)
    rw [e] at hd ⊢
    generalize (((decL (l.drop p)).1 : Nat) : Int) = x at *
    generalize ((p + (decL (l.drop p)).2 : Nat) : Int) = y at *
    clear e h
    go_enter Tryd.func32, Tryd.ntmps32
    go_wp2_with fail
    refine hd.mono ?_
    rintro e w1 ⟨rfl, hb⟩
    go_wp2
    go_ret3
    exact ⟨rfl, hb⟩

/-- What walk tells. -/
def walkR (l : List UInt8) : Value := if (ptsL l).2 = l.length then .tuple #[.int .i64 0, .int .i64 0] else .tuple #[.int .i64 ((ptsL l).2 : Int), .int .i64 110]
set_option maxRecDepth 20000 in
set_option maxHeartbeats 1000000 in
theorem walk_any (s : ByteArray) (l : List UInt8) (hs : s.data.toList = l) (g : Nat) (lb : Array Value) (w : World) (hm : s.size ≤ maxLen)
    (I : List Nat → World → Prop) (hU : ∀ pre W, I pre W → UTab W) (hI : ∀ pre W W', I pre W → Below W.heap.size W W' → I pre W') (h0 : I [] w)
    (eg : ∀ args w, (callFunc g args).run Tryd.prog w = .ok (.enter g args) w)
    (hv : ∀ pre c W, I pre W → pre.length < s.size → Calls Tryd.prog g (#[.int .i64 ((c : Nat) : Int)] ++ lb) W fun e W' => (∃ v, e = .returned v) ∧ I (pre ++ [c]) W') :
    Calls Tryd.prog 44 #[.string s, .func (.func g) #[] lb] w fun e w' => e = .returned (walkR l) ∧ I (ptsL l).1 w' := by
  have hlen : l.length = s.size := by rw [← hs]; simp
  have Hm := Lib.hid hm
  unfold maxLen at hm
  go_enter Tryd.func44, Tryd.ntmps44
  go_wp2
  go_loopw [6] (fun a wr => ∃ (p : Nat) (pre : List Nat), p ≤ s.size ∧ a = .int .i64 p ∧ ptsL l = (pre ++ (ptsL (l.drop p)).1, p + (ptsL (l.drop p)).2) ∧ pre.length ≤ p ∧ I pre wr) (fun a _ => s.size - (intOf a).toNat)
  case atStart => exact ⟨0, [], by omega, rfl, by simp, by simp, h0⟩
  case round =>
    obtain ⟨p, pre, hp, rfl, hP, hpl, hJ⟩ := hrel
    have HP := Lib.hid hP
    have HL := Lib.hid hlen
    clear hP hlen
    by_cases hlt : p < s.size
    · have hd := decode_string s p wr (hU _ _ hJ) Hm.out hlt
      rw [hs] at hd
      clear hs
      rcases Nat.eq_zero_or_pos (decL (l.drop p)).2 with h | h
      · rw [decR_no (dec_zero h)] at hd
        have HQ := Lib.hid (show ptsL l = (pre, p) by rw [HP.out, pts_zero h]; simp)
        clear h
        go_wp2_with fail
        refine hd.mono ?_
        rintro e w1 ⟨rfl, hb⟩
        go_wp2
        go_ret2
        have := HQ.out
        have e2 := HL.out
        refine ⟨?_, by rw [this]; exact hI _ _ _ hJ hb⟩
        unfold walkR
        rw [this, if_neg (by simp only; omega)]
        rfl
      · rw [decR_yes (l := l) (p := p) (c := (decL (l.drop p)).1) (n := (decL (l.drop p)).2) rfl (by omega)] at hd
        have HQ := Lib.hid (show ptsL l = ((pre ++ [(decL (l.drop p)).1]) ++ (ptsL (l.drop (p + (decL (l.drop p)).2))).1, (p + (decL (l.drop p)).2) + (ptsL (l.drop (p + (decL (l.drop p)).2))).2) by
          rw [HP.out, pts_step (l := l.drop p) (by omega), List.drop_drop]
          simp [Nat.add_assoc])
        have hle := dec_le (l.drop p)
        rw [List.length_drop, HL.out] at hle
        generalize (decL (l.drop p)).1 = c at *
        generalize (decL (l.drop p)).2 = n at *
        go_wp2_with fail
        refine hd.mono ?_
        rintro e w1 ⟨rfl, hb⟩
        have hJ1 := hI _ _ _ hJ hb
        have hv1 := hv pre c w1 hJ1 (by omega)
        go_wp2_with fail
        refine hv1.mono ?_
        rintro e w2 ⟨⟨v, rfl⟩, hJ2⟩
        go_wp2
        go_roundw
        case rel => exact ⟨p + n, pre ++ [c], by omega, rfl, HQ.out, by simp; omega, hJ2⟩
        case measure => simp [intOf]; omega
    · have hk : p = s.size := by omega
      have HQ := Lib.hid (show ptsL l = (pre, p) by rw [HP.out, List.drop_of_length_le (by rw [HL.out]; omega), pts_zero (l := []) rfl]; simp)
      have e2 := Lib.hid (show p = l.length by rw [HL.out]; exact hk)
      clear hk
      go_wp2
      go_ret2
      have := HQ.out
      refine ⟨?_, by rw [this]; exact hJ⟩
      unfold walkR
      rw [this, if_pos e2.out]
      rfl

set_option maxRecDepth 20000 in
theorem check_any (s : ByteArray) (l : List UInt8) (hs : s.data.toList = l) (w : World) (hm : s.size ≤ maxLen) (htab : UTab w) :
    Calls Tryd.prog 23 #[.string s] w fun e w' => e = .returned (walkR l) ∧ Below w.heap.size w w' := by
  have hw := walk_any s l hs 45 #[] w hm (fun _ W => UTab W ∧ Below w.heap.size w W) (fun _ _ h => h.1) (fun _ W W' h hb => ⟨h.1.below hb h.1.lt, bel_next h.2 hb⟩) ⟨htab, Below.refl _ _⟩ (enters_of Tryd.func45 (by kernel_rfl) rfl) (fun pre c W h _ => by
    go_enter Tryd.func45, Tryd.ntmps45
    go_wp2
    go_end0
    exact ⟨⟨_, rfl⟩, h⟩)
  unfold walkR at hw ⊢
  split at hw
  · rw [if_pos (by assumption)]
    go_enter Tryd.func23, Tryd.ntmps23
    go_wp2_with fail
    refine hw.mono ?_
    rintro e w1 ⟨rfl, -, hb⟩
    go_wp2
    go_ret2
    exact ⟨rfl, hb⟩
  · rw [if_neg (by assumption)]
    generalize (((ptsL l).2 : Nat) : Int) = x at *
    go_enter Tryd.func23, Tryd.ntmps23
    go_wp2_with fail
    refine hw.mono ?_
    rintro e w1 ⟨rfl, -, hb⟩
    go_wp2
    go_ret2
    exact ⟨rfl, hb⟩
end Go.Proofs.YtgnialemiefeeaaDoor
/-
  Layer 2: hex, number, fault.
-/
namespace Go.Proofs.YtgnialemiefeeaaDoor
open Go.RowKit

/-- The number of the first digits. -/
def hx (l : List UInt8) : Nat → Nat | 0 => 0 | j + 1 => hx l j * 16 + hexD (at0 l j)
theorem hx_lt (l : List UInt8) : ∀ j, (∀ q, q < j → hexD (at0 l q) < 16) → j ≤ 4 → hx l j < 65536
  | 0, _, _ => Nat.zero_lt_succ _
  | 1, h, _ => by have := h 0 (by omega); simp only [hx]; omega
  | 2, h, _ => by have := h 0 (by omega); have := h 1 (by omega); simp only [hx]; omega
  | 3, h, _ => by have := h 0 (by omega); have := h 1 (by omega); have := h 2 (by omega); simp only [hx]; omega
  | 4, h, _ => by have := h 0 (by omega); have := h 1 (by omega); have := h 2 (by omega); have := h 3 (by omega); simp only [hx]; omega
/-- A number, or -1. -/
def optI (o : Option Nat) : Int := match o with | some n => (n : Int) | none => -1
theorem hex_yes {l : List UInt8} (h4 : 4 ≤ l.length) (h : ∀ q, q < 4 → hexD (at0 l q) < 16) : hexL l = some (hx l 4) := by
  unfold hexL
  rw [if_pos ⟨h4, h 0 (by omega), h 1 (by omega), h 2 (by omega), h 3 (by omega)⟩]
  simp only [hx]
  congr 1
  omega
theorem hex_no {l : List UInt8} (q : Nat) (hq : q < 4) (h : hexD (at0 l q) = 16) : hexL l = none := by
  unfold hexL
  refine if_neg fun h2 => ?_
  rcases (show q = 0 ∨ q = 1 ∨ q = 2 ∨ q = 3 by omega) with rfl | rfl | rfl | rfl <;> omega
theorem hex_short {l : List UInt8} (h : l.length < 4) : hexL l = none := by
  unfold hexL
  exact if_neg fun h2 => by omega
theorem shl4_or (a b : Nat) (ha : a < 65536) (h : b < 16) : bits .or .i64 ((a : Int) * 16) (b : Int) = ((a * 16 + b : Nat) : Int) := by
  have e := or_sum 4 a b (by simpa using h)
  have h2 := i64_or_nat (2 ^ 4 * a) b (by omega) (by omega)
  rw [e] at h2
  rw [show (a : Int) * 16 = ((2 ^ 4 * a : Nat) : Int) by push_cast; omega, h2]
  congr 1
  omega

set_option maxRecDepth 20000 in
set_option maxHeartbeats 1000000 in
theorem hex_any (A : Option Addr) (m c0 B : Nat) (l : List UInt8) (w : World) (hl : Bytes w B A m l) (hm : m ≤ maxLen) (hmc : m ≤ c0) :
    Calls Tryd.prog 68 #[.slice A m c0] w fun e w' => e = .returned (.int .i64 (optI (hexL l))) ∧ w' = w := by
  unfold maxLen at hm
  by_cases h4 : m < 4
  · have HR := Lib.hid (hex_short (l := l) (by rw [hl.len]; exact h4))
    have h4' : (m : Int) < 4 := by omega
    go_enter Tryd.func68, Tryd.ntmps68
    go_wp2
    go_ret
    exact ⟨by rw [HR.out]; rfl, rfl⟩
  · have h4' : ¬ (m : Int) < 4 := by omega
    have h4b : ¬ (c0 : Int) < 4 := by omega
    have h4c : (4 : Int) ≤ c0 := by omega
    obtain ⟨b, off, rfl, hbB, _⟩ := hl.cell (k := 0) (by omega)
    have hcell : ∀ (j : Nat), j < m → w.cell? ⟨b, off + j, none⟩ = some (.int .u8 (at8 l j)) := fun j hj => by
      obtain ⟨b', off', e, _, hc⟩ := hl.cell hj
      injection e with e
      injection e with e1 e2
      subst e1; subst e2
      exact hc
    have hlen := Lib.hid hl.len
    clear hl hbB
    go_enter Tryd.func68, Tryd.ntmps68
    go_wp2
    go_loopw [3, 12] (fun n i wr => ∃ j : Nat, j ≤ 4 ∧ i = .int .i64 j ∧ n = .int .i64 (hx l j : Nat) ∧ (∀ q, q < j → hexD (at0 l q) < 16) ∧ wr = w) (fun _ i _ => 8 - (intOf i).toNat)
    case atStart => exact ⟨0, by omega, rfl, rfl, fun q h => by omega, rfl⟩
    case round =>
      obtain ⟨j, hj, rfl, rfl, hq, rfl⟩ := hrel
      have Hlt := Lib.hid (hx_lt l j hq hj)
      by_cases hj4 : j < 4
      · have hj4' : (j : Int) < 4 := by omega
        have hj0 : (0 : Int) ≤ j := by omega
        have hc := hcell j (by omega)
        rw [show at8 l j = ((at0 l j : Nat) : Int) from rfl] at hc
        have hx0 := at0_lt l j
        have Hq := Lib.hid hq
        have Hstep := Lib.hid (show hx l (j + 1) = hx l j * 16 + hexD (at0 l j) from rfl)
        have Hin := Lib.hid (fun h : hexD (at0 l j) < 16 => show ∀ q, q < j + 1 → hexD (at0 l q) < 16 from fun q h2 => if e : q = j then e ▸ h else hq q (by omega))
        have Hno := Lib.hid (fun h : hexD (at0 l j) = 16 => hex_no j hj4 h)
        clear hq
        generalize hh : hx l j = h at *
        generalize hxx : at0 l j = x at *
        clear hh hxx
        by_cases c : 48 ≤ x ∧ x ≤ 57
        · have e1 : hexD x = x - 48 := by unfold hexD; rw [if_pos c]
          rw [e1] at Hstep Hin
          obtain ⟨a1, a2⟩ := c
          have b1 : (48 : Int) ≤ x := by omega
          have b2 : (x : Int) ≤ 57 := by omega
          have hlt := Hlt.out
          have hor := shl4_or h (x - 48) hlt (by omega)
          have Ho := Lib.hid hor
          rw [show ((x - 48 : Nat) : Int) = (x : Int) - 48 by omega] at hor
          clear e1
          go_wp2
          go_roundw
          case rel => exact ⟨j + 1, by omega, by go_num, by rw [Hstep.out]; first | rfl | (simp; rfl) | (simp; done) | (simp; omega), Hin.out (by omega), by first | rfl | trivial⟩
          case measure => simp [intOf]; omega
        · have n1 : ¬ ((48 : Int) ≤ x ∧ (x : Int) ≤ 57) := by omega
          by_cases c2 : 97 ≤ x ∧ x ≤ 102
          · have e1 : hexD x = x - 87 := by unfold hexD; rw [if_neg c, if_pos c2]
            rw [e1] at Hstep Hin
            have n2 : ¬ ((x : Int) ≤ 57) := by omega
            have n3 : (48 : Int) ≤ x := by omega
            clear c n1
            have c := c2
            clear c2
            obtain ⟨a1, a2⟩ := c
            have b1 : (97 : Int) ≤ x := by omega
            have b2 : (x : Int) ≤ 102 := by omega
            have hlt := Hlt.out
            have ha : (x : Int) - 97 + 10 = (x : Int) - 87 := by omega
            have hor := shl4_or h (x - 87) hlt (by omega)
            have Ho := Lib.hid hor
            rw [show ((x - 87 : Nat) : Int) = (x : Int) - 87 by omega] at hor
            clear e1
            go_wp2
            go_roundw
            case rel => exact ⟨j + 1, by omega, by go_num, by rw [Hstep.out]; first | rfl | (simp; rfl) | (simp; done) | (simp; omega), Hin.out (by omega), by first | rfl | trivial⟩
            case measure => simp [intOf]; omega
          · by_cases c3 : 65 ≤ x ∧ x ≤ 70
            · have e1 : hexD x = x - 55 := by unfold hexD; rw [if_neg c, if_neg c2, if_pos c3]
              rw [e1] at Hstep Hin
              have n2 : ¬ ((x : Int) ≤ 57) := by omega
              have n3 : (48 : Int) ≤ x := by omega
              have n4 : ¬ ((97 : Int) ≤ x) := by omega
              clear c c2 n1
              have c := c3
              clear c3
              obtain ⟨a1, a2⟩ := c
              have b1 : (65 : Int) ≤ x := by omega
              have b2 : (x : Int) ≤ 70 := by omega
              have hlt := Hlt.out
              have ha : (x : Int) - 65 + 10 = (x : Int) - 55 := by omega
              have hor := shl4_or h (x - 55) hlt (by omega)
              have Ho := Lib.hid hor
              rw [show ((x - 55 : Nat) : Int) = (x : Int) - 55 by omega] at hor
              clear e1
              go_wp2
              go_roundw
              case rel => exact ⟨j + 1, by omega, by go_num, by rw [Hstep.out]; first | rfl | (simp; rfl) | (simp; done) | (simp; omega), Hin.out (by omega), by first | rfl | trivial⟩
              case measure => simp [intOf]; omega
            · have HR := Lib.hid (Hno.out (by unfold hexD; rw [if_neg c, if_neg c2, if_neg c3]))
              have Hc : x < 48 ∨ (57 < x ∧ x < 65) ∨ (70 < x ∧ x < 97) ∨ 102 < x := by omega
              clear c c2 c3 n1
              rcases Hc with h1 | ⟨h1, h2⟩ | ⟨h1, h2⟩ | h1
              · have k0 : ¬ (48 : Int) ≤ x := by omega
                have k1 : ¬ (97 : Int) ≤ x := by omega
                have k2 : ¬ (65 : Int) ≤ x := by omega
                go_wp2
                go_ret
                exact ⟨by rw [HR.out]; rfl, rfl⟩
              · have k0 : (48 : Int) ≤ x := by omega
                have k1 : ¬ (x : Int) ≤ 57 := by omega
                have k2 : ¬ (97 : Int) ≤ x := by omega
                have k3 : ¬ (65 : Int) ≤ x := by omega
                go_wp2
                go_ret
                exact ⟨by rw [HR.out]; rfl, rfl⟩
              · have k0 : (48 : Int) ≤ x := by omega
                have k1 : ¬ (x : Int) ≤ 57 := by omega
                have k2 : ¬ (97 : Int) ≤ x := by omega
                have k3 : (65 : Int) ≤ x := by omega
                have k4 : ¬ (x : Int) ≤ 70 := by omega
                go_wp2
                go_ret
                exact ⟨by rw [HR.out]; rfl, rfl⟩
              · have k0 : (48 : Int) ≤ x := by omega
                have k1 : ¬ (x : Int) ≤ 57 := by omega
                have k2 : (97 : Int) ≤ x := by omega
                have k3 : ¬ (x : Int) ≤ 102 := by omega
                have k4 : (65 : Int) ≤ x := by omega
                have k5 : ¬ (x : Int) ≤ 70 := by omega
                go_wp2
                go_ret
                exact ⟨by rw [HR.out]; rfl, rfl⟩
      · have hjs' : j = 4 := by omega
        subst hjs'
        have HR := Lib.hid (hex_yes (l := l) (by rw [hlen.out]; omega) hq)
        clear hq hcell
        go_wp2
        go_ret
        exact ⟨by rw [HR.out]; rfl, rfl⟩

set_option maxRecDepth 20000 in
set_option maxHeartbeats 1000000 in
theorem number_any (A : Option Addr) (m c0 B : Nat) (l : List UInt8) (w : World) (hl : Bytes w B A m l) (hm : m ≤ maxLen) (hmc : m ≤ c0) :
    Calls Tryd.prog 52 #[.slice A m c0] w fun e w' => e = .returned (.int .i64 (optI (fourL l))) ∧ w' = w := by
  unfold maxLen at hm
  by_cases h2 : m < 2
  · have HR := Lib.hid (show fourL l = none from if_neg (by rw [hl.len]; omega))
    have h4' : (m : Int) < 2 := by omega
    go_enter Tryd.func52, Tryd.ntmps52
    go_wp2
    go_ret
    exact ⟨by rw [HR.out]; rfl, rfl⟩
  · have h4' : ¬ (m : Int) < 2 := by omega
    have hcut := hex_any _ (m - 2) (c0 - 2) B (l.drop 2) w (hl.cut (k := 2) (by omega) hmc) (by unfold maxLen; omega) (by omega)
    obtain ⟨b, off, rfl, hbB, hc0⟩ := hl.cell (k := 0) (by omega)
    obtain ⟨b', off', e, _, hc1⟩ := hl.cell (k := 1) (by omega)
    injection e with e
    injection e with e1 e2
    subst e1; subst e2
    rw [show at8 l 0 = ((at0 l 0 : Nat) : Int) from rfl, Nat.add_zero] at hc0
    rw [show at8 l 1 = ((at0 l 1 : Nat) : Int) from rfl] at hc1
    have hx0 := at0_lt l 0
    have hx1 := at0_lt l 1
    have hlen := Lib.hid hl.len
    by_cases hc : at0 l 0 = 92 ∧ at0 l 1 = 117
    · have HR := Lib.hid (show fourL l = hexL (l.drop 2) from if_pos ⟨by rw [hlen.out]; omega, hc⟩)
      rw [hc.1] at hc0
      rw [hc.2] at hc1
      clear hc hl hbB hx0 hx1
      rw [Option.map_some, addr_add] at hcut
      have h5 : ¬ (m : Int) = 2 → True := fun _ => trivial
      have hk : ¬ c0 = 2 → True := fun _ => trivial
      clear h5 hk
      have hk3 : (m : Int) ≤ c0 := by omega
      by_cases hk : c0 = 2
      · subst hk
        obtain rfl : m = 2 := by omega
        rw [if_pos rfl] at hcut
        clear hk3 h4' h2 hmc hm
        go_enter Tryd.func52, Tryd.ntmps52
        go_wp2_with fail
        refine hcut.mono ?_
        rintro e w1 ⟨rfl, rfl⟩
        go_wp2
        go_ret
        exact ⟨by rw [HR.out]; rfl, rfl⟩
      · rw [if_neg hk] at hcut
        have hk' : ¬ (c0 : Int) = 2 := by omega
        have hk2 : (2 : Int) ≤ c0 := by omega
        go_enter Tryd.func52, Tryd.ntmps52
        go_wp2_with fail
        refine hcut.mono ?_
        rintro e w1 ⟨rfl, rfl⟩
        go_wp2
        go_ret
        exact ⟨by rw [HR.out]; rfl, rfl⟩
    · have HR := Lib.hid (show fourL l = none from if_neg fun h => hc h.2)
      clear hl hbB hcut
      generalize at0 l 0 = x at *
      generalize at0 l 1 = y at *
      by_cases hx : x = 92
      · subst hx
        have hy : ((y : Int) == 117) = false := by rw [beq_eq_false_iff_ne]; omega
        clear hc
        go_enter Tryd.func52, Tryd.ntmps52
        go_wp2
        go_ret
        exact ⟨by rw [HR.out]; rfl, rfl⟩
      · have hy : ((x : Int) == 92) = false := by rw [beq_eq_false_iff_ne]; omega
        clear hc hx
        go_enter Tryd.func52, Tryd.ntmps52
        go_wp2
        go_ret
        exact ⟨by rw [HR.out]; rfl, rfl⟩
/-- The error of a place. -/
def faultN (l : List UInt8) (p : Nat) : Int := if l.length ≤ p then 6 else if 128 ≤ at0 l p then 110 else 7
set_option maxRecDepth 20000 in
set_option maxHeartbeats 1000000 in
theorem fault_any (A : Option Addr) (m c0 B p : Nat) (l : List UInt8) (w : World) (hl : Bytes w B A m l) (hp : p ≤ maxLen) :
    Calls Tryd.prog 33 #[.slice A m c0, .int .i64 p] w fun e w' => e = .returned (.int .i64 (faultN l p)) ∧ w' = w := by
  unfold maxLen at hp
  have hp0 : (0 : Int) ≤ p := by omega
  by_cases h : m ≤ p
  · have HR := Lib.hid (show faultN l p = 6 from if_pos (by rw [hl.len]; exact h))
    have h' : (m : Int) ≤ p := by omega
    go_enter Tryd.func33, Tryd.ntmps33
    go_wp2
    go_ret
    exact ⟨by rw [HR.out]; rfl, rfl⟩
  · have hn : ¬ l.length ≤ p := by rw [hl.len]; exact h
    have h' : ¬ (m : Int) ≤ p := by omega
    have h3 : (p : Int) < m := by omega
    obtain ⟨b, off, rfl, hbB, hc0⟩ := hl.cell (k := p) (by omega)
    rw [show at8 l p = ((at0 l p : Nat) : Int) from rfl] at hc0
    have hx0 := at0_lt l p
    by_cases hc : 128 ≤ at0 l p
    · have HR := Lib.hid (show faultN l p = 110 by unfold faultN; rw [if_neg hn, if_pos hc])
      clear hl hn
      generalize at0 l p = x at *
      have hc' : (128 : Int) ≤ x := by omega
      go_enter Tryd.func33, Tryd.ntmps33
      go_wp2
      go_ret
      exact ⟨by rw [HR.out]; rfl, rfl⟩
    · have HR := Lib.hid (show faultN l p = 7 by unfold faultN; rw [if_neg hn, if_neg hc])
      clear hl hn
      generalize at0 l p = x at *
      have hc' : ¬ (128 : Int) ≤ x := by omega
      go_enter Tryd.func33, Tryd.ntmps33
      go_wp2
      go_ret
      exact ⟨by rw [HR.out]; rfl, rfl⟩
end Go.Proofs.YtgnialemiefeeaaDoor
