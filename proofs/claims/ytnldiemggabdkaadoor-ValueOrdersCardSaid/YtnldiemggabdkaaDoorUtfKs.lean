/-
  Layer 1: decode, of a string.
-/
import Derived.Test.YtnldiemggabdkaaDoorUtfG
import Derived.Test.YtnldiemggabdkaaDoorUtfC
import Derived.Test.YtnldiemggabdkaaDoorStr
namespace Go.Proofs.YtnldiemggabdkaaDoor
open Go.RowKit

theorem str_at (s : ByteArray) (k : Nat) (h : k < s.size) : ((s[k]'h).toNat : Int) = at8 s.data.toList k := by
  unfold at8
  rw [List.getD_eq_getElem?_getD, List.getElem?_eq_getElem (by simpa using h)]
  rfl
theorem drop_getD (l : List UInt8) (p q : Nat) : (l.drop p).getD q 0 = l.getD (p + q) 0 := by
  rw [List.getD_eq_getElem?_getD, List.getD_eq_getElem?_getD, List.getElem?_drop]
theorem firstK_le (P : Nat → Bool) : firstK P ≤ 4 := by
  unfold firstK
  split
  · omega
  split
  · omega
  split
  · omega
  split <;> omega
theorem first_lead (n : Int) (k : Nat) (h0 : 0 ≤ n) (h1 : n ≤ 255) (h : sIdx n = k) (hk : k < 4) : (fdN k : Int) ≤ n ∧ n - (fdN k : Int) < 128 := by
  obtain ⟨a, rfl⟩ : ∃ a : Nat, n = (a : Int) := ⟨n.toNat, by omega⟩
  have hs := sIdx_cases a (by omega)
  rw [h] at hs
  rcases (show k = 0 ∨ k = 1 ∨ k = 2 ∨ k = 3 by omega) with rfl | rfl | rfl | rfl <;> simp only [fdN] <;> omega
/-- What decode tells. -/
def decR (l : List UInt8) (p : Nat) : Value :=
  if (decL (l.drop p)).2 = 0 then .tuple #[.int .i64 0, .int .i64 0, .int .i64 110]
  else .tuple #[.int .i64 ((decL (l.drop p)).1 : Int), .int .i64 ((p + (decL (l.drop p)).2 : Nat) : Int), .int .i64 0]
theorem decR_no {l : List UInt8} {p : Nat} (h : decL (l.drop p) = (0, 0)) : decR l p = .tuple #[.int .i64 0, .int .i64 0, .int .i64 110] := by unfold decR; rw [h]; rfl
theorem decR_yes {l : List UInt8} {p c n : Nat} (h : decL (l.drop p) = (c, n)) (hn : n ≠ 0) : decR l p = .tuple #[.int .i64 (c : Int), .int .i64 ((p + n : Nat) : Int), .int .i64 0] := by unfold decR; rw [h, if_neg hn]
theorem find_first (n : Int) (w : World) (htab : UTab w) (h0 : 0 ≤ n) (h1 : n ≤ 300) :
    Calls Tryd.prog 85 #[.func (.func 86) #[] #[], .int .i64 n] w fun e w' => e = .returned (.agg #[.int .i64 (fl (sIdx n)), .int .i64 (fh (sIdx n)), .int .i64 (fs (sIdx n)), .int .i64 (fd (sIdx n))]) ∧ Below w.heap.size w w' :=
  find_starts (fun k => startsB (fs k) (fd k) n) n w htab fun k hk W =>
    starts_any _ _ _ _ _ W (by rcases (show k = 0 ∨ k = 1 ∨ k = 2 ∨ k = 3 by omega) with rfl | rfl | rfl | rfl <;> simp [fs]) (by rcases (show k = 0 ∨ k = 1 ∨ k = 2 ∨ k = 3 by omega) with rfl | rfl | rfl | rfl <;> simp [fd]) (by rcases (show k = 0 ∨ k = 1 ∨ k = 2 ∨ k = 3 by omega) with rfl | rfl | rfl | rfl <;> simp [fd]) h1 h0

set_option maxRecDepth 100000 in
set_option maxHeartbeats 2000000 in
theorem decode_string (s : ByteArray) (p : Nat) (w : World) (htab : UTab w) (hm : s.size ≤ maxLen) (hp : p < s.size) :
    Calls Tryd.prog 70 #[.string s, .int .i64 p] w fun e w' => e = .returned (decR s.data.toList p) ∧ Below w.heap.size w w' := by
  have hlen := Lib.hid (show s.data.toList.length = s.size by simp)
  unfold maxLen at hm
  obtain ⟨l, Hl⟩ : ∃ l, Hid (s.data.toList = l) := ⟨_, Lib.hid rfl⟩
  have hs0 : ((s[p]'hp).toNat : Int) = at8 l p := by rw [← Hl.out]; exact str_at s p hp
  have hsj : ∀ (j : Nat) (h : p + j < s.size), ((s[p + j]'h).toNat : Int) = at8 l (p + j) := fun j h => by rw [← Hl.out]; exact str_at s (p + j) h
  rw [Hl.out] at hlen
  have HR := Lib.hid (show decR s.data.toList p = decR l p by rw [Hl.out])
  rw [HR.out]
  clear HR
  clear Hl
  have hp0 : (0 : Int) ≤ (p : Int) := by omega
  have hp1 : (p : Int) < (s.size : Int) := by omega
  have g0 := at8_lo l p
  have g1 := at8_hi l p
  have hfirst : at8 l p = (((l.drop p).getD 0 0).toNat : Int) := by unfold at8; rw [drop_getD]; rfl
  obtain ⟨k, Hk⟩ : ∃ k, Hid (sIdx (at8 l p) = k) := ⟨_, Lib.hid rfl⟩
  have hfind := find_first (at8 l p) w htab g0 (by omega)
  rw [Hk.out] at hfind
  have hk4 : k ≤ 4 := by rw [← Hk.out]; exact firstK_le _
  rcases (show k = 4 ∨ k < 4 by omega) with rfl | hlt
  · have HR := Lib.hid (show decR l p = .tuple #[.int .i64 0, .int .i64 0, .int .i64 110] from decR_no (dec_none _ (by rw [← hfirst]; exact Hk.out)))
    clear Hk hfirst
    simp only [fl, fh, fs, fd] at hfind
    go_enter Tryd.func70, Tryd.ntmps70
    go_wp2_with fail
    refine hfind.mono ?_
    rintro e w1 ⟨rfl, hb1⟩
    go_wp2
    go_ret3
    exact ⟨by rw [HR.out]; rfl, bel_alloc hb1 _⟩
  · have hfs := fs_of k hlt
    rw [hfs] at hfind
    have hdd := fdN_fd k
    rw [hdd] at hfind
    have hdl : fdN k ≤ 240 := by rcases (show k = 0 ∨ k = 1 ∨ k = 2 ∨ k = 3 by omega) with rfl | rfl | rfl | rfl <;> decide
    have hd2 : (fdN k : Int) ≤ at8 l p ∧ at8 l p - (fdN k : Int) < 128 := first_lead (at8 l p) k g0 g1 Hk.out hlt
    obtain ⟨hd2, hd3⟩ := hd2
    have Hp1 := Lib.hid (show IntKind.i64.wrap (at8 l p - (fdN k : Int)) = (part (l.drop p) (fdN k) 1 : Nat) by rw [IntWalk.i64_in _ (by omega)]; show _ = (((((l.drop p).getD 0 0).toNat) - fdN k : Nat) : Int); omega)
    have Hlt := Lib.hid (part_lt (l.drop p) (fdN k) (fun q => UInt8.toNat_lt _) (by omega))
    have Hshort := Lib.hid (fun h : l.length - p < k + 1 => decR_no (dec_short (l.drop p) k (by rw [← hfirst]; exact Hk.out) (by rw [List.length_drop, hlen.out]; omega) hlt (by rw [List.length_drop]; omega)))
    have Hbad := Lib.hid (fun (h : k + 1 ≤ l.length - p) (q : Nat) (h1 : 1 ≤ q) (h2 : q ≤ k) (hb : cont (l.getD (p + q) 0) = false) => decR_no (p := p) (dec_bad (l.drop p) k (by rw [← hfirst]; exact Hk.out) hlt (by rw [List.length_drop]; omega) q h1 h2 (by rw [drop_getD]; exact hb)))
    have Hall := Lib.hid (fun (h : k + 1 ≤ l.length - p) (hc : ∀ q, 1 ≤ q → q < k + 1 → cont (l.getD (p + q) 0) = true) => dec_all (l.drop p) k (by rw [← hfirst]; exact Hk.out) hlt (by rw [List.length_drop]; omega) (fun q h1 h2 => by rw [drop_getD]; exact hc q h1 h2))
    clear hfirst Hk hfs hdd
    generalize fl k = x0 at *
    generalize fh k = x1 at *
    generalize fdN k = d at *
    have hk0 : (((k + 1 : Nat) : Int) == 0) = false := by rw [beq_eq_false_iff_ne]; omega
    obtain ⟨s1, hs1⟩ : ∃ s1 : Nat, s1 = k + 1 := ⟨_, rfl⟩
    rw [← hs1] at hfind hk0 Hall Hshort Hbad
    have hs4 : s1 ≤ 4 := by omega
    have hs0' : 1 ≤ s1 := by omega
    have Hs1 := Lib.hid hs1
    clear hs1
    by_cases hlong : s1 ≤ s.size - p
    · have hlong' : ¬ ((s1 : Int) > (s.size : Int) - (p : Int)) := by omega
      have hlong2 : (s1 : Int) ≤ (s.size : Int) - (p : Int) := by omega
      go_enter Tryd.func70, Tryd.ntmps70
      go_wp2_with fail
      refine hfind.mono ?_
      rintro e w1 ⟨rfl, hb1⟩
      go_wp2
      have hp1' := Hp1.out
      go_quiet (fail)
      clear hp1'
      go_wp2
      have hb2 := bel_alloc hb1 (.cells #[.int .i64 x0, .int .i64 x1, .int .i64 s1, .int .i64 d] 111)
      have bx := Box.new w1 #[.int .i64 x0, .int .i64 x1, .int .i64 s1, .int .i64 d] 111
      go_loopw [8, 9] (fun c i wr => ∃ j : Nat, 1 ≤ j ∧ j ≤ s1 ∧ i = .int .i64 j ∧ c = .int .i64 (part (l.drop p) d j : Nat) ∧ (∀ q, 1 ≤ q → q < j → cont (l.getD (p + q) 0) = true) ∧ ∃ mm, wr = (w1.alloc (.cells #[.int .i64 x0, .int .i64 x1, .int .i64 s1, .int .i64 d] 111)).drewN mm) (fun c i _ => 8 - (intOf i).toNat)
      case atStart => exact ⟨1, by omega, hs0', rfl, rfl, fun q h1 h2 => by omega, _, rfl⟩
      case round =>
        obtain ⟨j, hj1, hjs, rfl, rfl, hq, mm, rfl⟩ := hrel
        have bx2 := (bx.drewN mm 2 _ rfl).1
        have hpj0 : (0 : Int) ≤ (p : Int) + (j : Int) := by omega
        by_cases hjl : j < s1
        · have hpj : p + j < s.size := by omega
          have hpj1 : (p : Int) + (j : Int) < (s.size : Int) := by omega
          have hcj := hsj j hpj
          have hbn := and192 (l.getD (p + j) 0)
          rw [show ((l.getD (p + j) 0).toNat : Int) = at8 l (p + j) from rfl] at hbn
          have hbit0 := at8_lo l (p + j)
          have hbit1 := at8_hi l (p + j)
          cases hcont : cont (l.getD (p + j) 0)
          · rw [hcont] at hbn
            simp only [Bool.not_false] at hbn
            have HR := Lib.hid (Hbad.out (by rw [hlen.out]; exact hlong) j hj1 (by have := Hs1.out; omega) hcont)
            clear hq hcont
            go_wp2
            go_ret3
            exact ⟨by rw [HR.out]; rfl, below_drewN hb2 _⟩
          · rw [hcont] at hbn
            simp only [Bool.not_true] at hbn
            have hc' := (cont_iff _).1 hcont
            have hst := step6 (part (l.drop p) d j) (l.getD (p + j) 0).toNat (Hlt.out j (by omega)) hc'.1 hc'.2
            rw [show ((l.getD (p + j) 0).toNat : Int) = at8 l (p + j) from rfl] at hst
            have hpl := Hlt.out j (by omega)
            have HP := Lib.hid (show part (l.drop p) d (j + 1) = part (l.drop p) d j * 64 + ((l.getD (p + j) 0).toNat - 128) by rw [part_succ _ _ _ hj1, drop_getD])
            have HQ := Lib.hid (show ∀ q, 1 ≤ q → q < j + 1 → cont (l.getD (p + q) 0) = true from fun q h1 h2 => if e : q = j then e ▸ hcont else hq q h1 (by omega))
            clear hq hcont hc'
            go_wp2
            go_roundw
            case rel => exact ⟨j + 1, by omega, by omega, by go_num, by rw [HP.out]; simp, HQ.out, _, rfl⟩
            case measure => simp [intOf]; omega
        · have hjs' : j = s1 := by omega
          subst hjs'
          have HA := Lib.hid (Hall.out (by rw [hlen.out]; exact hlong) hq)
          have b0 := (bx.drewN mm 0 _ rfl).1
          have b1 := (bx.drewN mm 1 _ rfl).1
          have b3 := (bx.drewN mm 3 _ rfl).1
          have hb3 := below_drewN hb2 mm
          generalize hP : part (l.drop p) d j = P at *
          have Hs := Lib.hid hs0'
          clear hq hP hjl
          cases hh : holdsB x0 x1 (P : Int)
          · have HR := Lib.hid (decR_no (l := l) (p := p) (by rw [HA.out, hh]; rfl))
            have hno := fun W => holds_no x0 x1 j d P W hh
            clear hh
            go_wp2_with fail
            refine (hno _).mono ?_
            rintro e w2 ⟨rfl, hb4⟩
            go_wp2
            go_ret3
            exact ⟨by rw [HR.out]; rfl, bel_next hb3 hb4⟩
          · have HR := Lib.hid (decR_yes (l := l) (p := p) (c := P) (n := j) (by rw [HA.out, hh]; rfl) (by have := Hs.out; omega))
            have hyes := fun W => holds_yes x0 x1 j d P W hh
            clear hh
            go_wp2_with fail
            refine (hyes _).mono ?_
            rintro e w2 ⟨rfl, hb4⟩
            have b2' := kept_later hb4 bx2
            have hw : IntKind.i64.wrap ((p : Int) + (j : Int)) = (p : Int) + (j : Int) := IntWalk.i64_in _ (by omega)
            go_wp2
            go_quiet (fail)
            go_wp2
            go_ret3
            exact ⟨by rw [HR.out]; rfl, below_drewN (bel_next hb3 hb4) _⟩
    · have HR := Lib.hid (Hshort.out (by rw [hlen.out]; omega))
      have hlong' : (s.size : Int) - (p : Int) < (s1 : Int) := by omega
      go_enter Tryd.func70, Tryd.ntmps70
      go_wp2_with fail
      refine hfind.mono ?_
      rintro e w1 ⟨rfl, hb1⟩
      go_wp2
      go_ret3
      exact ⟨by rw [HR.out]; rfl, bel_alloc hb1 _⟩
end Go.Proofs.YtnldiemggabdkaaDoor
