import Derived.Test.YtnfohlabmidliaaGae
import Derived.Test.YtnfohlabmidliaaGaf
import Derived.Great.BuildSlice
import Derived.Handy
/-
  laid, short.
-/
namespace Go.Proofs.Ytnfohlabmidliaa
open Go.RowKit
set_option linter.unusedVariables false

namespace Nod
/-- A number in so many bytes, the highest first. -/
def hiL : Nat → Nat → List UInt8
  | _, 0 => []
  | x, n + 1 => hiL (x / 256) n ++ [UInt8.ofNat x]
theorem hi_len : ∀ (n x : Nat), (hiL x n).length = n
  | 0, x => rfl
  | n + 1, x => by rw [hiL, List.length_append, hi_len n]; rfl
/-- The number that bytes encode. -/
def rdN (l : List UInt8) : Nat := l.foldl (fun n b => n * 256 + b.toNat) 0
theorem rd_nil : rdN [] = 0 := rfl
theorem rd_snoc (l : List UInt8) (b : UInt8) : rdN (l ++ [b]) = rdN l * 256 + b.toNat := by
  unfold rdN
  rw [List.foldl_append]
  rfl
theorem rd_hi : ∀ (n x : Nat), rdN (hiL x n) = x % 256 ^ n
  | 0, x => by rw [hiL, rd_nil, Nat.pow_zero, Nat.mod_one]
  | n + 1, x => by
    rw [hiL, rd_snoc, rd_hi n, UInt8.toNat_ofNat']
    have h := Nat.mod_mul_right_div_self x 256 (256 ^ n)
    have h2 := Nat.div_add_mod (x % (256 * 256 ^ n)) 256
    have h3 : x % (256 * 256 ^ n) % 256 = x % 256 := Nat.mod_mul_right_mod x 256 (256 ^ n)
    rw [h, h3] at h2
    rw [show 256 ^ (n + 1) = 256 * 256 ^ n by rw [Nat.pow_succ, Nat.mul_comm], ← h2]
    omega
theorem hi_back : ∀ (n : Nat) (l : List UInt8), l.length = n → hiL (rdN l) n = l
  | 0, l, h => by rw [List.eq_nil_of_length_eq_zero h]; rfl
  | n + 1, l, h => by
    obtain ⟨m, b, rfl⟩ : ∃ m b, l = m ++ [b] := by
      rcases List.eq_nil_or_concat l with h' | ⟨m, b, h'⟩
      · rw [h'] at h; simp at h
      · exact ⟨m, b, by rw [h', List.concat_eq_append]⟩
    have hm : m.length = n := by simpa using h
    have hb := b.toNat_lt
    rw [rd_snoc, hiL, show (rdN m * 256 + b.toNat) / 256 = rdN m by omega, hi_back n m hm]
    congr 2
    apply UInt8.toNat_inj.1
    rw [UInt8.toNat_ofNat']
    omega
theorem rd_lt : ∀ (n : Nat) (l : List UInt8), l.length = n → rdN l < 256 ^ n
  | 0, l, h => by rw [List.eq_nil_of_length_eq_zero h]; decide
  | n + 1, l, h => by
    obtain ⟨m, b, rfl⟩ : ∃ m b, l = m ++ [b] := by
      rcases List.eq_nil_or_concat l with h' | ⟨m, b, h'⟩
      · rw [h'] at h; simp at h
      · exact ⟨m, b, by rw [h', List.concat_eq_append]⟩
    have hm : m.length = n := by simpa using h
    have hb := b.toNat_lt
    have ih := rd_lt n m hm
    rw [rd_snoc, Nat.pow_succ]
    omega
end Nod
/-- A number, and in how many bytes. -/
def nnC (p : Nat × Nat) : List Value := [.int .u64 (p.1 : Int), .int .i64 (p.2 : Nat)]
def nnL (p : Nat × Nat) : List UInt8 := Nod.hiL p.1 p.2
theorem nu8_nat (x : Nat) : bv (UInt8.ofNat x) = .int .u8 ((x : Int) % 256) := by
  unfold bv
  rw [UInt8.toNat_ofNat']
  simp
/-- What a call hands back that lays bytes behind a row of one's own. -/
def LaysB (base : Nat) (v0 : Value) (l : List UInt8) (W : World) (e : Ending) (w' : World) : Prop :=
  ∃ A n c, e = .returned (.slice A n c) ∧ w'.ownsRow base 5 1 (.slice A n c) n (l.map bv) ∧ Gr v0 W (.slice A n c) w'
set_option maxRecDepth 20000 in
set_option maxHeartbeats 2000000 in
theorem nlaid_any (base : Nat) (A0 : Option Addr) (n0 c0 : Nat) (l0 : List UInt8) (A : Option Addr) (n c : Nat) (ns : List (Nat × Nat)) (w : World) (h0 : w.ownsRow base 5 1 (.slice A0 n0 c0) n0 (l0.map bv)) (hbase : base ≤ w.heap.size) (hg : ∃ g, A = some ⟨g, 0, none⟩ ∧ w.heap[g]? = some (.cells (ns.flatMap nnC).toArray 96 (0, 0))) (hns : ns.length = n) (hs : ∀ p ∈ ns, p.1 < 18446744073709551616 ∧ 1 ≤ p.2 ∧ p.2 ≤ 8) (hn : n ≤ 8) (hn0 : n0 ≤ 100000) :
    Calls Try.prog 59 #[.slice A0 n0 c0, .slice A n c] w (LaysB base (.slice A0 n0 c0) (l0 ++ ns.flatMap nnL) w) := by
  obtain ⟨i0, hi, hz0, hz1, hz2⟩ := u8_info
  obtain ⟨gn, rfl, hgn⟩ := hg
  have HS := Lib.hid hs
  have HNL := Lib.hid hns
  have HO0 := Lib.hid h0
  have HGN := Lib.hid hgn
  clear hs hns h0 hgn
  go_enter Try.func59, Try.ntmps59
  go_wp2
  go_loopw [0, 10] (fun v x wr => ∃ (k : Nat) (A1 : Option Addr) (n1 c1 : Nat), k ≤ n ∧ x = .int .i64 k ∧ v = .slice A1 n1 c1 ∧ n1 ≤ n0 + 8 * k ∧ Hid (wr.ownsRow base 5 1 (.slice A1 n1 c1) n1 ((l0 ++ (ns.take k).flatMap nnL).map bv)) ∧ Hid (Gr (.slice A0 n0 c0) w (.slice A1 n1 c1) wr)) (fun _ x _ => n - (intOf x).toNat)
  case atStart => exact ⟨0, A0, n0, c0, Nat.zero_le _, rfl, rfl, by omega, Lib.hid (by rw [List.take_zero, List.flatMap_nil, List.append_nil]; exact HO0.out), Lib.hid (Gr.refl _ _)⟩
  case round =>
    obtain ⟨k, A1, n1, c1, hk, rfl, rfl, hn1, HO, HG⟩ := hrel
    by_cases hlt : k < n
    · obtain ⟨p, hp⟩ : ∃ p, ns[k]? = some p := ⟨_, List.getElem?_eq_getElem (by rw [HNL.out]; exact hlt)⟩
      obtain ⟨x, s⟩ := p
      have hps := HS.out _ (List.mem_of_getElem? hp)
      have hblk := HG.out.blk HO0.out HGN.out (by decide)
      have d0 : wr.cell? ⟨gn, k * 2, none⟩ = some (.int .u64 (x : Int)) := by
        rw [cell_of_row _ _ _ _ _ _ hblk, List.getElem?_toArray, ← Nat.add_zero (k * 2), flatN_at nnC 2 (fun _ => rfl) ns k _ hp 0 (by omega)]
        rfl
      have d1 : wr.cell? ⟨gn, k * 2 + 1, none⟩ = some (.int .i64 (s : Nat)) := by
        rw [cell_of_row _ _ _ _ _ _ hblk, List.getElem?_toArray, flatN_at nnC 2 (fun _ => rfl) ns k _ hp 1 (by omega)]
        rfl
      have HP := Lib.hid hp
      clear hp hblk
      obtain ⟨hx, hs1, hs8⟩ := hps
      simp only at hx hs1 hs8
      go_wp2
      obtain ⟨g, hg⟩ : ∃ g, wr.heap.size = g := ⟨_, rfl⟩
      have hgw : base ≤ g := by rw [← hg]; exact Nat.le_trans hbase HG.out.size
      have hbk : (wr.alloc (.cells #[.int .u64 (x : Int), .int .i64 (s : Nat)] 96)).heap[g]? = some (.cells #[.int .u64 (x : Int), .int .i64 (s : Nat)] 96 (0, 0)) := by rw [← hg]; exact heap_alloc_new _ _
      have HGa := Lib.hid (HG.out.alloc (.cells #[.int .u64 (x : Int), .int .i64 (s : Nat)] 96))
      have HOa := Lib.hid (HO.out.alloc (.cells #[.int .u64 (x : Int), .int .i64 (s : Nat)] 96))
      rw [hg]
      generalize wr.alloc (.cells #[.int .u64 (x : Int), .int .i64 (s : Nat)] 96) = wa at *
      clear hg d0 d1 HO HG
      go_loopw [0, 7] (fun v y wi => ∃ (j : Nat) (A2 : Option Addr) (n2 c2 : Nat) (z : Int), j ≤ s ∧ y = .int .i64 z ∧ Hid (z = 8 * ((s : Int) - 1 - (j : Int))) ∧ v = .slice A2 n2 c2 ∧ n2 ≤ n0 + 8 * k + j ∧ Hid (wi.ownsRow base 5 1 (.slice A2 n2 c2) n2 ((l0 ++ (ns.take k).flatMap nnL ++ Nod.hiL (x / 256 ^ (s - j)) j).map bv)) ∧ wi.heap[g]? = some (.cells #[.int .u64 (x : Int), .int .i64 (s : Nat)] 96 (0, 0)) ∧ Hid (Gr (.slice A0 n0 c0) w (.slice A2 n2 c2) wi)) (fun _ y _ => (intOf y + 8).toNat)
      case atStart => exact ⟨0, A1, n1, c1, 8 * ((s : Int) - 1), by omega, rfl, Lib.hid (by omega), rfl, by omega, Lib.hid (by rw [Nod.hiL, List.append_nil]; exact HOa.out), hbk, HGa⟩
      case round =>
        clear hbk HGa HOa
        obtain ⟨j, A2, n2, c2, z, hj, rfl, HZ, rfl, hn2, HO2, hbk2, HG2⟩ := hrel
        by_cases hjs : j < s
        · obtain ⟨sh, rfl, hshl⟩ : ∃ sh : Nat, z = (sh : Int) ∧ sh ≤ 56 := ⟨z.toNat, by have := HZ.out; omega, by have := HZ.out; omega⟩
          have hpw : 2 ^ sh = 256 ^ (s - (j + 1)) := by
            rw [show sh = 8 * (s - (j + 1)) by have := HZ.out; omega, Nat.pow_mul]
          have e1 : wr.cell? ⟨g, 0, none⟩ = some (.int .u64 (x : Int)) := by rw [cell_of_row _ _ _ _ _ _ hbk2]; rfl
          obtain ⟨q, hq⟩ : ∃ q, x / 2 ^ sh = q := ⟨_, rfl⟩
          have hqi : (x : Int) / 2 ^ sh = (q : Int) := by rw [← hq, Int.natCast_ediv]; simp
          have HQ := Lib.hid (show q = x / 256 ^ (s - (j + 1)) by rw [← hq, hpw])
          clear hq hpw
          have hz2' : base ≤ wr.heap.size := Nat.le_trans hbase HG2.out.size
          have hbk2a : (wr.alloc (.cells #[.int .u8 ((q : Int) % 256)] 5)).heap[g]? = some (.cells #[.int .u64 (x : Int), .int .i64 (s : Nat)] 96 (0, 0)) := blk_later hbk2 ((Below.refl _ _).alloc (Nat.le_refl _) _)
          have HO2a := Lib.hid (HO2.out.alloc (.cells #[.int .u8 ((q : Int) % 256)] 5))
          have HG2a := Lib.hid (HG2.out.alloc (.cells #[.int .u8 ((q : Int) % 256)] 5))
          go_wp2_with (at_builtin; refine wpList_appG _ rfl _ _ _ rfl base 5 i0 (.int .u8 0) 1 1 Try.underlying32 hi hz0 hz1 hz2 rfl (by decide) _ _ _ rfl HO2a.out (wr.heap.size + 1) _ 1 1 ([UInt8.ofNat q].map bv) rfl ?c1 (bv_one _) ?c2 ?c3 ?c4 ?_)
          case c1 => exact bytes_new wr [UInt8.ofNat q] _ _ _ (by simp [nu8_nat])
          case c2 => unfold maxLen; omega
          case c3 => omega
          case c4 => simp; omega
          · intro A3 c3 w3 hown3 hgr hb3 hor
            have hbk3 : w3.heap[g]? = some (.cells #[.int .u64 (x : Int), .int .i64 (s : Nat)] 96 (0, 0)) := blk_other hbk2a hgr (own_blk_ne HO2a.out hbk2a (by decide))
            have HG3 := Lib.hid (HG2a.out.app (v' := .slice A3 (n2 + 1) c3) hgr (by rw [World.size_alloc]; exact hor))
            have HO3 := Lib.hid hown3
            clear hown3 hgr hb3 hor hbk2 HG2 HG2a HO2 HO2a hbk2a e1 hqi
            go_wp2
            go_roundw
            case rel =>
              refine ⟨j + 1, A3, n2 + 1, c3, _, by omega, rfl, Lib.hid (by have := HZ.out; omega), rfl, by omega, Lib.hid ?_, hbk3, HG3⟩
              have h3 := HO3.out
              have hq1 : x / 256 ^ (s - j) = q / 256 := by
                rw [HQ.out, Nat.div_div_eq_div_mul, show s - j = (s - (j + 1)) + 1 by omega, Nat.pow_succ]
              rw [Nod.hiL, ← HQ.out, ← hq1]
              simp only [List.map_append, List.append_assoc, List.map_cons, List.map_nil] at h3 ⊢
              exact h3
            case measure => simp [intOf]; have := HZ.out; omega
        · have hjs' : j = s := by omega
          have HF := Lib.hid (show l0 ++ (ns.take k).flatMap nnL ++ Nod.hiL (x / 256 ^ (s - j)) j = l0 ++ (ns.take (k + 1)).flatMap nnL by
            rw [flatN_take nnL HP.out, hjs', Nat.sub_self, Nat.pow_zero, Nat.div_one, List.append_assoc]; rfl)
          have hz : ¬ (0 ≤ z) := by have := HZ.out; omega
          have hn3 : n2 ≤ n0 + 8 * (k + 1) := by omega
          clear hjs' hjs hbk2
          go_wp2
          go_roundw
          case rel => exact ⟨k + 1, A2, n2, c2, by omega, by go_num, rfl, hn3, Lib.hid (by rw [← HF.out]; exact HO2.out), HG2⟩
          case measure => simp [intOf]; omega
    · have hk' : k = n := by omega
      have HF := Lib.hid (show l0 ++ (ns.take k).flatMap nnL = l0 ++ ns.flatMap nnL by rw [List.take_of_length_le (by rw [HNL.out]; omega)])
      clear hk'
      go_wp2
      go_ret
      refine ⟨A1, n1, c1, rfl, ?_, HG.out⟩
      rw [← HF.out]
      exact HO.out
end Go.Proofs.Ytnfohlabmidliaa
/-
  short.
-/
namespace Go.Proofs.Ytnfohlabmidliaa
open Go.RowKit
set_option linter.unusedVariables false

set_option maxRecDepth 20000 in
set_option maxHeartbeats 2000000 in
theorem short_any (base : Nat) (A0 : Option Addr) (n0 c0 : Nat) (l0 : List UInt8) (p : PcT) (B : Nat) (w : World) (h0 : w.ownsRow base 5 1 (.slice A0 n0 c0) n0 (l0.map bv)) (hbase : base ≤ w.heap.size) (hp : p.Ok w B) (hB : B ≤ base) (hpn : p.n ≤ 255) (hn0 : n0 ≤ 100000) :
    Calls Try.prog 58 #[.slice A0 n0 c0, .slice p.A p.n p.c] w (LaysB base (.slice A0 n0 c0) (l0 ++ (UInt8.ofNat p.n :: p.l)) w) := by
  obtain ⟨i0, hi, hz0, hz1, hz2⟩ := u8_info
  have hw8 : IntKind.u8.wrap (p.n : Int) = (p.n : Int) := by rw [IntKind.wrap_u8]; omega
  have hm8 : (p.n : Int) % 256 = (p.n : Int) := by omega
  have hOa := h0.alloc (.cells #[.int .u8 (p.n : Int)] 5)
  have HG := Lib.hid ((Gr.refl (.slice A0 n0 c0) w).alloc (.cells #[.int .u8 (p.n : Int)] 5))
  have hs6 := bytes_new w [UInt8.ofNat p.n] #[.int .u8 (p.n : Int)] 5 (0, 0) (by simp [nu8_nat, hm8])
  have hb6 := bel_alloc (Below.refl w.heap.size w) (.cells #[.int .u8 (p.n : Int)] 5)
  have hz6 := Nat.le_trans hbase hb6.size
  have HP := Lib.hid (hp.later (hb6.mono (Nat.le_trans hB hbase)))
  have hsz : (w.alloc (.cells #[.int .u8 (p.n : Int)] 5)).heap.size = w.heap.size + 1 := World.size_alloc _ _
  have h1 : n0 + 1 ≤ maxLen := by unfold maxLen; omega
  have h2 : (n0 + 1) * 1 ≤ 140737488355328 := by omega
  have h3 : n0 + 1 + p.n ≤ maxLen := by unfold maxLen; omega
  have h4 : (n0 + 1 + p.n) * 1 ≤ 140737488355328 := by omega
  obtain ⟨pA, pn, pc, pl⟩ := p
  simp only at *
  clear h0 hb6 hp hm8
  go_enter Try.func58, Try.ntmps58
  go_wp2_with (first
    | (at_builtin; (refine wpList_appG _ rfl _ _ _ rfl base 5 i0 (.int .u8 0) 1 1 Try.underlying32 hi hz0 hz1 hz2 rfl (by decide) _ _ _ rfl hOa (w.heap.size + 1) _ 1 1 ([UInt8.ofNat pn].map bv) rfl hs6 (bv_one _) h1 h2 hz6 ?_); intro A3 c3 w3 hown3 hgr3 hb3 hor3; have hp3 := HP.out.here.below (hb3.mono hB); have hz3 := Nat.le_trans hz6 hb3.size; have HG3 := Lib.hid (HG.out.app (v' := .slice A3 (n0 + 1) c3) hgr3 hor3))
    | (at_builtin; (refine wpList_appG _ rfl _ _ _ rfl base 5 i0 (.int .u8 0) 1 1 Try.underlying32 hi hz0 hz1 hz2 rfl (by decide) _ _ _ rfl hown3 B _ pn pc (pl.map bv) rfl hp3 (bv_one _) h3 h4 hz3 ?_); intro A4 c4 w4 hown4 hgr4 hb4 hor4))
  go_ret
  refine ⟨A4, n0 + 1 + pn, c4, rfl, ?_, HG3.out.app (v' := .slice A4 (n0 + 1 + pn) c4) hgr4 hor4⟩
  rw [List.append_cons, List.map_append, List.map_append]
  exact hown4
end Go.Proofs.Ytnfohlabmidliaa
/-
  Steps of a region that draws, more of them: a row made of values, an append onto a row of one's own beside another such row of the same type. No program in sight.
-/
namespace Go.Proofs.Ytnfohlabmidliaa
open Go.RowKit
set_option linter.unusedVariables false

/-- Two rows of one's own are apart. -/
def ApartV (v u : Value) : Prop := u.ownBlock = none ∨ u.ownBlock ≠ v.ownBlock
theorem shows_made (W : World) (cs : Array Value) (t : TypeId) (g n size : Nat) (hg : W.heap.size = g) (hl : cs.toList.length = n * size) : Shows (W.alloc (.cells cs t)) (g + 1) size (some ⟨g, 0, none⟩) n cs.toList := by
  subst hg
  refine ⟨hl, fun _ => ⟨W.heap.size, 0, rfl, by omega, fun j u hu => ?_⟩⟩
  rw [Nat.zero_add]
  refine (World.cell?_alloc_new W _ t j).trans ?_
  simpa using hu
section
variable {P : Program} {w w' : World} {o : Oper} {a : Act} {K : Act → World → Prop} {Q : Exit → Act → World → Prop}
/-- '[]T{..}'. -/
theorem step_rows (t e : TypeId) (k : Nat) (xs : Array (Nat × Operand)) (ho : o.op = .buildSlice t k xs) (size : Nat) (i : TypeInfo) (z : Value) (ht : P.underlying t = some (.slice e)) (hi : P.info? e = some i) (hz : i.zero = some z) (hsize : i.size = size)
    (cells : Array Value) (hf : Instr.fill (fun q => some (q * size, size)) ((Array.range (k * size)).map (z.cells[· % z.cells.size]!)) (xs.toList.map fun p => (p.1, a.eval p.2)) = some cells) (hcs : cells.toList.length = k * size) (h0 : ¬ k * size = 0) (h24 : ¬ k * size > 2 ^ 24)
    (h : ∀ g w', w.heap.size ≤ g → Shows w' (g + 1) size (some ⟨g, 0, none⟩) k cells.toList → g + 1 ≤ w'.heap.size → Below w.heap.size w w' → K (a.put o.dst (.slice (some ⟨g, 0, none⟩) k k)) w') : o.wp P a w K Q := by
  refine wp_buildSlice t e k xs ho cells i z ht hi hz (by rw [hsize]; exact h24) (by rw [hsize]; exact h0) (by rw [hsize]; simpa using hf) ?_
  exact h w.heap.size (w.alloc (.cells cells e)) (Nat.le_refl _) (shows_made w cells e w.heap.size k size rfl hcs) (by rw [World.size_alloc]; exact Nat.le_refl _) ((Below.refl _ _).alloc (Nat.le_refl _) _)
/-- append onto a row of one's own, beside another one. -/
theorem step_appO (s x : Operand) (t : TypeId) (ho : o.op = .call { callee := .builtin .append, args := #[s, x], argTypes := #[t, t] })
    (base : Nat) (e : TypeId) (i : TypeInfo) (z : Value) (size bytes : Nat) (ht : P.underlying t = some (.slice e)) (hi : P.info? e = some i) (hz : i.zero = some z)
    (hsize : i.size = size) (hby : i.bytes = bytes) (hzs : z.cells.size = size) (hsz : 0 < size)
    (v : Value) (n : Nat) (xs : List Value) (hs : a.eval s = v) (hown : w.ownsRow base e size v n xs)
    (B : Nat) (b : Nat) (m c : Nat) (news : List Value) (hx : a.eval x = .slice (some ⟨b, 0, none⟩) m c) (hr : Shows w B size (some ⟨b, 0, none⟩) m news) (h1 : ∀ u ∈ news, u.oneCell' = true)
    (h63 : n + m ≤ maxLen) (hbytes : (n + m) * bytes ≤ 140737488355328) (hbase : base ≤ w.heap.size)
    (h : ∀ A' c' w', w'.ownsRow base e size (.slice A' (n + m) c') (n + m) (xs ++ news) → w.grownBy w' v.ownBlock → Below base w w' → ((Value.slice A' (n + m) c').ownBlock = v.ownBlock ∨ (Value.slice A' (n + m) c').ownBlock = some w.heap.size) → K (a.put o.dst (.slice A' (n + m) c')) w') :
    o.wp P a w K Q := by
  have hcells : ∀ j u, news[j]? = some u → w.cell? ((⟨b, 0, none⟩ : Addr).add j) = some u := by
    intro j u hu
    rcases Nat.eq_zero_or_pos m with h0 | h0
    · subst h0
      have hn : news = [] := List.eq_nil_of_length_eq_zero (by simpa using hr.1)
      subst hn
      simp at hu
    · obtain ⟨b', off, he, _, hc⟩ := hr.2 h0
      injection he with he
      injection he with e1 e2
      subst e1; subst e2
      rw [addr_add]
      exact hc j u hu
  obtain ⟨v', w', hrun, h2, h3, _, h4⟩ := run_append_own_at (P := P) w base t o.type e i z size bytes ht hi hz hsize hby hzs hsz v n xs hown ⟨b, 0, none⟩ m c news hr.1 hcells h1 h63 hbytes hbase
  obtain ⟨A', c', rfl, _, _⟩ := own_form h2
  unfold Oper.wp execOp
  simp only [ho, resolve, invoke, builtin, Sem.run_bind, Sem.run_pure, Result.andThen_ok, List.map_toArray, List.map_cons, List.map_nil, hs, hx, hrun]
  exact h A' c' w' h2 h3 ((Below.refl base w).grown h3 hbase fun k hk => (hown.lt k hk).1) h4
theorem wpList_appO {ops : Array Oper} {rest : List Oper} (hgd : o.guard = none) (s x : Operand) (t : TypeId) (ho : o.op = .call { callee := .builtin .append, args := #[s, x], argTypes := #[t, t] })
    (base : Nat) (e : TypeId) (i : TypeInfo) (z : Value) (size bytes : Nat) (ht : P.underlying t = some (.slice e)) (hi : P.info? e = some i) (hz : i.zero = some z)
    (hsize : i.size = size) (hby : i.bytes = bytes) (hzs : z.cells.size = size) (hsz : 0 < size)
    (v : Value) (n : Nat) (xs : List Value) (hs : a.eval s = v) (hown : w.ownsRow base e size v n xs)
    (B : Nat) (b : Nat) (m c : Nat) (news : List Value) (hx : a.eval x = .slice (some ⟨b, 0, none⟩) m c) (hr : Shows w B size (some ⟨b, 0, none⟩) m news) (h1 : ∀ u ∈ news, u.oneCell' = true)
    (h63 : n + m ≤ maxLen) (hbytes : (n + m) * bytes ≤ 140737488355328) (hbase : base ≤ w.heap.size)
    (h : ∀ A' c' w', w'.ownsRow base e size (.slice A' (n + m) c') (n + m) (xs ++ news) → w.grownBy w' v.ownBlock → Below base w w' → ((Value.slice A' (n + m) c').ownBlock = v.ownBlock ∨ (Value.slice A' (n + m) c').ownBlock = some w.heap.size) → wpList P ops Q rest (a.put o.dst (.slice A' (n + m) c')) w') :
    wpList P ops Q (o :: rest) a w :=
  wpList_plain hgd fun _ hK => step_appO s x t ho base e i z size bytes ht hi hz hsize hby hzs hsz v n xs hs hown B b m c news hx hr h1 h63 hbytes hbase fun A' c' w' h2 h3 h4 h5 => hK _ _ (h A' c' w' h2 h3 h4 h5)
theorem apart_app {base size n : Nat} {e : TypeId} {v v' u : Value} {xs : List Value} (ha : ApartV v u) (hu : w.ownsRow base e size u n xs) (hor : v'.ownBlock = v.ownBlock ∨ v'.ownBlock = some w.heap.size) : ApartV v' u := by
  rcases ha with h | h
  · exact .inl h
  · rcases hor with h2 | h2
    · exact .inr (by rw [h2]; exact h)
    · refine .inr fun e => ?_
      rw [h2] at e
      have := (hu.lt _ e).2
      omega
theorem apart_turn {v u : Value} (h : ApartV v u) : ApartV u v := by
  rcases h with h | h
  · cases hv : v.ownBlock with
    | none => exact .inl hv
    | some k => exact .inr (by rw [hv, h]; simp)
  · exact .inr fun e => h e.symm
end
end Go.Proofs.Ytnfohlabmidliaa
/-
  put.
-/
namespace Go.Proofs.Ytnfohlabmidliaa
open Go.RowKit
set_option linter.unusedVariables false
set_option linter.unusedSimpArgs false

/-- A number as 64 bits without a sign. -/
def u64n (z : Int) : Nat := (z % 18446744073709551616).toNat
theorem u64n_lt (z : Int) : u64n z < 18446744073709551616 := by unfold u64n; omega
theorem u64n_wrap (z : Int) : IntKind.u64.wrap z = (u64n z : Int) := by
  rw [IntKind.wrap_u64]
  unfold u64n
  omega
theorem u64n_nat (x : Nat) (h : x < 18446744073709551616) : u64n (x : Int) = x := by unfold u64n; omega
/-- An entry's bytes. -/
def putIL (k v : List UInt8) (b : Bool) (n : Int) : List UInt8 := (UInt8.ofNat k.length :: k) ++ ((UInt8.ofNat v.length :: v) ++ [((if b then 1 else 0 : Nat), 1), (u64n n, 8)].flatMap nnL)
def putKL (k : List UInt8) (a c i hi lo l m : Int) : List UInt8 := (UInt8.ofNat k.length :: k) ++ ([(u64n a, 4), (u64n c, 4), (u64n i, 4)].flatMap nnL ++ [(u64n hi, 8), (u64n lo, 8), (u64n l, 8), (u64n m, 8)].flatMap nnL)
def ItT.put (x : ItT) : List UInt8 := putIL x.k.l x.v.l x.b x.n
def KiT.put (x : KiT) : List UInt8 := putKL x.k.l x.a x.r.c x.r.i (hiI x.r.v) (loI x.r.v) x.r.l x.r.m
def EnT.put : EnT → List UInt8
  | .it x => x.put
  | .ki x => x.put
section
variable {P : Program} {w w' : World} {o : Oper} {a : Act} {K : Act → World → Prop} {Q : Exit → Act → World → Prop}
/-- '[]T{..}', its block. -/
theorem step_rowsB (t e : TypeId) (k : Nat) (xs : Array (Nat × Operand)) (ho : o.op = .buildSlice t k xs) (size : Nat) (i : TypeInfo) (z : Value) (ht : P.underlying t = some (.slice e)) (hi : P.info? e = some i) (hz : i.zero = some z) (hsize : i.size = size)
    (cells : Array Value) (hf : Instr.fill (fun q => some (q * size, size)) ((Array.range (k * size)).map (z.cells[· % z.cells.size]!)) (xs.toList.map fun p => (p.1, a.eval p.2)) = some cells) (h0 : ¬ k * size = 0) (h24 : ¬ k * size > 2 ^ 24)
    (h : ∀ g w', w.heap.size ≤ g → w'.heap[g]? = some (.cells cells e (0, 0)) → Below w.heap.size w w' → K (a.put o.dst (.slice (some ⟨g, 0, none⟩) k k)) w') : o.wp P a w K Q := by
  refine wp_buildSlice t e k xs ho cells i z ht hi hz (by rw [hsize]; exact h24) (by rw [hsize]; exact h0) (by rw [hsize]; simpa using hf) ?_
  exact h w.heap.size (w.alloc (.cells cells e)) (Nat.le_refl _) (heap_alloc_new _ _) ((Below.refl _ _).alloc (Nat.le_refl _) _)
end
set_option maxRecDepth 20000 in
theorem num_info : ∃ i, Try.prog.info? 96 = some i ∧ i.zero = some (.agg #[.int .u64 0, .int .i64 0]) ∧ i.size = 2 := ⟨Try.t96, by kernel_rfl, by kernel_rfl, by kernel_rfl⟩
theorem put_lens {base n : Nat} {e : TypeId} {A : Option Addr} {c : Nat} {l : List UInt8} {W : World} (h : W.ownsRow base e 1 (.slice A n c) n (l.map bv)) : n = l.length := by have := h.1; simpa using this.symm
theorem nn_len (ns : List (Nat × Nat)) : (ns.flatMap nnL).length = (ns.map (·.2)).sum := by
  induction ns with
  | nil => rfl
  | cons p ns ih => rw [List.flatMap_cons, List.length_append, ih, List.map_cons, List.sum_cons]; unfold nnL; rw [Nod.hi_len]
theorem box_it {W : World} {g : Nat} {kA vA : Option Addr} {kn kc vn vc : Nat} {b : Bool} {n : Int} {t : TypeId} (h : W.heap[g]? = some (.cells #[.slice kA kn kc, .slice vA vn vc, .bool b, .int .i64 n] t (0, 0))) :
    (W.cell? ⟨g, 0, none⟩ = some (.slice kA kn kc) ∧ W.cell? ⟨g, 1, none⟩ = some (.slice vA vn vc)) ∧ W.heap[g]? = some (.cells #[.slice kA kn kc, .slice vA vn vc, .bool b, .int .i64 n] t (0, 0)) :=
  ⟨⟨by rw [cell_of_row _ _ _ _ _ _ h]; rfl, by rw [cell_of_row _ _ _ _ _ _ h]; rfl⟩, h⟩
set_option maxRecDepth 20000 in
set_option maxHeartbeats 2000000 in
theorem putI_any (base : Nat) (A0 : Option Addr) (n0 c0 : Nat) (l0 : List UInt8) (x : ItT) (B : Nat) (w : World) (h0 : w.ownsRow base 5 1 (.slice A0 n0 c0) n0 (l0.map bv)) (hbase : base ≤ w.heap.size) (hx : x.Ok w B) (hB : B ≤ base) (hkn : x.k.n ≤ 255) (hvn : x.v.n ≤ 255) (hn0 : n0 ≤ 90000) :
    Calls Try.prog 43 #[.slice A0 n0 c0, (EnT.it x).val] w (LaysB base (.slice A0 n0 c0) (l0 ++ x.put) w) := by
  have hkl := hx.key.len
  have hvl := hx.val.len
  have HL0 := Lib.hid (put_lens h0)
  simp only [EnT.val]
  unfold ItT.agg
  obtain ⟨⟨kA, kn, kc, kl⟩, ⟨vA, vn, vc, vl⟩, b, n⟩ := x
  simp only at hkl hvl hkn hvn ⊢
  have HX := Lib.hid hx
  obtain ⟨un, hun⟩ : ∃ u, u64n n = u := ⟨_, rfl⟩
  have hwn : IntKind.u64.wrap n = (un : Int) := by rw [u64n_wrap, hun]
  have Hul := Lib.hid (show un < 18446744073709551616 by rw [← hun]; exact u64n_lt n)
  cases b
  · have HPL := Lib.hid (show l0 ++ ItT.put ⟨⟨kA, kn, kc, kl⟩, ⟨vA, vn, vc, vl⟩, false, n⟩ = l0 ++ (UInt8.ofNat kn :: kl) ++ (UInt8.ofNat vn :: vl) ++ [((0 : Nat), 1), (un, 8)].flatMap nnL by
      unfold ItT.put putIL
      simp only
      rw [hkl, hvl, hun, List.append_assoc, List.append_assoc]
      rfl)
    generalize l0 ++ ItT.put ⟨⟨kA, kn, kc, kl⟩, ⟨vA, vn, vc, vl⟩, false, n⟩ = R at *
    clear hun
    have hta : ∀ W, (Instr.typeAssert (.iface 94 (.agg #[.slice kA kn kc, .slice vA vn vc, .bool false, .int .i64 n])) 71 94 true).run Try.prog W = .ok (.tuple #[.agg #[.slice kA kn kc, .slice vA vn vc, .bool false, .int .i64 n], .bool true]) W := fun W => by kernel_rfl
    have hbk := blk_later (heap_alloc_new w (.cells #[.slice kA kn kc, .slice vA vn vc, .bool false, .int .i64 n] 94)) ((Below.refl _ _).alloc (Nat.le_refl _) (.cells #[.int .u64 0, .int .i64 1] 96))
    have hflg := heap_alloc_new (w.alloc (.cells #[.slice kA kn kc, .slice vA vn vc, .bool false, .int .i64 n] 94)) (.cells #[.int .u64 0, .int .i64 1] 96)
    rw [World.size_alloc] at hflg
    have hGd := ((Gr.refl (.slice A0 n0 c0) w).alloc (.cells #[.slice kA kn kc, .slice vA vn vc, .bool false, .int .i64 n] 94)).alloc (.cells #[.int .u64 0, .int .i64 1] 96)
    have hO0d := (h0.alloc (.cells #[.slice kA kn kc, .slice vA vn vc, .bool false, .int .i64 n] 94)).alloc (.cells #[.int .u64 0, .int .i64 1] 96)
    have hb0s := Nat.le_trans hbase hGd.size
    have HKd := Lib.hid (hx.key.later (((bel_alloc (bel_alloc (Below.refl w.heap.size w) (.cells #[.slice kA kn kc, .slice vA vn vc, .bool false, .int .i64 n] 94)) (.cells #[.int .u64 0, .int .i64 1] 96))).mono (Nat.le_trans hB hbase)))
    have HV := Lib.hid (hx.val.later (((bel_alloc (bel_alloc (Below.refl w.heap.size w) (.cells #[.slice kA kn kc, .slice vA vn vc, .bool false, .int .i64 n] 94)) (.cells #[.int .u64 0, .int .i64 1] 96))).mono (Nat.le_trans hB hbase)))
    go_enter Try.func43, Try.ntmps43
    go_upto_region 7 with fail
    generalize (w.alloc (.cells #[.slice kA kn kc, .slice vA vn vc, .bool false, .int .i64 n] 94)).alloc (.cells #[.int .u64 0, .int .i64 1] 96) = W1 at *
    have hO0d := hO0d.drew
    have hGd := hGd.drew
    have hbk : W1.drew.heap[w.heap.size]? = some (.cells #[.slice kA kn kc, .slice vA vn vc, .bool false, .int .i64 n] 94 (0, 0)) := hbk
    have hflg : W1.drew.heap[w.heap.size + 1]? = some (.cells #[.int .u64 0, .int .i64 1] 96 (0, 0)) := hflg
    have hb0s : base ≤ W1.drew.heap.size := hb0s
    have HV := Lib.hid (HV.out.later (below_drewN (Below.refl _ _) 1))
    have HcA := Lib.hid (fun (W : World) (_ : W.heap[w.heap.size]? = some (.cells #[.slice kA kn kc, .slice vA vn vc, .bool false, .int .i64 n] 94 (0, 0))) => short_any base A0 n0 c0 l0 ⟨kA, kn, kc, kl⟩ B W1.drew hO0d hb0s (HKd.out.later (below_drewN (Below.refl _ _) 1)) hB hkn (by omega))
    clear hta
    refine wp_region_held_drew (S := fun W => (W.cell? ⟨w.heap.size, 0, none⟩ = some (.slice kA kn kc) ∧ W.cell? ⟨w.heap.size, 1, none⟩ = some (.slice vA vn vc)) ∧ W.heap[w.heap.size]? = some (.cells #[.slice kA kn kc, .slice vA vn vc, .bool false, .int .i64 n] 94 (0, 0))) (by kernel_rfl) (box_it hbk) (fun hHeld => ?_)
    refine rg_in 0 rfl (by kernel_rfl) (by kernel_rfl) (by kernel_rfl) (by rfl) (v := ?_) (fun _ _ _ h => h) hHeld (fun w hSw => ?_) ?_
    rotate_left
    · (try dsimp only at hSw); go_simp <;> (with_reducible rfl)
    (try simp only [Act.put, List.setIfInBounds_toArray, List.set_cons_zero, List.set_cons_succ])
    refine rg_in 1 rfl (by kernel_rfl) (by kernel_rfl) (by kernel_rfl) (by rfl) (v := ?_) (fun _ _ _ h => h) hHeld (fun w hSw => ?_) ?_
    rotate_left
    · (try dsimp only at hSw); go_simp <;> (with_reducible rfl)
    (try simp only [Act.put, List.setIfInBounds_toArray, List.set_cons_zero, List.set_cons_succ])
    refine rg_in 2 rfl (by kernel_rfl) (by kernel_rfl) (by kernel_rfl) (by rfl) (v := ?_) (fun _ _ _ h => h) hHeld (fun w hSw => ?_) ?_
    rotate_left
    · (try dsimp only at hSw); go_simp <;> (with_reducible rfl)
    (try simp only [Act.put, List.setIfInBounds_toArray, List.set_cons_zero, List.set_cons_succ])
    refine rg_in 3 rfl (by kernel_rfl) (by kernel_rfl) (by kernel_rfl) (by rfl) (v := ?_) (fun _ _ _ h => h) hHeld (fun w hSw => ?_) ?_
    rotate_left
    · (try dsimp only at hSw); go_simp <;> (with_reducible rfl)
    (try simp only [Act.put, List.setIfInBounds_toArray, List.set_cons_zero, List.set_cons_succ])
    refine rg_in 5 rfl (by kernel_rfl) (by kernel_rfl) (by kernel_rfl) (by rfl) (v := ?_) (fun _ _ _ h => h) hHeld (fun w hSw => ?_) ?_
    rotate_left
    · (try dsimp only at hSw); go_simp <;> (with_reducible rfl)
    (try simp only [Act.put, List.setIfInBounds_toArray, List.set_cons_zero, List.set_cons_succ])
    refine rg_in 6 rfl (by kernel_rfl) (by kernel_rfl) (by kernel_rfl) (by rfl) (v := ?_) (fun _ _ _ h => h) hHeld (fun w hSw => ?_) ?_
    rotate_left
    · (try dsimp only at hSw); go_simp <;> (with_reducible rfl)
    (try simp only [Act.put, List.setIfInBounds_toArray, List.set_cons_zero, List.set_cons_succ])
    refine rg_in 7 rfl (by kernel_rfl) (by kernel_rfl) (by kernel_rfl) (by rfl) (v := ?_) (fun _ _ _ h => h) hHeld (fun w hSw => ?_) ?_
    rotate_left
    · (try dsimp only at hSw); go_simp <;> (with_reducible rfl)
    (try simp only [Act.put, List.setIfInBounds_toArray, List.set_cons_zero, List.set_cons_succ])
    refine rg_do 4 rfl (by kernel_rfl) (by rfl) (fun K hK => ?_)
    go_simp
    (go_at_call 58; (with_reducible refine (HcA.out _ hHeld.2).mono ?_); (rintro e w104 ⟨A1, n1, c1, rfl, hO1, hG1⟩))
    have hk1 := hG1.blk hO0d hHeld.2 (by decide)
    have HL1 := Lib.hid (put_lens hO1)
    have hn1 : n1 ≤ 95000 := by rw [HL1.out, List.length_append, ← HL0.out, List.length_cons, hkl]; omega
    refine hK.out _ _ (box_it hk1) (fun hHeld => ?_)
    clear hK K
    (try simp only [Act.put, List.setIfInBounds_toArray, List.set_cons_zero, List.set_cons_succ])
    refine rg_do 8 rfl (by kernel_rfl) (by rfl) (fun K hK => ?_)
    have hc2 := short_any base A1 n1 c1 _ ⟨vA, vn, vc, vl⟩ B w104 hO1 (Nat.le_trans hb0s hG1.size) (HV.out.later ((hG1.below hO0d hb0s).mono hB)) hB hvn (by omega)
    go_simp
    (go_at_call 58; (with_reducible refine hc2.mono ?_); (rintro e w108 ⟨A2, n2, c2, rfl, hO2, hG2⟩))
    have hk2 := hG2.blk hO1 hHeld.2 (by decide)
    refine hK.out _ _ (box_it hk2) (fun hHeld => ?_)
    clear hK K
    (try simp only [Act.put, List.setIfInBounds_toArray, List.set_cons_zero, List.set_cons_succ])
    refine rg_in 9 rfl (by kernel_rfl) (by kernel_rfl) (by kernel_rfl) (by rfl) (v := ?_) (fun _ _ _ h => h) hHeld (fun w hSw => ?_) ?_
    rotate_left
    · (try dsimp only at hSw); go_simp <;> (with_reducible rfl)
    (try simp only [Act.put, List.setIfInBounds_toArray, List.set_cons_zero, List.set_cons_succ])
    refine wpAnyH_done (by kernel_rfl) ?_ _
    have hk9 := hHeld
    clear hHeld
    have hgf := hG2.blk hO1 (hG1.blk hO0d hflg (by decide)) (by decide)
    have hG9 := (hGd.call hG1).call hG2
    have HL2 := Lib.hid (put_lens hO2)
    have hn2 : n2 ≤ 96000 := by rw [HL2.out, List.length_append, ← HL1.out, List.length_cons, hvl]; omega
    have f0 : w108.cell? ⟨w.heap.size + 1, 0, none⟩ = some (.int .u64 0) := by rw [cell_of_row _ _ _ _ _ _ hgf]; rfl
    have f1 : w108.cell? ⟨w.heap.size + 1, 1, none⟩ = some (.int .i64 1) := by rw [cell_of_row _ _ _ _ _ _ hgf]; rfl
    have f2 : w108.cell? ⟨w.heap.size, 3, none⟩ = some (.int .i64 n) := by rw [cell_of_row _ _ _ _ _ _ hk9.2]; rfl
    clear hbk hflg hk1 hk2 hgf hk9
    have hbl := heap_alloc_new w108 (.cells #[.int .u64 0, .int .i64 1, .int .u64 (un : Int), .int .i64 8] 96)
    have hcl := nlaid_any base A2 n2 c2 _ (some ⟨w108.heap.size, 0, none⟩) 2 2 [(0, 1), (un, 8)] _ (hO2.alloc (.cells #[.int .u64 0, .int .i64 1, .int .u64 (un : Int), .int .i64 8] 96)) (by rw [World.size_alloc]; have h1 := hG9.size; omega) ⟨_, rfl, hbl⟩ rfl (by intro p hp; simp only [List.mem_cons, List.not_mem_nil, or_false] at hp; rcases hp with rfl | rfl <;> (simp only; have := Hul.out; omega)) (by omega) (by omega)
    have HGa := Lib.hid (hG9.alloc (.cells #[.int .u64 0, .int .i64 1, .int .u64 (un : Int), .int .i64 8] 96))
    clear hbl hG1 hG2 hG9 hO1 hO2 hO0d hGd
    go_wp2_with fail
    generalize w108.alloc (.cells #[.int .u64 0, .int .i64 1, .int .u64 (un : Int), .int .i64 8] 96) = W9 at *
    refine hcl.mono ?_
    rintro e W10 ⟨A3, n3, c3, rfl, hO3, hG3⟩
    clear f0 f1 f2
    go_wp2
    (first | rw [Exit.noGoto_ret] | skip)
    refine bodyPost_ret (v := .slice A3 n3 c3) ?_ rfl ⟨A3, n3, c3, rfl, ?_, HGa.out.call hG3⟩
    · simp [results, Try.results43, go_sem, *]
    · rw [HPL.out]
      exact hO3
  · have HPL := Lib.hid (show l0 ++ ItT.put ⟨⟨kA, kn, kc, kl⟩, ⟨vA, vn, vc, vl⟩, true, n⟩ = l0 ++ (UInt8.ofNat kn :: kl) ++ (UInt8.ofNat vn :: vl) ++ [((1 : Nat), 1), (un, 8)].flatMap nnL by
      unfold ItT.put putIL
      simp only
      rw [hkl, hvl, hun, List.append_assoc, List.append_assoc]
      rfl)
    generalize l0 ++ ItT.put ⟨⟨kA, kn, kc, kl⟩, ⟨vA, vn, vc, vl⟩, true, n⟩ = R at *
    clear hun
    have hta : ∀ W, (Instr.typeAssert (.iface 94 (.agg #[.slice kA kn kc, .slice vA vn vc, .bool true, .int .i64 n])) 71 94 true).run Try.prog W = .ok (.tuple #[.agg #[.slice kA kn kc, .slice vA vn vc, .bool true, .int .i64 n], .bool true]) W := fun W => by kernel_rfl
    have hbk := blk_later (heap_alloc_new w (.cells #[.slice kA kn kc, .slice vA vn vc, .bool true, .int .i64 n] 94)) ((Below.refl _ _).alloc (Nat.le_refl _) (.cells #[.int .u64 1, .int .i64 1] 96))
    have hflg := heap_alloc_new (w.alloc (.cells #[.slice kA kn kc, .slice vA vn vc, .bool true, .int .i64 n] 94)) (.cells #[.int .u64 1, .int .i64 1] 96)
    rw [World.size_alloc] at hflg
    have hGd := ((Gr.refl (.slice A0 n0 c0) w).alloc (.cells #[.slice kA kn kc, .slice vA vn vc, .bool true, .int .i64 n] 94)).alloc (.cells #[.int .u64 1, .int .i64 1] 96)
    have hO0d := (h0.alloc (.cells #[.slice kA kn kc, .slice vA vn vc, .bool true, .int .i64 n] 94)).alloc (.cells #[.int .u64 1, .int .i64 1] 96)
    have hb0s := Nat.le_trans hbase hGd.size
    have HKd := Lib.hid (hx.key.later (((bel_alloc (bel_alloc (Below.refl w.heap.size w) (.cells #[.slice kA kn kc, .slice vA vn vc, .bool true, .int .i64 n] 94)) (.cells #[.int .u64 1, .int .i64 1] 96))).mono (Nat.le_trans hB hbase)))
    have HV := Lib.hid (hx.val.later (((bel_alloc (bel_alloc (Below.refl w.heap.size w) (.cells #[.slice kA kn kc, .slice vA vn vc, .bool true, .int .i64 n] 94)) (.cells #[.int .u64 1, .int .i64 1] 96))).mono (Nat.le_trans hB hbase)))
    go_enter Try.func43, Try.ntmps43
    go_upto_region 7 with fail
    generalize (w.alloc (.cells #[.slice kA kn kc, .slice vA vn vc, .bool true, .int .i64 n] 94)).alloc (.cells #[.int .u64 1, .int .i64 1] 96) = W1 at *
    have hO0d := hO0d.drew
    have hGd := hGd.drew
    have hbk : W1.drew.heap[w.heap.size]? = some (.cells #[.slice kA kn kc, .slice vA vn vc, .bool true, .int .i64 n] 94 (0, 0)) := hbk
    have hflg : W1.drew.heap[w.heap.size + 1]? = some (.cells #[.int .u64 1, .int .i64 1] 96 (0, 0)) := hflg
    have hb0s : base ≤ W1.drew.heap.size := hb0s
    have HV := Lib.hid (HV.out.later (below_drewN (Below.refl _ _) 1))
    have HcA := Lib.hid (fun (W : World) (_ : W.heap[w.heap.size]? = some (.cells #[.slice kA kn kc, .slice vA vn vc, .bool true, .int .i64 n] 94 (0, 0))) => short_any base A0 n0 c0 l0 ⟨kA, kn, kc, kl⟩ B W1.drew hO0d hb0s (HKd.out.later (below_drewN (Below.refl _ _) 1)) hB hkn (by omega))
    clear hta
    refine wp_region_held_drew (S := fun W => (W.cell? ⟨w.heap.size, 0, none⟩ = some (.slice kA kn kc) ∧ W.cell? ⟨w.heap.size, 1, none⟩ = some (.slice vA vn vc)) ∧ W.heap[w.heap.size]? = some (.cells #[.slice kA kn kc, .slice vA vn vc, .bool true, .int .i64 n] 94 (0, 0))) (by kernel_rfl) (box_it hbk) (fun hHeld => ?_)
    refine rg_in 0 rfl (by kernel_rfl) (by kernel_rfl) (by kernel_rfl) (by rfl) (v := ?_) (fun _ _ _ h => h) hHeld (fun w hSw => ?_) ?_
    rotate_left
    · (try dsimp only at hSw); go_simp <;> (with_reducible rfl)
    (try simp only [Act.put, List.setIfInBounds_toArray, List.set_cons_zero, List.set_cons_succ])
    refine rg_in 1 rfl (by kernel_rfl) (by kernel_rfl) (by kernel_rfl) (by rfl) (v := ?_) (fun _ _ _ h => h) hHeld (fun w hSw => ?_) ?_
    rotate_left
    · (try dsimp only at hSw); go_simp <;> (with_reducible rfl)
    (try simp only [Act.put, List.setIfInBounds_toArray, List.set_cons_zero, List.set_cons_succ])
    refine rg_in 2 rfl (by kernel_rfl) (by kernel_rfl) (by kernel_rfl) (by rfl) (v := ?_) (fun _ _ _ h => h) hHeld (fun w hSw => ?_) ?_
    rotate_left
    · (try dsimp only at hSw); go_simp <;> (with_reducible rfl)
    (try simp only [Act.put, List.setIfInBounds_toArray, List.set_cons_zero, List.set_cons_succ])
    refine rg_in 3 rfl (by kernel_rfl) (by kernel_rfl) (by kernel_rfl) (by rfl) (v := ?_) (fun _ _ _ h => h) hHeld (fun w hSw => ?_) ?_
    rotate_left
    · (try dsimp only at hSw); go_simp <;> (with_reducible rfl)
    (try simp only [Act.put, List.setIfInBounds_toArray, List.set_cons_zero, List.set_cons_succ])
    refine rg_in 5 rfl (by kernel_rfl) (by kernel_rfl) (by kernel_rfl) (by rfl) (v := ?_) (fun _ _ _ h => h) hHeld (fun w hSw => ?_) ?_
    rotate_left
    · (try dsimp only at hSw); go_simp <;> (with_reducible rfl)
    (try simp only [Act.put, List.setIfInBounds_toArray, List.set_cons_zero, List.set_cons_succ])
    refine rg_in 6 rfl (by kernel_rfl) (by kernel_rfl) (by kernel_rfl) (by rfl) (v := ?_) (fun _ _ _ h => h) hHeld (fun w hSw => ?_) ?_
    rotate_left
    · (try dsimp only at hSw); go_simp <;> (with_reducible rfl)
    (try simp only [Act.put, List.setIfInBounds_toArray, List.set_cons_zero, List.set_cons_succ])
    refine rg_in 7 rfl (by kernel_rfl) (by kernel_rfl) (by kernel_rfl) (by rfl) (v := ?_) (fun _ _ _ h => h) hHeld (fun w hSw => ?_) ?_
    rotate_left
    · (try dsimp only at hSw); go_simp <;> (with_reducible rfl)
    (try simp only [Act.put, List.setIfInBounds_toArray, List.set_cons_zero, List.set_cons_succ])
    refine rg_do 4 rfl (by kernel_rfl) (by rfl) (fun K hK => ?_)
    go_simp
    (go_at_call 58; (with_reducible refine (HcA.out _ hHeld.2).mono ?_); (rintro e w104 ⟨A1, n1, c1, rfl, hO1, hG1⟩))
    have hk1 := hG1.blk hO0d hHeld.2 (by decide)
    have HL1 := Lib.hid (put_lens hO1)
    have hn1 : n1 ≤ 95000 := by rw [HL1.out, List.length_append, ← HL0.out, List.length_cons, hkl]; omega
    refine hK.out _ _ (box_it hk1) (fun hHeld => ?_)
    clear hK K
    (try simp only [Act.put, List.setIfInBounds_toArray, List.set_cons_zero, List.set_cons_succ])
    refine rg_do 8 rfl (by kernel_rfl) (by rfl) (fun K hK => ?_)
    have hc2 := short_any base A1 n1 c1 _ ⟨vA, vn, vc, vl⟩ B w104 hO1 (Nat.le_trans hb0s hG1.size) (HV.out.later ((hG1.below hO0d hb0s).mono hB)) hB hvn (by omega)
    go_simp
    (go_at_call 58; (with_reducible refine hc2.mono ?_); (rintro e w108 ⟨A2, n2, c2, rfl, hO2, hG2⟩))
    have hk2 := hG2.blk hO1 hHeld.2 (by decide)
    refine hK.out _ _ (box_it hk2) (fun hHeld => ?_)
    clear hK K
    (try simp only [Act.put, List.setIfInBounds_toArray, List.set_cons_zero, List.set_cons_succ])
    refine rg_in 9 rfl (by kernel_rfl) (by kernel_rfl) (by kernel_rfl) (by rfl) (v := ?_) (fun _ _ _ h => h) hHeld (fun w hSw => ?_) ?_
    rotate_left
    · (try dsimp only at hSw); go_simp <;> (with_reducible rfl)
    (try simp only [Act.put, List.setIfInBounds_toArray, List.set_cons_zero, List.set_cons_succ])
    refine wpAnyH_done (by kernel_rfl) ?_ _
    have hk9 := hHeld
    clear hHeld
    have hgf := hG2.blk hO1 (hG1.blk hO0d hflg (by decide)) (by decide)
    have hG9 := (hGd.call hG1).call hG2
    have HL2 := Lib.hid (put_lens hO2)
    have hn2 : n2 ≤ 96000 := by rw [HL2.out, List.length_append, ← HL1.out, List.length_cons, hvl]; omega
    have f0 : w108.cell? ⟨w.heap.size + 1, 0, none⟩ = some (.int .u64 1) := by rw [cell_of_row _ _ _ _ _ _ hgf]; rfl
    have f1 : w108.cell? ⟨w.heap.size + 1, 1, none⟩ = some (.int .i64 1) := by rw [cell_of_row _ _ _ _ _ _ hgf]; rfl
    have f2 : w108.cell? ⟨w.heap.size, 3, none⟩ = some (.int .i64 n) := by rw [cell_of_row _ _ _ _ _ _ hk9.2]; rfl
    clear hbk hflg hk1 hk2 hgf hk9
    have hbl := heap_alloc_new w108 (.cells #[.int .u64 1, .int .i64 1, .int .u64 (un : Int), .int .i64 8] 96)
    have hcl := nlaid_any base A2 n2 c2 _ (some ⟨w108.heap.size, 0, none⟩) 2 2 [(1, 1), (un, 8)] _ (hO2.alloc (.cells #[.int .u64 1, .int .i64 1, .int .u64 (un : Int), .int .i64 8] 96)) (by rw [World.size_alloc]; have h1 := hG9.size; omega) ⟨_, rfl, hbl⟩ rfl (by intro p hp; simp only [List.mem_cons, List.not_mem_nil, or_false] at hp; rcases hp with rfl | rfl <;> (simp only; have := Hul.out; omega)) (by omega) (by omega)
    have HGa := Lib.hid (hG9.alloc (.cells #[.int .u64 1, .int .i64 1, .int .u64 (un : Int), .int .i64 8] 96))
    clear hbl hG1 hG2 hG9 hO1 hO2 hO0d hGd
    go_wp2_with fail
    generalize w108.alloc (.cells #[.int .u64 1, .int .i64 1, .int .u64 (un : Int), .int .i64 8] 96) = W9 at *
    refine hcl.mono ?_
    rintro e W10 ⟨A3, n3, c3, rfl, hO3, hG3⟩
    clear f0 f1 f2
    go_wp2
    (first | rw [Exit.noGoto_ret] | skip)
    refine bodyPost_ret (v := .slice A3 n3 c3) ?_ rfl ⟨A3, n3, c3, rfl, ?_, HGa.out.call hG3⟩
    · simp [results, Try.results43, go_sem, *]
    · rw [HPL.out]
      exact hO3
end Go.Proofs.Ytnfohlabmidliaa
