import Derived.Test.YtkbcgcokokddlaaGab
import Derived.Test.YtkbcgcokokddlaaGaa
import Derived.Lib.Hide
import Derived.Test.YtkbcgcokokddlaaRows
import Derived.Deep.QuietTactic
import Derived.BigQuiet
import Derived.Laws.BytesString
import Derived.Laws.Cells
import Derived.Test.YtkbcgcokokddlaaGac
import Derived.Deep.Slices
import Derived.Deep.Fields
import Derived.ChangeSame
import Derived.Lib.SmallJoins
import Derived.Deep.Modes
/-
  Layer 15: Less, the keys of edits and items.
-/
namespace Go.Proofs.Ytkbcgcokokddlaa
open Go.RowKit
set_option linter.unusedVariables false
set_option linter.unusedSimpArgs false

set_option maxRecDepth 20000 in
set_option maxHeartbeats 1000000 in
theorem mless_any (p r : PcT) (B1 B2 : Nat) (w : World) (hp : p.Ok w B1) (hr : r.Ok w B2) :
    Calls Try.prog 14 #[.slice p.A p.n p.c, .slice r.A r.n r.c] w fun e w' => e = .returned (.bool (decide (cmpL p.l r.l < 0))) ∧ w' = w := by
  have hc := bcompare_any p.A r.A p.n p.c r.n r.c p.l r.l _ _ w hp.here hr.here
  obtain ⟨z, hz⟩ : ∃ z, cmpL p.l r.l = z := ⟨_, rfl⟩
  rw [hz] at hc ⊢
  clear hz hp hr
  go_enter Try.func14, Try.ntmps14
  go_wp2_with fail
  refine hc.mono ?_
  rintro e w1 ⟨rfl, rfl⟩
  clear hc
  go_wp2
  refine bodyPost_ret (v := .bool (decide (z < 0))) ?_ rfl ⟨rfl, rfl⟩
  simp [results, Try.results14, go_sem, *]
theorem five_blkJ {W : World} {g : Nat} {a b c d e : Value} {t : TypeId} (h : W.heap[g]? = some (.cells #[a, b, c, d, e] t (0, 0))) : (W.cell? ⟨g, 0, none⟩ = some a ∧ W.cell? ⟨g, 1, none⟩ = some b ∧ W.cell? ⟨g, 2, none⟩ = some c ∧ W.cell? ⟨g, 3, none⟩ = some d ∧ W.cell? ⟨g, 4, none⟩ = some e) ∧ True := by
  have hc : ∀ k, W.cell? ⟨g, k, none⟩ = #[a, b, c, d, e][k]? := fun k => cell_of_row W g k #[a, b, c, d, e] t (0, 0) h
  exact ⟨⟨(hc 0).trans rfl, (hc 1).trans rfl, (hc 2).trans rfl, (hc 3).trans rfl, (hc 4).trans rfl⟩, trivial⟩
/-- May an edit be? -/
def mayS (e : EdS) : Bool := decide (1 ≤ e.k.length ∧ e.k.length ≤ 120) && (decide (e.v.length ≤ 100) && ((e.put || (decide (e.v.length = 0) && !e.b)) && (e.b || decide (e.n = 0))))
set_option maxRecDepth 20000 in
set_option maxHeartbeats 2000000 in
theorem validEdit_any (x : EdT) (B : Nat) (w : World) (hx : x.Ok w B) :
    Calls Try.prog 35 #[x.agg] w fun e w' => e = .returned (.bool (mayS x.s)) ∧ Below w.heap.size w w' := by
  have hk := hx.key.len
  have hv := hx.val.len
  have hb := bel_alloc (Below.refl w.heap.size w) (.cells #[.slice x.k.A x.k.n x.k.c, .bool x.put, .slice x.v.A x.v.n x.v.c, .bool x.b, .int .i64 x.n] 49)
  have hnb := heap_alloc_new w (.cells #[.slice x.k.A x.k.n x.k.c, .bool x.put, .slice x.v.A x.v.n x.v.c, .bool x.b, .int .i64 x.n] 49)
  clear hx
  obtain ⟨z, hz⟩ : ∃ z, mayS x.s = z := ⟨_, rfl⟩
  have hsp : z = (decide (1 ≤ x.k.n ∧ x.k.n ≤ 120) && (decide (x.v.n ≤ 100) && ((x.put || (decide (x.v.n = 0) && !x.b)) && (x.b || decide (x.n = 0))))) := by
    rw [← hz, ← hk, ← hv]
    rfl
  have HSP := Lib.hid hsp
  unfold EdT.agg
  rw [hz]
  clear hk hv hz hsp
  obtain ⟨⟨kA, kn, kc, kl⟩, pu, ⟨vA, vn, vc, vl⟩, bb, nn⟩ := x
  simp only at HSP hb hnb ⊢
  by_cases h1 : 1 ≤ kn
  · have h1' : (1 : Int) ≤ (kn : Int) := by omega
    by_cases h2 : kn ≤ 120
    · have h2' : (kn : Int) ≤ 120 := by omega
      by_cases h3 : vn ≤ 100
      · have h3' : (vn : Int) ≤ 100 := by omega
        cases pu
        · by_cases h4 : vn = 0
          · subst h4
            cases bb
            · by_cases h5 : nn = 0
              · subst h5
                obtain ⟨⟨c0, c1, c2, c3, c4⟩, -⟩ := five_blkJ hnb
                clear hnb
                go_enter Try.func35, Try.ntmps35
                go_wp2
                refine bodyPost_ret (v := .bool z) ?_ rfl ⟨rfl, hb⟩
                rw [HSP.out]
                simp [results, Try.results35, go_sem, *]
              · have h5' : ((nn : Int) == (0 : Int)) = false := by simpa using h5
                obtain ⟨⟨c0, c1, c2, c3, c4⟩, -⟩ := five_blkJ hnb
                clear hnb
                go_enter Try.func35, Try.ntmps35
                go_wp2
                refine bodyPost_ret (v := .bool z) ?_ rfl ⟨rfl, hb⟩
                rw [HSP.out]
                simp [results, Try.results35, go_sem, *]
            · skip
              obtain ⟨⟨c0, c1, c2, c3, c4⟩, -⟩ := five_blkJ hnb
              clear hnb
              go_enter Try.func35, Try.ntmps35
              go_wp2
              refine bodyPost_ret (v := .bool z) ?_ rfl ⟨rfl, hb⟩
              rw [HSP.out]
              simp [results, Try.results35, go_sem, *]
          · have h4' : ((vn : Int) == (0 : Int)) = false := by simp; omega
            obtain ⟨⟨c0, c1, c2, c3, c4⟩, -⟩ := five_blkJ hnb
            clear hnb
            go_enter Try.func35, Try.ntmps35
            go_wp2
            refine bodyPost_ret (v := .bool z) ?_ rfl ⟨rfl, hb⟩
            rw [HSP.out]
            simp [results, Try.results35, go_sem, *]
        · cases bb
          · by_cases h5 : nn = 0
            · subst h5
              obtain ⟨⟨c0, c1, c2, c3, c4⟩, -⟩ := five_blkJ hnb
              clear hnb
              go_enter Try.func35, Try.ntmps35
              go_wp2
              refine bodyPost_ret (v := .bool z) ?_ rfl ⟨rfl, hb⟩
              rw [HSP.out]
              simp [results, Try.results35, go_sem, *]
            · have h5' : ((nn : Int) == (0 : Int)) = false := by simpa using h5
              obtain ⟨⟨c0, c1, c2, c3, c4⟩, -⟩ := five_blkJ hnb
              clear hnb
              go_enter Try.func35, Try.ntmps35
              go_wp2
              refine bodyPost_ret (v := .bool z) ?_ rfl ⟨rfl, hb⟩
              rw [HSP.out]
              simp [results, Try.results35, go_sem, *]
          · skip
            obtain ⟨⟨c0, c1, c2, c3, c4⟩, -⟩ := five_blkJ hnb
            clear hnb
            go_enter Try.func35, Try.ntmps35
            go_wp2
            refine bodyPost_ret (v := .bool z) ?_ rfl ⟨rfl, hb⟩
            rw [HSP.out]
            simp [results, Try.results35, go_sem, *]
      · have h3' : ¬ (vn : Int) ≤ 100 := by omega
        obtain ⟨⟨c0, c1, c2, c3, c4⟩, -⟩ := five_blkJ hnb
        clear hnb
        go_enter Try.func35, Try.ntmps35
        go_wp2
        refine bodyPost_ret (v := .bool z) ?_ rfl ⟨rfl, hb⟩
        rw [HSP.out]
        simp [results, Try.results35, go_sem, *]
    · have h2' : ¬ (kn : Int) ≤ 120 := by omega
      obtain ⟨⟨c0, c1, c2, c3, c4⟩, -⟩ := five_blkJ hnb
      clear hnb
      go_enter Try.func35, Try.ntmps35
      go_wp2
      refine bodyPost_ret (v := .bool z) ?_ rfl ⟨rfl, hb⟩
      rw [HSP.out]
      simp [results, Try.results35, go_sem, *]
  · have h1' : ¬ (1 : Int) ≤ (kn : Int) := by omega
    obtain ⟨⟨c0, c1, c2, c3, c4⟩, -⟩ := five_blkJ hnb
    clear hnb
    go_enter Try.func35, Try.ntmps35
    go_wp2
    refine bodyPost_ret (v := .bool z) ?_ rfl ⟨rfl, hb⟩
    rw [HSP.out]
    simp [results, Try.results35, go_sem, *]
set_option maxRecDepth 20000 in
set_option maxHeartbeats 1000000 in
theorem editKey_any (x : EdT) (w : World) : Calls Try.prog 37 #[x.agg] w fun e w' => e = .returned (.slice x.k.A x.k.n x.k.c) ∧ Below w.heap.size w w' := by
  have hb := bel_alloc (Below.refl w.heap.size w) (.cells #[.slice x.k.A x.k.n x.k.c, .bool x.put, .slice x.v.A x.v.n x.v.c, .bool x.b, .int .i64 x.n] 49)
  obtain ⟨⟨c0, -⟩, -⟩ := five_blkJ (heap_alloc_new w (.cells #[.slice x.k.A x.k.n x.k.c, .bool x.put, .slice x.v.A x.v.n x.v.c, .bool x.b, .int .i64 x.n] 49))
  unfold EdT.agg
  go_enter Try.func37, Try.ntmps37
  go_wp2
  refine bodyPost_ret (v := .slice x.k.A x.k.n x.k.c) ?_ rfl ⟨rfl, hb⟩
  simp [results, Try.results37, go_sem, *]
end Go.Proofs.Ytkbcgcokokddlaa
namespace Go.Proofs.Ytkbcgcokokddlaa
open Go.RowKit

def sameB (l1 l2 : List UInt8) : Bool := decide (l1 = l2)

set_option maxRecDepth 20000 in
set_option maxHeartbeats 1000000 in
theorem equal_any (A1 A2 : Option Addr) (n1 c1 n2 c2 : Nat) (l1 l2 : List UInt8) (B1 B2 : Nat) (w : World) (h1 : Bytes w B1 A1 n1 l1) (h2 : Bytes w B2 A2 n2 l2) (hm1 : n1 ≤ maxLen) (hm2 : n2 ≤ maxLen) :
    Calls Try.prog 30 #[.slice A1 n1 c1, .slice A2 n2 c2] w fun e w' => e = .returned (.bool (sameB l1 l2)) ∧ ∃ k, w' = w.drewN k := by
  unfold maxLen at hm1 hm2
  by_cases hn : n1 = n2
  · subst hn
    go_enter Try.func30, Try.ntmps30
    go_wp2
    go_loopw [13] (fun i wr => ∃ k : Nat, k ≤ n1 ∧ i = .int .i64 k ∧ l1.take k = l2.take k ∧ ∃ m, wr = w.drewN m) (fun i _ => n1 - (intOf i).toNat)
    case atStart => exact ⟨0, Nat.zero_le _, rfl, rfl, 0, rfl⟩
    case round =>
      obtain ⟨k, hk, rfl, ht, m, rfl⟩ := hrel
      by_cases hlt : k < n1
      · obtain ⟨b1, o1, rfl, _, hc1⟩ := h1.cell hlt
        obtain ⟨b2, o2, rfl, _, hc2⟩ := h2.cell hlt
        have hl1 : k < l1.length := by have := h1.len; omega
        have hl2 : k < l2.length := by have := h2.len; omega
        have t1 : l1.take (k + 1) = l1.take k ++ [l1.getD k 0] := take_snoc l1 k hl1
        have t2 : l2.take (k + 1) = l2.take k ++ [l2.getD k 0] := take_snoc l2 k hl2
        have g1 := at8_lo l1 k
        have g2 := at8_hi l1 k
        have g3 := at8_lo l2 k
        have g4 := at8_hi l2 k
        by_cases hx : at8 l1 k = at8 l2 k
        · have hb : (at8 l1 k != at8 l2 k) = false := by rw [hx]; simp
          have ht' := Lib.hid (show l1.take (k + 1) = l2.take (k + 1) by rw [t1, t2, ht, at8_inj hx])
          clear ht hx t1 t2
          go_wp2
          go_quiet (fail)
          go_wp2
          go_roundw
          case rel => exact ⟨k + 1, by omega, by go_num, ht'.out, _, rfl⟩
          case measure => simp [intOf]; omega
        · have hb : (at8 l1 k != at8 l2 k) = true := bne_iff_ne.2 hx
          have hs := Lib.hid (show sameB l1 l2 = false by
            unfold sameB
            apply decide_eq_false
            intro h
            exact hx (by rw [h]))
          clear ht hx t1 t2
          go_wp2
          go_quiet (fail)
          go_wp2
          go_ret
          exact ⟨by rw [hs.out]; rfl, _, World.drewN_drewN _ _ _⟩
      · have hk' : k = n1 := by omega
        have hs := Lib.hid (show sameB l1 l2 = true by
          unfold sameB
          apply decide_eq_true
          have e1 := h1.len
          have e2 := h2.len
          rw [hk', List.take_of_length_le (by omega), List.take_of_length_le (by omega)] at ht
          exact ht)
        clear hk' ht
        go_wp2
        go_ret
        exact ⟨by rw [hs.out]; rfl, _, rfl⟩
  · have hne : ((n1 : Int) != (n2 : Int)) = true := by rw [bne_iff_ne]; omega
    have hl1 := h1.len
    have hl2 := h2.len
    have hs : sameB l1 l2 = false := by
      unfold sameB
      apply decide_eq_false
      intro h
      subst h
      omega
    rw [hs]
    clear hl1 hl2 hs
    go_enter Try.func30, Try.ntmps30
    go_wp2
    go_ret
    exact ⟨rfl, 0, rfl⟩
end Go.Proofs.Ytkbcgcokokddlaa
/-
  Strings: a list of bytes as a string; '[]byte' made a string. No program in sight.
-/
namespace Go.Proofs.Ytkbcgcokokddlaa
open Go.RowKit

/-- A list of bytes as a string. -/
def ofL (l : List UInt8) : ByteArray := ⟨l.toArray⟩
theorem ofL_toList (l : List UInt8) : (ofL l).data.toList = l := by simp [ofL]
theorem ofL_size (l : List UInt8) : (ofL l).size = l.length := by simp [ofL, ByteArray.size]
theorem ofL_of (s : ByteArray) : ofL s.data.toList = s := by
  cases s
  simp [ofL]
theorem ofL_inj {l m : List UInt8} (h : ofL l = ofL m) : l = m := by
  have := congrArg (fun s : ByteArray => s.data.toList) h
  simpa [ofL_toList] using this
theorem ofL_push (l : List UInt8) (c : UInt8) : (ofL l).push c = ofL (l ++ [c]) := by
  simp [ofL, ByteArray.push]
theorem foldl_push : ∀ (l r : List UInt8), (l.map fun c => (c.toNat : Int)).foldl (fun r n => r.push (UInt8.ofNat n.toNat)) (ofL r) = ofL (r ++ l)
  | [], r => by simp
  | c :: l, r => by
    simp only [List.map_cons, List.foldl_cons]
    rw [show UInt8.ofNat ((c.toNat : Int)).toNat = c by simp, ofL_push, foldl_push l]
    simp

theorem run_bytes_string {P : Program} {src dst e : TypeId} (hs : P.underlying src = some (.slice e)) (he : P.underlying e = some (.int .u8)) (hd : P.underlying dst = some .string)
    (w : World) (A : Option Addr) (n c B : Nat) (l : List UInt8) (h : Bytes w B A n l) : (convert src dst (.slice A n c)).run P w = .ok (.string (ofL l)) w := by
  rw [run_convert_bytes_string w src dst e A n c hs he hd]
  have hn := h.len
  rcases A with _ | a
  · have hz : l = [] := by
      rcases Nat.eq_zero_or_pos n with h0 | h0
      · exact List.eq_nil_of_length_eq_zero (by omega)
      · obtain ⟨_, _, e1, _⟩ := h.2 h0
        cases e1
    subst hz
    rfl
  · have hc : ∀ j v, (l.map bv)[j]? = some v → w.cell? (a.add j) = some v := by
      intro j v hj
      have h0 : 0 < n := by
        rcases Nat.eq_zero_or_pos n with h0 | h0
        · have : l = [] := List.eq_nil_of_length_eq_zero (by omega)
          subst this
          simp at hj
        · exact h0
      obtain ⟨b, off, e1, _, h2⟩ := h.2 h0
      injection e1 with e1
      subst e1
      rw [addr_add]
      exact h2 j v hj
    have hl := run_loadCells_list (P := P) (w := w) a (l.map bv) hc
    rw [List.length_map, hn] at hl
    have h2 := run_bytesToString (P := P) w a n c (l.map fun c => (c.toNat : Int)) (by rw [hl, List.map_map]; rfl)
    rw [h2]
    have h3 := foldl_push l []
    rw [show (ByteArray.empty) = ofL [] from rfl, h3]
    rfl
end Go.Proofs.Ytkbcgcokokddlaa
/-
  bytes.Equal, bytes.HasPrefix.
-/
namespace Go.Proofs.Ytkbcgcokokddlaa
open Go.RowKit

theorem bofL_beq (l m : List UInt8) : ((ofL l).toList == (ofL m).toList) = sameB l m := by
  unfold sameB
  rw [ByteArray.toList_eq, ByteArray.toList_eq, ofL_toList, ofL_toList, Bool.eq_iff_iff, beq_iff_eq, decide_eq_true_iff]
set_option maxRecDepth 20000 in
set_option maxHeartbeats 1000000 in
theorem bequal_any (A1 A2 : Option Addr) (n1 c1 n2 c2 : Nat) (l1 l2 : List UInt8) (B1 B2 : Nat) (w : World) (h1 : Bytes w B1 A1 n1 l1) (h2 : Bytes w B2 A2 n2 l2) (b : Bool) (hb : sameB l1 l2 = b) :
    Calls Try.prog 45 #[.slice A1 n1 c1, .slice A2 n2 c2] w fun e w' => e = .returned (.bool b) ∧ w = w' := by
  have k1 := run_bytes_string (P := Try.prog) Try.underlying23 Try.underlying5 Try.underlying9 w A1 n1 c1 B1 l1 h1
  have k2 := run_bytes_string (P := Try.prog) Try.underlying23 Try.underlying5 Try.underlying9 w A2 n2 c2 B2 l2 h2
  have hbe : ((ofL l1).toList == (ofL l2).toList) = b := (bofL_beq l1 l2).trans hb
  generalize ofL l1 = s1 at *
  generalize ofL l2 = s2 at *
  clear h1 h2 hb
  go_enter Try.func45, Try.ntmps45
  go_wp2
  go_ret
  exact ⟨rfl, rfl⟩
theorem prefix_yes {l1 l2 : List UInt8} {n1 n2 : Nat} (h1 : l1.length = n1) (h2 : l2.length = n2) (h : l2 <+: l1) : (decide (n2 ≤ n1) && sameB (l1.take n2) l2) = true := by
  have hl := h.length_le
  unfold sameB
  rw [decide_eq_true (by omega), decide_eq_true (by rw [← h2]; exact (List.prefix_iff_eq_take.1 h).symm)]
  rfl
end Go.Proofs.Ytkbcgcokokddlaa
/-
  Layer 15: rows of rows of edits; rows of one's own beside the queue; the queue's row grows by a rest.
-/
namespace Go.Proofs.Ytkbcgcokokddlaa
open Go.RowKit
set_option linter.unusedVariables false
set_option linter.unusedSimpArgs false

def EsT.val (X : EsT) : Value := .slice X.A X.n X.c
/-- A row of edits in memory of its own. -/
structure OwnE (W : World) (D B : Nat) (X : EsT) : Prop where
  row : W.ownsRow D 49 5 (.slice X.A X.n X.c) X.n (X.E.flatMap EdT.cells)
  all : ∀ x ∈ X.E, x.Ok W B
theorem own_heads {w : World} {base : Nat} {e : TypeId} {size : Nat} {A : Option Addr} {n c : Nat} {xs : List Value} (h : w.ownsRow base e size (.slice A n c) n xs) : (A = none → c = 0) ∧ n ≤ c ∧ c ≤ maxLen := by
  rcases h.2 with ⟨e, e0⟩ | ⟨g, cap, cur, e, _, _, h1, h2, _⟩
  · cases e
    exact ⟨fun _ => rfl, Nat.le_of_eq e0, Nat.zero_le _⟩
  · cases e
    exact ⟨nofun, h1, h2⟩
theorem OwnE.lie {W : World} {D B : Nat} {X : EsT} (h : OwnE W D B X) (hB : B ≤ W.heap.size) : X.Lie W W.heap.size := by
  obtain ⟨h1, h2, h3⟩ := own_heads h.row
  exact ⟨Shows.own h.row, fun x hx => (h.all x hx).more hB, h1, h2, h3⟩
theorem OwnE.none (W : World) (D B : Nat) : OwnE W D B ⟨Option.none, 0, 0, []⟩ := ⟨World.ownsRow_nil _ _ _ _, nofun⟩
theorem OwnE.len {W : World} {D B : Nat} {X : EsT} (h : OwnE W D B X) : X.E.length = X.n := by
  have := h.row.1
  rw [flatN_len EdT.cells 5 (fun _ => rfl)] at this
  omega
theorem OwnE.later {W W' : World} {D B : Nat} {X : EsT} (h : OwnE W D B X) (hB : B ≤ W.heap.size) (hb : Below W.heap.size W W') : OwnE W' D B X :=
  ⟨own_later h.row hb, fun x hx => (h.all x hx).later (hb.mono hB)⟩
/-- The row stays while the queue turns. -/
theorem OwnE.tu {W W' : World} {q g D B c : Nat} {R : List RsT} {X : EsT} (h : OwnE W D B X) (hq : QMem W q D B (some ⟨g, 0, Option.none⟩) c R) (hT : Tu q g W W') (hB : B ≤ W.heap.size) : OwnE W' D B X := by
  have hgB : B ≤ g := Nat.le_trans hq.lowD (hq.row.lt g rfl).1
  refine ⟨⟨h.row.1, ?_⟩, fun x hx => (h.all x hx).later (hT.below hB hq.lowq hgB)⟩
  rcases h.row.2 with e | ⟨k, cap, cur, e, h1, h2, h3⟩
  · exact .inl e
  · refine .inr ⟨k, cap, cur, e, h1, ?_, h3⟩
    have hne : k ≠ q := fun e' => by
      subst e'
      have := h2.symm.trans hq.box
      simp at this
    have hng : k ≠ g := fun e' => by
      subst e'
      have hn := own_blk_ne hq.row h2 (by decide)
      exact hn rfl
    exact (hT.block k (blk_lt h2) hne hng).trans h2
/-- The queue stays while another row of another kind turns. -/
theorem QMem.kept {W W' : World} {q D B c n D' : Nat} {A : Option Addr} {R : List RsT} {v : Value} {xs : List Value} (h : QMem W q D B A c R) (hv : W.ownsRow D' 49 5 v n xs) (hg : W.grownBy W' v.ownBlock) (hb : Below B W W') : QMem W' q D B A c R := by
  refine ⟨blk_other h.box hg (own_blk_ne hv h.box (by decide)), h.row.kept hg ?_, fun x hx => (h.all x hx).later hb, h.lowq, h.lowD⟩
  rcases h.row.2 with ⟨e, -⟩ | ⟨g, cap, cur, e, h1, h2, -⟩
  · rw [e]
    exact .inl rfl
  · rw [e]
    exact .inr (own_blk_ne hv h2 (by decide))
/-- The queue's row with one more rest. -/
theorem QMem.push {W w1 w' : World} {q D B c c' : Nat} {A A' : Option Addr} {R : List RsT} {x : RsT} (h : QMem W q D B A c R) (hB : B ≤ W.heap.size) (hb1 : Below W.heap.size W w1) (hg : w1.grownBy w' (Value.slice A R.length c).ownBlock) (hb : Below B w1 w')
    (hown : w'.ownsRow D 75 2 (.slice A' (R.length + 1) c') (R.length + 1) (R.flatMap RsT.cells ++ x.cells)) (hx : x.Ok W B) : (w'.heap[q]? = some (.cells #[.slice A R.length c] 73 (0, 0))) ∧ QMem (w'.setCell ⟨q, 0, none⟩ (.slice A' (R.length + 1) c')) q D B A' c' (R ++ [x]) := by
  have h1 := blk_later h.box hb1
  have hbx : w'.heap[q]? = some (.cells #[.slice A R.length c] 73 (0, 0)) := blk_other h1 hg (own_blk_ne (own_later h.row hb1) h1 (by decide))
  have hbb : Below B W w' := (hb1.mono hB).trans hb
  have hl : (R ++ [x]).length = R.length + 1 := by rw [List.length_append]; rfl
  have hgr : w'.grownBy (w'.setCell ⟨q, 0, none⟩ (.slice A' (R.length + 1) c')) (some q) := by
    have hb := (Below.refl 0 w').setCell (p := ⟨q, 0, none⟩) (Nat.zero_le _) (.slice A' (R.length + 1) c')
    exact ⟨hb.os, hb.tape, hb.output, hb.size, fun j _ hj => Below.heap_setCell w' ⟨q, 0, none⟩ _ j (fun e => hj (by rw [e]))⟩
  have hB2 := (Below.refl B w').setCell (p := ⟨q, 0, none⟩) h.lowq (.slice A' (R.length + 1) c')
  refine ⟨hbx, ?_, ?_, fun z hz => ?_, h.lowq, h.lowD⟩
  · rw [heap_setCell_same w' q 0 _ _ _ hbx, hl]
    rfl
  · rw [hl, List.flatMap_append, List.flatMap_singleton]
    refine hown.kept hgr ?_
    have := own_blk_ne hown hbx (by decide)
    exact .inr (fun e => this e.symm)
  · rcases List.mem_append.1 hz with hz | hz
    · exact ((h.all z hz).later hbb).later hB2
    · rw [List.mem_singleton.1 hz]
      exact (hx.later hbb).later hB2
theorem cells_rs1 (L : List RsT) : ∀ u ∈ L.flatMap RsT.cells, u.oneCell' = true := by
  intro u hu
  obtain ⟨x, _, hx⟩ := List.mem_flatMap.1 hu
  simp only [RsT.cells, List.mem_cons, List.not_mem_nil, or_false] at hx
  rcases hx with rfl | rfl <;> rfl
theorem cells_ed1 (L : List EdT) : ∀ u ∈ L.flatMap EdT.cells, u.oneCell' = true := by
  intro u hu
  obtain ⟨x, _, hx⟩ := List.mem_flatMap.1 hu
  simp only [EdT.cells, List.mem_cons, List.not_mem_nil, or_false] at hx
  rcases hx with rfl | rfl | rfl | rfl | rfl <;> rfl
set_option maxRecDepth 20000 in
theorem rest_info : ∃ i, Try.prog.info? 75 = some i ∧ i.zero = some (.agg #[.slice none 0 0, .int .i64 0]) ∧ i.size = 2 ∧ i.bytes = 32 := ⟨Try.t75, by kernel_rfl, by kernel_rfl, by kernel_rfl, by kernel_rfl⟩
set_option maxRecDepth 20000 in
theorem edit_info : ∃ i, Try.prog.info? 49 = some i ∧ i.zero = some (.agg #[.slice none 0 0, .bool false, .slice none 0 0, .bool false, .int .i64 0]) ∧ i.size = 5 ∧ i.bytes = 72 := ⟨Try.t49, by kernel_rfl, by kernel_rfl, by kernel_rfl, by kernel_rfl⟩
/-- A row's head in a row of rows. -/
theorem es_at {w : World} {B : Nat} {A : Option Addr} {n : Nat} {L : List EsT} (h : Shows w B 1 A n (L.map EsT.val)) {k : Nat} (hk : k < n) : ∃ b off X, A = some ⟨b, off, none⟩ ∧ b < B ∧ L[k]? = some X ∧ w.cell? ⟨b, off + k, none⟩ = some (.slice X.A X.n X.c) := by
  obtain ⟨b, off, rfl, hb, hc⟩ := h.2 (by omega)
  have hl : L.length = n := by have := h.1; simpa using this
  have hp : L[k]? = some (L[k]'(by omega)) := List.getElem?_eq_getElem (by omega)
  exact ⟨b, off, _, rfl, hb, hp, hc k _ (by rw [List.getElem?_map, hp]; rfl)⟩
/-- How many edits remain. -/
def cntR (R : List RsE) : Nat := (R.map (fun r => r.1.length)).sum
theorem cntR_perm {R R' : List RsE} (h : R.Perm R') : cntR R = cntR R' := (h.map _).sum_nat
theorem cntR_less (e : EdS) (t : List EdS) (p : Nat) (R : List RsE) : cntR (lessR t p R) + 1 = cntR ((e :: t, p) :: R) := by
  unfold lessR cntR
  split
  · rename_i h
    rw [h, List.map_cons, List.sum_cons]
    simp
    omega
  · rw [List.map_cons, List.sum_cons, List.map_cons, List.sum_cons]
    show t.length + _ + 1 = (e :: t).length + _
    rw [List.length_cons]
    omega
/-- container/heap.Init, also with nothing in the queue. -/
def QiP (q D B c : Nat) (A : Option Addr) (R : List RsT) (W W' : World) : Prop := Below D W W' ∧ ∃ R', QMem W' q D B A c R' ∧ R'.Perm R ∧ HeapF (gR R') R'.length 0
set_option maxRecDepth 20000 in
set_option maxHeartbeats 1000000 in
theorem qinit_any (q D B c : Nat) (A : Option Addr) (R : List RsT) (W : World) (hq : QMem W q D B A c R) (hB : B ≤ W.heap.size) (hD : D ≤ W.heap.size) (hDq : D ≤ q) (hN : R.length ≤ 1048576) :
    Calls Try.prog 49 #[.iface 68 (.pointer (some ⟨q, 0, none⟩))] W (fun e W' => e = .returned (.tuple #[]) ∧ QiP q D B c A R W W') := by
  rcases Nat.eq_zero_or_pos R.length with h0 | h0
  · obtain rfl : R = [] := List.eq_nil_of_length_eq_zero h0
    have hln := qlen_any q 0 c A W hq.box
    have d1 : (0 : Int).tdiv 2 = 0 := by decide
    have HP : Hid (QiP q D B c A [] W W) := Lib.hid ⟨Below.refl _ _, [], hq, List.Perm.refl _, fun j h1 h2 h3 => absurd h3 (by simp; omega)⟩
    clear hq hB hD hDq hN h0
    go_enter Try.func49, Try.ntmps49
    go_wp2_with fail
    refine hln.mono ?_
    rintro e W1 ⟨rfl, rfl⟩
    clear hln
    go_wp2_with fail
    go_loopw [3] (fun y wr => y = .int .i64 (-1) ∧ W = wr) (fun y _ => 0)
    case atStart => exact ⟨rfl, rfl⟩
    case round =>
      obtain ⟨rfl, rfl⟩ := hrel
      go_wp2
      go_end0
      exact ⟨rfl, HP.out⟩
  · obtain ⟨g, cap, hv, hg1, hg2⟩ := hq.row.form h0
    have hA : A = some ⟨g, 0, none⟩ := by injection hv
    subst hA
    refine (init_any q g D B c R W hq hB hN).mono ?_
    rintro e W' ⟨rfl, hT, R', h1, h2, h3⟩
    exact ⟨rfl, hT.below hD hDq hg1, R', h1, h2, h3⟩
end Go.Proofs.Ytkbcgcokokddlaa
/-
  Rows of an argument, cell by cell: flat_len, flat_get, shows_rows.
-/
namespace Go.Proofs.Ytkbcgcokokddlaa
open Go.ChangeShapes Go.WideShapes Go.ChangeAt Go.RowKit Go.Deep
set_option linter.unusedVariables false

theorem flat_len {α : Type} (f : α → List Value) (k : Nat) (hf : ∀ x, (f x).length = k) : ∀ l : List α, (l.flatMap f).length = l.length * k
  | [] => by simp
  | x :: l => by rw [List.flatMap_cons, List.length_append, flat_len f k hf l, hf, List.length_cons, Nat.add_mul]; omega
theorem flat_get {α : Type} (f : α → List Value) (k : Nat) (hf : ∀ x, (f x).length = k) : ∀ (l : List α) (i j : Nat) (hi : i < l.length) (_ : j < k), (l.flatMap f)[i * k + j]? = (f (l[i]'hi))[j]?
  | x :: l, 0, j, _, hj => by
    rw [List.flatMap_cons, List.getElem?_append_left (by rw [hf]; omega)]
    simp
  | x :: l, i + 1, j, hi, hj => by
    have e : (i + 1) * k + j = (f x).length + (i * k + j) := by rw [hf, Nat.add_mul]; omega
    rw [List.flatMap_cons, e, List.getElem?_append_right (by omega), Nat.add_sub_cancel_left, flat_get f k hf l i j (by simpa using hi) hj]
    simp
/-- Rows of cells that are known one by one. -/
theorem shows_rows {α : Type} (f : α → List Value) (k : Nat) (hk : 0 < k) (hf : ∀ x, (f x).length = k) {w : World} {a : Addr} {n : Nat} (F : Nat → α) (h : ∀ i, i < n → ∀ j u, (f (F i))[j]? = some u → w.cell? (a.add (i * k + j)) = some u) :
    Shows w w.heap.size k (some a) n (((List.range n).map F).flatMap f) := by
  have hl : ((List.range n).map F).length = n := by simp
  refine ⟨by rw [flat_len f k hf, hl], fun hn => ?_⟩
  obtain ⟨b, off, spot⟩ := a
  have h00 : 0 < (f (F 0)).length := by rw [hf]; exact hk
  have hc0 := h 0 hn 0 _ (List.getElem?_eq_getElem h00)
  have hspot : spot = none := by simpa [Addr.add] using World.cell?_spot hc0
  subst hspot
  have hlt : b < w.heap.size := World.block_lt_of_cell? w _ (by simpa [Addr.add] using hc0)
  refine ⟨b, off, rfl, hlt, fun j u hu => ?_⟩
  have hj : j < (((List.range n).map F).flatMap f).length := (List.getElem?_eq_some_iff.1 hu).1
  rw [flat_len f k hf, hl] at hj
  have hd : j / k < n := Nat.div_lt_of_lt_mul (by rw [Nat.mul_comm]; exact hj)
  have hm : j % k < k := Nat.mod_lt _ hk
  have he : j = j / k * k + j % k := by rw [Nat.mul_comm]; exact (Nat.div_add_mod j k).symm
  rw [he, flat_get f k hf _ _ _ (by rw [hl]; exact hd) hm] at hu
  simp only [List.getElem_map, List.getElem_range] at hu
  have := h (j / k) hd (j % k) u hu
  rw [addr_add, ← he] at this
  exact this

end Go.Proofs.Ytkbcgcokokddlaa
/-
  What the second form's bound gives: no part of a reading is greater than the whole. Rows of things that came in, each within the bound.
-/
namespace Go.Proofs.Ytkbcgcokokddlaa
open Go.ChangeShapes Go.WideShapes Go.ChangeAt Go.RowKit Go.Deep
set_option linter.unusedVariables false

theorem blk_part {H : Type} {d : DataW H} : ∀ {l : List (DataW H)}, d ∈ l → Rows.uptoBulk d ≤ Rows.uptoBulkAll l
  | x :: r, h => by
    rw [Rows.uptoBulkAll]
    rcases List.mem_cons.1 h with rfl | h
    · omega
    · have := blk_part h; omega
theorem blk_agg {H : Type} {d : DataW H} {l : List (DataW H)} (h : d ∈ l) : Rows.uptoBulk d ≤ Rows.uptoBulk (.agg l) := by
  have := blk_part h
  rw [Rows.uptoBulk]
  omega
theorem blk_slice {H : Type} {d : DataW H} {l r : List (DataW H)} (h : d ∈ l) : Rows.uptoBulk d ≤ Rows.uptoBulk (.slice l r) := by
  have := blk_part h
  rw [Rows.uptoBulk]
  omega
theorem blk_str {H : Type} {s : ByteArray} {N : Nat} (h : Rows.uptoBulk (DataW.lit (H := H) (.string s.data.toList)) ≤ N) : s.size ≤ N := by
  rw [Rows.uptoBulk] at h
  have : s.data.toList.length = s.size := by rw [Array.length_toList]; rfl
  omega
theorem blk_all {H : Type} {l : List (DataW H)} (h : Rows.uptoSmall H l = true) {d : DataW H} (hd : d ∈ l) : Rows.uptoBulk d ≤ 1048576 := by
  have h1 := of_decide_eq_true h
  exact Nat.le_trans (blk_part hd) h1
section
variable {H : Type} {enc : TypeId × Value → H} {P : Program} {w W : World} {base : Nat} {spare : Nat → Bool} {held : Bool} {t e : TypeId} {N : Nat}
/-- A row of things that came in, one by one, each within the bound. -/
theorem open_rowsN {α : Type} (f : α → List Value) (z : α) (k : Nat) (hk : 0 < k) (hf : ∀ x, (f x).length = k) (Q : α → Prop) {fuel : Nat} {cs : List Value} {x : DataW H × List MemPlace} (ht : P.underlying t = some (.slice e)) (hC : P.cellsOf e = k)
    (hQ : ∀ n cs y, n < fuel → cs.length = k → DataW.trod enc P w base spare held n e cs = some y → Rows.uptoBulk y.1 ≤ N → ∃ x : α, cs = f x ∧ Q x)
    (h : DataW.trod enc P w base spare held fuel t cs = some x) (hN : Rows.uptoBulk x.1 ≤ N) : ∃ (A : Option Addr) (n c : Nat) (l : List α), cs = [.slice A n c] ∧ Shows w w.heap.size k A n (l.flatMap f) ∧ (∀ x ∈ l, Q x) ∧ (A = none → c = 0) ∧ n ≤ c ∧ c ≤ maxLen := by
  rcases DataW.trod_slice ht h with ⟨hcs, _⟩ | ⟨a, len, cap, elems, rest, n, hn, hcs, hx, _, hl, hm, hlen, hi, _, _⟩
  · exact ⟨none, 0, 0, [], hcs, ⟨by simp, fun h => absurd h (by decide)⟩, by simp, fun _ => rfl, Nat.le_refl _, Nat.zero_le _⟩
  · have hF : ∀ i, ∃ r : α, i < len → Q r ∧ ∀ j u, (f r)[j]? = some u → w.cell? (a.add (i * k + j)) = some u := by
      intro i
      by_cases hin : i < len
      · have h2 := hi i hin
        have hi' : i < elems.length := by rw [hlen]; exact hin
        rw [List.getElem?_eq_getElem hi'] at h2
        obtain ⟨cs', hc, htr⟩ := Option.bind_eq_some_iff.1 h2
        obtain ⟨_, hlen', hat⟩ := World.cells?_some hc
        rw [hC] at hlen' hat
        have hb : Rows.uptoBulk (elems[i]).1 ≤ N := by
          rw [hx] at hN
          exact Nat.le_trans (blk_slice (List.mem_map_of_mem (f := (·.1)) (List.getElem_mem hi'))) hN
        obtain ⟨r, rfl, hr⟩ := hQ n cs' _ (by omega) hlen' htr hb
        refine ⟨r, fun _ => ⟨hr, fun j u hu => ?_⟩⟩
        have hj : j < k := by have := (List.getElem?_eq_some_iff.1 hu).1; rw [hlen'] at this; exact this
        have := hat j hj
        rw [hu] at this
        rw [← this, ← Go.Deep.add_add]
      · exact ⟨z, fun h => absurd h hin⟩
    refine ⟨some a, len, cap, (List.range len).map fun i => Classical.choose (hF i), hcs, shows_rows f k hk hf _ fun i hi j u hu => (Classical.choose_spec (hF i) hi).2 j u hu, ?_, nofun, hl, hm⟩
    intro r hr
    obtain ⟨i, hi, rfl⟩ := List.mem_map.1 hr
    exact (Classical.choose_spec (hF i) (List.mem_range.1 hi)).1
theorem open_keysN {fuel : Nat} {cs : List Value} {x : DataW H × List MemPlace} (ht : P.underlying t = some (.slice e)) (hC : P.cellsOf e = 1) (he : P.underlying e = some .string) (h : DataW.trod enc P w base spare held fuel t cs = some x) (hN : Rows.uptoBulk x.1 ≤ N) :
    ∃ (A : Option Addr) (n c : Nat) (l : List ByteArray), cs = [.slice A n c] ∧ Shows w w.heap.size 1 A n (l.map Value.string) ∧ (∀ x ∈ l, x.size ≤ maxLen ∧ x.size ≤ N) ∧ (A = none → c = 0) ∧ n ≤ c ∧ c ≤ maxLen := by
  obtain ⟨A, n, c, l, h1, h2, h3⟩ := open_rowsN (fun s : ByteArray => [Value.string s]) ⟨#[]⟩ 1 (by decide) (fun _ => rfl) (fun s => s.size ≤ maxLen ∧ s.size ≤ N) ht hC (fun n cs y _ _ hy hb => by
    obtain ⟨s, e, hy1, hs⟩ := DataW.trod_string he hy
    rw [hy1] at hb
    exact ⟨s, e, hs, blk_str hb⟩) h hN
  have hfl : ∀ l : List ByteArray, l.flatMap (fun s => [Value.string s]) = l.map Value.string := by
    intro l
    induction l with
    | nil => rfl
    | cons x l ih => rw [List.flatMap_cons, ih]; rfl
  rw [hfl] at h2
  exact ⟨A, n, c, l, h1, h2, h3⟩
end
end Go.Proofs.Ytkbcgcokokddlaa
/-
  Layer 10: a file that came in, opened; within the second form's bound each of its rows is short.
-/
namespace Go.Proofs.Ytkbcgcokokddlaa
open Go.ChangeShapes Go.WideShapes Go.ChangeAt Go.RowKit Go.Deep
set_option linter.unusedVariables false

theorem bulk_pos {H : Type} (d : DataW H) : 1 ≤ Rows.uptoBulk d := by
  cases d with
  | lit x => cases x <;> simp [Rows.uptoBulk]
  | _ => simp [Rows.uptoBulk]
theorem bulk_len {H : Type} : ∀ l : List (DataW H), l.length ≤ Rows.uptoBulkAll l
  | [] => Nat.zero_le _
  | d :: r => by
    have h1 := bulk_pos d
    have h2 := bulk_len r
    rw [Rows.uptoBulkAll, List.length_cons]
    omega
theorem flat_one {α : Type} (f : α → Value) : ∀ l : List α, (l.flatMap fun x => [f x]) = l.map f
  | [] => rfl
  | a :: l => by rw [List.flatMap_cons, flat_one f l]; rfl
theorem u8_of {z : Int} (h : (Lit.int .u8 z).wf = true) : ∃ b : UInt8, bv b = .int .u8 z := by
  have h' : (decide (IntKind.u8.min ≤ z) && decide (z ≤ IntKind.u8.max)) = true := h
  rw [Bool.and_eq_true, decide_eq_true_iff, decide_eq_true_iff] at h'
  have h1 : 0 ≤ z := h'.1
  have h2 : z ≤ 255 := h'.2
  refine ⟨UInt8.ofNat z.toNat, ?_⟩
  unfold bv
  have : (UInt8.ofNat z.toNat).toNat = z.toNat := by simp; omega
  rw [this, Int.toNat_of_nonneg h1]
section
variable {H : Type} {enc : TypeId × Value → H} {P : Program} {w W : World} {base b0 : Nat} {spare : Nat → Bool} {held : Bool} {r : Reach} {t e : TypeId} {v : Value} {d : DataW H} {p : List MemPlace} {N : Nat}
theorem trod_lenN {fuel : Nat} {A : Option Addr} {n c : Nat} {x : DataW H × List MemPlace} (ht : P.underlying t = some (.slice e)) (h : DataW.trod enc P w base spare held fuel t [.slice A n c] = some x) (hN : Rows.uptoBulk x.1 ≤ N) : n ≤ N := by
  rcases DataW.trod_slice ht h with ⟨hcs, _⟩ | ⟨a, len, cap, elems, rest, n', hn, hcs, hx, _, hl, hm, hlen, hi, _, _⟩
  · simp at hcs
    omega
  · simp at hcs
    obtain ⟨_, rfl, _⟩ := hcs
    rw [hx] at hN
    have h1 := bulk_len (elems.map (·.1))
    rw [List.length_map, hlen] at h1
    simp only [Rows.uptoBulk] at hN
    omega
/-- A row of bytes that came in. -/
theorem trod_pieceN (ht : P.underlying t = some (.slice e)) (he : P.underlying e = some (.int .u8)) (hC : P.cellsOf e = 1) {fuel : Nat} {cs : List Value} {x : DataW H × List MemPlace} (h : DataW.trod enc P w base spare held fuel t cs = some x) (hN : Rows.uptoBulk x.1 ≤ N) : ∃ q : PcT, cs = [q.val] ∧ q.Ok w w.heap.size ∧ q.n ≤ N := by
  obtain ⟨A, n, c, l, rfl, hS, _, h1, h2, h3⟩ := open_rowsN (fun b : UInt8 => [bv b]) 0 1 (by decide) (fun _ => rfl) (fun _ => True) ht hC (fun n' cs' y _ hl hy _ => by
    obtain ⟨z, hz, _, hw⟩ := DataW.trod_int he hy
    obtain ⟨b, hb⟩ := u8_of hw
    exact ⟨b, by rw [hz, hb], trivial⟩) h hN
  rw [flat_one bv] at hS
  exact ⟨⟨A, n, c, l⟩, rfl, ⟨hS, h1, h2, h3⟩, trod_lenN ht h hN⟩
variable {f0 f1 f2 f3 f4 : Field} {eb : TypeId}
/-- A file that came in. -/
theorem came_fileN (ht : P.underlying t = some (.struct #[f0, f1, f2, f3, f4])) (hone : oneCellFields P #[f0, f1, f2, f3, f4] = true) (hC : P.cellsOf t = 5)
    (k0 : P.underlying f0.type = some (.slice eb)) (kb : P.underlying eb = some (.int .u8)) (cb : P.cellsOf eb = 1) (k1 : P.underlying f1.type = some (.slice f0.type)) (c1 : P.cellsOf f0.type = 1) (k2 : P.underlying f2.type = some (.int .i64)) (k3 : P.underlying f3.type = some (.int .i64)) (k4 : P.underlying f4.type = some .bool)
    (hv : Value.okWide P W r b0 t v) (h : DataW.Trod enc P w base spare held t v d p) (hN : Rows.uptoBulk d ≤ N) : ∃ X : FileT, v = X.agg ∧ LieF w w.heap.size X ∧ X.F.n ≤ N ∧ X.ln ≤ N ∧ ∀ q ∈ X.L, q.n ≤ N := by
  obtain ⟨cs, rfl, hsz⟩ := okWide_struct ht hv
  obtain ⟨fuel, hf⟩ := h
  have hf' : DataW.trod enc P w base spare held fuel t cs.toList = some (d, p) := by simpa [Value.cells] using hf
  have hl5 : cs.toList.length = 5 := by simpa using hsz.trans hC
  obtain ⟨cs⟩ := cs
  simp only at hf' hl5
  match cs, hl5 with
  | [c0, c1', c2, c3, c4], _ =>
    obtain ⟨xs, n, hn, hx, _, hlen, hg⟩ := DataW.trod_struct ht hf'
    obtain ⟨o0, q0⟩ := hone_of hone 0 f0 rfl
    obtain ⟨o1, q1⟩ := hone_of hone 1 f1 rfl
    obtain ⟨o2, q2⟩ := hone_of hone 2 f2 rfl
    obtain ⟨o3, q3⟩ := hone_of hone 3 f3 rfl
    obtain ⟨o4, q4⟩ := hone_of hone 4 f4 rfl
    match xs, hlen with
    | [y0, y1, y2, y3, y4], _ =>
      have hy0 : DataW.trod enc P w base spare held n f0.type [c0] = some y0 := by simpa [o0, q0] using hg 0 f0 rfl
      have hy1 : DataW.trod enc P w base spare held n f1.type [c1'] = some y1 := by simpa [o1, q1] using hg 1 f1 rfl
      have hy2 : DataW.trod enc P w base spare held n f2.type [c2] = some y2 := by simpa [o2, q2] using hg 2 f2 rfl
      have hy3 : DataW.trod enc P w base spare held n f3.type [c3] = some y3 := by simpa [o3, q3] using hg 3 f3 rfl
      have hy4 : DataW.trod enc P w base spare held n f4.type [c4] = some y4 := by simpa [o4, q4] using hg 4 f4 rfl
      have hb : ∀ y ∈ [y0, y1, y2, y3, y4], Rows.uptoBulk y.1 ≤ N := fun y hy => by
        have hd : d = _ := (Prod.ext_iff.1 hx).1
        rw [hd] at hN
        exact Nat.le_trans (blk_agg (List.mem_map_of_mem (f := (·.1)) hy)) hN
      obtain ⟨F, e0, hF, nF⟩ := trod_pieceN k0 kb cb hy0 (hb y0 (by simp))
      obtain ⟨A, m, c, L, e1, hS, hL, a1, a2, a3⟩ := open_rowsN (fun q : PcT => [q.val]) ⟨none, 0, 0, []⟩ 1 (by decide) (fun _ => rfl) (fun q => q.Ok w w.heap.size ∧ q.n ≤ N) k1 c1 (fun n' cs' y _ hl' hy' hb' => by
        obtain ⟨q, hq, h1, h2⟩ := trod_pieceN k0 kb cb hy' hb'
        exact ⟨q, hq, h1, h2⟩) hy1 (hb y1 (by simp))
      obtain ⟨z2, e2, _, w2⟩ := DataW.trod_int k2 hy2
      obtain ⟨z3, e3, _, w3⟩ := DataW.trod_int k3 hy3
      obtain ⟨z4, e4, _⟩ := DataW.trod_bool k4 hy4
      simp only [List.cons.injEq, and_true] at e0 e1 e2 e3 e4
      subst e0 e1 e2 e3 e4
      rw [flat_one PcT.val] at hS
      exact ⟨⟨F, A, m, c, L, z2, z3, z4⟩, rfl, ⟨hF, hS, fun q hq => (hL q hq).1, a1, a2, a3, w2, w3⟩, nF, trod_lenN k1 hy1 (hb y1 (by simp)), fun q hq => (hL q hq).2⟩
end
end Go.Proofs.Ytkbcgcokokddlaa
/-
  Layer 15: edits that came in, opened.
-/
namespace Go.Proofs.Ytkbcgcokokddlaa
open Go.ChangeShapes Go.WideShapes Go.ChangeAt Go.RowKit Go.Deep
set_option linter.unusedVariables false

section
variable {H : Type} {enc : TypeId × Value → H} {P : Program} {w W : World} {base b0 : Nat} {spare : Nat → Bool} {held : Bool} {r : Reach} {t e : TypeId} {v : Value} {d : DataW H} {p : List MemPlace} {N : Nat}
variable {f0 f1 f2 f3 f4 : Field} {eb ee : TypeId}
/-- An edit that came in. -/
theorem trod_editN (ht : P.underlying t = some (.struct #[f0, f1, f2, f3, f4])) (hone : oneCellFields P #[f0, f1, f2, f3, f4] = true)
    (k0 : P.underlying f0.type = some (.slice eb)) (kb : P.underlying eb = some (.int .u8)) (cb : P.cellsOf eb = 1) (k1 : P.underlying f1.type = some .bool) (k2 : P.underlying f2.type = some (.slice eb)) (k3 : P.underlying f3.type = some .bool) (k4 : P.underlying f4.type = some (.int .i64))
    {fuel : Nat} {cs : List Value} (hl : cs.length = 5) {x : DataW H × List MemPlace} (h : DataW.trod enc P w base spare held fuel t cs = some x) (hN : Rows.uptoBulk x.1 ≤ N) : ∃ y : EdT, cs = y.cells ∧ y.Ok w w.heap.size := by
  match cs, hl with
  | [x0, x1, x2, x3, x4], _ =>
    obtain ⟨xs, n, hn, hx, _, hlen, hg⟩ := DataW.trod_struct ht h
    obtain ⟨o0, q0⟩ := hone_of hone 0 f0 rfl
    obtain ⟨o1, q1⟩ := hone_of hone 1 f1 rfl
    obtain ⟨o2, q2⟩ := hone_of hone 2 f2 rfl
    obtain ⟨o3, q3⟩ := hone_of hone 3 f3 rfl
    obtain ⟨o4, q4⟩ := hone_of hone 4 f4 rfl
    match xs, hlen with
    | [y0, y1, y2, y3, y4], _ =>
      have hy0 : DataW.trod enc P w base spare held n f0.type [x0] = some y0 := by simpa [o0, q0] using hg 0 f0 rfl
      have hy1 : DataW.trod enc P w base spare held n f1.type [x1] = some y1 := by simpa [o1, q1] using hg 1 f1 rfl
      have hy2 : DataW.trod enc P w base spare held n f2.type [x2] = some y2 := by simpa [o2, q2] using hg 2 f2 rfl
      have hy3 : DataW.trod enc P w base spare held n f3.type [x3] = some y3 := by simpa [o3, q3] using hg 3 f3 rfl
      have hy4 : DataW.trod enc P w base spare held n f4.type [x4] = some y4 := by simpa [o4, q4] using hg 4 f4 rfl
      have hb : ∀ y ∈ [y0, y1, y2, y3, y4], Rows.uptoBulk y.1 ≤ N := fun y hy => by
        have hd : x.1 = _ := (Prod.ext_iff.1 hx).1
        rw [hd] at hN
        exact Nat.le_trans (blk_agg (List.mem_map_of_mem (f := (·.1)) hy)) hN
      obtain ⟨a, e0, ha, _⟩ := trod_pieceN k0 kb cb hy0 (hb y0 (by simp))
      obtain ⟨z1, e1, _⟩ := DataW.trod_bool k1 hy1
      obtain ⟨b, e2, hb2, _⟩ := trod_pieceN k2 kb cb hy2 (hb y2 (by simp))
      obtain ⟨z3, e3, _⟩ := DataW.trod_bool k3 hy3
      obtain ⟨z4, e4, _, w4⟩ := DataW.trod_int k4 hy4
      simp only [List.cons.injEq, and_true] at e0 e1 e2 e3 e4
      subst e0 e1 e2 e3 e4
      have hw := wf_i64 w4
      exact ⟨⟨a, z1, b, z3, z4⟩, rfl, ⟨ha, hb2, ⟨hw.1, show z4 ≤ 9223372036854775807 by omega⟩⟩⟩
/-- A row of edits. -/
theorem trod_editsN (hs : P.underlying t = some (.slice e)) (ht : P.underlying e = some (.struct #[f0, f1, f2, f3, f4])) (hone : oneCellFields P #[f0, f1, f2, f3, f4] = true) (hC : P.cellsOf e = 5)
    (k0 : P.underlying f0.type = some (.slice eb)) (kb : P.underlying eb = some (.int .u8)) (cb : P.cellsOf eb = 1) (k1 : P.underlying f1.type = some .bool) (k2 : P.underlying f2.type = some (.slice eb)) (k3 : P.underlying f3.type = some .bool) (k4 : P.underlying f4.type = some (.int .i64))
    {fuel : Nat} {cs : List Value} {x : DataW H × List MemPlace} (h : DataW.trod enc P w base spare held fuel t cs = some x) (hN : Rows.uptoBulk x.1 ≤ N) : ∃ X : EsT, cs = [X.val] ∧ X.Lie w w.heap.size := by
  obtain ⟨A, n, c, l, e1, hS, hL, a1, a2, a3⟩ := open_rowsN EdT.cells ⟨⟨none, 0, 0, []⟩, false, ⟨none, 0, 0, []⟩, false, 0⟩ 5 (by decide) (fun _ => rfl) (fun x => x.Ok w w.heap.size) hs hC (fun n' cs' y _ hl' hy' hb' => trod_editN ht hone k0 kb cb k1 k2 k3 k4 hl' hy' hb') h hN
  exact ⟨⟨A, n, c, l⟩, e1, ⟨hS, hL, a1, a2, a3⟩⟩
theorem came_edits (hs : P.underlying t = some (.slice e)) (ht : P.underlying e = some (.struct #[f0, f1, f2, f3, f4])) (hone : oneCellFields P #[f0, f1, f2, f3, f4] = true) (hC : P.cellsOf e = 5)
    (k0 : P.underlying f0.type = some (.slice eb)) (kb : P.underlying eb = some (.int .u8)) (cb : P.cellsOf eb = 1) (k1 : P.underlying f1.type = some .bool) (k2 : P.underlying f2.type = some (.slice eb)) (k3 : P.underlying f3.type = some .bool) (k4 : P.underlying f4.type = some (.int .i64))
    {A : Option Addr} {n c : Nat} (h : DataW.Trod enc P w base spare held t (.slice A n c) d p) : ∃ l : List EdT, (⟨A, n, c, l⟩ : EsT).Lie w w.heap.size := by
  obtain ⟨fuel, hf⟩ := h
  have hf' : DataW.trod enc P w base spare held fuel t [.slice A n c] = some (d, p) := by simpa [Value.cells] using hf
  obtain ⟨⟨A', n', c', l⟩, e1, hl⟩ := trod_editsN hs ht hone hC k0 kb cb k1 k2 k3 k4 hf' (Nat.le_refl _)
  simp only [EsT.val, List.cons.injEq, Value.slice.injEq, and_true] at e1
  obtain ⟨rfl, rfl, rfl⟩ := e1
  exact ⟨l, hl⟩
/-- Rows of edits. -/
theorem came_editRows (hr : P.underlying t = some (.slice ee)) (hCr : P.cellsOf ee = 1) (hs : P.underlying ee = some (.slice e)) (ht : P.underlying e = some (.struct #[f0, f1, f2, f3, f4])) (hone : oneCellFields P #[f0, f1, f2, f3, f4] = true) (hC : P.cellsOf e = 5)
    (k0 : P.underlying f0.type = some (.slice eb)) (kb : P.underlying eb = some (.int .u8)) (cb : P.cellsOf eb = 1) (k1 : P.underlying f1.type = some .bool) (k2 : P.underlying f2.type = some (.slice eb)) (k3 : P.underlying f3.type = some .bool) (k4 : P.underlying f4.type = some (.int .i64))
    {A : Option Addr} {n c : Nat} (h : DataW.Trod enc P w base spare held t (.slice A n c) d p) : ∃ L : List EsT, Shows w w.heap.size 1 A n (L.map EsT.val) ∧ (∀ X ∈ L, X.Lie w w.heap.size) ∧ (A = none → c = 0) ∧ n ≤ c ∧ c ≤ maxLen := by
  obtain ⟨fuel, hf⟩ := h
  have hf' : DataW.trod enc P w base spare held fuel t [.slice A n c] = some (d, p) := by simpa [Value.cells] using hf
  obtain ⟨A', n', c', L, e1, hS, hL, a1, a2, a3⟩ := open_rowsN (N := Rows.uptoBulk d) (fun X : EsT => [X.val]) ⟨none, 0, 0, []⟩ 1 (by decide) (fun _ => rfl) (fun X => X.Lie w w.heap.size) hr hCr (fun n' cs' y _ hl' hy' hb' => trod_editsN hs ht hone hC k0 kb cb k1 k2 k3 k4 hy' hb') hf' (Nat.le_refl _)
  simp only [List.cons.injEq, Value.slice.injEq, and_true] at e1
  obtain ⟨rfl, rfl, rfl⟩ := e1
  rw [flat_one EsT.val] at hS
  exact ⟨L, hS, hL, a1, a2, a3⟩
end
end Go.Proofs.Ytkbcgcokokddlaa
/-
  Items as they lie. No program in sight.
-/
namespace Go.Proofs.Ytkbcgcokokddlaa
open Go.RowKit
set_option linter.unusedVariables false

/-- An item, with the heads of its rows. -/
structure ItT where
  k : PcT
  v : PcT
  b : Bool
  n : Int
def ItT.cells (x : ItT) : List Value := [.slice x.k.A x.k.n x.k.c, .slice x.v.A x.v.n x.v.c, .bool x.b, .int .i64 x.n]
structure ItT.Ok (w : World) (B : Nat) (x : ItT) : Prop where
  key : x.k.Ok w B
  val : x.v.Ok w B
  num : -9223372036854775808 ≤ x.n ∧ x.n < 9223372036854775808
theorem ItT.Ok.later {w w' : World} {B : Nat} {x : ItT} (h : x.Ok w B) (hb : Below B w w') : x.Ok w' B := ⟨h.key.later hb, h.val.later hb, h.num⟩
theorem ItT.Ok.more {w : World} {B B' : Nat} {x : ItT} (h : x.Ok w B) (hB : B ≤ B') : x.Ok w B' := ⟨h.key.more hB, h.val.more hB, h.num⟩
/-- An item's cells. -/
theorem it_at {w : World} {B n : Nat} {A : Option Addr} {L : List ItT} (h : Shows w B 4 A n (L.flatMap ItT.cells)) {i : Nat} (hi : i < n) : ∃ b off x, A = some ⟨b, off, none⟩ ∧ b < B ∧ L[i]? = some x ∧
    w.cell? ⟨b, off + i * 4, none⟩ = some (.slice x.k.A x.k.n x.k.c) ∧ w.cell? ⟨b, off + i * 4 + 1, none⟩ = some (.slice x.v.A x.v.n x.v.c) ∧ w.cell? ⟨b, off + i * 4 + 2, none⟩ = some (.bool x.b) ∧ w.cell? ⟨b, off + i * 4 + 3, none⟩ = some (.int .i64 x.n) := by
  have hl : L.length = n := by have := h.1; rw [flatN_len ItT.cells 4 (fun _ => rfl)] at this; omega
  obtain ⟨b, off, rfl, hb, hc⟩ := h.2 (by omega)
  have hx : L[i]? = some (L[i]'(by omega)) := List.getElem?_eq_getElem (by omega)
  refine ⟨b, off, _, rfl, hb, hx, ?_, ?_, ?_, ?_⟩
  · exact hc (i * 4 + 0) _ ((flatN_at ItT.cells 4 (fun _ => rfl) L i _ hx 0 (by omega)).trans rfl)
  · exact hc (i * 4 + 1) _ ((flatN_at ItT.cells 4 (fun _ => rfl) L i _ hx 1 (by omega)).trans rfl)
  · exact hc (i * 4 + 2) _ ((flatN_at ItT.cells 4 (fun _ => rfl) L i _ hx 2 (by omega)).trans rfl)
  · exact hc (i * 4 + 3) _ ((flatN_at ItT.cells 4 (fun _ => rfl) L i _ hx 3 (by omega)).trans rfl)
end Go.Proofs.Ytkbcgcokokddlaa
