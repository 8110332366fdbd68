import Derived.Test.YtnfohlabmidliaaRows
import Derived.Test.YtnfohlabmidliaaGaa
import Derived.Deep.QuietTactic
import Derived.BigQuiet
import Derived.Lib.Hide
import Derived.Laws.BytesString
import Derived.Laws.Cells
import Derived.Test.YtnfohlabmidliaaGaf
import Derived.Test.YtnfohlabmidliaaGah
import Derived.Test.YtnfohlabmidliaaGaj
import Derived.Test.YtnfohlabmidliaaGai
import Derived.Test.YtnfohlabmidliaaGae
import Derived.Test.YtnfohlabmidliaaGag
import Derived.Test.YtnfohlabmidliaaGac
import Derived.Lib.SlBytesConst
import Derived.Lib.SmallJoins
namespace Go.Proofs.Ytnfohlabmidliaa
open Go.RowKit

def sameB (l1 l2 : List UInt8) : Bool := decide (l1 = l2)

end Go.Proofs.Ytnfohlabmidliaa
/-
  Strings: a list of bytes as a string; '[]byte' made a string. No program in sight.
-/
namespace Go.Proofs.Ytnfohlabmidliaa
open Go.RowKit

/-- A list of bytes as a string. -/
def ofL (l : List UInt8) : ByteArray := ⟨l.toArray⟩
theorem ofL_toList (l : List UInt8) : (ofL l).data.toList = l := by simp [ofL]
theorem ofL_size (l : List UInt8) : (ofL l).size = l.length := by simp [ofL, ByteArray.size]
theorem ofL_of (s : ByteArray) : ofL s.data.toList = s := by
  cases s
  simp [ofL]
theorem ofL_inj {l m : List UInt8} (h : ofL l = ofL m) : l = m := by
  have := congrArg (fun s : ByteArray => s.data.toList) h
  simpa [ofL_toList] using this
theorem ofL_push (l : List UInt8) (c : UInt8) : (ofL l).push c = ofL (l ++ [c]) := by
  simp [ofL, ByteArray.push]
theorem foldl_push : ∀ (l r : List UInt8), (l.map fun c => (c.toNat : Int)).foldl (fun r n => r.push (UInt8.ofNat n.toNat)) (ofL r) = ofL (r ++ l)
  | [], r => by simp
  | c :: l, r => by
    simp only [List.map_cons, List.foldl_cons]
    rw [show UInt8.ofNat ((c.toNat : Int)).toNat = c by simp, ofL_push, foldl_push l]
    simp

theorem run_bytes_string {P : Program} {src dst e : TypeId} (hs : P.underlying src = some (.slice e)) (he : P.underlying e = some (.int .u8)) (hd : P.underlying dst = some .string)
    (w : World) (A : Option Addr) (n c B : Nat) (l : List UInt8) (h : Bytes w B A n l) : (convert src dst (.slice A n c)).run P w = .ok (.string (ofL l)) w := by
  rw [run_convert_bytes_string w src dst e A n c hs he hd]
  have hn := h.len
  rcases A with _ | a
  · have hz : l = [] := by
      rcases Nat.eq_zero_or_pos n with h0 | h0
      · exact List.eq_nil_of_length_eq_zero (by omega)
      · obtain ⟨_, _, e1, _⟩ := h.2 h0
        cases e1
    subst hz
    rfl
  · have hc : ∀ j v, (l.map bv)[j]? = some v → w.cell? (a.add j) = some v := by
      intro j v hj
      have h0 : 0 < n := by
        rcases Nat.eq_zero_or_pos n with h0 | h0
        · have : l = [] := List.eq_nil_of_length_eq_zero (by omega)
          subst this
          simp at hj
        · exact h0
      obtain ⟨b, off, e1, _, h2⟩ := h.2 h0
      injection e1 with e1
      subst e1
      rw [addr_add]
      exact h2 j v hj
    have hl := run_loadCells_list (P := P) (w := w) a (l.map bv) hc
    rw [List.length_map, hn] at hl
    have h2 := run_bytesToString (P := P) w a n c (l.map fun c => (c.toNat : Int)) (by rw [hl, List.map_map]; rfl)
    rw [h2]
    have h3 := foldl_push l []
    rw [show (ByteArray.empty) = ofL [] from rfl, h3]
    rfl
end Go.Proofs.Ytnfohlabmidliaa
/-
  bytes.Equal, bytes.HasPrefix.
-/
namespace Go.Proofs.Ytnfohlabmidliaa
open Go.RowKit

theorem bofL_beq (l m : List UInt8) : ((ofL l).toList == (ofL m).toList) = sameB l m := by
  unfold sameB
  rw [ByteArray.toList_eq, ByteArray.toList_eq, ofL_toList, ofL_toList, Bool.eq_iff_iff, beq_iff_eq, decide_eq_true_iff]
set_option maxRecDepth 20000 in
set_option maxHeartbeats 1000000 in
theorem bequal_any (A1 A2 : Option Addr) (n1 c1 n2 c2 : Nat) (l1 l2 : List UInt8) (B1 B2 : Nat) (w : World) (h1 : Bytes w B1 A1 n1 l1) (h2 : Bytes w B2 A2 n2 l2) (b : Bool) (hb : sameB l1 l2 = b) :
    Calls Try.prog 19 #[.slice A1 n1 c1, .slice A2 n2 c2] w fun e w' => e = .returned (.bool b) ∧ w = w' := by
  have k1 := run_bytes_string (P := Try.prog) Try.underlying32 Try.underlying5 Try.underlying9 w A1 n1 c1 B1 l1 h1
  have k2 := run_bytes_string (P := Try.prog) Try.underlying32 Try.underlying5 Try.underlying9 w A2 n2 c2 B2 l2 h2
  have hbe : ((ofL l1).toList == (ofL l2).toList) = b := (bofL_beq l1 l2).trans hb
  generalize ofL l1 = s1 at *
  generalize ofL l2 = s2 at *
  clear h1 h2 hb
  go_enter Try.func19, Try.ntmps19
  go_wp2
  go_ret
  exact ⟨rfl, rfl⟩
theorem prefix_yes {l1 l2 : List UInt8} {n1 n2 : Nat} (h1 : l1.length = n1) (h2 : l2.length = n2) (h : l2 <+: l1) : (decide (n2 ≤ n1) && sameB (l1.take n2) l2) = true := by
  have hl := h.length_le
  unfold sameB
  rw [decide_eq_true (by omega), decide_eq_true (by rw [← h2]; exact (List.prefix_iff_eq_take.1 h).symm)]
  rfl
end Go.Proofs.Ytnfohlabmidliaa
/-
  Place.
-/
namespace Go.Proofs.Ytnfohlabmidliaa
open Go.RowKit
set_option linter.unusedVariables false

/-- How many keys stand ahead of a key; where it stands or would; whether it does. -/
def lessN (L : List EnT) (q : List UInt8) : Nat := L.countP fun x => decide (0 < cmpL q x.key.l)
def NoT.isAt (X : NoT) (q : List UInt8) : Bool := match X.ents[lessN X.ents q]? with | none => false | some x => sameB x.key.l q
def NoT.plAt (X : NoT) (q : List UInt8) : Nat := if X.leaf then lessN X.ents q else if X.isAt q then lessN X.ents q else lessN X.ents q - 1
theorem less_le (L : List EnT) (q : List UInt8) : lessN L q ≤ L.length := List.countP_le_length
theorem less_hit {L : List EnT} {k : Nat} {x : EnT} {q : List UInt8} (h : L[k]? = some x) (hc : 0 < cmpL q x.key.l) : lessN (L.take (k + 1)) q = lessN (L.take k) q + 1 := by
  unfold lessN
  rw [takeN h, List.countP_append, List.countP_singleton, decide_eq_true hc]
  rfl
theorem less_miss {L : List EnT} {k : Nat} {x : EnT} {q : List UInt8} (h : L[k]? = some x) (hc : ¬ 0 < cmpL q x.key.l) : lessN (L.take (k + 1)) q = lessN (L.take k) q := by
  unfold lessN
  rw [takeN h, List.countP_append, List.countP_singleton, decide_eq_false hc]
  rfl
def PlaP (X : NoT) (q : List UInt8) (W : World) (e : Ending) (w' : World) : Prop :=
  Below W.heap.size W w' ∧ ((X.okB = false ∧ e = .returned (.tuple #[.int .i64 0, .bool false])) ∨ (X.okB = true ∧ e = .returned (.tuple #[.int .i64 (X.plAt q : Nat), .bool (X.isAt q)])))
set_option maxRecDepth 20000 in
theorem after_any (A1 A2 : Option Addr) (n1 c1 n2 c2 : Nat) (l1 l2 : List UInt8) (B1 B2 : Nat) (w : World) (h1 : Bytes w B1 A1 n1 l1) (h2 : Bytes w B2 A2 n2 l2) (z : Int) (hz : cmpL l1 l2 = z) :
    Calls Try.prog 48 #[.slice A1 n1 c1, .slice A2 n2 c2] w fun e w' => e = .returned (.bool (decide (0 < z))) ∧ w' = w := by
  have hc := bcompare_any A1 A2 n1 c1 n2 c2 l1 l2 B1 B2 w h1 h2
  rw [hz] at hc
  clear h1 h2 hz
  by_cases h : 0 < z
  · rw [decide_eq_true h]
    go_enter Try.func48, Try.ntmps48
    go_wp2_with fail
    refine hc.mono ?_
    rintro e w1 ⟨rfl, rfl⟩
    go_wp2
    go_ret
    exact ⟨rfl, rfl⟩
  · rw [decide_eq_false h]
    have h' : (0 < z) = False := eq_false h
    clear h
    go_enter Try.func48, Try.ntmps48
    go_wp2_with fail
    refine hc.mono ?_
    rintro e w1 ⟨rfl, rfl⟩
    go_wp2
    go_ret
    exact ⟨rfl, rfl⟩
set_option maxRecDepth 20000 in
set_option maxHeartbeats 4000000 in
theorem place14_any (X : NoT) (q : PcT) (B : Nat) (w : World) (hX : LieN w B X) (hq : q.Ok w B) (hB : B ≤ w.heap.size) :
    Calls Try.prog 28 #[X.agg, .slice q.A q.n q.c] w (PlaP X q.l w) := by
  have hb := bel_alloc (Below.refl w.heap.size w) (.cells #[.bool X.leaf, .slice X.iA X.iN X.iC, .slice X.kA X.kN X.kC] 25)
  have hcall := checked_any X B _ (hX.later (hb.mono hB)) (Nat.le_trans hB hb.size)
  have hagg : X.agg = .agg #[.bool X.leaf, .slice X.iA X.iN X.iC, .slice X.kA X.kN X.kC] := rfl
  have hleaf : (w.alloc (.cells #[.bool X.leaf, .slice X.iA X.iN X.iC, .slice X.kA X.kN X.kC] 25)).cell? ⟨w.heap.size, 0, none⟩ = some (.bool X.leaf) := World.cell?_alloc_new _ _ _ 0
  rw [hagg] at hcall ⊢
  have HX := Lib.hid hX
  have HQ := Lib.hid hq
  obtain ⟨qA, qn, qc, ql⟩ := q
  simp only
  clear hX hagg hq
  go_enter Try.func28, Try.ntmps28
  go_wp2_with fail
  generalize w.alloc (.cells #[.bool X.leaf, .slice X.iA X.iN X.iC, .slice X.kA X.kN X.kC] 25) = W1 at *
  refine hcall.mono ?_
  rintro e w2 ⟨hb2, ⟨hok, rfl⟩ | ⟨hok, A, n, c, rfl, hn, hO⟩⟩
  · have hb3 := bel_alloc (bel_next hb hb2) (.cells #[.int .i64 0, .int .i64 0, .int .i64 0, .int .u64 0, .int .i64 0, .int .i64 0] 37)
    have HK := Lib.hid hok
    clear hb2 hok hcall hb hleaf
    go_wp2
    go_ret2
    exact ⟨hb3, .inl ⟨HK.out, rfl⟩⟩
  · have hl := shape_len HX.out (okB_parts hok).1
    have hleaf := mkept_later hb2 hleaf
    have hb3 := bel_next hb hb2
    obtain ⟨R, hR⟩ : ∃ R, X.all.1 = R := ⟨_, rfl⟩
    rw [hR]
    obtain ⟨W3, hW3⟩ : ∃ W3, w2.alloc (.cells #[.int .i64 R.c, .int .i64 R.i, .int .i64 (hiI R.v), .int .u64 (loI R.v), .int .i64 R.l, .int .i64 R.m] 37) = W3 := ⟨_, rfl⟩
    have hb23 : Below w2.heap.size w2 W3 := by rw [← hW3]; exact bel_alloc (Below.refl _ _) _
    have hb4 := bel_next hb3 hb23
    have hleaf := mkept_later hb23 hleaf
    have hO3 := own_later hO hb23
    have HE := Lib.hid (show EntsL W3 W3.heap.size A n X.ents from ⟨Shows.own hO3, fun x hx => by
      have h := (ents_ok HX.out x hx).later (hb4.mono hB)
      have hsz2 := hb4.size
      cases x
      · exact ItT.Ok.more h (by omega)
      · exact KiT.Ok.more h (by omega)⟩)
    have HQ3 := Lib.hid (HQ.out.later (hb4.mono hB))
    have HW3 := Lib.hid hW3
    have HK := Lib.hid hok
    have HN := Lib.hid hn
    have hn6 : n ≤ 6 := by omega
    clear hb2 hok hcall hb hW3 hO hR hO3 hb3 hl hn hb23
    go_upto_region 4 with fail
    rw [HW3.out]
    clear HW3
    obtain ⟨leaf, hlf⟩ : ∃ z, X.leaf = z := ⟨_, rfl⟩
    have HLF := Lib.hid hlf
    rw [hlf] at hleaf
    clear hlf
    have HLF2 := Lib.hid hleaf
    go_wp2_with fail
    go_loopw [10, 26] (fun v y wr => ∃ (k m : Nat), k ≤ n ∧ y = .int .i64 k ∧ v = .int .i64 m ∧ m ≤ k ∧ Hid (lessN (X.ents.take k) ql = m) ∧ Below W3.heap.size W3 wr) (fun _ y _ => n - (intOf y).toNat)
    case atStart => exact ⟨0, 0, Nat.zero_le _, rfl, rfl, Nat.le_refl _, Lib.hid rfl, Below.refl _ _⟩
    case round =>
      clear hleaf
      obtain ⟨k, m, hk, rfl, rfl, hm, HM, hbr⟩ := hrel
      have hsr := hbr.size
      have hbw := bel_next hb4 hbr
      have HEr := Lib.hid (HE.out.later hbr)
      have hs4 := hb4.size
      by_cases hlt : k < n
      · obtain ⟨b, off, x, rfl, hbB, hx, x0⟩ := HEr.out.cell hlt
        have hlt' : (k : Int) < (n : Int) := by omega
        have HX2 := Lib.hid (And.intro (fun h => less_hit (q := ql) hx h) (fun h => less_miss (q := ql) hx h))
        have hxo := HEr.out.ok x (List.mem_of_getElem? hx)
        have HXK := Lib.hid (EnT.Ok.key hxo)
        clear hx hxo
        rcases x with x | x <;> simp only [EnT.val, EnT.key] at x0 HX2 HXK <;>
        · go_wp2_with fail
          first | refine (itName_any x wr).mono ?_ | refine (kiName_any x wr).mono ?_
          rintro e w5 ⟨rfl, hb5⟩
          have hb6 := bel_next hbr hb5
          obtain ⟨z, hz⟩ : ∃ z, cmpL ql x.k.l = z := ⟨_, rfl⟩
          have hca := after_any qA x.k.A qn qc x.k.n x.k.c ql x.k.l _ _ w5 (HQ3.out.later (hb6.mono (Nat.le_trans hB hs4))).here (HXK.out.later (hb5.mono hsr)).here z hz
          have HZ := Lib.hid hz
          clear hz hb5 hbr hbw x0
          by_cases h0 : 0 < z
          · rw [decide_eq_true h0] at hca
            have HM2 := Lib.hid (show lessN (X.ents.take (k + 1)) ql = m + 1 by rw [HX2.out.1 (by show 0 < cmpL ql x.k.l; rw [HZ.out]; exact h0), HM.out])
            clear h0
            go_wp2_with fail
            refine hca.mono ?_
            rintro e w6 ⟨rfl, rfl⟩
            clear hca
            go_wp2
            go_roundw
            case rel => exact ⟨k + 1, m + 1, by omega, by go_num, by go_num, by omega, HM2, hb6⟩
            case measure => simp [intOf]; omega
          · rw [decide_eq_false h0] at hca
            have HM2 := Lib.hid (show lessN (X.ents.take (k + 1)) ql = m by rw [HX2.out.2 (by show cmpL ql x.k.l ≤ 0; rw [HZ.out]; omega), HM.out])
            clear h0
            go_wp2_with fail
            refine hca.mono ?_
            rintro e w6 ⟨rfl, rfl⟩
            clear hca
            go_wp2
            go_roundw
            case rel => exact ⟨k + 1, m, by omega, by go_num, rfl, by omega, HM2, hb6⟩
            case measure => simp [intOf]; omega
      · obtain rfl : n = k := by omega
        have HL := Lib.hid (show lessN X.ents ql = m by have h := HM.out; rwa [List.take_of_length_le (by rw [← HN.out]; exact Nat.le_refl _)] at h)
        have hleaf := mkept_later hbr HLF2.out
        by_cases hmn : m < n
        · obtain ⟨b, off, x, rfl, hbB, hx, x0⟩ := HEr.out.cell hmn
          have hmn' : (m : Int) < (n : Int) := by omega
          have hm0 : (0 : Int) ≤ (m : Int) := by omega
          have hxo := HEr.out.ok x (List.mem_of_getElem? hx)
          have HXK := Lib.hid (EnT.Ok.key hxo)
          obtain ⟨s, hs⟩ : ∃ s, sameB x.key.l ql = s := ⟨_, rfl⟩
          have HI := Lib.hid (show X.isAt ql = s by unfold NoT.isAt; rw [HL.out, hx]; exact hs)
          have HS := Lib.hid hs
          clear hx hxo hlt hs
          rcases x with x | x <;> simp only [EnT.val, EnT.key] at x0 HXK HS <;>
          · go_wp2_with fail
            first | refine (itName_any x wr).mono ?_ | refine (kiName_any x wr).mono ?_
            rintro e w5 ⟨rfl, hb5⟩
            have hb6 := bel_next hbr hb5
            have hb7 := bel_next hbw hb5
            have hleaf := mkept_later hb5 hleaf
            have hce := bequal_any x.k.A qA x.k.n x.k.c qn qc x.k.l ql _ _ w5 (HXK.out.later (hb5.mono hsr)).here (HQ3.out.later (hb6.mono (Nat.le_trans hB hs4))).here s HS.out
            clear hb5 hbr hbw x0 hb6
            go_wp2_with fail
            refine hce.mono ?_
            rintro e w6 ⟨rfl, rfl⟩
            clear hce
            cases leaf <;> cases s
            · have HP := Lib.hid (show X.plAt ql = m - 1 by unfold NoT.plAt; rw [HLF.out, HI.out, HL.out]; rfl)
              by_cases h1 : 1 ≤ m
              · have h2 : ¬ ((m : Int) - 1 < 0) := by omega
                obtain ⟨j, rfl⟩ : ∃ j, m = j + 1 := ⟨m - 1, by omega⟩
                have hmx : max ((j : Nat) : Int) 0 = (j : Int) := by omega
                go_wp2
                go_ret2
                exact ⟨hb7, .inr ⟨HK.out, by rw [HP.out, HI.out, Nat.add_sub_cancel]; rfl⟩⟩
              · obtain rfl : m = 0 := by omega
                have hmx : max (-1 : Int) 0 = 0 := by omega
                go_wp2
                go_ret2
                exact ⟨hb7, .inr ⟨HK.out, by rw [HP.out, HI.out]; rfl⟩⟩
            · have HP := Lib.hid (show X.plAt ql = m by unfold NoT.plAt; rw [HLF.out, HI.out, HL.out]; rfl)
              go_wp2
              go_ret2
              exact ⟨hb7, .inr ⟨HK.out, by rw [HP.out, HI.out]; rfl⟩⟩
            · have HP := Lib.hid (show X.plAt ql = m by unfold NoT.plAt; rw [HLF.out, HL.out]; rfl)
              go_wp2
              go_ret2
              exact ⟨hb7, .inr ⟨HK.out, by rw [HP.out, HI.out]; rfl⟩⟩
            · have HP := Lib.hid (show X.plAt ql = m by unfold NoT.plAt; rw [HLF.out, HL.out]; rfl)
              go_wp2
              go_ret2
              exact ⟨hb7, .inr ⟨HK.out, by rw [HP.out, HI.out]; rfl⟩⟩
        · obtain rfl : n = m := by omega
          have HI := Lib.hid (show X.isAt ql = false by unfold NoT.isAt; rw [HL.out, List.getElem?_eq_none (by rw [← HN.out]; exact Nat.le_refl _)])
          have hn1 : 1 ≤ n := by
            have h := shape_len HX.out (okB_parts HK.out).1
            rw [HN.out]
            exact h.2
          cases leaf
          · have HP := Lib.hid (show X.plAt ql = n - 1 by unfold NoT.plAt; rw [HLF.out, HI.out, HL.out]; rfl)
            obtain ⟨j, rfl⟩ : ∃ j, n = j + 1 := ⟨n - 1, by omega⟩
            have h2 : ¬ (((j + 1 : Nat) : Int) - 1 < 0) := by omega
            have hmx : max ((j : Nat) : Int) 0 = (j : Int) := by omega
            clear hmn hlt hm
            go_wp2
            go_ret2
            exact ⟨hbw, .inr ⟨HK.out, by rw [HP.out, HI.out, Nat.add_sub_cancel]; rfl⟩⟩
          · have HP := Lib.hid (show X.plAt ql = n by unfold NoT.plAt; rw [HLF.out, HL.out]; rfl)
            clear hmn hlt hm
            go_wp2
            go_ret2
            exact ⟨hbw, .inr ⟨HK.out, by rw [HP.out, HI.out]; rfl⟩⟩
end Go.Proofs.Ytnfohlabmidliaa
/-
  Same.
-/
namespace Go.Proofs.Ytnfohlabmidliaa
open Go.RowKit
set_option linter.unusedVariables false

/-- What Same answers. -/
def sameN (X Y : NoT) : Bool := X.okB && (Y.okB && sameB X.enc Y.enc)
set_option maxRecDepth 20000 in
set_option maxHeartbeats 2000000 in
theorem same14_any (X Y : NoT) (B : Nat) (w : World) (hX : LieN w B X) (hY : LieN w B Y) (hB : B ≤ w.heap.size) :
    Calls Try.prog 16 #[X.agg, Y.agg] w fun e w' => e = .returned (.bool (sameN X Y)) ∧ Below w.heap.size w w' := by
  have hb0 := bel_alloc (Below.refl w.heap.size w) (.cells #[.bool X.leaf, .slice X.iA X.iN X.iC, .slice X.kA X.kN X.kC] 25)
  have hb := bel_alloc hb0 (.cells #[.bool Y.leaf, .slice Y.iA Y.iN Y.iC, .slice Y.kA Y.kN Y.kC] 25)
  have hcx := encode_any X B _ (hX.later (hb.mono hB)) (Nat.le_trans hB hb.size)
  have HY := Lib.hid (hY.later (hb.mono hB))
  have ha1 : X.agg = .agg #[.bool X.leaf, .slice X.iA X.iN X.iC, .slice X.kA X.kN X.kC] := rfl
  have ha2 : Y.agg = .agg #[.bool Y.leaf, .slice Y.iA Y.iN Y.iC, .slice Y.kA Y.kN Y.kC] := rfl
  have hn := NBox.new (w.alloc (.cells #[.bool X.leaf, .slice X.iA X.iN X.iC, .slice X.kA X.kN X.kC] 25)) (.bool Y.leaf) (.slice Y.iA Y.iN Y.iC) (.slice Y.kA Y.kN Y.kC) 25
  rw [World.size_alloc] at hn
  obtain ⟨z, hz⟩ : ∃ z, sameN X Y = z := ⟨_, rfl⟩
  have HZ := Lib.hid hz
  have HA2 := Lib.hid ha2
  rw [hz, ha1, ha2]
  rw [ha1] at hcx
  have HN := Lib.hid hn
  clear hX hY hb0 hn ha1 ha2 hz
  go_enter Try.func16, Try.ntmps16
  go_wp2_with fail
  generalize (w.alloc (.cells #[.bool X.leaf, .slice X.iA X.iN X.iC, .slice X.kA X.kN X.kC] 25)).alloc (.cells #[.bool Y.leaf, .slice Y.iA Y.iN Y.iC, .slice Y.kA Y.kN Y.kC] 25) = W1 at *
  have hsB := Nat.le_trans hB hb.size
  refine hcx.mono ?_
  rintro e w2 ⟨hb2, hh⟩
  have hcy := encode_any Y B w2 (HY.out.later (hb2.mono hsB)) (Nat.le_trans hsB hb2.size)
  rw [HA2.out] at hcy
  obtain ⟨⟨y0, y1, y2⟩, -⟩ := HN.out.later hb2
  have hb3 := bel_next hb hb2
  clear hcx HA2 HN HY hb
  rcases hh with ⟨hok, rfl⟩ | ⟨hok, A, n, c, rfl, hO⟩
  · obtain rfl : z = false := by rw [← HZ.out]; unfold sameN; rw [hok]; rfl
    clear hok hb2
    go_wp2_with fail
    refine hcy.mono ?_
    rintro e w3 ⟨hb4, hh⟩
    have hb5 := bel_next hb3 hb4
    clear hb3 hb4 hcy y0 y1 y2
    rcases hh with ⟨hok, rfl⟩ | ⟨hok, A, n, c, rfl, hO⟩
    · clear hok
      go_wp2
      go_ret
      exact ⟨rfl, hb5⟩
    · clear hok hO
      go_wp2
      go_ret
      exact ⟨rfl, hb5⟩
  · have HO := Lib.hid hO
    clear hb2 hO
    go_wp2_with fail
    refine hcy.mono ?_
    rintro e w3 ⟨hb4, hh⟩
    have hb5 := bel_next hb3 hb4
    have HO3 := Lib.hid (own_later HO.out hb4)
    clear hb3 hb4 hcy y0 y1 y2 HO
    rcases hh with ⟨hok2, rfl⟩ | ⟨hok2, A2, n2, c2, rfl, hO2⟩
    · obtain rfl : z = false := by rw [← HZ.out]; unfold sameN; rw [hok2, Bool.false_and, Bool.and_false]
      clear hok hok2
      go_wp2
      go_ret
      exact ⟨rfl, hb5⟩
    · have hq : sameB X.enc Y.enc = z := by rw [← HZ.out]; unfold sameN; rw [hok, hok2, Bool.true_and, Bool.true_and]
      have hce := bequal_any A A2 n c n2 c2 X.enc Y.enc _ _ w3 (Bytes.own HO3.out) (Bytes.own hO2) z hq
      clear hok hok2 hq hO2 HO3
      go_wp2_with fail
      refine hce.mono ?_
      rintro e w4 ⟨rfl, rfl⟩
      clear hce
      go_wp2
      go_ret
      exact ⟨rfl, hb5⟩
end Go.Proofs.Ytnfohlabmidliaa
/-
  Decode.
-/
namespace Go.Proofs.Ytnfohlabmidliaa
open Go.RowKit
set_option linter.unusedVariables false

/-- What an entry's bytes say of it. -/
inductive EnS where
  | it (x : ItS)
  | ki (x : KiS)
def EnT.s : EnT → EnS
  | .it x => .it x.s
  | .ki x => .ki x.s
def EnS.okB : EnS → Bool
  | .it x => keyB x.k && decide (x.v.length ≤ 100) && (x.b || decide (x.n = 0))
  | .ki x => keyB x.k && decide (1 ≤ x.a) && decide (x.a < 524288) && x.r.valid && decide (1 ≤ x.r.c)
def EnS.key : EnS → List UInt8
  | .it x => x.k
  | .ki x => x.k
def EnS.red : EnS → RedT
  | .it x => ⟨1, o1 x.b, oN x.b x.n, oN x.b x.n, oN x.b x.n⟩
  | .ki x => x.r
def EnS.put : EnS → List UInt8
  | .it x => x.put
  | .ki x => x.put
theorem ens_okB (x : EnT) : x.okB = x.s.okB := by cases x <;> rfl
theorem ens_key (x : EnT) : x.key.l = x.s.key := by cases x <;> rfl
theorem ens_red (x : EnT) : x.red = x.s.red := by cases x <;> rfl
theorem ens_put (x : EnT) : x.put = x.s.put := by cases x <;> rfl
/-- The lengths agree. -/
def NoT.lens (X : NoT) : Prop := X.I.length = X.iN ∧ X.K.length = X.kN
theorem LieN.lens {w : World} {B : Nat} {X : NoT} (h : LieN w B X) : X.lens := ⟨h.ilen, h.klen⟩
def NoS.ents (N : NoS) : List EnS := if N.leaf then N.I.map .it else N.K.map .ki
theorem ents_s (X : NoT) : X.ents.map EnT.s = X.s.ents := by
  unfold NoT.ents NoS.ents NoT.s
  cases X.leaf
  · simp only [Bool.false_eq_true, if_false, List.map_map]
    rfl
  · simp only [if_true, List.map_map]
    rfl
theorem runOk_s : ∀ (L M : List EnT) (p : Option (List UInt8)), L.map EnT.s = M.map EnT.s → runOk p L = runOk p M
  | [], [], p, _ => rfl
  | [], y :: M, p, h => by simp at h
  | x :: L, [], p, h => by simp at h
  | x :: L, y :: M, p, h => by
    simp only [List.map_cons, List.cons.injEq] at h
    have h1 : x.okB = y.okB := by rw [ens_okB, ens_okB, h.1]
    have h2 : x.key.l = y.key.l := by rw [ens_key, ens_key, h.1]
    have ih := runOk_s L M (some y.key.l) h.2
    cases p with
    | none => unfold runOk; rw [h1, h2, ih]
    | some q => unfold runOk; rw [h1, h2, ih]
theorem map_s {β : Type} (f : EnT → β) (g : EnS → β) (h : ∀ x, f x = g x.s) (L : List EnT) : L.map f = (L.map EnT.s).map g := by
  rw [List.map_map]
  exact List.map_congr_left fun x _ => h x
theorem all_s {X Y : NoT} (h : X.s = Y.s) : X.all = Y.all := by
  unfold NoT.all
  rw [map_s _ _ ens_red, map_s _ _ ens_red, ents_s, ents_s, h]
theorem okB_s {X Y : NoT} (hX : X.lens) (hY : Y.lens) (h : X.s = Y.s) : X.okB = Y.okB := by
  have h1 : X.leaf = Y.leaf := congrArg NoS.leaf h
  have h2 : X.I.length = Y.I.length := by
    have := congrArg (fun N : NoS => N.I.length) h
    simpa [NoT.s] using this
  have h3 : X.K.length = Y.K.length := by
    have := congrArg (fun N : NoS => N.K.length) h
    simpa [NoT.s] using this
  have hs : X.shape = Y.shape := by
    unfold NoT.shape
    rw [h1, ← hX.1, ← hX.2, ← hY.1, ← hY.2, h2, h3]
  unfold NoT.okB
  rw [hs, all_s h, runOk_s X.ents Y.ents none (by rw [ents_s, ents_s, h])]
theorem flat_s (L : List EnT) : L.flatMap EnT.put = (L.map EnT.s).flatMap EnS.put := by
  induction L with
  | nil => rfl
  | cons x L ih => rw [List.flatMap_cons, List.map_cons, List.flatMap_cons, ih, ens_put]
theorem enc_s {X Y : NoT} (h : X.s = Y.s) : X.enc = Y.enc := by
  unfold NoT.enc
  rw [flat_s, flat_s, ents_s, ents_s, show X.ents.length = Y.ents.length by rw [← List.length_map EnT.s, ← List.length_map EnT.s, ents_s, ents_s, h], h, show X.leaf = Y.leaf from congrArg NoS.leaf h]
theorem GivesN.lens {X : NoT} {B D : Nat} {w w' : World} (h : GivesN X B D w w') : X.lens := by
  constructor
  · have := h.irow.1
    rw [flatN_len ItT.cells 4 (fun _ => rfl)] at this
    omega
  · have := h.krow.1
    rw [flatN_len KiT.cells 8 (fun _ => rfl)] at this
    omega
/-- What Decode hands back. -/
def DcdP (b : PcT) (B : Nat) (w : World) (e : Ending) (w' : World) : Prop :=
  Below w.heap.size w w' ∧ ((e = .returned (.tuple #[.agg #[.bool false, .slice none 0 0, .slice none 0 0], .int .i64 240]) ∧ ∀ X : NoT, X.lens → readO b.l = some X.s → X.okB = false) ∨ (∃ X : NoT, e = .returned (.tuple #[X.agg, .int .i64 0]) ∧ readO b.l = some X.s ∧ X.okB = true ∧ GivesN X B w.heap.size w w'))
theorem nbox_set {W : World} {g : Nat} {a b c : Value} (h : NBox W g a b c) : W.cell? ⟨g, 0, none⟩ = some a ∧ W.cell? ⟨g, 1, none⟩ = some b ∧ W.cell? ⟨g, 2, none⟩ = some c ∧ W.frozen? ⟨g, 0, none⟩ = false ∧ W.frozen? ⟨g, 1, none⟩ = false ∧ W.frozen? ⟨g, 2, none⟩ = false := ⟨h.1.1, h.1.2.1, h.1.2.2, h.2.1, h.2.2.1, h.2.2.2⟩
set_option maxRecDepth 20000 in
set_option maxHeartbeats 2000000 in
theorem decode14_any (b : PcT) (B : Nat) (w : World) (hb : b.Ok w B) (hB : B ≤ w.heap.size) :
    Calls Try.prog 25 #[.slice b.A b.n b.c] w (DcdP b B w) := by
  have hb1 := bel_alloc (Below.refl w.heap.size w) (.cells #[.bool false, .slice none 0 0, .slice none 0 0] 25)
  have hn := NBox.new w (.bool false) (.slice none 0 0) (.slice none 0 0) 25
  have hsz : (w.alloc (.cells #[.bool false, .slice none 0 0, .slice none 0 0] 25)).heap.size = w.heap.size + 1 := World.size_alloc _ _
  have HB1 := Lib.hid (hb.later (hb1.mono hB))
  have HN := Lib.hid hn
  have HB0 := Lib.hid hb1
  clear hn hb
  go_enter Try.func25, Try.ntmps25
  go_wp2_with fail
  generalize w.alloc (.cells #[.bool false, .slice none 0 0, .slice none 0 0] 25) = W1 at *
  have hc := decode_any b B W1 HB1.out (Nat.le_trans hB hb1.size)
  refine hc.mono ?_
  rintro e w2 ⟨hb2, ⟨hr, l, A, n, c, A', n', c', rfl⟩ | ⟨X, rfl, hr, hG⟩⟩
  · have hb3 := bel_alloc (bel_next hb1 hb2) (.cells #[.bool l, .slice A n c, .slice A' n' c'] 25)
    obtain ⟨r0, r1, r2, f0, f1, f2⟩ := nbox_set (HN.out.later (bel_alloc hb2 (.cells #[.bool l, .slice A n c, .slice A' n' c'] 25)))
    have hbz := ((hb3.setCell (p := ⟨w.heap.size, 0, none⟩) (Nat.le_refl _) (.bool false)).setCell (p := ⟨w.heap.size, 1, none⟩) (Nat.le_refl _) (.slice none 0 0)).setCell (p := ⟨w.heap.size, 2, none⟩) (Nat.le_refl _) (.slice none 0 0)
    have HR := Lib.hid hr
    clear hc hb2 hr hb1 hb3
    go_wp2
    refine bodyPost_ret (v := .tuple #[.agg #[.bool false, .slice none 0 0, .slice none 0 0], .int .i64 240]) ?_ rfl ⟨hbz, .inl ⟨rfl, fun X _ h => by rw [HR.out] at h; cases h⟩⟩
    simp [results, Try.results25, go_sem, *]
  · have hlie := hG.lie (hb2.mono (Nat.le_trans hB hb1.size)) (Nat.le_trans hB (Nat.le_trans hb1.size hb2.size))
    have hba := bel_alloc hb2 (.cells #[.bool X.leaf, .slice X.iA X.iN X.iC, .slice X.kA X.kN X.kC] 25)
    have hb3 := bel_next hb1 hba
    have hck := check14_any X w2.heap.size _ (hlie.later (bel_alloc (Below.refl w2.heap.size w2) (.cells #[.bool X.leaf, .slice X.iA X.iN X.iC, .slice X.kA X.kN X.kC] 25))) (by rw [World.size_alloc]; omega)
    have hn2 := NBox.new w2 (.bool X.leaf) (.slice X.iA X.iN X.iC) (.slice X.kA X.kN X.kC) 25
    have hGa := hG.later (bel_alloc (Below.refl w2.heap.size w2) (.cells #[.bool X.leaf, .slice X.iA X.iN X.iC, .slice X.kA X.kN X.kC] 25))
    have HR := Lib.hid hr
    have HN2 := Lib.hid (HN.out.later hba)
    have hagg : X.agg = .agg #[.bool X.leaf, .slice X.iA X.iN X.iC, .slice X.kA X.kN X.kC] := rfl
    rw [hagg] at hck ⊢
    have hgs : w.heap.size < W1.heap.size := by omega
    clear hc hb2 hr hlie hG hagg hba hb1 HN
    obtain ⟨a0, a1, a2, -, -, -⟩ := nbox_set hn2
    go_wp2_with fail
    generalize w2.alloc (.cells #[.bool X.leaf, .slice X.iA X.iN X.iC, .slice X.kA X.kN X.kC] 25) = W3 at *
    refine hck.mono ?_
    rintro e w4 ⟨rfl, hb4⟩
    have hb5 := bel_next hb3 hb4
    have hG4 := hGa.later hb4
    obtain ⟨r0, r1, r2, f0, f1, f2⟩ := nbox_set (HN2.out.later hb4)
    obtain ⟨a0, a1, a2, -, -, -⟩ := nbox_set (hn2.later hb4)
    have HGa := Lib.hid hG4
    clear hck hb4 hb3 hGa hG4 hn2 HN2
    cases hok : X.okB
    · rw [chk_no hok]
      have hbz := ((hb5.setCell (p := ⟨w.heap.size, 0, none⟩) (Nat.le_refl _) (.bool false)).setCell (p := ⟨w.heap.size, 1, none⟩) (Nat.le_refl _) (.slice none 0 0)).setCell (p := ⟨w.heap.size, 2, none⟩) (Nat.le_refl _) (.slice none 0 0)
      have HK := Lib.hid hok
      clear hok hb5
      go_wp2
      refine bodyPost_ret (v := .tuple #[.agg #[.bool false, .slice none 0 0, .slice none 0 0], .int .i64 240]) ?_ rfl ⟨hbz, .inl ⟨rfl, fun Y hY h => by
        rw [HR.out] at h
        rw [← HK.out]
        exact (okB_s HGa.out.lens hY (Option.some.inj h)).symm⟩⟩
      simp [results, Try.results25, go_sem, *]
    · rw [chk_yes hok]
      have hbz := ((hb5.setCell (p := ⟨w.heap.size, 0, none⟩) (Nat.le_refl _) (.bool X.leaf)).setCell (p := ⟨w.heap.size, 1, none⟩) (Nat.le_refl _) (.slice X.iA X.iN X.iC)).setCell (p := ⟨w.heap.size, 2, none⟩) (Nat.le_refl _) (.slice X.kA X.kN X.kC)
      have hGz := ((HGa.out.set (a := ⟨w.heap.size, 0, none⟩) hgs (.bool X.leaf)).set (a := ⟨w.heap.size, 1, none⟩) hgs (.slice X.iA X.iN X.iC)).set (a := ⟨w.heap.size, 2, none⟩) hgs (.slice X.kA X.kN X.kC)
      have HK := Lib.hid hok
      have HGz := Lib.hid hGz
      clear hok hb5 hGz
      go_wp2
      refine bodyPost_ret (v := .tuple #[.agg #[.bool X.leaf, .slice X.iA X.iN X.iC, .slice X.kA X.kN X.kC], .int .i64 0]) ?_ rfl ⟨hbz, .inr ⟨X, rfl, HR.out, HK.out, ?_⟩⟩
      · simp [results, Try.results25, go_sem, *]
      · have h := HGz.out
        exact ⟨own_base h.irow (Nat.le_of_lt hgs), own_base h.krow (Nat.le_of_lt hgs), fun x hx => ⟨(h.items x hx).key.back HB0.out hB, (h.items x hx).val.back HB0.out hB, (h.items x hx).num⟩, fun x hx => ⟨(h.kids x hx).key.back HB0.out hB, (h.kids x hx).pos, (h.kids x hx).red⟩⟩
end Go.Proofs.Ytnfohlabmidliaa
/-
  The reference's Same, of two leaves that say the same.
-/
namespace Go.Proofs.Ytnfohlabmidliaa
open Go.RowKit
set_option linter.unusedVariables false
set_option linter.unusedSimpArgs false

set_option maxRecDepth 20000 in
set_option maxHeartbeats 2000000 in
theorem sameItem_yes (x y : ItT) (B : Nat) (w : World) (hx : x.Ok w B) (hy : y.Ok w B) (hB : B ≤ w.heap.size) (h : x.s = y.s) :
    Calls Try.prog 40 #[.agg #[.slice x.k.A x.k.n x.k.c, .slice x.v.A x.v.n x.v.c, .bool x.b, .int .i64 x.n], .agg #[.slice y.k.A y.k.n y.k.c, .slice y.v.A y.v.n y.v.c, .bool y.b, .int .i64 y.n]] w fun e w' => e = .returned (.bool true) ∧ Below w.heap.size w w' := by
  have hb := bel_alloc (bel_alloc (Below.refl w.heap.size w) (.cells #[.slice x.k.A x.k.n x.k.c, .slice x.v.A x.v.n x.v.c, .bool x.b, .int .i64 x.n] 58)) (.cells #[.slice y.k.A y.k.n y.k.c, .slice y.v.A y.v.n y.v.c, .bool y.b, .int .i64 y.n] 58)
  have hk : x.k.l = y.k.l := congrArg ItS.k h
  have hv : x.v.l = y.v.l := congrArg ItS.v h
  have hbb : x.b = y.b := congrArg ItS.b h
  have hnn : x.n = y.n := congrArg ItS.n h
  have hx1 := hx.later (hb.mono hB)
  have hy1 := hy.later (hb.mono hB)
  have k1 := run_bytes_string (P := Try.prog) Try.underlying32 Try.underlying5 Try.underlying9 _ x.k.A x.k.n x.k.c B x.k.l hx1.key.here
  have k2 := run_bytes_string (P := Try.prog) Try.underlying32 Try.underlying5 Try.underlying9 _ y.k.A y.k.n y.k.c B y.k.l hy1.key.here
  have k3 := run_bytes_string (P := Try.prog) Try.underlying32 Try.underlying5 Try.underlying9 _ x.v.A x.v.n x.v.c B x.v.l hx1.val.here
  have k4 := run_bytes_string (P := Try.prog) Try.underlying32 Try.underlying5 Try.underlying9 _ y.v.A y.v.n y.v.c B y.v.l hy1.val.here
  rw [hk] at k1
  rw [hv] at k3
  rw [hbb, hnn] at hb k1 k2 k3 k4 ⊢
  generalize ofL y.k.l = s1 at *
  generalize ofL y.v.l = s2 at *
  clear hx hy hx1 hy1 hk hv hbb hnn h
  go_enter Try.func40, Try.ntmps40
  go_wp2
  go_ret
  refine ⟨?_, hb⟩
  simp
end Go.Proofs.Ytnfohlabmidliaa
/-
  The reference's Same, of two leaves that say the same.
-/
namespace Go.Proofs.Ytnfohlabmidliaa
open Go.RowKit
set_option linter.unusedVariables false
set_option linter.unusedSimpArgs false

theorem S_call2 {w w1 w2 : World} (h2 : Below w1.heap.size w1 w2) (h : Below w.heap.size w w1) : Below w.heap.size w w2 := bel_next h h2
set_option maxRecDepth 20000 in
set_option maxHeartbeats 4000000 in
theorem refSame_lf (lf : Bool) (N : Nat) (xA yA xK yK : Option Addr) (xC yC xKc yKc : Nat) (I J : List ItT) (K M : List KiT) (B : Nat) (w : World) (hX : LieN w B ⟨lf, xA, N, xC, I, xK, 0, xKc, K⟩) (hY : LieN w B ⟨lf, yA, N, yC, J, yK, 0, yKc, M⟩) (hB : B ≤ w.heap.size) (h : I.map ItT.s = J.map ItT.s) :
    Calls Try.prog 15 #[.agg #[.bool lf, .slice xA N xC, .slice xK 0 xKc], .agg #[.bool lf, .slice yA N yC, .slice yK 0 yKc]] w fun e w' => e = .returned (.bool true) ∧ Below w.heap.size w w' := by
  have hb0 := bel_alloc (Below.refl w.heap.size w) (.cells #[.bool lf, .slice xA N xC, .slice xK 0 xKc] 25)
  have hb := bel_alloc hb0 (.cells #[.bool lf, .slice yA N yC, .slice yK 0 yKc] 25)
  have hn1 := (NBox.new w (.bool lf) (.slice xA N xC) (.slice xK 0 xKc) 25).later (bel_alloc (Below.refl _ _) (.cells #[.bool lf, .slice yA N yC, .slice yK 0 yKc] 25))
  have hn2 := NBox.new (w.alloc (.cells #[.bool lf, .slice xA N xC, .slice xK 0 xKc] 25)) (.bool lf) (.slice yA N yC) (.slice yK 0 yKc) 25
  rw [World.size_alloc] at hn2
  have HXL := Lib.hid (hX.later (hb.mono hB))
  have HYL := Lib.hid (hY.later (hb.mono hB))
  have HII := Lib.hid h
  have HN1 := Lib.hid hn1
  have HN2 := Lib.hid hn2
  have hfx := hX.ifit
  have hmx := hX.imost
  have hfy := hY.ifit
  have hmy := hY.imost
  simp only at hfx hmx hfy hmy
  unfold maxLen at hmx hmy
  have hN63 : (N : Int) ≤ 9223372036854775807 := by omega
  clear hX hY hb0 h hfx hmx hfy hmy
  obtain ⟨⟨m0, m1, m2⟩, -⟩ := hn1
  obtain ⟨⟨n0, n1, n2⟩, -⟩ := hn2
  go_enter Try.func15, Try.ntmps15
  go_upto_region 3 with fail
  generalize (w.alloc (.cells #[.bool lf, .slice xA N xC, .slice xK 0 xKc] 25)).alloc (.cells #[.bool lf, .slice yA N yC, .slice yK 0 yKc] 25) = W1 at *
  have hsz := hb.size
  go_wp2_with fail
  go_loopw [5] (fun y wr => ∃ i : Nat, i ≤ N ∧ y = .int .i64 i ∧ Below W1.heap.size W1 wr) (fun y _ => N - (intOf y).toNat)
  case atStart => exact ⟨0, Nat.zero_le _, rfl, Below.refl _ _⟩
  case round =>
    clear m0 m1 m2 n0 n1 n2
    obtain ⟨i, hi, rfl, hbr⟩ := hrel
    obtain ⟨⟨m0, m1, m2⟩, -⟩ := HN1.out.later hbr
    obtain ⟨⟨n0, n1, n2⟩, -⟩ := HN2.out.later hbr
    have hsr := hbr.size
    by_cases hlt : i < N
    · obtain ⟨b1, f1, x, hxA, hb1, hx, x0, x1, x2, x3⟩ := it_at (HXL.out.later (hbr.mono (Nat.le_trans hB hsz))).irow hlt
      obtain ⟨b2, f2, y, hyA, hb2, hy, y0, y1, y2, y3⟩ := it_at (HYL.out.later (hbr.mono (Nat.le_trans hB hsz))).irow hlt
      simp only at hxA hyA hx hy
      subst hxA hyA
      have hs : x.s = y.s := by
        have h1 := congrArg (fun l => l[i]?) HII.out
        simp only [List.getElem?_map, hx, hy, Option.map_some] at h1
        exact Option.some.inj h1
      have hxo := HXL.out.items x (List.mem_of_getElem? hx)
      have hyo := HYL.out.items y (List.mem_of_getElem? hy)
      have HcS := Lib.hid (fun W (h : Below wr.heap.size wr W) => sameItem_yes x y B W (hxo.later ((hbr.trans (h.mono hsr)).mono (Nat.le_trans hB hsz))) (hyo.later ((hbr.trans (h.mono hsr)).mono (Nat.le_trans hB hsz))) (Nat.le_trans hB (Nat.le_trans hsz (Nat.le_trans hsr h.size))) hs)
      have hlt' : (i : Int) < (N : Int) := by omega
      have hi0 : (0 : Int) ≤ (i : Int) := by omega
      have hXr : ∀ W, Below wr.heap.size wr W → W.cell? ⟨w.heap.size, 1, none⟩ = some (.slice (some ⟨b1, f1, none⟩) N xC) := fun W h => mkept_later h m1
      have hYr : ∀ W, Below wr.heap.size wr W → W.cell? ⟨w.heap.size + 1, 1, none⟩ = some (.slice (some ⟨b2, f2, none⟩) N yC) := fun W h => mkept_later h n1
      have hXc0 : ∀ W, Below wr.heap.size wr W → W.cell? ⟨b1, f1 + i * 4, none⟩ = some (.slice x.k.A x.k.n x.k.c) := fun W h => mkept_later h x0
      have hXc1 : ∀ W, Below wr.heap.size wr W → W.cell? ⟨b1, f1 + i * 4 + 1, none⟩ = some (.slice x.v.A x.v.n x.v.c) := fun W h => mkept_later h x1
      have hXc2 : ∀ W, Below wr.heap.size wr W → W.cell? ⟨b1, f1 + i * 4 + 2, none⟩ = some (.bool x.b) := fun W h => mkept_later h x2
      have hXc3 : ∀ W, Below wr.heap.size wr W → W.cell? ⟨b1, f1 + i * 4 + 3, none⟩ = some (.int .i64 x.n) := fun W h => mkept_later h x3
      have hYc0 : ∀ W, Below wr.heap.size wr W → W.cell? ⟨b2, f2 + i * 4, none⟩ = some (.slice y.k.A y.k.n y.k.c) := fun W h => mkept_later h y0
      have hYc1 : ∀ W, Below wr.heap.size wr W → W.cell? ⟨b2, f2 + i * 4 + 1, none⟩ = some (.slice y.v.A y.v.n y.v.c) := fun W h => mkept_later h y1
      have hYc2 : ∀ W, Below wr.heap.size wr W → W.cell? ⟨b2, f2 + i * 4 + 2, none⟩ = some (.bool y.b) := fun W h => mkept_later h y2
      have hYc3 : ∀ W, Below wr.heap.size wr W → W.cell? ⟨b2, f2 + i * 4 + 3, none⟩ = some (.int .i64 y.n) := fun W h => mkept_later h y3
      clear hx hy hs hxo hyo x0 x1 x2 x3 y0 y1 y2 y3
      go_upto_region 6 with fail
      clear m0 m1 m2 n0 n1 n2
      refine wp_region_held_drew (S := fun W => Below wr.heap.size wr W) (by kernel_rfl) (below_drewN (Below.refl _ _) 1) (fun hHeld => ?_)
      refine rg_in 0 rfl (by kernel_rfl) (by kernel_rfl) (by kernel_rfl) (by rfl) (v := ?_) (fun _ _ _ h => h) hHeld (fun w hSw => ?_) ?_
      rotate_left
      · (try dsimp only at hSw); go_simp <;> (with_reducible rfl)
      (try simp only [Act.put, List.setIfInBounds_toArray, List.set_cons_zero, List.set_cons_succ])
      refine rg_in 1 rfl (by kernel_rfl) (by kernel_rfl) (by kernel_rfl) (by rfl) (v := ?_) (fun _ _ _ h => h) hHeld (fun w hSw => ?_) ?_
      rotate_left
      · (try dsimp only at hSw); go_simp <;> (with_reducible rfl)
      (try simp only [Act.put, List.setIfInBounds_toArray, List.set_cons_zero, List.set_cons_succ])
      refine rg_in 2 rfl (by kernel_rfl) (by kernel_rfl) (by kernel_rfl) (by rfl) (v := ?_) (fun _ _ _ h => h) hHeld (fun w hSw => ?_) ?_
      rotate_left
      · (try dsimp only at hSw); go_simp <;> (with_reducible rfl)
      (try simp only [Act.put, List.setIfInBounds_toArray, List.set_cons_zero, List.set_cons_succ])
      refine rg_in 3 rfl (by kernel_rfl) (by kernel_rfl) (by kernel_rfl) (by rfl) (v := ?_) (fun _ _ _ h => h) hHeld (fun w hSw => ?_) ?_
      rotate_left
      · (try dsimp only at hSw); go_simp <;> (with_reducible rfl)
      (try simp only [Act.put, List.setIfInBounds_toArray, List.set_cons_zero, List.set_cons_succ])
      refine rg_in 4 rfl (by kernel_rfl) (by kernel_rfl) (by kernel_rfl) (by rfl) (v := ?_) (fun _ _ _ h => h) hHeld (fun w hSw => ?_) ?_
      rotate_left
      · (try dsimp only at hSw); go_simp <;> (with_reducible rfl)
      (try simp only [Act.put, List.setIfInBounds_toArray, List.set_cons_zero, List.set_cons_succ])
      refine rg_in 5 rfl (by kernel_rfl) (by kernel_rfl) (by kernel_rfl) (by rfl) (v := ?_) (fun _ _ _ h => h) hHeld (fun w hSw => ?_) ?_
      rotate_left
      · (try dsimp only at hSw); go_simp <;> (with_reducible rfl)
      (try simp only [Act.put, List.setIfInBounds_toArray, List.set_cons_zero, List.set_cons_succ])
      refine rg_in 6 rfl (by kernel_rfl) (by kernel_rfl) (by kernel_rfl) (by rfl) (v := ?_) (fun _ _ _ h => h) hHeld (fun w hSw => ?_) ?_
      rotate_left
      · (try dsimp only at hSw); go_simp <;> (with_reducible rfl)
      (try simp only [Act.put, List.setIfInBounds_toArray, List.set_cons_zero, List.set_cons_succ])
      refine rg_in 7 rfl (by kernel_rfl) (by kernel_rfl) (by kernel_rfl) (by rfl) (v := ?_) (fun _ _ _ h => h) hHeld (fun w hSw => ?_) ?_
      rotate_left
      · (try dsimp only at hSw); go_simp <;> (with_reducible rfl)
      (try simp only [Act.put, List.setIfInBounds_toArray, List.set_cons_zero, List.set_cons_succ])
      refine rg_in 8 rfl (by kernel_rfl) (by kernel_rfl) (by kernel_rfl) (by rfl) (v := ?_) (fun _ _ _ h => h) hHeld (fun w hSw => ?_) ?_
      rotate_left
      · (try dsimp only at hSw); go_simp <;> (with_reducible rfl)
      (try simp only [Act.put, List.setIfInBounds_toArray, List.set_cons_zero, List.set_cons_succ])
      refine rg_in 9 rfl (by kernel_rfl) (by kernel_rfl) (by kernel_rfl) (by rfl) (v := ?_) (fun _ _ _ h => h) hHeld (fun w hSw => ?_) ?_
      rotate_left
      · (try dsimp only at hSw); go_simp <;> (with_reducible rfl)
      (try simp only [Act.put, List.setIfInBounds_toArray, List.set_cons_zero, List.set_cons_succ])
      refine rg_do 10 rfl (by kernel_rfl) (by rfl) (fun K hK => ?_)
      go_simp
      (go_at_call 40; (with_reducible refine (HcS.out _ hHeld).mono ?_); (rintro e w110 ⟨rfl, hb9⟩))
      refine hK.out _ _ (S_call2 hb9 hHeld) (fun hHeld => ?_)
      clear hK K
      (try simp only [Act.put, List.setIfInBounds_toArray, List.set_cons_zero, List.set_cons_succ])
      refine rg_in 11 rfl (by kernel_rfl) (by kernel_rfl) (by kernel_rfl) (by rfl) (v := ?_) (fun _ _ _ h => h) hHeld (fun w hSw => ?_) ?_
      rotate_left
      · (try dsimp only at hSw); go_simp <;> (with_reducible rfl)
      (try simp only [Act.put, List.setIfInBounds_toArray, List.set_cons_zero, List.set_cons_succ])
      refine wpAnyH_done (by kernel_rfl) ?_ _
      have hbn := hHeld
      clear hHeld hXc0 hXc1 hXc2 hXc3 hYc0 hYc1 hYc2 hYc3 hXr hYr
      go_wp2_with fail
      go_roundw
      case rel => exact ⟨i + 1, by omega, by go_num, hbr.trans (hbn.mono hsr)⟩
      case measure => simp [intOf]; omega
    · obtain rfl : N = i := by omega
      have hbz := hb.trans (hbr.mono hsz)
      have HBZ := Lib.hid hbz
      clear hlt
      go_wp2_with fail
      go_loopw [6] (fun y wx => y = .int .i64 0 ∧ Below wr.heap.size wr wx) (fun y _ => 0)
      case atStart => exact ⟨rfl, Below.refl _ _⟩
      case round =>
        obtain ⟨rfl, hbx⟩ := hrel
        have m9 := mkept_later hbx m2
        have hbq := HBZ.out.trans (hbx.mono HBZ.out.size)
        go_wp2
        go_ret
        exact ⟨rfl, hbq⟩
theorem refSame_leaf (X Y : NoT) (B : Nat) (w : World) (hX : LieN w B X) (hY : LieN w B Y) (hB : B ≤ w.heap.size) (h : X.s = Y.s) (hk : X.kN = 0) :
    Calls Try.prog 15 #[X.agg, Y.agg] w fun e w' => e = .returned (.bool true) ∧ Below w.heap.size w w' := by
  have hl : X.leaf = Y.leaf := congrArg (fun N => N.leaf) h
  have hii : X.I.map ItT.s = Y.I.map ItT.s := congrArg (fun N => N.I) h
  have hi : X.iN = Y.iN := by
    have h1 := hX.ilen
    have h2 := hY.ilen
    have h3 := congrArg List.length hii
    rw [List.length_map, List.length_map] at h3
    omega
  have hkk : Y.kN = 0 := by
    have h1 := hX.klen
    have h2 := hY.klen
    have h3 := congrArg List.length (show X.K.map KiT.s = Y.K.map KiT.s from congrArg (fun N => N.K) h)
    rw [List.length_map, List.length_map] at h3
    omega
  obtain ⟨xl, xA, xN, xC, I, xK, xkN, xKc, K⟩ := X
  obtain ⟨yl, yA, yN, yC, J, yK, ykN, yKc, M⟩ := Y
  simp only at hl hi hk hkk hii
  subst hl hi hk hkk
  exact refSame_lf xl xN xA yA xK yK xC yC xKc yKc I J K M B w hX hY hB hii
end Go.Proofs.Ytnfohlabmidliaa
/-
  Layer 14: wakes.
-/
namespace Go.Proofs.Ytnfohlabmidliaa
open Go.RowKit
set_option linter.unusedVariables false
set_option linter.unusedSimpArgs false

/-- The node of wakes, its first block s. -/
def wkN (s : Nat) : NoT := ⟨true, some ⟨s + 3, 0, none⟩, 2, 2, [⟨⟨some ⟨s, 0, none⟩, 1, 1, [97]⟩, ⟨none, 0, 0, []⟩, false, 0⟩, ⟨⟨some ⟨s + 1, 0, none⟩, 1, 1, [98]⟩, ⟨some ⟨s + 2, 0, none⟩, 1, 1, [7]⟩, true, -1⟩], none, 0, 0, []⟩
def wkE : List UInt8 := [1, 2, 1, 97, 0, 0, 0, 0, 0, 0, 0, 0, 0, 0, 1, 98, 1, 7, 1, 255, 255, 255, 255, 255, 255, 255, 255]
theorem wk_ok (s : Nat) : (wkN s).okB = true := by kernel_rfl
theorem wk_enc0 : [markN true, UInt8.ofNat 2] ++ (putIL [97] [] false 0 ++ (putIL [98] [7] true (-1) ++ [])) = wkE := by decide +kernel
theorem wk_enc (s : Nat) : (wkN s).enc = wkE := Eq.trans rfl wk_enc0
theorem wk_all (s : Nat) : (wkN s).all.1 = ⟨2, 1, -1, -1, -1⟩ := by kernel_rfl
theorem wk_at (s : Nat) : (wkN s).plAt [97, 98] = 1 := by kernel_rfl
theorem wk_is (s : Nat) : (wkN s).isAt [97, 98] = false := by kernel_rfl
theorem wk_read (s : Nat) : readO wkE = some (wkN s).s := by kernel_rfl
theorem wk_lens (s : Nat) : (wkN s).lens := ⟨rfl, rfl⟩
theorem wk_no : readO [1, 0] = some ⟨true, [], []⟩ := by kernel_rfl
theorem wk_none {X : NoT} (hl : X.lens) (h : X.s = ⟨true, [], []⟩) : X.okB = false :=
  (okB_s (X := X) (Y := ⟨true, none, 0, 0, [], none, 0, 0, []⟩) hl ⟨rfl, rfl⟩ h).trans (by kernel_rfl)
theorem wk_row1 (W : World) (b : UInt8) (v : Value) (hv : v = bv b) (t : TypeId) (fr : Nat × Nat) : PcT.Ok (W.alloc (.cells #[v] t fr)) (W.heap.size + 1) ⟨some ⟨W.heap.size, 0, none⟩, 1, 1, [b]⟩ := by
  subst hv
  exact ⟨bytes_new W [b] #[bv b] t fr rfl, nofun, Nat.le_refl _, by simp only; unfold maxLen; omega⟩
def WK1 (w : World) : World := (((w.alloc (.cells #[.int .u8 97] 5 (1, 2))).alloc (.cells #[.int .u8 98] 5 (1, 2))).alloc (.cells #[.int .u8 7] 5)).alloc (.cells #[.slice (some ⟨w.heap.size, 0, none⟩) 1 1, .slice none 0 0, .bool false, .int .i64 0, .slice (some ⟨w.heap.size + 1, 0, none⟩) 1 1, .slice (some ⟨w.heap.size + 2, 0, none⟩) 1 1, .bool true, .int .i64 (-1)] 58)
theorem wk1_below (w : World) : Below w.heap.size w (WK1 w) := bel_alloc (bel_alloc (bel_alloc (bel_alloc (Below.refl _ _) _) _) _) _
theorem wk1_size (w : World) : (WK1 w).heap.size = w.heap.size + 4 := by unfold WK1; rw [World.size_alloc, World.size_alloc, World.size_alloc, World.size_alloc]
theorem wk1_lie (w : World) : LieN (WK1 w) (w.heap.size + 4) (wkN w.heap.size) := by
  have h1 := wk_row1 w 97 (.int .u8 97) rfl 5 (1, 2)
  have h2 := wk_row1 (w.alloc (.cells #[.int .u8 97] 5 (1, 2))) 98 (.int .u8 98) rfl 5 (1, 2)
  have h3 := wk_row1 ((w.alloc (.cells #[.int .u8 97] 5 (1, 2))).alloc (.cells #[.int .u8 98] 5 (1, 2))) 7 (.int .u8 7) rfl 5 (0, 0)
  have k : ∀ (W : World) (o : Obj), Below W.heap.size W (W.alloc o) := fun W o => bel_alloc (Below.refl _ _) o
  rw [World.size_alloc] at h2
  rw [World.size_alloc, World.size_alloc] at h3
  have a1 : PcT.Ok (WK1 w) (w.heap.size + 4) ⟨some ⟨w.heap.size, 0, none⟩, 1, 1, [97]⟩ := (h1.later (((k _ _).mono (by rw [World.size_alloc]; omega)).trans (((k _ _).mono (by rw [World.size_alloc, World.size_alloc]; omega)).trans ((k _ _).mono (by rw [World.size_alloc, World.size_alloc, World.size_alloc]; omega))))).more (by omega)
  have a2 : PcT.Ok (WK1 w) (w.heap.size + 4) ⟨some ⟨w.heap.size + 1, 0, none⟩, 1, 1, [98]⟩ := (h2.later (((k _ _).mono (by rw [World.size_alloc, World.size_alloc]; omega)).trans ((k _ _).mono (by rw [World.size_alloc, World.size_alloc, World.size_alloc]; omega)))).more (by omega)
  have a3 : PcT.Ok (WK1 w) (w.heap.size + 4) ⟨some ⟨w.heap.size + 2, 0, none⟩, 1, 1, [7]⟩ := (h3.later ((k _ _).mono (by rw [World.size_alloc, World.size_alloc, World.size_alloc]; omega))).more (by omega)
  have a0 : PcT.Ok (WK1 w) (w.heap.size + 4) ⟨none, 0, 0, []⟩ := ⟨Bytes.zero _, fun _ => rfl, Nat.le_refl _, Nat.zero_le _⟩
  refine ⟨⟨rfl, fun _ => ⟨w.heap.size + 3, 0, rfl, by omega, fun j u hu => ?_⟩⟩, ?_, nofun, Nat.le_refl _, by show 2 ≤ maxLen; unfold maxLen; omega, Shows.zero _, fun x hx => (List.not_mem_nil hx).elim, fun _ => rfl, Nat.le_refl _, Nat.zero_le _⟩
  · have hs : w.heap.size + 3 = (((w.alloc (.cells #[.int .u8 97] 5 (1, 2))).alloc (.cells #[.int .u8 98] 5 (1, 2))).alloc (.cells #[.int .u8 7] 5)).heap.size := by rw [World.size_alloc, World.size_alloc, World.size_alloc]
    unfold WK1
    rw [hs, cell_of_row _ _ _ _ _ _ (heap_alloc_new _ _), Nat.zero_add, ← hu, ← Array.getElem?_toList]
    rfl
  · intro x hx
    have hx' : x = ⟨⟨some ⟨w.heap.size, 0, none⟩, 1, 1, [97]⟩, ⟨none, 0, 0, []⟩, false, 0⟩ ∨ x = ⟨⟨some ⟨w.heap.size + 1, 0, none⟩, 1, 1, [98]⟩, ⟨some ⟨w.heap.size + 2, 0, none⟩, 1, 1, [7]⟩, true, -1⟩ := by
      unfold wkN at hx
      simpa using hx
    rcases hx' with rfl | rfl
    · exact ⟨a1, a0, by unfold R64; simp⟩
    · exact ⟨a2, a3, by unfold R64; simp⟩
end Go.Proofs.Ytnfohlabmidliaa
