import Derived.Test.YtlknmpnjhbdlhaaDoorGab
import Derived.Test.YtlknmpnjhbdlhaaDoorGaa
import Derived.Test.YtlknmpnjhbdlhaaDoorRows
import Derived.Test.YtlknmpnjhbdlhaaDoorGac
import Derived.Deep.QuietTactic
import Derived.BigQuiet
import Derived.Lib.Hide
import Derived.Deep.WholeRow
import Derived.Deep.LoopGhost
import Derived.BigRegion
import Derived.Deep.DeepCutAuto
import Derived.Great.BuildSlice
/-
  The reference of layer 9, function by function.
-/
namespace Go.Proofs.YtlknmpnjhbdlhaaDoor
open Go.RowKit

set_option maxHeartbeats 1000000 in
theorem take_any (A : Option Addr) (n c B : Nat) (l : List UInt8) (s : Nat) (w : World) (h : Bytes w B A n l) (hs : s < 4294967296) (hn : n ≤ maxLen) :
    Calls Tryd.prog 51 #[.int .u32 (s : Int), .slice A n c] w fun e w' => e = .returned (.int .u32 (Crc.take s l : Int)) ∧ w = w' := by
  unfold maxLen at hn
  have H0 := Lib.hid h
  clear h
  go_enter Tryd.func51, Tryd.ntmps51
  go_wp2
  go_loop [0, 5] (fun x i => ∃ k t : Nat, k ≤ n ∧ i = .int .i64 k ∧ x = .int .u32 t ∧ Hid (t = Crc.take s (l.take k)) ∧ t < 4294967296) (fun _ i => n - (intOf i).toNat)
  case atStart => exact ⟨0, s, Nat.zero_le _, rfl, rfl, Lib.hid rfl, hs⟩
  case round =>
    obtain ⟨k, t, hk, rfl, rfl, Ht, htl⟩ := hrel
    by_cases hlt : k < n
    · obtain ⟨b1, o1, rfl, hb1, hc1⟩ := H0.out.cell hlt
      have g1 := at8_lo l k
      have g2 := at8_hi l k
      go_wp2
      go_loop [0, 6, 7] (fun x y z => ∃ j t' c' : Nat, j ≤ 8 ∧ z = .int .i64 j ∧ x = .int .u32 t' ∧ y = .int .u32 c' ∧ t' < 4294967296 ∧ c' < 256 ∧ Hid (t' ^^^ c' = Crc.stN j (t ^^^ (l.getD k 0).toNat)) ∧ Hid (c' = (l.getD k 0).toNat / 2 ^ j)) (fun _ _ z => 8 - (intOf z).toNat)
      case atStart => exact ⟨0, t, (l.getD k 0).toNat, by omega, rfl, rfl, rfl, htl, (l.getD k 0).toNat_lt, Lib.hid rfl, Lib.hid (by simp)⟩
      case round =>
        obtain ⟨j, t', c', hj, rfl, rfl, rfl, ht', hc', H1, H2⟩ := hrel
        by_cases hlt2 : j < 8
        · go_wp2_with fail
          rw [show ((c' : Int) % 2) = ((c' % 2 : Nat) : Int) by omega]
          refine (bit_any t' (c' % 2) _ ht').mono ?_
          rintro e w1 ⟨rfl, rfl⟩
          go_wp2
          go_round
          case rel =>
            refine ⟨j + 1, _, c' / 2, by omega, by go_num, rfl, by go_num, Crc.bit_lt _ ht', by omega, Lib.hid ?_, Lib.hid ?_⟩
            · rw [Crc.bit_st, H1.out, ← Crc.stN_succ]
            · rw [H2.out, Nat.div_div_eq_div_mul, Nat.pow_succ]
          case measure => simp [intOf]; omega
        · have hj8 : j = 8 := by omega
          have hfin : t' = Crc.take s (l.take (k + 1)) := by
            have e1 := H1.out
            have e2 := H2.out
            have hx := (l.getD k 0).toNat_lt
            rw [hj8] at e1 e2
            have e3 : c' = 0 := by rw [e2]; omega
            rw [e3, Nat.xor_zero] at e1
            rw [take_snoc l k (by have := H0.out.len; omega), Crc.take_append, ← Ht.out, Crc.take_one, e1]
            rfl
          have Hfin := Lib.hid hfin
          clear hfin hj8
          go_wp2
          go_round
          case rel => exact ⟨k + 1, t', by omega, by go_num, rfl, Hfin, ht'⟩
          case measure => simp [intOf]; omega
    · have hk' : k = n := by omega
      have hr : t = Crc.take s l := by
        have hl := H0.out.len
        rw [Ht.out, List.take_of_length_le (by omega)]
      have Hr := Lib.hid hr
      clear hk' hr
      go_wp2
      go_ret
      exact ⟨by rw [← Hr.out]; rfl, rfl⟩

theorem laid_cells (s : Nat) (hs : s < 4294967296) : [Value.int .u8 ((s : Int) % 256), .int .u8 ((s : Int) / 256 % 256), .int .u8 ((s : Int) / 65536 % 256), .int .u8 ((s : Int) / 16777216)] = (Crc.laid s).map bv := by
  have h : ∀ x : Nat, bv (UInt8.ofNat x) = .int .u8 ((x : Int) % 256) := fun x => by
    unfold bv
    rw [UInt8.toNat_ofNat']
    simp
  unfold Crc.laid
  simp only [List.map_cons, List.map_nil, h]
  rw [show ((s / 256 : Nat) : Int) % 256 = (s : Int) / 256 % 256 by omega, show ((s / 65536 : Nat) : Int) % 256 = (s : Int) / 65536 % 256 by omega, show ((s / 16777216 : Nat) : Int) % 256 = (s : Int) / 16777216 by omega]
theorem laid_gives (s : Nat) (w : World) (hs : s < 4294967296) {e : Ending} (he : e = .returned (.slice (some ⟨w.heap.size, 0, none⟩) 4 4)) :
    GivesBytes 5 (Crc.laid s) w e (w.alloc (.cells #[.int .u8 ((s : Int) % 256), .int .u8 ((s : Int) / 256 % 256), .int .u8 ((s : Int) / 65536 % 256), .int .u8 ((s : Int) / 16777216)] 5)) := by
  refine ⟨_, 4, 4, he, ?_, (Below.refl _ _).alloc (Nat.le_refl _) _⟩
  rw [← laid_cells s hs]
  exact World.ownsRow_lit (size := 1) w #[.int .u8 ((s : Int) % 256), .int .u8 ((s : Int) / 256 % 256), .int .u8 ((s : Int) / 65536 % 256), .int .u8 ((s : Int) / 16777216)] 4 (Nat.le_refl _) (by unfold maxLen; omega) rfl

set_option maxHeartbeats 1000000 in
theorem laid_any (s : Nat) (w : World) (hs : s < 4294967296) :
    Calls Tryd.prog 32 #[.int .u32 (s : Int)] w (GivesBytes 5 (Crc.laid s) w) := by
  go_enter Tryd.func32, Tryd.ntmps32
  go_wp2
  go_ret
  exact laid_gives s w hs rfl

set_option maxHeartbeats 1000000 in
theorem refmore_any (A : Option Addr) (n c B : Nat) (l : List UInt8) (s : Nat) (w : World) (h : Bytes w B A n l) (hs : s < 4294967296) (hn : n ≤ maxLen) :
    Calls Tryd.prog 33 #[.int .u32 (s : Int), .slice A n c] w fun e w' => e = .returned (.int .u32 (Crc.more s l : Int)) ∧ w = w' := by
  have hu : 4294967295 - s < 4294967296 := by omega
  have ht := Crc.take_lt l hu
  have hr : (4294967295 : Int) - (Crc.take (4294967295 - s) l : Int) = (Crc.more s l : Int) := by unfold Crc.more; omega
  have Hr := Lib.hid hr
  clear hr
  go_enter Tryd.func33, Tryd.ntmps33
  go_wp2_with fail
  rw [show ((4294967295 : Int) - (s : Int)) = ((4294967295 - s : Nat) : Int) by omega]
  refine (take_any A n c B l _ w h hu hn).mono ?_
  rintro e w1 ⟨rfl, rfl⟩
  go_wp2
  go_ret
  exact ⟨by rw [← Hr.out]; rfl, rfl⟩
end Go.Proofs.YtlknmpnjhbdlhaaDoor
/-
  make and copy on rows of the call's own. No program in sight.
-/
namespace Go.Proofs.YtlknmpnjhbdlhaaDoor
open Go.RowKit

section
variable {w : World} {base : Nat} {e : TypeId} {size : Nat}
theorem own_made (w : World) (cs : Array Value) (n cap : Nat) (hb : base ≤ w.heap.size) (hn : n ≤ cap) (hm : cap ≤ maxLen) (hs : cs.size = cap * size) :
    (w.alloc (.cells cs e)).ownsRow base e size (.slice (some ⟨w.heap.size, 0, none⟩) n cap) n (cs.toList.take (n * size)) :=
  ⟨by rw [List.length_take, Array.length_toList, hs]; exact Nat.min_eq_left (Nat.mul_le_mul_right _ hn), .inr ⟨w.heap.size, cap, cs, rfl, hb, heap_alloc_new w _, hn, hm, hs, rfl⟩⟩
theorem own_zeros (w : World) (z : Value) (n cap : Nat) (hb : base ≤ w.heap.size) (hn : n ≤ cap) (hm : cap ≤ maxLen) :
    (w.alloc (.cells (madeCells #[z] cap) e)).ownsRow base e 1 (.slice (some ⟨w.heap.size, 0, none⟩) n cap) n (List.replicate n z) := by
  have h := own_made (base := base) (e := e) (size := 1) w (madeCells #[z] cap) n cap hb hn hm (by rw [size_madeCells, Nat.mul_one])
  rw [toList_madeCells_one, List.take_replicate, Nat.mul_one, Nat.min_eq_left hn] at h
  exact h
end

section
variable {P : Program} {w : World}
/-- 'make' of a slice of elements of one cell. -/
theorem run_make_one {t e : TypeId} {i : TypeInfo} {z : Value} (ht : P.underlying t = some (.slice e)) (hi : P.info? e = some i) (hz : i.zero = some z) (hz1 : z.cells = #[z]) (h1 : i.size = 1)
    (kl kc : IntKind) (l c : Int) (h0 : 0 ≤ l) (hlc : l ≤ c) (hbytes : (i.bytes : Int) * c ≤ 281474976710656) (h63 : c ≤ 9223372036854775807) (w : World) :
    (Instr.makeSlice t (.int kl l) (.int kc c)).run P w = .ok (.slice (some ⟨w.heap.size, 0, none⟩) l.toNat c.toNat) (w.alloc (.cells (madeCells #[z] c.toNat) e)) := by
  have h := run_make (P := P) w t e i z ht hi hz kl kc l c h0 hlc hbytes h63
  rw [hz1, h1, Nat.mul_one] at h
  exact h

theorem splice_take {α : Type} (L cs : List α) (off n : Nat) (h : off + cs.length ≤ n) (hn : n ≤ L.length) : (splice L off cs).take n = splice (L.take n) off cs := by
  unfold splice
  rw [List.take_append, List.take_append, List.length_take, Nat.min_eq_left (by omega), List.take_of_length_le (l := L.take off) (by rw [List.length_take]; omega), List.take_of_length_le (l := cs) (by omega), List.take_take, Nat.min_eq_left (by omega), List.drop_take]
  congr 3
  omega

/-- 'copy' into a row of the call's own. -/
theorem wp_copy_shows {o : Oper} {a : Act} {K : Act → World → Prop} {Q : Exit → Act → World → Prop} (d s : Operand) (dT sT : TypeId)
    (ho : o.op = .call { callee := .builtin .copy, args := #[d, s], argTypes := #[dT, sT] }) (elem : TypeId) (hu : P.underlying dT = some (.slice elem)) (hsz : (P.info? elem).map (·.size) = some 1)
    (base : Nat) (e : TypeId) (g n cap : Nat) (xs : List Value) (hown : w.ownsRow base e 1 (.slice (some ⟨g, 0, none⟩) n cap) n xs)
    (off : Nat) (dp : Option Addr) (dLen dCap : Nat) (hd : a.eval d = .slice dp dLen dCap) (hdp : 0 < dLen → dp = some ⟨g, off, none⟩) (hfit : off + dLen ≤ n)
    (B : Nat) (sp : Option Addr) (sLen sCap : Nat) (news : List Value) (hs : a.eval s = .slice sp sLen sCap) (hr : Shows w B 1 sp sLen news) (h1 : ∀ v ∈ news, v.oneCell' = true)
    (h : ∀ w', w'.ownsRow base e 1 (.slice (some ⟨g, 0, none⟩) n cap) n (splice xs off (news.take dLen)) → w.grownBy w' (some g) → Below base w w' → K (a.put o.dst (goInt ((min sLen dLen : Nat) : Int))) w') :
    o.wp P a w K Q := by
  obtain ⟨hlen, hform⟩ := hown
  rcases hform with ⟨h', _⟩ | ⟨g', cap', cur, h', hbg, hg, hnc, hcm, hcs, htake⟩
  · simp at h'
  · simp only [Value.slice.injEq, Option.some.injEq, Addr.mk.injEq, and_true, true_and] at h'
    obtain ⟨rfl, rfl⟩ := h'
    have hl : (news.take dLen).length = Nat.min sLen dLen := by
      rw [List.length_take, hr.1, Nat.mul_one]
      exact Nat.min_comm _ _
    have hle : (news.take dLen).length ≤ dLen := by rw [hl]; exact Nat.min_le_right _ _
    have hcl : cur.toList.length = cap := by rw [Array.length_toList, hcs, Nat.mul_one]
    have e0 : (goInt ((news.take dLen).length : Nat)) = goInt ((min sLen dLen : Nat) : Int) := by rw [hl]
    by_cases hz : (news.take dLen).length = 0
    · have hrun := run_copy_none (P := P) w dT sT o.type elem dp sp dLen dCap sLen sCap hu hsz (by rw [← hl]; exact hz)
      have hnil : news.take dLen = [] := List.eq_nil_of_length_eq_zero hz
      have hm0 : min sLen dLen = 0 := by rw [hl] at hz; exact hz
      unfold Oper.wp
      simp [execOp, ho, resolve, invoke, builtin, hd, hs, hrun, Result.andThen]
      have hx := h w ⟨by rw [hnil]; simpa [splice] using hlen, .inr ⟨g, cap, cur, rfl, hbg, hg, hnc, hcm, hcs, by rw [hnil]; simpa [splice] using htake⟩⟩ (World.grownBy.refl w _) (Below.refl _ _)
      rw [hm0] at hx
      exact hx
    · have hpos : 0 < Nat.min sLen dLen := by omega
      have hs0 : 0 < sLen := Nat.lt_of_lt_of_le hpos (Nat.min_le_left _ _)
      have hd0 : 0 < dLen := Nat.lt_of_lt_of_le hpos (Nat.min_le_right _ _)
      obtain rfl := hdp hd0
      obtain ⟨b, so, rfl, _, hc⟩ := hr.2 hs0
      have hrun := run_copy_row (P := P) w dT sT o.type elem g off dLen dCap ⟨b, so, none⟩ sLen sCap cur e (news.take dLen) hu hsz hg hl
        (fun j v hj => by
          rw [addr_add]
          rw [List.getElem?_take] at hj
          split at hj
          · exact hc j v hj
          · cases hj) (by rw [hcs]; omega) (fun v hv => h1 v (List.mem_of_mem_take hv))
      unfold Oper.wp
      simp only [execOp, ho, resolve, invoke, builtin, hd, hs, hrun, Sem.run_bind, Sem.run_pure, Result.andThen_ok, List.map_toArray, List.map_cons, List.map_nil]
      rw [e0]
      refine (h _ ⟨?_, .inr ⟨g, cap, _, rfl, hbg, setRow_heap w g cur _ e _ hg, hnc, hcm, ?_, ?_⟩⟩ ?_ ?_)
      · rw [length_splice _ _ _ (by omega), hlen]
      · have := length_splice cur.toList off (news.take dLen) (by omega)
        unfold splice at this
        rw [← List.append_assoc] at this
        simp only [List.size_toArray]
        omega
      · have := splice_take cur.toList (news.take dLen) off (n * 1) (by omega) (by omega)
        rw [htake] at this
        unfold splice at this ⊢
        rw [← List.append_assoc] at this
        exact this
      · exact ⟨rfl, rfl, rfl, by simp [World.setRow], fun k _ hk => setRow_other w g k _ (fun e => hk (by simp [e]))⟩
      · exact below_setRow (Below.refl _ _) hbg _

theorem wpList_copy_shows {ops : Array Oper} {rest : List Oper} {o : Oper} {a : Act} {Q : Exit → Act → World → Prop} (hgd : o.guard = none) (d s : Operand) (dT sT : TypeId)
    (ho : o.op = .call { callee := .builtin .copy, args := #[d, s], argTypes := #[dT, sT] }) (elem : TypeId) (hu : P.underlying dT = some (.slice elem)) (hsz : (P.info? elem).map (·.size) = some 1)
    (base : Nat) (e : TypeId) (g n cap : Nat) (xs : List Value) (hown : w.ownsRow base e 1 (.slice (some ⟨g, 0, none⟩) n cap) n xs)
    (off : Nat) (dp : Option Addr) (dLen dCap : Nat) (hd : a.eval d = .slice dp dLen dCap) (hdp : 0 < dLen → dp = some ⟨g, off, none⟩) (hfit : off + dLen ≤ n)
    (B : Nat) (sp : Option Addr) (sLen sCap : Nat) (news : List Value) (hs : a.eval s = .slice sp sLen sCap) (hr : Shows w B 1 sp sLen news) (h1 : ∀ v ∈ news, v.oneCell' = true)
    (h : ∀ w', w'.ownsRow base e 1 (.slice (some ⟨g, 0, none⟩) n cap) n (splice xs off (news.take dLen)) → w.grownBy w' (some g) → Below base w w' → wpList P ops Q rest (a.put o.dst (goInt ((min sLen dLen : Nat) : Int))) w') :
    wpList P ops Q (o :: rest) a w :=
  wpList_plain hgd fun _ hK => wp_copy_shows d s dT sT ho elem hu hsz base e g n cap xs hown off dp dLen dCap hd hdp hfit B sp sLen sCap news hs hr h1 fun w' h2 h3 h4 => hK _ _ (h w' h2 h3 h4)

theorem step_copy_shows {ops : Array Oper} {o : Oper} {a : Act} {K : Act → World → Prop} {Q : Exit → Act → World → Prop} {E : Prop} (hgd : o.guard = none) (d s : Operand) (dT sT : TypeId)
    (ho : o.op = .call { callee := .builtin .copy, args := #[d, s], argTypes := #[dT, sT] }) (elem : TypeId) (hu : P.underlying dT = some (.slice elem)) (hsz : (P.info? elem).map (·.size) = some 1)
    (base : Nat) (e : TypeId) (g n cap : Nat) (xs : List Value) (hown : w.ownsRow base e 1 (.slice (some ⟨g, 0, none⟩) n cap) n xs)
    (off : Nat) (dp : Option Addr) (dLen dCap : Nat) (hd : a.eval d = .slice dp dLen dCap) (hdp : 0 < dLen → dp = some ⟨g, off, none⟩) (hfit : off + dLen ≤ n)
    (B : Nat) (sp : Option Addr) (sLen sCap : Nat) (news : List Value) (hs : a.eval s = .slice sp sLen sCap) (hr : Shows w B 1 sp sLen news) (h1 : ∀ v ∈ news, v.oneCell' = true)
    (h : ∀ w', w'.ownsRow base e 1 (.slice (some ⟨g, 0, none⟩) n cap) n (splice xs off (news.take dLen)) → w.grownBy w' (some g) → Below base w w' → K (a.put o.dst (goInt ((min sLen dLen : Nat) : Int))) w') :
    if Region.wanted o (yielded ops a.tmps) = true then Oper.wp P o a w K Q else E := by
  have hw : Region.wanted o (yielded ops a.tmps) = true := by simp [Region.wanted, hgd]
  rw [if_pos hw]
  exact wp_copy_shows d s dT sT ho elem hu hsz base e g n cap xs hown off dp dLen dCap hd hdp hfit B sp sLen sCap news hs hr h1 h
end
end Go.Proofs.YtlknmpnjhbdlhaaDoor
namespace Go.Proofs.YtlknmpnjhbdlhaaDoor
open Go.RowKit

theorem bytes_nil {w : World} {B n : Nat} {l : List UInt8} (h : Bytes w B none n l) : n = 0 ∧ l = [] := by
  have hn0 : n = 0 := by
    rcases Nat.eq_zero_or_pos n with h0 | h0
    · exact h0
    · obtain ⟨_, _, h, _⟩ := h.2 h0
      cases h
  exact ⟨hn0, List.eq_nil_of_length_eq_zero (by rw [h.len, hn0])⟩

set_option maxRecDepth 20000 in
theorem u8_info : ∃ i, Tryd.prog.info? 5 = some i ∧ i.zero = some (.int .u8 0) ∧ i.size = 1 ∧ i.bytes = 1 := ⟨Tryd.t5, by kernel_rfl, by kernel_rfl, by kernel_rfl, by kernel_rfl⟩

set_option maxRecDepth 20000 in
set_option maxHeartbeats 1000000 in
theorem clone_any (A : Option Addr) (n c : Nat) (l : List UInt8) (B : Nat) (w : World) (h : Bytes w B A n l) (hA : A = none → c = 0) (hB : B ≤ w.heap.size) (hn : n ≤ 140737488355328) :
    Calls Tryd.prog 22 #[.slice A n c] w (GivesBytes 5 l w) := by
  have hnil := fun (W : World) (a : Option Addr) (n c : Nat) => Lib.run_eql_slice_nil (P := Tryd.prog) W 34 5 a n c 0 0 Tryd.underlying34
  rcases A with _ | a
  · obtain rfl := hA rfl
    obtain ⟨rfl, rfl⟩ := bytes_nil h
    go_enter Tryd.func22, Tryd.ntmps22
    go_wp2
    go_ret
    exact ⟨none, 0, 0, rfl, World.ownsRow_nil _ _ _ _, Below.refl _ _⟩
  · obtain ⟨i0, hi, hz0, hz1, hz2⟩ := u8_info
    have hown := World.ownsRow_made (base := w.heap.size) (e := 5) (size := 1) w #[] 0 (Nat.le_refl _) (Nat.zero_le _) rfl
    have hs := (h.more hB).alloc (Nat.le_refl _) (.cells #[] 5)
    go_enter Tryd.func22, Tryd.ntmps22
    go_wp2_with (at_builtin; refine wpList_append_shows _ rfl _ _ _ rfl w.heap.size 5 i0 (.int .u8 0) 1 1 Tryd.underlying34 hi hz0 hz1 hz2 rfl (by decide) _ _ _ rfl hown w.heap.size _ _ _ (l.map bv) rfl hs (bv_one l) ?c3 ?c4 ?c5 ?_)
    case c3 => unfold maxLen; omega
    case c4 => omega
    case c5 => simp
    · intro A' c' w1 hown' _ hbel
      go_wp2
      go_ret
      exact ⟨A', n, c', by simp, hown', ((Below.refl _ _).alloc (Nat.le_refl _) _).trans hbel⟩
end Go.Proofs.YtlknmpnjhbdlhaaDoor
namespace Go.Proofs.YtlknmpnjhbdlhaaDoor
open Go.RowKit

def sameB (l1 l2 : List UInt8) : Bool := decide (l1 = l2)

end Go.Proofs.YtlknmpnjhbdlhaaDoor
/-
  Package crc: Lay and Holds; few.
-/
namespace Go.Proofs.YtlknmpnjhbdlhaaDoor
open Go.RowKit

set_option maxHeartbeats 1000000 in
theorem lay_any (s : Nat) (w : World) (hs : s < 4294967296) :
    Calls Tryd.prog 52 #[.int .u32 (s : Int)] w (GivesBytes 5 (Crc.laid s) w) := by
  go_enter Tryd.func52, Tryd.ntmps52
  go_wp2
  go_ret
  exact laid_gives s w hs rfl

set_option maxHeartbeats 1000000 in
theorem lay_full (A : Option Addr) (n c B : Nat) (l : List UInt8) (w : World) (htab : Tab w) (h : Bytes w B A n l) (hB : B ≤ w.heap.size) (hn : n ≤ 1000000) :
    Calls Tryd.prog 36 #[.slice A n c] w (GivesBytes 5 (l ++ Crc.laid (Crc.more 0 l)) w) := by
  obtain ⟨i0, hi, hz0, hz1, hz2⟩ := u8_info
  have hmk := fun W => run_make_one (P := Tryd.prog) Tryd.underlying34 hi hz0 rfl hz1 .i64 .i64 (n : Int) ((n : Int) + 4) (by omega) (by omega) (by rw [hz2]; omega) (by omega) W
  rw [Int.toNat_natCast, show ((n : Int) + 4).toNat = n + 4 by omega] at hmk
  have hl := h.len
  go_enter Tryd.func36, Tryd.ntmps36
  go_wp2_with (with_reducible refine wpList_copy_shows (o := ⟨some 12, _, _, _, _, _⟩) rfl (.tmp 10) (.tmp 11) _ _ rfl 5 Tryd.underlying34 ?c1 w.heap.size 5 w.heap.size n (n + 4) (List.replicate n (.int .u8 0)) ?c2 0 _ n (n + 4) rfl (fun _ => rfl) (by omega) B A n c (l.map bv) rfl ?c4 (bv_one l) ?_)
  case c1 => rw [hi]; simp [hz1]
  case c2 => exact own_zeros w _ n (n + 4) (Nat.le_refl _) (by omega) (by unfold maxLen; omega)
  case c4 => exact h.alloc hB _
  · intro w1 hown _ hbel
    have hx : splice (List.replicate n (Value.int .u8 0)) 0 ((l.map bv).take n) = l.map bv := by
      unfold splice
      rw [List.take_of_length_le (l := l.map bv) (by simp [hl])]
      simp [hl]
    rw [hx] at hown
    have hb1 := ((Below.refl w.heap.size w).alloc (Nat.le_refl _) (.cells (madeCells #[.int .u8 0] (n + 4)) 5)).trans hbel
    have hsz := hb1.size
    clear hx
    go_wp2_with fail
    refine (sum_any A n c w.heap.size l w1 (htab.below hb1 htab.lt) ((h.more hB).below hb1) (by omega) (by unfold maxLen; omega)).mono ?_
    rintro e w2 ⟨rfl, hb2⟩
    go_wp2_with fail
    refine (lay_any _ _ (Crc.more_lt 0 l)).mono ?_
    rintro e w3 ⟨A', n', c', rfl, hown3, hb3⟩
    have hs3 := Shows.own hown3
    have hown2 := own_below hown (hb2.trans (hb3.mono hb2.size))
    have hl3 : n' = 4 := by have := hown3.1; simp [Crc.laid] at this; omega
    subst hl3
    have hz3 := hb3.size
    have hz2' := hb2.size
    go_wp2_with (at_builtin; refine wpList_append_shows _ rfl _ _ _ rfl w.heap.size 5 i0 (.int .u8 0) 1 1 Tryd.underlying34 hi hz0 hz1 hz2 rfl (by decide) _ _ _ rfl hown2 w3.heap.size _ _ _ ((Crc.laid (Crc.more 0 l)).map bv) rfl hs3 (bv_one _) ?d3 ?d4 ?d5 ?_)
    case d3 => unfold maxLen; omega
    case d4 => omega
    case d5 => omega
    · intro A4 c4 w4 hown4 _ hb4
      go_wp2
      go_ret
      refine ⟨A4, n + 4, c4, rfl, ?_, ((hb1.trans (hb2.mono hsz)).trans (hb3.mono (by omega))).trans hb4⟩
      rw [List.map_append]
      exact hown4
end Go.Proofs.YtlknmpnjhbdlhaaDoor
/-
  Layer 12: the numbers of a block, read and laid.
-/
namespace Go.Proofs.YtlknmpnjhbdlhaaDoor
open Go.RowKit
set_option linter.unusedVariables false

theorem rd_lt : ∀ (l : List UInt8), Hdr.rdN l < 256 ^ l.length := by
  intro l
  have h : ∀ (n : Nat) (l : List UInt8), l.length = n → Hdr.rdN l < 256 ^ n := by
    intro n
    induction n with
    | zero => intro l hl; rw [List.eq_nil_of_length_eq_zero hl]; exact Nat.one_pos
    | succ n ih =>
      intro l hl
      obtain ⟨m, b, rfl⟩ : ∃ m b, l = m ++ [b] := by
        rcases List.eq_nil_or_concat l with h' | ⟨m, b, h'⟩
        · rw [h'] at hl; simp at hl
        · exact ⟨m, b, by rw [h', List.concat_eq_append]⟩
      have hb := b.toNat_lt
      have := ih m (by simpa using hl)
      rw [Hdr.rd_snoc, Nat.pow_succ]
      omega
  exact h _ l rfl
theorem rd_take {l : List UInt8} {k : Nat} (h : k < l.length) : Hdr.rdN (l.take (k + 1)) = Hdr.rdN (l.take k) * 256 + (l.getD k 0).toNat := by
  rw [take_snoc l k h, Hdr.rd_snoc]
theorem u64_or_byte (a b : Nat) (ha : a < 72057594037927936) (hb : b < 256) : bits .or .u64 ((a : Int) * 256) (b : Int) = ((a * 256 + b : Nat) : Int) := by
  have ho : ∀ n : Nat, n < 18446744073709551616 → (BitVec.ofInt 64 (n : Int)).toNat = n := fun n hn => by
    rw [BitVec.toNat_ofInt]
    omega
  have hw : ∀ n : Nat, n < 18446744073709551616 → IntKind.u64.wrap (n : Int) = (n : Int) := fun n hn => by
    have : IntKind.u64.wrap (n : Int) = (n : Int) % 18446744073709551616 := by simp [IntKind.wrap, IntKind.bits, IntKind.signed]
    rw [this]; omega
  have e : (a * 256 ||| b : Nat) = a * 256 + b := by
    have := Nat.two_pow_add_eq_or_of_lt (i := 8) (b := b) hb a
    rw [Nat.mul_comm a 256]
    exact this.symm
  show IntKind.u64.wrap ((BitVec.ofInt 64 ((a : Int) * 256) ||| BitVec.ofInt 64 (b : Int)).toNat : Int) = _
  rw [show (a : Int) * 256 = ((a * 256 : Nat) : Int) by omega, BitVec.toNat_or, ho _ (by omega), ho b (by omega), e, hw _ (by omega)]
set_option maxRecDepth 20000 in
set_option maxHeartbeats 1000000 in
theorem read_any (A : Option Addr) (n c B : Nat) (l : List UInt8) (w : World) (h : Bytes w B A n l) (hn : n ≤ 8) :
    Calls Tryd.prog 34 #[.slice A n c] w fun e w' => e = .returned (.int .u64 (Hdr.rdN l : Nat)) ∧ w = w' := by
  have H0 := Lib.hid h
  clear h
  go_enter Tryd.func34, Tryd.ntmps34
  go_wp2
  go_loop [3, 8] (fun x i => ∃ k t : Nat, k ≤ n ∧ i = .int .i64 k ∧ x = .int .u64 t ∧ Hid (t = Hdr.rdN (l.take k))) (fun _ i => n - (intOf i).toNat)
  case atStart => exact ⟨0, 0, Nat.zero_le _, rfl, rfl, Lib.hid rfl⟩
  case round =>
    obtain ⟨k, t, hk, rfl, rfl, Ht⟩ := hrel
    by_cases hlt : k < n
    · obtain ⟨b1, o1, rfl, hb1, hc1⟩ := H0.out.cell hlt
      have hl := H0.out.len
      have htl : t < 72057594037927936 := by
        rw [Ht.out]
        refine Nat.lt_of_lt_of_le (rd_lt _) ?_
        rw [List.length_take]
        exact Nat.pow_le_pow_right (by decide) (j := 7) (by omega)
      have hxl := (l.getD k 0).toNat_lt
      have hor := u64_or_byte t (l.getD k 0).toNat htl hxl
      have HN := Lib.hid (rd_take (l := l) (k := k) (by omega))
      rw [← Ht.out] at HN
      obtain ⟨x, hx⟩ : ∃ x, (l.getD k 0).toNat = x := ⟨_, rfl⟩
      have hc2 : w.cell? ⟨b1, o1 + k, none⟩ = some (.int .u8 (x : Nat)) := by rw [hc1]; unfold at8; rw [hx]
      rw [hx] at hor HN hxl
      clear hc1 hl hx
      have hsh : IntKind.u64.wrap ((t : Int) * 256) = (t : Int) * 256 := by
        have : IntKind.u64.wrap ((t : Int) * 256) = ((t : Int) * 256) % 18446744073709551616 := by simp [IntKind.wrap, IntKind.bits, IntKind.signed]
        rw [this]; omega
      go_wp2
      go_round
      case rel => exact ⟨k + 1, t * 256 + x, by omega, by go_num, by first | rfl | (rw [hor]) | go_num, Lib.hid HN.out.symm⟩
      case measure => simp [intOf]; omega
    · have hk' : k = n := by omega
      have hr : t = Hdr.rdN l := by
        have hl := H0.out.len
        rw [Ht.out, List.take_of_length_le (by omega)]
      have Hr := Lib.hid hr
      clear hk' hr
      go_wp2
      go_ret
      exact ⟨by rw [← Hr.out]; rfl, rfl⟩
end Go.Proofs.YtlknmpnjhbdlhaaDoor
/-
  Layer 12: numbers laid, the highest byte first.
-/
namespace Go.Proofs.YtlknmpnjhbdlhaaDoor
open Go.RowKit
set_option linter.unusedVariables false

theorem flatH_at {α β : Type} (f : α → List β) (d : Nat) (hf : ∀ x, (f x).length = d) : ∀ (L : List α) (k : Nat) (x : α), L[k]? = some x → ∀ i, i < d → (L.flatMap f)[k * d + i]? = (f x)[i]?
  | [], k, x, h, i, hi => by simp at h
  | y :: L, 0, x, h, i, hi => by
    have e : y = x := by simpa using h
    rw [List.flatMap_cons, Nat.zero_mul, Nat.zero_add, List.getElem?_append_left (by rw [hf]; exact hi), e]
  | y :: L, k + 1, x, h, i, hi => by
    rw [List.flatMap_cons, List.getElem?_append_right (by rw [hf, Nat.succ_mul]; omega), hf, show (k + 1) * d + i - d = k * d + i by rw [Nat.succ_mul]; omega]
    exact flatH_at f d hf L k x (by simpa using h) i hi
theorem flatH_take {α β : Type} (f : α → List β) {L : List α} {k : Nat} {x : α} (h : L[k]? = some x) : (L.take (k + 1)).flatMap f = (L.take k).flatMap f ++ f x := by
  rw [List.take_add_one, h, List.flatMap_append]
  simp
/-- A number, and in how many bytes. -/
def numC (p : Nat × Nat) : List Value := [.int .u64 (p.1 : Int), .int .i64 (p.2 : Nat)]
def numL (p : Nat × Nat) : List UInt8 := Hdr.hiL p.1 p.2
theorem flatH_len {α β : Type} (f : α → List β) (d : Nat) (hf : ∀ x, (f x).length = d) : ∀ L : List α, (L.flatMap f).length = L.length * d
  | [] => by simp
  | y :: L => by rw [List.flatMap_cons, List.length_append, hf, flatH_len f d hf L, List.length_cons, Nat.succ_mul]; omega
theorem u8_nat (x : Nat) : bv (UInt8.ofNat x) = .int .u8 ((x : Int) % 256) := by
  unfold bv
  rw [UInt8.toNat_ofNat']
  simp
set_option maxRecDepth 20000 in
set_option maxHeartbeats 2000000 in
theorem laidH_any (A : Option Addr) (n c B : Nat) (ns : List (Nat × Nat)) (w : World) (h : Shows w B 2 A n (ns.flatMap numC)) (hB : B ≤ w.heap.size) (hs : ∀ p ∈ ns, p.1 < 18446744073709551616 ∧ 1 ≤ p.2 ∧ p.2 ≤ 8) (hn : n ≤ 8) :
    Calls Tryd.prog 35 #[.slice A n c] w (GivesBytes 5 (ns.flatMap numL) w) := by
  obtain ⟨i0, hi, hz0, hz1, hz2⟩ := u8_info
  have hnl : ns.length = n := by have := h.1; rw [flatH_len numC 2 (fun _ => rfl)] at this; omega
  have H0 := Lib.hid h
  have HS := Lib.hid hs
  have HNL := Lib.hid hnl
  clear h hs hnl
  go_enter Tryd.func35, Tryd.ntmps35
  go_wp2
  go_loopw [3, 9] (fun v x wr => ∃ (k : Nat) (A1 : Option Addr) (n1 c1 : Nat), k ≤ n ∧ x = .int .i64 k ∧ v = .slice A1 n1 c1 ∧ n1 ≤ 8 * k ∧ Hid (wr.ownsRow w.heap.size 5 1 (.slice A1 n1 c1) n1 (((ns.take k).flatMap numL).map bv)) ∧ Below w.heap.size w wr) (fun _ x _ => n - (intOf x).toNat)
  case atStart => exact ⟨0, none, 0, 0, Nat.zero_le _, rfl, rfl, Nat.le_refl _, Lib.hid ⟨rfl, .inl ⟨rfl, rfl⟩⟩, Below.refl _ _⟩
  case round =>
    obtain ⟨k, A1, n1, c1, hk, rfl, rfl, hn1, HO, hbr⟩ := hrel
    by_cases hlt : k < n
    · obtain ⟨b1, o1, rfl, hb1, hc1⟩ := H0.out.2 (by omega)
      obtain ⟨p, hp⟩ : ∃ p, ns[k]? = some p := ⟨_, List.getElem?_eq_getElem (by rw [HNL.out]; exact hlt)⟩
      obtain ⟨x, s⟩ := p
      have hps := HS.out _ (List.mem_of_getElem? hp)
      have d0 : wr.cell? ⟨b1, o1 + k * 2, none⟩ = some (.int .u64 (x : Int)) := (hbr.cell (by show b1 < _; omega)).trans (hc1 (k * 2) _ (by rw [← Nat.add_zero (k * 2), flatH_at numC 2 (fun _ => rfl) ns k _ hp 0 (by omega)]; rfl))
      have d1 : wr.cell? ⟨b1, o1 + (k * 2 + 1), none⟩ = some (.int .i64 (s : Nat)) := (hbr.cell (by show b1 < _; omega)).trans (hc1 (k * 2 + 1) _ (by rw [flatH_at numC 2 (fun _ => rfl) ns k _ hp 1 (by omega)]; rfl))
      have d1' : wr.cell? ⟨b1, o1 + k * 2 + 1, none⟩ = some (.int .i64 (s : Nat)) := by rw [Nat.add_assoc]; exact d1
      have HP := Lib.hid hp
      clear hc1 hp
      obtain ⟨hx, hs1, hs8⟩ := hps
      simp only at hx hs1 hs8
      go_wp2
      obtain ⟨g, hg⟩ : ∃ g, wr.heap.size = g := ⟨_, rfl⟩
      have hgw : w.heap.size ≤ g := by rw [← hg]; exact hbr.size
      have hbk : (wr.alloc (.cells #[.int .u64 (x : Int), .int .i64 (s : Nat)] 74)).heap[g]? = some (.cells #[.int .u64 (x : Int), .int .i64 (s : Nat)] 74 (0, 0)) := by rw [← hg]; exact heap_alloc_new _ _
      have hba : Below w.heap.size w (wr.alloc (.cells #[.int .u64 (x : Int), .int .i64 (s : Nat)] 74)) := bel_alloc hbr _
      have HOa := Lib.hid (HO.out.alloc (.cells #[.int .u64 (x : Int), .int .i64 (s : Nat)] 74))
      rw [hg]
      generalize wr.alloc (.cells #[.int .u64 (x : Int), .int .i64 (s : Nat)] 74) = wa at *
      clear hg d0 d1 d1' hbr HO
      go_loopw [3, 6] (fun v y wi => ∃ (j : Nat) (A2 : Option Addr) (n2 c2 : Nat) (z : Int), j ≤ s ∧ y = .int .i64 z ∧ Hid (z = 8 * ((s : Int) - 1 - (j : Int))) ∧ v = .slice A2 n2 c2 ∧ n2 ≤ 8 * k + j ∧ Hid (wi.ownsRow w.heap.size 5 1 (.slice A2 n2 c2) n2 (((ns.take k).flatMap numL ++ Hdr.hiL (x / 256 ^ (s - j)) j).map bv)) ∧ wi.heap[g]? = some (.cells #[.int .u64 (x : Int), .int .i64 (s : Nat)] 74 (0, 0)) ∧ Below w.heap.size w wi) (fun _ y _ => (intOf y + 8).toNat)
      case atStart => exact ⟨0, A1, n1, c1, 8 * ((s : Int) - 1), by omega, rfl, Lib.hid (by omega), rfl, by omega, Lib.hid (by rw [Hdr.hiL, List.append_nil]; exact HOa.out), hbk, hba⟩
      case round =>
        clear hbk hba HOa
        obtain ⟨j, A2, n2, c2, z, hj, rfl, HZ, rfl, hn2, HO2, hbk2, hb2⟩ := hrel
        by_cases hjs : j < s
        · obtain ⟨sh, rfl, hshl⟩ : ∃ sh : Nat, z = (sh : Int) ∧ sh ≤ 56 := ⟨z.toNat, by have := HZ.out; omega, by have := HZ.out; omega⟩
          have hpw : 2 ^ sh = 256 ^ (s - (j + 1)) := by
            rw [show sh = 8 * (s - (j + 1)) by have := HZ.out; omega, Nat.pow_mul]
          have e1 : wr.cell? ⟨g, 0, none⟩ = some (.int .u64 (x : Int)) := by rw [cell_of_row _ _ _ _ _ _ hbk2]; rfl
          obtain ⟨q, hq⟩ : ∃ q, x / 2 ^ sh = q := ⟨_, rfl⟩
          have hqi : (x : Int) / 2 ^ sh = (q : Int) := by rw [← hq, Int.natCast_ediv]; simp
          have HQ := Lib.hid (show q = x / 256 ^ (s - (j + 1)) by rw [← hq, hpw])
          clear hq hpw
          have hs2 := hb2.size
          have hbk2a : (wr.alloc (.cells #[.int .u8 ((q : Int) % 256)] 5)).heap[g]? = some (.cells #[.int .u64 (x : Int), .int .i64 (s : Nat)] 74 (0, 0)) := blk_later hbk2 ((Below.refl _ _).alloc (Nat.le_refl _) _)
          have HO2a := Lib.hid (HO2.out.alloc (.cells #[.int .u8 ((q : Int) % 256)] 5))
          go_wp2_with (at_builtin; refine wpList_append_shows _ rfl _ _ _ rfl w.heap.size 5 i0 (.int .u8 0) 1 1 Tryd.underlying34 hi hz0 hz1 hz2 rfl (by decide) _ _ _ rfl HO2a.out (wr.heap.size + 1) _ 1 1 ([UInt8.ofNat q].map bv) rfl ?c1 (bv_one _) ?c2 ?c3 ?c4 ?_)
          case c1 => exact bytes_new wr [UInt8.ofNat q] _ _ _ (by simp [u8_nat])
          case c2 => unfold maxLen; omega
          case c3 => omega
          case c4 => simp; omega
          · intro A3 c3 w3 hown3 hgr hb3
            have hbk3 : w3.heap[g]? = some (.cells #[.int .u64 (x : Int), .int .i64 (s : Nat)] 74 (0, 0)) := blk_other hbk2a hgr (own_blk_ne HO2a.out hbk2a (by decide))
            have hb4 : Below w.heap.size w w3 := (bel_alloc hb2 _).trans hb3
            have HO3 := Lib.hid hown3
            clear hown3 hgr hb3 hbk2 hb2 HO2 HO2a hbk2a e1 hqi
            go_wp2
            go_roundw
            case rel =>
              refine ⟨j + 1, A3, n2 + 1, c3, _, by omega, rfl, Lib.hid (by have := HZ.out; omega), rfl, by omega, Lib.hid ?_, hbk3, hb4⟩
              have h3 := HO3.out
              have hq1 : x / 256 ^ (s - j) = q / 256 := by
                rw [HQ.out, Nat.div_div_eq_div_mul, show s - j = (s - (j + 1)) + 1 by omega, Nat.pow_succ]
              rw [Hdr.hiL, ← HQ.out, ← hq1, ← List.append_assoc, List.map_append, List.map_append, List.append_assoc]
              exact h3
            case measure => simp [intOf]; have := HZ.out; omega
        · have hjs' : j = s := by omega
          have HF := Lib.hid (show (ns.take k).flatMap numL ++ Hdr.hiL (x / 256 ^ (s - j)) j = (ns.take (k + 1)).flatMap numL by
            rw [flatH_take numL HP.out, hjs', Nat.sub_self, Nat.pow_zero, Nat.div_one]; rfl)
          have hz : ¬ (0 ≤ z) := by have := HZ.out; omega
          have hn3 : n2 ≤ 8 * (k + 1) := by omega
          clear hjs' hjs hbk2
          go_wp2
          go_roundw
          case rel => exact ⟨k + 1, A2, n2, c2, by omega, by go_num, rfl, hn3, Lib.hid (by rw [← HF.out]; exact HO2.out), hb2⟩
          case measure => simp [intOf]; omega
    · have hk' : k = n := by omega
      have hbr' := hbr
      have HF := Lib.hid (show (ns.take k).flatMap numL = ns.flatMap numL by rw [List.take_of_length_le (by rw [HNL.out]; omega)])
      clear hk'
      go_wp2
      go_ret
      refine ⟨A1, n1, c1, rfl, ?_, hbr'⟩
      rw [← HF.out]
      exact HO.out
end Go.Proofs.YtlknmpnjhbdlhaaDoor
/-
  Layer 12: a header's check and its block.
-/
namespace Go.Proofs.YtlknmpnjhbdlhaaDoor
open Go.RowKit
set_option linter.unusedVariables false

/-- May a header be? -/
def okH (g : Nat) (a : Int) : Bool := decide (1 ≤ g) && (decide (0 ≤ a) && decide (a < 524288))
theorem okH_iff {g : Nat} {a : Int} : okH g a = true ↔ 1 ≤ g ∧ 0 ≤ a ∧ a < 524288 := by
  unfold okH
  simp
def errH (g : Nat) (a : Int) : Int := if okH g a = true then 0 else 220
theorem errH_yes {g : Nat} {a : Int} (h : okH g a = true) : errH g a = 0 := if_pos h
theorem errH_no {g : Nat} {a : Int} (h : okH g a = false) : errH g a = 220 := if_neg (by rw [h]; decide)
set_option maxRecDepth 20000 in
theorem checkH_any (g : Nat) (a : Int) (w : World) :
    Calls Tryd.prog 11 #[.agg #[.int .u64 (g : Int), .int .i64 a]] w fun e w' => e = .returned (.int .i64 (errH g a)) ∧ Below w.heap.size w w' := by
  have hb1 := bel_alloc (Below.refl w.heap.size w) (.cells #[.int .u64 (g : Int), .int .i64 a] 24)
  by_cases h0 : g = 0
  · have HE := Lib.hid (errH_no (g := g) (a := a) (by unfold okH; simp [h0]))
    subst h0
    go_enter Tryd.func11, Tryd.ntmps11
    go_wp2
    go_ret
    exact ⟨by rw [HE.out]; rfl, hb1⟩
  · have h0' : ((g : Int) == 0) = false := beq_eq_false_iff_ne.2 (by omega)
    have hg1 : 1 ≤ g := by omega
    clear h0
    by_cases h1 : a < 0
    · have HE := Lib.hid (errH_no (g := g) (a := a) (by unfold okH; simp; omega))
      go_enter Tryd.func11, Tryd.ntmps11
      go_wp2
      go_ret
      exact ⟨by rw [HE.out]; rfl, hb1⟩
    · by_cases h2 : a < 524288
      · have HE := Lib.hid (errH_yes (okH_iff.2 ⟨hg1, by omega, h2⟩))
        go_enter Tryd.func11, Tryd.ntmps11
        go_wp2
        go_ret
        exact ⟨by rw [HE.out]; rfl, hb1⟩
      · have HE := Lib.hid (errH_no (g := g) (a := a) (by unfold okH; simp; omega))
        go_enter Tryd.func11, Tryd.ntmps11
        go_wp2
        go_ret
        exact ⟨by rw [HE.out]; rfl, hb1⟩

def z64 : List UInt8 := List.replicate 64 0
theorem lit64 : (#[.int .u8 0, .int .u8 0, .int .u8 0, .int .u8 0, .int .u8 0, .int .u8 0, .int .u8 0, .int .u8 0, .int .u8 0, .int .u8 0, .int .u8 0, .int .u8 0, .int .u8 0, .int .u8 0, .int .u8 0, .int .u8 0, .int .u8 0, .int .u8 0, .int .u8 0, .int .u8 0, .int .u8 0, .int .u8 0, .int .u8 0, .int .u8 0, .int .u8 0, .int .u8 0, .int .u8 0, .int .u8 0, .int .u8 0, .int .u8 0, .int .u8 0, .int .u8 0, .int .u8 0, .int .u8 0, .int .u8 0, .int .u8 0, .int .u8 0, .int .u8 0, .int .u8 0, .int .u8 0, .int .u8 0, .int .u8 0, .int .u8 0, .int .u8 0, .int .u8 0, .int .u8 0, .int .u8 0, .int .u8 0, .int .u8 0, .int .u8 0, .int .u8 0, .int .u8 0, .int .u8 0, .int .u8 0, .int .u8 0, .int .u8 0, .int .u8 0, .int .u8 0, .int .u8 0, .int .u8 0, .int .u8 0, .int .u8 0, .int .u8 0, .int .u8 0] : Array Value) = ⟨z64.map bv⟩ := rfl
theorem arr_lit (w : World) : Arr (w.alloc (.cells #[.int .u8 0, .int .u8 0, .int .u8 0, .int .u8 0, .int .u8 0, .int .u8 0, .int .u8 0, .int .u8 0, .int .u8 0, .int .u8 0, .int .u8 0, .int .u8 0, .int .u8 0, .int .u8 0, .int .u8 0, .int .u8 0, .int .u8 0, .int .u8 0, .int .u8 0, .int .u8 0, .int .u8 0, .int .u8 0, .int .u8 0, .int .u8 0, .int .u8 0, .int .u8 0, .int .u8 0, .int .u8 0, .int .u8 0, .int .u8 0, .int .u8 0, .int .u8 0, .int .u8 0, .int .u8 0, .int .u8 0, .int .u8 0, .int .u8 0, .int .u8 0, .int .u8 0, .int .u8 0, .int .u8 0, .int .u8 0, .int .u8 0, .int .u8 0, .int .u8 0, .int .u8 0, .int .u8 0, .int .u8 0, .int .u8 0, .int .u8 0, .int .u8 0, .int .u8 0, .int .u8 0, .int .u8 0, .int .u8 0, .int .u8 0, .int .u8 0, .int .u8 0, .int .u8 0, .int .u8 0, .int .u8 0, .int .u8 0, .int .u8 0, .int .u8 0] 25)) w.heap.size 25 z64 := Arr.new w 25 z64
theorem z64_len : z64.length = 64 := List.length_replicate
theorem size64 : (Tryd.prog.info? 25).map (·.size) = some 64 := by kernel_rfl
theorem info64 {l : List UInt8} (h : l.length = 64) : (Tryd.prog.info? 25).map (·.size) = some l.length := by rw [h]; exact size64
theorem info64' {l : List UInt8} (h : l.length = 64) : (Tryd.prog.info? 25).map (·.size) = some (⟨l.map bv⟩ : Array Value).size := by
  rw [size64, show (⟨l.map bv⟩ : Array Value).size = (l.map bv).length from rfl, List.length_map, h]
/-- A result of 64 bytes in a cell. -/
theorem results64 {fn : Func} {p : Tmp} (h : fn.results = #[.cell p 25]) (tmps : Array Value) (w : World) (g : Nat) (l : List UInt8) (hl : l.length = 64) (hp : tmps.getD p undef = .pointer (some ⟨g, 0, none⟩)) (hg : Arr w g 25 l) :
    (results fn tmps).run Tryd.prog w = .ok (arrV l) w :=
  results_cell_row (P := Tryd.prog) h tmps w g _ _ (0, 0) _ hp hg Tryd.underlying25 rfl (info64' hl)
/-- Two new arrays behind a header's box. -/
theorem box_zz (w : World) (C : Array Value) (tH t : TypeId) : ∀ W, ((w.alloc (.cells C tH)).alloc (.cells ⟨z64.map bv⟩ t)).alloc (.cells ⟨z64.map bv⟩ t) = W →
    W.heap[w.heap.size]? = some (.cells C tH (0, 0)) ∧ Arr W (w.heap.size + 1) t z64 ∧ Arr W (w.heap.size + 1 + 1) t z64 ∧ W.heap.size = w.heap.size + 1 + 1 + 1 ∧ Below w.heap.size w W := by
  rintro W rfl
  have h1 := heap_alloc_new w (.cells C tH)
  have h2 := Arr.new (w.alloc (.cells C tH)) t z64
  have h3 := Arr.new ((w.alloc (.cells C tH)).alloc (.cells ⟨z64.map bv⟩ t)) t z64
  rw [World.size_alloc] at h2
  rw [World.size_alloc, World.size_alloc] at h3
  exact ⟨blk_later (blk_later h1 ((Below.refl _ _).alloc (Nat.le_refl _) _)) ((Below.refl _ _).alloc (Nat.le_refl _) _), h2.alloc _, h3, by simp, bel_alloc (bel_alloc (bel_alloc (Below.refl _ _) _) _) _⟩
set_option maxRecDepth 20000 in
set_option maxHeartbeats 2000000 in
theorem blockH_no (g : Nat) (a : Int) (w : World) (h : okH g a = false) :
    Calls Tryd.prog 15 #[.agg #[.int .u64 (g : Int), .int .i64 a]] w fun e w' => e = .returned (arrV z64) ∧ Below w.heap.size w w' := by
  have hch := fun W => checkH_any g a W
  rw [errH_no h] at hch
  go_enter Tryd.func15, Tryd.ntmps15
  go_upto_region 2 with fail
  rw [lit64]
  have HB := box_zz w #[.int .u64 (g : Int), .int .i64 a] 24 25
  generalize ((w.alloc (.cells #[.int .u64 (g : Int), .int .i64 a] 24)).alloc (.cells ⟨z64.map bv⟩ 25)).alloc (.cells ⟨z64.map bv⟩ 25) = W1 at *
  obtain ⟨hh, ha1, ha2, hs, hb⟩ := HB W1 rfl
  have x0 : W1.cell? ⟨w.heap.size, 0, none⟩ = some (.int .u64 (g : Int)) := by rw [cell_of_row _ _ _ _ _ _ hh]; rfl
  have x1 : W1.cell? ⟨w.heap.size, 1, none⟩ = some (.int .i64 a) := by rw [cell_of_row _ _ _ _ _ _ hh]; rfl
  go_upto_region 3 with (refine (hch _).mono ?_; rintro e w2 ⟨rfl, hb2⟩)
  have ha2' := ha2.later hb2
  have ha1' := ha1.later hb2
  have hb3 : Below w.heap.size w w2 := hb.trans (hb2.mono hb.size)
  clear HB x0 x1 hch
  go_wp2_with (first
    | (with_reducible refine wpList_loadArr rfl (.tmp 3) rfl rfl ha2' Tryd.underlying25 (info64 z64_len) ?_)
    | (with_reducible refine wpList_storeArr rfl (.tmp 2) (.tmp 7) rfl rfl rfl ha1' (info64 z64_len) rfl ?_; intro w4 ha4 hb4))
  refine bodyPost_ret (results64 rfl _ _ (w.heap.size + 1) z64 z64_len rfl ha4) rfl ⟨rfl, hb3.trans (hb4.below _ (by omega))⟩
end Go.Proofs.YtlknmpnjhbdlhaaDoor
/-
  Steps of a region that draws, more of them: a row made of values, an append onto a row of one's own beside another such row of the same type. No program in sight.
-/
namespace Go.Proofs.YtlknmpnjhbdlhaaDoor
open Go.RowKit
set_option linter.unusedVariables false

/-- Two rows of one's own are apart. -/
def ApartV (v u : Value) : Prop := u.ownBlock = none ∨ u.ownBlock ≠ v.ownBlock
theorem shows_made (W : World) (cs : Array Value) (t : TypeId) (g n size : Nat) (hg : W.heap.size = g) (hl : cs.toList.length = n * size) : Shows (W.alloc (.cells cs t)) (g + 1) size (some ⟨g, 0, none⟩) n cs.toList := by
  subst hg
  refine ⟨hl, fun _ => ⟨W.heap.size, 0, rfl, by omega, fun j u hu => ?_⟩⟩
  rw [Nat.zero_add]
  refine (World.cell?_alloc_new W _ t j).trans ?_
  simpa using hu
section
variable {P : Program} {w w' : World} {o : Oper} {a : Act} {K : Act → World → Prop} {Q : Exit → Act → World → Prop}
/-- '[]T{..}'. -/
theorem step_rows (t e : TypeId) (k : Nat) (xs : Array (Nat × Operand)) (ho : o.op = .buildSlice t k xs) (size : Nat) (i : TypeInfo) (z : Value) (ht : P.underlying t = some (.slice e)) (hi : P.info? e = some i) (hz : i.zero = some z) (hsize : i.size = size)
    (cells : Array Value) (hf : Instr.fill (fun q => some (q * size, size)) ((Array.range (k * size)).map (z.cells[· % z.cells.size]!)) (xs.toList.map fun p => (p.1, a.eval p.2)) = some cells) (hcs : cells.toList.length = k * size) (h0 : ¬ k * size = 0) (h24 : ¬ k * size > 2 ^ 24)
    (h : ∀ g w', w.heap.size ≤ g → Shows w' (g + 1) size (some ⟨g, 0, none⟩) k cells.toList → g + 1 ≤ w'.heap.size → Below w.heap.size w w' → K (a.put o.dst (.slice (some ⟨g, 0, none⟩) k k)) w') : o.wp P a w K Q := by
  refine wp_buildSlice t e k xs ho cells i z ht hi hz (by rw [hsize]; exact h24) (by rw [hsize]; exact h0) (by rw [hsize]; simpa using hf) ?_
  exact h w.heap.size (w.alloc (.cells cells e)) (Nat.le_refl _) (shows_made w cells e w.heap.size k size rfl hcs) (by rw [World.size_alloc]; exact Nat.le_refl _) ((Below.refl _ _).alloc (Nat.le_refl _) _)
/-- append onto a row of one's own, beside another one. -/
theorem step_appO (s x : Operand) (t : TypeId) (ho : o.op = .call { callee := .builtin .append, args := #[s, x], argTypes := #[t, t] })
    (base : Nat) (e : TypeId) (i : TypeInfo) (z : Value) (size bytes : Nat) (ht : P.underlying t = some (.slice e)) (hi : P.info? e = some i) (hz : i.zero = some z)
    (hsize : i.size = size) (hby : i.bytes = bytes) (hzs : z.cells.size = size) (hsz : 0 < size)
    (v : Value) (n : Nat) (xs : List Value) (hs : a.eval s = v) (hown : w.ownsRow base e size v n xs)
    (B : Nat) (b : Nat) (m c : Nat) (news : List Value) (hx : a.eval x = .slice (some ⟨b, 0, none⟩) m c) (hr : Shows w B size (some ⟨b, 0, none⟩) m news) (h1 : ∀ u ∈ news, u.oneCell' = true)
    (h63 : n + m ≤ maxLen) (hbytes : (n + m) * bytes ≤ 140737488355328) (hbase : base ≤ w.heap.size)
    (h : ∀ A' c' w', w'.ownsRow base e size (.slice A' (n + m) c') (n + m) (xs ++ news) → w.grownBy w' v.ownBlock → Below base w w' → ((Value.slice A' (n + m) c').ownBlock = v.ownBlock ∨ (Value.slice A' (n + m) c').ownBlock = some w.heap.size) → K (a.put o.dst (.slice A' (n + m) c')) w') :
    o.wp P a w K Q := by
  have hcells : ∀ j u, news[j]? = some u → w.cell? ((⟨b, 0, none⟩ : Addr).add j) = some u := by
    intro j u hu
    rcases Nat.eq_zero_or_pos m with h0 | h0
    · subst h0
      have hn : news = [] := List.eq_nil_of_length_eq_zero (by simpa using hr.1)
      subst hn
      simp at hu
    · obtain ⟨b', off, he, _, hc⟩ := hr.2 h0
      injection he with he
      injection he with e1 e2
      subst e1; subst e2
      rw [addr_add]
      exact hc j u hu
  obtain ⟨v', w', hrun, h2, h3, _, h4⟩ := run_append_own_at (P := P) w base t o.type e i z size bytes ht hi hz hsize hby hzs hsz v n xs hown ⟨b, 0, none⟩ m c news hr.1 hcells h1 h63 hbytes hbase
  obtain ⟨A', c', rfl, _, _⟩ := own_form h2
  unfold Oper.wp execOp
  simp only [ho, resolve, invoke, builtin, Sem.run_bind, Sem.run_pure, Result.andThen_ok, List.map_toArray, List.map_cons, List.map_nil, hs, hx, hrun]
  exact h A' c' w' h2 h3 ((Below.refl base w).grown h3 hbase fun k hk => (hown.lt k hk).1) h4
theorem wpList_appO {ops : Array Oper} {rest : List Oper} (hgd : o.guard = none) (s x : Operand) (t : TypeId) (ho : o.op = .call { callee := .builtin .append, args := #[s, x], argTypes := #[t, t] })
    (base : Nat) (e : TypeId) (i : TypeInfo) (z : Value) (size bytes : Nat) (ht : P.underlying t = some (.slice e)) (hi : P.info? e = some i) (hz : i.zero = some z)
    (hsize : i.size = size) (hby : i.bytes = bytes) (hzs : z.cells.size = size) (hsz : 0 < size)
    (v : Value) (n : Nat) (xs : List Value) (hs : a.eval s = v) (hown : w.ownsRow base e size v n xs)
    (B : Nat) (b : Nat) (m c : Nat) (news : List Value) (hx : a.eval x = .slice (some ⟨b, 0, none⟩) m c) (hr : Shows w B size (some ⟨b, 0, none⟩) m news) (h1 : ∀ u ∈ news, u.oneCell' = true)
    (h63 : n + m ≤ maxLen) (hbytes : (n + m) * bytes ≤ 140737488355328) (hbase : base ≤ w.heap.size)
    (h : ∀ A' c' w', w'.ownsRow base e size (.slice A' (n + m) c') (n + m) (xs ++ news) → w.grownBy w' v.ownBlock → Below base w w' → ((Value.slice A' (n + m) c').ownBlock = v.ownBlock ∨ (Value.slice A' (n + m) c').ownBlock = some w.heap.size) → wpList P ops Q rest (a.put o.dst (.slice A' (n + m) c')) w') :
    wpList P ops Q (o :: rest) a w :=
  wpList_plain hgd fun _ hK => step_appO s x t ho base e i z size bytes ht hi hz hsize hby hzs hsz v n xs hs hown B b m c news hx hr h1 h63 hbytes hbase fun A' c' w' h2 h3 h4 h5 => hK _ _ (h A' c' w' h2 h3 h4 h5)
theorem apart_app {base size n : Nat} {e : TypeId} {v v' u : Value} {xs : List Value} (ha : ApartV v u) (hu : w.ownsRow base e size u n xs) (hor : v'.ownBlock = v.ownBlock ∨ v'.ownBlock = some w.heap.size) : ApartV v' u := by
  rcases ha with h | h
  · exact .inl h
  · rcases hor with h2 | h2
    · exact .inr (by rw [h2]; exact h)
    · refine .inr fun e => ?_
      rw [h2] at e
      have := (hu.lt _ e).2
      omega
theorem apart_turn {v u : Value} (h : ApartV v u) : ApartV u v := by
  rcases h with h | h
  · cases hv : v.ownBlock with
    | none => exact .inl hv
    | some k => exact .inr (by rw [hv, h]; simp)
  · exact .inr fun e => h e.symm
end
end Go.Proofs.YtlknmpnjhbdlhaaDoor
