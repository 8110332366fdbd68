import Derived.Test.YtndolgbbochpjaaDoorGaa
import Derived.Test.YtndolgbbochpjaaDoorGab
import Derived.BigRegion
import Derived.Test.YtndolgbbochpjaaDoorGae
import Derived.Test.YtndolgbbochpjaaDoorGac
import Derived.Laws.IdiomStrings
import Derived.Test.YtndolgbbochpjaaDoorGaf
/-
  make and copy on rows of the call's own. No program in sight.
-/
namespace Go.Proofs.YtndolgbbochpjaaDoor
open Go.RowKit

section
variable {w : World} {base : Nat} {e : TypeId} {size : Nat}
theorem own_made (w : World) (cs : Array Value) (n cap : Nat) (hb : base ≤ w.heap.size) (hn : n ≤ cap) (hm : cap ≤ maxLen) (hs : cs.size = cap * size) :
    (w.alloc (.cells cs e)).ownsRow base e size (.slice (some ⟨w.heap.size, 0, none⟩) n cap) n (cs.toList.take (n * size)) :=
  ⟨by rw [List.length_take, Array.length_toList, hs]; exact Nat.min_eq_left (Nat.mul_le_mul_right _ hn), .inr ⟨w.heap.size, cap, cs, rfl, hb, heap_alloc_new w _, hn, hm, hs, rfl⟩⟩
theorem own_zeros (w : World) (z : Value) (n cap : Nat) (hb : base ≤ w.heap.size) (hn : n ≤ cap) (hm : cap ≤ maxLen) :
    (w.alloc (.cells (madeCells #[z] cap) e)).ownsRow base e 1 (.slice (some ⟨w.heap.size, 0, none⟩) n cap) n (List.replicate n z) := by
  have h := own_made (base := base) (e := e) (size := 1) w (madeCells #[z] cap) n cap hb hn hm (by rw [size_madeCells, Nat.mul_one])
  rw [toList_madeCells_one, List.take_replicate, Nat.mul_one, Nat.min_eq_left hn] at h
  exact h
end

section
variable {P : Program} {w : World}
/-- 'make' of a slice of elements of one cell. -/
theorem run_make_one {t e : TypeId} {i : TypeInfo} {z : Value} (ht : P.underlying t = some (.slice e)) (hi : P.info? e = some i) (hz : i.zero = some z) (hz1 : z.cells = #[z]) (h1 : i.size = 1)
    (kl kc : IntKind) (l c : Int) (h0 : 0 ≤ l) (hlc : l ≤ c) (hbytes : (i.bytes : Int) * c ≤ 281474976710656) (h63 : c ≤ 9223372036854775807) (w : World) :
    (Instr.makeSlice t (.int kl l) (.int kc c)).run P w = .ok (.slice (some ⟨w.heap.size, 0, none⟩) l.toNat c.toNat) (w.alloc (.cells (madeCells #[z] c.toNat) e)) := by
  have h := run_make (P := P) w t e i z ht hi hz kl kc l c h0 hlc hbytes h63
  rw [hz1, h1, Nat.mul_one] at h
  exact h

theorem splice_take {α : Type} (L cs : List α) (off n : Nat) (h : off + cs.length ≤ n) (hn : n ≤ L.length) : (splice L off cs).take n = splice (L.take n) off cs := by
  unfold splice
  rw [List.take_append, List.take_append, List.length_take, Nat.min_eq_left (by omega), List.take_of_length_le (l := L.take off) (by rw [List.length_take]; omega), List.take_of_length_le (l := cs) (by omega), List.take_take, Nat.min_eq_left (by omega), List.drop_take]
  congr 3
  omega

/-- 'copy' into a row of the call's own. -/
theorem wp_copy_shows {o : Oper} {a : Act} {K : Act → World → Prop} {Q : Exit → Act → World → Prop} (d s : Operand) (dT sT : TypeId)
    (ho : o.op = .call { callee := .builtin .copy, args := #[d, s], argTypes := #[dT, sT] }) (elem : TypeId) (hu : P.underlying dT = some (.slice elem)) (hsz : (P.info? elem).map (·.size) = some 1)
    (base : Nat) (e : TypeId) (g n cap : Nat) (xs : List Value) (hown : w.ownsRow base e 1 (.slice (some ⟨g, 0, none⟩) n cap) n xs)
    (off : Nat) (dp : Option Addr) (dLen dCap : Nat) (hd : a.eval d = .slice dp dLen dCap) (hdp : 0 < dLen → dp = some ⟨g, off, none⟩) (hfit : off + dLen ≤ n)
    (B : Nat) (sp : Option Addr) (sLen sCap : Nat) (news : List Value) (hs : a.eval s = .slice sp sLen sCap) (hr : Shows w B 1 sp sLen news) (h1 : ∀ v ∈ news, v.oneCell' = true)
    (h : ∀ w', w'.ownsRow base e 1 (.slice (some ⟨g, 0, none⟩) n cap) n (splice xs off (news.take dLen)) → w.grownBy w' (some g) → Below base w w' → K (a.put o.dst (goInt ((min sLen dLen : Nat) : Int))) w') :
    o.wp P a w K Q := by
  obtain ⟨hlen, hform⟩ := hown
  rcases hform with ⟨h', _⟩ | ⟨g', cap', cur, h', hbg, hg, hnc, hcm, hcs, htake⟩
  · simp at h'
  · simp only [Value.slice.injEq, Option.some.injEq, Addr.mk.injEq, and_true, true_and] at h'
    obtain ⟨rfl, rfl⟩ := h'
    have hl : (news.take dLen).length = Nat.min sLen dLen := by
      rw [List.length_take, hr.1, Nat.mul_one]
      exact Nat.min_comm _ _
    have hle : (news.take dLen).length ≤ dLen := by rw [hl]; exact Nat.min_le_right _ _
    have hcl : cur.toList.length = cap := by rw [Array.length_toList, hcs, Nat.mul_one]
    have e0 : (goInt ((news.take dLen).length : Nat)) = goInt ((min sLen dLen : Nat) : Int) := by rw [hl]
    by_cases hz : (news.take dLen).length = 0
    · have hrun := run_copy_none (P := P) w dT sT o.type elem dp sp dLen dCap sLen sCap hu hsz (by rw [← hl]; exact hz)
      have hnil : news.take dLen = [] := List.eq_nil_of_length_eq_zero hz
      have hm0 : min sLen dLen = 0 := by rw [hl] at hz; exact hz
      unfold Oper.wp
      simp [execOp, ho, resolve, invoke, builtin, hd, hs, hrun, Result.andThen]
      have hx := h w ⟨by rw [hnil]; simpa [splice] using hlen, .inr ⟨g, cap, cur, rfl, hbg, hg, hnc, hcm, hcs, by rw [hnil]; simpa [splice] using htake⟩⟩ (World.grownBy.refl w _) (Below.refl _ _)
      rw [hm0] at hx
      exact hx
    · have hpos : 0 < Nat.min sLen dLen := by omega
      have hs0 : 0 < sLen := Nat.lt_of_lt_of_le hpos (Nat.min_le_left _ _)
      have hd0 : 0 < dLen := Nat.lt_of_lt_of_le hpos (Nat.min_le_right _ _)
      obtain rfl := hdp hd0
      obtain ⟨b, so, rfl, _, hc⟩ := hr.2 hs0
      have hrun := run_copy_row (P := P) w dT sT o.type elem g off dLen dCap ⟨b, so, none⟩ sLen sCap cur e (news.take dLen) hu hsz hg hl
        (fun j v hj => by
          rw [addr_add]
          rw [List.getElem?_take] at hj
          split at hj
          · exact hc j v hj
          · cases hj) (by rw [hcs]; omega) (fun v hv => h1 v (List.mem_of_mem_take hv))
      unfold Oper.wp
      simp only [execOp, ho, resolve, invoke, builtin, hd, hs, hrun, Sem.run_bind, Sem.run_pure, Result.andThen_ok, List.map_toArray, List.map_cons, List.map_nil]
      rw [e0]
      refine (h _ ⟨?_, .inr ⟨g, cap, _, rfl, hbg, setRow_heap w g cur _ e _ hg, hnc, hcm, ?_, ?_⟩⟩ ?_ ?_)
      · rw [length_splice _ _ _ (by omega), hlen]
      · have := length_splice cur.toList off (news.take dLen) (by omega)
        unfold splice at this
        rw [← List.append_assoc] at this
        simp only [List.size_toArray]
        omega
      · have := splice_take cur.toList (news.take dLen) off (n * 1) (by omega) (by omega)
        rw [htake] at this
        unfold splice at this ⊢
        rw [← List.append_assoc] at this
        exact this
      · exact ⟨rfl, rfl, rfl, by simp [World.setRow], fun k _ hk => setRow_other w g k _ (fun e => hk (by simp [e]))⟩
      · exact below_setRow (Below.refl _ _) hbg _

theorem wpList_copy_shows {ops : Array Oper} {rest : List Oper} {o : Oper} {a : Act} {Q : Exit → Act → World → Prop} (hgd : o.guard = none) (d s : Operand) (dT sT : TypeId)
    (ho : o.op = .call { callee := .builtin .copy, args := #[d, s], argTypes := #[dT, sT] }) (elem : TypeId) (hu : P.underlying dT = some (.slice elem)) (hsz : (P.info? elem).map (·.size) = some 1)
    (base : Nat) (e : TypeId) (g n cap : Nat) (xs : List Value) (hown : w.ownsRow base e 1 (.slice (some ⟨g, 0, none⟩) n cap) n xs)
    (off : Nat) (dp : Option Addr) (dLen dCap : Nat) (hd : a.eval d = .slice dp dLen dCap) (hdp : 0 < dLen → dp = some ⟨g, off, none⟩) (hfit : off + dLen ≤ n)
    (B : Nat) (sp : Option Addr) (sLen sCap : Nat) (news : List Value) (hs : a.eval s = .slice sp sLen sCap) (hr : Shows w B 1 sp sLen news) (h1 : ∀ v ∈ news, v.oneCell' = true)
    (h : ∀ w', w'.ownsRow base e 1 (.slice (some ⟨g, 0, none⟩) n cap) n (splice xs off (news.take dLen)) → w.grownBy w' (some g) → Below base w w' → wpList P ops Q rest (a.put o.dst (goInt ((min sLen dLen : Nat) : Int))) w') :
    wpList P ops Q (o :: rest) a w :=
  wpList_plain hgd fun _ hK => wp_copy_shows d s dT sT ho elem hu hsz base e g n cap xs hown off dp dLen dCap hd hdp hfit B sp sLen sCap news hs hr h1 fun w' h2 h3 h4 => hK _ _ (h w' h2 h3 h4)

theorem step_copy_shows {ops : Array Oper} {o : Oper} {a : Act} {K : Act → World → Prop} {Q : Exit → Act → World → Prop} {E : Prop} (hgd : o.guard = none) (d s : Operand) (dT sT : TypeId)
    (ho : o.op = .call { callee := .builtin .copy, args := #[d, s], argTypes := #[dT, sT] }) (elem : TypeId) (hu : P.underlying dT = some (.slice elem)) (hsz : (P.info? elem).map (·.size) = some 1)
    (base : Nat) (e : TypeId) (g n cap : Nat) (xs : List Value) (hown : w.ownsRow base e 1 (.slice (some ⟨g, 0, none⟩) n cap) n xs)
    (off : Nat) (dp : Option Addr) (dLen dCap : Nat) (hd : a.eval d = .slice dp dLen dCap) (hdp : 0 < dLen → dp = some ⟨g, off, none⟩) (hfit : off + dLen ≤ n)
    (B : Nat) (sp : Option Addr) (sLen sCap : Nat) (news : List Value) (hs : a.eval s = .slice sp sLen sCap) (hr : Shows w B 1 sp sLen news) (h1 : ∀ v ∈ news, v.oneCell' = true)
    (h : ∀ w', w'.ownsRow base e 1 (.slice (some ⟨g, 0, none⟩) n cap) n (splice xs off (news.take dLen)) → w.grownBy w' (some g) → Below base w w' → K (a.put o.dst (goInt ((min sLen dLen : Nat) : Int))) w') :
    if Region.wanted o (yielded ops a.tmps) = true then Oper.wp P o a w K Q else E := by
  have hw : Region.wanted o (yielded ops a.tmps) = true := by simp [Region.wanted, hgd]
  rw [if_pos hw]
  exact wp_copy_shows d s dT sT ho elem hu hsz base e g n cap xs hown off dp dLen dCap hd hdp hfit B sp sLen sCap news hs hr h1 h
end
end Go.Proofs.YtndolgbbochpjaaDoor
/-
  Layer 1, the reference: Is, Bytes, Starts.
-/
namespace Go.Proofs.YtndolgbbochpjaaDoor
open Go.RowKit

set_option maxRecDepth 20000 in
theorem is_any (n : Int) (w : World) : Calls Tryd.prog 81 #[.int .i64 n] w fun e w' => e = .returned (.bool (isCp n)) ∧ w' = w := by
  by_cases h0 : 0 ≤ n
  · by_cases h1 : n ≤ 1114111
    · by_cases h2 : 55296 ≤ n
      · by_cases h3 : n ≤ 57343
        · have h : isCp n = false := by unfold isCp; simp; omega
          rw [h]
          go_enter Tryd.func81, Tryd.ntmps81
          go_wp2
          go_ret
          exact ⟨rfl, rfl⟩
        · have h : isCp n = true := by unfold isCp; simp; omega
          rw [h]
          go_enter Tryd.func81, Tryd.ntmps81
          go_wp2
          go_ret
          exact ⟨rfl, rfl⟩
      · have h : isCp n = true := by unfold isCp; simp; omega
        rw [h]
        go_enter Tryd.func81, Tryd.ntmps81
        go_wp2
        go_ret
        exact ⟨rfl, rfl⟩
    · have h : isCp n = false := by unfold isCp; simp; omega
      rw [h]
      go_enter Tryd.func81, Tryd.ntmps81
      go_wp2
      go_ret
      exact ⟨rfl, rfl⟩
  · have h : isCp n = false := by unfold isCp; simp; omega
    rw [h]
    go_enter Tryd.func81, Tryd.ntmps81
    go_wp2
    go_ret
    exact ⟨rfl, rfl⟩

theorem gives_new (w : World) (l : List UInt8) (C : Array Value) (hC : C.toList = l.map bv) (hl : l.length ≤ 1000) :
    (w.alloc (.cells C 5)).ownsRow w.heap.size 5 1 (.slice (some ⟨w.heap.size, 0, none⟩) l.length l.length) l.length (l.map bv) := by
  have hs : C.size = l.length := by rw [← Array.length_toList, hC]; simp
  have h := own_made (base := w.heap.size) (e := 5) (size := 1) w C l.length l.length (Nat.le_refl _) (Nat.le_refl _) (by unfold maxLen; omega) (by rw [hs, Nat.mul_one])
  rw [hC, List.take_of_length_le (by simp)] at h
  exact h
theorem bv_b8 (n : Nat) (h : n < 256) : bv (b8 n) = .int .u8 (n : Int) := by unfold bv; rw [b8_toNat n h]
set_option maxRecDepth 20000 in
set_option maxHeartbeats 1000000 in
theorem bytes_any (c : Nat) (hc : c ≤ 1114111) (w : World) : Calls Tryd.prog 82 #[.int .i64 (c : Int)] w (GivesBytes 5 (encL c) w) := by
  rcases (show c < 128 ∨ (128 ≤ c ∧ c < 2048) ∨ (2048 ≤ c ∧ c < 65536) ∨ 65536 ≤ c by omega) with h1 | ⟨h1, h2⟩ | ⟨h1, h2⟩ | h1
  · have e : (encL c).map bv = [.int .u8 ((c : Nat) : Int)] := by
      have e0 : encL c = [b8 (c)] := by unfold encL; rw [if_pos h1]
      rw [e0]
      show [bv (b8 (c))] = _
      rw [bv_b8 (c) (by omega)]
    have hn : (encL c).length = 1 := by have := congrArg List.length e; simpa using this
    have g := gives_new w (encL c) #[.int .u8 ((c : Nat) : Int)] (by rw [e]) (by omega)
    rw [hn] at g
    have k0 : (c : Int) < 128 := by omega
    have n0 : (0 : Int) ≤ (c : Int) := by omega
    have n1 : (c : Int) ≤ 1114111 := by omega
    have G := Lib.hid g
    clear e g hn h1 hc
    generalize (c : Int) = n at *
    go_enter Tryd.func82, Tryd.ntmps82
    go_wp2
    go_ret
    exact ⟨_, _, _, rfl, G.out, (Below.refl _ _).alloc (Nat.le_refl _) _⟩
  · have e : (encL c).map bv = [.int .u8 ((192 + c / 64 : Nat) : Int), .int .u8 ((128 + c % 64 : Nat) : Int)] := by
      have e0 : encL c = [b8 (192 + c / 64), b8 (128 + c % 64)] := by unfold encL; rw [if_neg (by omega), if_pos h2]
      rw [e0]
      show [bv (b8 (192 + c / 64)), bv (b8 (128 + c % 64))] = _
      rw [bv_b8 (192 + c / 64) (by omega), bv_b8 (128 + c % 64) (by omega)]
    have hn : (encL c).length = 2 := by have := congrArg List.length e; simpa using this
    have g := gives_new w (encL c) #[.int .u8 ((192 + c / 64 : Nat) : Int), .int .u8 ((128 + c % 64 : Nat) : Int)] (by rw [e]) (by omega)
    rw [hn] at g
    rw [show ((192 + c / 64 : Nat) : Int) = 192 + (c : Int) / 64 from by omega, show ((128 + c % 64 : Nat) : Int) = 128 + (c : Int) % 64 from by omega] at g
    have k0 : ¬ (c : Int) < 128 := by omega
    have k1 : (c : Int) < 2048 := by omega
    have n0 : (0 : Int) ≤ (c : Int) := by omega
    have n1 : (c : Int) ≤ 1114111 := by omega
    have G := Lib.hid g
    clear e g hn h1 hc h2
    generalize (c : Int) = n at *
    go_enter Tryd.func82, Tryd.ntmps82
    go_wp2
    go_ret
    exact ⟨_, _, _, rfl, G.out, (Below.refl _ _).alloc (Nat.le_refl _) _⟩
  · have e : (encL c).map bv = [.int .u8 ((224 + c / 4096 : Nat) : Int), .int .u8 ((128 + c / 64 % 64 : Nat) : Int), .int .u8 ((128 + c % 64 : Nat) : Int)] := by
      have e0 : encL c = [b8 (224 + c / 4096), b8 (128 + c / 64 % 64), b8 (128 + c % 64)] := by unfold encL; rw [if_neg (by omega), if_neg (by omega), if_pos h2]
      rw [e0]
      show [bv (b8 (224 + c / 4096)), bv (b8 (128 + c / 64 % 64)), bv (b8 (128 + c % 64))] = _
      rw [bv_b8 (224 + c / 4096) (by omega), bv_b8 (128 + c / 64 % 64) (by omega), bv_b8 (128 + c % 64) (by omega)]
    have hn : (encL c).length = 3 := by have := congrArg List.length e; simpa using this
    have g := gives_new w (encL c) #[.int .u8 ((224 + c / 4096 : Nat) : Int), .int .u8 ((128 + c / 64 % 64 : Nat) : Int), .int .u8 ((128 + c % 64 : Nat) : Int)] (by rw [e]) (by omega)
    rw [hn] at g
    rw [show ((224 + c / 4096 : Nat) : Int) = 224 + (c : Int) / 4096 from by omega, show ((128 + c / 64 % 64 : Nat) : Int) = 128 + (c : Int) / 64 % 64 from by omega, show ((128 + c % 64 : Nat) : Int) = 128 + (c : Int) % 64 from by omega] at g
    have k0 : ¬ (c : Int) < 128 := by omega
    have k1 : ¬ (c : Int) < 2048 := by omega
    have k2 : (c : Int) < 65536 := by omega
    have n0 : (0 : Int) ≤ (c : Int) := by omega
    have n1 : (c : Int) ≤ 1114111 := by omega
    have G := Lib.hid g
    clear e g hn h1 hc h2
    generalize (c : Int) = n at *
    go_enter Tryd.func82, Tryd.ntmps82
    go_wp2
    go_ret
    exact ⟨_, _, _, rfl, G.out, (Below.refl _ _).alloc (Nat.le_refl _) _⟩
  · have e : (encL c).map bv = [.int .u8 ((240 + c / 262144 : Nat) : Int), .int .u8 ((128 + c / 4096 % 64 : Nat) : Int), .int .u8 ((128 + c / 64 % 64 : Nat) : Int), .int .u8 ((128 + c % 64 : Nat) : Int)] := by
      have e0 : encL c = [b8 (240 + c / 262144), b8 (128 + c / 4096 % 64), b8 (128 + c / 64 % 64), b8 (128 + c % 64)] := by unfold encL; rw [if_neg (by omega), if_neg (by omega), if_neg (by omega)]
      rw [e0]
      show [bv (b8 (240 + c / 262144)), bv (b8 (128 + c / 4096 % 64)), bv (b8 (128 + c / 64 % 64)), bv (b8 (128 + c % 64))] = _
      rw [bv_b8 (240 + c / 262144) (by omega), bv_b8 (128 + c / 4096 % 64) (by omega), bv_b8 (128 + c / 64 % 64) (by omega), bv_b8 (128 + c % 64) (by omega)]
    have hn : (encL c).length = 4 := by have := congrArg List.length e; simpa using this
    have g := gives_new w (encL c) #[.int .u8 ((240 + c / 262144 : Nat) : Int), .int .u8 ((128 + c / 4096 % 64 : Nat) : Int), .int .u8 ((128 + c / 64 % 64 : Nat) : Int), .int .u8 ((128 + c % 64 : Nat) : Int)] (by rw [e]) (by omega)
    rw [hn] at g
    rw [show ((240 + c / 262144 : Nat) : Int) = 240 + (c : Int) / 262144 from by omega, show ((128 + c / 4096 % 64 : Nat) : Int) = 128 + (c : Int) / 4096 % 64 from by omega, show ((128 + c / 64 % 64 : Nat) : Int) = 128 + (c : Int) / 64 % 64 from by omega, show ((128 + c % 64 : Nat) : Int) = 128 + (c : Int) % 64 from by omega] at g
    have k0 : ¬ (c : Int) < 128 := by omega
    have k1 : ¬ (c : Int) < 2048 := by omega
    have k2 : ¬ (c : Int) < 65536 := by omega
    have n0 : (0 : Int) ≤ (c : Int) := by omega
    have n1 : (c : Int) ≤ 1114111 := by omega
    have G := Lib.hid g
    clear e g hn h1 hc
    generalize (c : Int) = n at *
    go_enter Tryd.func82, Tryd.ntmps82
    go_wp2
    go_ret
    exact ⟨_, _, _, rfl, G.out, (Below.refl _ _).alloc (Nat.le_refl _) _⟩
end Go.Proofs.YtndolgbbochpjaaDoor
/-
  Layer 1, the reference: Starts; what Begin makes of k bytes, plain.
-/
namespace Go.Proofs.YtndolgbbochpjaaDoor
open Go.RowKit

def startsL (l pre : List UInt8) : Bool := decide (pre = l.take pre.length)
set_option maxRecDepth 20000 in
set_option maxHeartbeats 1000000 in
theorem refStarts_any (A1 A2 : Option Addr) (n1 c1 n2 c2 : Nat) (l1 l2 : List UInt8) (B1 B2 : Nat) (w : World) (h1 : Bytes w B1 A1 n1 l1) (h2 : Bytes w B2 A2 n2 l2) (hm1 : n1 ≤ maxLen) :
    Calls Tryd.prog 83 #[.slice A1 n1 c1, .slice A2 n2 c2] w fun e w' => e = .returned (.bool (startsL l1 l2)) ∧ ∃ k, w' = w.drewN k := by
  unfold maxLen at hm1
  by_cases hn : n2 ≤ n1
  · have hn' : ¬ (n1 : Int) < (n2 : Int) := by omega
    have hn2 : (n2 : Int) ≤ (n1 : Int) := by omega
    go_enter Tryd.func83, Tryd.ntmps83
    go_wp2
    go_loopw [5] (fun i wr => ∃ k : Nat, k ≤ n2 ∧ i = .int .i64 k ∧ l1.take k = l2.take k ∧ ∃ m, wr = w.drewN m) (fun i _ => n2 - (intOf i).toNat)
    case atStart => exact ⟨0, Nat.zero_le _, rfl, rfl, 0, rfl⟩
    case round =>
      obtain ⟨k, hk, rfl, ht, m, rfl⟩ := hrel
      by_cases hlt : k < n2
      · obtain ⟨b1, o1, rfl, _, hc1⟩ := h1.cell (k := k) (by omega)
        obtain ⟨b2, o2, rfl, _, hc2⟩ := h2.cell hlt
        have hl1 : k < l1.length := by have := h1.len; omega
        have hl2 : k < l2.length := by have := h2.len; omega
        have t1 : l1.take (k + 1) = l1.take k ++ [l1.getD k 0] := take_snoc l1 k hl1
        have t2 : l2.take (k + 1) = l2.take k ++ [l2.getD k 0] := take_snoc l2 k hl2
        have g1 := at8_lo l1 k
        have g2 := at8_hi l1 k
        have g3 := at8_lo l2 k
        have g4 := at8_hi l2 k
        have hk1 : (k : Int) < (n1 : Int) := by omega
        have hk2 : (k : Int) < (n2 : Int) := by omega
        by_cases hx : at8 l1 k = at8 l2 k
        · have hb : (at8 l1 k != at8 l2 k) = false := by rw [hx]; simp
          have ht' := Lib.hid (show l1.take (k + 1) = l2.take (k + 1) by rw [t1, t2, ht, at8_inj hx])
          clear ht hx t1 t2
          go_wp2
          go_quiet (fail)
          go_wp2
          go_roundw
          case rel => exact ⟨k + 1, by omega, by go_num, ht'.out, _, rfl⟩
          case measure => simp [intOf]; omega
        · have hb : (at8 l1 k != at8 l2 k) = true := bne_iff_ne.2 hx
          have hs := Lib.hid (show startsL l1 l2 = false by
            unfold startsL
            apply decide_eq_false
            intro h
            apply hx
            have h' : l2.getD k 0 = l1.getD k 0 := by
              have h0 : l2.getD k 0 = (l1.take l2.length).getD k 0 := by rw [← h]
              rw [h0, List.getD_eq_getElem?_getD, List.getElem?_take, if_pos (by omega), ← List.getD_eq_getElem?_getD]
            unfold at8
            rw [h'])
          clear ht hx t1 t2
          go_wp2
          go_quiet (fail)
          go_wp2
          go_ret
          exact ⟨by rw [hs.out]; rfl, _, World.drewN_drewN _ _ _⟩
      · have hk' : k = n2 := by omega
        have hs := Lib.hid (show startsL l1 l2 = true by
          unfold startsL
          apply decide_eq_true
          have e2 := h2.len
          rw [hk', List.take_of_length_le (l := l2) (by omega)] at ht
          rw [e2]
          exact ht.symm)
        clear hk' ht
        go_wp2
        go_ret
        exact ⟨by rw [hs.out]; rfl, _, rfl⟩
  · have hn' : (n1 : Int) < (n2 : Int) := by omega
    have hs : startsL l1 l2 = false := by
      unfold startsL
      apply decide_eq_false
      intro h
      have := congrArg List.length h
      have e1 := h1.len
      have e2 := h2.len
      rw [List.length_take] at this
      omega
    rw [hs]
    go_enter Tryd.func83, Tryd.ntmps83
    go_wp2
    go_ret
    exact ⟨rfl, 0, rfl⟩

/-- The modulus of the first of k bytes. -/
def mod1 : Nat → Nat | 2 => 32 | 3 => 16 | 4 => 8 | _ => 1000
/-- The number that j of k bytes give. -/
def partB (l : List UInt8) (k : Nat) : Nat → Nat
  | 0 => 0
  | 1 => if k = 1 then (l.getD 0 0).toNat else (l.getD 0 0).toNat % mod1 k
  | j + 2 => partB l k (j + 1) * 64 + (l.getD (j + 1) 0).toNat % 64
theorem partB_succ (l : List UInt8) (k j : Nat) (h : 1 ≤ j) : partB l k (j + 1) = partB l k j * 64 + (l.getD j 0).toNat % 64 := by
  match j, h with
  | j + 1, _ => rfl
theorem partB_lt (l : List UInt8) (k j : Nat) (hj : j ≤ 4) : partB l k j < 300000000 := by
  have p0 : partB l k 0 = 0 := rfl
  have p1 : partB l k 1 < 1000 := by
    have h := (l.getD 0 0).toNat_lt
    show (if k = 1 then (l.getD 0 0).toNat else (l.getD 0 0).toNat % mod1 k) < 1000
    split
    · omega
    · have := Nat.mod_le (l.getD 0 0).toNat (mod1 k)
      omega
  have p2 := partB_succ l k 1 (by omega)
  have p3 := partB_succ l k 2 (by omega)
  have p4 := partB_succ l k 3 (by omega)
  rcases (show j = 0 ∨ j = 1 ∨ j = 2 ∨ j = 3 ∨ j = 4 by omega) with rfl | rfl | rfl | rfl | rfl
  · omega
  · omega
  · simp only [Nat.reduceAdd] at p2; omega
  · simp only [Nat.reduceAdd] at p2 p3; omega
  · simp only [Nat.reduceAdd] at p2 p3 p4; omega
/-- Do k bytes begin with a code point of theirs? -/
def okK (l : List UInt8) (k : Nat) : Prop := isCp (partB l k k) = true ∧ (encL (partB l k k)).length = k ∧ startsL l (encL (partB l k k)) = true
theorem okK_dec {l : List UInt8} {k : Nat} (h : okK l k) : decL l = (partB l k k, k) := by
  obtain ⟨h1, h2, h3⟩ := h
  have h4 := of_decide_eq_true h3
  have h5 : l = encL (partB l k k) ++ l.drop k := by
    rw [h2] at h4
    conv => lhs; rw [← List.take_append_drop k l]
    rw [← h4]
  generalize partB l k k = c at *
  have := dec_enc c h1 (l.drop k)
  rw [← h5, h2] at this
  exact this
theorem dec_okK {l : List UInt8} {k : Nat} (h : (decL l).2 = k) (hk : k ≠ 0) : okK l k := by
  obtain ⟨hc, r, e, hn⟩ := enc_dec (l := l) (c := (decL l).1) (n := k) (by rw [← h]) hk
  generalize (decL l).1 = c at *
  have hcp := (isCp_iff _).1 hc
  have key : partB l k k = c := by
    rw [encL_len] at hn
    by_cases h1 : c < 128
    · rw [if_pos h1] at hn
      subst hn
      rw [e]
      unfold encL
      rw [if_pos h1]
      show (b8 c).toNat = c
      exact b8_toNat c (by omega)
    · rw [if_neg h1] at hn
      by_cases h2 : c < 2048
      · rw [if_pos h2] at hn
        subst hn
        rw [e]
        unfold encL
        rw [if_neg h1, if_pos h2]
        show (b8 _).toNat % 32 * 64 + (b8 _).toNat % 64 = c
        rw [b8_toNat (192 + c / 64) (by omega), b8_toNat (128 + c % 64) (by omega)]
        omega
      · rw [if_neg h2] at hn
        by_cases h3 : c < 65536
        · rw [if_pos h3] at hn
          subst hn
          rw [e]
          unfold encL
          rw [if_neg h1, if_neg h2, if_pos h3]
          show ((b8 _).toNat % 16 * 64 + (b8 _).toNat % 64) * 64 + (b8 _).toNat % 64 = c
          rw [b8_toNat (224 + c / 4096) (by omega), b8_toNat (128 + c / 64 % 64) (by omega), b8_toNat (128 + c % 64) (by omega)]
          omega
        · rw [if_neg h3] at hn
          subst hn
          rw [e]
          unfold encL
          rw [if_neg h1, if_neg h2, if_neg h3]
          show (((b8 _).toNat % 8 * 64 + (b8 _).toNat % 64) * 64 + (b8 _).toNat % 64) * 64 + (b8 _).toNat % 64 = c
          rw [b8_toNat (240 + c / 262144) (by omega), b8_toNat (128 + c / 4096 % 64) (by omega), b8_toNat (128 + c / 64 % 64) (by omega), b8_toNat (128 + c % 64) (by omega)]
          omega
  refine ⟨by rw [key]; exact hc, by rw [key]; exact hn.symm, ?_⟩
  rw [key]
  exact decide_eq_true (by rw [e]; simp)
end Go.Proofs.YtndolgbbochpjaaDoor
/-
  Layer 1, the reference: Begin.
-/
namespace Go.Proofs.YtndolgbbochpjaaDoor
open Go.RowKit

theorem rem64 (x : Nat) (h : x < 256) : Int.tmod (x : Int) 64 = ((x % 64 : Nat) : Int) := by
  rw [Int.tmod_eq_emod_of_nonneg (by omega)]; omega
set_option maxRecDepth 20000 in
set_option maxHeartbeats 4000000 in
theorem begin_any (A : Option Addr) (m c0 B : Nat) (l : List UInt8) (w : World) (hl : Bytes w B A m l) (hB : B ≤ w.heap.size) (hm : m ≤ maxLen) :
    Calls Tryd.prog 79 #[.slice A m c0] w fun e w' => e = .returned (.tuple #[.int .i64 ((decL l).1 : Int), .int .i64 ((decL l).2 : Int)]) ∧ Below w.heap.size w w' := by
  have Hlen := Lib.hid hl.len
  have Hm := Lib.hid hm
  unfold maxLen at hm
  go_enter Tryd.func79, Tryd.ntmps79
  go_wp2
  go_loopw [4] (fun i wr => ∃ (k : Nat) (x : Int), x = (k : Int) ∧ 1 ≤ k ∧ k ≤ 5 ∧ i = .int .i64 x ∧ (∀ q, 1 ≤ q → q < k → q ≤ m → ¬ okK l q) ∧ Below w.heap.size w wr) (fun i _ => 5 - (intOf i).toNat)
  case atStart => exact ⟨1, 1, by omega, by omega, by omega, rfl, fun q h1 h2 => by omega, Below.refl _ _⟩
  case round =>
    obtain ⟨k, x, hxk, hk1, hk5, rfl, hno, hbr⟩ := hrel
    by_cases hin : k ≤ 4 ∧ k ≤ m
    · obtain ⟨hk4, hkm⟩ := hin
      obtain ⟨b, off, rfl, hbB, -⟩ := hl.cell (k := 0) (by omega)
      have hcell : ∀ (W : World) (j : Nat), Below w.heap.size w W → j < m → W.cell? ⟨b, off + j, none⟩ = some (.int .u8 (at8 l j)) := fun W j h hj => by
        obtain ⟨b', off', e, _, hc⟩ := (hl.below (h.mono hB)).cell hj
        injection e with e
        injection e with e1 e2
        subst e1; subst e2
        exact hc
      have hkm' : x ≤ (m : Int) := by omega
      have hm0 : (0 : Int) < (m : Int) := by omega
      have g0 := at8_lo l 0
      have g1 := at8_hi l 0
      have Hno := Lib.hid hno
      have HP := Lib.hid (fun j (hj : j ≤ 4) => partB_lt l k j hj)
      have c0' : wr.cell? ⟨b, off, none⟩ = some (.int .u8 (at8 l 0)) := hcell wr 0 hbr (by omega)
      clear hno
      rcases (show k = 1 ∨ k = 2 ∨ k = 3 ∨ k = 4 by omega) with rfl | rfl | rfl | rfl
      · obtain rfl : x = 1 := by omega
        clear hxk
        have hm0' : 0 < m := by omega
        have ht : at8 l 0 = ((partB l 1 1 : Nat) : Int) := rfl
        rw [ht] at c0'
        go_wp2
        clear ht c0'
        go_loopw [5, 6] (fun c i wx => ∃ j : Nat, 1 ≤ j ∧ j ≤ 1 ∧ i = .int .i64 j ∧ c = .int .i64 (partB l 1 j : Nat) ∧ Below w.heap.size w wx) (fun c i _ => 8 - (intOf i).toNat)
        case atStart => exact ⟨1, by omega, by omega, rfl, rfl, hbr⟩
        case round =>
          obtain ⟨j, hj1, hjs, rfl, rfl, hbx⟩ := hrel
          by_cases hjl : j < 1
          · have hcj := hcell wr j hbx (by omega)
            have hjm : (j : Int) < (m : Int) := by omega
            have hjm' : j < m := by omega
            have hjl' : (j : Int) < 1 := by omega
            have hj0 : (0 : Int) ≤ (j : Int) := by omega
            have hP1 := HP.out j (by omega)
            have q0 := at8_lo l j
            have q1 := at8_hi l j
            have HQ := Lib.hid (show ((partB l 1 (j + 1) : Nat) : Int) = (partB l 1 j : Nat) * 64 + at8 l j % 64 by rw [partB_succ _ _ _ hj1]; unfold at8; omega)
            generalize partB l 1 j = p at *
            go_wp2
            go_roundw
            case rel => exact ⟨j + 1, by omega, by omega, by go_num, by rw [HQ.out], hbx⟩
            case measure => simp [intOf]; omega
          · obtain rfl : j = 1 := by omega
            clear hjl hj1 hjs
            have hok := Lib.hid (show okK l 1 ↔ (isCp (partB l 1 1) = true ∧ (encL (partB l 1 1)).length = 1 ∧ startsL l (encL (partB l 1 1)) = true) from Iff.rfl)
            have hdec := Lib.hid (fun h : okK l 1 => okK_dec h)
            have Hmore := Lib.hid (fun (h : ¬ okK l 1) (q : Nat) (h1 : 1 ≤ q) (h2 : q < 1 + 1) (h3 : q ≤ m) => if e : q = 1 then e ▸ h else Hno.out q h1 (by omega) h3)
            generalize partB l 1 1 = c at *
            cases hcp : isCp (c : Int)
            · have HN := Lib.hid (Hmore.out (fun h => by have := (hok.out.1 h).1; rw [hcp] at this; cases this))
              have hcall := is_any (c : Int) wr
              rw [hcp] at hcall
              clear hcp
              go_wp2_with fail
              refine hcall.mono ?_
              rintro e w1 ⟨rfl, hw1⟩
              subst hw1
              go_wp2
              go_roundw
              case rel => exact ⟨2, 2, by omega, by omega, by omega, rfl, HN.out, hbx⟩
              case measure => simp [intOf]
            · have hcall := is_any (c : Int) wr
              rw [hcp] at hcall
              have hc2 : c ≤ 1114111 := by have := (isCp_iff _).1 hcp; omega
              have HC := Lib.hid hcp
              clear hcp
              go_wp2_with fail
              refine hcall.mono ?_
              rintro e w1 ⟨rfl, hw1⟩
              subst hw1
              go_wp2_with fail
              refine (bytes_any c hc2 _).mono ?_
              rintro e w2 ⟨A2, n2, c2, rfl, hown2, hb2⟩
              have Hn2 := Lib.hid (show (encL c).length = n2 by have := hown2.1; simpa using this)
              have hb3 : Below w.heap.size w w2 := hbx.trans (hb2.mono hbx.size)
              by_cases hn : n2 = 1
              · subst hn
                have hst := refStarts_any (some ⟨b, off, none⟩) A2 m c0 1 c2 l (encL c) _ _ w2 (hl.below (hb3.mono hB)) (Bytes.own hown2) Hm.out
                cases hs : startsL l (encL c)
                · rw [hs] at hst
                  have HN := Lib.hid (Hmore.out (fun h => by have := (hok.out.1 h).2.2; rw [hs] at this; cases this))
                  clear hs hown2
                  go_wp2_with fail
                  refine hst.mono ?_
                  rintro e w3 ⟨rfl, q3, rfl⟩
                  go_wp2
                  go_roundw
                  case rel => exact ⟨2, 2, by omega, by omega, by omega, rfl, HN.out, below_drewN hb3 _⟩
                  case measure => simp [intOf]
                · rw [hs] at hst
                  have HD := Lib.hid (hdec.out (hok.out.2 ⟨HC.out, Hn2.out, hs⟩))
                  clear hs hown2
                  go_wp2_with fail
                  refine hst.mono ?_
                  rintro e w3 ⟨rfl, q3, rfl⟩
                  go_wp2
                  go_ret2
                  exact ⟨by rw [HD.out]; rfl, below_drewN hb3 _⟩
              · have HN := Lib.hid (Hmore.out (fun h => hn (by have := (hok.out.1 h).2.1; rw [Hn2.out] at this; exact this)))
                have hne : ((n2 : Int) == 1) = false := by rw [beq_eq_false_iff_ne]; omega
                clear hn hown2
                go_wp2
                go_roundw
                case rel => exact ⟨2, 2, by omega, by omega, by omega, rfl, HN.out, hb3⟩
                case measure => simp [intOf]
      · obtain rfl : x = 2 := by omega
        clear hxk
        have hm0' : 0 < m := by omega
        have ht : Int.tmod (at8 l 0) 32 = ((partB l 2 1 : Nat) : Int) := by
          rw [Int.tmod_eq_emod_of_nonneg g0]
          show _ = (((l.getD 0 0).toNat % 32 : Nat) : Int)
          unfold at8
          omega
        have c0b : (wr.alloc (.cells #[.int .i64 1, .int .i64 1, .int .i64 32, .int .i64 16, .int .i64 8] 3)).cell? ⟨b, off, none⟩ = some (.int .u8 (at8 l 0)) := hcell _ 0 (hbr.alloc hbr.size _) (by omega)
        go_wp2
        go_region
        go_wp2
        clear ht c0b c0'
        go_loopw [5, 6] (fun c i wx => ∃ j : Nat, 1 ≤ j ∧ j ≤ 2 ∧ i = .int .i64 j ∧ c = .int .i64 (partB l 2 j : Nat) ∧ Below w.heap.size w wx) (fun c i _ => 8 - (intOf i).toNat)
        case atStart => exact ⟨1, by omega, by omega, rfl, rfl, (hbr.alloc hbr.size _).drew⟩
        case round =>
          obtain ⟨j, hj1, hjs, rfl, rfl, hbx⟩ := hrel
          by_cases hjl : j < 2
          · have hcj := hcell wr j hbx (by omega)
            have hjm : (j : Int) < (m : Int) := by omega
            have hjm' : j < m := by omega
            have hjl' : (j : Int) < 2 := by omega
            have hj0 : (0 : Int) ≤ (j : Int) := by omega
            have hP1 := HP.out j (by omega)
            have q0 := at8_lo l j
            have q1 := at8_hi l j
            have HQ := Lib.hid (show ((partB l 2 (j + 1) : Nat) : Int) = (partB l 2 j : Nat) * 64 + at8 l j % 64 by rw [partB_succ _ _ _ hj1]; unfold at8; omega)
            generalize partB l 2 j = p at *
            go_wp2
            go_roundw
            case rel => exact ⟨j + 1, by omega, by omega, by go_num, by rw [HQ.out], hbx⟩
            case measure => simp [intOf]; omega
          · obtain rfl : j = 2 := by omega
            clear hjl hj1 hjs
            have hok := Lib.hid (show okK l 2 ↔ (isCp (partB l 2 2) = true ∧ (encL (partB l 2 2)).length = 2 ∧ startsL l (encL (partB l 2 2)) = true) from Iff.rfl)
            have hdec := Lib.hid (fun h : okK l 2 => okK_dec h)
            have Hmore := Lib.hid (fun (h : ¬ okK l 2) (q : Nat) (h1 : 1 ≤ q) (h2 : q < 2 + 1) (h3 : q ≤ m) => if e : q = 2 then e ▸ h else Hno.out q h1 (by omega) h3)
            generalize partB l 2 2 = c at *
            cases hcp : isCp (c : Int)
            · have HN := Lib.hid (Hmore.out (fun h => by have := (hok.out.1 h).1; rw [hcp] at this; cases this))
              have hcall := is_any (c : Int) wr
              rw [hcp] at hcall
              clear hcp
              go_wp2_with fail
              refine hcall.mono ?_
              rintro e w1 ⟨rfl, hw1⟩
              subst hw1
              go_wp2
              go_roundw
              case rel => exact ⟨3, 3, by omega, by omega, by omega, rfl, HN.out, hbx⟩
              case measure => simp [intOf]
            · have hcall := is_any (c : Int) wr
              rw [hcp] at hcall
              have hc2 : c ≤ 1114111 := by have := (isCp_iff _).1 hcp; omega
              have HC := Lib.hid hcp
              clear hcp
              go_wp2_with fail
              refine hcall.mono ?_
              rintro e w1 ⟨rfl, hw1⟩
              subst hw1
              go_wp2_with fail
              refine (bytes_any c hc2 _).mono ?_
              rintro e w2 ⟨A2, n2, c2, rfl, hown2, hb2⟩
              have Hn2 := Lib.hid (show (encL c).length = n2 by have := hown2.1; simpa using this)
              have hb3 : Below w.heap.size w w2 := hbx.trans (hb2.mono hbx.size)
              by_cases hn : n2 = 2
              · subst hn
                have hst := refStarts_any (some ⟨b, off, none⟩) A2 m c0 2 c2 l (encL c) _ _ w2 (hl.below (hb3.mono hB)) (Bytes.own hown2) Hm.out
                cases hs : startsL l (encL c)
                · rw [hs] at hst
                  have HN := Lib.hid (Hmore.out (fun h => by have := (hok.out.1 h).2.2; rw [hs] at this; cases this))
                  clear hs hown2
                  go_wp2_with fail
                  refine hst.mono ?_
                  rintro e w3 ⟨rfl, q3, rfl⟩
                  go_wp2
                  go_roundw
                  case rel => exact ⟨3, 3, by omega, by omega, by omega, rfl, HN.out, below_drewN hb3 _⟩
                  case measure => simp [intOf]
                · rw [hs] at hst
                  have HD := Lib.hid (hdec.out (hok.out.2 ⟨HC.out, Hn2.out, hs⟩))
                  clear hs hown2
                  go_wp2_with fail
                  refine hst.mono ?_
                  rintro e w3 ⟨rfl, q3, rfl⟩
                  go_wp2
                  go_ret2
                  exact ⟨by rw [HD.out]; rfl, below_drewN hb3 _⟩
              · have HN := Lib.hid (Hmore.out (fun h => hn (by have := (hok.out.1 h).2.1; rw [Hn2.out] at this; exact this)))
                have hne : ((n2 : Int) == 2) = false := by rw [beq_eq_false_iff_ne]; omega
                clear hn hown2
                go_wp2
                go_roundw
                case rel => exact ⟨3, 3, by omega, by omega, by omega, rfl, HN.out, hb3⟩
                case measure => simp [intOf]
      · obtain rfl : x = 3 := by omega
        clear hxk
        have hm0' : 0 < m := by omega
        have ht : Int.tmod (at8 l 0) 16 = ((partB l 3 1 : Nat) : Int) := by
          rw [Int.tmod_eq_emod_of_nonneg g0]
          show _ = (((l.getD 0 0).toNat % 16 : Nat) : Int)
          unfold at8
          omega
        have c0b : (wr.alloc (.cells #[.int .i64 1, .int .i64 1, .int .i64 32, .int .i64 16, .int .i64 8] 3)).cell? ⟨b, off, none⟩ = some (.int .u8 (at8 l 0)) := hcell _ 0 (hbr.alloc hbr.size _) (by omega)
        go_wp2
        go_region
        go_wp2
        clear ht c0b c0'
        go_loopw [5, 6] (fun c i wx => ∃ j : Nat, 1 ≤ j ∧ j ≤ 3 ∧ i = .int .i64 j ∧ c = .int .i64 (partB l 3 j : Nat) ∧ Below w.heap.size w wx) (fun c i _ => 8 - (intOf i).toNat)
        case atStart => exact ⟨1, by omega, by omega, rfl, rfl, (hbr.alloc hbr.size _).drew⟩
        case round =>
          obtain ⟨j, hj1, hjs, rfl, rfl, hbx⟩ := hrel
          by_cases hjl : j < 3
          · have hcj := hcell wr j hbx (by omega)
            have hjm : (j : Int) < (m : Int) := by omega
            have hjm' : j < m := by omega
            have hjl' : (j : Int) < 3 := by omega
            have hj0 : (0 : Int) ≤ (j : Int) := by omega
            have hP1 := HP.out j (by omega)
            have q0 := at8_lo l j
            have q1 := at8_hi l j
            have HQ := Lib.hid (show ((partB l 3 (j + 1) : Nat) : Int) = (partB l 3 j : Nat) * 64 + at8 l j % 64 by rw [partB_succ _ _ _ hj1]; unfold at8; omega)
            generalize partB l 3 j = p at *
            go_wp2
            go_roundw
            case rel => exact ⟨j + 1, by omega, by omega, by go_num, by rw [HQ.out], hbx⟩
            case measure => simp [intOf]; omega
          · obtain rfl : j = 3 := by omega
            clear hjl hj1 hjs
            have hok := Lib.hid (show okK l 3 ↔ (isCp (partB l 3 3) = true ∧ (encL (partB l 3 3)).length = 3 ∧ startsL l (encL (partB l 3 3)) = true) from Iff.rfl)
            have hdec := Lib.hid (fun h : okK l 3 => okK_dec h)
            have Hmore := Lib.hid (fun (h : ¬ okK l 3) (q : Nat) (h1 : 1 ≤ q) (h2 : q < 3 + 1) (h3 : q ≤ m) => if e : q = 3 then e ▸ h else Hno.out q h1 (by omega) h3)
            generalize partB l 3 3 = c at *
            cases hcp : isCp (c : Int)
            · have HN := Lib.hid (Hmore.out (fun h => by have := (hok.out.1 h).1; rw [hcp] at this; cases this))
              have hcall := is_any (c : Int) wr
              rw [hcp] at hcall
              clear hcp
              go_wp2_with fail
              refine hcall.mono ?_
              rintro e w1 ⟨rfl, hw1⟩
              subst hw1
              go_wp2
              go_roundw
              case rel => exact ⟨4, 4, by omega, by omega, by omega, rfl, HN.out, hbx⟩
              case measure => simp [intOf]
            · have hcall := is_any (c : Int) wr
              rw [hcp] at hcall
              have hc2 : c ≤ 1114111 := by have := (isCp_iff _).1 hcp; omega
              have HC := Lib.hid hcp
              clear hcp
              go_wp2_with fail
              refine hcall.mono ?_
              rintro e w1 ⟨rfl, hw1⟩
              subst hw1
              go_wp2_with fail
              refine (bytes_any c hc2 _).mono ?_
              rintro e w2 ⟨A2, n2, c2, rfl, hown2, hb2⟩
              have Hn2 := Lib.hid (show (encL c).length = n2 by have := hown2.1; simpa using this)
              have hb3 : Below w.heap.size w w2 := hbx.trans (hb2.mono hbx.size)
              by_cases hn : n2 = 3
              · subst hn
                have hst := refStarts_any (some ⟨b, off, none⟩) A2 m c0 3 c2 l (encL c) _ _ w2 (hl.below (hb3.mono hB)) (Bytes.own hown2) Hm.out
                cases hs : startsL l (encL c)
                · rw [hs] at hst
                  have HN := Lib.hid (Hmore.out (fun h => by have := (hok.out.1 h).2.2; rw [hs] at this; cases this))
                  clear hs hown2
                  go_wp2_with fail
                  refine hst.mono ?_
                  rintro e w3 ⟨rfl, q3, rfl⟩
                  go_wp2
                  go_roundw
                  case rel => exact ⟨4, 4, by omega, by omega, by omega, rfl, HN.out, below_drewN hb3 _⟩
                  case measure => simp [intOf]
                · rw [hs] at hst
                  have HD := Lib.hid (hdec.out (hok.out.2 ⟨HC.out, Hn2.out, hs⟩))
                  clear hs hown2
                  go_wp2_with fail
                  refine hst.mono ?_
                  rintro e w3 ⟨rfl, q3, rfl⟩
                  go_wp2
                  go_ret2
                  exact ⟨by rw [HD.out]; rfl, below_drewN hb3 _⟩
              · have HN := Lib.hid (Hmore.out (fun h => hn (by have := (hok.out.1 h).2.1; rw [Hn2.out] at this; exact this)))
                have hne : ((n2 : Int) == 3) = false := by rw [beq_eq_false_iff_ne]; omega
                clear hn hown2
                go_wp2
                go_roundw
                case rel => exact ⟨4, 4, by omega, by omega, by omega, rfl, HN.out, hb3⟩
                case measure => simp [intOf]
      · obtain rfl : x = 4 := by omega
        clear hxk
        have hm0' : 0 < m := by omega
        have ht : Int.tmod (at8 l 0) 8 = ((partB l 4 1 : Nat) : Int) := by
          rw [Int.tmod_eq_emod_of_nonneg g0]
          show _ = (((l.getD 0 0).toNat % 8 : Nat) : Int)
          unfold at8
          omega
        have c0b : (wr.alloc (.cells #[.int .i64 1, .int .i64 1, .int .i64 32, .int .i64 16, .int .i64 8] 3)).cell? ⟨b, off, none⟩ = some (.int .u8 (at8 l 0)) := hcell _ 0 (hbr.alloc hbr.size _) (by omega)
        go_wp2
        go_region
        go_wp2
        clear ht c0b c0'
        go_loopw [5, 6] (fun c i wx => ∃ j : Nat, 1 ≤ j ∧ j ≤ 4 ∧ i = .int .i64 j ∧ c = .int .i64 (partB l 4 j : Nat) ∧ Below w.heap.size w wx) (fun c i _ => 8 - (intOf i).toNat)
        case atStart => exact ⟨1, by omega, by omega, rfl, rfl, (hbr.alloc hbr.size _).drew⟩
        case round =>
          obtain ⟨j, hj1, hjs, rfl, rfl, hbx⟩ := hrel
          by_cases hjl : j < 4
          · have hcj := hcell wr j hbx (by omega)
            have hjm : (j : Int) < (m : Int) := by omega
            have hjm' : j < m := by omega
            have hjl' : (j : Int) < 4 := by omega
            have hj0 : (0 : Int) ≤ (j : Int) := by omega
            have hP1 := HP.out j (by omega)
            have q0 := at8_lo l j
            have q1 := at8_hi l j
            have HQ := Lib.hid (show ((partB l 4 (j + 1) : Nat) : Int) = (partB l 4 j : Nat) * 64 + at8 l j % 64 by rw [partB_succ _ _ _ hj1]; unfold at8; omega)
            generalize partB l 4 j = p at *
            go_wp2
            go_roundw
            case rel => exact ⟨j + 1, by omega, by omega, by go_num, by rw [HQ.out], hbx⟩
            case measure => simp [intOf]; omega
          · obtain rfl : j = 4 := by omega
            clear hjl hj1 hjs
            have hok := Lib.hid (show okK l 4 ↔ (isCp (partB l 4 4) = true ∧ (encL (partB l 4 4)).length = 4 ∧ startsL l (encL (partB l 4 4)) = true) from Iff.rfl)
            have hdec := Lib.hid (fun h : okK l 4 => okK_dec h)
            have Hmore := Lib.hid (fun (h : ¬ okK l 4) (q : Nat) (h1 : 1 ≤ q) (h2 : q < 4 + 1) (h3 : q ≤ m) => if e : q = 4 then e ▸ h else Hno.out q h1 (by omega) h3)
            generalize partB l 4 4 = c at *
            cases hcp : isCp (c : Int)
            · have HN := Lib.hid (Hmore.out (fun h => by have := (hok.out.1 h).1; rw [hcp] at this; cases this))
              have hcall := is_any (c : Int) wr
              rw [hcp] at hcall
              clear hcp
              go_wp2_with fail
              refine hcall.mono ?_
              rintro e w1 ⟨rfl, hw1⟩
              subst hw1
              go_wp2
              go_roundw
              case rel => exact ⟨5, 5, by omega, by omega, by omega, rfl, HN.out, hbx⟩
              case measure => simp [intOf]
            · have hcall := is_any (c : Int) wr
              rw [hcp] at hcall
              have hc2 : c ≤ 1114111 := by have := (isCp_iff _).1 hcp; omega
              have HC := Lib.hid hcp
              clear hcp
              go_wp2_with fail
              refine hcall.mono ?_
              rintro e w1 ⟨rfl, hw1⟩
              subst hw1
              go_wp2_with fail
              refine (bytes_any c hc2 _).mono ?_
              rintro e w2 ⟨A2, n2, c2, rfl, hown2, hb2⟩
              have Hn2 := Lib.hid (show (encL c).length = n2 by have := hown2.1; simpa using this)
              have hb3 : Below w.heap.size w w2 := hbx.trans (hb2.mono hbx.size)
              by_cases hn : n2 = 4
              · subst hn
                have hst := refStarts_any (some ⟨b, off, none⟩) A2 m c0 4 c2 l (encL c) _ _ w2 (hl.below (hb3.mono hB)) (Bytes.own hown2) Hm.out
                cases hs : startsL l (encL c)
                · rw [hs] at hst
                  have HN := Lib.hid (Hmore.out (fun h => by have := (hok.out.1 h).2.2; rw [hs] at this; cases this))
                  clear hs hown2
                  go_wp2_with fail
                  refine hst.mono ?_
                  rintro e w3 ⟨rfl, q3, rfl⟩
                  go_wp2
                  go_roundw
                  case rel => exact ⟨5, 5, by omega, by omega, by omega, rfl, HN.out, below_drewN hb3 _⟩
                  case measure => simp [intOf]
                · rw [hs] at hst
                  have HD := Lib.hid (hdec.out (hok.out.2 ⟨HC.out, Hn2.out, hs⟩))
                  clear hs hown2
                  go_wp2_with fail
                  refine hst.mono ?_
                  rintro e w3 ⟨rfl, q3, rfl⟩
                  go_wp2
                  go_ret2
                  exact ⟨by rw [HD.out]; rfl, below_drewN hb3 _⟩
              · have HN := Lib.hid (Hmore.out (fun h => hn (by have := (hok.out.1 h).2.1; rw [Hn2.out] at this; exact this)))
                have hne : ((n2 : Int) == 4) = false := by rw [beq_eq_false_iff_ne]; omega
                clear hn hown2
                go_wp2
                go_roundw
                case rel => exact ⟨5, 5, by omega, by omega, by omega, rfl, HN.out, hb3⟩
                case measure => simp [intOf]
    · have HZ := Lib.hid (show decL l = (0, 0) by
        by_cases h0 : (decL l).2 = 0
        · exact dec_zero h0
        · have h1 := dec_le l
          have h2 := dec_le4 l
          rw [Hlen.out] at h1
          exact absurd (dec_okK rfl h0) (hno _ (by omega) (by omega) h1))
      clear hno
      by_cases hk4 : k ≤ 4
      · have hx4 : x ≤ 4 := by omega
        have hxm : ¬ x ≤ (m : Int) := by omega
        go_wp2
        go_ret2
        exact ⟨by rw [HZ.out]; rfl, hbr⟩
      · have hx4 : ¬ x ≤ 4 := by omega
        go_wp2
        go_ret2
        exact ⟨by rw [HZ.out]; rfl, hbr⟩
end Go.Proofs.YtndolgbbochpjaaDoor
/-
  The reference's Points (layer 1).
-/
namespace Go.Proofs.YtndolgbbochpjaaDoor
open Go.RowKit

/-- What the reference's Points tells. -/
def GivesPts (l : List UInt8) (W : World) (e : Ending) (w' : World) : Prop :=
  ∃ A n c, w'.ownsRow W.heap.size 3 1 (.slice A n c) n ((if (ptsL l).2 = l.length then nats (ptsL l).1 else []).map iv) ∧ Below W.heap.size W w' ∧
    e = .returned (if (ptsL l).2 = l.length then .tuple #[.slice A n c, .int .i64 0, .bool true] else .tuple #[.slice A n c, .int .i64 ((ptsL l).2 : Int), .bool false])
set_option maxRecDepth 20000 in
set_option maxHeartbeats 2000000 in
theorem refPoints_any (A : Option Addr) (m c0 B : Nat) (l : List UInt8) (w : World) (hl : Bytes w B A m l) (hB : B ≤ w.heap.size) (hm : m ≤ 1048576) (hmc : m ≤ c0) (hc : c0 ≤ maxLen) :
    Calls Tryd.prog 70 #[.slice A m c0] w (GivesPts l w) := by
  obtain ⟨i0, hi, hz0, hz1, hz2⟩ := i64_info
  have Hlen := Lib.hid hl.len
  unfold maxLen at hc
  go_enter Tryd.func70, Tryd.ntmps70
  go_wp2
  go_loopw [5, 6] (fun o a wr => ∃ (p : Nat) (pre : List Nat) (A' : Option Addr) (n' c' : Nat), p ≤ m ∧ a = .int .i64 p ∧ o = .slice A' n' c' ∧ wr.ownsRow w.heap.size 3 1 (.slice A' n' c') n' ((nats pre).map iv) ∧ ptsL l = (pre ++ (ptsL (l.drop p)).1, p + (ptsL (l.drop p)).2) ∧ n' ≤ p ∧ Below w.heap.size w wr) (fun _ a _ => m - (intOf a).toNat)
  case atStart => exact ⟨0, [], none, 0, 0, by omega, rfl, rfl, World.ownsRow_nil _ _ _ _, by simp, by simp, Below.refl _ _⟩
  case round =>
    obtain ⟨p, pre, A', n', c', hp, rfl, rfl, hown, hP, hnp, hbr⟩ := hrel
    have HP := Lib.hid hP
    have hsw := hbr.size
    clear hP
    by_cases hlt : p < m
    · have hcut := (hl.below (hbr.mono hB)).cut (k := p) (cap := c0) (by omega) hmc
      have hne : ¬ c0 = p := by omega
      rw [if_neg hne] at hcut
      have i0' : (0 : Int) ≤ (p : Int) := by omega
      have i1 : (p : Int) ≤ (m : Int) := by omega
      have i2 : (m : Int) ≤ (c0 : Int) := by omega
      have i3 : (p : Int) < (m : Int) := by omega
      have hle := dec_le (l.drop p)
      rw [List.length_drop, Hlen.out] at hle
      have hbeg := begin_any (A.map (·.add p)) (m - p) (c0 - p) B (l.drop p) wr hcut (by omega) (by unfold maxLen; omega)
      rcases Nat.eq_zero_or_pos (decL (l.drop p)).2 with h | h
      · have HQ := Lib.hid (show ptsL l = (pre, p) by rw [HP.out, pts_zero h]; simp)
        rw [dec_zero h] at hbeg
        clear h
        go_wp2_with fail
        refine hbeg.mono ?_
        rintro e w1 ⟨rfl, hb1⟩
        go_wp2
        go_ret3
        have e1 := HQ.out
        have hne : (ptsL l).2 ≠ l.length := by rw [e1, Hlen.out]; simp only; omega
        refine ⟨none, 0, 0, ?_, bel_next hbr hb1, ?_⟩
        · rw [if_neg hne]; exact World.ownsRow_nil _ _ _ _
        · rw [if_neg hne, e1]; rfl
      · have HQ := Lib.hid (show ptsL l = ((pre ++ [(decL (l.drop p)).1]) ++ (ptsL (l.drop (p + (decL (l.drop p)).2))).1, (p + (decL (l.drop p)).2) + (ptsL (l.drop (p + (decL (l.drop p)).2))).2) by
          rw [HP.out, pts_step (l := l.drop p) (by omega), List.drop_drop]
          simp [Nat.add_assoc])
        generalize (decL (l.drop p)).1 = c at *
        generalize (decL (l.drop p)).2 = k at *
        have hk0 : ((k : Int) == 0) = false := by rw [beq_eq_false_iff_ne]; omega
        clear HP
        go_wp2_with fail
        refine hbeg.mono ?_
        rintro e w1 ⟨rfl, hb1⟩
        have hown1 := own_below hown hb1
        have hs1 := hb1.size
        have hnew : Shows (w1.alloc (.cells #[.int .i64 (c : Int)] 3)) (w1.heap.size + 1) 1 (some ⟨w1.heap.size, 0, none⟩) 1 [.int .i64 (c : Int)] := ints_new w1 [(c : Int)] _ _ _ rfl
        go_wp2_with (at_builtin; refine wpList_append_shows _ rfl _ _ 94 rfl w.heap.size 3 i0 (.int .i64 0) 1 8 Tryd.underlying94 hi hz0 hz1 hz2 rfl (by decide) _ _ _ rfl (hown1.alloc _) (w1.heap.size + 1) _ 1 1 [.int .i64 (c : Int)] rfl hnew (by simp [Value.oneCell']) (by unfold maxLen; omega) (by omega) (by simp; omega) ?_; intro A7 c7 w7 hown7 hgrow7 hb7)
        go_roundw
        case rel => exact ⟨p + k, pre ++ [c], A7, n' + 1, c7, by omega, by go_num, rfl, by rw [nats_snoc, List.map_append]; exact hown7, HQ.out, by omega, ((bel_next hbr hb1).alloc (by omega) _).trans hb7⟩
        case measure => simp [intOf]; omega
    · have hk : p = m := by omega
      have HQ := Lib.hid (show ptsL l = (pre, p) by rw [HP.out, List.drop_of_length_le (by rw [Hlen.out]; omega), pts_zero (l := []) rfl]; simp)
      have e2 := Lib.hid (show p = l.length by rw [Hlen.out]; exact hk)
      clear hk
      go_wp2
      go_ret3
      have e1 := HQ.out
      have he : (ptsL l).2 = l.length := by rw [e1]; exact e2.out
      refine ⟨A', n', c', ?_, hbr, ?_⟩
      · rw [if_pos he, e1]; exact hown
      · rw [if_pos he]; rfl

end Go.Proofs.YtndolgbbochpjaaDoor
/-
  '[]byte(s)': a row of the call's own that shows the string's bytes; a string's front. No program in sight.
-/
namespace Go.Proofs.YtndolgbbochpjaaDoor
open Go.RowKit

theorem below_draw_alloc (w : World) (o : Obj) : Below w.heap.size w (w.drew.alloc o) := below_undrew ((Below.refl w.heap.size w.drew).alloc (Nat.le_refl _) o)
theorem string_bytes {P : Program} {src dst e : TypeId} (hs : P.underlying src = some .string) (hd : P.underlying dst = some (.slice e)) (he : P.underlying e = some (.int .u8)) (s : ByteArray) (l : List UInt8) (hl : s.data.toList = l) (hm : s.size ≤ maxLen) (w : World) :
    ∃ c w', (convert src dst (.string s)).run P w = .ok (.slice (some ⟨w.heap.size, 0, none⟩) l.length c) w' ∧ Bytes w' w'.heap.size (some ⟨w.heap.size, 0, none⟩) l.length l ∧ l.length ≤ c ∧ c ≤ maxLen ∧ Below w.heap.size w w' := by
  have hsz : s.size = l.length := by rw [← hl, Array.length_toList]; rfl
  rw [hsz] at hm
  have hrun := run_bytes_of_string (P := P) w src dst e s hs hd he
  rw [hsz] at hrun
  have hge := grownCap_ge w l.length 0 e
  refine ⟨_, _, hrun, ?_, hge, grownCap_le_maxLen w l.length 0 e hm, below_draw_alloc w _⟩
  refine ⟨by simp, fun hn => ⟨w.heap.size, 0, rfl, by simp [World.alloc, World.drew, -World.alloc_eq, -World.drew_eq], fun j u hu => ?_⟩⟩
  have h2 := World.cell?_alloc_mark w.drew (bytesRow s (grownCap w l.length 0 e)) e ((bytesRow s (grownCap w l.length 0 e)).size, (bytesRow s (grownCap w l.length 0 e)).size + 1) j
  rw [Nat.zero_add]
  refine h2.trans ?_
  have hj : j < l.length := by
    have := (List.getElem?_eq_some_iff.1 hu).1
    simpa using this
  unfold bytesRow
  rw [Array.getElem?_append_left (by simp; rw [← hl] at hj; simpa using hj)]
  rw [List.getElem?_map] at hu
  rw [Array.getElem?_map, ← Array.getElem?_toList, hl, ← hu]
  rfl
/-- A string's front. -/
theorem front_str (s : ByteArray) (l : List UInt8) (k : Nat) (hl : s.data.toList = l) : (s.extract 0 k).data.toList = l.take k := by
  rw [← hl]
  simp [ByteArray.data_extract, Array.toList_extract, List.extract]
theorem str_size (s : ByteArray) (l : List UInt8) (hl : s.data.toList = l) : s.size = l.length := by rw [← hl, Array.length_toList]; rfl
end Go.Proofs.YtndolgbbochpjaaDoor
/-
  Layer 4, the reference: Valid (layer 1's), alone.
-/
namespace Go.Proofs.YtndolgbbochpjaaDoor
open Go.RowKit
set_option linter.unusedVariables false

/-- Each string in a value is at most so long. -/
inductive Sml (N : Nat) : VT → Prop
  | mk {k n s cA cn cc kA kn kc keys kids} (hs : s.size ≤ N) (hk : ∀ x ∈ keys, x.size ≤ N) (h : ∀ x ∈ kids, Sml N x) : Sml N (.mk k n s cA cn cc kA kn kc keys kids)
set_option maxRecDepth 20000 in
theorem rvalid_any (s : ByteArray) (w : World) (hs : s.size ≤ 1048576) :
    Calls Tryd.prog 63 #[.string s] w fun e w' => e = .returned (.bool (validS s)) ∧ Below w.heap.size w w' := by
  obtain ⟨c, w1, hrun, hby, h1, h2, hb1⟩ := string_bytes (P := Tryd.prog) Tryd.underlying9 Tryd.underlying97 Tryd.underlying5 s s.data.toList rfl (by unfold maxLen; omega) w
  have hsz : s.data.toList.length = s.size := by rw [Array.length_toList]; rfl
  have hp := refPoints_any _ _ c _ s.data.toList w1 hby (Nat.le_refl _) (by omega) h1 h2
  have hv : validS s = decide ((ptsL s.data.toList).2 = s.data.toList.length) := rfl
  have Hv := Lib.hid hv
  clear hv hby h1 h2 hsz
  go_enter Tryd.func63, Tryd.ntmps63
  go_wp2_with fail
  refine hp.mono ?_
  rintro e w2 ⟨A, n, c2, hown, hb2, rfl⟩
  have hb3 := bel_next hb1 hb2
  clear hp hrun hown
  by_cases h : (ptsL s.data.toList).2 = s.data.toList.length
  · rw [if_pos h]
    go_wp2
    go_ret
    exact ⟨by rw [Hv.out, decide_eq_true h]; rfl, hb3⟩
  · rw [if_neg h]
    go_wp2
    go_ret
    exact ⟨by rw [Hv.out, decide_eq_false h]; rfl, hb3⟩
end Go.Proofs.YtndolgbbochpjaaDoor
