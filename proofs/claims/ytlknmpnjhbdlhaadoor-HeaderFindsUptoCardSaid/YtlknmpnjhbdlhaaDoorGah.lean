import Derived.Test.YtlknmpnjhbdlhaaDoorGag
import Derived.Great.BuildSlice
import Derived.Test.YtlknmpnjhbdlhaaDoorGaa
import Derived.Test.YtlknmpnjhbdlhaaDoorGac
import Derived.Test.YtlknmpnjhbdlhaaDoorGaf
import Derived.OrdersIn
/-
  Layer 10: the work of an Append: one piece more.
-/
namespace Go.Proofs.YtlknmpnjhbdlhaaDoor
open Go.RowKit
set_option linter.unusedVariables false

section
variable {P : Program} {w : World} {o : Oper} {a : Act} {K : Act → World → Prop} {Q : Exit → Act → World → Prop}
theorem shows_new' (w : World) (C : Array Value) (t : TypeId) (m size : Nat) (hl : C.toList.length = m * size) : Shows (w.alloc (.cells C t)) (w.heap.size + 1) size (some ⟨w.heap.size, 0, none⟩) m C.toList :=
  ⟨hl, fun _ => ⟨w.heap.size, 0, rfl, by omega, fun j u hu => by rw [Nat.zero_add, World.cell?_alloc_new]; simpa using hu⟩⟩
/-- '[]T{x}'. -/
theorem step_row1' (t e : TypeId) (x : Operand) (ho : o.op = .buildSlice t 1 #[(0, x)]) (size : Nat) (i : TypeInfo) (z : Value) (ht : P.underlying t = some (.slice e)) (hi : P.info? e = some i) (hz : i.zero = some z) (hsize : i.size = size)
    (v : Value) (hx : a.eval x = v) (cells : Array Value) (hf : Instr.fill (fun q => some (q * size, size)) ((Array.range (1 * size)).map (z.cells[· % z.cells.size]!)) [(0, v)] = some cells) (hcs : cells.toList.length = 1 * size) (h0 : ¬ 1 * size = 0) (h24 : ¬ 1 * size > 2 ^ 24)
    (h : ∀ g w', w.heap.size ≤ g → Shows w' (g + 1) size (some ⟨g, 0, none⟩) 1 cells.toList → g + 1 ≤ w'.heap.size → Below w.heap.size w w' → K (a.put o.dst (.slice (some ⟨g, 0, none⟩) 1 1)) w') : o.wp P a w K Q := by
  refine wp_buildSlice t e 1 #[(0, x)] ho cells i z ht hi hz (by rw [hsize]; exact h24) (by rw [hsize]; exact h0) (by rw [hsize]; simpa [hx] using hf) ?_
  exact h w.heap.size (w.alloc (.cells cells e)) (Nat.le_refl _) (shows_new' w cells e 1 size hcs) (by rw [World.size_alloc]; exact Nat.le_refl _) ((Below.refl _ _).alloc (Nat.le_refl _) _)
/-- append of a row onto a slice that has no room: a new row. -/
theorem step_appF (s x : Operand) (t : TypeId) (ho : o.op = .call { callee := .builtin .append, args := #[s, x], argTypes := #[t, t] })
    (base : Nat) (e : TypeId) (i : TypeInfo) (z : Value) (size bytes : Nat) (ht : P.underlying t = some (.slice e)) (hi : P.info? e = some i) (hz : i.zero = some z)
    (hsize : i.size = size) (hby : i.bytes = bytes) (hzs : z.cells.size = size) (hsz : 0 < size)
    (B : Nat) (A : Option Addr) (n : Nat) (xs : List Value) (hs : a.eval s = .slice A n n) (hxs : Shows w B size A n xs)
    {B2 g m : Nat} {news : List Value} {c : Nat} (hr : Shows w B2 size (some ⟨g, 0, none⟩) (m + 1) news) (h1 : ∀ u ∈ news, u.oneCell' = true) (hx : a.eval x = .slice (some ⟨g, 0, none⟩) (m + 1) c)
    (h63 : n + (m + 1) ≤ maxLen) (hbytes : (n + (m + 1)) * bytes ≤ 140737488355328) (hbase : base ≤ w.heap.size)
    (h : ∀ A' c' w', w'.ownsRow base e size (.slice A' (n + (m + 1)) c') (n + (m + 1)) (xs ++ news) → Below w.heap.size w w' → K (a.put o.dst (.slice A' (n + (m + 1)) c')) w') : o.wp P a w K Q := by
  rcases A with _ | ⟨b, off, sp⟩
  · have h0 : n = 0 := by
      rcases Nat.eq_zero_or_pos n with h0 | h0
      · exact h0
      · obtain ⟨_, _, h, _⟩ := hxs.2 h0
        cases h
    subst h0
    obtain rfl : xs = [] := List.eq_nil_of_length_eq_zero (by simpa using hxs.1)
    refine wp_append_shows w s x t ho base e i z size bytes ht hi hz hsize hby hzs hsz (.slice none 0 0) 0 [] hs (World.ownsRow_nil _ _ _ _) B2 _ (m + 1) c news hx hr h1 h63 hbytes hbase ?_
    intro A' c' w' ho' hg hB
    exact h A' c' w' ho' ⟨hg.os, hg.tape, hg.output, hg.size, fun k hk => hg.block k hk (by simp [Value.ownBlock])⟩
  · have hold : ∀ j u, xs[j]? = some u → w.cell? ((⟨b, off, sp⟩ : Addr).add j) = some u := by
      intro j u hu
      have hn : 0 < n := by
        rcases Nat.eq_zero_or_pos n with h0 | h0
        · subst h0
          obtain rfl : xs = [] := List.eq_nil_of_length_eq_zero (by simpa using hxs.1)
          simp at hu
        · exact h0
      obtain ⟨b', off', e', _, hc⟩ := hxs.2 hn
      obtain ⟨rfl, rfl, rfl⟩ : b = b' ∧ off = off' ∧ sp = none := by simpa using e'
      rw [addr_add]
      exact hc j u hu
    obtain ⟨b', off', e', _, hc⟩ := hr.2 (by omega)
    obtain ⟨rfl, rfl⟩ : g = b' ∧ 0 = off' := by simpa using e'
    obtain ⟨v', w', hrun, r1, r2⟩ := run_append_arg_grows (P := P) w t o.type e i z size bytes ht hi hz hsize hby hzs hsz ⟨b, off, sp⟩ n n xs hxs.1 hold ⟨g, 0, none⟩ (m + 1) c news hr.1 (fun j u hu => by rw [addr_add]; exact hc j u hu) (by omega) h63 hbytes
    unfold Oper.wp
    simp only [execOp, ho, resolve, invoke, builtin, hs, hx, hrun, Sem.run_bind, Sem.run_pure, Result.andThen_ok, List.map_toArray, List.map_cons, List.map_nil]
    have r1' : w'.ownsRow base e size v' (n + (m + 1)) (xs ++ news) := own_base r1 hbase
    obtain ⟨A', c', rfl, _, _⟩ := own_form r1'
    exact h A' c' w' r1' ⟨r2.os, r2.tape, r2.output, r2.size, fun k hk => r2.block k hk (by simp)⟩
end
/-- All blocks but one are as they were, and those below. -/
structure SAg (g B : Nat) (w W : World) : Prop where
  o : OnlyG g w W
  b : Below B w W
  s : B ≤ w.heap.size
theorem SAg.cell {g B : Nat} {w W : World} (h : SAg g B w W) {k i : Nat} (hk : k < w.heap.size) (hne : k ≠ g) : W.cell? ⟨k, i, none⟩ = w.cell? ⟨k, i, none⟩ := World.cell?_of_block (h.o k hk hne)
theorem SAg.next {g B : Nat} {w W W' : World} (h : SAg g B w W) (hb : Below W.heap.size W W') : SAg g B w W' := ⟨h.o.next h.b.size hb, h.b.trans (hb.mono (Nat.le_trans h.s h.b.size)), h.s⟩
theorem SAg.set {g B i : Nat} {w W : World} {v u : Value} (h : SAg g B w W) (hc : W.cell? ⟨g, i, none⟩ = some u) (hB : B ≤ g) : SAg g B w (W.setCell ⟨g, i, none⟩ v) := ⟨h.o.set i v, h.b.setCell hB v, h.s⟩
theorem slice_info : ∃ i, Tryd.prog.info? 34 = some i ∧ i.zero = some (.slice none 0 0) ∧ i.size = 1 ∧ i.bytes = 24 := ⟨Tryd.t34, by kernel_rfl, by kernel_rfl, by kernel_rfl, by kernel_rfl⟩
theorem fill_p {A : Option Addr} {n c : Nat} : Instr.fill (fun q => some (q * 1, 1)) ((Array.range (1 * 1)).map ((Value.slice none 0 0).cells[· % (Value.slice none 0 0).cells.size]!)) [(0, .slice A n c)] = some #[.slice A n c] := by
  have e : Array.range (1 * 1) = #[0] := by first | rfl | decide
  rw [e]
  simp [Instr.fill, Value.cells]
set_option maxRecDepth 20000 in
set_option maxHeartbeats 4000000 in
theorem work1_any (g b1 b3 B D n lc bn bc : Nat) (A bA : Option Addr) (L : List Value) (fa fu fl : Value) (J : Ending → World → Prop) (w : World)
    (hV : FVar w g fa (.slice A n lc) fu fl (.bool false)) (h1 : w.cell? ⟨b1, 0, none⟩ = some (.pointer (some ⟨g, 0, none⟩))) (h3 : w.cell? ⟨b3, 0, none⟩ = some (.slice bA bn bc))
    (hg1 : b1 ≠ g) (hg3 : b3 ≠ g) (hBg : B ≤ g) (hBW : B ≤ w.heap.size) (hWs : D ≤ w.heap.size) (hRow : Shows w B 1 A n L) (hnl : n ≤ lc) (hn6 : n ≤ 600000) (hbn : bn ≤ bc) (hbm : bn ≤ maxLen)
    (hEnd : ∀ A' c' W, W.ownsRow D 34 1 (.slice A' (n + 1) c') (n + 1) (L ++ [.slice bA bn bn]) → Below w.heap.size w W → FVar W g fa (.slice A n lc) fu fl (.bool false) → J (.returned (.tuple #[])) (W.setCell ⟨g, 1, none⟩ (.slice A' (n + 1) c'))) :
    Calls Tryd.prog 57 #[.pointer (some ⟨b1, 0, none⟩), .pointer (some ⟨b3, 0, none⟩)] w J := by
  obtain ⟨iP, hiP, hzP, hsP, hbP⟩ := slice_info
  have hl1 := World.block_lt_of_cell? w _ h1
  have hl3 := World.block_lt_of_cell? w _ h3
  have hn : n + (0 + 1) ≤ maxLen := by unfold maxLen; omega
  unfold maxLen at hbm
  have x1 : ∀ W, SAg g B w W → W.cell? ⟨b1, 0, none⟩ = some (.pointer (some ⟨g, 0, none⟩)) := fun W h => (h.cell hl1 hg1).trans h1
  have x3 : ∀ W, SAg g B w W → W.cell? ⟨b3, 0, none⟩ = some (.slice bA bn bc) := fun W h => (h.cell hl3 hg3).trans h3
  have xV : ∀ W, Below w.heap.size w W → FVar W g fa (.slice A n lc) fu fl (.bool false) := fun W h => hV.later h
  obtain ⟨⟨v0, v1, v2, v3, v4⟩, -⟩ := hV
  have i1 : (0 : Int) ≤ (n : Int) := by omega
  have i2 : (n : Int) ≤ (lc : Int) := by omega
  have i3 : (0 : Int) ≤ (bn : Int) := by omega
  have i4 : (bn : Int) ≤ (bc : Int) := by omega
  have HS0 : SAg g B w (w.drewN 1) := ⟨fun k hk _ => rfl, below_drewN (Below.refl _ _) 1, hBW⟩
  have hbw : Below w.heap.size w (w.drewN 1) := below_drewN (Below.refl _ _) 1
  go_enter Tryd.func57, Tryd.ntmps57
  go_upto_region 1 with fail
  clear v0 v2 v3 v4 h1 h3
  refine wp_region_held_drew (S := fun W => SAg g B w W) (by kernel_rfl) HS0 (fun hHeld => ?_)
  refine rg_in 0 rfl (by kernel_rfl) (by kernel_rfl) (by kernel_rfl) (by rfl) (v := ?_) (fun _ _ _ h => h) hHeld (fun w hSw => ?_) ?_
  rotate_left
  · (try dsimp only at hSw); go_simp <;> (with_reducible rfl)
  (try simp only [Act.put, List.setIfInBounds_toArray, List.set_cons_zero, List.set_cons_succ])
  refine rg_in 1 rfl (by kernel_rfl) (by kernel_rfl) (by kernel_rfl) (by rfl) (v := ?_) (fun _ _ _ h => h) hHeld (fun w hSw => ?_) ?_
  rotate_left
  · (try dsimp only at hSw); go_simp <;> (with_reducible rfl)
  (try simp only [Act.put, List.setIfInBounds_toArray, List.set_cons_zero, List.set_cons_succ])
  refine rg_in 2 rfl (by kernel_rfl) (by kernel_rfl) (by kernel_rfl) (by rfl) (v := ?_) (fun _ _ _ h => h) hHeld (fun w hSw => ?_) ?_
  rotate_left
  · (try dsimp only at hSw); go_simp <;> (with_reducible rfl)
  (try simp only [Act.put, List.setIfInBounds_toArray, List.set_cons_zero, List.set_cons_succ])
  refine rg_in 3 rfl (by kernel_rfl) (by kernel_rfl) (by kernel_rfl) (by rfl) (v := ?_) (fun _ _ _ h => h) hHeld (fun w hSw => ?_) ?_
  rotate_left
  · (try dsimp only at hSw); go_simp <;> (with_reducible rfl)
  (try simp only [Act.put, List.setIfInBounds_toArray, List.set_cons_zero, List.set_cons_succ])
  refine rg_in 4 rfl (by kernel_rfl) (by kernel_rfl) (by kernel_rfl) (by rfl) (v := ?_) (fun _ _ _ h => h) hHeld (fun w hSw => ?_) ?_
  rotate_left
  · (try dsimp only at hSw); go_simp <;> (with_reducible rfl)
  (try simp only [Act.put, List.setIfInBounds_toArray, List.set_cons_zero, List.set_cons_succ])
  refine rg_in 6 rfl (by kernel_rfl) (by kernel_rfl) (by kernel_rfl) (by rfl) (v := ?_) (fun _ _ _ h => h) hHeld (fun w hSw => ?_) ?_
  rotate_left
  · (try dsimp only at hSw); go_simp <;> (with_reducible rfl)
  (try simp only [Act.put, List.setIfInBounds_toArray, List.set_cons_zero, List.set_cons_succ])
  refine rg_in 7 rfl (by kernel_rfl) (by kernel_rfl) (by kernel_rfl) (by rfl) (v := ?_) (fun _ _ _ h => h) hHeld (fun w hSw => ?_) ?_
  rotate_left
  · (try dsimp only at hSw); go_simp <;> (with_reducible rfl)
  (try simp only [Act.put, List.setIfInBounds_toArray, List.set_cons_zero, List.set_cons_succ])
  refine rg_in 9 rfl (by kernel_rfl) (by kernel_rfl) (by kernel_rfl) (by rfl) (v := ?_) (fun _ _ _ h => h) hHeld (fun w hSw => ?_) ?_
  rotate_left
  · (try dsimp only at hSw); go_simp <;> (with_reducible rfl)
  (try simp only [Act.put, List.setIfInBounds_toArray, List.set_cons_zero, List.set_cons_succ])
  refine rg_in 10 rfl (by kernel_rfl) (by kernel_rfl) (by kernel_rfl) (by rfl) (v := ?_) (fun _ _ _ h => h) hHeld (fun w hSw => ?_) ?_
  rotate_left
  · (try dsimp only at hSw); go_simp <;> (with_reducible rfl)
  (try simp only [Act.put, List.setIfInBounds_toArray, List.set_cons_zero, List.set_cons_succ])
  refine rg_in 11 rfl (by kernel_rfl) (by kernel_rfl) (by kernel_rfl) (by rfl) (v := ?_) (fun _ _ _ h => h) hHeld (fun w hSw => ?_) ?_
  rotate_left
  · (try dsimp only at hSw); go_simp <;> (with_reducible rfl)
  (try simp only [Act.put, List.setIfInBounds_toArray, List.set_cons_zero, List.set_cons_succ])
  refine rg_in 12 rfl (by kernel_rfl) (by kernel_rfl) (by kernel_rfl) (by rfl) (v := ?_) (fun _ _ _ h => h) hHeld (fun w hSw => ?_) ?_
  rotate_left
  · (try dsimp only at hSw); go_simp <;> (with_reducible rfl)
  (try simp only [Act.put, List.setIfInBounds_toArray, List.set_cons_zero, List.set_cons_succ])
  refine rg_in 13 rfl (by kernel_rfl) (by kernel_rfl) (by kernel_rfl) (by rfl) (v := ?_) (fun _ _ _ h => h) hHeld (fun w hSw => ?_) ?_
  rotate_left
  · (try dsimp only at hSw); go_simp <;> (with_reducible rfl)
  (try simp only [Act.put, List.setIfInBounds_toArray, List.set_cons_zero, List.set_cons_succ])
  refine rg_in 14 rfl (by kernel_rfl) (by kernel_rfl) (by kernel_rfl) (by rfl) (v := ?_) (fun _ _ _ h => h) hHeld (fun w hSw => ?_) ?_
  rotate_left
  · (try dsimp only at hSw); go_simp <;> (with_reducible rfl)
  (try simp only [Act.put, List.setIfInBounds_toArray, List.set_cons_zero, List.set_cons_succ])
  refine wpAnyH_ready (rs := [5, 15]) (by kernel_rfl) (by simp) ?_
  refine rg_cons rfl (by rfl) (fun K hK => ?_) ?_
  · have hcl := (xV _ hbw).1.2.1
    go_simp
    clear hcl
    refine hK.out _ _ hHeld (fun hHeld => ?_)
    clear hK K
    (try simp only [Act.put, List.setIfInBounds_toArray, List.set_cons_zero, List.set_cons_succ])
    refine rg_in 8 rfl (by kernel_rfl) (by kernel_rfl) (by kernel_rfl) (by rfl) (v := ?_) (fun _ _ _ h => h) hHeld (fun w hSw => ?_) ?_
    rotate_left
    · (try dsimp only at hSw); go_simp <;> (with_reducible rfl)
    (try simp only [Act.put, List.setIfInBounds_toArray, List.set_cons_zero, List.set_cons_succ])
    refine rg_do 15 rfl (by kernel_rfl) (by rfl) (fun K hK => ?_)
    refine step_row1' 35 34 _ rfl 1 iP (.slice none 0 0) Tryd.underlying35 hiP hzP hsP (.slice bA bn bn) rfl #[.slice bA bn bn] fill_p rfl (by decide) (by decide) ?_
    intro g115 w115 hge15 sh15 hl15 hb15
    refine hK.out _ _ (SAg.next hHeld hb15) (fun hHeld => ?_)
    clear hK K
    (try simp only [Act.put, List.setIfInBounds_toArray, List.set_cons_zero, List.set_cons_succ])
    refine rg_do 16 rfl (by kernel_rfl) (by rfl) (fun K hK => ?_)
    refine step_appF _ _ 35 rfl D 34 iP (.slice none 0 0) 1 24 Tryd.underlying35 hiP hzP hsP hbP rfl (by decide) B A n L rfl (hRow.below ((bel_next hbw hb15).mono hBW)) (sh15.below ((Below.refl _ _).mono hl15)) (by intro u hu; rcases List.mem_singleton.1 hu with rfl; rfl) rfl hn (by omega) (Nat.le_trans hWs (bel_next hbw hb15).size) ?_
    intro A116 c116 w116 own16 hb16
    refine hK.out _ _ (SAg.next hHeld hb16) (fun hHeld => ?_)
    clear hK K
    (try simp only [Act.put, List.setIfInBounds_toArray, List.set_cons_zero, List.set_cons_succ])
    refine rg_in 17 rfl (by kernel_rfl) (by kernel_rfl) (by kernel_rfl) (by rfl) (v := ?_) (fun _ _ _ h => h) hHeld (fun w hSw => ?_) ?_
    rotate_left
    · (try dsimp only at hSw); go_simp <;> (with_reducible rfl)
    (try simp only [Act.put, List.setIfInBounds_toArray, List.set_cons_zero, List.set_cons_succ])
    refine rg_in 18 rfl (by kernel_rfl) (by kernel_rfl) (by kernel_rfl) (by rfl) (v := ?_) (fun _ _ _ h => h) hHeld (fun w hSw => ?_) ?_
    rotate_left
    · (try dsimp only at hSw); go_simp <;> (with_reducible rfl)
    (try simp only [Act.put, List.setIfInBounds_toArray, List.set_cons_zero, List.set_cons_succ])
    refine rg_in 19 rfl (by kernel_rfl) (by kernel_rfl) (by kernel_rfl) (by rfl) (v := ?_) (fun _ _ _ h => h) hHeld (fun w hSw => ?_) ?_
    rotate_left
    · (try dsimp only at hSw); go_simp <;> (with_reducible rfl)
    (try simp only [Act.put, List.setIfInBounds_toArray, List.set_cons_zero, List.set_cons_succ])
    refine rg_do 20 rfl (by kernel_rfl) (by rfl) (fun K hK => ?_)
    have hV := xV _ (bel_next (bel_next hbw hb15) hb16)
    have hcl := hV.1.2.1
    have hcf := hV.2.2.1
    go_simp
    clear hcl hcf
    refine hK.out _ _ (SAg.set hHeld hV.1.2.1 hBg) (fun hHeld => ?_)
    clear hK K
    (try simp only [Act.put, List.setIfInBounds_toArray, List.set_cons_zero, List.set_cons_succ])
    refine wpAnyH_done (by kernel_rfl) ?_ _
    have hV2 := xV _ (bel_next (bel_next hbw hb15) hb16)
    have hbe := (bel_next (bel_next hbw hb15) hb16)
    clear x1 x3 xV hRow
    go_wp2
    go_end0
    exact hEnd _ _ _ own16 hbe hV2
  refine rg_cons rfl (by rfl) (fun K hK => ?_) ?_
  · refine step_row1' 35 34 _ rfl 1 iP (.slice none 0 0) Tryd.underlying35 hiP hzP hsP (.slice bA bn bn) rfl #[.slice bA bn bn] fill_p rfl (by decide) (by decide) ?_
    intro g115 w115 hge15 sh15 hl15 hb15
    refine hK.out _ _ (SAg.next hHeld hb15) (fun hHeld => ?_)
    clear hK K
    (try simp only [Act.put, List.setIfInBounds_toArray, List.set_cons_zero, List.set_cons_succ])
    refine rg_do 5 rfl (by kernel_rfl) (by rfl) (fun K hK => ?_)
    have hcl := (xV _ (bel_next hbw hb15)).1.2.1
    go_simp
    clear hcl
    refine hK.out _ _ hHeld (fun hHeld => ?_)
    clear hK K
    (try simp only [Act.put, List.setIfInBounds_toArray, List.set_cons_zero, List.set_cons_succ])
    refine rg_in 8 rfl (by kernel_rfl) (by kernel_rfl) (by kernel_rfl) (by rfl) (v := ?_) (fun _ _ _ h => h) hHeld (fun w hSw => ?_) ?_
    rotate_left
    · (try dsimp only at hSw); go_simp <;> (with_reducible rfl)
    (try simp only [Act.put, List.setIfInBounds_toArray, List.set_cons_zero, List.set_cons_succ])
    refine rg_do 16 rfl (by kernel_rfl) (by rfl) (fun K hK => ?_)
    refine step_appF _ _ 35 rfl D 34 iP (.slice none 0 0) 1 24 Tryd.underlying35 hiP hzP hsP hbP rfl (by decide) B A n L rfl (hRow.below ((bel_next hbw hb15).mono hBW)) (sh15.below ((Below.refl _ _).mono hl15)) (by intro u hu; rcases List.mem_singleton.1 hu with rfl; rfl) rfl hn (by omega) (Nat.le_trans hWs (bel_next hbw hb15).size) ?_
    intro A116 c116 w116 own16 hb16
    refine hK.out _ _ (SAg.next hHeld hb16) (fun hHeld => ?_)
    clear hK K
    (try simp only [Act.put, List.setIfInBounds_toArray, List.set_cons_zero, List.set_cons_succ])
    refine rg_in 17 rfl (by kernel_rfl) (by kernel_rfl) (by kernel_rfl) (by rfl) (v := ?_) (fun _ _ _ h => h) hHeld (fun w hSw => ?_) ?_
    rotate_left
    · (try dsimp only at hSw); go_simp <;> (with_reducible rfl)
    (try simp only [Act.put, List.setIfInBounds_toArray, List.set_cons_zero, List.set_cons_succ])
    refine rg_in 18 rfl (by kernel_rfl) (by kernel_rfl) (by kernel_rfl) (by rfl) (v := ?_) (fun _ _ _ h => h) hHeld (fun w hSw => ?_) ?_
    rotate_left
    · (try dsimp only at hSw); go_simp <;> (with_reducible rfl)
    (try simp only [Act.put, List.setIfInBounds_toArray, List.set_cons_zero, List.set_cons_succ])
    refine rg_in 19 rfl (by kernel_rfl) (by kernel_rfl) (by kernel_rfl) (by rfl) (v := ?_) (fun _ _ _ h => h) hHeld (fun w hSw => ?_) ?_
    rotate_left
    · (try dsimp only at hSw); go_simp <;> (with_reducible rfl)
    (try simp only [Act.put, List.setIfInBounds_toArray, List.set_cons_zero, List.set_cons_succ])
    refine rg_do 20 rfl (by kernel_rfl) (by rfl) (fun K hK => ?_)
    have hV := xV _ (bel_next (bel_next hbw hb15) hb16)
    have hcl := hV.1.2.1
    have hcf := hV.2.2.1
    go_simp
    clear hcl hcf
    refine hK.out _ _ (SAg.set hHeld hV.1.2.1 hBg) (fun hHeld => ?_)
    clear hK K
    (try simp only [Act.put, List.setIfInBounds_toArray, List.set_cons_zero, List.set_cons_succ])
    refine wpAnyH_done (by kernel_rfl) ?_ _
    have hV2 := xV _ (bel_next (bel_next hbw hb15) hb16)
    have hbe := (bel_next (bel_next hbw hb15) hb16)
    clear x1 x3 xV hRow
    go_wp2
    go_end0
    exact hEnd _ _ _ own16 hbe hV2
  exact AllReadyH.nil
end Go.Proofs.YtlknmpnjhbdlhaaDoor
/-
  Layer 10, plain: what operations make of a file; a loss of power piece by piece and byte by byte. No program in sight.
-/
namespace Go.Proofs.YtlknmpnjhbdlhaaDoor
open Go.RowKit
set_option linter.unusedVariables false

def FileS.all (X : FileS) : List UInt8 := X.firm ++ X.loose.flatten
def FileS.append (X : FileS) (long : Nat) (b : List UInt8) : FileS × Int :=
  if (X.asked long b.length).2 = 0 then ({ (X.asked long b.length).1 with loose := X.loose ++ [b] }, 0) else X.asked long b.length
def FileS.sync (X : FileS) (long : Nat) : FileS × Int :=
  if (X.asked long 0).2 = 0 then ({ (X.asked long 0).1 with firm := X.all, loose := [] }, 0) else X.asked long 0
theorem asked_same (X : FileS) (long more : Nat) : (X.asked long more).1.firm = X.firm ∧ (X.asked long more).1.loose = X.loose := by
  unfold FileS.asked
  split
  · exact ⟨rfl, rfl⟩
  · split
    · exact ⟨rfl, rfl⟩
    · split
      · exact ⟨rfl, rfl⟩
      · dsimp only
        split <;> exact ⟨rfl, rfl⟩

/-- How many bytes of a piece stay. -/
def survN (l : List UInt8) (i : Nat) (keep : List Bool) (tear cut : Int) : Nat :=
  if (i : Int) = tear then (min (max cut 0) (l.length : Int)).toNat else if keep.getD i false = true then l.length else 0
theorem survN_le (l : List UInt8) (i : Nat) (keep : List Bool) (tear cut : Int) : survN l i keep tear cut ≤ l.length := by
  unfold survN
  split
  · omega
  · split <;> omega
/-- Does a byte stay? -/
def stayB (i k : Nat) (keep : List Bool) (tear cut : Int) : Bool := if (i : Int) = tear then decide ((k : Int) < cut) else keep.getD i false
theorem stay_iff (l : List UInt8) (i k : Nat) (keep : List Bool) (tear cut : Int) (hk : k < l.length) : stayB i k keep tear cut = decide (k < survN l i keep tear cut) := by
  unfold stayB survN
  by_cases h : (i : Int) = tear
  · rw [if_pos h, if_pos h]
    by_cases h2 : (k : Int) < cut
    · rw [decide_eq_true h2, decide_eq_true (by omega)]
    · rw [decide_eq_false h2, decide_eq_false (by omega)]
  · rw [if_neg h, if_neg h]
    cases hb : keep.getD i false
    · rw [if_neg (by decide), decide_eq_false (by omega)]
    · rw [if_pos rfl, decide_eq_true hk]
def zerosU (n : Nat) : List UInt8 := List.replicate n 0
/-- The program's way: what stays is put behind, with noughts between. -/
def crashGo (keep : List Bool) (tear cut : Int) : List (List UInt8) → Nat → Nat → List UInt8 → List UInt8
  | [], _, _, f => f
  | l :: L, i, at', f => crashGo keep tear cut L (i + 1) (at' + l.length) (if 0 < survN l i keep tear cut then f ++ zerosU (at' - f.length) ++ l.take (survN l i keep tear cut) else f)
/-- The document's way, for a piece: each byte as it was, or nought. -/
def maskP (l : List UInt8) (i : Nat) (keep : List Bool) (tear cut : Int) : List UInt8 := l.take (survN l i keep tear cut) ++ zerosU (l.length - survN l i keep tear cut)
theorem mask_len (l : List UInt8) (i : Nat) (keep : List Bool) (tear cut : Int) : (maskP l i keep tear cut).length = l.length := by
  have := survN_le l i keep tear cut
  unfold maskP zerosU
  rw [List.length_append, List.length_take, List.length_replicate]
  omega
/-- What both have made, up to a piece: the bytes as they stay, and the place behind the last that stays. -/
def CrashP (M : List UInt8) (e : Nat) (f : List UInt8) : Prop := f.length = e ∧ M = f ++ zerosU (M.length - e) ∧ e ≤ M.length
theorem CrashP.next {M f : List UInt8} {e : Nat} (h : CrashP M e f) (l : List UInt8) (i : Nat) (keep : List Bool) (tear cut : Int) :
    CrashP (M ++ maskP l i keep tear cut) (if 0 < survN l i keep tear cut then M.length + survN l i keep tear cut else e) (if 0 < survN l i keep tear cut then f ++ zerosU (M.length - f.length) ++ l.take (survN l i keep tear cut) else f) := by
  obtain ⟨h1, h2, h3⟩ := h
  have hs := survN_le l i keep tear cut
  have hm := mask_len l i keep tear cut
  by_cases h : 0 < survN l i keep tear cut
  · rw [if_pos h, if_pos h, h1, ← h2]
    refine ⟨by rw [List.length_append, List.length_take]; omega, ?_, by rw [List.length_append]; omega⟩
    unfold maskP
    rw [List.append_assoc]
    congr 2
    rw [List.length_append, List.length_append, List.length_take]
    unfold zerosU
    rw [List.length_replicate]
    congr 1
    omega
  · rw [if_neg h, if_neg h]
    refine ⟨h1, ?_, by rw [List.length_append]; omega⟩
    have h0 : survN l i keep tear cut = 0 := by omega
    unfold maskP
    rw [h0, List.take_zero, List.nil_append, Nat.sub_zero]
    conv => lhs; rw [h2]
    rw [List.append_assoc]
    congr 1
    unfold zerosU
    rw [List.replicate_append_replicate, List.length_append, List.length_replicate]
    congr 1
    omega
def maskGo (keep : List Bool) (tear cut : Int) : List (List UInt8) → Nat → List UInt8 → List UInt8
  | [], _, M => M
  | l :: L, i, M => maskGo keep tear cut L (i + 1) (M ++ maskP l i keep tear cut)
def endGo (keep : List Bool) (tear cut : Int) : List (List UInt8) → Nat → Nat → Nat → Nat
  | [], _, _, e => e
  | l :: L, i, at', e => endGo keep tear cut L (i + 1) (at' + l.length) (if 0 < survN l i keep tear cut then at' + survN l i keep tear cut else e)
theorem crash_is (keep : List Bool) (tear cut : Int) : ∀ (L : List (List UInt8)) (i at' e : Nat) (M f : List UInt8), M.length = at' → CrashP M e f →
    crashGo keep tear cut L i at' f = (maskGo keep tear cut L i M).take (endGo keep tear cut L i at' e)
  | [], i, at', e, M, f, hM, h => by
    obtain ⟨h1, h2, h3⟩ := h
    show f = M.take e
    rw [h2, List.take_append, List.take_of_length_le (by omega), ← h1]
    simp
  | l :: L, i, at', e, M, f, hM, h => by
    have hn := h.next l i keep tear cut
    have := crash_is keep tear cut L (i + 1) (at' + l.length) _ _ _ (by rw [List.length_append, mask_len, hM]) hn
    rw [hM] at this
    exact this
def FileS.crash (X : FileS) (keep : List Bool) (tear cut : Int) : FileS := ⟨crashGo keep tear cut X.loose 0 X.firm.length X.firm, [], -1, -1, false⟩
end Go.Proofs.YtlknmpnjhbdlhaaDoor
/-
  Layer 10: Append.
-/
namespace Go.Proofs.YtlknmpnjhbdlhaaDoor
open Go.RowKit
set_option linter.unusedVariables false

/-- A row does not lie in a block. -/
def AwayP (p : PcT) (g : Nat) : Prop := ∀ b off, p.A = some ⟨b, off, none⟩ → 0 < p.n → b ≠ g
/-- No row of a file lies in a block. -/
structure AwayF (X : FileT) (g : Nat) : Prop where
  firm : AwayP X.F g
  row : ∀ b off, X.lA = some ⟨b, off, none⟩ → 0 < X.ln → b ≠ g
  loose : ∀ p ∈ X.L, AwayP p g
theorem PcT.Ok.away {w : World} {B g : Nat} {p : PcT} (h : p.Ok w B) (hg : B ≤ g) : AwayP p g := fun b off hA hn => by
  obtain ⟨b', off', e, hb, _⟩ := h.here.2 hn
  rw [hA] at e
  injection e with e
  injection e with e
  omega
theorem LieF.away {w : World} {B g : Nat} {X : FileT} (h : LieF w B X) (hg : B ≤ g) : AwayF X g :=
  ⟨h.firm.away hg, fun b off hA hn => by
    obtain ⟨b', off', e, hb, _⟩ := h.row.2 hn
    rw [hA] at e
    injection e with e
    injection e with e
    omega, fun p hp => (h.loose p hp).away hg⟩
theorem Shows.setAway {w : World} {B size n g i : Nat} {A : Option Addr} {xs : List Value} (h : Shows w B size A n xs) (ha : ∀ b off, A = some ⟨b, off, none⟩ → 0 < n → b ≠ g) (u : Value) : Shows (w.setCell ⟨g, i, none⟩ u) B size A n xs :=
  ⟨h.1, fun hn => by
    obtain ⟨b, off, e, hb, hc⟩ := h.2 hn
    exact ⟨b, off, e, hb, fun j v hj => (World.cell?_setCell_other _ _ _ _ (fun q => ha b off e hn (by injection q with q; exact q.symm))).trans (hc j v hj)⟩⟩
theorem PcT.Ok.setAway {w : World} {B g : Nat} {p : PcT} (h : p.Ok w B) (ha : AwayP p g) (i : Nat) (u : Value) : p.Ok (w.setCell ⟨g, i, none⟩ u) B := ⟨Shows.setAway h.here ha u, h.nil, h.fits, h.most⟩
theorem LieF.setAway {w : World} {B g : Nat} {X : FileT} (h : LieF w B X) (ha : AwayF X g) (i : Nat) (u : Value) : LieF (w.setCell ⟨g, i, none⟩ u) B X :=
  ⟨h.firm.setAway ha.firm i u, h.row.setAway ha.row u, fun p hp => (h.loose p hp).setAway (ha.loose p hp) i u, h.nil, h.fits, h.most, h.fuse, h.fault⟩
theorem LieF.setAway5 {w : World} {B g : Nat} {X : FileT} (h : LieF w B X) (ha : AwayF X g) (a b c d e : Value) : LieF (set5F w g a b c d e) B X :=
  ((((h.setAway ha 0 a).setAway ha 1 b).setAway ha 2 c).setAway ha 3 d).setAway ha 4 e
theorem size_set5 (w : World) (g : Nat) (a b c d e : Value) : (set5F w g a b c d e).heap.size = w.heap.size := by unfold set5F; rw [size_set, size_set, size_set, size_set, size_set]
/-- A file that came back, behind its store into an older variable. -/
theorem lie_res {w : World} {g : Nat} {a b c d e : Value} {Y : FileT} (h : LieF w w.heap.size Y) (ha : AwayF Y g) : LieF (set5F w g a b c d e) (set5F w g a b c d e).heap.size Y := by
  rw [size_set5]
  exact h.setAway5 ha a b c d e
theorem own_away {W : World} {D n c g : Nat} {t : TypeId} {A : Option Addr} {xs : List Value} (h : W.ownsRow D t 1 (.slice A n c) n xs) (hg : g < D) : ∀ b off, A = some ⟨b, off, none⟩ → 0 < n → b ≠ g := fun b off hA hn => by
  obtain ⟨k, cap, e, hk, _⟩ := h.form hn
  rw [hA] at e
  injection e with e
  injection e with e
  injection e with e
  omega
/-- What an operation on a file gives. -/
def OpP (X : FileT) (Z : Nat → Prop) (out : FileS × Int) (w : World) (e : Ending) (w' : World) : Prop :=
  ∃ Y : FileT, e = .returned (.tuple #[Y.agg, .int .i64 out.2]) ∧ Y.s = out.1 ∧ LieF w' w'.heap.size Y ∧ Below w.heap.size w w' ∧ (∀ g, g < w.heap.size → AwayF X g → Z g → AwayF Y g)
theorem asked_wf {X : FileT} {gr : Nat} (h2 : (Lit.int .i64 X.fuse).wf = true) (h3 : (Lit.int .i64 X.fault).wf = true) : (Lit.int .i64 (X.s.asked X.long gr).1.fuse).wf = true ∧ (Lit.int .i64 (X.s.asked X.long gr).1.fault).wf = true := by
  have hm : (Lit.int .i64 (-1)).wf = true := by decide
  by_cases ho : X.off = true
  · rw [asked_1 ho]; exact ⟨h2, h3⟩
  · have ho' : X.off = false := by simpa using ho
    by_cases hf : 524288 < X.long + gr
    · rw [asked_2 ho' hf]; exact ⟨h2, h3⟩
    · by_cases hr : X.fault = 0
      · rw [asked_3 ho' hf hr]; exact ⟨h2, hm⟩
      · by_cases hu : X.fuse = 0
        · rw [asked_4 ho' hf hr hu]; exact ⟨hm, tick_wf h3⟩
        · rw [asked_5 ho' hf hr hu]; exact ⟨tick_wf h2, tick_wf h3⟩
theorem asked_zero {X : FileT} {gr : Nat} (h : (X.s.asked X.long gr).2 = 0) : X.s.asked X.long gr = (⟨X.F.l, X.L.map (·.l), tickN X.fuse, tickN X.fault, false⟩, 0) := by
  by_cases ho : X.off = true
  · rw [asked_1 ho] at h; cases h
  · have ho' : X.off = false := by simpa using ho
    by_cases hf : 524288 < X.long + gr
    · rw [asked_2 ho' hf] at h; cases h
    · by_cases hr : X.fault = 0
      · rw [asked_3 ho' hf hr] at h; cases h
      · by_cases hu : X.fuse = 0
        · rw [asked_4 ho' hf hr hu] at h; cases h
        · exact asked_5 ho' hf hr hu
theorem right_rows {w : World} {B : Nat} {X : FileT} (h : LieF w B X) (hr : X.right = true) : (∀ p ∈ X.Q, p.n ≤ 1048576) ∧ X.long ≤ 524288 ∧ X.ln ≤ 524288 := by
  obtain ⟨h1, h2⟩ := right_all h hr
  have e : X.all.length = X.F.n + sumN X.L := by unfold FileT.all; rw [List.length_append, h.firm.len, sumN_len h.loose]
  have hm : ∀ (L : List PcT) (p : PcT), p ∈ L → p.n ≤ sumN L := by
    intro L
    induction L with
    | nil => intro p hp; cases hp
    | cons q L ih =>
      intro p hp
      have es : sumN (q :: L) = q.n + sumN L := by simp [sumN]
      rcases List.mem_cons.1 hp with rfl | hp
      · omega
      · have := ih p hp; omega
  have hc : ∀ (L : List PcT), (∀ p ∈ L, p.n ≠ 0) → L.length ≤ sumN L := by
    intro L
    induction L with
    | nil => intro _; exact Nat.zero_le _
    | cons q L ih =>
      intro hq
      have es : sumN (q :: L) = q.n + sumN L := by simp [sumN]
      have := ih fun p hp => hq p (List.mem_cons_of_mem _ hp)
      have := hq q (List.mem_cons_self ..)
      rw [List.length_cons]
      omega
  refine ⟨fun p hp => ?_, by omega, ?_⟩
  · rcases List.mem_cons.1 hp with rfl | hp
    · omega
    · have := hm _ _ hp; omega
  · have := hc X.L (fun p hp => by
      unfold FileT.right at hr
      simp only [Bool.and_eq_true, List.all_eq_true] at hr
      have := hr.1 p hp
      intro h0
      simp [h0] at this)
    rw [h.len] at this
    omega
/-- The file behind an operation that failed. -/
theorem lie_asked {w w' : World} {B : Nat} {X : FileT} {gr : Nat} (hL : LieF w B X) (hb : Below B w w') (hB : B ≤ w'.heap.size) :
    LieF w' w'.heap.size ⟨X.F, X.lA, X.ln, X.lc, X.L, (X.s.asked X.long gr).1.fuse, (X.s.asked X.long gr).1.fault, (X.s.asked X.long gr).1.off⟩ := by
  have h := (hL.later hb).more hB
  obtain ⟨w2, w3⟩ := asked_wf (gr := gr) hL.fuse hL.fault
  exact ⟨h.firm, h.row, h.loose, h.nil, h.fits, h.most, w2, w3⟩
def AppJ (X : FileT) (p : PcT) (D : Nat) (v0 v1 : Value) (W : World) : Prop :=
  v0 = .slice X.F.A X.F.n X.F.c ∧ ∃ A' c', v1 = .slice A' (X.ln + 1) c' ∧ W.ownsRow D 34 1 (.slice A' (X.ln + 1) c') (X.ln + 1) (X.L.map PcT.val ++ [.slice p.A p.n p.n])
theorem fvar_other {W : World} {g k : Nat} {a b c d e : Value} (i : Nat) (v : Value) (hk : g ≠ k) (h : FVar W k a b c d e) : FVar (W.setCell ⟨g, i, none⟩ v) k a b c d e := FVar.other v (Ne.symm hk) h
theorem FVar.low {W W' : World} {B g : Nat} {a b c d e : Value} (h : FVar W g a b c d e) (hg : g < B) (hb : Below B W W') : FVar W' g a b c d e := by
  obtain ⟨⟨h0, h1, h2, h3, h4⟩, k0, k1, k2, k3, k4⟩ := h
  have c := fun i => hb.cell (p := ⟨g, i, none⟩) hg
  have f := fun i => hb.frozen (p := ⟨g, i, none⟩) hg
  exact ⟨⟨(c 0).trans h0, (c 1).trans h1, (c 2).trans h2, (c 3).trans h3, (c 4).trans h4⟩, (f 0).trans k0, (f 1).trans k1, (f 2).trans k2, (f 3).trans k3, (f 4).trans k4⟩
theorem FVar.set1 {W : World} {g : Nat} {a b c d e : Value} (v : Value) (h : FVar W g a b c d e) : FVar (W.setCell ⟨g, 1, none⟩ v) g a v c d e := by
  obtain ⟨⟨h0, h1, h2, h3, h4⟩, k0, k1, k2, k3, k4⟩ := h
  refine ⟨⟨?_, ?_, ?_, ?_, ?_⟩, ?_, ?_, ?_, ?_, ?_⟩ <;> simp [go_sem, *]
theorem FVar.set0 {W : World} {g : Nat} {a b c d e : Value} (v : Value) (h : FVar W g a b c d e) : FVar (W.setCell ⟨g, 0, none⟩ v) g v b c d e := by
  obtain ⟨⟨h0, h1, h2, h3, h4⟩, k0, k1, k2, k3, k4⟩ := h
  refine ⟨⟨?_, ?_, ?_, ?_, ?_⟩, ?_, ?_, ?_, ?_, ?_⟩ <;> simp [go_sem, *]
theorem own_set5 {W : World} {k D n : Nat} {t : TypeId} {v : Value} {xs : List Value} {a b c d e : Value} (h : W.ownsRow D t 1 v n xs) (hk : k < D) : (set5F W k a b c d e).ownsRow D t 1 v n xs :=
  ownsRow_setCell_below (ownsRow_setCell_below (ownsRow_setCell_below (ownsRow_setCell_below (ownsRow_setCell_below h hk _) hk _) hk _) hk _) hk _
theorem own_facts {W : World} {D n c : Nat} {A : Option Addr} {t : TypeId} {xs : List Value} (h : W.ownsRow D t 1 (.slice A n c) n xs) : (A = none → c = 0) ∧ n ≤ c ∧ c ≤ maxLen := by
  obtain ⟨A', c', e, h1, h2⟩ := own_form h
  injection e with e1 e2 e3
  subst e1 e3
  refine ⟨fun hA => ?_, h1, h2⟩
  rcases h.2 with ⟨e, _⟩ | ⟨g, cap, cur, e, _⟩
  · injection e
  · rw [hA] at e
    injection e with e1
    cases e1
/-- The file behind an Append that was done. -/
theorem lie_app {W5 : World} {D k n : Nat} {X : FileT} {p : PcT} {A' : Option Addr} {c' : Nat} {u v : Int} {b : Bool} {a0 a1 a2 a3 a4 : Value} (hL : LieF (set5F W5 k a0 a1 a2 a3 a4) n X) (hp : p.Ok (set5F W5 k a0 a1 a2 a3 a4) n) (hu : (Lit.int .i64 u).wf = true) (hv : (Lit.int .i64 v).wf = true) (hn : n ≤ (set5F W5 k a0 a1 a2 a3 a4).heap.size) (hk : k < D)
    (hown : W5.ownsRow D 34 1 (.slice A' (X.ln + 1) c') (X.ln + 1) (X.L.map PcT.val ++ [.slice p.A p.n p.n])) :
    LieF (set5F W5 k a0 a1 a2 a3 a4) (set5F W5 k a0 a1 a2 a3 a4).heap.size ⟨X.F, A', X.ln + 1, c', X.L ++ [⟨p.A, p.n, p.n, p.l⟩], u, v, b⟩ := by
  have h := hL.more hn
  have ho := own_set5 (a := a0) (b := a1) (c := a2) (d := a3) (e := a4) hown hk
  obtain ⟨o1, o2, o3⟩ := own_facts ho
  refine ⟨h.firm, ?_, ?_, o1, o2, o3, hu, hv⟩
  · have := Shows.own ho
    rw [List.map_append]
    exact this
  · intro q hq
    rcases List.mem_append.1 hq with hq | hq
    · exact h.loose q hq
    · obtain rfl := List.mem_singleton.1 hq
      have hp' := hp.more hn
      refine ⟨hp'.here, fun hA => ?_, Nat.le_refl _, Nat.le_trans hp'.fits hp'.most⟩
      have := hp'.nil hA
      have := hp'.fits
      show p.n = 0
      omega
theorem chg_lay (W : World) (v0 v1 v2 v3 v4 v5 : Value) (t u : TypeId) :
    FVar ((W.alloc (.cells #[v0, v1, v2, v3, v4, v5] t)).alloc (.cells #[.pointer (some ⟨W.heap.size, 0, none⟩)] u)) W.heap.size v0 v1 v2 v3 v4 ∧
    ((W.alloc (.cells #[v0, v1, v2, v3, v4, v5] t)).alloc (.cells #[.pointer (some ⟨W.heap.size, 0, none⟩)] u)).cell? ⟨W.heap.size, 5, none⟩ = some v5 ∧
    ((W.alloc (.cells #[v0, v1, v2, v3, v4, v5] t)).alloc (.cells #[.pointer (some ⟨W.heap.size, 0, none⟩)] u)).cell? ⟨W.heap.size + 1, 0, none⟩ = some (.pointer (some ⟨W.heap.size, 0, none⟩)) := by
  refine ⟨⟨⟨by simp [go_sem], by simp [go_sem], by simp [go_sem], by simp [go_sem], by simp [go_sem]⟩, by simp [go_sem], by simp [go_sem], by simp [go_sem], by simp [go_sem], by simp [go_sem]⟩, by simp [go_sem], ?_⟩
  have h := World.cell?_alloc_new (W.alloc (.cells #[v0, v1, v2, v3, v4, v5] t)) #[.pointer (some ⟨W.heap.size, 0, none⟩)] u 0
  rw [World.size_alloc] at h
  exact h
set_option maxRecDepth 20000 in
set_option maxHeartbeats 4000000 in
theorem appendF_any (X : FileT) (p : PcT) (B : Nat) (w : World) (hL : LieF w B X) (hp : p.Ok w B) (hB : B ≤ w.heap.size) (hr : X.right = true) :
    Calls Tryd.prog 38 #[X.agg, p.val] w (OpP X (AwayP p) (if p.n = 0 then (X.s, 2) else X.s.append X.long p.l) w) := by
  have HO := Lib.hid (show (p.n = 0 → (if p.n = 0 then (X.s, 2) else X.s.append X.long p.l) = (X.s, (2 : Int))) ∧ (¬ p.n = 0 → (if p.n = 0 then (X.s, 2) else X.s.append X.long p.l) = X.s.append X.long p.l) from ⟨fun h => if_pos h, fun h => if_neg h⟩)
  generalize (if p.n = 0 then (X.s, 2) else X.s.append X.long p.l) = out at *
  have hb1 := bel_alloc (bel_alloc (bel_alloc (Below.refl w.heap.size w) (.cells #[.slice X.F.A X.F.n X.F.c, .slice X.lA X.ln X.lc, .int .i64 X.fuse, .int .i64 X.fault, .bool X.off] 37)) (.cells #[.slice p.A p.n p.c] 34)) (.cells #[.slice none 0 0, .slice none 0 0, .int .i64 0, .int .i64 0, .bool false] 37)
  have HX := (FBox.new w X 37).later (bel_alloc (bel_alloc (Below.refl _ _) (.cells #[.slice p.A p.n p.c] 34)) (.cells #[.slice none 0 0, .slice none 0 0, .int .i64 0, .int .i64 0, .bool false] 37))
  obtain ⟨hN, hl, hln⟩ := right_rows hL hr
  have hch := checkF_any X B _ (hL.later (hb1.mono hB)) (Nat.le_trans hB hb1.size) hN
  rw [if_pos hr] at hch
  have HV := FVar.new ((w.alloc (.cells #[.slice X.F.A X.F.n X.F.c, .slice X.lA X.ln X.lc, .int .i64 X.fuse, .int .i64 X.fault, .bool X.off] 37)).alloc (.cells #[.slice p.A p.n p.c] 34)) (.slice none 0 0) (.slice none 0 0) (.int .i64 0) (.int .i64 0) (.bool false) 37
  simp only [FileT.agg, PcT.val] at hch ⊢
  obtain ⟨f0, f1, f2, f3, f4⟩ := HX
  have hpc : (((w.alloc (.cells #[.slice X.F.A X.F.n X.F.c, .slice X.lA X.ln X.lc, .int .i64 X.fuse, .int .i64 X.fault, .bool X.off] 37)).alloc (.cells #[.slice p.A p.n p.c] 34)).alloc (.cells #[.slice none 0 0, .slice none 0 0, .int .i64 0, .int .i64 0, .bool false] 37)).cell? ⟨w.heap.size + 1, 0, none⟩ = some (.slice p.A p.n p.c) := by simp [go_sem]
  have hsz : (((w.alloc (.cells #[.slice X.F.A X.F.n X.F.c, .slice X.lA X.ln X.lc, .int .i64 X.fuse, .int .i64 X.fault, .bool X.off] 37)).alloc (.cells #[.slice p.A p.n p.c] 34)).alloc (.cells #[.slice none 0 0, .slice none 0 0, .int .i64 0, .int .i64 0, .bool false] 37)).heap.size = w.heap.size + 3 := by simp
  have hsz2 : ((w.alloc (.cells #[.slice X.F.A X.F.n X.F.c, .slice X.lA X.ln X.lc, .int .i64 X.fuse, .int .i64 X.fault, .bool X.off] 37)).alloc (.cells #[.slice p.A p.n p.c] 34)).heap.size = w.heap.size + 1 + 1 := by simp
  rw [hsz2] at HV
  clear hsz2
  go_enter Tryd.func38, Tryd.ntmps38
  go_wp2_with fail
  generalize ((w.alloc (.cells #[.slice X.F.A X.F.n X.F.c, .slice X.lA X.ln X.lc, .int .i64 X.fuse, .int .i64 X.fault, .bool X.off] 37)).alloc (.cells #[.slice p.A p.n p.c] 34)).alloc (.cells #[.slice none 0 0, .slice none 0 0, .int .i64 0, .int .i64 0, .bool false] 37) = W1 at *
  refine hch.mono ?_
  rintro e W2 ⟨rfl, hb2⟩
  clear hch
  have hb3 := bel_next hb1 hb2
  have HV2 := Lib.hid (HV.later hb2)
  have f0' := kept_later hb2 f0
  have f1' := kept_later hb2 f1
  have f2' := kept_later hb2 f2
  have f3' := kept_later hb2 f3
  have f4' := kept_later hb2 f4
  have hpc' := kept_later hb2 hpc
  have hs2 := hb2.size
  have HS := Lib.hid hsz
  clear f0 f1 f2 f3 f4 hpc HV hb1 hb2
  by_cases h0 : p.n = 0
  · have h1 : ((p.n : Int) == 0) = true := by rw [beq_iff_eq]; omega
    have HO2 := Lib.hid (HO.out.1 h0)
    clear HO
    have HL := Lib.hid ((hL.later (hb3.mono hB)).more (Nat.le_trans hB hb3.size))
    obtain ⟨⟨j0, j1, j2, j3, j4⟩, k0, k1, k2, k3, k4⟩ := HV2.out
    have hbe := fbelow_set5 (a := .slice X.F.A X.F.n X.F.c) (b := .slice X.lA X.ln X.lc) (c := .int .i64 X.fuse) (d := .int .i64 X.fault) (e := .bool X.off) hb3 (show w.heap.size ≤ w.heap.size + 1 + 1 by omega)
    have hLe := (hL.later (hbe.mono hB)).more (Nat.le_trans hB hbe.size)
    clear h0 hsz hN hl hln hr hL
    go_wp2
    refine bodyPost_ret (v := .tuple #[.agg #[.slice X.F.A X.F.n X.F.c, .slice X.lA X.ln X.lc, .int .i64 X.fuse, .int .i64 X.fault, .bool X.off], .int .i64 2]) ?_ rfl ⟨X, by rw [HO2.out]; rfl, by rw [HO2.out], hLe, hbe, fun _ _ h _ => h⟩
    simp [results, Tryd.results38, go_sem, *]
  · have h1 : ((p.n : Int) == 0) = false := by rw [beq_eq_false_iff_ne]; omega
    have HO2 := Lib.hid (HO.out.2 h0)
    clear HO
    have hmf : ∀ (fn : Fn) (first cap : Array Value) (w : World), (Instr.makeFunc fn first cap).run Tryd.prog w = .ok (.func fn first cap) w := fun _ _ _ _ => rfl
    have HL := Lib.hid hL
    have HP := Lib.hid hp
    have HN := Lib.hid hN
    clear hsz hN hr hL hp
    have hb4 := bel_alloc (bel_alloc hb3 (.cells #[.slice X.F.A X.F.n X.F.c, .slice X.lA X.ln X.lc, .int .i64 X.fuse, .int .i64 X.fault, .bool X.off, .int .i64 (p.n : Nat)] 103)) (.cells #[.pointer (some ⟨W2.heap.size, 0, none⟩)] 101)
    have hg4 : W2.heap.size < ((W2.alloc (.cells #[.slice X.F.A X.F.n X.F.c, .slice X.lA X.ln X.lc, .int .i64 X.fuse, .int .i64 X.fault, .bool X.off, .int .i64 (p.n : Nat)] 103)).alloc (.cells #[.pointer (some ⟨W2.heap.size, 0, none⟩)] 101)).heap.size := by rw [World.size_alloc, World.size_alloc]; omega
    obtain ⟨hV4, h54, hq4⟩ := chg_lay W2 (.slice X.F.A X.F.n X.F.c) (.slice X.lA X.ln X.lc) (.int .i64 X.fuse) (.int .i64 X.fault) (.bool X.off) (.int .i64 (p.n : Nat)) 103 101
    have hr4 := HV2.out.later (bel_alloc (bel_alloc (Below.refl _ _) (.cells #[.slice X.F.A X.F.n X.F.c, .slice X.lA X.ln X.lc, .int .i64 X.fuse, .int .i64 X.fault, .bool X.off, .int .i64 (p.n : Nat)] 103)) (.cells #[.pointer (some ⟨W2.heap.size, 0, none⟩)] 101))
    have hp4 := kept_later (bel_alloc (bel_alloc (Below.refl _ _) (.cells #[.slice X.F.A X.F.n X.F.c, .slice X.lA X.ln X.lc, .int .i64 X.fuse, .int .i64 X.fault, .bool X.off, .int .i64 (p.n : Nat)] 103)) (.cells #[.pointer (some ⟨W2.heap.size, 0, none⟩)] 101)) hpc'
    have hs4 := hb4.size
    have hs3 := hb3.size
    have hww : w.heap.size + 3 ≤ W2.heap.size := by have := HS.out; omega
    have hcf : ∀ (cap : Array Value) (W : World), Sem.run Tryd.prog (callFunc 57 cap) W = .ok (.enter 57 cap) W := fun _ _ => by kernel_rfl
    go_wp2_with fail
    generalize hW4 : (W2.alloc (.cells #[.slice X.F.A X.F.n X.F.c, .slice X.lA X.ln X.lc, .int .i64 X.fuse, .int .i64 X.fault, .bool X.off, .int .i64 (p.n : Nat)] 103)).alloc (.cells #[.pointer (some ⟨W2.heap.size, 0, none⟩)] 101) = W4 at *
    clear hW4
    have hL4 := (HL.out.later (hb4.mono hB)).more (Nat.le_trans hB hb4.size)
    refine (run_any X W2.heap.size p.n W2.heap.size 57 #[.pointer (some ⟨W2.heap.size + 1, 0, none⟩), .pointer (some ⟨w.heap.size + 1, 0, none⟩)] (AppJ X p (W4.heap.size + 2)) W4 hV4 h54 ((HL.out.later (hb4.mono hB)).more (Nat.le_trans hB hs3)) (Nat.le_refl _) hg4 HN.out hl (hcf _) ?hwork ?hJ).mono ?_
    case hwork =>
      intro W hV hbW hsW hoW
      refine work1_any W2.heap.size (W2.heap.size + 1) (w.heap.size + 1) W2.heap.size (W4.heap.size + 2) X.ln X.lc p.n p.c X.lA p.A (X.L.map PcT.val) _ _ _ _ W hV ((World.cell?_of_block (hoW _ (World.block_lt_of_cell? _ _ hq4) (show W2.heap.size + 1 ≠ W2.heap.size by omega))).trans hq4) ((World.cell?_of_block (hoW _ (show w.heap.size + 1 < W4.heap.size by omega) (show w.heap.size + 1 ≠ W2.heap.size by omega))).trans hp4) (by omega) (by omega) (Nat.le_refl _) (by omega) hsW (((HL.out.later (hb4.mono hB)).row.more (Nat.le_trans hB hs3)).below hbW) HL.out.fits (by omega) HP.out.fits (Nat.le_trans HP.out.fits HP.out.most) ?_
      intro A' c' Wn hown hb hV'
      refine ⟨rfl, (hb.mono (show W2.heap.size ≤ W.heap.size by omega)).setCell (show W2.heap.size ≤ W2.heap.size from Nat.le_refl _) _, fun k a b c d e hk hlt hf => fvar_other 1 _ (Ne.symm hk) (hf.later hb), _, _, _, _, _, _, hV'.set1 _, rfl, A', c', rfl, ownsRow_setCell_below hown (by show W2.heap.size < _; omega) _⟩
    case hJ =>
      rintro v0 v1 W a b c d e ⟨rfl, A', c', rfl, hown⟩
      exact ⟨rfl, A', c', rfl, own_set5 hown (by omega)⟩
    rintro e W5 ⟨r, hask, hb5, hcase⟩
    have hb6 := hb4.trans (hb5.mono hs3)
    have hV6 := hr4.low (by omega) hb5
    obtain ⟨⟨j0, j1, j2, j3, j4⟩, k0, k1, k2, k3, k4⟩ := hV6
    have hpl := HP.out.len
    rcases hcase with ⟨hne, rfl⟩ | ⟨h0, v0, v1, ⟨rfl, A', c', rfl, hown⟩, rfl⟩
    · have HO3 := Lib.hid (show out = X.s.asked X.long p.n by
        rw [HO2.out]
        unfold FileS.append
        rw [hpl, if_neg (by rw [hask]; exact hne)])
      subst hask
      have hbe := fbelow_set5 (a := .slice X.F.A X.F.n X.F.c) (b := .slice X.lA X.ln X.lc) (c := .int .i64 (X.s.asked X.long p.n).1.fuse) (d := .int .i64 (X.s.asked X.long p.n).1.fault) (e := .bool (X.s.asked X.long p.n).1.off) hb6 (show w.heap.size ≤ w.heap.size + 1 + 1 by omega)
      have HLe := Lib.hid (lie_asked (gr := p.n) HL.out (hbe.mono hB) (Nat.le_trans hB hbe.size))
      have HSe := Lib.hid (show (⟨X.F.l, X.L.map (·.l), (X.s.asked X.long p.n).1.fuse, (X.s.asked X.long p.n).1.fault, (X.s.asked X.long p.n).1.off⟩ : FileS) = (X.s.asked X.long p.n).1 by
        obtain ⟨e1, e2⟩ := asked_same X.s X.long p.n
        generalize X.s.asked X.long p.n = q at *
        obtain ⟨⟨q0, q1, q2, q3, q4⟩, q5⟩ := q
        cases e1
        cases e2
        rfl)
      generalize X.s.asked X.long p.n = q at *
      clear HL HP HN hV4 h54 hq4 hr4 hp4 hs4 hs3 hww hcf hmf hg4 hL4 hb5 hb6 hb4 hb3 hne h0 h1 hpl f0' f1' f2' f3' f4' hpc' hs2 HS HV2 HO2 hl hln
      go_wp2
      refine bodyPost_ret (v := .tuple #[.agg #[.slice X.F.A X.F.n X.F.c, .slice X.lA X.ln X.lc, .int .i64 q.1.fuse, .int .i64 q.1.fault, .bool q.1.off], .int .i64 q.2]) ?_ rfl ⟨⟨X.F, X.lA, X.ln, X.lc, X.L, q.1.fuse, q.1.fault, q.1.off⟩, by rw [HO3.out]; rfl, by rw [HO3.out]; exact HSe.out, HLe.out, hbe, fun _ _ h _ => ⟨h.firm, h.row, h.loose⟩⟩
      simp [results, Tryd.results38, go_sem, *]
    · have HO3 := Lib.hid (show out = ({ (X.s.asked X.long p.n).1 with loose := X.s.loose ++ [p.l] }, (0 : Int)) by
        rw [HO2.out]
        unfold FileS.append
        rw [hpl, if_pos (by rw [hask]; exact h0)])
      subst hask
      have hbe := fbelow_set5 (a := .slice X.F.A X.F.n X.F.c) (b := .slice A' (X.ln + 1) c') (c := .int .i64 (X.s.asked X.long p.n).1.fuse) (d := .int .i64 (X.s.asked X.long p.n).1.fault) (e := .bool (X.s.asked X.long p.n).1.off) hb6 (show w.heap.size ≤ w.heap.size + 1 + 1 by omega)
      obtain ⟨q2, q3⟩ := asked_wf (gr := p.n) HL.out.fuse HL.out.fault
      have HLe := Lib.hid (lie_app (b := (X.s.asked X.long p.n).1.off) (HL.out.later (hbe.mono hB)) (HP.out.later (hbe.mono hB)) q2 q3 (Nat.le_trans hB hbe.size) (show w.heap.size + 1 + 1 < W4.heap.size + 2 by omega) hown)
      have HAw := Lib.hid (show ∀ g, g < w.heap.size → AwayF X g → AwayP p g → AwayF ⟨X.F, A', X.ln + 1, c', X.L ++ [⟨p.A, p.n, p.n, p.l⟩], (X.s.asked X.long p.n).1.fuse, (X.s.asked X.long p.n).1.fault, (X.s.asked X.long p.n).1.off⟩ g from fun g hg h1 h2 => ⟨h1.firm, own_away hown (by omega), fun q hq => by
        rcases List.mem_append.1 hq with hq | hq
        · exact h1.loose q hq
        · obtain rfl := List.mem_singleton.1 hq
          exact h2⟩)
      have HSe := Lib.hid (show (⟨X.F.l, X.L.map (·.l) ++ [p.l], (X.s.asked X.long p.n).1.fuse, (X.s.asked X.long p.n).1.fault, (X.s.asked X.long p.n).1.off⟩ : FileS) = { (X.s.asked X.long p.n).1 with loose := X.s.loose ++ [p.l] } by
        obtain ⟨e1, e2⟩ := asked_same X.s X.long p.n
        generalize X.s.asked X.long p.n = q at *
        obtain ⟨⟨q0, q1, q2, q3, q4⟩, q5⟩ := q
        cases e1
        rfl)
      generalize X.s.asked X.long p.n = q at *
      clear HL HP HN hV4 h54 hq4 hr4 hp4 hs4 hs3 hww hcf hmf hg4 hL4 hb5 hb6 hb4 hb3 h0 h1 hpl f0' f1' f2' f3' f4' hpc' hs2 HS HV2 HO2 hl hln q2 q3 hown
      go_wp2
      refine bodyPost_ret (v := .tuple #[.agg #[.slice X.F.A X.F.n X.F.c, .slice A' (X.ln + 1) c', .int .i64 q.1.fuse, .int .i64 q.1.fault, .bool q.1.off], .int .i64 0]) ?_ rfl ⟨_, by rw [HO3.out]; rfl, by rw [HO3.out]; refine Eq.trans ?_ HSe.out; unfold FileT.s; rw [List.map_append]; rfl, HLe.out, hbe, HAw.out⟩
      simp [results, Tryd.results38, go_sem, *]
end Go.Proofs.YtlknmpnjhbdlhaaDoor
/-
  A region that draws its order inside a round of a range over a function: walked as outside of it (its operations are the same there, but for 'defer'). No program in sight.
-/
namespace Go.Proofs.YtlknmpnjhbdlhaaDoor
open Go.RowKit
set_option linter.unusedVariables false

section
variable {P : Program} {n l : Nat} {Q : Exit → Act → World → Prop}
theorem wpIn_round {o : Oper} {a : Act} {w : World} {K : Act → World → Prop} (hd : ∀ c, o.op ≠ .defer c) (h : Oper.wp P o a w K Q) : Oper.wpIn (Fence.wide.inRound l) n P o a w K Q := by
  unfold Oper.wp at h
  unfold Oper.wpIn
  refine ⟨fun _ _ => trivial, ?_⟩
  rw [Oper.semAt_eq _ _ _ hd]
  generalize (execOp a.eval o).run P w = r at *
  cases r with
  | ok x w' =>
    cases x with
    | value v => exact h
    | skip => exact h
    | defer d => exact h
    | enter f args => exact ⟨(fun q => Bool.noConfusion q), CallsIn.inRound l (callsIn_wide.2 h)⟩
    | row row args => exact ⟨(fun q => Bool.noConfusion q), fun c cs _ => let ⟨v, w', r, s⟩ := h c cs; ⟨v, w', r, stepsIn_wide.2 s⟩⟩
    | _ => exact h.elim
  | halt x w' =>
    cases x with
    | panic v => exact h
    | _ => exact h.elim
theorem wpOpIn_round {ops : Array Oper} {i : Nat} {a : Act} {w : World} {K K' : Act → World → Prop} (hd : ∀ o ∈ ops, ∀ c, o.op ≠ .defer c) (hlo : ¬ LetsOut Q) (hK : ∀ a w, K a w → K' a w) (h : wpOp P ops Q i K a w) : wpOpIn (Fence.wide.inRound l) n P ops Q i K' a w := by
  have h := wpOp_mono hK h
  unfold wpOp at h
  unfold wpOpIn
  cases ho : ops[i]? with
  | none => rw [ho] at h; exact h
  | some o =>
    rw [ho] at h
    simp only at h ⊢
    split
    · rename_i hw
      rw [if_pos hw] at h
      rcases h with h | h
      · exact wpIn_round (hd o (Array.mem_of_getElem? ho)) h
      · exact (hlo h.2).elim
    · rename_i hw
      rw [if_neg hw] at h
      exact ⟨fun _ _ => trivial, h⟩
theorem wpAnyIn_round {md : Region.Mode} {ops : Array Oper} (hd : ∀ o ∈ ops, ∀ c, o.op ≠ .defer c) (hlo : ¬ LetsOut Q) :
    ∀ (fuel : Nat) (listed : Array Bool) (a : Act) (w : World), wpAny P md ops Q fuel listed a w → wpAnyIn (Fence.wide.inRound l) n P md ops Q fuel listed a w
  | 0, _, _, _, h => h
  | fuel + 1, _, _, _, h => ⟨h.1, fun i hi => wpOpIn_round hd hlo (fun a w h => wpAnyIn_round hd hlo fuel _ a w h) (h.2 i hi)⟩
/-- A region that draws, in a round. -/
theorem region_round {ops : Array Oper} {id : Nat} {a : Act} {w : World} {S : World → Prop} (hm : P.follows .mixedOrders = true) (hd : ∀ o ∈ ops, ∀ c, o.op ≠ .defer c) (hlo : ¬ LetsOut Q) (hS : S w.drew)
    (h : S w.drew → wpAnyH P .any ops Q S ops.size (Array.replicate ops.size false) a w.drew) : (Code.region id ops true).wpIn (Fence.wide.inRound l) n P Q a w :=
  wpIn_region_any hm (wpAnyIn_round hd hlo _ _ _ _ (wpAny_of_held _ _ _ _ (h hS)))
end
end Go.Proofs.YtlknmpnjhbdlhaaDoor
