/-
  Layer 10: the work of an Append: one piece more.
-/
import Derived.Test.YthoenmggjbojoaaFilAA
import Derived.Great.BuildSlice
namespace Go.Proofs.Ythoenmggjbojoaa
open Go.RowKit
set_option linter.unusedVariables false

section
variable {P : Program} {w : World} {o : Oper} {a : Act} {K : Act → World → Prop} {Q : Exit → Act → World → Prop}
theorem shows_new' (w : World) (C : Array Value) (t : TypeId) (m size : Nat) (hl : C.toList.length = m * size) : Shows (w.alloc (.cells C t)) (w.heap.size + 1) size (some ⟨w.heap.size, 0, none⟩) m C.toList :=
  ⟨hl, fun _ => ⟨w.heap.size, 0, rfl, by omega, fun j u hu => by rw [Nat.zero_add, World.cell?_alloc_new]; simpa using hu⟩⟩
/-- '[]T{x}'. -/
theorem step_row1' (t e : TypeId) (x : Operand) (ho : o.op = .buildSlice t 1 #[(0, x)]) (size : Nat) (i : TypeInfo) (z : Value) (ht : P.underlying t = some (.slice e)) (hi : P.info? e = some i) (hz : i.zero = some z) (hsize : i.size = size)
    (v : Value) (hx : a.eval x = v) (cells : Array Value) (hf : Instr.fill (fun q => some (q * size, size)) ((Array.range (1 * size)).map (z.cells[· % z.cells.size]!)) [(0, v)] = some cells) (hcs : cells.toList.length = 1 * size) (h0 : ¬ 1 * size = 0) (h24 : ¬ 1 * size > 2 ^ 24)
    (h : ∀ g w', w.heap.size ≤ g → Shows w' (g + 1) size (some ⟨g, 0, none⟩) 1 cells.toList → g + 1 ≤ w'.heap.size → Below w.heap.size w w' → K (a.put o.dst (.slice (some ⟨g, 0, none⟩) 1 1)) w') : o.wp P a w K Q := by
  refine wp_buildSlice t e 1 #[(0, x)] ho cells i z ht hi hz (by rw [hsize]; exact h24) (by rw [hsize]; exact h0) (by rw [hsize]; simpa [hx] using hf) ?_
  exact h w.heap.size (w.alloc (.cells cells e)) (Nat.le_refl _) (shows_new' w cells e 1 size hcs) (by rw [World.size_alloc]; exact Nat.le_refl _) ((Below.refl _ _).alloc (Nat.le_refl _) _)
/-- append of a row onto a slice that has no room: a new row. -/
theorem step_appF (s x : Operand) (t : TypeId) (ho : o.op = .call { callee := .builtin .append, args := #[s, x], argTypes := #[t, t] })
    (base : Nat) (e : TypeId) (i : TypeInfo) (z : Value) (size bytes : Nat) (ht : P.underlying t = some (.slice e)) (hi : P.info? e = some i) (hz : i.zero = some z)
    (hsize : i.size = size) (hby : i.bytes = bytes) (hzs : z.cells.size = size) (hsz : 0 < size)
    (B : Nat) (A : Option Addr) (n : Nat) (xs : List Value) (hs : a.eval s = .slice A n n) (hxs : Shows w B size A n xs)
    {B2 g m : Nat} {news : List Value} {c : Nat} (hr : Shows w B2 size (some ⟨g, 0, none⟩) (m + 1) news) (h1 : ∀ u ∈ news, u.oneCell' = true) (hx : a.eval x = .slice (some ⟨g, 0, none⟩) (m + 1) c)
    (h63 : n + (m + 1) ≤ maxLen) (hbytes : (n + (m + 1)) * bytes ≤ 140737488355328) (hbase : base ≤ w.heap.size)
    (h : ∀ A' c' w', w'.ownsRow base e size (.slice A' (n + (m + 1)) c') (n + (m + 1)) (xs ++ news) → Below w.heap.size w w' → K (a.put o.dst (.slice A' (n + (m + 1)) c')) w') : o.wp P a w K Q := by
  rcases A with _ | ⟨b, off, sp⟩
  · have h0 : n = 0 := by
      rcases Nat.eq_zero_or_pos n with h0 | h0
      · exact h0
      · obtain ⟨_, _, h, _⟩ := hxs.2 h0
        cases h
    subst h0
    obtain rfl : xs = [] := List.eq_nil_of_length_eq_zero (by simpa using hxs.1)
    refine wp_append_shows w s x t ho base e i z size bytes ht hi hz hsize hby hzs hsz (.slice none 0 0) 0 [] hs (World.ownsRow_nil _ _ _ _) B2 _ (m + 1) c news hx hr h1 h63 hbytes hbase ?_
    intro A' c' w' ho' hg hB
    exact h A' c' w' ho' ⟨hg.os, hg.tape, hg.output, hg.size, fun k hk => hg.block k hk (by simp [Value.ownBlock])⟩
  · have hold : ∀ j u, xs[j]? = some u → w.cell? ((⟨b, off, sp⟩ : Addr).add j) = some u := by
      intro j u hu
      have hn : 0 < n := by
        rcases Nat.eq_zero_or_pos n with h0 | h0
        · subst h0
          obtain rfl : xs = [] := List.eq_nil_of_length_eq_zero (by simpa using hxs.1)
          simp at hu
        · exact h0
      obtain ⟨b', off', e', _, hc⟩ := hxs.2 hn
      obtain ⟨rfl, rfl, rfl⟩ : b = b' ∧ off = off' ∧ sp = none := by simpa using e'
      rw [addr_add]
      exact hc j u hu
    obtain ⟨b', off', e', _, hc⟩ := hr.2 (by omega)
    obtain ⟨rfl, rfl⟩ : g = b' ∧ 0 = off' := by simpa using e'
    obtain ⟨v', w', hrun, r1, r2⟩ := run_append_arg_grows (P := P) w t o.type e i z size bytes ht hi hz hsize hby hzs hsz ⟨b, off, sp⟩ n n xs hxs.1 hold ⟨g, 0, none⟩ (m + 1) c news hr.1 (fun j u hu => by rw [addr_add]; exact hc j u hu) (by omega) h63 hbytes
    unfold Oper.wp
    simp only [execOp, ho, resolve, invoke, builtin, hs, hx, hrun, Sem.run_bind, Sem.run_pure, Result.andThen_ok, List.map_toArray, List.map_cons, List.map_nil]
    have r1' : w'.ownsRow base e size v' (n + (m + 1)) (xs ++ news) := own_base r1 hbase
    obtain ⟨A', c', rfl, _, _⟩ := own_form r1'
    exact h A' c' w' r1' ⟨r2.os, r2.tape, r2.output, r2.size, fun k hk => r2.block k hk (by simp)⟩
end
/-- All blocks but one are as they were, and those below. -/
structure SAg (g B : Nat) (w W : World) : Prop where
  o : OnlyG g w W
  b : Below B w W
  s : B ≤ w.heap.size
theorem SAg.cell {g B : Nat} {w W : World} (h : SAg g B w W) {k i : Nat} (hk : k < w.heap.size) (hne : k ≠ g) : W.cell? ⟨k, i, none⟩ = w.cell? ⟨k, i, none⟩ := World.cell?_of_block (h.o k hk hne)
theorem SAg.next {g B : Nat} {w W W' : World} (h : SAg g B w W) (hb : Below W.heap.size W W') : SAg g B w W' := ⟨h.o.next h.b.size hb, h.b.trans (hb.mono (Nat.le_trans h.s h.b.size)), h.s⟩
theorem SAg.set {g B i : Nat} {w W : World} {v u : Value} (h : SAg g B w W) (hc : W.cell? ⟨g, i, none⟩ = some u) (hB : B ≤ g) : SAg g B w (W.setCell ⟨g, i, none⟩ v) := ⟨h.o.set i v, h.b.setCell hB v, h.s⟩
theorem slice_info : ∃ i, Try.prog.info? 22 = some i ∧ i.zero = some (.slice none 0 0) ∧ i.size = 1 ∧ i.bytes = 24 := ⟨Try.t22, by kernel_rfl, by kernel_rfl, by kernel_rfl, by kernel_rfl⟩
theorem fill_p {A : Option Addr} {n c : Nat} : Instr.fill (fun q => some (q * 1, 1)) ((Array.range (1 * 1)).map ((Value.slice none 0 0).cells[· % (Value.slice none 0 0).cells.size]!)) [(0, .slice A n c)] = some #[.slice A n c] := by
  have e : Array.range (1 * 1) = #[0] := by first | rfl | decide
  rw [e]
  simp [Instr.fill, Value.cells]
set_option maxRecDepth 20000 in
set_option maxHeartbeats 4000000 in
theorem work1_any (g b1 b3 B D n lc bn bc : Nat) (A bA : Option Addr) (L : List Value) (fa fu fl : Value) (J : Ending → World → Prop) (w : World)
    (hV : FVar w g fa (.slice A n lc) fu fl (.bool false)) (h1 : w.cell? ⟨b1, 0, none⟩ = some (.pointer (some ⟨g, 0, none⟩))) (h3 : w.cell? ⟨b3, 0, none⟩ = some (.slice bA bn bc))
    (hg1 : b1 ≠ g) (hg3 : b3 ≠ g) (hBg : B ≤ g) (hBW : B ≤ w.heap.size) (hWs : D ≤ w.heap.size) (hRow : Shows w B 1 A n L) (hnl : n ≤ lc) (hn6 : n ≤ 600000) (hbn : bn ≤ bc) (hbm : bn ≤ maxLen)
    (hEnd : ∀ A' c' W, W.ownsRow D 22 1 (.slice A' (n + 1) c') (n + 1) (L ++ [.slice bA bn bn]) → Below w.heap.size w W → FVar W g fa (.slice A n lc) fu fl (.bool false) → J (.returned (.tuple #[])) (W.setCell ⟨g, 1, none⟩ (.slice A' (n + 1) c'))) :
    Calls Try.prog 49 #[.pointer (some ⟨b1, 0, none⟩), .pointer (some ⟨b3, 0, none⟩)] w J := by
  obtain ⟨iP, hiP, hzP, hsP, hbP⟩ := slice_info
  have hl1 := World.block_lt_of_cell? w _ h1
  have hl3 := World.block_lt_of_cell? w _ h3
  have hn : n + (0 + 1) ≤ maxLen := by unfold maxLen; omega
  unfold maxLen at hbm
  have x1 : ∀ W, SAg g B w W → W.cell? ⟨b1, 0, none⟩ = some (.pointer (some ⟨g, 0, none⟩)) := fun W h => (h.cell hl1 hg1).trans h1
  have x3 : ∀ W, SAg g B w W → W.cell? ⟨b3, 0, none⟩ = some (.slice bA bn bc) := fun W h => (h.cell hl3 hg3).trans h3
  have xV : ∀ W, Below w.heap.size w W → FVar W g fa (.slice A n lc) fu fl (.bool false) := fun W h => hV.later h
  obtain ⟨⟨v0, v1, v2, v3, v4⟩, -⟩ := hV
  have i1 : (0 : Int) ≤ (n : Int) := by omega
  have i2 : (n : Int) ≤ (lc : Int) := by omega
  have i3 : (0 : Int) ≤ (bn : Int) := by omega
  have i4 : (bn : Int) ≤ (bc : Int) := by omega
  have HS0 : SAg g B w (w.drewN 1) := ⟨fun k hk _ => rfl, below_drewN (Below.refl _ _) 1, hBW⟩
  have hbw : Below w.heap.size w (w.drewN 1) := below_drewN (Below.refl _ _) 1
  go_enter Try.func49, Try.ntmps49
  go_upto_region 1 with fail
  clear v0 v2 v3 v4 h1 h3
  refine wp_region_held_drew (S := fun W => SAg g B w W) (by kernel_rfl) HS0 (fun hHeld => ?_)
  refine rg_in 0 rfl (by kernel_rfl) (by kernel_rfl) (by kernel_rfl) (by rfl) (v := ?_) (fun _ _ _ h => h) hHeld (fun w hSw => ?_) ?_
  rotate_left
  · (try dsimp only at hSw); go_simp <;> (with_reducible rfl)
  (try simp only [Act.put, List.setIfInBounds_toArray, List.set_cons_zero, List.set_cons_succ])
  refine rg_in 1 rfl (by kernel_rfl) (by kernel_rfl) (by kernel_rfl) (by rfl) (v := ?_) (fun _ _ _ h => h) hHeld (fun w hSw => ?_) ?_
  rotate_left
  · (try dsimp only at hSw); go_simp <;> (with_reducible rfl)
  (try simp only [Act.put, List.setIfInBounds_toArray, List.set_cons_zero, List.set_cons_succ])
  refine rg_in 2 rfl (by kernel_rfl) (by kernel_rfl) (by kernel_rfl) (by rfl) (v := ?_) (fun _ _ _ h => h) hHeld (fun w hSw => ?_) ?_
  rotate_left
  · (try dsimp only at hSw); go_simp <;> (with_reducible rfl)
  (try simp only [Act.put, List.setIfInBounds_toArray, List.set_cons_zero, List.set_cons_succ])
  refine rg_in 3 rfl (by kernel_rfl) (by kernel_rfl) (by kernel_rfl) (by rfl) (v := ?_) (fun _ _ _ h => h) hHeld (fun w hSw => ?_) ?_
  rotate_left
  · (try dsimp only at hSw); go_simp <;> (with_reducible rfl)
  (try simp only [Act.put, List.setIfInBounds_toArray, List.set_cons_zero, List.set_cons_succ])
  refine rg_in 4 rfl (by kernel_rfl) (by kernel_rfl) (by kernel_rfl) (by rfl) (v := ?_) (fun _ _ _ h => h) hHeld (fun w hSw => ?_) ?_
  rotate_left
  · (try dsimp only at hSw); go_simp <;> (with_reducible rfl)
  (try simp only [Act.put, List.setIfInBounds_toArray, List.set_cons_zero, List.set_cons_succ])
  refine rg_in 6 rfl (by kernel_rfl) (by kernel_rfl) (by kernel_rfl) (by rfl) (v := ?_) (fun _ _ _ h => h) hHeld (fun w hSw => ?_) ?_
  rotate_left
  · (try dsimp only at hSw); go_simp <;> (with_reducible rfl)
  (try simp only [Act.put, List.setIfInBounds_toArray, List.set_cons_zero, List.set_cons_succ])
  refine rg_in 7 rfl (by kernel_rfl) (by kernel_rfl) (by kernel_rfl) (by rfl) (v := ?_) (fun _ _ _ h => h) hHeld (fun w hSw => ?_) ?_
  rotate_left
  · (try dsimp only at hSw); go_simp <;> (with_reducible rfl)
  (try simp only [Act.put, List.setIfInBounds_toArray, List.set_cons_zero, List.set_cons_succ])
  refine rg_in 9 rfl (by kernel_rfl) (by kernel_rfl) (by kernel_rfl) (by rfl) (v := ?_) (fun _ _ _ h => h) hHeld (fun w hSw => ?_) ?_
  rotate_left
  · (try dsimp only at hSw); go_simp <;> (with_reducible rfl)
  (try simp only [Act.put, List.setIfInBounds_toArray, List.set_cons_zero, List.set_cons_succ])
  refine rg_in 10 rfl (by kernel_rfl) (by kernel_rfl) (by kernel_rfl) (by rfl) (v := ?_) (fun _ _ _ h => h) hHeld (fun w hSw => ?_) ?_
  rotate_left
  · (try dsimp only at hSw); go_simp <;> (with_reducible rfl)
  (try simp only [Act.put, List.setIfInBounds_toArray, List.set_cons_zero, List.set_cons_succ])
  refine rg_in 11 rfl (by kernel_rfl) (by kernel_rfl) (by kernel_rfl) (by rfl) (v := ?_) (fun _ _ _ h => h) hHeld (fun w hSw => ?_) ?_
  rotate_left
  · (try dsimp only at hSw); go_simp <;> (with_reducible rfl)
  (try simp only [Act.put, List.setIfInBounds_toArray, List.set_cons_zero, List.set_cons_succ])
  refine rg_in 12 rfl (by kernel_rfl) (by kernel_rfl) (by kernel_rfl) (by rfl) (v := ?_) (fun _ _ _ h => h) hHeld (fun w hSw => ?_) ?_
  rotate_left
  · (try dsimp only at hSw); go_simp <;> (with_reducible rfl)
  (try simp only [Act.put, List.setIfInBounds_toArray, List.set_cons_zero, List.set_cons_succ])
  refine rg_in 13 rfl (by kernel_rfl) (by kernel_rfl) (by kernel_rfl) (by rfl) (v := ?_) (fun _ _ _ h => h) hHeld (fun w hSw => ?_) ?_
  rotate_left
  · (try dsimp only at hSw); go_simp <;> (with_reducible rfl)
  (try simp only [Act.put, List.setIfInBounds_toArray, List.set_cons_zero, List.set_cons_succ])
  refine rg_in 14 rfl (by kernel_rfl) (by kernel_rfl) (by kernel_rfl) (by rfl) (v := ?_) (fun _ _ _ h => h) hHeld (fun w hSw => ?_) ?_
  rotate_left
  · (try dsimp only at hSw); go_simp <;> (with_reducible rfl)
  (try simp only [Act.put, List.setIfInBounds_toArray, List.set_cons_zero, List.set_cons_succ])
  refine wpAnyH_ready (rs := [5, 15]) (by kernel_rfl) (by simp) ?_
  refine rg_cons rfl (by rfl) (fun K hK => ?_) ?_
  · have hcl := (xV _ hbw).1.2.1
    go_simp
    clear hcl
    refine hK.out _ _ hHeld (fun hHeld => ?_)
    clear hK K
    (try simp only [Act.put, List.setIfInBounds_toArray, List.set_cons_zero, List.set_cons_succ])
    refine rg_in 8 rfl (by kernel_rfl) (by kernel_rfl) (by kernel_rfl) (by rfl) (v := ?_) (fun _ _ _ h => h) hHeld (fun w hSw => ?_) ?_
    rotate_left
    · (try dsimp only at hSw); go_simp <;> (with_reducible rfl)
    (try simp only [Act.put, List.setIfInBounds_toArray, List.set_cons_zero, List.set_cons_succ])
    refine rg_do 15 rfl (by kernel_rfl) (by rfl) (fun K hK => ?_)
    refine step_row1' 23 22 _ rfl 1 iP (.slice none 0 0) Try.underlying23 hiP hzP hsP (.slice bA bn bn) rfl #[.slice bA bn bn] fill_p rfl (by decide) (by decide) ?_
    intro g115 w115 hge15 sh15 hl15 hb15
    refine hK.out _ _ (SAg.next hHeld hb15) (fun hHeld => ?_)
    clear hK K
    (try simp only [Act.put, List.setIfInBounds_toArray, List.set_cons_zero, List.set_cons_succ])
    refine rg_do 16 rfl (by kernel_rfl) (by rfl) (fun K hK => ?_)
    refine step_appF _ _ 23 rfl D 22 iP (.slice none 0 0) 1 24 Try.underlying23 hiP hzP hsP hbP rfl (by decide) B A n L rfl (hRow.below ((bel_next hbw hb15).mono hBW)) (sh15.below ((Below.refl _ _).mono hl15)) (by intro u hu; rcases List.mem_singleton.1 hu with rfl; rfl) rfl hn (by omega) (Nat.le_trans hWs (bel_next hbw hb15).size) ?_
    intro A116 c116 w116 own16 hb16
    refine hK.out _ _ (SAg.next hHeld hb16) (fun hHeld => ?_)
    clear hK K
    (try simp only [Act.put, List.setIfInBounds_toArray, List.set_cons_zero, List.set_cons_succ])
    refine rg_in 17 rfl (by kernel_rfl) (by kernel_rfl) (by kernel_rfl) (by rfl) (v := ?_) (fun _ _ _ h => h) hHeld (fun w hSw => ?_) ?_
    rotate_left
    · (try dsimp only at hSw); go_simp <;> (with_reducible rfl)
    (try simp only [Act.put, List.setIfInBounds_toArray, List.set_cons_zero, List.set_cons_succ])
    refine rg_in 18 rfl (by kernel_rfl) (by kernel_rfl) (by kernel_rfl) (by rfl) (v := ?_) (fun _ _ _ h => h) hHeld (fun w hSw => ?_) ?_
    rotate_left
    · (try dsimp only at hSw); go_simp <;> (with_reducible rfl)
    (try simp only [Act.put, List.setIfInBounds_toArray, List.set_cons_zero, List.set_cons_succ])
    refine rg_in 19 rfl (by kernel_rfl) (by kernel_rfl) (by kernel_rfl) (by rfl) (v := ?_) (fun _ _ _ h => h) hHeld (fun w hSw => ?_) ?_
    rotate_left
    · (try dsimp only at hSw); go_simp <;> (with_reducible rfl)
    (try simp only [Act.put, List.setIfInBounds_toArray, List.set_cons_zero, List.set_cons_succ])
    refine rg_do 20 rfl (by kernel_rfl) (by rfl) (fun K hK => ?_)
    have hV := xV _ (bel_next (bel_next hbw hb15) hb16)
    have hcl := hV.1.2.1
    have hcf := hV.2.2.1
    go_simp
    clear hcl hcf
    refine hK.out _ _ (SAg.set hHeld hV.1.2.1 hBg) (fun hHeld => ?_)
    clear hK K
    (try simp only [Act.put, List.setIfInBounds_toArray, List.set_cons_zero, List.set_cons_succ])
    refine wpAnyH_done (by kernel_rfl) ?_ _
    have hV2 := xV _ (bel_next (bel_next hbw hb15) hb16)
    have hbe := (bel_next (bel_next hbw hb15) hb16)
    clear x1 x3 xV hRow
    go_wp2
    go_end0
    exact hEnd _ _ _ own16 hbe hV2
  refine rg_cons rfl (by rfl) (fun K hK => ?_) ?_
  · refine step_row1' 23 22 _ rfl 1 iP (.slice none 0 0) Try.underlying23 hiP hzP hsP (.slice bA bn bn) rfl #[.slice bA bn bn] fill_p rfl (by decide) (by decide) ?_
    intro g115 w115 hge15 sh15 hl15 hb15
    refine hK.out _ _ (SAg.next hHeld hb15) (fun hHeld => ?_)
    clear hK K
    (try simp only [Act.put, List.setIfInBounds_toArray, List.set_cons_zero, List.set_cons_succ])
    refine rg_do 5 rfl (by kernel_rfl) (by rfl) (fun K hK => ?_)
    have hcl := (xV _ (bel_next hbw hb15)).1.2.1
    go_simp
    clear hcl
    refine hK.out _ _ hHeld (fun hHeld => ?_)
    clear hK K
    (try simp only [Act.put, List.setIfInBounds_toArray, List.set_cons_zero, List.set_cons_succ])
    refine rg_in 8 rfl (by kernel_rfl) (by kernel_rfl) (by kernel_rfl) (by rfl) (v := ?_) (fun _ _ _ h => h) hHeld (fun w hSw => ?_) ?_
    rotate_left
    · (try dsimp only at hSw); go_simp <;> (with_reducible rfl)
    (try simp only [Act.put, List.setIfInBounds_toArray, List.set_cons_zero, List.set_cons_succ])
    refine rg_do 16 rfl (by kernel_rfl) (by rfl) (fun K hK => ?_)
    refine step_appF _ _ 23 rfl D 22 iP (.slice none 0 0) 1 24 Try.underlying23 hiP hzP hsP hbP rfl (by decide) B A n L rfl (hRow.below ((bel_next hbw hb15).mono hBW)) (sh15.below ((Below.refl _ _).mono hl15)) (by intro u hu; rcases List.mem_singleton.1 hu with rfl; rfl) rfl hn (by omega) (Nat.le_trans hWs (bel_next hbw hb15).size) ?_
    intro A116 c116 w116 own16 hb16
    refine hK.out _ _ (SAg.next hHeld hb16) (fun hHeld => ?_)
    clear hK K
    (try simp only [Act.put, List.setIfInBounds_toArray, List.set_cons_zero, List.set_cons_succ])
    refine rg_in 17 rfl (by kernel_rfl) (by kernel_rfl) (by kernel_rfl) (by rfl) (v := ?_) (fun _ _ _ h => h) hHeld (fun w hSw => ?_) ?_
    rotate_left
    · (try dsimp only at hSw); go_simp <;> (with_reducible rfl)
    (try simp only [Act.put, List.setIfInBounds_toArray, List.set_cons_zero, List.set_cons_succ])
    refine rg_in 18 rfl (by kernel_rfl) (by kernel_rfl) (by kernel_rfl) (by rfl) (v := ?_) (fun _ _ _ h => h) hHeld (fun w hSw => ?_) ?_
    rotate_left
    · (try dsimp only at hSw); go_simp <;> (with_reducible rfl)
    (try simp only [Act.put, List.setIfInBounds_toArray, List.set_cons_zero, List.set_cons_succ])
    refine rg_in 19 rfl (by kernel_rfl) (by kernel_rfl) (by kernel_rfl) (by rfl) (v := ?_) (fun _ _ _ h => h) hHeld (fun w hSw => ?_) ?_
    rotate_left
    · (try dsimp only at hSw); go_simp <;> (with_reducible rfl)
    (try simp only [Act.put, List.setIfInBounds_toArray, List.set_cons_zero, List.set_cons_succ])
    refine rg_do 20 rfl (by kernel_rfl) (by rfl) (fun K hK => ?_)
    have hV := xV _ (bel_next (bel_next hbw hb15) hb16)
    have hcl := hV.1.2.1
    have hcf := hV.2.2.1
    go_simp
    clear hcl hcf
    refine hK.out _ _ (SAg.set hHeld hV.1.2.1 hBg) (fun hHeld => ?_)
    clear hK K
    (try simp only [Act.put, List.setIfInBounds_toArray, List.set_cons_zero, List.set_cons_succ])
    refine wpAnyH_done (by kernel_rfl) ?_ _
    have hV2 := xV _ (bel_next (bel_next hbw hb15) hb16)
    have hbe := (bel_next (bel_next hbw hb15) hb16)
    clear x1 x3 xV hRow
    go_wp2
    go_end0
    exact hEnd _ _ _ own16 hbe hV2
  exact AllReadyH.nil
end Go.Proofs.Ythoenmggjbojoaa
