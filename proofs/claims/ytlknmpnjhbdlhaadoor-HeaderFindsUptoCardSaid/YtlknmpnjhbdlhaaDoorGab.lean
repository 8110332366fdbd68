import Derived.Test.YtlknmpnjhbdlhaaDoorGaa
import Derived.OpenShut
import Derived.Deep.Strs
import Derived.Lib.SmallJoins
import Derived.WalkKit
import Derived.Test.YtlknmpnjhbdlhaaDoorRows
import Derived.Deep.QuietTactic
import Derived.BigQuiet
import Derived.BigRegion
import Derived.Lib.Hide
/-
  Layer 12: headers, blocks, steps, spots and losses that came in, opened.
-/
namespace Go.Proofs.YtlknmpnjhbdlhaaDoor
open Go.ChangeShapes Go.WideShapes Go.ChangeAt Go.RowKit Go.Deep
set_option linter.unusedVariables false

theorem natU64 {z : Int} (h : (Lit.int .u64 z).wf = true) : ∃ n : Nat, n < 18446744073709551616 ∧ z = (n : Int) := by
  obtain ⟨h0, h1⟩ := wf_u64 h
  exact ⟨z.toNat, by omega, by omega⟩
/-- A header's cells. -/
def headC (g : Nat) (a : Int) : List Value := [.int .u64 (g : Int), .int .i64 a]
/-- A spot. -/
structure SpotT where
  at' : Int
  byt : Int
  g : Nat
  a : Int
  x : UInt8
def SpotT.cells (s : SpotT) : List Value := [.int .i64 s.at', .int .i64 s.byt, .int .u64 (s.g : Int), .int .i64 s.a, bv s.x]
structure SpotT.Ok (s : SpotT) : Prop where
  at' : (Lit.int .i64 s.at').wf = true
  byt : (Lit.int .i64 s.byt).wf = true
  g : s.g < 18446744073709551616
  a : (Lit.int .i64 s.a).wf = true
/-- A step. -/
structure StepT where
  p : PcT
  g : Nat
  a : Int
def StepT.cells (s : StepT) : List Value := [s.p.val, .int .u64 (s.g : Int), .int .i64 s.a]
structure StepT.Ok (w : World) (B : Nat) (s : StepT) : Prop where
  p : s.p.Ok w B
  g : s.g < 18446744073709551616
  a : (Lit.int .i64 s.a).wf = true
theorem StepT.Ok.later {w w' : World} {B : Nat} {s : StepT} (h : s.Ok w B) (hb : Below B w w') : s.Ok w' B := ⟨h.p.later hb, h.g, h.a⟩
/-- A loss. -/
structure LossT where
  cut : Int
  lA : Option Addr
  ln : Nat
  lc : Nat
  L : List PcT
def LossT.agg (s : LossT) : Value := .agg #[.int .i64 s.cut, .slice s.lA s.ln s.lc]
structure LossT.Ok (w : World) (B : Nat) (s : LossT) : Prop where
  cut : (Lit.int .i64 s.cut).wf = true
  row : Shows w B 1 s.lA s.ln (s.L.map PcT.val)
  recs : ∀ p ∈ s.L, p.Ok w B
  nil : s.lA = none → s.lc = 0
  fits : s.ln ≤ s.lc
  most : s.lc ≤ maxLen

section
variable {H : Type} {enc : TypeId × Value → H} {P : Program} {w W : World} {base b0 : Nat} {spare : Nat → Bool} {held : Bool} {r : Reach} {t e : TypeId} {v : Value} {d : DataW H} {p : List MemPlace} {N : Nat}
variable {f0 f1 f2 f3 g0 g1 : Field} {eb ek : TypeId}
theorem trod_headC (ht : P.underlying t = some (.struct #[g0, g1])) (o0 : g0.offset = 0) (o1 : g1.offset = 1) (k0 : P.underlying g0.type = some (.int .u64)) (k1 : P.underlying g1.type = some (.int .i64)) (c0 : P.cellsOf g0.type = 1) (c1 : P.cellsOf g1.type = 1)
    {fuel : Nat} {x0 x1 : Value} {x : DataW H × List MemPlace} (h : DataW.trod enc P w base spare held fuel t [x0, x1] = some x) : ∃ (g : Nat) (a : Int), x0 = .int .u64 (g : Int) ∧ x1 = .int .i64 a ∧ g < 18446744073709551616 ∧ (Lit.int .i64 a).wf = true := by
  obtain ⟨y0, y1, m, _, _, hy0, hy1⟩ := trod_struct2 ht h
  rw [o0, c0] at hy0
  rw [o1, c1] at hy1
  obtain ⟨z0, e0, _, w0⟩ := DataW.trod_int k0 hy0
  obtain ⟨z1, e1, _, w1⟩ := DataW.trod_int k1 hy1
  simp at e0 e1
  subst e0 e1
  obtain ⟨g, hg, rfl⟩ := natU64 w0
  exact ⟨g, z1, rfl, rfl, hg, w1⟩
/-- A header that came in. -/
theorem came_head (ht : P.underlying t = some (.struct #[g0, g1])) (o0 : g0.offset = 0) (o1 : g1.offset = 1) (k0 : P.underlying g0.type = some (.int .u64)) (k1 : P.underlying g1.type = some (.int .i64)) (c0 : P.cellsOf g0.type = 1) (c1 : P.cellsOf g1.type = 1) (hct : P.cellsOf t = 2)
    (hv : Value.okWide P W r b0 t v) (h : DataW.Trod enc P w base spare held t v d p) : ∃ (g : Nat) (a : Int), v = .agg #[.int .u64 (g : Int), .int .i64 a] ∧ g < 18446744073709551616 ∧ (Lit.int .i64 a).wf = true := by
  obtain ⟨cs, rfl, hsz⟩ := okWide_struct ht hv
  rw [hct] at hsz
  obtain ⟨l⟩ := cs
  match l, hsz with
  | [x0, x1], _ =>
    obtain ⟨fuel, hf⟩ := h
    obtain ⟨g, a, rfl, rfl, h1, h2⟩ := trod_headC ht o0 o1 k0 k1 c0 c1 (by simpa [Value.cells] using hf)
    exact ⟨g, a, rfl, h1, h2⟩
/-- A block that came in. -/
theorem came_arrU8 {n : Nat} (ht : P.underlying t = some (.array n e)) (he : P.underlying e = some (.int .u8)) (hce : P.cellsOf e = 1) (hct : P.cellsOf t = n)
    (hv : Value.okWide P W r b0 t v) (h : DataW.Trod enc P w base spare held t v d p) : ∃ l : List UInt8, l.length = n ∧ v = .agg ⟨l.map bv⟩ := by
  obtain ⟨cs, rfl, hsz, _⟩ : ∃ cs, v = .agg cs ∧ cs.size = P.cellsOf t ∧ Row.okWide P W r b0 t cs := by
    simpa [Value.okWide, ht] using hv
  rw [hct] at hsz
  obtain ⟨l⟩ := cs
  obtain ⟨fuel, hf⟩ := h
  obtain ⟨xs, m, _, _, _, hxl, hx⟩ := DataW.trod_array ht (by simpa [Value.cells] using hf)
  rw [hce] at hx
  have hsz' : l.length = n := by simpa using hsz
  have key : ∀ i, i < n → ∃ b : UInt8, l[i]? = some (bv b) := by
    intro i hi
    have h1 := hx i hi
    rw [Nat.mul_one] at h1
    have hl1 : (l.drop i).take 1 = [l[i]'(by omega)] := by
      rw [List.drop_eq_getElem_cons (by omega)]
      rfl
    rw [hl1, List.getElem?_eq_getElem (show i < xs.length by omega)] at h1
    obtain ⟨z, hz, _, hw⟩ := DataW.trod_int he h1
    obtain ⟨b, hb⟩ := u8_of hw
    refine ⟨b, ?_⟩
    rw [List.getElem?_eq_getElem (show i < l.length by omega)]
    simp at hz
    rw [hz, hb]
  have all : ∀ (m : List Value), (∀ i, i < m.length → ∃ b : UInt8, m[i]? = some (bv b)) → ∃ q : List UInt8, m = q.map bv := by
    intro m
    induction m with
    | nil => intro _; exact ⟨[], rfl⟩
    | cons x m ih =>
      intro hm
      obtain ⟨b, hb⟩ := hm 0 (by simp)
      obtain ⟨q, hq⟩ := ih fun i hi => by
        obtain ⟨c, hc⟩ := hm (i + 1) (by simp; omega)
        exact ⟨c, by simpa using hc⟩
      simp at hb
      exact ⟨b :: q, by rw [hb, hq]; rfl⟩
  obtain ⟨q, hq⟩ := all l fun i hi => key i (by omega)
  refine ⟨q, ?_, by rw [hq]⟩
  have := congrArg List.length hq
  rw [List.length_map] at this
  omega
/-- Spots that came in. -/
theorem came_spotsN {A : Option Addr} {n c : Nat} (hu : P.underlying e = some (.slice t)) (ht : P.underlying t = some (.struct #[f0, f1, f2, f3])) (hC : P.cellsOf t = 5) (o0 : f0.offset = 0) (o1 : f1.offset = 1) (o2 : f2.offset = 2) (o3 : f3.offset = 4) (c0 : P.cellsOf f0.type = 1) (c1 : P.cellsOf f1.type = 1) (c2 : P.cellsOf f2.type = 2) (c3 : P.cellsOf f3.type = 1)
    (k0 : P.underlying f0.type = some (.int .i64)) (k1 : P.underlying f1.type = some (.int .i64)) (k3 : P.underlying f3.type = some (.int .u8))
    (k2 : P.underlying f2.type = some (.struct #[g0, g1])) (p0 : g0.offset = 0) (p1 : g1.offset = 1) (u0 : P.underlying g0.type = some (.int .u64)) (u1 : P.underlying g1.type = some (.int .i64)) (d0 : P.cellsOf g0.type = 1) (d1 : P.cellsOf g1.type = 1)
    (h : DataW.Trod enc P w base spare held e (.slice A n c) d p) (hN : Rows.uptoBulk d ≤ N) : ∃ l : List SpotT, Shows w w.heap.size 5 A n (l.flatMap SpotT.cells) ∧ (∀ x ∈ l, x.Ok) ∧ n ≤ N ∧ (A = none → c = 0) ∧ n ≤ c ∧ c ≤ maxLen := by
  obtain ⟨fuel, hf⟩ := h
  have hf' : DataW.trod enc P w base spare held fuel e [.slice A n c] = some (d, p) := by simpa [Value.cells] using hf
  obtain ⟨A', n', c', l, hcs, h2, h3, h4, h5, h6⟩ := open_rowsN SpotT.cells ⟨0, 0, 0, 0, 0⟩ 5 (by decide) (fun _ => rfl) (fun x => x.Ok) hu hC (fun n' cs' y _ hl' hy' hb' => by
    match cs', hl' with
    | [x0, x1, x2, x3, x4], _ =>
      obtain ⟨y0, y1, y2, y3, m, _, _, hy0, hy1, hy2, hy3⟩ := Go.Joins.trod_struct4 ht hy'
      rw [o0, c0] at hy0
      rw [o1, c1] at hy1
      rw [o2, c2] at hy2
      rw [o3, c3] at hy3
      obtain ⟨z0, e0, _, w0⟩ := DataW.trod_int k0 hy0
      obtain ⟨z1, e1, _, w1⟩ := DataW.trod_int k1 hy1
      obtain ⟨g, a, e2, e2', hg, ha⟩ := trod_headC k2 p0 p1 u0 u1 d0 d1 (by simpa using hy2)
      obtain ⟨z3, e3, _, w3⟩ := DataW.trod_int k3 hy3
      obtain ⟨b, hb⟩ := u8_of w3
      simp at e0 e1 e3
      subst e0 e1 e2 e2' e3
      exact ⟨⟨z0, z1, g, a, b⟩, by unfold SpotT.cells; rw [hb], ⟨w0, w1, hg, ha⟩⟩) hf' hN
  simp at hcs
  obtain ⟨rfl, rfl, rfl⟩ := hcs
  exact ⟨l, h2, h3, trod_lenN hu hf' hN, h4, h5, h6⟩
/-- Steps that came in. -/
theorem came_stepsN {A : Option Addr} {n c : Nat} (hu : P.underlying e = some (.slice t)) (ht : P.underlying t = some (.struct #[f0, f1])) (hC : P.cellsOf t = 3) (o0 : f0.offset = 0) (o1 : f1.offset = 1) (c0 : P.cellsOf f0.type = 1) (c1 : P.cellsOf f1.type = 2)
    (k0 : P.underlying f0.type = some (.slice eb)) (kb : P.underlying eb = some (.int .u8)) (cb : P.cellsOf eb = 1)
    (k2 : P.underlying f1.type = some (.struct #[g0, g1])) (p0 : g0.offset = 0) (p1 : g1.offset = 1) (u0 : P.underlying g0.type = some (.int .u64)) (u1 : P.underlying g1.type = some (.int .i64)) (d0 : P.cellsOf g0.type = 1) (d1 : P.cellsOf g1.type = 1)
    (h : DataW.Trod enc P w base spare held e (.slice A n c) d p) (hN : Rows.uptoBulk d ≤ N) : ∃ l : List StepT, Shows w w.heap.size 3 A n (l.flatMap StepT.cells) ∧ (∀ x ∈ l, x.Ok w w.heap.size) ∧ n ≤ N ∧ (A = none → c = 0) ∧ n ≤ c ∧ c ≤ maxLen := by
  obtain ⟨fuel, hf⟩ := h
  have hf' : DataW.trod enc P w base spare held fuel e [.slice A n c] = some (d, p) := by simpa [Value.cells] using hf
  obtain ⟨A', n', c', l, hcs, h2, h3, h4, h5, h6⟩ := open_rowsN StepT.cells ⟨⟨none, 0, 0, []⟩, 0, 0⟩ 3 (by decide) (fun _ => rfl) (fun x => x.Ok w w.heap.size) hu hC (fun n' cs' y _ hl' hy' hb' => by
    match cs', hl' with
    | [x0, x1, x2], _ =>
      obtain ⟨y0, y1, m, hy, _, hy0, hy1⟩ := trod_struct2 ht hy'
      rw [o0, c0] at hy0
      rw [o1, c1] at hy1
      rw [hy] at hb'
      obtain ⟨F, e0, hF, nF⟩ := trod_pieceN k0 kb cb hy0 (Nat.le_trans (blk_agg (by simp)) hb')
      obtain ⟨g, a, e2, e2', hg, ha⟩ := trod_headC k2 p0 p1 u0 u1 d0 d1 (by simpa using hy1)
      simp at e0
      subst e0 e2 e2'
      exact ⟨⟨F, g, a⟩, rfl, ⟨hF, hg, ha⟩⟩) hf' hN
  simp at hcs
  obtain ⟨rfl, rfl, rfl⟩ := hcs
  exact ⟨l, h2, h3, trod_lenN hu hf' hN, h4, h5, h6⟩
/-- A loss that came in. -/
theorem came_lossN (ht : P.underlying t = some (.struct #[f0, f1])) (o0 : f0.offset = 0) (o1 : f1.offset = 1) (c0 : P.cellsOf f0.type = 1) (c1 : P.cellsOf f1.type = 1) (hct : P.cellsOf t = 2)
    (k0 : P.underlying f0.type = some (.int .i64)) (k1 : P.underlying f1.type = some (.slice eb)) (kb : P.underlying eb = some (.slice ek)) (cb : P.cellsOf eb = 1) (kk : P.underlying ek = some (.int .u8)) (ck : P.cellsOf ek = 1)
    (hv : Value.okWide P W r b0 t v) (h : DataW.Trod enc P w base spare held t v d p) (hN : Rows.uptoBulk d ≤ N) : ∃ s : LossT, v = s.agg ∧ s.Ok w w.heap.size := by
  obtain ⟨cs, rfl, hsz⟩ := okWide_struct ht hv
  rw [hct] at hsz
  obtain ⟨l⟩ := cs
  match l, hsz with
  | [x0, x1], _ =>
    obtain ⟨fuel, hf⟩ := h
    obtain ⟨y0, y1, m, hy, _, hy0, hy1⟩ := trod_struct2 ht (by simpa [Value.cells] using hf)
    rw [o0, c0] at hy0
    rw [o1, c1] at hy1
    obtain ⟨z0, e0, _, w0⟩ := DataW.trod_int k0 hy0
    have hb1 : Rows.uptoBulk y1.1 ≤ N := by
      have hd : d = _ := (Prod.ext_iff.1 hy).1
      rw [hd] at hN
      exact Nat.le_trans (blk_agg (by simp)) hN
    obtain ⟨A, n, c, L, e1, hS, hok, h1, h2, h3⟩ := open_rowsN (fun p : PcT => [p.val]) ⟨none, 0, 0, []⟩ 1 (by decide) (fun _ => rfl) (fun p => p.Ok w w.heap.size) k1 cb (fun n' cs' y _ hl' hy' hb' => by
      obtain ⟨q, hq, hqo, _⟩ := trod_pieceN kb kk ck hy' hb'
      exact ⟨q, hq, hqo⟩) hy1 hb1
    rw [flat_one PcT.val] at hS
    simp at e0 e1
    subst e0 e1
    exact ⟨⟨z0, A, n, c, L⟩, rfl, ⟨w0, hS, hok, h1, h2, h3⟩⟩
end
end Go.Proofs.YtlknmpnjhbdlhaaDoor
/-
  The mathematics of the checksum: a register of 32 bits that consumes bits, over the natural numbers. No program in sight.
-/
namespace Go.Proofs.YtlknmpnjhbdlhaaDoor.Crc

def pol : Nat := 2197175160
/-- A zero bit is consumed. -/
def st (s : Nat) : Nat := if s % 2 = 1 then (s / 2) ^^^ pol else s / 2
/-- A bit x is consumed. -/
def bit (s x : Nat) : Nat := if s % 2 = x then s / 2 else (s / 2) ^^^ pol
def stN : Nat → Nat → Nat
  | 0, s => s
  | n + 1, s => stN n (st s)

theorem xor_half (a b : Nat) : (a ^^^ b) / 2 = a / 2 ^^^ b / 2 := by
  have h := Nat.shiftRight_xor_distrib (a := a) (b := b) (i := 1)
  simpa [Nat.shiftRight_eq_div_pow] using h
theorem xor_16 (a b : Nat) : (a ^^^ b) / 16 = a / 16 ^^^ b / 16 := by
  have h := Nat.shiftRight_xor_distrib (a := a) (b := b) (i := 4)
  simpa [Nat.shiftRight_eq_div_pow] using h
theorem xor_odd (a b : Nat) : (a ^^^ b) % 2 = (a + b) % 2 := by
  have h := Nat.xor_mod_two_pow (a := a) (b := b) (n := 1)
  simp only [Nat.pow_one] at h
  rw [h]
  rcases Nat.mod_two_eq_zero_or_one a with ha | ha <;> rcases Nat.mod_two_eq_zero_or_one b with hb | hb <;> rw [ha, hb] <;> first | (show 0 = _; omega) | (show 1 = _; omega)
theorem xor_swap (a b c d : Nat) : (a ^^^ b) ^^^ (c ^^^ d) = (a ^^^ c) ^^^ (b ^^^ d) := by
  rw [Nat.xor_assoc, ← Nat.xor_assoc b c d, Nat.xor_comm b c, Nat.xor_assoc c b d, ← Nat.xor_assoc]
theorem st_xor (a b : Nat) : st (a ^^^ b) = st a ^^^ st b := by
  unfold st
  rw [xor_half, xor_odd]
  rcases Nat.mod_two_eq_zero_or_one a with ha | ha <;> rcases Nat.mod_two_eq_zero_or_one b with hb | hb
  · rw [if_neg (by omega), if_neg (by omega), if_neg (by omega)]
  · rw [if_pos (by omega), if_neg (by omega), if_pos (by omega), Nat.xor_assoc]
  · rw [if_pos (by omega), if_pos (by omega), if_neg (by omega), Nat.xor_assoc, Nat.xor_comm (b / 2) pol, ← Nat.xor_assoc]
  · rw [if_neg (by omega), if_pos (by omega), if_pos (by omega), xor_swap, Nat.xor_self, Nat.xor_zero]
theorem st_lt {s : Nat} (h : s < 4294967296) : st s < 4294967296 := by
  unfold st
  split
  · exact Nat.xor_lt_two_pow (n := 32) (by omega) (by decide)
  · omega
theorem st_double (s : Nat) : st (2 * s) = s := by
  unfold st
  rw [if_neg (by omega)]
  omega
theorem bit_st (s c : Nat) : bit s (c % 2) ^^^ (c / 2) = st (s ^^^ c) := by
  unfold st bit
  rw [xor_half, xor_odd]
  by_cases h : s % 2 = c % 2
  · rw [if_pos h, if_neg (by omega)]
  · rw [if_neg h, if_pos (by omega), Nat.xor_assoc, Nat.xor_comm pol, ← Nat.xor_assoc]
theorem bit_lt {s : Nat} (x : Nat) (h : s < 4294967296) : bit s x < 4294967296 := by
  unfold bit
  split
  · omega
  · exact Nat.xor_lt_two_pow (n := 32) (by omega) (by decide)
theorem stN_xor (n : Nat) : ∀ a b : Nat, stN n (a ^^^ b) = stN n a ^^^ stN n b := by
  induction n with
  | zero => intro a b; rfl
  | succ n ih => intro a b; show stN n (st (a ^^^ b)) = _; rw [st_xor, ih]; rfl
theorem stN_lt (n : Nat) : ∀ {s : Nat}, s < 4294967296 → stN n s < 4294967296 := by
  induction n with
  | zero => intro s h; exact h
  | succ n ih => intro s h; exact ih (st_lt h)
theorem stN_add (m n : Nat) : ∀ s, stN (m + n) s = stN n (stN m s) := by
  induction m with
  | zero => intro s; rw [Nat.zero_add]; rfl
  | succ m ih => intro s; rw [show m + 1 + n = (m + n) + 1 by omega]; exact ih (st s)
theorem stN_succ (n s : Nat) : stN (n + 1) s = st (stN n s) := by rw [stN_add]; rfl
theorem stN_zero (n : Nat) : stN n 0 = 0 := by
  induction n with
  | zero => rfl
  | succ n ih => exact ih
theorem stN_pow (k : Nat) : ∀ s, stN k (2 ^ k * s) = s := by
  induction k with
  | zero => intro s; show 1 * s = s; omega
  | succ k ih => intro s; show stN k (st (2 ^ (k + 1) * s)) = s; rw [show 2 ^ (k + 1) * s = 2 * (2 ^ k * s) by rw [Nat.pow_succ, Nat.mul_comm (2 ^ k) 2, Nat.mul_assoc], st_double, ih]

/-- What four zero bits make of the lowest four. -/
def tab : List Nat := [0, 274646895, 549293790, 820201905, 1098587580, 1361435347, 1640403810, 1905808397, 2197175160, 2460548119, 2722870694, 2987750089, 3280807620, 3553878443, 3811616794, 4084100981]
def tb (i : Nat) : Nat := tab.getD i 0
theorem tb_st (i : Nat) (h : i < 16) : tb i = stN 4 i := by
  have : ∀ i < 16, tb i = stN 4 i := by decide
  exact this i h
theorem tb_lt (i : Nat) (h : i < 16) : tb i < 4294967296 := by rw [tb_st i h]; exact stN_lt 4 (by omega)
theorem split16 (u : Nat) : u = 2 ^ 4 * (u / 16) ^^^ u % 16 := by
  have h1 : 2 ^ 4 * (u / 16) ^^^ u % 16 = 2 ^ 4 * (u / 16) + u % 16 := by
    apply Nat.eq_of_testBit_eq
    intro i
    rw [Nat.testBit_xor, Nat.testBit_two_pow_mul_add _ (by omega), Nat.testBit_two_pow_mul]
    by_cases hi : i < 4
    · rw [if_pos hi, decide_eq_false (by omega)]; simp
    · rw [if_neg hi, decide_eq_true (by omega : i ≥ 4), Nat.testBit_lt_two_pow (x := u % 16) (i := i) (by have := Nat.pow_le_pow_right (n := 2) (by decide) (show 4 ≤ i by omega); omega)]
      simp
  rw [h1]; omega
theorem stN4 (u : Nat) : stN 4 u = u / 16 ^^^ tb (u % 16) := by
  conv => lhs; rw [split16 u]
  rw [stN_xor, stN_pow 4, tb_st _ (by omega)]
/-- A quarter of two bytes. -/
def quarter (s x : Nat) : Nat := s / 16 ^^^ tb ((s ^^^ x) % 16)
theorem quarter_st (s x : Nat) : quarter s x = stN 4 (s ^^^ x % 16) := by
  rw [stN4, xor_16, show x % 16 / 16 = 0 by omega, Nat.xor_zero]
  unfold quarter
  have h1 := Nat.xor_mod_two_pow (a := s) (b := x) (n := 4)
  have h2 := Nat.xor_mod_two_pow (a := s) (b := x % 16) (n := 4)
  simp only [Nat.reducePow] at h1 h2
  rw [h1, h2, Nat.mod_mod]
theorem quarter_lt {s : Nat} (x : Nat) (h : s < 4294967296) : quarter s x < 4294967296 := by
  rw [quarter_st]; exact stN_lt 4 (Nat.xor_lt_two_pow (n := 32) h (by omega))
/-- A byte is consumed. -/
def eat (s : Nat) (c : UInt8) : Nat := stN 8 (s ^^^ c.toNat)
theorem eat_lt {s : Nat} (c : UInt8) (h : s < 4294967296) : eat s c < 4294967296 := stN_lt 8 (Nat.xor_lt_two_pow (n := 32) h (by have := c.toNat_lt; omega))
theorem quarters (s : Nat) (c : UInt8) : quarter (quarter s c.toNat) (c.toNat / 16) = eat s c := by
  have hc := c.toNat_lt
  unfold eat
  rw [quarter_st, quarter_st, show c.toNat / 16 % 16 = c.toNat / 16 by omega, stN_add 4 4]
  conv => rhs; rw [split16 c.toNat]
  rw [Nat.xor_comm (2 ^ 4 * _), ← Nat.xor_assoc, stN_xor 4 (s ^^^ c.toNat % 16), stN_pow 4]
def take (s : Nat) (l : List UInt8) : Nat := l.foldl eat s
theorem take_lt (l : List UInt8) : ∀ {s : Nat}, s < 4294967296 → take s l < 4294967296 := by
  induction l with
  | nil => intro s h; exact h
  | cons c l ih => intro s h; exact ih (eat_lt c h)
theorem take_append (s : Nat) (l m : List UInt8) : take s (l ++ m) = take (take s l) m := List.foldl_append
theorem take_one (s : Nat) (c : UInt8) : take s [c] = eat s c := by unfold take; rw [List.foldl_cons, List.foldl_nil]
/-- A sum that goes on. -/
def more (s : Nat) (l : List UInt8) : Nat := 4294967295 - take (4294967295 - s) l
theorem more_lt (s : Nat) (l : List UInt8) : more s l < 4294967296 := Nat.lt_of_le_of_lt (Nat.sub_le _ _) (by decide)
def laid (s : Nat) : List UInt8 := [UInt8.ofNat s, UInt8.ofNat (s / 256), UInt8.ofNat (s / 65536), UInt8.ofNat (s / 16777216)]

/-- The complement is an exclusive or. -/
theorem comp (s : Nat) (h : s < 4294967296) : 4294967295 - s = 4294967295 ^^^ s := by
  apply Nat.eq_of_testBit_eq
  intro i
  have h1 := Nat.testBit_two_pow_sub_succ (x := s) (n := 32) (by simpa using h) i
  have h2 := Nat.testBit_two_pow_sub_one 32 i
  simp only [Nat.reducePow, Nat.reduceSub] at h1 h2
  rw [Nat.testBit_xor, h2, show 4294967295 - s = 4294967296 - (s + 1) by omega, h1]
  by_cases hi : i < 32
  · simp [hi]
  · rw [Nat.testBit_lt_two_pow (x := s) (i := i) (by have := Nat.pow_le_pow_right (n := 2) (by decide) (show 32 ≤ i by omega); omega)]
    simp [hi]
/-- A linear map of the register. -/
structure Lin (f : Nat → Nat) : Prop where
  zero : f 0 = 0
  xor : ∀ a b, f (a ^^^ b) = f a ^^^ f b
  lt : ∀ a, a < 4294967296 → f a < 4294967296
theorem Lin.stN (n : Nat) : Lin (stN n) := ⟨stN_zero n, stN_xor n, fun _ h => stN_lt n h⟩
theorem Lin.twice {f : Nat → Nat} (h : Lin f) : Lin (fun s => f (f s)) := ⟨by rw [h.zero, h.zero], fun a b => by rw [h.xor, h.xor], fun a ha => h.lt _ (h.lt a ha)⟩
theorem split_bit (s k : Nat) : s % 2 ^ (k + 1) = s % 2 ^ k ^^^ s / 2 ^ k % 2 * 2 ^ k := by
  have h1 : s % 2 ^ k ^^^ s / 2 ^ k % 2 * 2 ^ k = s / 2 ^ k % 2 * 2 ^ k + s % 2 ^ k := by
    rw [Nat.xor_comm]
    apply Nat.eq_of_testBit_eq
    intro i
    rw [Nat.mul_comm, Nat.testBit_xor, Nat.testBit_two_pow_mul_add _ (Nat.mod_lt _ (Nat.two_pow_pos k)), Nat.testBit_two_pow_mul]
    by_cases hi : i < k
    · rw [if_pos hi, decide_eq_false (by omega)]; simp
    · rw [if_neg hi, decide_eq_true (by omega : i ≥ k), Nat.testBit_lt_two_pow (x := s % 2 ^ k) (i := i) (Nat.lt_of_lt_of_le (Nat.mod_lt _ (Nat.two_pow_pos k)) (Nat.pow_le_pow_right (by decide) (by omega)))]
      simp
  rw [h1, Nat.mod_pow_succ, Nat.mul_comm, Nat.add_comm]
theorem Lin.next {f : Nat → Nat} (h : Lin f) (s k : Nat) : f (s % 2 ^ (k + 1)) = if s / 2 ^ k % 2 = 1 then f (s % 2 ^ k) ^^^ f (2 ^ k) else f (s % 2 ^ k) := by
  rw [split_bit, h.xor]
  split
  · rename_i h1
    rw [h1, Nat.one_mul]
  · rename_i h1
    rw [show s / 2 ^ k % 2 = 0 by omega, Nat.zero_mul, h.zero, Nat.xor_zero]
end Go.Proofs.YtlknmpnjhbdlhaaDoor.Crc
/-
  Layer 12, plain: numbers, the highest byte first; the block of a header. No program in sight.
-/
namespace Go.Proofs.YtlknmpnjhbdlhaaDoor.Hdr
set_option linter.unusedVariables false

/-- A number in so many bytes, the highest first. -/
def hiL : Nat → Nat → List UInt8
  | _, 0 => []
  | x, n + 1 => hiL (x / 256) n ++ [UInt8.ofNat x]
theorem hi_len : ∀ (n x : Nat), (hiL x n).length = n
  | 0, x => rfl
  | n + 1, x => by rw [hiL, List.length_append, hi_len n]; rfl
/-- The number that bytes encode. -/
def rdN (l : List UInt8) : Nat := l.foldl (fun n b => n * 256 + b.toNat) 0
theorem rd_nil : rdN [] = 0 := rfl
theorem rd_snoc (l : List UInt8) (b : UInt8) : rdN (l ++ [b]) = rdN l * 256 + b.toNat := by
  unfold rdN
  rw [List.foldl_append]
  rfl
theorem rd_hi : ∀ (n x : Nat), rdN (hiL x n) = x % 256 ^ n
  | 0, x => by rw [hiL, rd_nil, Nat.pow_zero, Nat.mod_one]
  | n + 1, x => by
    rw [hiL, rd_snoc, rd_hi n, UInt8.toNat_ofNat']
    have h := Nat.mod_mul_right_div_self x 256 (256 ^ n)
    have h2 := Nat.div_add_mod (x % (256 * 256 ^ n)) 256
    have h3 : x % (256 * 256 ^ n) % 256 = x % 256 := Nat.mod_mul_right_mod x 256 (256 ^ n)
    rw [h, h3] at h2
    rw [show 256 ^ (n + 1) = 256 * 256 ^ n by rw [Nat.pow_succ, Nat.mul_comm], ← h2]
    omega
theorem hi_back : ∀ (n : Nat) (l : List UInt8), l.length = n → hiL (rdN l) n = l
  | 0, l, h => by rw [List.eq_nil_of_length_eq_zero h]; rfl
  | n + 1, l, h => by
    obtain ⟨m, b, rfl⟩ : ∃ m b, l = m ++ [b] := by
      rcases List.eq_nil_or_concat l with h' | ⟨m, b, h'⟩
      · rw [h'] at h; simp at h
      · exact ⟨m, b, by rw [h', List.concat_eq_append]⟩
    have hm : m.length = n := by simpa using h
    have hb := b.toNat_lt
    rw [rd_snoc, hiL, show (rdN m * 256 + b.toNat) / 256 = rdN m by omega, hi_back n m hm]
    congr 2
    apply UInt8.toNat_inj.1
    rw [UInt8.toNat_ofNat']
    omega
/-- What the checksum of a header's block is of. -/
def preL (g a : Nat) : List UInt8 := [1] ++ hiL g 8 ++ hiL a 4 ++ List.replicate 46 0
theorem pre_len (g a : Nat) : (preL g a).length = 59 := by
  unfold preL
  simp [hi_len]
/-- The block of a header. -/
def blockL (g a : Nat) : List UInt8 := preL g a ++ Crc.laid (Crc.more 0 (preL g a)) ++ [165]
theorem block_len (g a : Nat) : (blockL g a).length = 64 := by
  unfold blockL
  rw [List.length_append, List.length_append, pre_len]
  rfl
/-- The header that a block is of. -/
def saysL (b : List UInt8) : Option (Nat × Nat) :=
  let g := rdN ((b.drop 1).take 8)
  let a := rdN ((b.drop 9).take 4)
  if 1 ≤ g ∧ a < 524288 ∧ blockL g a = b then some (g, a) else none
theorem block_gen (g a : Nat) : ((blockL g a).drop 1).take 8 = hiL g 8 := by
  have e : blockL g a = [1] ++ (hiL g 8 ++ (hiL a 4 ++ List.replicate 46 0 ++ Crc.laid (Crc.more 0 (preL g a)) ++ [165])) := by
    unfold blockL
    rw [show preL g a = [1] ++ hiL g 8 ++ hiL a 4 ++ List.replicate 46 0 from rfl]
    simp only [List.append_assoc]
  have h := hi_len 8 g
  rw [e, List.drop_append, List.length_singleton, List.drop_of_length_le (by simp), List.nil_append, Nat.sub_self, List.drop_zero]
  rw [List.take_append_of_le_length (by omega), List.take_of_length_le (by omega)]
theorem block_at (g a : Nat) : ((blockL g a).drop 9).take 4 = hiL a 4 := by
  have e : blockL g a = ([1] ++ hiL g 8) ++ (hiL a 4 ++ (List.replicate 46 0 ++ Crc.laid (Crc.more 0 (preL g a)) ++ [165])) := by
    unfold blockL
    rw [show preL g a = [1] ++ hiL g 8 ++ hiL a 4 ++ List.replicate 46 0 from rfl]
    simp only [List.append_assoc]
  have h := hi_len 4 a
  have h9 : ([1] ++ hiL g 8).length = 9 := by rw [List.length_append, hi_len]; rfl
  rw [e, List.drop_append, h9, List.drop_of_length_le (by omega), List.nil_append, Nat.sub_self, List.drop_zero]
  rw [List.take_append_of_le_length (by omega), List.take_of_length_le (by omega)]
/-- A header's block says the header. -/
theorem says_block (g a : Nat) (h1 : 1 ≤ g) (hg : g < 18446744073709551616) (ha : a < 524288) : saysL (blockL g a) = some (g, a) := by
  unfold saysL
  simp only
  rw [block_gen, block_at, rd_hi, rd_hi, Nat.mod_eq_of_lt (show g < 256 ^ 8 by omega), Nat.mod_eq_of_lt (show a < 256 ^ 4 by omega), if_pos ⟨h1, ha, rfl⟩]
end Go.Proofs.YtlknmpnjhbdlhaaDoor.Hdr
/-
  Layer 11, plain: records laid past the marks of blocks, and read again. No program in sight.
-/
namespace Go.Proofs.YtlknmpnjhbdlhaaDoor.Fra
set_option linter.unusedVariables false

/-- The length of a record, in two bytes. -/
def sizeL (n : Nat) : List UInt8 := [UInt8.ofNat (n / 256), UInt8.ofNat n]
/-- What goes out for a record. -/
def encL (l : List UInt8) : List UInt8 := sizeL l.length ++ (Crc.laid (Crc.more 0 (sizeL l.length ++ l)) ++ l)
theorem encL_len (l : List UInt8) : (encL l).length = 6 + l.length := by simp [encL, sizeL, Crc.laid]; omega
/-- Bytes past the marks, from an offset on. -/
def layP : Nat → List UInt8 → List UInt8
  | _, [] => []
  | n, x :: l => if n % 64 = 0 then 0 :: x :: layP (n + 2) l else x :: layP (n + 1) l
/-- The offsets behind them. -/
def posP : Nat → List UInt8 → List (UInt8 × Nat)
  | _, [] => []
  | n, x :: l => if n % 64 = 0 then (x, n + 2) :: posP (n + 2) l else (x, n + 1) :: posP (n + 1) l
/-- The bytes past the marks, up to a block that is not for data, with the offsets behind them. -/
def pastP : Nat → List UInt8 → List (UInt8 × Nat)
  | _, [] => []
  | n, x :: l => if n % 64 = 0 then (if x = 0 then pastP (n + 1) l else []) else (x, n + 1) :: pastP (n + 1) l

theorem layP_nil (n : Nat) : layP n [] = [] := by unfold layP; rfl
theorem posP_nil (n : Nat) : posP n [] = [] := by unfold posP; rfl
theorem pastP_nil (n : Nat) : pastP n [] = [] := by unfold pastP; rfl
theorem layP_at {n : Nat} (x : UInt8) (l : List UInt8) (h : n % 64 = 0) : layP n (x :: l) = 0 :: x :: layP (n + 2) l := by
  rw [layP, if_pos h]
theorem layP_in {n : Nat} (x : UInt8) (l : List UInt8) (h : n % 64 ≠ 0) : layP n (x :: l) = x :: layP (n + 1) l := by
  rw [layP, if_neg h]
theorem posP_at {n : Nat} (x : UInt8) (l : List UInt8) (h : n % 64 = 0) : posP n (x :: l) = (x, n + 2) :: posP (n + 2) l := by
  rw [posP, if_pos h]
theorem posP_in {n : Nat} (x : UInt8) (l : List UInt8) (h : n % 64 ≠ 0) : posP n (x :: l) = (x, n + 1) :: posP (n + 1) l := by
  rw [posP, if_neg h]
theorem pastP_at {n : Nat} (l : List UInt8) (h : n % 64 = 0) : pastP n (0 :: l) = pastP (n + 1) l := by
  rw [pastP, if_pos h, if_pos rfl]
theorem pastP_off {n : Nat} {x : UInt8} (l : List UInt8) (h : n % 64 = 0) (hx : x ≠ 0) : pastP n (x :: l) = [] := by
  rw [pastP, if_pos h, if_neg hx]
theorem pastP_in {n : Nat} (x : UInt8) (l : List UInt8) (h : n % 64 ≠ 0) : pastP n (x :: l) = (x, n + 1) :: pastP (n + 1) l := by
  rw [pastP, if_neg h]
theorem posP_fst : ∀ (l : List UInt8) (n : Nat), (posP n l).map Prod.fst = l
  | [], n => by rw [posP_nil]; rfl
  | x :: l, n => by
    by_cases h : n % 64 = 0
    · rw [posP_at x l h, List.map_cons, posP_fst l]
    · rw [posP_in x l h, List.map_cons, posP_fst l]
theorem posP_len (l : List UInt8) (n : Nat) : (posP n l).length = l.length := by
  have h := congrArg List.length (posP_fst l n)
  rwa [List.length_map] at h
theorem layP_append : ∀ (l m : List UInt8) (n : Nat), layP n (l ++ m) = layP n l ++ layP (n + (layP n l).length) m
  | [], m, n => by rw [layP_nil]; rfl
  | x :: l, m, n => by
    by_cases h : n % 64 = 0
    · rw [List.cons_append, layP_at x _ h, layP_at x _ h, layP_append l m]
      simp only [List.cons_append, List.length_cons]
      rw [show n + ((layP (n + 2) l).length + 1 + 1) = n + 2 + (layP (n + 2) l).length by omega]
    · rw [List.cons_append, layP_in x _ h, layP_in x _ h, layP_append l m]
      simp only [List.cons_append, List.length_cons]
      rw [show n + ((layP (n + 1) l).length + 1) = n + 1 + (layP (n + 1) l).length by omega]
theorem posP_append : ∀ (l m : List UInt8) (n : Nat), posP n (l ++ m) = posP n l ++ posP (n + (layP n l).length) m
  | [], m, n => by rw [layP_nil, posP_nil]; rfl
  | x :: l, m, n => by
    by_cases h : n % 64 = 0
    · rw [List.cons_append, posP_at x _ h, posP_at x _ h, layP_at x _ h, posP_append l m]
      simp only [List.cons_append, List.length_cons]
      rw [show n + ((layP (n + 2) l).length + 1 + 1) = n + 2 + (layP (n + 2) l).length by omega]
    · rw [List.cons_append, posP_in x _ h, posP_in x _ h, layP_in x _ h, posP_append l m]
      simp only [List.cons_append, List.length_cons]
      rw [show n + ((layP (n + 1) l).length + 1) = n + 1 + (layP (n + 1) l).length by omega]
theorem layP_ge : ∀ (l : List UInt8) (n : Nat), l.length ≤ (layP n l).length ∧ (layP n l).length ≤ 2 * l.length
  | [], n => by rw [layP_nil]; simp
  | x :: l, n => by
    by_cases h : n % 64 = 0
    · rw [layP_at x l h]; have := layP_ge l (n + 2); simp only [List.length_cons]; omega
    · rw [layP_in x l h]; have := layP_ge l (n + 1); simp only [List.length_cons]; omega
/-- What was laid is read. -/
theorem past_lay : ∀ (l r : List UInt8) (n : Nat), pastP n (layP n l ++ r) = posP n l ++ pastP (n + (layP n l).length) r
  | [], r, n => by rw [layP_nil, posP_nil]; rfl
  | x :: l, r, n => by
    by_cases h : n % 64 = 0
    · rw [layP_at x l h, posP_at x l h, List.cons_append, List.cons_append, pastP_at _ h, pastP_in x _ (by omega), past_lay l r (n + 2)]
      simp only [List.cons_append, List.length_cons]
      rw [show n + ((layP (n + 2) l).length + 1 + 1) = n + 2 + (layP (n + 2) l).length by omega]
    · rw [layP_in x l h, posP_in x l h, List.cons_append, pastP_in x _ h, past_lay l r (n + 1)]
      simp only [List.cons_append, List.length_cons]
      rw [show n + ((layP (n + 1) l).length + 1) = n + 1 + (layP (n + 1) l).length by omega]
/-- The last of them ends where what was laid ends. -/
theorem pos_last : ∀ (l : List UInt8) (n : Nat) (h : l ≠ []), ((posP n l).getD (l.length - 1) (0, 0)).2 = n + (layP n l).length
  | [], _, h => absurd rfl h
  | [x], n, _ => by
    by_cases h : n % 64 = 0
    · rw [posP_at x [] h, layP_at x [] h, posP_nil, layP_nil]; rfl
    · rw [posP_in x [] h, layP_in x [] h, posP_nil, layP_nil]; rfl
  | x :: y :: l, n, _ => by
    by_cases h : n % 64 = 0
    · have ih := pos_last (y :: l) (n + 2) (by simp)
      rw [posP_at x _ h, layP_at x _ h]
      simp only [List.length_cons, Nat.add_sub_cancel] at ih ⊢
      rw [List.getD_cons_succ, ih]; omega
    · have ih := pos_last (y :: l) (n + 1) (by simp)
      rw [posP_in x _ h, layP_in x _ h]
      simp only [List.length_cons, Nat.add_sub_cancel] at ih ⊢
      rw [List.getD_cons_succ, ih]; omega
/-- What is cut off gives the beginning, less at least a byte. -/
theorem past_cut : ∀ (l : List UInt8) (n k : Nat), k < (layP n l).length → ∃ j, j < l.length ∧ pastP n ((layP n l).take k) = (posP n l).take j
  | [], n, k, hk => by rw [layP_nil] at hk; simp at hk
  | x :: l, n, k, hk => by
    by_cases h : n % 64 = 0
    · rw [layP_at x l h] at hk ⊢
      rw [posP_at x l h]
      match k with
      | 0 => exact ⟨0, by simp, by rw [List.take_zero, pastP_nil]; rfl⟩
      | 1 => exact ⟨0, by simp, by rw [List.take_succ_cons, List.take_zero, pastP_at _ h, pastP_nil]; rfl⟩
      | k + 2 =>
        simp only [List.length_cons] at hk
        obtain ⟨j, hj, e⟩ := past_cut l (n + 2) k (by omega)
        refine ⟨j + 1, by simp; omega, ?_⟩
        rw [List.take_succ_cons, List.take_succ_cons, pastP_at _ h, pastP_in x _ (by omega), e]
        rfl
    · rw [layP_in x l h] at hk ⊢
      rw [posP_in x l h]
      match k with
      | 0 => exact ⟨0, by simp, by rw [List.take_zero, pastP_nil]; rfl⟩
      | k + 1 =>
        simp only [List.length_cons] at hk
        obtain ⟨j, hj, e⟩ := past_cut l (n + 1) k (by omega)
        refine ⟨j + 1, by simp; omega, ?_⟩
        rw [List.take_succ_cons, pastP_in x _ h, e]
        rfl

/-- The record that bytes past the marks begin with, and the offset behind it. -/
def getP (p : List (UInt8 × Nat)) : Option (List UInt8 × Nat) :=
  let b := p.map Prod.fst
  let n := (b.getD 0 0).toNat * 256 + (b.getD 1 0).toNat
  if p.length < 7 ∨ n < 1 ∨ 4096 < n ∨ p.length < 6 + n then none
  else if encL ((b.drop 6).take n) = b.take (6 + n) then some ((b.drop 6).take n, (p.getD (5 + n) (0, 0)).2) else none
/-- Does an offset lie within a data block, past its mark? -/
def startB (all : List UInt8) (at' : Nat) : Bool := decide (at' < all.length) && (!(at' % 64 == 0) && (all.getD (at' - at' % 64) 0 == 0))
/-- The record at an offset. -/
def getL (all : List UInt8) (at' : Nat) : Option (List UInt8 × Nat) := if startB all at' = true then getP (pastP at' (all.drop at')) else none

theorem size_back {n : Nat} (h : n ≤ 4096) : ((sizeL n).getD 0 0).toNat * 256 + ((sizeL n).getD 1 0).toNat = n := by
  show (UInt8.ofNat (n / 256)).toNat * 256 + (UInt8.ofNat n).toNat = n
  rw [UInt8.toNat_ofNat', UInt8.toNat_ofNat']
  omega
theorem encL_head (l : List UInt8) (h : l.length ≤ 4096) (r : List UInt8) : ((encL l ++ r).getD 0 0).toNat * 256 + ((encL l ++ r).getD 1 0).toNat = l.length := size_back h
theorem encL_drop (l r : List UInt8) : ((encL l ++ r).drop 6).take l.length = l := by
  have e : encL l ++ r = (sizeL l.length ++ Crc.laid (Crc.more 0 (sizeL l.length ++ l))) ++ (l ++ r) := by unfold encL; simp
  rw [e, List.drop_left' (by rfl), List.take_left]
theorem encL_take (l r : List UInt8) : (encL l ++ r).take (6 + l.length) = encL l := by rw [← encL_len l, List.take_left]
/-- A record that was laid is read. -/
theorem get_lay (l : List UInt8) (h1 : 1 ≤ l.length) (h2 : l.length ≤ 4096) (n : Nat) (r : List UInt8) : getP (pastP n (layP n (encL l) ++ r)) = some (l, n + (layP n (encL l)).length) := by
  rw [past_lay]
  unfold getP
  have hm : ((posP n (encL l) ++ pastP (n + (layP n (encL l)).length) r).map Prod.fst) = encL l ++ (pastP (n + (layP n (encL l)).length) r).map Prod.fst := by rw [List.map_append, posP_fst]
  have hlen : (posP n (encL l)).length = 6 + l.length := by rw [posP_len, encL_len]
  simp only [hm]
  rw [encL_head l h2, encL_drop, encL_take]
  rw [if_neg (by rw [List.length_append, hlen]; omega), if_pos rfl]
  have hp := pos_last (encL l) n (by intro e; have := congrArg List.length e; rw [encL_len] at this; simp at this)
  rw [encL_len, show 6 + l.length - 1 = 5 + l.length by omega] at hp
  rw [← hp, List.getD_eq_getElem?_getD, List.getD_eq_getElem?_getD, List.getElem?_append_left (by omega)]
/-- A record that is cut off is not read. -/
theorem get_cut (l : List UInt8) (h1 : 1 ≤ l.length) (h2 : l.length ≤ 4096) (n k : Nat) (hk : k < (layP n (encL l)).length) : getP (pastP n ((layP n (encL l)).take k)) = none := by
  obtain ⟨j, hj, e⟩ := past_cut (encL l) n k hk
  rw [e]
  rw [encL_len] at hj
  unfold getP
  have hlen : ((posP n (encL l)).take j).length = j := by rw [List.length_take, posP_len, encL_len]; omega
  have hm : ((posP n (encL l)).take j).map Prod.fst = (encL l).take j := by rw [List.map_take, posP_fst]
  simp only [hm, hlen]
  by_cases h7 : j < 7
  · rw [if_pos (.inl h7)]
  · have h0 : ((encL l).take j).getD 0 0 = (encL l).getD 0 0 := by rw [List.getD_eq_getElem?_getD, List.getElem?_take_of_lt (by omega), ← List.getD_eq_getElem?_getD]
    have h1' : ((encL l).take j).getD 1 0 = (encL l).getD 1 0 := by rw [List.getD_eq_getElem?_getD, List.getElem?_take_of_lt (by omega), ← List.getD_eq_getElem?_getD]
    have hh := encL_head l h2 []
    rw [List.append_nil] at hh
    rw [h0, h1', hh, if_pos (.inr (.inr (.inr hj)))]
/-- Where blocks begin within what was laid, there are marks. -/
theorem lay_marks : ∀ (l : List UInt8) (n k : Nat), (n + k) % 64 = 0 → k < (layP n l).length → (layP n l)[k]? = some 0
  | [], n, k, _, hk => by rw [layP_nil] at hk; simp at hk
  | x :: l, n, k, h64, hk => by
    by_cases h : n % 64 = 0
    · rw [layP_at x l h] at hk ⊢
      match k with
      | 0 => rfl
      | 1 => omega
      | k + 2 =>
        simp only [List.length_cons] at hk
        rw [List.getElem?_cons_succ, List.getElem?_cons_succ]
        exact lay_marks l (n + 2) k (by omega) (by omega)
    · rw [layP_in x l h] at hk ⊢
      match k with
      | 0 => omega
      | k + 1 =>
        simp only [List.length_cons] at hk
        rw [List.getElem?_cons_succ]
        exact lay_marks l (n + 1) k (by omega) (by omega)
end Go.Proofs.YtlknmpnjhbdlhaaDoor.Fra
/-
  Package crc and its reference, function by function: the register.
-/
namespace Go.Proofs.YtlknmpnjhbdlhaaDoor
open Go.RowKit

/-- The table lies in its variable. -/
def Tab (w : World) : Prop := ∀ i, i < 16 → w.cell? ⟨0, i, none⟩ = some (.int .u32 (Crc.tb i : Int))
theorem Tab.lt {w : World} (h : Tab w) : 0 < w.heap.size := World.block_lt_of_cell? w _ (h 0 (by decide))
theorem Tab.below {w w' : World} {B : Nat} (h : Tab w) (hb : Below B w w') (hB : 0 < B) : Tab w' := fun i hi => (hb.cell (p := ⟨0, i, none⟩) hB).trans (h i hi)
theorem Tab.drew {w : World} (h : Tab w) : Tab w.drew := h
theorem Tab.drewN {w : World} (h : Tab w) (k : Nat) : Tab (w.drewN k) := h
theorem Tab.alloc {w : World} (h : Tab w) (o : Obj) : Tab (w.alloc o) := h.below ((Below.refl _ _).alloc (Nat.le_refl _) o) h.lt
theorem Tab.setCell {w : World} (h : Tab w) {p : Addr} (hp : 0 < p.block) (v : Value) : Tab (w.setCell p v) := h.below ((Below.refl _ _).setCell (Nat.le_refl p.block) v) hp

set_option maxHeartbeats 1000000 in
theorem quarter_any (b x s : Nat) (w : World) (htab : Tab w) (hc : w.cell? ⟨b, 0, none⟩ = some (.int .u32 (s : Int))) (hf : w.frozen? ⟨b, 0, none⟩ = false) (hs : s < 4294967296) (hx : x < 256) :
    Calls Tryd.prog 79 #[.pointer (some ⟨b, 0, none⟩), .int .u8 (x : Int)] w fun e w' => e = .returned (.tuple #[]) ∧ (w.setCell ⟨b, 0, none⟩ (.int .u32 (Crc.quarter s x : Int))).drew = w' := by
  have hsx : s ^^^ x < 4294967296 := Nat.xor_lt_two_pow (n := 32) hs (by omega)
  have e1 : bits .xor .u32 (s : Int) (x : Int) = ((s ^^^ x : Nat) : Int) := u32_xor_nat _ _ hs (by omega)
  have e2 : bits .and .u32 ((s ^^^ x : Nat) : Int) 15 = (((s ^^^ x) % 16 : Nat) : Int) := by
    have := u32_and_nat (s ^^^ x) 15 hsx (by decide)
    rw [nat_mask4] at this
    exact this
  have hi : (s ^^^ x) % 16 < 16 := Nat.mod_lt _ (by decide)
  have ht := htab _ hi
  have hv := Crc.tb_lt _ hi
  have e3 : bits .xor .u32 ((s : Int) / 16) ((Crc.tb ((s ^^^ x) % 16) : Nat) : Int) = ((Crc.quarter s x : Nat) : Int) := by
    rw [show ((s : Int) / 16) = ((s / 16 : Nat) : Int) by omega]
    exact u32_xor_nat _ _ (by omega) hv
  clear htab
  generalize Crc.quarter s x = q at *
  generalize Crc.tb ((s ^^^ x) % 16) = v at *
  generalize (s ^^^ x) % 16 = i at *
  generalize (s ^^^ x) = j at *
  go_enter Tryd.func79, Tryd.ntmps79
  go_wp2
  go_region
  go_end0
  exact ⟨rfl, rfl⟩

set_option maxHeartbeats 1000000 in
theorem consume_any (b s : Nat) (c : UInt8) (w : World) (htab : Tab w) (hc : w.cell? ⟨b, 0, none⟩ = some (.int .u32 (s : Int))) (hf : w.frozen? ⟨b, 0, none⟩ = false) (hs : s < 4294967296) (hb : 0 < b) :
    Calls Tryd.prog 77 #[.pointer (some ⟨b, 0, none⟩), .int .u8 (c.toNat : Int)] w fun e w' => e = .returned (.tuple #[]) ∧ Below b w w' ∧ w'.cell? ⟨b, 0, none⟩ = some (.int .u32 (Crc.eat s c : Int)) ∧ w'.frozen? ⟨b, 0, none⟩ = false ∧ w'.heap.size = w.heap.size := by
  have hx := c.toNat_lt
  go_enter Tryd.func77, Tryd.ntmps77
  go_wp2_with fail
  refine (quarter_any b c.toNat s w htab hc hf hs hx).mono ?_
  rintro e w1 ⟨rfl, rfl⟩
  go_wp2_with fail
  have hc2 := cell_set hc (.int .u32 (Crc.quarter s c.toNat : Int))
  have hf2 := (frozen_set w ⟨b, 0, none⟩ ⟨b, 0, none⟩ (.int .u32 (Crc.quarter s c.toNat : Int))).trans hf
  rw [show ((c.toNat : Int) / 16) = ((c.toNat / 16 : Nat) : Int) by omega]
  refine (quarter_any b (c.toNat / 16) _ _ ((htab.setCell hb _).drew) hc2 hf2 (Crc.quarter_lt _ hs) (by omega)).mono ?_
  rintro e w1 ⟨rfl, rfl⟩
  go_wp2
  go_end0
  refine ⟨rfl, (((Below.refl b w).setCell (p := ⟨b, 0, none⟩) (Nat.le_refl b) _).setCell (p := ⟨b, 0, none⟩) (Nat.le_refl b) _).drew.drew, ?_, ?_, ?_⟩
  · rw [← Crc.quarters]
    exact cell_set hc2 _
  · exact (frozen_set _ _ _ _).trans hf2
  · exact (size_set _ _ _).trans (size_set _ _ _)

set_option maxHeartbeats 1000000 in
theorem bit_any (s x : Nat) (w : World) (hs : s < 4294967296) :
    Calls Tryd.prog 69 #[.int .u32 (s : Int), .int .u32 (x : Int)] w fun e w' => e = .returned (.int .u32 (Crc.bit s x : Int)) ∧ w = w' := by
  by_cases h : s % 2 = x
  · have hb : ((s : Int) % 2 != (x : Int)) = false := by simp; omega
    have hr : Crc.bit s x = s / 2 := if_pos h
    have Hr := Lib.hid hr
    clear hr h
    go_enter Tryd.func69, Tryd.ntmps69
    go_wp2
    go_ret
    exact ⟨by rw [Hr.out]; simp, rfl⟩
  · have hb : ((s : Int) % 2 != (x : Int)) = true := by rw [bne_iff_ne]; omega
    have hr : Crc.bit s x = s / 2 ^^^ 2197175160 := if_neg h
    have e1 : bits .xor .u32 ((s : Int) / 2) 2197175160 = ((s / 2 ^^^ 2197175160 : Nat) : Int) := by
      rw [show ((s : Int) / 2) = ((s / 2 : Nat) : Int) by omega]
      exact u32_xor_nat _ _ (by omega) (by decide)
    rw [← hr] at e1
    clear hr h
    go_enter Tryd.func69, Tryd.ntmps69
    go_wp2
    go_ret
    exact ⟨rfl, rfl⟩
theorem not32 (s : Nat) (hs : s < 4294967296) : bits .xor .u32 IntKind.u32.max (s : Int) = ((4294967295 - s : Nat) : Int) := by
  rw [Crc.comp s hs]
  exact u32_xor_nat 4294967295 s (by decide) hs

set_option maxHeartbeats 1000000 in
theorem more_any (A : Option Addr) (n c B : Nat) (l : List UInt8) (s : Nat) (w : World) (htab : Tab w) (h : Bytes w B A n l) (hB : B ≤ w.heap.size) (hs : s < 4294967296) (hn : n ≤ maxLen) :
    Calls Tryd.prog 70 #[.int .u32 (s : Int), .slice A n c] w fun e w' => e = .returned (.int .u32 (Crc.more s l : Int)) ∧ Below w.heap.size w w' := by
  unfold maxLen at hn
  have hmf : ∀ (fn : Fn) (first cap : Array Value) (w : World), (Instr.makeFunc fn first cap).run Tryd.prog w = .ok (.func fn first cap) w := fun _ _ _ _ => rfl
  have hsg : IntKind.u32.signed = false := rfl
  have hnot := not32 s hs
  have hlt0 := htab.lt
  have H0 := Lib.hid h
  have Htab := Lib.hid htab
  clear h htab
  have hu : 4294967295 - s < 4294967296 := by omega
  obtain ⟨u, Hu, hu2⟩ : ∃ u, Hid (u = 4294967295 - s) ∧ u < 4294967296 := ⟨_, Lib.hid rfl, hu⟩
  rw [← Hu.out] at hnot
  clear hu
  go_enter Tryd.func70, Tryd.ntmps70
  go_wp2
  go_loopw [18] (fun i wr => ∃ k t : Nat, k ≤ n ∧ i = .int .i64 k ∧ Hid (t = Crc.take u (l.take k)) ∧ t < 4294967296 ∧ Below w.heap.size w wr ∧ wr.cell? ⟨w.heap.size, 0, none⟩ = some (.int .u32 (t : Int)) ∧ wr.frozen? ⟨w.heap.size, 0, none⟩ = false) (fun i _ => n - (intOf i).toNat)
  case atStart => exact ⟨0, u, Nat.zero_le _, rfl, Lib.hid rfl, hu2, (Below.refl _ _).alloc (Nat.le_refl _) _, by go_simp, by go_simp⟩
  case round =>
    obtain ⟨k, t, hk, rfl, Ht, htl, hbel, hc, hf⟩ := hrel
    by_cases hlt : k < n
    · obtain ⟨b1, o1, rfl, hb1, hc1⟩ := H0.out.cell hlt
      have hc1' := (hbel.cell (p := ⟨b1, o1 + k, none⟩) (by show b1 < _; omega)).trans hc1
      have g1 := at8_lo l k
      have g2 := at8_hi l k
      go_wp2_with fail
      refine (consume_any w.heap.size t (l.getD k 0) _ (Htab.out.below hbel hlt0) hc hf htl hlt0).mono ?_
      rintro e w2 ⟨rfl, hb2, hc2, hf2, _⟩
      go_wp2
      go_roundw
      case rel =>
        refine ⟨k + 1, _, by omega, by go_num, Lib.hid ?_, Crc.eat_lt _ htl, hbel.trans hb2, hc2, hf2⟩
        rw [take_snoc l k (by have := H0.out.len; omega), Crc.take_append, Ht.out, Crc.take_one]
      case measure => simp [intOf]; omega
    · have hk' : k = n := by omega
      have hr : Crc.more s l = 4294967295 - t := by
        have hl := H0.out.len
        rw [Ht.out, Hu.out, List.take_of_length_le (by omega)]
        rfl
      have Hr := Lib.hid hr
      have hnot2 := not32 t htl
      clear hk' hr hnot
      go_wp2
      go_ret
      exact ⟨by rw [Hr.out]; rfl, hbel⟩

set_option maxHeartbeats 1000000 in
theorem sum_any (A : Option Addr) (n c B : Nat) (l : List UInt8) (w : World) (htab : Tab w) (h : Bytes w B A n l) (hB : B ≤ w.heap.size) (hn : n ≤ maxLen) :
    Calls Tryd.prog 53 #[.slice A n c] w fun e w' => e = .returned (.int .u32 (Crc.more 0 l : Int)) ∧ Below w.heap.size w w' := by
  go_enter Tryd.func53, Tryd.ntmps53
  go_wp2_with fail
  refine (more_any A n c B l 0 w htab h hB (by decide) hn).mono ?_
  rintro e w1 ⟨rfl, hb⟩
  go_wp2
  go_ret
  exact ⟨rfl, hb⟩
end Go.Proofs.YtlknmpnjhbdlhaaDoor
/-
  Checksums of sequences that differ only within four bytes. No program in sight.
-/
namespace Go.Proofs.YtlknmpnjhbdlhaaDoor
open Go.RowKit

theorem st_inj {s t : Nat} (hs : s < 4294967296) (ht : t < 4294967296) (h : Crc.st s = Crc.st t) : s = t := by
  have big : ∀ x : Nat, x < 2147483648 → 2147483648 ≤ x ^^^ Crc.pol := by
    intro x hx
    have h1 : (x ^^^ Crc.pol).testBit 31 = true := by
      rw [Nat.testBit_xor, Nat.testBit_lt_two_pow (x := x) (i := 31) (by simpa using hx)]
      decide
    rcases Nat.lt_or_ge (x ^^^ Crc.pol) 2147483648 with h2 | h2
    · rw [Nat.testBit_lt_two_pow (x := x ^^^ Crc.pol) (i := 31) (by simpa using h2)] at h1
      cases h1
    · exact h2
  have key : ∀ u : Nat, u < 4294967296 → (u % 2 = 1 → Crc.st u = u / 2 ^^^ Crc.pol ∧ 2147483648 ≤ Crc.st u) ∧ (u % 2 = 0 → Crc.st u = u / 2 ∧ Crc.st u < 2147483648) := by
    intro u hu
    refine ⟨fun h1 => ?_, fun h0 => ?_⟩
    · have e : Crc.st u = u / 2 ^^^ Crc.pol := if_pos h1
      exact ⟨e, by rw [e]; exact big _ (by omega)⟩
    · have e : Crc.st u = u / 2 := if_neg (by omega)
      exact ⟨e, by rw [e]; omega⟩
  obtain ⟨a1, a0⟩ := key s hs
  obtain ⟨b1, b0⟩ := key t ht
  rcases Nat.mod_two_eq_zero_or_one s with h1 | h1 <;> rcases Nat.mod_two_eq_zero_or_one t with h2 | h2
  · have := (a0 h1).1; have := (b0 h2).1; omega
  · have := (a0 h1).2; have := (b1 h2).2; omega
  · have := (a1 h1).2; have := (b0 h2).2; omega
  · have e1 := (a1 h1).1
    have e2 := (b1 h2).1
    rw [e1, e2] at h
    have h3 : s / 2 = t / 2 := by
      have := congrArg (· ^^^ Crc.pol) h
      simpa [Nat.xor_assoc] using this
    omega
theorem stN_inj (n : Nat) : ∀ {s t : Nat}, s < 4294967296 → t < 4294967296 → Crc.stN n s = Crc.stN n t → s = t := by
  induction n with
  | zero => intro s t _ _ h; exact h
  | succ n ih => intro s t hs ht h; exact st_inj hs ht (ih (Crc.st_lt hs) (Crc.st_lt ht) h)
theorem take_inj (l : List UInt8) : ∀ {s t : Nat}, s < 4294967296 → t < 4294967296 → Crc.take s l = Crc.take t l → s = t := by
  induction l with
  | nil => intro s t _ _ h; exact h
  | cons c l ih =>
    intro s t hs ht h
    have h1 := ih (Crc.eat_lt c hs) (Crc.eat_lt c ht) h
    unfold Crc.eat at h1
    have hc := c.toNat_lt
    have h2 := stN_inj 8 (Nat.xor_lt_two_pow (n := 32) hs (by omega)) (Nat.xor_lt_two_pow (n := 32) ht (by omega)) h1
    have := congrArg (· ^^^ c.toNat) h2
    simpa [Nat.xor_assoc] using this
/-- The number that four bytes make. -/
def word (a b c d : UInt8) : Nat := a.toNat ^^^ (2 ^ 8 * b.toNat ^^^ (2 ^ 16 * c.toNat ^^^ 2 ^ 24 * d.toNat))
theorem stN_shift (m k x : Nat) : Crc.stN (m + k) (2 ^ m * x) = Crc.stN k x := by rw [Crc.stN_add, Crc.stN_pow]
theorem take4 (s : Nat) (a b c d : UInt8) : Crc.take s [a, b, c, d] = Crc.stN 32 (s ^^^ word a b c d) := by
  show Crc.eat (Crc.eat (Crc.eat (Crc.eat s a) b) c) d = _
  unfold Crc.eat word
  have e : ∀ x k y, Crc.stN 8 (Crc.stN k x ^^^ y) = Crc.stN (k + 8) (x ^^^ 2 ^ k * y) := by
    intro x k y
    rw [Crc.stN_add, Crc.stN_xor k, Crc.stN_pow]
  rw [e (s ^^^ a.toNat) 8 b.toNat, e (s ^^^ a.toNat ^^^ 2 ^ 8 * b.toNat) (8 + 8) c.toNat, e _ (8 + 8 + 8) d.toNat]
  simp only [Nat.reduceAdd]
  rw [Nat.xor_assoc, Nat.xor_assoc, Nat.xor_assoc]
theorem word_sum (a b c d : UInt8) : word a b c d = a.toNat + 256 * b.toNat + 65536 * c.toNat + 16777216 * d.toNat := by
  have ha := a.toNat_lt
  have hb := b.toNat_lt
  have hc := c.toNat_lt
  have hd := d.toNat_lt
  have j : ∀ (i x y : Nat), y < 2 ^ i → y ^^^ 2 ^ i * x = y + 2 ^ i * x := by
    intro i x y hy
    rw [Nat.xor_comm]
    have h1 : 2 ^ i * x ^^^ y = 2 ^ i * x + y := by
      apply Nat.eq_of_testBit_eq
      intro n
      rw [Nat.testBit_xor, Nat.testBit_two_pow_mul_add _ hy, Nat.testBit_two_pow_mul]
      by_cases hi : n < i
      · rw [if_pos hi, decide_eq_false (by omega)]; simp
      · rw [if_neg hi, decide_eq_true (by omega : n ≥ i), Nat.testBit_lt_two_pow (x := y) (i := n) (Nat.lt_of_lt_of_le hy (Nat.pow_le_pow_right (by decide) (by omega)))]
        simp
    omega
  unfold word
  rw [← Nat.xor_assoc, ← Nat.xor_assoc, j 8 _ _ (by omega), j 16 _ _ (by omega), j 24 _ _ (by omega)]
theorem word_inj {a b c d a' b' c' d' : UInt8} (h : word a b c d = word a' b' c' d') : [a, b, c, d] = [a', b', c', d'] := by
  rw [word_sum, word_sum] at h
  have ha := a.toNat_lt
  have hb := b.toNat_lt
  have hc := c.toNat_lt
  have hd := d.toNat_lt
  have ha' := a'.toNat_lt
  have hb' := b'.toNat_lt
  have hc' := c'.toNat_lt
  have hd' := d'.toNat_lt
  have h1 : a = a' := UInt8.toNat_inj.1 (by omega)
  have h2 : b = b' := UInt8.toNat_inj.1 (by omega)
  have h3 : c = c' := UInt8.toNat_inj.1 (by omega)
  have h4 : d = d' := UInt8.toNat_inj.1 (by omega)
  rw [h1, h2, h3, h4]
theorem word_lt (a b c d : UInt8) : word a b c d < 4294967296 := by
  rw [word_sum]
  have ha := a.toNat_lt
  have hb := b.toNat_lt
  have hc := c.toNat_lt
  have hd := d.toNat_lt
  omega
theorem take4_inj (s : Nat) (hs : s < 4294967296) {v w : List UInt8} (hv : v.length = 4) (hw : w.length = 4) (h : Crc.take s v = Crc.take s w) : v = w := by
  match v, hv, w, hw with
  | [a, b, c, d], _, [a', b', c', d'], _ =>
    rw [take4, take4] at h
    have h1 := stN_inj 32 (Nat.xor_lt_two_pow (n := 32) hs (word_lt _ _ _ _)) (Nat.xor_lt_two_pow (n := 32) hs (word_lt _ _ _ _)) h
    have h2 := congrArg (s ^^^ ·) h1
    simp only [← Nat.xor_assoc, Nat.xor_self, Nat.zero_xor] at h2
    exact word_inj h2
/-- Sequences that differ only within four bytes have one checksum, from any start, only if they are one. -/
theorem apart (s : Nat) (x v w y : List UInt8) (hv : v.length = 4) (hw : w.length = 4) (h : Crc.more s (x ++ (v ++ y)) = Crc.more s (x ++ (w ++ y))) : v = w := by
  unfold Crc.more at h
  have hs : 4294967295 - s < 4294967296 := by omega
  have b1 := Crc.take_lt (x ++ (v ++ y)) (s := 4294967295 - s) hs
  have b2 := Crc.take_lt (x ++ (w ++ y)) (s := 4294967295 - s) hs
  have h1 : Crc.take (4294967295 - s) (x ++ (v ++ y)) = Crc.take (4294967295 - s) (x ++ (w ++ y)) := by omega
  rw [Crc.take_append, Crc.take_append, Crc.take_append, Crc.take_append] at h1
  have hx := Crc.take_lt x (s := 4294967295 - s) hs
  exact take4_inj _ hx hv hw (take_inj y (Crc.take_lt v hx) (Crc.take_lt w hx) h1)

theorem beq_cast (a b : Nat) : ((a : Int) == (b : Int)) = decide (a = b) := by
  rw [Bool.eq_iff_iff, beq_iff_eq, decide_eq_true_iff]
  omega
theorem own_some {w : World} {base : Nat} {e : TypeId} {A : Option Addr} {n c size : Nat} {xs : List Value} (h : w.ownsRow base e size (.slice A n c) n xs) (hn : 0 < n) : ∃ g, A = some ⟨g, 0, none⟩ := by
  obtain ⟨g, cap, hv, _, _⟩ := h.form hn
  injection hv with hA
  exact ⟨g, hA⟩
end Go.Proofs.YtlknmpnjhbdlhaaDoor
/-
  Layer 11, plain: bits that are turned within 32 consecutive ones change the checksum.
-/
namespace Go.Proofs.YtlknmpnjhbdlhaaDoor.Fra
set_option linter.unusedVariables false

/-- Bytes as one number, the first one lowest. -/
def leX : List UInt8 → Nat
  | [] => 0
  | x :: l => x.toNat ^^^ 2 ^ 8 * leX l
theorem take_leX : ∀ (l : List UInt8) (s : Nat), Crc.take s l = Crc.stN (8 * l.length) (s ^^^ leX l)
  | [], s => by show s = s ^^^ 0; rw [Nat.xor_zero]
  | x :: l, s => by
    show Crc.take (Crc.eat s x) l = _
    rw [take_leX l, show 8 * (x :: l).length = 8 + 8 * l.length by simp; omega, Crc.stN_add]
    show _ = Crc.stN (8 * l.length) (Crc.stN 8 (s ^^^ (x.toNat ^^^ 2 ^ 8 * leX l)))
    rw [← Nat.xor_assoc, Crc.stN_xor 8 (s ^^^ x.toNat), Crc.stN_pow 8]
    rfl
theorem stN_no {n t : Nat} (ht : t < 4294967296) (h : Crc.stN n t = 0) : t = 0 :=
  stN_inj n ht (by decide) (h.trans (Crc.stN_zero n).symm)
/-- Two rows that differ by a number of 32 bits, shifted. -/
theorem burst {l m : List UInt8} {r t s : Nat} (hl : m.length = l.length) (hx : leX m = leX l ^^^ 2 ^ r * t) (ht : t < 4294967296) (hr : r + 32 ≤ 8 * l.length) (h : Crc.take s m = Crc.take s l) : t = 0 := by
  rw [take_leX, take_leX, hl, hx, ← Nat.xor_assoc, Crc.stN_xor _ (s ^^^ leX l)] at h
  have h0 : Crc.stN (8 * l.length) (2 ^ r * t) = 0 := by
    have e := congrArg (fun x => Crc.stN (8 * l.length) (s ^^^ leX l) ^^^ x) h
    simp only [← Nat.xor_assoc, Nat.xor_self, Nat.zero_xor] at e
    exact e
  rw [show 8 * l.length = r + (8 * l.length - r) by omega, stN_shift] at h0
  exact stN_no ht h0
/-- A bit of a row is turned. -/
def turnL (l : List UInt8) (p : Nat) : List UInt8 := l.set (p / 8) (l.getD (p / 8) 0 ^^^ UInt8.ofNat (2 ^ (p % 8)))
theorem turn_len (l : List UInt8) (p : Nat) : (turnL l p).length = l.length := by unfold turnL; rw [List.length_set]
theorem xor_u8 (x : UInt8) (k : Nat) (hk : k < 8) : (x ^^^ UInt8.ofNat (2 ^ k)).toNat = x.toNat ^^^ 2 ^ k := by
  rw [UInt8.toNat_xor, UInt8.toNat_ofNat', Nat.mod_eq_of_lt]
  exact Nat.pow_lt_pow_of_lt (by decide) hk
theorem xor_mul (a b : Nat) : 2 ^ 8 * (a ^^^ b) = 2 ^ 8 * a ^^^ 2 ^ 8 * b := by
  have h := Nat.shiftLeft_xor_distrib (a := a) (b := b) (i := 8)
  simpa [Nat.shiftLeft_eq, Nat.mul_comm] using h
theorem leX_turn : ∀ (l : List UInt8) (p : Nat), p < 8 * l.length → leX (turnL l p) = leX l ^^^ 2 ^ p
  | [], p, h => by simp at h
  | x :: l, p, h => by
    by_cases hp : p < 8
    · have h0 : p / 8 = 0 := by omega
      have h1 : p % 8 = p := by omega
      unfold turnL
      rw [h0, h1]
      show (x ^^^ UInt8.ofNat (2 ^ p)).toNat ^^^ 2 ^ 8 * leX l = (x.toNat ^^^ 2 ^ 8 * leX l) ^^^ 2 ^ p
      rw [xor_u8 x p hp, Nat.xor_assoc, Nat.xor_assoc, Nat.xor_comm (2 ^ p)]
    · have h0 : p / 8 = (p - 8) / 8 + 1 := by omega
      have h1 : p % 8 = (p - 8) % 8 := by omega
      have e : turnL (x :: l) p = x :: turnL l (p - 8) := by
        unfold turnL
        rw [h0, h1, List.getD_cons_succ, List.set_cons_succ]
      rw [e]
      show x.toNat ^^^ 2 ^ 8 * leX (turnL l (p - 8)) = (x.toNat ^^^ 2 ^ 8 * leX l) ^^^ 2 ^ p
      rw [leX_turn l (p - 8) (by simp at h; omega), xor_mul, ← Nat.pow_add, show 8 + (p - 8) = p by omega, Nat.xor_assoc]
/-- The bits of a number are turned, from one of them on. -/
def turnsL (l : List UInt8) (f t : Nat) : Nat → List UInt8
  | 0 => l
  | k + 1 => if t / 2 ^ k % 2 = 1 then turnL (turnsL l f t k) (f + k) else turnsL l f t k
theorem turns_len (l : List UInt8) (f t : Nat) : ∀ k, (turnsL l f t k).length = l.length
  | 0 => rfl
  | k + 1 => by
    unfold turnsL
    split
    · rw [turn_len, turns_len l f t k]
    · exact turns_len l f t k
theorem leX_turns (l : List UInt8) (f t : Nat) : ∀ k, f + k ≤ 8 * l.length → leX (turnsL l f t k) = leX l ^^^ 2 ^ f * (t % 2 ^ k)
  | 0, _ => by rw [Nat.pow_zero, Nat.mod_one, Nat.mul_zero, Nat.xor_zero]; rfl
  | k + 1, h => by
    have ih := leX_turns l f t k (by omega)
    unfold turnsL
    have hs := Crc.split_bit t k
    by_cases h1 : t / 2 ^ k % 2 = 1
    · rw [if_pos h1, leX_turn _ _ (by rw [turns_len]; omega), ih, hs, h1, Nat.one_mul]
      have hm : 2 ^ f * (t % 2 ^ k ^^^ 2 ^ k) = 2 ^ f * (t % 2 ^ k) ^^^ 2 ^ (f + k) := by
        have := Nat.shiftLeft_xor_distrib (a := t % 2 ^ k) (b := 2 ^ k) (i := f)
        simp only [Nat.shiftLeft_eq] at this
        rw [Nat.mul_comm, this, Nat.mul_comm, Nat.pow_add, Nat.mul_comm (2 ^ k)]
      rw [hm, Nat.xor_assoc]
    · rw [if_neg h1, ih, hs, show t / 2 ^ k % 2 = 0 by omega, Nat.zero_mul, Nat.xor_zero]
/-- A record with turned bits is not read. -/
theorem turned_out {l : List UInt8} {f t : Nat} (ht : t < 4294967296) (h0 : t ≠ 0) (hf : f + 32 ≤ 8 * l.length) : Crc.more 0 (sizeL l.length ++ turnsL l f t 32) ≠ Crc.more 0 (sizeL l.length ++ l) := by
  intro h
  unfold Crc.more at h
  have l1 := Crc.take_lt (sizeL l.length ++ turnsL l f t 32) (s := 4294967295 - 0) (by omega)
  have l2 := Crc.take_lt (sizeL l.length ++ l) (s := 4294967295 - 0) (by omega)
  have h' : Crc.take (4294967295 - 0) (sizeL l.length ++ turnsL l f t 32) = Crc.take (4294967295 - 0) (sizeL l.length ++ l) := by omega
  rw [Crc.take_append, Crc.take_append] at h'
  have hx := leX_turns l f t 32 hf
  rw [Nat.mod_eq_of_lt (by simpa using ht)] at hx
  exact h0 (burst (turns_len l f t 32) hx ht hf h')
end Go.Proofs.YtlknmpnjhbdlhaaDoor.Fra
