/-
  strings.ToLower at a text of ASCII without capitals.
-/
import Derived.Test.YtedoajiapicpnaaDoorDocBa
namespace Go.Proofs.YtedoajiapicpnaaDoor
open Go.RowKit
attribute [local go_sem ↓] Go.wp_at_zero Go.wp_at_succ

set_option maxRecDepth 100000 in
set_option maxHeartbeats 1000000 in
theorem low_any (s : ByteArray) (w : World) (hs : s.size ≤ 1000) (h : ∀ c ∈ s.data.toList, lowP c) :
    Calls Tryd.prog 28 #[.string s] w fun e w' => e = .returned (.string s) ∧ w = w' := by
  have H := Lib.hid h
  clear h
  go_enter Tryd.func28, Tryd.ntmps28
  go_wp2
  go_loop [3, 4, 5] (fun a u i => ∃ k : Nat, k ≤ s.size ∧ a = .bool true ∧ u = .bool false ∧ i = .int .i64 (k : Int)) (fun _ _ i => s.size - (intOf i).toNat)
  case atStart => exact ⟨0, Nat.zero_le _, rfl, rfl, rfl⟩
  case round =>
    obtain ⟨k, hk, rfl, rfl, rfl⟩ := hrel
    by_cases hlt : k < s.size
    · have hm : s[k]'hlt ∈ s.data.toList := by
        show s.data[k]'hlt ∈ s.data.toList
        exact Array.getElem_mem_toList hlt
      obtain ⟨h1, h2⟩ := H.out _ hm
      have h3 : ((s[k]'hlt).toNat : Int) < 128 := by omega
      clear hm
      rcases h1 with h1 | h1
      · have h4 : ((s[k]'hlt).toNat : Int) < 65 := by omega
        clear h1 h2
        go_wp2
        go_round
        case rel => exact ⟨k + 1, by omega, rfl, rfl, by go_num⟩
        case measure => simp [intOf]; omega
      · have h4 : 90 < ((s[k]'hlt).toNat : Int) := by omega
        clear h1 h2
        go_wp2
        go_round
        case rel => exact ⟨k + 1, by omega, rfl, by rw [decide_eq_false (by omega)], by go_num⟩
        case measure => simp [intOf]; omega
    · go_wp2
      go_ret
      exact ⟨rfl, rfl⟩
end Go.Proofs.YtedoajiapicpnaaDoor
