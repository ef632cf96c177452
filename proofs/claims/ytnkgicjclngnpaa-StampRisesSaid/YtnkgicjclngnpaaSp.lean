/- Layer 4 (stamp): the statement that each stamp is behind all, at every input. -/
import Derived.Test.YtnkgicjclngnpaaSo
import Derived.Test.YtnkgicjclngnpaaSl
namespace Go.Proofs.Ytnkgicjclngnpaa
open Go.RowKit

theorem rises_out (who phys : Int) (a : Option Addr) (n cap : Nat) (hm : n ≤ 9223372036854775807) (h : 100 < n ∨ who < 0 ∨ 1099511627776 < who) (w : World) :
    Calls Try.prog 8 #[.int .i64 who, .int .i64 phys, .slice a n cap] w fun e w' => e = .returned (.bool true) ∧ Below w.heap.size w w' := by
  by_cases h1 : 100 < n
  · go_enter Try.func8, Try.ntmps8
    go_wp2_with fail
    go_ret
    exact ⟨rfl, Below.refl _ _⟩
  · by_cases h2 : who < 0
    · go_enter Try.func8, Try.ntmps8
      go_wp2_with fail
      go_ret
      exact ⟨rfl, Below.refl _ _⟩
    · have h3 : 1099511627776 < who := by omega
      go_enter Try.func8, Try.ntmps8
      go_wp2_with fail
      go_ret
      exact ⟨rfl, Below.refl _ _⟩
set_option maxRecDepth 100000 in
set_option maxHeartbeats 1000000 in
theorem rises_none (who phys : Int) (h0 : 0 ≤ who) (h1 : who ≤ 1099511627776) (a : Option Addr) (cap : Nat) (w : World) :
    Calls Try.prog 8 #[.int .i64 who, .int .i64 phys, .slice a 0 cap] w fun e w' => e = .returned (.bool true) ∧ Below w.heap.size w w' := by
  go_enter Try.func8, Try.ntmps8
  go_wp2_with fail
  refine (new_any _ _ _).mono ?_; rintro e w1 ⟨rfl, hc1, hb1⟩
  clear hc1
  go_wp2_with fail
  refine wp_loop_rounds 1 ?_
  rw [rounds_succ]
  go_wp2_with fail
  refine (alive4_any _).mono ?_; rintro e w9 ⟨rfl, hb9⟩
  go_wp2_with fail
  go_ret
  exact ⟨rfl, bnext hb1 hb9⟩
theorem riseslaw (who phys : Int) (v : Value) (w : World) (h : ∃ n f, OpsAt w v n f) :
    Calls Try.prog 8 #[.int .i64 who, .int .i64 phys, v] w fun e w' => e = .returned (.bool true) ∧ Below w.heap.size w w' := by
  obtain ⟨n, f, a, cap, rfl, hc, hm, hs⟩ := h
  by_cases h1 : 100 < n ∨ who < 0 ∨ 1099511627776 < who
  · exact rises_out who phys a n cap (by unfold maxLen at hm; omega) h1 w
  · by_cases h0 : n = 0
    · subst h0; exact rises_none who phys (by omega) (by omega) a cap w
    · obtain ⟨b, off, rfl, hb, hcell⟩ := hs h0
      exact rises_some who phys (by omega) (by omega) b off cap n f (by omega) hc w hb hcell
end Go.Proofs.Ytnkgicjclngnpaa
