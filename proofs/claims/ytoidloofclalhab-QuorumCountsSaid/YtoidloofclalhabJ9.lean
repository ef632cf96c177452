/- Layer 32 (quorum): the statement QuorumCounts, at every input. -/
import Derived.Test.YtoidloofclalhabJ8
namespace Go.Proofs.Ytoidloofclalhab
open Go.RowKit

set_option maxRecDepth 100000 in
set_option maxHeartbeats 1000000 in
theorem counts_out (need copies : Int) (a : Option Addr) (n cap : Nat) (hm : n ≤ 9223372036854775807) (h : 50 < n ∨ 1099511627776 < copies ∨ copies < -1099511627776) (w : World) :
    Calls Try.prog 5 #[.int .i64 need, .int .i64 copies, .slice a n cap] w fun e w' => e = .returned (.bool true) ∧ Below w.heap.size w w' := by
  by_cases h1 : 50 < n
  · go_enter Try.func5, Try.ntmps5
    go_wp2_with fail
    go_ret
    exact ⟨rfl, Below.refl _ _⟩
  · by_cases h2 : 1099511627776 < copies
    · go_enter Try.func5, Try.ntmps5
      go_wp2_with fail
      go_ret
      exact ⟨rfl, Below.refl _ _⟩
    · have h3 : copies < -1099511627776 := by omega
      go_enter Try.func5, Try.ntmps5
      go_wp2_with fail
      go_ret
      exact ⟨rfl, Below.refl _ _⟩
set_option maxRecDepth 100000 in
set_option maxHeartbeats 1000000 in
theorem counts_none (need copies : Int) (a : Option Addr) (cap : Nat) (hc1 : -1099511627776 ≤ copies) (hc2 : copies ≤ 1099511627776) (w : World) :
    Calls Try.prog 5 #[.int .i64 need, .int .i64 copies, .slice a 0 cap] w fun e w' => e = .returned (.bool true) ∧ Below w.heap.size w w' := by
  go_enter Try.func5, Try.ntmps5
  go_wp2_with fail
  refine (qnew_any _ _ _).mono ?_; rintro e w1 ⟨rfl, hq1, hb1⟩
  clear hq1
  have hs := hb1.size
  go_wp2_with fail
  refine wp_loop_rounds 1 ?_
  rw [rounds_succ]
  go_wp2_with fail
  refine (alive32_any _).mono ?_; rintro e w2 ⟨rfl, rfl⟩
  go_wp2_with fail
  go_ret
  exact ⟨rfl, (hb1.alloc hs _).alloc (by simp; omega) _⟩
theorem countslaw (need copies : Int) (v : Value) (w : World) (h : ∃ l, WR w v l) :
    Calls Try.prog 5 #[.int .i64 need, .int .i64 copies, v] w fun e w' => e = .returned (.bool true) ∧ Below w.heap.size w w' := by
  obtain ⟨l, a, cap, rfl, hm, hs⟩ := h
  by_cases h1 : 50 < l.length ∨ 1099511627776 < copies ∨ copies < -1099511627776
  · exact counts_out need copies a l.length cap (by unfold maxLen at hm; omega) h1 w
  · by_cases h0 : l = []
    · subst h0; exact counts_none need copies a cap (by omega) (by omega) w
    · obtain ⟨b, off, rfl, hcell⟩ := hs h0
      have hpos : 0 < l.length := by
        rcases Nat.eq_zero_or_pos l.length with h2 | h2
        · exact absurd (List.eq_nil_of_length_eq_zero h2) h0
        · exact h2
      exact counts_some need copies b off cap l (by omega) (by omega) (by omega) w hcell (World.block_lt_of_cell? _ _ (hcell 0 hpos).1)
end Go.Proofs.Ytoidloofclalhab
