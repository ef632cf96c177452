/- Layer 44 (hist): the statement HistBuckets' walk, with alive as a premise. -/
import Derived.Test.YtljhnkcoknikgaaW3
namespace Go.Proofs.Ytljhnkcoknikgaa
open Go.RowKit

def LbH (n m : Int) : Prop := ∀ w, Calls Try.prog 11 #[.int .i64 n] w fun e w' => e = .returned (.int .i64 m) ∧ w' = w
def BdH (i l h : Int) (ok : Bool) : Prop := ∀ w, Calls Try.prog 17 #[.int .i64 i] w fun e w' => e = .returned (.tuple #[.int .i64 l, .int .i64 h, .bool ok]) ∧ Below w.heap.size w w'
def BkH (n b : Int) : Prop := ∀ w, Calls Try.prog 16 #[.int .i64 n] w fun e w' => e = .returned (.int .i64 b) ∧ w' = w
set_option maxHeartbeats 4000000 in
theorem law_no (HA : Hid AliveH) (n i b l2 h2 : Int) (c1 : Hid (BkH n b)) (c2 : Hid (BdH i 0 0 false)) (c3 : Hid (LbH n b)) (c4 : Hid (BdH b l2 h2 true)) (hn : n < 0 ∨ n > 1099511627776 ∨ (l2 ≤ n ∧ n ≤ h2)) (hi : i < 0 ∨ 24 ≤ i) (w : World) :
    Calls Try.prog 4 #[.int .i64 n, .int .i64 i] w fun e w' => e = .returned (.bool true) ∧ Below w.heap.size w w' := by
  have hn' : n < 0 ∨ (0 ≤ n ∧ n > 1099511627776) ∨ (0 ≤ n ∧ n ≤ 1099511627776 ∧ l2 ≤ n ∧ n ≤ h2) := by omega
  clear hn
  rcases hi with hi | hi <;> rcases hn' with hn | ⟨hn0, hn⟩ | ⟨hn0, hn1, hn2, hn3⟩
  all_goals
    go_enter Try.func4, Try.ntmps4
    go_wp2_with fail
    refine (c1.out _).mono ?_; rintro e w1 ⟨rfl, rfl⟩
    go_wp2_with fail
    refine (c2.out _).mono ?_; rintro e w2 ⟨rfl, hb2⟩
    go_wp2_with fail
    refine (c3.out _).mono ?_; rintro e w3 ⟨rfl, rfl⟩
    go_wp2_with fail
    refine (c4.out _).mono ?_; rintro e w4 ⟨rfl, hb4⟩
    go_wp2_with fail
    refine (HA.out _).mono ?_; rintro e w5 ⟨rfl, hb5⟩
    go_wp2_with fail
    go_ret
    exact ⟨rfl, bnext (bnext hb2 hb4) hb5⟩
set_option maxHeartbeats 8000000 in
theorem law_yes (HA : Hid AliveH) (n i b l h l2 h2 : Int) (c1 : Hid (BkH n b)) (c2 : Hid (BdH i l h true)) (c3 : Hid (LbH n b)) (c4 : Hid (BdH b l2 h2 true)) (d1 : Hid (LbH l i)) (d2 : Hid (LbH h i)) (d3 : Hid (i < 23 → LbH (h + 1) (i + 1))) (d4 : Hid (0 < i → LbH (l - 1) (i - 1)))
    (hn : n < 0 ∨ n > 1099511627776 ∨ (l2 ≤ n ∧ n ≤ h2)) (hi : 0 ≤ i ∧ i < 24) (hl : 0 ≤ l ∧ l ≤ 4194304) (hh : 0 ≤ h ∧ h ≤ 1099511627776) (w : World) :
    Calls Try.prog 4 #[.int .i64 n, .int .i64 i] w fun e w' => e = .returned (.bool true) ∧ Below w.heap.size w w' := by
  have hn' : n < 0 ∨ (0 ≤ n ∧ n > 1099511627776) ∨ (0 ≤ n ∧ n ≤ 1099511627776 ∧ l2 ≤ n ∧ n ≤ h2) := by omega
  clear hn
  obtain ⟨hi0, hi1⟩ := hi
  obtain ⟨hl0, hl1⟩ := hl
  obtain ⟨hh0, hh1⟩ := hh
  have hi' : (i < 23 ∧ 0 < i) ∨ (i < 23 ∧ i ≤ 0) ∨ (23 ≤ i ∧ 0 < i) := by omega
  rcases hi' with ⟨hi2, hi3⟩ | ⟨hi2, hi3⟩ | ⟨hi2, hi3⟩
  · replace d3 := Lib.hid (d3.out (by omega))
    replace d4 := Lib.hid (d4.out (by omega))
    rcases hn' with hn | ⟨hn0, hn⟩ | ⟨hn0, hn1, hn2, hn3⟩
    all_goals
      go_enter Try.func4, Try.ntmps4
      go_wp2_with fail
      refine (c1.out _).mono ?_; rintro e w1 ⟨rfl, rfl⟩
      go_wp2_with fail
      refine (c2.out _).mono ?_; rintro e w2 ⟨rfl, hb2⟩
      go_wp2_with fail
      refine (c3.out _).mono ?_; rintro e w3 ⟨rfl, rfl⟩
      go_wp2_with fail
      refine (d1.out _).mono ?_; rintro e w3 ⟨rfl, rfl⟩
      go_wp2_with fail
      refine (d2.out _).mono ?_; rintro e w3 ⟨rfl, rfl⟩
      go_wp2_with fail
      refine (d3.out _).mono ?_; rintro e w3 ⟨rfl, rfl⟩
      go_wp2_with fail
      refine (d4.out _).mono ?_; rintro e w3 ⟨rfl, rfl⟩
      go_wp2_with fail
      refine (c4.out _).mono ?_; rintro e w4 ⟨rfl, hb4⟩
      go_wp2_with fail
      refine (HA.out _).mono ?_; rintro e w5 ⟨rfl, hb5⟩
      go_wp2_with fail
      go_ret
      exact ⟨rfl, bnext (bnext hb2 hb4) hb5⟩
  · replace d3 := Lib.hid (d3.out (by omega))
    clear d4
    rcases hn' with hn | ⟨hn0, hn⟩ | ⟨hn0, hn1, hn2, hn3⟩
    all_goals
      go_enter Try.func4, Try.ntmps4
      go_wp2_with fail
      refine (c1.out _).mono ?_; rintro e w1 ⟨rfl, rfl⟩
      go_wp2_with fail
      refine (c2.out _).mono ?_; rintro e w2 ⟨rfl, hb2⟩
      go_wp2_with fail
      refine (c3.out _).mono ?_; rintro e w3 ⟨rfl, rfl⟩
      go_wp2_with fail
      refine (d1.out _).mono ?_; rintro e w3 ⟨rfl, rfl⟩
      go_wp2_with fail
      refine (d2.out _).mono ?_; rintro e w3 ⟨rfl, rfl⟩
      go_wp2_with fail
      refine (d3.out _).mono ?_; rintro e w3 ⟨rfl, rfl⟩
      go_wp2_with fail
      refine (c4.out _).mono ?_; rintro e w4 ⟨rfl, hb4⟩
      go_wp2_with fail
      refine (HA.out _).mono ?_; rintro e w5 ⟨rfl, hb5⟩
      go_wp2_with fail
      go_ret
      exact ⟨rfl, bnext (bnext hb2 hb4) hb5⟩
  · clear d3
    replace d4 := Lib.hid (d4.out (by omega))
    rcases hn' with hn | ⟨hn0, hn⟩ | ⟨hn0, hn1, hn2, hn3⟩
    all_goals
      go_enter Try.func4, Try.ntmps4
      go_wp2_with fail
      refine (c1.out _).mono ?_; rintro e w1 ⟨rfl, rfl⟩
      go_wp2_with fail
      refine (c2.out _).mono ?_; rintro e w2 ⟨rfl, hb2⟩
      go_wp2_with fail
      refine (c3.out _).mono ?_; rintro e w3 ⟨rfl, rfl⟩
      go_wp2_with fail
      refine (d1.out _).mono ?_; rintro e w3 ⟨rfl, rfl⟩
      go_wp2_with fail
      refine (d2.out _).mono ?_; rintro e w3 ⟨rfl, rfl⟩
      go_wp2_with fail
      refine (d4.out _).mono ?_; rintro e w3 ⟨rfl, rfl⟩
      go_wp2_with fail
      refine (c4.out _).mono ?_; rintro e w4 ⟨rfl, hb4⟩
      go_wp2_with fail
      refine (HA.out _).mono ?_; rintro e w5 ⟨rfl, hb5⟩
      go_wp2_with fail
      go_ret
      exact ⟨rfl, bnext (bnext hb2 hb4) hb5⟩
theorem histlaw (HA : AliveH) (n i : Int) (hn : -9223372036854775808 ≤ n ∧ n < 9223372036854775808) (hi : -9223372036854775808 ≤ i ∧ i < 9223372036854775808) (w : World) :
    Calls Try.prog 4 #[.int .i64 n, .int .i64 i] w fun e w' => e = .returned (.bool true) ∧ Below w.heap.size w w' := by
  have hb := bk_le n
  have c1 := Lib.hid (show BkH n (bk n : Nat) from bucket_any n hn)
  have c3 := Lib.hid (show LbH n (bk n : Nat) from lbucket_any n hn)
  have c4 : Hid (BdH (bk n : Nat) (lowB (bk n : Nat)) (highB (bk n : Nat)) true) := Lib.hid (by
    have h := bounds_any (bk n : Nat) (by omega)
    rw [decide_eq_true (by omega)] at h
    exact h)
  have c2 := Lib.hid (bounds_any i hi)
  have hf := bounds_of n hn
  by_cases h1 : 0 ≤ i ∧ i < 24
  · have c2' : Hid (BdH i (lowB i) (highB i) true) := Lib.hid (by
      have h := c2.out
      rw [decide_eq_true h1] at h
      exact h)
    by_cases h2 : 1 ≤ i ∧ i ≤ 22
    · obtain ⟨e1, e2, e3, e4, e5, e6, e7⟩ := bounds_in i h2
      refine law_yes (Lib.hid HA) n i _ _ _ _ _ c1 c2' c3 c4 (Lib.hid ?_) (Lib.hid ?_) (Lib.hid fun _ => ?_) (Lib.hid fun _ => ?_) hf h1 (by omega) (by omega) w
      · have h := lbucket_any (lowB i) (by omega); rw [e1] at h; exact h
      · have h := lbucket_any (highB i) (by omega); rw [e2] at h; exact h
      · have h := lbucket_any (highB i + 1) (by omega); rw [e3] at h; exact h
      · have h := lbucket_any (lowB i - 1) (by omega); rw [e4] at h; exact h
    · have h3 : i = 0 ∨ i = 23 := by omega
      rcases h3 with rfl | rfl
      · exact law_yes (Lib.hid HA) n 0 _ 0 0 _ _ c1 c2' c3 c4 (Lib.hid (lbucket_any 0 (by omega))) (Lib.hid (lbucket_any 0 (by omega))) (Lib.hid fun _ => lbucket_any 1 (by omega)) (Lib.hid fun h => absurd h (by omega)) hf h1 (by omega) (by omega) w
      · exact law_yes (Lib.hid HA) n 23 _ 4194304 1099511627776 _ _ c1 c2' c3 c4 (Lib.hid (lbucket_any 4194304 (by omega))) (Lib.hid (lbucket_any 1099511627776 (by omega))) (Lib.hid fun h => absurd h (by omega)) (Lib.hid fun _ => lbucket_any 4194303 (by omega)) hf h1 (by omega) (by omega) w
  · have e1 : lowB i = 0 := by unfold lowB; rw [if_neg (by omega)]
    have e2 : highB i = 0 := by unfold highB; rw [if_neg (by omega), if_neg (by omega)]
    refine law_no (Lib.hid HA) n i _ _ _ c1 (Lib.hid ?_) c3 c4 hf (by omega) w
    have h := c2.out
    rw [decide_eq_false h1, e1, e2] at h
    exact h
end Go.Proofs.Ytljhnkcoknikgaa
