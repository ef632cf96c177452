/- Layer 44 (hist): the law's bucket; Bounds. -/
import Derived.Test.YtljhnkcoknikgaaW1
namespace Go.Proofs.Ytljhnkcoknikgaa
open Go.RowKit

theorem pow_le22 (k : Nat) (hk : k ≤ 22) : 2 ^ k ≤ 4194304 := by
  have h : 2 ^ k ≤ 2 ^ 22 := Nat.pow_le_pow_right (by omega) hk
  have hq' : (2 : Nat) ^ 22 = 4194304 := by decide
  omega
theorem wrap_pow (k : Nat) (hk : k ≤ 22) : wrap64 ((2 : Int) ^ k) = ((2 ^ k : Nat) : Int) := by
  have h := pow_le22 k hk
  have e : ((2 : Int) ^ k) = ((2 ^ k : Nat) : Int) := by simp
  rw [e]
  generalize (2 : Nat) ^ k = z at *
  unfold wrap64
  omega
theorem lbucket_any (n : Int) (hn : -9223372036854775808 ≤ n ∧ n < 9223372036854775808) (w : World) :
    Calls Try.prog 11 #[.int .i64 n] w fun e w' => e = .returned (.int .i64 (bk n : Nat)) ∧ w' = w := by
  go_enter Try.func11, Try.ntmps11
  go_wp2
  go_loopw [3] (fun i wr => ∃ k : Nat, i = .int .i64 k ∧ k ≤ 23 ∧ wr = w ∧ Hid (k = 0 ∨ ((2 ^ (k - 1) : Nat) : Int) ≤ n)) (fun i _ => 23 - (intOf i).toNat)
  case atStart => exact ⟨0, rfl, by omega, rfl, Lib.hid (.inl rfl)⟩
  case round =>
    obtain ⟨k, rfl, hk, rfl, HK⟩ := hrel
    by_cases h1 : k < 23
    · have hs := wrap_pow k (by omega)
      have hp := pow_le22 k (by omega)
      have hp0 : 0 < 2 ^ k := Nat.two_pow_pos k
      have HP := Lib.hid (show ((2 ^ k : Nat) : Int) = ((2 ^ k : Nat) : Int) from rfl)
      generalize hz : (2 : Nat) ^ k = z at hs hp hp0
      have HZ := Lib.hid hz
      clear hz HP
      by_cases h2 : n < wrap64 (2 ^ k)
      · go_wp2
        go_ret
        refine ⟨ret_int ?_, rfl⟩
        rcases HK.out with rfl | hl
        · have := HZ.out
          rw [bk_lo n (by simp at this; omega)]
        · by_cases h0 : k = 0
          · subst h0
            have := HZ.out
            rw [bk_lo n (by simp at this; omega)]
          · obtain ⟨m, rfl⟩ : ∃ m, k = m + 1 := ⟨k - 1, by omega⟩
            rw [bk_at n m (by omega) (by simpa using hl) (by rw [HZ.out]; omega)]
      · go_wp2
        go_roundw
        case rel => exact ⟨k + 1, by go_num, by omega, trivial, Lib.hid (.inr (by have := HZ.out; simp only [Nat.add_sub_cancel]; rw [this]; omega))⟩
        case measure => simp [intOf]; omega
    · have e : k = 23 := by omega
      subst e
      go_wp2
      go_ret
      refine ⟨ret_int ?_, rfl⟩
      rcases HK.out with h | hl
      · omega
      · have hq' : (2 : Nat) ^ (23 - 1) = 4194304 := by decide
        rw [hq'] at hl
        rw [bk_hi n (by omega) hn.2]
        rfl
/-- The bounds of a bucket. -/
def lowB (i : Int) : Int := if 1 ≤ i ∧ i ≤ 23 then ((2 ^ (i - 1).toNat : Nat) : Int) else 0
def highB (i : Int) : Int := if 1 ≤ i ∧ i ≤ 22 then ((2 ^ i.toNat : Nat) : Int) - 1 else if i = 23 then 1099511627776 else 0
set_option maxHeartbeats 4000000 in
theorem bounds_mid (i : Int) (h : 1 ≤ i ∧ i ≤ 22) (w : World) :
    Calls Try.prog 17 #[.int .i64 i] w fun e w' => e = .returned (.tuple #[.int .i64 (lowB i), .int .i64 (highB i), .bool true]) ∧ Below w.heap.size w w' := by
  have hi : i = 1 ∨ i = 2 ∨ i = 3 ∨ i = 4 ∨ i = 5 ∨ i = 6 ∨ i = 7 ∨ i = 8 ∨ i = 9 ∨ i = 10 ∨ i = 11 ∨ i = 12 ∨ i = 13 ∨ i = 14 ∨ i = 15 ∨ i = 16 ∨ i = 17 ∨ i = 18 ∨ i = 19 ∨ i = 20 ∨ i = 21 ∨ i = 22 := by omega
  clear h
  rcases hi with rfl | rfl | rfl | rfl | rfl | rfl | rfl | rfl | rfl | rfl | rfl | rfl | rfl | rfl | rfl | rfl | rfl | rfl | rfl | rfl | rfl | rfl
  all_goals
    go_enter Try.func17, Try.ntmps17
    go_wp2
    go_region
    all_goals
      go_wp2
      go_ret3
      exact ⟨rfl, (Below.refl _ _).drew⟩
theorem bounds_any (i : Int) (hn : -9223372036854775808 ≤ i ∧ i < 9223372036854775808) (w : World) :
    Calls Try.prog 17 #[.int .i64 i] w fun e w' => e = .returned (.tuple #[.int .i64 (lowB i), .int .i64 (highB i), .bool (decide (0 ≤ i ∧ i < 24))]) ∧ Below w.heap.size w w' := by
  by_cases h1 : 1 ≤ i ∧ i ≤ 22
  · rw [decide_eq_true (show 0 ≤ i ∧ i < 24 by omega)]
    exact bounds_mid i h1 w
  · by_cases h2 : i < 0
    · have e1 : lowB i = 0 := by unfold lowB; rw [if_neg (by omega)]
      have e2 : highB i = 0 := by unfold highB; rw [if_neg (by omega), if_neg (by omega)]
      have e3 : decide (0 ≤ i ∧ i < 24) = false := decide_eq_false (by omega)
      rw [e1, e2, e3]
      clear e1 e2 e3 h1
      go_enter Try.func17, Try.ntmps17
      go_wp2
      go_ret3
      exact ⟨rfl, Below.refl _ _⟩
    · by_cases h3 : 24 ≤ i
      · have e1 : lowB i = 0 := by unfold lowB; rw [if_neg (by omega)]
        have e2 : highB i = 0 := by unfold highB; rw [if_neg (by omega), if_neg (by omega)]
        have e3 : decide (0 ≤ i ∧ i < 24) = false := decide_eq_false (by omega)
        rw [e1, e2, e3]
        clear e1 e2 e3 h1
        go_enter Try.func17, Try.ntmps17
        go_wp2
        go_ret3
        exact ⟨rfl, Below.refl _ _⟩
      · have h4 : i = 0 ∨ i = 23 := by omega
        clear h1 h2 h3 hn
        rcases h4 with rfl | rfl
        all_goals
          go_enter Try.func17, Try.ntmps17
          go_wp2
          go_ret3
          exact ⟨rfl, Below.refl _ _⟩
end Go.Proofs.Ytljhnkcoknikgaa
