/- Layer 48 (wait), plain: bounds, doublings. No program. -/
import Derived.Test.YtoidloofclalhabKit
namespace Go.Proofs.Ytoidloofclalhab
theorem i64_top {n : Int} (h : (Lit.int .i64 n).wf = true) : n ≤ 9223372036854775807 := by
  have h2 : (decide (IntKind.i64.min ≤ n) && decide (n ≤ IntKind.i64.max)) = true := h
  rw [Bool.and_eq_true, decide_eq_true_eq, decide_eq_true_eq, show IntKind.i64.max = 9223372036854775807 from by decide] at h2
  exact h2.2
theorem i64_low {n : Int} (h : (Lit.int .i64 n).wf = true) : -9223372036854775808 ≤ n := by
  have h2 : (decide (IntKind.i64.min ≤ n) && decide (n ≤ IntKind.i64.max)) = true := h
  rw [Bool.and_eq_true, decide_eq_true_eq, decide_eq_true_eq, show IntKind.i64.min = -9223372036854775808 from by decide] at h2
  exact h2.1

theorem u32_bd {n : Int} (h : (Lit.int .u32 n).wf = true) : 0 ≤ n ∧ n < 4294967296 := by
  have h2 : (decide (IntKind.u32.min ≤ n) && decide (n ≤ IntKind.u32.max)) = true := h
  rw [Bool.and_eq_true, decide_eq_true_eq, decide_eq_true_eq, show IntKind.u32.max = 4294967295 from by decide, show IntKind.u32.min = 0 from by decide] at h2
  omega
/-- A number within bounds. -/
def clampI (n lo hi : Int) : Int := min (max n lo) hi
theorem clamp_bd (n lo hi : Int) (h : lo ≤ hi) : lo ≤ clampI n lo hi ∧ clampI n lo hi ≤ hi := by unfold clampI; omega
/-- The longest wait: F doubled k times, at most T. -/
def bndI (F T : Int) (k : Nat) : Int := min (F * 2 ^ k) T
theorem pow_bd (F : Int) (k : Nat) (hF : 1 ≤ F) (hF2 : F ≤ 1073741824) (hk : k ≤ 30) : 1 ≤ F * 2 ^ k ∧ F * 2 ^ k ≤ 1152921504606846976 := by
  have e : (2 : Int) ^ k = ((2 ^ k : Nat) : Int) := by rw [Int.natCast_pow]; rfl
  have h1 : (1 : Int) ≤ 2 ^ k := by
    have := Nat.one_le_two_pow (n := k)
    omega
  have h2 : (2 : Int) ^ k ≤ 1073741824 := by
    have := Nat.pow_le_pow_right (n := 2) (by omega) hk
    have h3 : (2 : Nat) ^ 30 = 1073741824 := by decide
    rw [h3] at this
    omega
  have h4 : (0 : Int) ≤ F * 2 ^ k - F * 1 := by rw [← Int.mul_sub]; exact Int.mul_nonneg (by omega) (by omega)
  have h5 : (0 : Int) ≤ F * 1073741824 - F * 2 ^ k := by rw [← Int.mul_sub]; exact Int.mul_nonneg (by omega) (by omega)
  omega
theorem pow_ge (F : Int) (j k : Nat) (hF : 1 ≤ F) (h : j ≤ k) : F * 2 ^ j ≤ F * 2 ^ k := by
  have h2 : (2 : Int) ^ j ≤ 2 ^ k := by
    have := Nat.pow_le_pow_right (n := 2) (by omega) h
    exact_mod_cast this
  have h5 : (0 : Int) ≤ F * 2 ^ k - F * 2 ^ j := by rw [← Int.mul_sub]; exact Int.mul_nonneg (by omega) (by omega)
  omega
theorem pow_30 (F : Int) (k : Nat) (hF : 1 ≤ F) (h : 30 ≤ k) : 1073741824 ≤ F * 2 ^ k := by
  have h1 := pow_ge F 30 k hF h
  have h3 : (2 : Int) ^ 30 = 1073741824 := by decide
  rw [h3] at h1
  omega
theorem pow_next (F : Int) (k : Nat) : F * 2 ^ k + F * 2 ^ k = F * 2 ^ (k + 1) := by rw [Int.pow_succ, ← Int.mul_assoc]; omega
/-- Behind the document's doublings: the bound is the same. -/
theorem bnd_stop (F T : Int) (i t : Nat) (hF : 1 ≤ F) (hT : T ≤ 1073741824) (hi : i ≤ min t 40) (h : i = min t 40 ∨ T ≤ F * 2 ^ i) : bndI F T i = bndI F T (min t 30) := by
  unfold bndI
  by_cases h1 : i ≤ min t 30
  · have h2 := pow_ge F i (min t 30) hF h1
    rcases h with h | h
    · have : i = min t 30 := by omega
      rw [this]
    · omega
  · have h2 := pow_30 F i hF (by omega)
    have h3 := pow_30 F (min t 30) hF (by omega)
    omega
end Go.Proofs.Ytoidloofclalhab
