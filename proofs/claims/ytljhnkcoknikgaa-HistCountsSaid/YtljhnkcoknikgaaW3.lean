/- Layer 44 (hist): the statement HistBuckets' walk, with alive as a premise. -/
import Derived.Test.YtljhnkcoknikgaaW2
namespace Go.Proofs.Ytljhnkcoknikgaa
open Go.RowKit

/-- What the law asks of a bucket's bounds. -/
theorem bounds_in (i : Int) (h : 1 ≤ i ∧ i ≤ 22) : bk (lowB i) = i ∧ bk (highB i) = i ∧ bk (highB i + 1) = i + 1 ∧ bk (lowB i - 1) = i - 1 ∧ 0 ≤ lowB i ∧ lowB i ≤ highB i ∧ highB i ≤ 4194304 := by
  have hi : i = 1 ∨ i = 2 ∨ i = 3 ∨ i = 4 ∨ i = 5 ∨ i = 6 ∨ i = 7 ∨ i = 8 ∨ i = 9 ∨ i = 10 ∨ i = 11 ∨ i = 12 ∨ i = 13 ∨ i = 14 ∨ i = 15 ∨ i = 16 ∨ i = 17 ∨ i = 18 ∨ i = 19 ∨ i = 20 ∨ i = 21 ∨ i = 22 := by omega
  clear h
  rcases hi with rfl | rfl | rfl | rfl | rfl | rfl | rfl | rfl | rfl | rfl | rfl | rfl | rfl | rfl | rfl | rfl | rfl | rfl | rfl | rfl | rfl | rfl <;> decide +kernel
theorem bounds_of (n : Int) (hn : -9223372036854775808 ≤ n ∧ n < 9223372036854775808) : n < 0 ∨ n > 1099511627776 ∨ (lowB (bk n) ≤ n ∧ n ≤ highB (bk n)) := by
  by_cases h0 : n < 0
  · exact .inl h0
  by_cases h1 : n > 1099511627776
  · exact .inr (.inl h1)
  refine .inr (.inr ?_)
  by_cases h2 : n = 0
  · subst h2; decide +kernel
  by_cases h3 : 4194304 ≤ n
  · rw [bk_hi n h3 hn.2]
    have e1 : lowB ((23 : Nat) : Int) = 4194304 := by decide +kernel
    have e2 : highB ((23 : Nat) : Int) = 1099511627776 := by decide +kernel
    rw [e1, e2]
    omega
  · obtain ⟨a, b, c⟩ := bk_len n (by omega) hn.2
    have hl : Lib.bitLen n.toNat ≤ 22 := by
      have hq' : (2 : Nat) ^ 22 = 4194304 := by decide
      have := (Nat.pow_lt_pow_iff_right (a := 2) (n := Lib.bitLen n.toNat - 1) (m := 22) (by omega)).1 (by omega)
      omega
    have e : (max n 0).toNat = n.toNat := by omega
    have hb : bk n = Lib.bitLen n.toNat := by unfold bk; rw [e]; omega
    rw [hb]
    generalize Lib.bitLen n.toNat = L at *
    have h23 : (1 : Int) ≤ (L : Int) ∧ (L : Int) ≤ 22 := by omega
    have h23' : (1 : Int) ≤ (L : Int) ∧ (L : Int) ≤ 23 := by omega
    unfold lowB highB
    rw [if_pos h23', if_pos h23]
    have t1 : ((L : Int) - 1).toNat = L - 1 := by omega
    have t2 : ((L : Int)).toNat = L := by omega
    rw [t1, t2]
    omega
def AliveH : Prop := ∀ w, Calls Try.prog 15 #[] w fun e w' => e = .returned (.bool true) ∧ Below w.heap.size w w'
end Go.Proofs.Ytljhnkcoknikgaa
