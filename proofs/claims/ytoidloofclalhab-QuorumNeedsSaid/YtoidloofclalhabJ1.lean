/- Layer 32 (quorum), plain: how many copies each level needs; which levels meet. No program. -/
import Derived.Test.YtoidloofclalhabKit
namespace Go.Proofs.Ytoidloofclalhab
theorem i64_top {n : Int} (h : (Lit.int .i64 n).wf = true) : n ≤ 9223372036854775807 := by
  have h2 : (decide (IntKind.i64.min ≤ n) && decide (n ≤ IntKind.i64.max)) = true := h
  rw [Bool.and_eq_true, decide_eq_true_eq, decide_eq_true_eq, show IntKind.i64.max = 9223372036854775807 from by decide] at h2
  exact h2.2
theorem i64_low {n : Int} (h : (Lit.int .i64 n).wf = true) : -9223372036854775808 ≤ n := by
  have h2 : (decide (IntKind.i64.min ≤ n) && decide (n ≤ IntKind.i64.max)) = true := h
  rw [Bool.and_eq_true, decide_eq_true_eq, decide_eq_true_eq, show IntKind.i64.min = -9223372036854775808 from by decide] at h2
  exact h2.1

/-- How many of c copies the level l needs. -/
def ndN (l c : Int) : Int := if c < 1 then 0 else if l = 1 then 1 else if l = 2 then c / 2 + 1 else if l = 3 then c else 0
def ndB (l c : Int) : Bool := decide (1 ≤ c ∧ 1 ≤ l ∧ l ≤ 3)
/-- Do two levels meet? -/
def mtB (a b c : Int) : Bool := ndB a c && ndB b c && decide (c - ndN b c < ndN a c)
theorem nd_bd (l c : Int) (h : ndB l c = true) : 1 ≤ ndN l c ∧ ndN l c ≤ c := by
  unfold ndB at h
  simp at h
  obtain ⟨h1, h2, h3⟩ := h
  unfold ndN
  rw [if_neg (by omega)]
  split
  · omega
  · split
    · omega
    · split
      · omega
      · omega
/-- How many bits are set. -/
def popF : Nat → Nat → Nat
  | 0, _ => 0
  | f + 1, n => n % 2 + popF f (n / 2)
def pop (n : Nat) : Nat := popF 6 n
/-- A pair of choices that have none together. -/
def badP (a b x y : Nat) : Bool := pop x == a && (pop y == b && (x &&& y) == 0)
def someBad (a b n m : Nat) : Bool := (List.range n).any fun x => (List.range m).any fun y => badP a b x y
theorem shares_all : ∀ c : Fin 6, ∀ a : Fin 6, ∀ b : Fin 6, 1 ≤ a.val → a.val ≤ c.val → 1 ≤ b.val → b.val ≤ c.val → someBad a.val b.val (2 ^ c.val) (2 ^ c.val) = decide (a.val + b.val ≤ c.val) := by decide +kernel
end Go.Proofs.Ytoidloofclalhab
