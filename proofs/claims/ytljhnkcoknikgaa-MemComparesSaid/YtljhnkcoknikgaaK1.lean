/- Layer 3 (wire): bytes of numbers, and numbers of bytes: plain facts. -/
import Derived.Test.YtljhnkcoknikgaaKg
import Derived.Test.YtljhnkcoknikgaaRow
namespace Go.Proofs.Ytljhnkcoknikgaa
open Go.RowKit

def lo (n : Nat) : UInt8 := UInt8.ofNat (n % 128)
def up (n : Nat) : UInt8 := UInt8.ofNat (128 + n % 128)
theorem lo_nat (n : Nat) : (lo n).toNat = n % 128 := by unfold lo; simp; omega
theorem up_nat (n : Nat) : (up n).toNat = 128 + n % 128 := by unfold up; simp; omega
/-- The bytes ahead of a number's last one. -/
def hiF : Nat → Nat → List UInt8
  | 0, _ => []
  | f + 1, n => if n = 0 then [] else hiF f (n / 128) ++ [up n]
def hi (n : Nat) : List UInt8 := hiF 9 n
def put (n : Nat) : List UInt8 := hi (n / 128) ++ [lo n]
theorem hiF_more : ∀ f n, n < 128 ^ f → hiF (f + 1) n = hiF f n
  | 0, n, h => by have : n = 0 := by simpa using h
                  subst this; rfl
  | f + 1, n, h => by
    by_cases h0 : n = 0
    · subst h0; simp [hiF]
    · have e : n / 128 < 128 ^ f := by rw [Nat.pow_succ] at h; omega
      show (if n = 0 then [] else hiF (f + 1) (n / 128) ++ [up n]) = (if n = 0 then [] else hiF f (n / 128) ++ [up n])
      rw [hiF_more f (n / 128) e]
theorem hi_zero : hi 0 = [] := rfl
theorem hi_step (n : Nat) (h0 : n ≠ 0) (h : n < 128 ^ 9) : hi n = hi (n / 128) ++ [up n] := by
  unfold hi
  have e := hiF_more 8 (n / 128) (by have : (128 : Nat) ^ 9 = 9223372036854775808 := by decide
                                     have : (128 : Nat) ^ 8 = 72057594037927936 := by decide
                                     omega)
  rw [show hiF 9 (n / 128) = hiF 8 (n / 128) from e]
  show (if n = 0 then [] else hiF 8 (n / 128) ++ [up n]) = _
  rw [if_neg h0]
theorem hiF_len : ∀ f n, (hiF f n).length ≤ f
  | 0, _ => by simp [hiF]
  | f + 1, n => by
    rw [hiF]; split
    · simp
    · have := hiF_len f (n / 128); simp; omega
theorem put_len (n : Nat) : 1 ≤ (put n).length ∧ (put n).length ≤ 10 := by
  have := hiF_len 9 (n / 128)
  unfold put hi; simp; omega
theorem put_small (n : Nat) (h : n < 128) : put n = [lo n] := by
  unfold put; rw [show n / 128 = 0 from by omega, hi_zero]; rfl

/-- A number's reading: the number, how many bytes, the fault. -/
def rdF : List UInt8 → Nat → Bool → Nat → Nat × Nat × Nat
  | [], _, _, _ => (0, 0, 30)
  | c :: l, n, first, k => if (first = true ∧ c.toNat = 128) ∨ 36028797018963968 ≤ n then (0, 0, 31)
    else if c.toNat < 128 then (n * 128 + c.toNat, k + 1, 0) else rdF l (n * 128 + (c.toNat - 128)) false (k + 1)
def rd (l : List UInt8) : Nat × Nat × Nat := rdF l 0 true 0
theorem u8_lt (c : UInt8) : c.toNat < 256 := UInt8.toNat_lt c
theorem rdF_bd : ∀ (l : List UInt8) (n : Nat) (f : Bool) (k : Nat), (rdF l n f k).1 < 4611686018427387904 ∧ ((rdF l n f k).2.1 = 0 ∨ (k < (rdF l n f k).2.1 ∧ (rdF l n f k).2.1 ≤ k + l.length)) ∧ ((rdF l n f k).2.2 = 0 ∨ (rdF l n f k).2.2 = 30 ∨ (rdF l n f k).2.2 = 31) ∧ ((rdF l n f k).2.2 ≠ 0 → (rdF l n f k).1 = 0 ∧ (rdF l n f k).2.1 = 0)
  | [], n, f, k => by simp [rdF]
  | c :: l, n, f, k => by
    have hc := u8_lt c
    rw [rdF]
    split
    · simp
    · rename_i h
      split
      · simp; omega
      · have ih := rdF_bd l (n * 128 + (c.toNat - 128)) false (k + 1)
        simp only [List.length_cons]
        refine ⟨ih.1, ?_, ih.2.2⟩
        rcases ih.2.1 with h1 | h1
        · exact .inl h1
        · right; omega
/-- The bytes ahead are read one by one. -/
theorem rdF_hi : ∀ (f m : Nat) (r : List UInt8) (k : Nat), m < 128 ^ f → m < 36028797018963968 → m ≠ 0 → rdF (hiF f m ++ r) 0 true k = rdF r m false (k + (hiF f m).length)
  | 0, m, r, k, h, _, h0 => by have : m = 0 := by simpa using h
                               exact absurd this h0
  | f + 1, m, r, k, h, hb, h0 => by
    rw [hiF, if_neg h0]
    have hu := up_nat m
    by_cases hd : m / 128 = 0
    · have hl : hiF f (m / 128) = [] := by rw [hd]; cases f <;> rfl
      rw [hl]
      simp only [List.nil_append, List.singleton_append, List.length_singleton]
      rw [rdF, if_neg (by simp; omega), if_neg (by omega), show 0 * 128 + ((up m).toNat - 128) = m from by omega]
    · have e : m / 128 < 128 ^ f := by rw [Nat.pow_succ] at h; omega
      rw [List.append_assoc, rdF_hi f (m / 128) ([up m] ++ r) k e (by omega) hd]
      simp only [List.singleton_append, List.length_append, List.length_singleton]
      rw [rdF, if_neg (by simp; omega), if_neg (by omega)]
      rw [show m / 128 * 128 + ((up m).toNat - 128) = m from by omega]
      rfl
theorem rd_put (n : Nat) (r : List UInt8) (h : n < 4611686018427387904) : rd (put n ++ r) = (n, (put n).length, 0) := by
  have hl := lo_nat n
  unfold rd put
  by_cases hd : n / 128 = 0
  · rw [hd, hi_zero]
    simp only [List.nil_append, List.singleton_append, List.length_singleton]
    rw [rdF, if_neg (by simp; omega), if_pos (by omega)]
    simp; omega
  · unfold hi
    rw [List.append_assoc, rdF_hi 9 (n / 128) ([lo n] ++ r) 0 (by have : (128 : Nat) ^ 9 = 9223372036854775808 := by decide
                                                                  omega) (by omega) hd]
    simp only [List.singleton_append, List.length_append, List.length_singleton]
    rw [rdF, if_neg (by simp; omega), if_pos (by omega)]
    simp; omega
end Go.Proofs.Ytljhnkcoknikgaa
