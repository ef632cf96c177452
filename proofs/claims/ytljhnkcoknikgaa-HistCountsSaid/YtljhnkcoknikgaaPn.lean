/- Plain facts on decimal digits: no program. -/
import Derived.Test.YtljhnkcoknikgaaKit
namespace Go.Proofs.Ytljhnkcoknikgaa

def dig (n : Nat) : UInt8 := UInt8.ofNat (48 + n % 10)

/-- The last k digits of n, noughts ahead of it included. -/
def lows : Nat → Nat → List UInt8
  | 0, _ => []
  | k + 1, n => lows k (n / 10) ++ [dig n]

/-- The decimal digits of n, as far as the fuel goes. -/
def decF : Nat → Nat → List UInt8
  | 0, _ => []
  | f + 1, n => if n < 10 then [dig n] else decF f (n / 10) ++ [dig n]

def dec (n : Nat) : List UInt8 := decF 16 n

theorem lows_length : ∀ k n, (lows k n).length = k
  | 0, _ => rfl
  | k + 1, n => by simp [lows, lows_length k]

theorem lows_cons : ∀ k n, lows (k + 1) n = dig (n / 10 ^ k) :: lows k n
  | 0, n => by simp [lows]
  | k + 1, n => by
    rw [lows, lows_cons k (n / 10)]
    simp only [lows, List.cons_append, Nat.div_div_eq_div_mul]
    rw [show 10 * 10 ^ k = 10 ^ (k + 1) from by rw [Nat.pow_succ]; omega]

theorem decF_lows : ∀ f k n, k < f → n < 10 ^ (k + 1) → (k = 0 ∨ 10 ^ k ≤ n) → decF f n = lows (k + 1) n
  | 0, _, _, h, _, _ => by omega
  | f + 1, 0, n, _, h, _ => by
    have : n < 10 := by simpa using h
    simp [decF, this, lows]
  | f + 1, k + 1, n, hf, h, h2 => by
    have h10 : 10 ^ (k + 1) ≤ n := by rcases h2 with h2 | h2; (· omega); exact h2
    have hp : 1 ≤ 10 ^ k := Nat.one_le_pow _ _ (by omega)
    have hp' : 10 ^ (k + 1) = 10 * 10 ^ k := by rw [Nat.pow_succ]; omega
    have hp2 : 10 ^ (k + 1 + 1) = 10 * 10 ^ (k + 1) := by rw [Nat.pow_succ]; omega
    have : ¬ n < 10 := by omega
    rw [decF, if_neg this, lows, decF_lows f k (n / 10) (by omega) (by omega) (Or.inr (by omega))]

theorem dec_lows (k n : Nat) (hk : k < 16) (h : n < 10 ^ (k + 1)) (h2 : k = 0 ∨ 10 ^ k ≤ n) : dec n = lows (k + 1) n := decF_lows 16 k n hk h h2

theorem dec_small (n : Nat) (h : n < 10) : dec n = [dig n] := by simp [dec, decF, h]
theorem decF_more : ∀ f n, n < 10 ^ f → 0 < f → decF (f + 1) n = decF f n
  | 0, _, _, h => by omega
  | f + 1, n, h, _ => by
    by_cases h10 : n < 10
    · simp [decF, h10]
    · have hf : 0 < f := by
        rcases Nat.eq_zero_or_pos f with rfl | hf
        · simp at h; omega
        · exact hf
      have hp : 10 ^ (f + 1) = 10 * 10 ^ f := by rw [Nat.pow_succ]; omega
      have e : n / 10 < 10 ^ f := by omega
      show (if n < 10 then [dig n] else decF (f + 1) (n / 10) ++ [dig n]) = (if n < 10 then [dig n] else decF f (n / 10) ++ [dig n])
      rw [if_neg h10, if_neg h10, decF_more f (n / 10) e hf]
theorem dec_step (n : Nat) (h : 10 ≤ n) (h2 : n < 10 ^ 16) : dec n = dec (n / 10) ++ [dig n] := by
  unfold dec
  rw [show (16 : Nat) = 15 + 1 from rfl, decF, if_neg (by omega), decF_more 15 (n / 10) (by omega) (by omega)]
theorem decF_len : ∀ f n, (decF f n).length ≤ f
  | 0, _ => by simp [decF]
  | f + 1, n => by
    rw [decF]; split
    · simp
    · simp; exact decF_len f _
theorem dec_len (n : Nat) : (dec n).length ≤ 16 := decF_len 16 n

/-- The number that digits tell. -/
def numFrom (a : Nat) (l : List UInt8) : Nat := l.foldl (fun n c => 10 * n + (c.toNat - 48)) a
def num (l : List UInt8) : Nat := numFrom 0 l
def isDig (c : UInt8) : Bool := decide (48 ≤ c.toNat ∧ c.toNat ≤ 57)
def top : Nat := 1125899906842624
def okNum (l : List UInt8) : Bool := l.all isDig && decide (num l ≤ top) && (dec (num l) == l)

theorem num_snoc (l : List UInt8) (c : UInt8) : num (l ++ [c]) = 10 * num l + (c.toNat - 48) := by simp [num, numFrom]
theorem numFrom_ge : ∀ (l : List UInt8) (a : Nat), a ≤ numFrom a l
  | [], a => Nat.le_refl _
  | c :: l, a => by
    have := numFrom_ge l (10 * a + (c.toNat - 48))
    show a ≤ numFrom (10 * a + (c.toNat - 48)) l
    omega
theorem num_append (l r : List UInt8) : num l ≤ num (l ++ r) := by
  unfold num
  rw [show numFrom 0 (l ++ r) = numFrom (numFrom 0 l) r from by simp [numFrom]]
  exact numFrom_ge r _
theorem dig_toNat (n : Nat) : (dig n).toNat = 48 + n % 10 := by unfold dig; simp; omega
theorem dig_is (n : Nat) : isDig (dig n) = true := by unfold isDig; rw [dig_toNat]; simp; omega
theorem num_dec : ∀ f n, n < 10 ^ f → 0 < f → num (decF f n) = n
  | 0, _, _, h => by omega
  | f + 1, n, h, _ => by
    rw [decF]; split
    · simp [num, numFrom, dig_toNat]; omega
    · have hf : 0 < f := by
        rcases Nat.eq_zero_or_pos f with rfl | hf
        · simp at h; omega
        · exact hf
      have hp : 10 ^ (f + 1) = 10 * 10 ^ f := by rw [Nat.pow_succ]; omega
      rw [num_snoc, num_dec f (n / 10) (by omega) hf, dig_toNat]; omega
theorem num_of_dec (n : Nat) (h : n < 10 ^ 16) : num (dec n) = n := num_dec 16 n h (by omega)
theorem digs_dec : ∀ f n, (decF f n).all isDig = true
  | 0, _ => rfl
  | f + 1, n => by
    rw [decF]; split
    · simp [dig_is]
    · simp only [List.all_append, digs_dec f, List.all_cons, dig_is, List.all_nil]; rfl
theorem ok_dec (n : Nat) (h : n ≤ top) : okNum (dec n) = true := by
  have h2 : n < 10 ^ 16 := by unfold top at h; omega
  unfold okNum
  rw [num_of_dec n h2]
  simp [h, dec, digs_dec]
theorem ok_no_digit (l : List UInt8) (c : UInt8) (hm : c ∈ l) (hc : isDig c = false) : okNum l = false := by
  unfold okNum
  have : l.all isDig = false := by
    rw [List.all_eq_false]; exact ⟨c, hm, by simp [hc]⟩
  simp [this]
theorem ok_great (l : List UInt8) (h : top < num l) : okNum l = false := by
  unfold okNum
  have : ¬ num l ≤ top := by omega
  simp [this]
theorem ok_len (l : List UInt8) (h : l = [] ∨ 16 < l.length) : okNum l = false := by
  unfold okNum
  have : (dec (num l) == l) = false := by
    rw [beq_eq_false_iff_ne]
    intro e
    rcases h with rfl | h
    · revert e; decide
    · have := dec_len (num l); rw [e] at this; omega
  simp [this]
theorem ok_text (l : List UInt8) (hd : l.all isDig = true) (h : num l ≤ top) : okNum l = (dec (num l) == l) := by
  unfold okNum; simp [hd, h]
theorem ok_cut (l : List UInt8) (hd : l.all isDig = true) : okNum l = (dec (min (num l) top) == l) := by
  rcases Nat.lt_or_ge top (num l) with h | h
  · rw [ok_great l h, Nat.min_eq_right (by omega)]
    symm; rw [beq_eq_false_iff_ne]
    intro e
    have := num_of_dec top (by unfold top; omega)
    rw [e] at this; omega
  · rw [Nat.min_eq_left h]; exact ok_text l hd h
end Go.Proofs.Ytljhnkcoknikgaa
