/- Layer 44 (hist): plain facts on counts: two rows counted together, and how many there are. -/
import Derived.Test.YtljhnkcoknikgaaV2
namespace Go.Proofs.Ytljhnkcoknikgaa

theorem addV_small (a b : Int) (ha : 0 ≤ a) (hb : 0 ≤ b) (h : a + b ≤ 1125899906842624) : addV a b = a + b := by
  unfold addV cut
  have e1 : min (max a (-1125899906842624)) 1125899906842624 = a := by omega
  have e2 : min (max b (-1125899906842624)) 1125899906842624 = b := by omega
  rw [e1, e2, if_neg (by omega), if_neg (by omega)]
theorem cntF_append (a b : List Int) (k : Nat) : cntF (a ++ b) k = cntF a k + cntF b k := by
  unfold cntF
  rw [List.filter_append, List.length_append]
  omega
theorem cntF_join (a b : List Int) (k : Nat) (h : a.length + b.length ≤ 1000) : joinF (cntF a) (cntF b) k = cntF (a ++ b) k := by
  have h1 := cntF_bd a k
  have h2 := cntF_bd b k
  unfold joinF
  rw [cntF_append, show max (cntF a k) 0 = cntF a k by omega, show max (cntF b k) 0 = cntF b k by omega]
  exact addV_small _ _ h1.1 h2.1 (by omega)
/-- The sum of counts, from a bucket on. -/
def sumF (f : Nat → Int) : Nat → Nat → Int
  | _, 0 => 0
  | k, n + 1 => f k + sumF f (k + 1) n
theorem sumF_nonneg (f : Nat → Int) (h : ∀ k, 0 ≤ f k) : ∀ n k, 0 ≤ sumF f k n
  | 0, _ => Int.le_refl 0
  | n + 1, k => by
    have h1 := sumF_nonneg f h n (k + 1)
    have h2 := h k
    show 0 ≤ f k + sumF f (k + 1) n
    omega
theorem acc_sum (f : Nat → Int) (h : ∀ k, 0 ≤ f k) : ∀ n k s, 0 ≤ s → s + sumF f k n ≤ 1125899906842624 → (prs f k n).foldl (fun s x => addV s x.2) s = s + sumF f k n
  | 0, k, s, _, _ => by simp [prs, sumF]
  | n + 1, k, s, hs, hb => by
    have h1 := sumF_nonneg f h n (k + 1)
    have h2 := h k
    have hb' : s + (f k + sumF f (k + 1) n) ≤ 1125899906842624 := hb
    unfold prs
    show _ = s + (f k + sumF f (k + 1) n)
    by_cases hp : 0 < f k
    · rw [if_pos hp, List.foldl_cons, addV_small s (f k) hs h2 (by omega), acc_sum f h n (k + 1) (s + f k) (by omega) (by omega)]
      omega
    · rw [if_neg hp, acc_sum f h n (k + 1) s hs (by omega)]
      omega
theorem sumF_one (f g : Nat → Int) (i : Nat) (h : ∀ b, g b = if b = i then f b + 1 else f b) : ∀ n k, sumF g k n = sumF f k n + if k ≤ i ∧ i < k + n then 1 else 0
  | 0, k => by
    rw [if_neg (by omega)]
    simp [sumF]
  | n + 1, k => by
    show g k + sumF g (k + 1) n = f k + sumF f (k + 1) n + _
    rw [sumF_one f g i h n (k + 1), h k]
    by_cases e : k = i
    · rw [if_pos e, if_neg (by omega), if_pos (by omega)]; omega
    · rw [if_neg e]
      by_cases c : k ≤ i ∧ i < k + (n + 1)
      · rw [if_pos c, if_pos (by omega)]; omega
      · rw [if_neg c, if_neg (by omega)]; omega
theorem sumF_snoc (L : List Int) (x : Int) : sumF (cntF (L ++ [x])) 0 24 = sumF (cntF L) 0 24 + 1 := by
  have hb := bk_le x
  rw [sumF_one (cntF L) (cntF (L ++ [x])) (bk x) (fun b => cntF_snoc L x b), if_pos (by omega)]
theorem sumF_len (L : List Int) : sumF (cntF L) 0 24 = L.length := by
  have hz : sumF (cntF []) 0 24 = 0 := by decide
  suffices h : ∀ n, n ≤ L.length → sumF (cntF (L.take n)) 0 24 = n by
    have h1 := h L.length (Nat.le_refl _)
    rwa [List.take_length] at h1
  intro n
  induction n with
  | zero => intro _; rw [List.take_zero]; exact hz
  | succ n ih =>
    intro hn
    rw [List.take_succ_eq_append_getElem (by omega), sumF_snoc, ih (by omega)]
    omega
/-- How many there are: so many as were counted. -/
theorem len_cnt (L : List Int) (h : L.length ≤ 1000) : lenF (cntF L) = L.length := by
  unfold lenF accP
  rw [acc_sum (cntF L) (fun k => (cntF_bd L k).1) 24 0 0 (Int.le_refl 0) (by rw [sumF_len]; omega), sumF_len]
  omega
/-- Counts that hold the same have the same cells. -/
theorem HC.same {cs ds : Array Value} {f g : Nat → Int} (h : HC cs f) (k : HC ds g) (e : ∀ b, b < 24 → f b = g b) : cs = ds := by
  apply Array.ext_getElem?
  intro i
  by_cases hi : i < 24
  · rw [h.at_ i hi, k.at_ i hi, e i hi]
  · rw [Array.getElem?_eq_none (by rw [h.size]; omega), Array.getElem?_eq_none (by rw [k.size]; omega)]
end Go.Proofs.Ytljhnkcoknikgaa
