/- Layer 47 (gaps), plain: rows in runs. No program. -/
import Derived.Test.YtoidloofclalhabZa
namespace Go.Proofs.Ytoidloofclalhab

def fol (a n : Int) : Bool := decide (a < n ∧ a + 1 = n)
/-- Does the number at a place follow the one ahead? -/
def folAt (l : List Int) (i : Nat) : Prop := ∃ a n, l[i - 1]? = some a ∧ l[i]? = some n ∧ fol a n = true
/-- How many numbers the first i runs have. -/
def st : List (Int × Int) → Nat → Nat
  | [], _ => 0
  | _ :: _, 0 => 0
  | x :: R, i + 1 => x.2.toNat + st R i
theorem st_zero (R : List (Int × Int)) : st R 0 = 0 := by cases R <;> rfl
theorem st_snoc : ∀ (R : List (Int × Int)) (x : Int × Int) (i : Nat), i ≤ R.length → st (R ++ [x]) i = st R i
  | [], x, i, h => by
    have : i = 0 := by simpa using h
    subst this; rfl
  | y :: R, x, 0, _ => rfl
  | y :: R, x, i + 1, h => by
    show y.2.toNat + st (R ++ [x]) i = y.2.toNat + st R i
    rw [st_snoc R x i (by simpa using h)]
theorem st_all : ∀ (R : List (Int × Int)) (x : Int × Int), st (R ++ [x]) (R.length + 1) = st R R.length + x.2.toNat
  | [], x => by simp [st]
  | y :: R, x => by
    show y.2.toNat + st (R ++ [x]) (R.length + 1) = y.2.toNat + st R R.length + x.2.toNat
    rw [st_all R x]; omega
theorem st_next : ∀ (R : List (Int × Int)) (i : Nat) (h : i < R.length), st R (i + 1) = st R i + R[i].2.toNat
  | [], i, h => by simp at h
  | y :: R, 0, _ => by simp [st, st_zero]
  | y :: R, i + 1, h => by
    have h' : i < R.length := by simpa using h
    show y.2.toNat + st R (i + 1) = y.2.toNat + st R i + (R[i]'h').2.toNat
    rw [st_next R i h']; omega
/-- A run's numbers stand where they should, and it doesn't go on what stands ahead. -/
def Run1 (l : List Int) (s : Nat) (x : Int × Int) (i : Nat) : Prop := 1 ≤ x.2 ∧ s + x.2.toNat ≤ l.length ∧ (∀ k, k < x.2.toNat → l[s + k]? = some (x.1 + k)) ∧ (0 < i → 0 < s ∧ ¬ folAt l s)
/-- Runs of the first k numbers. -/
def RunsUp (l : List Int) (k : Nat) (R : List (Int × Int)) : Prop := st R R.length = k ∧ ∀ i (h : i < R.length), Run1 l (st R i) R[i] i
theorem RunsUp.none (l : List Int) : RunsUp l 0 [] := ⟨rfl, fun i h => by simp at h⟩
theorem snoc_get (S : List (Int × Int)) (x : Int × Int) (i : Nat) (h : i < (S ++ [x]).length) : (i < S.length ∧ ∃ h' : i < S.length, (S ++ [x])[i] = S[i]) ∨ (i = S.length ∧ (S ++ [x])[i] = x) := by
  rcases Nat.lt_or_ge i S.length with h1 | h1
  · exact .inl ⟨h1, h1, List.getElem_append_left h1⟩
  · have : i = S.length := by simp at h; omega
    subst this
    exact .inr ⟨rfl, by simp⟩
theorem RunsUp.snoc {l : List Int} {k : Nat} {R : List (Int × Int)} (h : RunsUp l k R) (hk : k < l.length) (hn : 0 < k → ¬ folAt l k) (h0 : k = 0 → R = []) : RunsUp l (k + 1) (R ++ [(l[k], 1)]) := by
  constructor
  · rw [List.length_append]
    show st (R ++ [(l[k], 1)]) (R.length + 1) = _
    rw [st_all, h.1]; rfl
  · intro i hi
    rcases snoc_get R (l[k], 1) i hi with ⟨h1, _, e⟩ | ⟨rfl, e⟩
    · rw [e, st_snoc _ _ _ (by omega)]
      exact h.2 i h1
    · rw [e, st_snoc _ _ _ (Nat.le_refl _), h.1]
      refine ⟨by simp, by simp; omega, fun j hj => ?_, fun hR => ?_⟩
      · have : j = 0 := by simpa using hj
        subst this
        simp [hk]
      · have : 0 < k := by
          rcases Nat.eq_zero_or_pos k with e0 | e0
          · rw [h0 e0] at hR; simp at hR
          · exact e0
        exact ⟨this, hn this⟩
theorem RunsUp.last {l : List Int} {k : Nat} {R : List (Int × Int)} (h : RunsUp l k R) (hk : 0 < k) : ∃ S f c, R = S ++ [(f, c)] ∧ 1 ≤ c ∧ st S S.length + c.toNat = k := by
  rcases List.eq_nil_or_concat R with rfl | ⟨S, ⟨f, c⟩, rfl⟩
  · have := h.1; simp [st] at this; omega
  · refine ⟨S, f, c, by simp, ?_, ?_⟩
    · have := (h.2 S.length (by simp)).1
      simpa using this
    · have h1 := h.1
      rw [List.concat_eq_append, List.length_append] at h1
      exact (st_all S (f, c)).symm.trans h1
theorem RunsUp.bump {l : List Int} {k : Nat} {S : List (Int × Int)} {f c : Int} (h : RunsUp l k (S ++ [(f, c)])) (hk : k < l.length) (h0 : 0 < k) (hf : folAt l k) : RunsUp l (k + 1) (S ++ [(f, c + 1)]) := by
  have hl := h.2 S.length (by simp)
  rw [st_snoc _ _ _ (Nat.le_refl _)] at hl
  simp only [List.getElem_append_right (Nat.le_refl _), Nat.sub_self, List.getElem_cons_zero] at hl
  obtain ⟨hc, hle, hrun, hbe⟩ := hl
  dsimp only at *
  have hst : st S S.length + c.toNat = k := by
    have h1 := h.1
    rw [List.length_append] at h1
    exact (st_all S (f, c)).symm.trans h1
  have htn : (c + 1).toNat = c.toNat + 1 := by omega
  constructor
  · rw [List.length_append]
    show st (S ++ [(f, c + 1)]) (S.length + 1) = _
    rw [st_all]
    show _ + (c + 1).toNat = _
    omega
  · intro i hi
    rcases snoc_get S (f, c + 1) i hi with ⟨h1, _, e⟩ | ⟨rfl, e⟩
    · rw [e, st_snoc _ _ _ (by omega)]
      have h2 := h.2 i (by simp; omega)
      rw [st_snoc _ _ _ (by omega), List.getElem_append_left h1] at h2
      exact h2
    · rw [e, st_snoc _ _ _ (Nat.le_refl _)]
      refine ⟨by dsimp only; omega, by dsimp only; omega, fun j hj => ?_, hbe⟩
      dsimp only at hj ⊢
      by_cases hj2 : j < c.toNat
      · exact hrun j hj2
      · have hjc : j = c.toNat := by omega
        subst hjc
        obtain ⟨a, n, ha, hn, hfo⟩ := hf
        have hfo2 := of_decide_eq_true hfo
        have h3 := hrun (c.toNat - 1) (by omega)
        rw [show st S S.length + (c.toNat - 1) = k - 1 from by omega, ha] at h3
        rw [hst, hn]
        have h4 : a = f + ((c.toNat - 1 : Nat) : Int) := by simpa using h3
        congr 1
        omega
theorem folAt_of {l : List Int} {k : Nat} {a n : Int} (ha : l[k - 1]? = some a) (hn : l[k]? = some n) : folAt l k ↔ fol a n = true := by
  constructor
  · rintro ⟨a', n', h1, h2, h3⟩
    rw [ha] at h1; rw [hn] at h2
    cases h1; cases h2
    exact h3
  · intro h; exact ⟨a, n, ha, hn, h⟩
def folB (l : List Int) (k : Nat) : Bool := fol (l.getD (k - 1) 0) (l.getD k 0)
def bumpL (R : List (Int × Int)) : List (Int × Int) := R.dropLast ++ (R.getLast?.toList.map fun x => (x.1, x.2 + 1))
theorem bumpL_snoc (S : List (Int × Int)) (f c : Int) : bumpL (S ++ [(f, c)]) = S ++ [(f, c + 1)] := by simp [bumpL]
/-- The runs of the first k numbers. -/
def rsT (l : List Int) : Nat → List (Int × Int)
  | 0 => []
  | k + 1 => if (decide (0 < k) && folB l k) = true then bumpL (rsT l k) else rsT l k ++ [(l.getD k 0, 1)]
end Go.Proofs.Ytoidloofclalhab
