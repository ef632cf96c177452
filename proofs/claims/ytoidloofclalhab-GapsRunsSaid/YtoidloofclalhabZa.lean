/- Layer 47 (gaps), plain: rising rows, and their bytes. No program. -/
import Derived.Test.YtoidloofclalhabVa
namespace Go.Proofs.Ytoidloofclalhab

/-- What the next number is at least, behind a row. -/
def lst : Int → List Int → Int
  | a, [] => a
  | _, n :: r => lst (n + 1) r
/-- Does a row rise from a number on, up to the greatest one? -/
def okF : Int → List Int → Bool
  | _, [] => true
  | a, n :: r => decide (a ≤ n ∧ n ≤ 4611686018427387903) && okF (n + 1) r
/-- Its bytes, but for how many there are. -/
def byF : Int → List Int → List UInt8
  | _, [] => []
  | a, n :: r => put (n - a).toNat ++ byF (n + 1) r
theorem lst_snoc : ∀ (l : List Int) (a n : Int), lst a (l ++ [n]) = n + 1
  | [], _, _ => rfl
  | x :: r, _, n => lst_snoc r (x + 1) n
theorem okF_snoc : ∀ (l : List Int) (a n : Int), okF a (l ++ [n]) = (okF a l && decide (lst a l ≤ n ∧ n ≤ 4611686018427387903))
  | [], a, n => by show (decide (a ≤ n ∧ n ≤ 4611686018427387903) && true) = (true && decide (a ≤ n ∧ n ≤ 4611686018427387903)); rw [Bool.and_true, Bool.true_and]
  | x :: r, a, n => by
    show (decide (a ≤ x ∧ x ≤ 4611686018427387903) && okF (x + 1) (r ++ [n])) = _
    rw [okF_snoc r (x + 1) n, ← Bool.and_assoc]; rfl
theorem byF_snoc : ∀ (l : List Int) (a n : Int), byF a (l ++ [n]) = byF a l ++ put (n - lst a l).toNat
  | [], a, n => by simp [byF, lst]
  | x :: r, a, n => by
    show put (x - a).toNat ++ byF (x + 1) (r ++ [n]) = _
    rw [byF_snoc r (x + 1) n, ← List.append_assoc]; rfl
theorem okF_app : ∀ (l r : List Int) (a : Int), okF a (l ++ r) = (okF a l && okF (lst a l) r)
  | [], r, a => by simp [okF, lst]
  | x :: l, r, a => by
    show (decide (a ≤ x ∧ x ≤ 4611686018427387903) && okF (x + 1) (l ++ r)) = _
    rw [okF_app l r (x + 1), ← Bool.and_assoc]; rfl
theorem okF_take {a : Int} {l : List Int} (h : okF a l = true) (k : Nat) : okF a (l.take k) = true := by
  rw [← List.take_append_drop k l, okF_app, Bool.and_eq_true] at h
  exact h.1
theorem lst_bd : ∀ (l : List Int) (a : Int), okF a l = true → 0 ≤ a → a ≤ 4611686018427387904 → 0 ≤ lst a l ∧ lst a l ≤ 4611686018427387904
  | [], a, _, h0, h1 => ⟨h0, h1⟩
  | x :: r, a, h, h0, h1 => by
    have h2 : (decide (a ≤ x ∧ x ≤ 4611686018427387903) && okF (x + 1) r) = true := h
    rw [Bool.and_eq_true, decide_eq_true_iff] at h2
    exact lst_bd r (x + 1) h2.2 (by omega) (by omega)
theorem byF_len : ∀ (l : List Int) (a : Int), (byF a l).length ≤ 10 * l.length
  | [], _ => Nat.le_refl _
  | x :: r, a => by
    have h1 := put_len (x - a).toNat
    have h2 := byF_len r (x + 1)
    show (put (x - a).toNat ++ byF (x + 1) r).length ≤ 10 * (r.length + 1)
    rw [List.length_append]; omega
theorem take_next (l : List Int) (k : Nat) (h : k < l.length) : l.take (k + 1) = l.take k ++ [l[k]] := by
  rw [List.take_succ_eq_append_getElem h]
/-- A row's bytes. -/
def gB (l : List Int) : List UInt8 := put l.length ++ byF 0 l
/-- May there be such a row? -/
def okB (l : List Int) : Bool := okF 0 l && decide (l.length ≤ 4096)
theorem gB_len (l : List Int) : 1 ≤ (gB l).length ∧ (gB l).length ≤ 10 + 10 * l.length := by
  have h1 := put_len l.length
  have h2 := byF_len l 0
  unfold gB
  rw [List.length_append]; omega
/-- A number of a row that may be, as the law looks at it. -/
def stepOk (l : List Int) (i : Nat) (h : i < l.length) : Bool := decide (lst 0 (l.take i) ≤ l[i] ∧ l[i] ≤ 4611686018427387903)
theorem lst_take (l : List Int) (i : Nat) (h : i < l.length) (h0 : 0 < i) : lst 0 (l.take i) = l[i - 1] + 1 := by
  obtain ⟨j, rfl⟩ : ∃ j, i = j + 1 := ⟨i - 1, by omega⟩
  rw [take_next l j (by omega), lst_snoc]
  rfl
theorem okF_next (l : List Int) (i : Nat) (h : i < l.length) : okF 0 (l.take (i + 1)) = (okF 0 (l.take i) && decide (lst 0 (l.take i) ≤ l[i] ∧ l[i] ≤ 4611686018427387903)) := by
  rw [take_next l i h, okF_snoc]
theorem okF_no (l : List Int) (i : Nat) (h : i < l.length) (hn : ¬ (lst 0 (l.take i) ≤ l[i] ∧ l[i] ≤ 4611686018427387903)) : okF 0 l = false := by
  cases ho : okF 0 l with
  | false => rfl
  | true =>
    have h1 := okF_take ho (i + 1)
    rw [okF_next l i h, Bool.and_eq_true, decide_eq_true_iff] at h1
    exact absurd h1.2 hn
theorem byF_next (l : List Int) (i : Nat) (h : i < l.length) : byF 0 (l.take (i + 1)) = byF 0 (l.take i) ++ put (l[i] - lst 0 (l.take i)).toNat := by
  rw [take_next l i h, byF_snoc]
theorem lst_next (l : List Int) (i : Nat) (h : i < l.length) : lst 0 (l.take (i + 1)) = l[i] + 1 := by
  rw [take_next l i h, lst_snoc]
end Go.Proofs.Ytoidloofclalhab
