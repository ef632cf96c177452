/- Layer 43 (pick), plain: what is due, scores, the next one, plans; no range is forgotten. No program. -/
import Derived.Test.YtkkhljneeajkmaaKit
namespace Go.Proofs.Ytkkhljneeajkmaa
/-- A need. -/
structure Nd where
  last : Int
  waste : Int
  waiting : Int
def bdI (n lo hi : Int) : Int := min (max n lo) hi
def tkI (n : Int) : Int := min (max n 0) 1099511627776
def Nd.due (d : Nd) (now : Int) : Int := max (tkI now - tkI d.last) 0
def Nd.score (d : Nd) (now : Int) : Int := d.due now + 10 * bdI d.waiting 0 100 + bdI d.waste 0 100 / 10
def Nd.wants (d : Nd) (now : Int) : Prop := 5 ≤ d.due now ∨ 0 < d.waiting
instance (d : Nd) (now : Int) : Decidable (d.wants now) := by unfold Nd.wants; infer_instance
theorem bd_bd (n lo hi : Int) (h : lo ≤ hi) : lo ≤ bdI n lo hi ∧ bdI n lo hi ≤ hi := by unfold bdI; omega
theorem tk_bd (n : Int) : 0 ≤ tkI n ∧ tkI n ≤ 1099511627776 := by unfold tkI; omega
theorem due_bd (d : Nd) (now : Int) : 0 ≤ d.due now ∧ d.due now ≤ 1099511627776 := by unfold Nd.due tkI; omega
theorem score_bd (d : Nd) (now : Int) : 0 ≤ d.score now ∧ d.score now ≤ 1099511629776 := by
  have h1 := due_bd d now
  have h2 := bd_bd d.waiting 0 100 (by omega)
  have h3 := bd_bd d.waste 0 100 (by omega)
  unfold Nd.score
  omega
/-- The first one of the greatest score among the first k that want it. -/
def nxt (now : Int) (f : Nat → Nd) : Nat → Option Nat
  | 0 => none
  | k + 1 => match nxt now f k with
    | none => if (f k).wants now then some k else none
    | some j => if (f k).wants now ∧ (f j).score now < (f k).score now then some k else some j
theorem nxt_lt (now : Int) (f : Nat → Nd) (k : Nat) : ∀ j, nxt now f k = some j → j < k := by
  induction k with
  | zero => intro j h; simp [nxt] at h
  | succ k ih =>
    intro j h
    unfold nxt at h
    cases hn : nxt now f k with
    | none =>
      rw [hn] at h
      dsimp only at h
      split at h
      · cases h; omega
      · cases h
    | some i =>
      rw [hn] at h
      dsimp only at h
      have := ih i hn
      split at h
      · cases h; omega
      · cases h; omega
def upd (f : Nat → Nd) (j : Nat) (d : Nd) : Nat → Nd := fun i => if i = j then d else f i
/-- What is planned behind acc, from t on. -/
def planS (step fin most : Int) (n : Nat) : Nat → (Nat → Nd) → Int → List Nat → List Nat
  | 0, _, _, acc => acc
  | k + 1, f, t, acc => if fin ≤ t ∨ most ≤ acc.length then acc else
    match nxt t f n with
    | some j => planS step fin most n k (upd f j ⟨t, 0, 0⟩) (t + step) (acc ++ [j])
    | none => planS step fin most n k f (t + step) acc
theorem plan_acc (step fin most : Int) (n : Nat) (i : Nat) : ∀ (k : Nat) (f : Nat → Nd) (t : Int) (acc : List Nat), i ∈ acc → i ∈ planS step fin most n k f t acc := by
  intro k
  induction k with
  | zero => intro f t acc h; exact h
  | succ k ih =>
    intro f t acc h
    unfold planS
    split
    · exact h
    · split
      · exact ih _ _ _ (List.mem_append_left _ h)
      · exact ih _ _ _ h
/-- How many of the first k were not repaired behind now. -/
def cnt (now : Int) (f : Nat → Nd) : Nat → Nat
  | 0 => 0
  | k + 1 => cnt now f k + if (f k).last ≤ now then 1 else 0
theorem cnt_none (now : Int) (f : Nat → Nd) (k : Nat) : cnt now f k = 0 → ∀ i, i < k → now < (f i).last := by
  induction k with
  | zero => intro _ i h; omega
  | succ k ih =>
    intro h i hi
    unfold cnt at h
    by_cases hl : (f k).last ≤ now
    · rw [if_pos hl] at h; omega
    · rcases Nat.lt_or_ge i k with h2 | h2
      · exact ih (by omega) i h2
      · have : i = k := by omega
        subst this; omega
theorem cnt_le (now : Int) (f : Nat → Nd) (k : Nat) : cnt now f k ≤ k := by
  induction k with
  | zero => exact Nat.le_refl _
  | succ k ih => unfold cnt; split <;> omega
theorem cnt_upd_out (now : Int) (f : Nat → Nd) (j : Nat) (d : Nd) (k : Nat) (h : k ≤ j) : cnt now (upd f j d) k = cnt now f k := by
  induction k with
  | zero => rfl
  | succ k ih =>
    unfold cnt
    have e : upd f j d k = f k := by unfold upd; rw [if_neg (by omega)]
    rw [ih (by omega), e]
theorem cnt_upd (now : Int) (f : Nat → Nd) (j : Nat) (d : Nd) (hd : now < d.last) (hj : (f j).last ≤ now) (k : Nat) (h : j < k) : cnt now (upd f j d) k + 1 = cnt now f k := by
  induction k with
  | zero => omega
  | succ k ih =>
    unfold cnt
    by_cases hk : j = k
    · subst hk
      rw [cnt_upd_out now f j d j (Nat.le_refl _)]
      have e : upd f j d j = d := by unfold upd; rw [if_pos rfl]
      rw [e, if_neg (by omega), if_pos hj]
    · have := ih (by omega)
      have e : (upd f j d k) = f k := by unfold upd; rw [if_neg (fun e => hk e.symm)]
      rw [e]
      omega
/-- A range that nobody waits for, with little waste. -/
def Calm (now : Int) (d : Nd) : Prop := d.waiting ≤ 0 ∧ d.waste ≤ 9 ∧ 0 ≤ d.last
theorem calm_score {now t : Int} {d : Nd} (h : Calm now d) (ht : 0 ≤ t ∧ t ≤ 1099511627776) (hl : d.last ≤ 1099511627776) : d.score t = max (t - d.last) 0 := by
  obtain ⟨h1, h2, h3⟩ := h
  unfold Nd.score Nd.due tkI bdI
  omega
theorem calm_wants {now t : Int} {d : Nd} (h : Calm now d) (ht : 0 ≤ t ∧ t ≤ 1099511627776) (hl : d.last + 5 ≤ t) : d.wants t := by
  obtain ⟨h1, h2, h3⟩ := h
  unfold Nd.wants Nd.due tkI
  omega
theorem nxt_old (now t : Int) (f : Nat → Nd) (n : Nat) (hc : ∀ i, i < n → Calm now (f i) ∧ (f i).last ≤ t) (ht : 0 ≤ t ∧ t ≤ 1099511627776) (hnt : now + 5 ≤ t) :
    ∀ k, k ≤ n → (nxt t f k = none ∧ cnt now f k = 0) ∨ (∃ j, nxt t f k = some j ∧ ((f j).last ≤ now ∨ cnt now f k = 0)) := by
  intro k
  induction k with
  | zero => intro _; exact .inl ⟨rfl, rfl⟩
  | succ k ih =>
    intro hk
    obtain ⟨hck, hlk⟩ := hc k (by omega)
    have hs := calm_score hck ht (by omega)
    rcases ih (by omega) with ⟨h1, h2⟩ | ⟨j, h1, h2⟩
    · unfold nxt cnt
      rw [h1, h2]
      dsimp only
      by_cases ho : (f k).last ≤ now
      · rw [if_pos (calm_wants hck ht (by omega))]
        exact .inr ⟨k, rfl, .inl ho⟩
      · rw [if_neg ho]
        by_cases hw : (f k).wants t
        · rw [if_pos hw]; exact .inr ⟨k, rfl, .inr rfl⟩
        · rw [if_neg hw]; exact .inl ⟨rfl, rfl⟩
    · have hjk := nxt_lt _ _ _ _ h1
      obtain ⟨hcj, hlj⟩ := hc j (by omega)
      have hsj := calm_score hcj ht (by omega)
      unfold nxt cnt
      rw [h1]
      dsimp only
      by_cases ho : (f k).last ≤ now
      · rw [if_pos ho]
        by_cases hb : (f k).wants t ∧ (f j).score t < (f k).score t
        · rw [if_pos hb]; exact .inr ⟨k, rfl, .inl ho⟩
        · rw [if_neg hb]
          refine .inr ⟨j, rfl, .inl ?_⟩
          rcases h2 with h2 | h2
          · exact h2
          · refine Classical.byContradiction fun hn => hb ⟨calm_wants hck ht (by omega), ?_⟩
            rw [hs, hsj]
            omega
      · rw [if_neg ho]
        by_cases hb : (f k).wants t ∧ (f j).score t < (f k).score t
        · rw [if_pos hb]
          refine .inr ⟨k, rfl, .inr ?_⟩
          rcases h2 with h2 | h2
          · have := hb.2
            rw [hs, hsj] at this
            omega
          · omega
        · rw [if_neg hb]
          refine .inr ⟨j, rfl, ?_⟩
          rcases h2 with h2 | h2
          · exact .inl h2
          · exact .inr (by omega)
theorem plan_all (now fin most : Int) (n : Nat) (h0 : 0 ≤ now) (hf : fin ≤ 1099511627776) : ∀ (k : Nat) (f : Nat → Nd) (t : Int) (acc : List Nat),
    (∀ i, i < n → Calm now (f i) ∧ (f i).last ≤ t) → (∀ i, i < n → (f i).last ≤ now ∨ i ∈ acc) → now + 5 ≤ t →
    cnt now f n ≤ k → t + 5 * cnt now f n ≤ fin → (acc.length : Int) + cnt now f n ≤ most → ∀ i, i < n → i ∈ planS 5 fin most n k f t acc := by
  intro k
  induction k with
  | zero =>
    intro f t acc hc ha ht hk hfin hm i hi
    have h := cnt_none now f n (by omega) i hi
    rcases ha i hi with h2 | h2
    · omega
    · exact h2
  | succ k ih =>
    intro f t acc hc ha ht hk hfin hm i hi
    by_cases hz : cnt now f n = 0
    · have h := cnt_none now f n hz i hi
      refine plan_acc _ _ _ _ _ _ _ _ _ ?_
      rcases ha i hi with h2 | h2
      · omega
      · exact h2
    · rcases nxt_old now t f n hc ⟨by omega, by omega⟩ ht n (Nat.le_refl _) with ⟨h1, h2⟩ | ⟨j, h1, h2⟩
      · exact absurd h2 hz
      · have hjn := nxt_lt _ _ _ _ h1
        rcases h2 with h2 | h2
        · unfold planS
          rw [if_neg (by omega), h1]
          dsimp only
          have hcu := cnt_upd now f j ⟨t, 0, 0⟩ (by dsimp only; omega) h2 n hjn
          refine ih _ _ _ ?_ ?_ (by omega) (by omega) (by omega) (by simp; omega) i hi
          · intro i hi
            unfold upd
            by_cases hij : i = j
            · rw [if_pos hij]; exact ⟨⟨by dsimp only; omega, by dsimp only; omega, by dsimp only; omega⟩, by dsimp only; omega⟩
            · rw [if_neg hij]; have := hc i hi; exact ⟨this.1, by omega⟩
          · intro i hi
            unfold upd
            by_cases hij : i = j
            · rw [if_pos hij]; exact .inr (by simp [hij])
            · rw [if_neg hij]
              rcases ha i hi with h3 | h3
              · exact .inl h3
              · exact .inr (List.mem_append_left _ h3)
        · exact absurd h2 hz
end Go.Proofs.Ytkkhljneeajkmaa
