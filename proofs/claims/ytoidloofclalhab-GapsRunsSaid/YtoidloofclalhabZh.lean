/- Layer 47 (gaps), plain: rows read. No program. -/
import Derived.Test.YtoidloofclalhabUh
import Derived.Test.YtoidloofclalhabZa
namespace Go.Proofs.Ytoidloofclalhab

/-- Numbers one behind the other, so many: what Get gathers. -/
def getA (lb : List UInt8) : Nat → Nat → Int → List Int → List Int × Nat × Int
  | 0, p, _, acc => (acc, p, 0)
  | f + 1, p, a, acc =>
    if (cntS lb p 0 9223372036854775807).2.2 ≠ 0 then ([], (cntS lb p 0 9223372036854775807).2.1, (cntS lb p 0 9223372036854775807).2.2)
    else if 4611686018427387903 < a + ((cntS lb p 0 9223372036854775807).1 : Int) then ([], (cntS lb p 0 9223372036854775807).2.1, 31)
    else getA lb f (cntS lb p 0 9223372036854775807).2.1 (a + ((cntS lb p 0 9223372036854775807).1 : Int) + 1) (acc ++ [a + ((cntS lb p 0 9223372036854775807).1 : Int)])
def gets (lb : List UInt8) : List Int × Nat × Int :=
  if (cntS lb 0 0 4096).2.2 ≠ 0 then ([], (cntS lb 0 0 4096).2.1, (cntS lb 0 0 4096).2.2) else getA lb (cntS lb 0 0 4096).1 (cntS lb 0 0 4096).2.1 0 []
/-- A number that is read has the bytes that a number has. -/
theorem rdF_inv : ∀ (l : List UInt8) (n k x j : Nat), n ≠ 0 → n < 36028797018963968 * 128 → rdF l n false k = (x, j, 0) → k ≤ j ∧ hi n ++ l.take (j - k) = put x
  | [], n, k, x, j, _, _, h => by simp [rdF] at h
  | c :: l, n, k, x, j, h0, hb, h => by
    have hc := u8_lt c
    unfold rdF at h
    by_cases h1 : (false = true ∧ c.toNat = 128) ∨ 36028797018963968 ≤ n
    · rw [if_pos h1] at h; simp at h
    · rw [if_neg h1] at h
      have hn : n < 36028797018963968 := by omega
      by_cases h2 : c.toNat < 128
      · rw [if_pos h2] at h
        simp at h
        obtain ⟨rfl, rfl⟩ := h
        refine ⟨by omega, ?_⟩
        rw [show k + 1 - k = 1 from by omega]
        unfold put
        rw [show (n * 128 + c.toNat) / 128 = n from by omega]
        have : lo (n * 128 + c.toNat) = c := by
          apply UInt8.toNat_inj.1
          rw [lo_nat]; omega
        rw [this]; rfl
      · rw [if_neg h2] at h
        have ih := rdF_inv l (n * 128 + (c.toNat - 128)) (k + 1) x j (by omega) (by omega) h
        obtain ⟨i1, i2⟩ := ih
        refine ⟨by omega, ?_⟩
        rw [show j - k = (j - (k + 1)) + 1 from by omega, List.take_succ_cons, ← i2]
        have h9 : (128 : Nat) ^ 9 = 9223372036854775808 := by decide
        rw [hi_step (n * 128 + (c.toNat - 128)) (by omega) (by omega), show (n * 128 + (c.toNat - 128)) / 128 = n from by omega]
        have : up (n * 128 + (c.toNat - 128)) = c := by
          apply UInt8.toNat_inj.1
          rw [up_nat]; omega
        rw [this]; simp
theorem rd_inv (l : List UInt8) (x j : Nat) (h : rd l = (x, j, 0)) : l.take j = put x := by
  unfold rd at h
  cases l with
  | nil => simp [rdF] at h
  | cons c l =>
    have hc := u8_lt c
    unfold rdF at h
    by_cases h1 : (true = true ∧ c.toNat = 128) ∨ 36028797018963968 ≤ 0
    · rw [if_pos h1] at h; simp at h
    · rw [if_neg h1] at h
      by_cases h2 : c.toNat < 128
      · rw [if_pos h2] at h
        simp at h
        obtain ⟨rfl, rfl⟩ := h
        rw [put_small _ h2]
        have : lo c.toNat = c := by apply UInt8.toNat_inj.1; rw [lo_nat]; omega
        rw [this]; rfl
      · rw [if_neg h2] at h
        have h3 : c.toNat ≠ 128 := fun e => h1 (.inl ⟨rfl, e⟩)
        rw [Nat.zero_mul, Nat.zero_add] at h
        obtain ⟨i1, i2⟩ := rdF_inv l (c.toNat - 128) (0 + 1) x j (by omega) (by omega) h
        rw [show j = (j - 1) + 1 from by omega, List.take_succ_cons, ← i2]
        have h9 : (128 : Nat) ^ 9 = 9223372036854775808 := by decide
        rw [hi_step (c.toNat - 128) (by omega) (by omega), show (c.toNat - 128) / 128 = 0 from by omega, hi_zero]
        have : up (c.toNat - 128) = c := by apply UInt8.toNat_inj.1; rw [up_nat]; omega
        rw [this]; simp
/-- A number that is read: its bytes stand there. -/
theorem cnt_inv (lb : List UInt8) (p : Nat) (most : Int) (hp : p ≤ lb.length) (h : (cntS lb p 0 most).2.2 = 0) :
    lb.take (cntS lb p 0 most).2.1 = lb.take p ++ put (cntS lb p 0 most).1 ∧ (cntS lb p 0 most).2.1 ≤ lb.length ∧ (cntS lb p 0 most).1 < 4611686018427387904 ∧ ((cntS lb p 0 most).1 : Int) ≤ most ∧ p ≤ (cntS lb p 0 most).2.1 := by
  have hbd := rdF_bd (lb.drop p) 0 true 0
  rw [show rdF (lb.drop p) 0 true 0 = rd (lb.drop p) from rfl, List.length_drop] at hbd
  have hiv := rd_inv (lb.drop p) (rd (lb.drop p)).1 (rd (lb.drop p)).2.1
  unfold cntS at *
  rw [if_neg (by simp)] at *
  generalize rd (lb.drop p) = r at *
  obtain ⟨x, j, e⟩ := r
  dsimp only at *
  by_cases he : e = 0
  · subst he
    rw [if_pos rfl] at *
    by_cases hm : most < (x : Int)
    · rw [if_pos hm] at h; simp at h
    · rw [if_neg hm] at *
      dsimp only at *
      have := hiv rfl
      refine ⟨?_, by omega, hbd.1, by omega, by omega⟩
      rw [List.take_add, this]
  · rw [if_neg he] at h
    simp at h
    exact absurd h he
theorem cnt_zero (lb : List UInt8) (p : Nat) (most : Int) (e : (cntS lb p 0 most).2.2 ≠ 0) : (cntS lb p 0 most).1 = 0 := by
  unfold cntS at e ⊢
  rw [if_neg (by simp)] at e ⊢
  by_cases h1 : (rd (lb.drop p)).2.2 = 0
  · rw [if_pos h1] at e ⊢
    by_cases h2 : most < ((rd (lb.drop p)).1 : Int)
    · rw [if_pos h2]
    · rw [if_neg h2] at e; exact absurd rfl e
  · rw [if_neg h1]
theorem getA_ok (lb : List UInt8) : ∀ (f p : Nat) (a : Int) (acc : List Int) (pre : List UInt8), p ≤ lb.length → 0 ≤ a → okF 0 acc = true → lst 0 acc = a → lb.take p = pre ++ byF 0 acc → (getA lb f p a acc).2.2 = 0 →
    okF 0 (getA lb f p a acc).1 = true ∧ (getA lb f p a acc).1.length = acc.length + f ∧ lb.take (getA lb f p a acc).2.1 = pre ++ byF 0 (getA lb f p a acc).1 ∧ (getA lb f p a acc).2.1 ≤ lb.length
  | 0, p, a, acc, pre, hp, _, ho, _, hb, _ => ⟨ho, rfl, hb, hp⟩
  | f + 1, p, a, acc, pre, hp, ha, ho, hl, hb, h => by
    have hci := cnt_inv lb p 9223372036854775807 hp
    unfold getA at h ⊢
    generalize cntS lb p 0 9223372036854775807 = c at *
    by_cases h1 : c.2.2 ≠ 0
    · rw [if_pos h1] at h; exact absurd h h1
    · rw [if_neg h1] at *
      obtain ⟨i1, i2, i3, i4, i5⟩ := hci (by omega)
      by_cases h2 : 4611686018427387903 < a + (c.1 : Int)
      · rw [if_pos h2] at h; simp at h
      · rw [if_neg h2] at *
        have ih := getA_ok lb f c.2.1 (a + c.1 + 1) (acc ++ [a + (c.1 : Int)]) pre i2 (by omega) (by rw [okF_snoc, ho, hl, decide_eq_true (by omega)]; rfl) (by rw [lst_snoc]) (by
          rw [i1, hb, byF_snoc, hl, show (a + (c.1 : Int) - a).toNat = c.1 from by omega, List.append_assoc]) h
        obtain ⟨j1, j2, j3, j4⟩ := ih
        refine ⟨j1, ?_, j3, j4⟩
        rw [j2, List.length_append]; simp; omega
/-- A row that was read may be, and its bytes stand there. -/
theorem gets_ok (lb : List UInt8) (h : (gets lb).2.2 = 0) : okB (gets lb).1 = true ∧ lb.take (gets lb).2.1 = gB (gets lb).1 ∧ (gets lb).2.1 ≤ lb.length := by
  have hci := cnt_inv lb 0 4096 (Nat.zero_le _)
  unfold gets at *
  generalize cntS lb 0 0 4096 = c at *
  by_cases h1 : c.2.2 ≠ 0
  · rw [if_pos h1] at h; exact absurd h h1
  · rw [if_neg h1] at *
    obtain ⟨i1, i2, i3, i4, i5⟩ := hci (by omega)
    obtain ⟨j1, j2, j3, j4⟩ := getA_ok lb c.1 c.2.1 0 [] (put c.1) i2 (by omega) rfl rfl (by rw [i1]; simp [byF]) h
    refine ⟨?_, ?_, j4⟩
    · unfold okB; rw [j1, j2, decide_eq_true (by simp; omega)]; rfl
    · rw [j3]; unfold gB; rw [j2]; simp
theorem getA_bad (lb : List UInt8) : ∀ (f p : Nat) (a : Int) (acc : List Int), (getA lb f p a acc).2.2 ≠ 0 → (getA lb f p a acc).1 = []
  | 0, p, a, acc, h => absurd rfl h
  | f + 1, p, a, acc, h => by
    unfold getA at h ⊢
    split
    · rfl
    · rename_i h1
      rw [if_neg h1] at h
      split
      · rfl
      · rename_i h2
        rw [if_neg h2] at h
        exact getA_bad lb f _ _ _ h
theorem gets_bad (lb : List UInt8) (h : (gets lb).2.2 ≠ 0) : (gets lb).1 = [] := by
  unfold gets at *
  split
  · rfl
  · rename_i h1
    rw [if_neg h1] at h
    exact getA_bad lb _ _ _ _ h
theorem cnt_put (pre r : List UInt8) (n : Nat) (most : Int) (h : n < 4611686018427387904) (hm : (n : Int) ≤ most) : cntS (pre ++ (put n ++ r)) pre.length 0 most = (n, (pre ++ put n).length, 0) := by
  unfold cntS
  rw [if_neg (by simp), List.drop_left, rd_put n r h]
  dsimp only
  rw [if_pos rfl, if_neg (by omega), List.length_append]
theorem getA_by : ∀ (s : List Int) (pre r : List UInt8) (a : Int) (acc : List Int), 0 ≤ a → okF a s = true → getA (pre ++ (byF a s ++ r)) s.length pre.length a acc = (acc ++ s, (pre ++ byF a s).length, 0)
  | [], pre, r, a, acc, _, _ => by simp [getA, byF]
  | n :: s, pre, r, a, acc, ha, ho => by
    have ho2 : (decide (a ≤ n ∧ n ≤ 4611686018427387903) && okF (n + 1) s) = true := ho
    rw [Bool.and_eq_true, decide_eq_true_iff] at ho2
    have e : pre ++ (byF a (n :: s) ++ r) = pre ++ (put (n - a).toNat ++ (byF (n + 1) s ++ r)) := by
      show pre ++ ((put (n - a).toNat ++ byF (n + 1) s) ++ r) = _
      simp
    have hc := cnt_put pre (byF (n + 1) s ++ r) (n - a).toNat 9223372036854775807 (by omega) (by omega)
    rw [e]
    show getA _ (s.length + 1) _ _ _ = _
    unfold getA
    rw [hc]
    dsimp only
    rw [if_neg (by simp), if_neg (by omega), show a + ((n - a).toNat : Int) = n from by omega]
    have e2 : pre ++ (put (n - a).toNat ++ (byF (n + 1) s ++ r)) = (pre ++ put (n - a).toNat) ++ (byF (n + 1) s ++ r) := by simp
    rw [e2, getA_by s (pre ++ put (n - a).toNat) r (n + 1) (acc ++ [n]) (by omega) ho2.2]
    show _ = (acc ++ n :: s, (pre ++ (put (n - a).toNat ++ byF (n + 1) s)).length, 0)
    simp
/-- What was put is read as it was. -/
theorem gets_by (l : List Int) (r : List UInt8) (h : okB l = true) : gets (gB l ++ r) = (l, (gB l).length, 0) := by
  unfold okB at h
  rw [Bool.and_eq_true, decide_eq_true_iff] at h
  have hc := cnt_put [] (byF 0 l ++ r) l.length 4096 (by omega) (by omega)
  have e : gB l ++ r = [] ++ (put l.length ++ (byF 0 l ++ r)) := by unfold gB; simp
  unfold gets
  rw [e]
  simp only [List.length_nil] at hc
  rw [hc]
  dsimp only
  rw [if_neg (by simp)]
  have := getA_by l (put l.length) r 0 [] (by omega) h.1
  simp only [List.nil_append] at this ⊢
  rw [this]
  unfold gB; simp
end Go.Proofs.Ytoidloofclalhab
