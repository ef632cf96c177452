/- Layer 21 (conf), plain: the bytes of a configuration, written and read. -/
import Derived.Test.YtaeflfgkdjfnfaaIi
import Derived.Test.YtaeflfgkdjfnfaaE2
namespace Go.Proofs.Ytaeflfgkdjfnfaa

/-- A number that is read has the bytes that a number has. -/
theorem rdF_inv : ∀ (l : List UInt8) (n k x j : Nat), n ≠ 0 → n < 36028797018963968 * 128 → rdF l n false k = (x, j, 0) → k ≤ j ∧ hi n ++ l.take (j - k) = put x
  | [], n, k, x, j, _, _, h => by simp [rdF] at h
  | c :: l, n, k, x, j, h0, hb, h => by
    have hc := u8_lt c
    unfold rdF at h
    by_cases h1 : (false = true ∧ c.toNat = 128) ∨ 36028797018963968 ≤ n
    · rw [if_pos h1] at h; simp at h
    · rw [if_neg h1] at h
      have hn : n < 36028797018963968 := by omega
      by_cases h2 : c.toNat < 128
      · rw [if_pos h2] at h
        simp at h
        obtain ⟨rfl, rfl⟩ := h
        refine ⟨by omega, ?_⟩
        rw [show k + 1 - k = 1 from by omega]
        unfold put
        rw [show (n * 128 + c.toNat) / 128 = n from by omega]
        have : lo (n * 128 + c.toNat) = c := by
          apply UInt8.toNat_inj.1
          rw [lo_nat]; omega
        rw [this]; rfl
      · rw [if_neg h2] at h
        have ih := rdF_inv l (n * 128 + (c.toNat - 128)) (k + 1) x j (by omega) (by omega) h
        obtain ⟨i1, i2⟩ := ih
        refine ⟨by omega, ?_⟩
        rw [show j - k = (j - (k + 1)) + 1 from by omega, List.take_succ_cons, ← i2]
        have h9 : (128 : Nat) ^ 9 = 9223372036854775808 := by decide
        rw [hi_step (n * 128 + (c.toNat - 128)) (by omega) (by omega), show (n * 128 + (c.toNat - 128)) / 128 = n from by omega]
        have : up (n * 128 + (c.toNat - 128)) = c := by
          apply UInt8.toNat_inj.1
          rw [up_nat]; omega
        rw [this]; simp
theorem rd_inv (l : List UInt8) (x j : Nat) (h : rd l = (x, j, 0)) : l.take j = put x := by
  unfold rd at h
  cases l with
  | nil => simp [rdF] at h
  | cons c l =>
    have hc := u8_lt c
    unfold rdF at h
    by_cases h1 : (true = true ∧ c.toNat = 128) ∨ 36028797018963968 ≤ 0
    · rw [if_pos h1] at h; simp at h
    · rw [if_neg h1] at h
      by_cases h2 : c.toNat < 128
      · rw [if_pos h2] at h
        simp at h
        obtain ⟨rfl, rfl⟩ := h
        rw [put_small _ h2]
        have : lo c.toNat = c := by apply UInt8.toNat_inj.1; rw [lo_nat]; omega
        rw [this]; rfl
      · rw [if_neg h2] at h
        have h3 : c.toNat ≠ 128 := fun e => h1 (.inl ⟨rfl, e⟩)
        rw [Nat.zero_mul, Nat.zero_add] at h
        obtain ⟨i1, i2⟩ := rdF_inv l (c.toNat - 128) (0 + 1) x j (by omega) (by omega) h
        rw [show j = (j - 1) + 1 from by omega, List.take_succ_cons, ← i2]
        have h9 : (128 : Nat) ^ 9 = 9223372036854775808 := by decide
        rw [hi_step (c.toNat - 128) (by omega) (by omega), show (c.toNat - 128) / 128 = 0 from by omega, hi_zero]
        have : up (c.toNat - 128) = c := by apply UInt8.toNat_inj.1; rw [up_nat]; omega
        rw [this]; simp
/-- A number that is read: its bytes stand there. -/
theorem cnt_inv (lb : List UInt8) (p : Nat) (most : Int) (hp : p ≤ lb.length) (h : (cntS lb p 0 most).2.2 = 0) :
    lb.take (cntS lb p 0 most).2.1 = lb.take p ++ put (cntS lb p 0 most).1 ∧ (cntS lb p 0 most).2.1 ≤ lb.length ∧ (cntS lb p 0 most).1 < 4611686018427387904 ∧ ((cntS lb p 0 most).1 : Int) ≤ most ∧ p ≤ (cntS lb p 0 most).2.1 := by
  have hbd := rdF_bd (lb.drop p) 0 true 0
  rw [show rdF (lb.drop p) 0 true 0 = rd (lb.drop p) from rfl, List.length_drop] at hbd
  have hiv := rd_inv (lb.drop p) (rd (lb.drop p)).1 (rd (lb.drop p)).2.1
  unfold cntS at *
  rw [if_neg (by simp)] at *
  generalize rd (lb.drop p) = r at *
  obtain ⟨x, j, e⟩ := r
  dsimp only at *
  by_cases he : e = 0
  · subst he
    rw [if_pos rfl] at *
    by_cases hm : most < (x : Int)
    · rw [if_pos hm] at h; simp at h
    · rw [if_neg hm] at *
      dsimp only at *
      have := hiv rfl
      refine ⟨?_, by omega, hbd.1, by omega, by omega⟩
      rw [List.take_add, this]
  · rw [if_neg he] at h
    simp at h
    exact absurd h he
theorem cnt_put (pre r : List UInt8) (n : Nat) (most : Int) (h : n < 4611686018427387904) (hm : (n : Int) ≤ most) : cntS (pre ++ (put n ++ r)) pre.length 0 most = (n, (pre ++ put n).length, 0) := by
  unfold cntS
  rw [if_neg (by simp), List.drop_left, rd_put n r h]
  dsimp only
  rw [if_pos rfl, if_neg (by omega), List.length_append]
def mxI : Int := 9223372036854775807
/-- Numbers one behind the other, each of at most so much. -/
def rdL (l : List UInt8) : List Int → Nat → Int → List Nat × Nat × Int
  | [], p, y => ([], p, y)
  | m :: ms, p, y => ((cntS l p y m).1 :: (rdL l ms (cntS l p y m).2.1 (cntS l p y m).2.2).1, (rdL l ms (cntS l p y m).2.1 (cntS l p y m).2.2).2)
theorem rdL_snoc (l : List UInt8) (m : Int) : ∀ (ms : List Int) (p : Nat) (y : Int), rdL l (ms ++ [m]) p y = ((rdL l ms p y).1 ++ [(cntS l (rdL l ms p y).2.1 (rdL l ms p y).2.2 m).1], (cntS l (rdL l ms p y).2.1 (rdL l ms p y).2.2 m).2)
  | [], p, y => by simp [rdL]
  | a :: ms, p, y => by
    have := rdL_snoc l m ms (cntS l p y a).2.1 (cntS l p y a).2.2
    simp only [List.cons_append, rdL, this]
theorem rdL_len (l : List UInt8) : ∀ (ms : List Int) (p : Nat) (y : Int), (rdL l ms p y).1.length = ms.length
  | [], _, _ => rfl
  | m :: ms, p, y => by simp [rdL, rdL_len l ms]
theorem cnt_stuck (l : List UInt8) (p : Nat) (y m : Int) (h : y ≠ 0) : cntS l p y m = (0, p, y) := by unfold cntS; rw [if_pos h]
theorem rdL_stuck (l : List UInt8) : ∀ (ms : List Int) (p : Nat) (y : Int), y ≠ 0 → (rdL l ms p y).2.2 = y
  | [], _, _, _ => rfl
  | m :: ms, p, y, h => by
    simp only [rdL, cnt_stuck l p y m h]
    exact rdL_stuck l ms p y h
theorem rdL_at (l : List UInt8) : ∀ (ms : List Int) (p : Nat) (y : Int), p ≤ l.length → (rdL l ms p y).2.1 ≤ l.length
  | [], _, _, h => h
  | m :: ms, p, y, h => by
    simp only [rdL]
    exact rdL_at l ms _ _ (cntS_bd l p y m h).1
def okN : List Nat → List Int → Prop
  | [], [] => True
  | v :: vs, m :: ms => v < 4611686018427387904 ∧ (v : Int) ≤ m ∧ okN vs ms
  | _, _ => False
def pall : List Nat → List UInt8
  | [] => []
  | v :: vs => put v ++ pall vs
theorem pall_app : ∀ (a b : List Nat), pall (a ++ b) = pall a ++ pall b
  | [], b => rfl
  | v :: a, b => by simp [pall, pall_app a b]
theorem pall_len : ∀ vs : List Nat, (pall vs).length ≤ 10 * vs.length
  | [] => by simp [pall]
  | v :: vs => by
    have := pall_len vs
    have := put_len v
    simp only [pall, List.length_append, List.length_cons]
    omega
theorem rdL_put : ∀ (vs : List Nat) (ms : List Int) (pre r : List UInt8), okN vs ms → rdL (pre ++ (pall vs ++ r)) ms pre.length 0 = (vs, (pre ++ pall vs).length, 0)
  | [], [], pre, r, _ => by simp [rdL, pall]
  | v :: vs, m :: ms, pre, r, h => by
    obtain ⟨h1, h2, h3⟩ := h
    have hc := cnt_put pre (pall vs ++ r) v m h1 h2
    have ih := rdL_put vs ms (pre ++ put v) r h3
    have e1 : pre ++ (pall (v :: vs) ++ r) = pre ++ (put v ++ (pall vs ++ r)) := by simp [pall]
    have e2 : pre ++ put v ++ (pall vs ++ r) = pre ++ (put v ++ (pall vs ++ r)) := by simp
    rw [e1]
    rw [e2] at ih
    simp only [rdL, hc, ih]
    simp [pall]
  | [], _ :: _, _, _, h => h.elim
  | _ :: _, [], _, _, h => h.elim
theorem rdL_inv (l : List UInt8) : ∀ (ms : List Int) (p : Nat), p ≤ l.length → (rdL l ms p 0).2.2 = 0 → l.take (rdL l ms p 0).2.1 = l.take p ++ pall (rdL l ms p 0).1 ∧ okN (rdL l ms p 0).1 ms
  | [], p, _, _ => by simp [rdL, pall, okN]
  | m :: ms, p, hp, h => by
    simp only [rdL] at h ⊢
    have hc : (cntS l p 0 m).2.2 = 0 := by
      by_cases hy : (cntS l p 0 m).2.2 = 0
      · exact hy
      · rw [rdL_stuck l ms _ _ hy] at h; exact absurd h hy
    obtain ⟨h1, h2, h3, h4, _⟩ := cnt_inv l p m hp hc
    rw [hc] at h ⊢
    obtain ⟨k1, k2⟩ := rdL_inv l ms _ h2 h
    refine ⟨?_, h3, h4, k2⟩
    rw [k1, h1]
    simp [pall]
def cM : List Int := [mxI, 1, mxI, 1, mxI, 1, mxI, 1, mxI, 1, mxI]
/-- The configuration of numbers that were read. -/
def cfD (vs : List Nat) : Cf := ⟨(vs.getD 0 0 : Nat), ((vs.getD 1 0 : Nat) : Int) == 1, ((vs.getD 3 0 : Nat) : Int) == 1, ((vs.getD 5 0 : Nat) : Int) == 1, ((vs.getD 7 0 : Nat) : Int) == 1, ((vs.getD 9 0 : Nat) : Int) == 1, (vs.getD 2 0 : Nat), (vs.getD 4 0 : Nat), (vs.getD 6 0 : Nat), (vs.getD 8 0 : Nat), (vs.getD 10 0 : Nat)⟩
def ob (b : Bool) : Nat := if b then 1 else 0
def cN (c : Cf) : List Nat := [c.e.toNat, ob c.o0, c.j0.toNat, ob c.o1, c.j1.toNat, ob c.o2, c.j2.toNat, ob c.o3, c.j3.toNat, ob c.o4, c.j4.toNat]
def cB (c : Cf) : List UInt8 := pall (cN c)
def Cf.zero : Cf := ⟨0, false, false, false, false, false, 0, 0, 0, 0, 0⟩
def gY (l : List UInt8) : Int := if endS l (rdL l cM 0 0).2.1 (rdL l cM 0 0).2.2 = 0 then (if (cfD (rdL l cM 0 0).1).right = true then 0 else 31) else endS l (rdL l cM 0 0).2.1 (rdL l cM 0 0).2.2
def gC (l : List UInt8) : Cf := if gY l = 0 then cfD (rdL l cM 0 0).1 else Cf.zero
theorem ob_le (b : Bool) : ob b < 4611686018427387904 ∧ ((ob b : Nat) : Int) ≤ 1 := by cases b <;> simp [ob]
theorem ob_eq (b : Bool) : (((ob b : Nat) : Int) == 1) = b := by cases b <;> rfl
theorem right_bd {c : Cf} (h : c.right = true) : (0 ≤ c.e ∧ c.e ≤ 1099511627776) ∧ ∀ x ∈ c.joins, 0 ≤ x ∧ x ≤ c.e := by
  unfold Cf.right at h
  rw [Bool.and_eq_true, decide_eq_true_eq, Bool.not_eq_true', List.any_eq_false] at h
  refine ⟨h.1, fun x hx => ?_⟩
  have := h.2 x hx
  unfold wrj at this
  rw [Bool.or_eq_true, decide_eq_true_eq, decide_eq_true_eq] at this
  omega
theorem get_put {c : Cf} (h : c.right = true) : gY (cB c) = 0 ∧ gC (cB c) = c := by
  obtain ⟨h1, h2⟩ := right_bd h
  have b0 := h2 c.j0 (by simp [Cf.joins])
  have b1 := h2 c.j1 (by simp [Cf.joins])
  have b2 := h2 c.j2 (by simp [Cf.joins])
  have b3 := h2 c.j3 (by simp [Cf.joins])
  have b4 := h2 c.j4 (by simp [Cf.joins])
  have hr := rdL_put (cN c) cM [] [] (by
    simp only [cN, cM, okN, mxI]
    refine ⟨by omega, by omega, (ob_le _).1, (ob_le _).2, by omega, by omega, (ob_le _).1, (ob_le _).2, by omega, by omega, (ob_le _).1, (ob_le _).2, by omega, by omega, (ob_le _).1, (ob_le _).2, by omega, by omega, (ob_le _).1, (ob_le _).2, by omega, by omega, trivial⟩)
  simp only [List.nil_append, List.append_nil, List.length_nil] at hr
  have hD : cfD (cN c) = c := by
    obtain ⟨e, o0, o1, o2, o3, o4, j0, j1, j2, j3, j4⟩ := c
    simp only [cfD, cN, List.getD_cons_zero, List.getD_cons_succ, ob_eq, Cf.mk.injEq, true_and]
    dsimp only at h1 b0 b1 b2 b3 b4
    refine ⟨by omega, by omega, by omega, by omega, by omega, by omega⟩
  have hy : gY (cB c) = 0 := by
    unfold gY cB
    rw [hr]
    dsimp only
    rw [hD, h]
    simp [endS]
  refine ⟨hy, ?_⟩
  unfold gC
  rw [if_pos hy]
  unfold cB
  rw [hr]
  exact hD
theorem get_inv {l : List UInt8} (h : gY l = 0) : (gC l).right = true ∧ cB (gC l) = l := by
  have hC : gC l = cfD (rdL l cM 0 0).1 := by unfold gC; rw [if_pos h]
  rw [hC]
  unfold gY at h
  have hat := rdL_at l cM 0 0 (Nat.zero_le _)
  by_cases he : endS l (rdL l cM 0 0).2.1 (rdL l cM 0 0).2.2 = 0
  · rw [if_pos he] at h
    have hr : (cfD (rdL l cM 0 0).1).right = true := by
      cases hq : (cfD (rdL l cM 0 0).1).right with
      | true => rfl
      | false => rw [hq] at h; simp at h
    refine ⟨hr, ?_⟩
    unfold endS at he
    have hy : (rdL l cM 0 0).2.2 = 0 ∧ (rdL l cM 0 0).2.1 = l.length := by
      by_cases hlt : (rdL l cM 0 0).2.1 < l.length
      · rw [if_pos hlt] at he
        by_cases h0 : (rdL l cM 0 0).2.2 = 0
        · rw [if_pos h0] at he; simp at he
        · rw [if_neg h0] at he; exact absurd he h0
      · rw [if_neg hlt] at he; exact ⟨he, by omega⟩
    obtain ⟨k1, k2⟩ := rdL_inv l cM 0 (Nat.zero_le _) hy.1
    rw [hy.2, List.take_length] at k1
    simp only [List.take_zero, List.nil_append] at k1
    have hlen := rdL_len l cM 0 0
    generalize (rdL l cM 0 0).1 = vs at *
    match vs, hlen with
    | [e, a0, b0, a1, b1, a2, b2, a3, b3, a4, b4], _ =>
      simp only [cM, okN, mxI] at k2
      obtain ⟨_, _, _, p0, _, _, _, p1, _, _, _, p2, _, _, _, p3, _, _, _, p4, _, _, _⟩ := k2
      have ho : ∀ a : Nat, (a : Int) ≤ 1 → ob (((a : Nat) : Int) == 1) = a := fun a ha => by
        rcases (show a = 0 ∨ a = 1 from by omega) with rfl | rfl <;> rfl
      have hn : cN (cfD [e, a0, b0, a1, b1, a2, b2, a3, b3, a4, b4]) = [e, a0, b0, a1, b1, a2, b2, a3, b3, a4, b4] := by
        simp only [cN, cfD, List.getD_cons_zero, List.getD_cons_succ, Int.toNat_natCast, ho a0 p0, ho a1 p1, ho a2 p2, ho a3 p3, ho a4 p4]
      unfold cB
      rw [hn, ← k1]
  · rw [if_neg he] at h
    exact absurd h he
end Go.Proofs.Ytaeflfgkdjfnfaa
