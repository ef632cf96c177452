/- Layer 41 (skew), plain: how far a clock is ahead in any time: suffix by suffix, and in one go. No program. -/
import Derived.Test.YtkkhljneeajkmaaKit
namespace Go.Proofs.Ytkkhljneeajkmaa
/-- What a time's number becomes with a tick more. -/
def stp (a b : Int) (n : Int) (x : Int × Int) : Int := (if x.1 = a then n + x.2 else n) - (if x.1 = b then 2 * x.2 else 0)
/-- The greatest number in times that begin here, with n so far. -/
def mp (a b : Int) : List (Int × Int) → Int → Int
  | [], n => n
  | x :: l, n => max n (mp a b l (stp a b n x))
def inn (a b : Int) : List (Int × Int) → Int → Int → Int
  | [], _, best => best
  | x :: l, n, best => inn a b l (stp a b n x) (max best (stp a b n x))
def ahd (a b : Int) : List (Int × Int) → Int → Int
  | [], best => best
  | x :: l, best => ahd a b l (inn a b (x :: l) 0 best)
/-- In one go: the greatest number up to now, and in any time. -/
def kst (a b : Int) (s : Int × Int) (x : Int × Int) : Int × Int := if x.1 = a then (s.1 + x.2, max s.2 (s.1 + x.2)) else if x.1 = b then (max (s.1 - 2 * x.2) 0, s.2) else s
def kdn (a b : Int) (l : List (Int × Int)) (s : Int × Int) : Int × Int := l.foldl (kst a b) s
def gt (a b : Int) : List (Int × Int) → Int
  | [] => 0
  | x :: l => max (mp a b (x :: l) 0) (gt a b l)
theorem mp_ge (a b : Int) (l : List (Int × Int)) (n : Int) : n ≤ mp a b l n := by
  cases l with
  | nil => exact Int.le_refl _
  | cons x l => unfold mp; omega
theorem stp_shift (a b n d : Int) (x : Int × Int) : stp a b (n + d) x = stp a b n x + d := by
  unfold stp
  split <;> omega
theorem mp_shift (a b : Int) (l : List (Int × Int)) : ∀ n d, mp a b l (n + d) = mp a b l n + d := by
  induction l with
  | nil => intro n d; rfl
  | cons x l ih =>
    intro n d
    unfold mp
    rw [stp_shift, ih]
    omega
theorem mp_mono (a b : Int) (l : List (Int × Int)) (n m : Int) (h : n ≤ m) : mp a b l n ≤ mp a b l m := by
  have := mp_shift a b l n (m - n)
  rw [show n + (m - n) = m from by omega] at this
  omega
theorem inn_eq (a b : Int) (l : List (Int × Int)) : ∀ n best, n ≤ best → inn a b l n best = max best (mp a b l n) := by
  induction l with
  | nil => intro n best h; unfold inn mp; omega
  | cons x l ih =>
    intro n best h
    unfold inn mp
    rw [ih _ _ (by omega)]
    have := mp_ge a b l (stp a b n x)
    omega
theorem ahd_eq (a b : Int) (l : List (Int × Int)) : ∀ best, 0 ≤ best → ahd a b l best = max best (gt a b l) := by
  induction l with
  | nil => intro best h; unfold ahd gt; omega
  | cons x l ih =>
    intro best h
    unfold ahd
    rw [inn_eq _ _ _ _ _ h, ih _ (by omega)]
    conv => rhs; unfold gt
    omega
theorem gt_ge (a b : Int) (l : List (Int × Int)) : mp a b l 0 ≤ gt a b l := by
  cases l with
  | nil => exact Int.le_refl _
  | cons x l => unfold gt; omega
theorem kdn_eq (a b : Int) (hab : a ≠ b) (l : List (Int × Int)) (hl : ∀ x ∈ l, 0 ≤ x.2) : ∀ s : Int × Int, 0 ≤ s.1 → s.1 ≤ s.2 → (kdn a b l s).2 = max s.2 (max (mp a b l s.1) (gt a b l)) := by
  induction l with
  | nil => intro s h1 h2; unfold kdn mp gt; simp; omega
  | cons x l ih =>
    intro s h1 h2
    have h0 := hl x (List.mem_cons_self ..)
    have ih2 := ih (fun y hy => hl y (List.mem_cons_of_mem _ hy))
    obtain ⟨now, most⟩ := s
    obtain ⟨w, t⟩ := x
    dsimp only at h0 h1 h2
    have g0 := gt_ge a b l
    have m0 := mp_ge a b l 0
    show (kdn a b l (kst a b (now, most) (w, t))).2 = max most (max (mp a b ((w, t) :: l) now) (gt a b ((w, t) :: l)))
    have e2 : gt a b ((w, t) :: l) = max (max 0 (mp a b l (stp a b 0 (w, t)))) (gt a b l) := rfl
    have e1 : mp a b ((w, t) :: l) now = max now (mp a b l (stp a b now (w, t))) := rfl
    rw [e1, e2]
    unfold kst stp
    dsimp only
    by_cases ha : w = a
    · rw [if_pos ha, if_pos ha, if_pos ha, if_neg (fun e => hab (ha.symm.trans e))]
      rw [ih2 _ (by dsimp only; omega) (by dsimp only; omega)]
      dsimp only
      have k1 := mp_ge a b l (now + t)
      have k2 := mp_mono a b l (0 + t - 0) (now + t) (by omega)
      rw [show now + t - 0 = now + t from by omega]
      omega
    · rw [if_neg ha, if_neg ha, if_neg ha]
      by_cases hb : w = b
      · rw [if_pos hb, if_pos hb]
        rw [ih2 _ (by dsimp only; omega) (by dsimp only; omega)]
        dsimp only
        have k2 := mp_mono a b l (0 - 2 * t) (now - 2 * t) (by omega)
        rcases (show now - 2 * t ≤ 0 ∨ 0 ≤ now - 2 * t from by omega) with h | h
        · rw [show max (now - 2 * t) 0 = 0 from by omega]
          have k3 := mp_mono a b l (now - 2 * t) 0 h
          omega
        · rw [show max (now - 2 * t) 0 = now - 2 * t from by omega]
          omega
      · rw [if_neg hb, if_neg hb]
        rw [ih2 _ (by dsimp only; omega) (by dsimp only; omega)]
        dsimp only
        have k2 := mp_mono a b l 0 now (by omega)
        rw [show now - 0 = now from by omega, show (0 : Int) - 0 = 0 from by omega]
        omega
/-- In one go it is the greatest of all times. -/
theorem kdn_ahd (a b : Int) (hab : a ≠ b) (l : List (Int × Int)) (hl : ∀ x ∈ l, 0 ≤ x.2) : (kdn a b l (0, 0)).2 = ahd a b l 0 := by
  rw [kdn_eq a b hab l hl (0, 0) (Int.le_refl _) (Int.le_refl _), ahd_eq a b l 0 (Int.le_refl _)]
  have := gt_ge a b l
  dsimp only
  omega
/-- Clocks' rates: how far each went, and for each two the number up to now and in any time. -/
structure RT where
  gone : Nat → Int
  now : Nat → Nat → Int
  most : Nat → Nat → Int
def RT.zero : RT := ⟨fun _ => 0, fun _ _ => 0, fun _ _ => 0⟩
/-- The clock a goes on by t, told to the first k others. -/
def RT.go (a : Nat) (t : Int) (k : Nat) (R : RT) : RT where
  gone := fun x => if x = a then R.gone x + t else R.gone x
  now := fun x y => if x = a ∧ y ≠ a ∧ y < k then R.now x y + t else if y = a ∧ x ≠ a ∧ x < k then max (R.now x y - 2 * t) 0 else R.now x y
  most := fun x y => if x = a ∧ y ≠ a ∧ y < k then max (R.most x y) (R.now x y + t) else R.most x y
def RT.of (l : List (Int × Int)) : RT := l.foldl (fun R x => RT.go x.1.toNat x.2 5 R) RT.zero
structure RT.Ok (R : RT) (N : Int) : Prop where
  gone : ∀ x, 0 ≤ R.gone x ∧ R.gone x ≤ N
  now : ∀ x y, 0 ≤ R.now x y ∧ R.now x y ≤ N
  most : ∀ x y, 0 ≤ R.most x y ∧ R.most x y ≤ N
theorem RT.Ok.go {R : RT} {N : Int} (h : R.Ok N) (a : Nat) (t : Int) (k : Nat) (ht : 0 ≤ t ∧ t ≤ 64) : (RT.go a t k R).Ok (N + 64) := by
  refine ⟨fun x => ?_, fun x y => ?_, fun x y => ?_⟩
  · have := h.gone x
    unfold RT.go
    dsimp only
    split <;> omega
  · have := h.now x y
    unfold RT.go
    dsimp only
    split
    · omega
    · split <;> omega
  · have h1 := h.now x y
    have h2 := h.most x y
    unfold RT.go
    dsimp only
    split <;> omega
theorem RT.zero_ok : RT.zero.Ok 0 := ⟨fun _ => ⟨Int.le_refl _, Int.le_refl _⟩, fun _ _ => ⟨Int.le_refl _, Int.le_refl _⟩, fun _ _ => ⟨Int.le_refl _, Int.le_refl _⟩⟩
theorem RT.go_pair (a x y : Nat) (t : Int) (R : RT) (hx : x < 5) (hy : y < 5) (hxy : x ≠ y) : ((RT.go a t 5 R).now x y, (RT.go a t 5 R).most x y) = kst x y (R.now x y, R.most x y) ((a : Int), t) := by
  unfold RT.go kst
  dsimp only
  by_cases h1 : x = a
  · subst h1
    rw [if_pos ⟨rfl, fun e => hxy e.symm, hy⟩, if_pos ⟨rfl, fun e => hxy e.symm, hy⟩, if_pos rfl]
  · have hA : ¬ (x = a ∧ y ≠ a ∧ y < 5) := fun e => h1 e.1
    simp only [if_neg hA, if_neg (show ¬ ((a : Int) = (x : Int)) from by omega)]
    by_cases h2 : y = a
    · subst h2
      rw [if_pos ⟨rfl, h1, hx⟩, if_pos rfl]
    · rw [if_neg (fun e => h2 e.1), if_neg (show ¬ ((a : Int) = (y : Int)) from by omega)]
theorem RT.of_pair (x y : Nat) (hx : x < 5) (hy : y < 5) (hxy : x ≠ y) (l : List (Int × Int)) (hl : ∀ z ∈ l, 0 ≤ z.1) : ∀ R : RT, ((l.foldl (fun R x => RT.go x.1.toNat x.2 5 R) R).now x y, (l.foldl (fun R x => RT.go x.1.toNat x.2 5 R) R).most x y) = kdn x y l (R.now x y, R.most x y) := by
  induction l with
  | nil => intro R; rfl
  | cons z l ih =>
    intro R
    have hz := hl z (List.mem_cons_self ..)
    rw [List.foldl_cons]
    rw [ih (fun u hu => hl u (List.mem_cons_of_mem _ hu))]
    show _ = kdn x y l (kst x y (R.now x y, R.most x y) z)
    rw [RT.go_pair _ _ _ _ _ hx hy hxy]
    rw [show ((z.1.toNat : Nat) : Int) = z.1 from by omega]
theorem RT.diag (l : List (Int × Int)) (x : Nat) : ∀ R : RT, (l.foldl (fun R x => RT.go x.1.toNat x.2 5 R) R).most x x = R.most x x := by
  induction l with
  | nil => intro R; rfl
  | cons z l ih =>
    intro R
    rw [List.foldl_cons, ih]
    unfold RT.go
    dsimp only
    rw [if_neg (fun e => e.2.1 e.1)]
/-- What the rates tell of two clocks is what the document tells of all times. -/
theorem RT.of_ahd (x y : Nat) (hx : x < 5) (hy : y < 5) (l : List (Int × Int)) (hl : ∀ z ∈ l, 0 ≤ z.1 ∧ 0 ≤ z.2) : (RT.of l).most x y = if x = y then 0 else ahd x y l 0 := by
  by_cases hxy : x = y
  · subst hxy
    rw [if_pos rfl]
    exact RT.diag l x RT.zero
  · rw [if_neg hxy, ← kdn_ahd x y (by omega) l (fun z hz => (hl z hz).2)]
    have := RT.of_pair x y hx hy hxy l (fun z hz => (hl z hz).1) RT.zero
    have h2 := congrArg Prod.snd this
    exact h2
/-- Are all of the first n within a slack? -/
def wth (R : RT) (slack : Int) (n : Nat) : Bool := (List.range n).all fun a => (List.range n).all fun b => decide (R.most a b ≤ slack)
end Go.Proofs.Ytkkhljneeajkmaa
