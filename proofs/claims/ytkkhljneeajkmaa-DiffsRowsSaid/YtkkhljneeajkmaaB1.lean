/- Layer 36 (diffs), plain: how entries stand; rising rows; what is just in one of two. No program. -/
import Derived.Test.YtkkhljneeajkmaaOa
namespace Go.Proofs.Ytkkhljneeajkmaa
open Go.RowKit

def cmpT (a b : ByteArray) : Int := if Op.bytesLess a.toList b.toList = true then -1 else if (a.toList == b.toList) = true then 0 else 1
def or2 (p q : Int) : Int := if p ≠ 0 then p else q
/-- A comparison: of two either one is ahead, or they stand alike; what is not behind what is not behind is not behind. -/
structure TO {α : Type} (c : α → α → Int) : Prop where
  bd : ∀ a b, -1 ≤ c a b ∧ c a b ≤ 1
  anti : ∀ a b, c b a = -c a b
  tr : ∀ a b d, c a b ≤ 0 → c b d ≤ 0 → c a d ≤ 0
theorem TO.zero {α : Type} {c : α → α → Int} (h : TO c) (a : α) : c a a = 0 := by have := h.anti a a; omega
theorem TO.strict {α : Type} {c : α → α → Int} (h : TO c) (a b d : α) (h1 : c a b < 0) (h2 : c b d ≤ 0) : c a d < 0 := by
  rcases (show c a d < 0 ∨ 0 ≤ c a d by omega) with h3 | h3
  · exact h3
  · exfalso
    have e1 := h.anti a d
    have e2 := h.tr b d a h2 (by omega)
    have e3 := h.anti a b
    omega
theorem TO.strict' {α : Type} {c : α → α → Int} (h : TO c) (a b d : α) (h1 : c a b ≤ 0) (h2 : c b d < 0) : c a d < 0 := by
  rcases (show c a d < 0 ∨ 0 ≤ c a d by omega) with h3 | h3
  · exact h3
  · exfalso
    have e1 := h.anti a d
    have e2 := h.tr d a b (by omega) h1
    have e3 := h.anti b d
    omega
theorem TO.same {α : Type} {c : α → α → Int} (h : TO c) (a b d : α) (h1 : c a b = 0) (h2 : c b d = 0) : c a d = 0 := by
  have e1 := h.tr a b d (by omega) (by omega)
  have e2 := h.tr d b a (by have := h.anti b d; omega) (by have := h.anti a b; omega)
  have e3 := h.anti a d
  omega
theorem TO.on {α β : Type} {c : α → α → Int} (h : TO c) (f : β → α) : TO (fun a b => c (f a) (f b)) := ⟨fun _ _ => h.bd _ _, fun _ _ => h.anti _ _, fun _ _ _ => h.tr _ _ _⟩
theorem TO.or {α : Type} {c d : α → α → Int} (h : TO c) (k : TO d) : TO (fun a b => or2 (c a b) (d a b)) := by
  refine ⟨fun a b => ?_, fun a b => ?_, fun a b e h1 h2 => ?_⟩
  · have := h.bd a b; have := k.bd a b; unfold or2; split <;> omega
  · have e1 := h.anti a b
    have e2 := k.anti a b
    unfold or2
    rw [e1, e2]
    by_cases hz : c a b = 0
    · rw [if_neg (by omega), if_neg (by omega)]
    · rw [if_pos (by omega), if_pos (by omega)]
  · have key : ∀ x y, or2 (c x y) (d x y) ≤ 0 → c x y < 0 ∨ (c x y = 0 ∧ d x y ≤ 0) := fun x y hxy => by
      unfold or2 at hxy
      by_cases hz : c x y = 0
      · rw [if_neg (by omega)] at hxy; exact .inr ⟨hz, hxy⟩
      · rw [if_pos (by omega)] at hxy; exact .inl (by omega)
    have fin : c a e < 0 ∨ (c a e = 0 ∧ d a e ≤ 0) → or2 (c a e) (d a e) ≤ 0 := fun hx => by
      unfold or2
      rcases hx with hx | ⟨hx, hy⟩
      · rw [if_pos (by omega)]; omega
      · rw [if_neg (by omega)]; exact hy
    apply fin
    rcases key a b h1 with x1 | ⟨x1, x2⟩
    · rcases key b e h2 with y1 | ⟨y1, y2⟩
      · exact .inl (h.strict a b e x1 (by omega))
      · exact .inl (h.strict a b e x1 (by omega))
    · rcases key b e h2 with y1 | ⟨y1, y2⟩
      · exact .inl (h.strict' a b e (by omega) y1)
      · exact .inr ⟨h.same a b e x1 y1, k.tr a b e x2 y2⟩
theorem to_int : TO cmpI := by
  refine ⟨fun a b => ?_, fun a b => ?_, fun a b d h1 h2 => ?_⟩
  · unfold cmpI; repeat' split
    all_goals omega
  · unfold cmpI; repeat' split
    all_goals omega
  · unfold cmpI at *
    repeat' split
    all_goals first | omega | (split at h1 <;> split at h2 <;> first | omega | (split at h1 <;> first | omega | (split at h2 <;> omega)) | (split at h2 <;> first | omega | (split at h1 <;> omega)))
theorem bless_irr : ∀ x : List UInt8, Op.bytesLess x x = false
  | [] => rfl
  | a :: x => by simp [Op.bytesLess, bless_irr x]
theorem bless_asym : ∀ x y : List UInt8, Op.bytesLess x y = true → Op.bytesLess y x = false
  | _, [], h => by simp [Op.bytesLess] at h
  | [], _ :: _, _ => rfl
  | a :: x, b :: y, h => by
    simp only [Op.bytesLess, Bool.or_eq_true, Bool.and_eq_true, decide_eq_true_eq, beq_iff_eq] at h
    simp only [Op.bytesLess, Bool.or_eq_false_iff, Bool.and_eq_false_imp, decide_eq_false_iff_not, beq_iff_eq]
    rcases h with h | ⟨rfl, h⟩
    · refine ⟨UInt8.not_lt.2 (UInt8.le_of_lt h), fun e => ?_⟩
      subst e
      exact absurd h (UInt8.lt_irrefl _)
    · exact ⟨UInt8.lt_irrefl _, fun _ => bless_asym x y h⟩
theorem bless_tot : ∀ x y : List UInt8, Op.bytesLess x y = false → x ≠ y → Op.bytesLess y x = true
  | [], [], _, hne => absurd rfl hne
  | _ :: _, [], _, _ => rfl
  | [], _ :: _, h, _ => by simp [Op.bytesLess] at h
  | a :: x, b :: y, h, hne => by
    simp only [Op.bytesLess, Bool.or_eq_false_iff, Bool.and_eq_false_imp, decide_eq_false_iff_not, beq_iff_eq] at h
    simp only [Op.bytesLess, Bool.or_eq_true, Bool.and_eq_true, decide_eq_true_eq, beq_iff_eq]
    by_cases e : a = b
    · subst e
      exact .inr ⟨rfl, bless_tot x y (h.2 rfl) (fun hxy => hne (by rw [hxy]))⟩
    · left
      have h1 := UInt8.not_lt.1 h.1
      exact UInt8.lt_of_le_of_ne h1 (fun e2 => e e2.symm)
theorem bless_tr : ∀ x y z : List UInt8, Op.bytesLess x y = true → Op.bytesLess y z = true → Op.bytesLess x z = true
  | _, [], _, h, _ => by simp [Op.bytesLess] at h
  | _, _ :: _, [], _, h => by simp [Op.bytesLess] at h
  | [], _ :: _, _ :: _, _, _ => rfl
  | a :: x, b :: y, c :: z, h1, h2 => by
    simp only [Op.bytesLess, Bool.or_eq_true, Bool.and_eq_true, decide_eq_true_eq, beq_iff_eq] at h1 h2 ⊢
    rcases h1 with h1 | ⟨rfl, h1⟩
    · rcases h2 with h2 | ⟨rfl, h2⟩
      · exact .inl (UInt8.lt_trans h1 h2)
      · exact .inl h1
    · rcases h2 with h2 | ⟨rfl, h2⟩
      · exact .inl h2
      · exact .inr ⟨rfl, bless_tr x y z h1 h2⟩
theorem cmpT_neg (a b : ByteArray) : cmpT a b < 0 ↔ Op.bytesLess a.toList b.toList = true := by
  unfold cmpT; constructor
  · intro h; split at h
    · assumption
    · split at h <;> simp at h
  · intro h; rw [if_pos h]; decide
theorem cmpT_zero (a b : ByteArray) : cmpT a b = 0 ↔ a.toList = b.toList := by
  unfold cmpT; constructor
  · intro h; split at h
    · simp at h
    · split at h
      · rename_i h2; simpa using h2
      · simp at h
  · intro h; rw [h, bless_irr]; simp
theorem cmpT_bd (a b : ByteArray) : -1 ≤ cmpT a b ∧ cmpT a b ≤ 1 := by
  unfold cmpT
  split
  · omega
  · split <;> omega
theorem to_str : TO cmpT := by
  have anti : ∀ a b, cmpT b a = -cmpT a b := fun a b => by
    cases h : Op.bytesLess a.toList b.toList with
    | true =>
      have h1 : cmpT a b = -1 := by unfold cmpT; rw [if_pos h]
      have h2 : cmpT b a = 1 := by
        unfold cmpT
        rw [if_neg (by rw [bless_asym _ _ h]; simp), if_neg]
        intro e
        rw [beq_iff_eq] at e
        rw [e, bless_irr] at h
        cases h
      rw [h1, h2]; rfl
    | false =>
      by_cases e : a.toList = b.toList
      · rw [(cmpT_zero a b).2 e, (cmpT_zero b a).2 e.symm]; rfl
      · have h2 : cmpT b a = -1 := by unfold cmpT; rw [if_pos (bless_tot _ _ h e)]
        have h1 : cmpT a b = 1 := by unfold cmpT; rw [if_neg (by rw [h]; simp), if_neg (by simpa using e)]
        rw [h1, h2]
  refine ⟨cmpT_bd, anti, fun a b d h1 h2 => ?_⟩
  rcases (show cmpT a b < 0 ∨ 0 ≤ cmpT a b by omega) with x1 | x1
  · rcases (show cmpT b d < 0 ∨ 0 ≤ cmpT b d by omega) with y1 | y1
    · have := (cmpT_neg a d).2 (bless_tr _ _ _ ((cmpT_neg a b).1 x1) ((cmpT_neg b d).1 y1)); omega
    · have e := (cmpT_zero b d).1 (by omega)
      have := (cmpT_neg a d).2 (by rw [← e]; exact (cmpT_neg a b).1 x1); omega
  · have e := (cmpT_zero a b).1 (by omega)
    rcases (show cmpT b d < 0 ∨ 0 ≤ cmpT b d by omega) with y1 | y1
    · have := (cmpT_neg a d).2 (by rw [e]; exact (cmpT_neg b d).1 y1); omega
    · have e2 := (cmpT_zero b d).1 (by omega)
      have := (cmpT_zero a d).2 (by rw [e, e2]); omega
theorem cmpT_eq {a b : ByteArray} (h : cmpT a b = 0) : a = b := by
  have h2 := (cmpT_zero a b).1 h
  rw [ByteArray.toList_eq, ByteArray.toList_eq] at h2
  exact bytes_inj' h2
theorem cmpI_lt (x y : Int) : (cmpI x y < 0 ↔ x < y) ∧ (cmpI x y = 0 ↔ x = y) ∧ (0 < cmpI x y ↔ y < x) := by
  unfold cmpI
  repeat' split
  all_goals omega
theorem to_stamp : TO cmpS := by
  have h : TO (fun a b : St => or2 (cmpI a.x b.x) (or2 (cmpI a.y b.y) (cmpI a.z b.z))) := TO.or (to_int.on (fun s : St => s.x)) (TO.or (to_int.on (fun s : St => s.y)) (to_int.on (fun s : St => s.z)))
  exact h
theorem cmpS_eq {a b : St} (h : cmpS a b = 0) : a = b := by
  obtain ⟨ax, ay, az⟩ := a
  obtain ⟨bx, b_y, bz⟩ := b
  unfold cmpS at h
  dsimp only at h
  have h1 := cmpI_lt ax bx
  have h2 := cmpI_lt ay b_y
  have h3 := cmpI_lt az bz
  split at h
  · omega
  · split at h
    · omega
    · have e1 : ax = bx := by omega
      have e2 : ay = b_y := by omega
      have e3 : az = bz := by omega
      rw [e1, e2, e3]
/-- An entry: a key and a stamp. -/
structure En where
  key : ByteArray
  st : St
def cmpE (a b : En) : Int := or2 (cmpT a.key b.key) (cmpS a.st b.st)
theorem to_e : TO cmpE := TO.or (to_str.on (fun e : En => e.key)) (to_stamp.on (fun e : En => e.st))
theorem cmpE_eq {a b : En} (h : cmpE a b = 0) : a = b := by
  obtain ⟨ak, at_⟩ := a
  obtain ⟨bk, bt_⟩ := b
  unfold cmpE or2 at h
  dsimp only at h
  split at h
  · omega
  · have e1 : ak = bk := cmpT_eq (by omega)
    have e2 : at_ = bt_ := cmpS_eq h
    rw [e1, e2]
theorem cmpE_self (a : En) : cmpE a a = 0 := to_e.zero a
def eqSt (a b : St) : Bool := a.x == b.x && a.y == b.y && a.z == b.z
def eqE (a b : En) : Bool := a.key.toList == b.key.toList && eqSt a.st b.st
theorem eqE_iff (a b : En) : eqE a b = true ↔ a = b := by
  obtain ⟨ak, ⟨ax, ay, az⟩⟩ := a
  obtain ⟨bk, ⟨bx, b_y, bz⟩⟩ := b
  unfold eqE eqSt
  simp only [Bool.and_eq_true, beq_iff_eq, En.mk.injEq, St.mk.injEq]
  constructor
  · rintro ⟨h, ⟨h1, h2⟩, h3⟩
    rw [ByteArray.toList_eq, ByteArray.toList_eq] at h
    exact ⟨bytes_inj' h, h1, h2, h3⟩
  · rintro ⟨rfl, rfl, rfl, rfl⟩
    exact ⟨rfl, ⟨rfl, rfl⟩, rfl⟩
theorem eqE_self (a : En) : eqE a a = true := (eqE_iff a a).2 rfl
theorem eqE_no {a b : En} (h : a ≠ b) : eqE a b = false := by
  rw [Bool.eq_false_iff]; exact fun e => h ((eqE_iff a b).1 e)
/-- A row that rises. -/
def Up (l : List En) : Prop := l.Pairwise (fun a b => cmpE a b < 0)
/-- One element of a row, beside one that is put in. -/
def putF (e : En) (s : List En × Bool) (x : En) : List En × Bool :=
  let s1 := if s.2 = false ∧ cmpE e x ≤ 0 then (s.1 ++ [e], true) else s
  if eqE x e = true then s1 else (s1.1 ++ [x], s1.2)
def putS (l : List En) (e : En) : List En := if (l.foldl (putF e) ([], false)).2 = true then (l.foldl (putF e) ([], false)).1 else (l.foldl (putF e) ([], false)).1 ++ [e]
def rowS (l : List En) : List En := l.foldl putS []
def memE (l : List En) (e : En) : Bool := l.any (fun x => eqE e x)
theorem memE_iff (l : List En) (e : En) : memE l e = true ↔ e ∈ l := by
  unfold memE
  rw [List.any_eq_true]
  constructor
  · rintro ⟨x, hx, h⟩; rw [(eqE_iff e x).1 h]; exact hx
  · intro h; exact ⟨e, h, eqE_self e⟩
def lessS (a b : List En) (t : Bool) : List En := a.filter (fun e => memE b e == t)
theorem lt_tr {a b c : En} (h1 : cmpE a b < 0) (h2 : cmpE b c < 0) : cmpE a c < 0 := to_e.strict a b c h1 (by omega)
/-- Putting one in behind the place. -/
theorem put_done (e : En) (l : List En) : ∀ acc : List En, (∀ x ∈ l, cmpE e x < 0) → l.foldl (putF e) (acc, true) = (acc ++ l, true) := by
  induction l with
  | nil => intro acc _; simp
  | cons x l ih =>
    intro acc h
    have hx := h x (List.mem_cons_self ..)
    have hne : eqE x e = false := eqE_no (fun he => by rw [he, cmpE_self] at hx; omega)
    rw [List.foldl_cons]
    have : putF e (acc, true) x = (acc ++ [x], true) := by
      simp [putF, hne]
    rw [this, ih _ (fun y hy => h y (List.mem_cons_of_mem _ hy))]
    simp
/-- What putting one into a rising row comes to. -/
theorem put_split (e : En) (l : List En) (hu : Up l) : ∀ acc : List En, ∃ l1 l2, (∀ x, x ∈ l ↔ x ∈ l1 ∨ x ∈ l2 ∨ (x = e ∧ e ∈ l)) ∧ (∀ x ∈ l1, cmpE x e < 0) ∧ (∀ x ∈ l2, cmpE e x < 0) ∧ Up l1 ∧ (Up l2 ∧ l1.length + l2.length ≤ l.length) ∧
    ((l.foldl (putF e) (acc, false) = (acc ++ l1 ++ [e] ++ l2, true)) ∨ (l.foldl (putF e) (acc, false) = (acc ++ l1, false) ∧ l2 = [])) := by
  induction l with
  | nil => intro acc; exact ⟨[], [], by simp, by simp, by simp, List.Pairwise.nil, ⟨List.Pairwise.nil, by simp⟩, .inr ⟨by simp, rfl⟩⟩
  | cons x l ih =>
    intro acc
    have hu2 : Up l := (List.pairwise_cons.1 hu).2
    have hx := (List.pairwise_cons.1 hu).1
    rw [List.foldl_cons]
    rcases (show cmpE e x < 0 ∨ cmpE e x = 0 ∨ 0 < cmpE e x from by omega) with h | h | h
    · have hne : eqE x e = false := eqE_no (fun he => by rw [he, cmpE_self] at h; omega)
      have hp : putF e (acc, false) x = (acc ++ [e] ++ [x], true) := by
        simp [putF, hne, show cmpE e x ≤ 0 from by omega]
      have hl : ∀ y ∈ l, cmpE e y < 0 := fun y hy => lt_tr h (hx y hy)
      refine ⟨[], x :: l, fun y => ?_, by simp, ?_, List.Pairwise.nil, ⟨hu, by simp⟩, .inl ?_⟩
      · constructor
        · intro hy; exact .inr (.inl hy)
        · rintro (hy | hy | ⟨rfl, hy⟩)
          · simp at hy
          · exact hy
          · exact hy
      · intro y hy
        rcases List.mem_cons.1 hy with rfl | hy
        · exact h
        · exact hl y hy
      · rw [hp, put_done e l _ hl]
        simp
    · have he := cmpE_eq h
      subst he
      have hp : putF e (acc, false) e = (acc ++ [e], true) := by
        simp [putF, eqE_self, show cmpE e e ≤ 0 from by omega]
      refine ⟨[], l, fun y => ?_, by simp, hx, List.Pairwise.nil, ⟨hu2, by simp⟩, .inl ?_⟩
      · constructor
        · intro hy
          rcases List.mem_cons.1 hy with rfl | hy
          · exact .inr (.inr ⟨rfl, List.mem_cons_self ..⟩)
          · exact .inr (.inl hy)
        · rintro (hy | hy | ⟨rfl, hy⟩)
          · simp at hy
          · exact List.mem_cons_of_mem _ hy
          · exact hy
      · rw [hp, put_done e l _ hx]
        simp
    · have hxe : cmpE x e < 0 := by have := to_e.anti e x; omega
      have hne : eqE x e = false := eqE_no (fun he => by rw [he, cmpE_self] at h; omega)
      have hp : putF e (acc, false) x = (acc ++ [x], false) := by
        simp [putF, hne, show ¬ cmpE e x ≤ 0 from by omega]
      obtain ⟨l1, l2, h1, h2, h3, h4, h5, h6⟩ := ih hu2 (acc ++ [x])
      refine ⟨x :: l1, l2, fun y => ?_, ?_, h3, ?_, ⟨h5.1, by have := h5.2; simp; omega⟩, ?_⟩
      · rw [List.mem_cons, List.mem_cons, List.mem_cons, h1 y]
        constructor
        · rintro (rfl | hy | hy | ⟨rfl, hy⟩)
          · exact .inl (.inl rfl)
          · exact .inl (.inr hy)
          · exact .inr (.inl hy)
          · exact .inr (.inr ⟨rfl, .inr hy⟩)
        · rintro ((rfl | hy) | hy | ⟨rfl, hy | hy⟩)
          · exact .inl rfl
          · exact .inr (.inl hy)
          · exact .inr (.inr (.inl hy))
          · exact .inl hy
          · exact .inr (.inr (.inr ⟨rfl, hy⟩))
      · intro y hy
        rcases List.mem_cons.1 hy with rfl | hy
        · exact hxe
        · exact h2 y hy
      · refine List.pairwise_cons.2 ⟨fun y hy => hx y ((h1 y).2 (.inl hy)), h4⟩
      · rw [hp]
        rcases h6 with h6 | ⟨h6, h7⟩
        · rw [h6]; exact .inl (by simp)
        · rw [h6]; exact .inr ⟨by simp, h7⟩
theorem put_up (l : List En) (e : En) (hu : Up l) : (Up (putS l e) ∧ (putS l e).length ≤ l.length + 1) ∧ ∀ x, x ∈ putS l e ↔ x = e ∨ x ∈ l := by
  obtain ⟨l1, l2, h1, h2, h3, h4, h5, h6⟩ := put_split e l hu []
  have hw : putS l e = l1 ++ [e] ++ l2 := by
    unfold putS
    rcases h6 with h6 | ⟨h6, h7⟩
    · rw [h6]; simp
    · rw [h6, h7]; simp
  rw [hw]
  refine ⟨⟨?_, by have := h5.2; simp; omega⟩, ?_⟩
  · unfold Up at *
    rw [List.append_assoc, List.pairwise_append]
    refine ⟨h4, ?_, ?_⟩
    · show List.Pairwise _ (e :: l2)
      exact List.pairwise_cons.2 ⟨h3, h5.1⟩
    · intro x hx y hy
      rcases List.mem_cons.1 hy with rfl | hy
      · exact h2 x hx
      · exact lt_tr (h2 x hx) (h3 y hy)
  · intro x
    rw [h1 x]
    simp only [List.mem_append, List.mem_singleton]
    constructor
    · rintro ((h | h) | h)
      · exact .inr (.inl h)
      · exact .inl h
      · exact .inr (.inr (.inl h))
    · rintro (h | h | h | h)
      · exact .inl (.inr h)
      · exact .inl (.inl h)
      · exact .inr h
      · exact .inl (.inr h.1)
theorem row_up2 (l : List En) : (Up (rowS l) ∧ (rowS l).length ≤ l.length) ∧ ∀ x, x ∈ rowS l ↔ x ∈ l := by
  suffices ∀ (l acc : List En), Up acc → (Up (l.foldl putS acc) ∧ (l.foldl putS acc).length ≤ acc.length + l.length) ∧ ∀ x, x ∈ l.foldl putS acc ↔ x ∈ acc ∨ x ∈ l by
    have := this l [] List.Pairwise.nil
    refine ⟨⟨this.1.1, by have h2 := this.1.2; rw [show rowS l = l.foldl putS [] from rfl]; simpa using h2⟩, fun x => ?_⟩
    rw [show rowS l = l.foldl putS [] from rfl, this.2 x]
    simp
  intro l
  induction l with
  | nil => intro acc h; exact ⟨⟨h, by simp⟩, by simp⟩
  | cons y l ih =>
    intro acc h
    obtain ⟨⟨h1, hl1⟩, h2⟩ := put_up acc y h
    obtain ⟨h3, h4⟩ := ih (putS acc y) h1
    rw [List.foldl_cons]
    refine ⟨⟨h3.1, by have := h3.2; rw [List.length_cons]; omega⟩, fun x => ?_⟩
    rw [h4 x, h2 x, List.mem_cons]
    constructor
    · rintro ((h | h) | h)
      · exact .inr (.inl h)
      · exact .inl h
      · exact .inr (.inr h)
    · rintro (h | h | h)
      · exact .inl (.inr h)
      · exact .inl (.inl h)
      · exact .inr h
theorem row_up (l : List En) : Up (rowS l) ∧ ∀ x, x ∈ rowS l ↔ x ∈ l := ⟨(row_up2 l).1.1, (row_up2 l).2⟩
theorem up_same : ∀ (a b : List En), Up a → Up b → (∀ x, x ∈ a ↔ x ∈ b) → a = b
  | [], [], _, _, _ => rfl
  | [], y :: b, _, _, h => absurd ((h y).2 (List.mem_cons_self ..)) (by simp)
  | x :: a, [], _, _, h => absurd ((h x).1 (List.mem_cons_self ..)) (by simp)
  | x :: a, y :: b, ha, hb, h => by
    have ha1 := List.pairwise_cons.1 ha
    have hb1 := List.pairwise_cons.1 hb
    have hxy : x = y := by
      rcases List.mem_cons.1 ((h x).1 (List.mem_cons_self ..)) with h1 | h1
      · exact h1
      · rcases List.mem_cons.1 ((h y).2 (List.mem_cons_self ..)) with h2 | h2
        · exact h2.symm
        · have e1 := hb1.1 x h1
          have e2 := ha1.1 y h2
          have := to_e.anti x y
          omega
    subst hxy
    have : a = b := up_same a b ha1.2 hb1.2 (fun z => by
      constructor
      · intro hz
        rcases List.mem_cons.1 ((h z).1 (List.mem_cons_of_mem _ hz)) with h1 | h1
        · have := ha1.1 z hz; rw [h1, cmpE_self] at this; omega
        · exact h1
      · intro hz
        rcases List.mem_cons.1 ((h z).2 (List.mem_cons_of_mem _ hz)) with h1 | h1
        · have := hb1.1 z hz; rw [h1, cmpE_self] at this; omega
        · exact h1)
    rw [this]
theorem row_self (l : List En) : rowS l = l ↔ Up l := by
  obtain ⟨h1, h2⟩ := row_up l
  constructor
  · intro h; rw [h] at h1; exact h1
  · intro h; exact up_same _ _ h1 h h2
/-- Each stands behind the one ahead: it rises. -/
theorem up_adj (L : List En) (h : ∀ i (h : i + 1 < L.length), cmpE (L[i]'(by omega)) L[i + 1] < 0) : Up L := by
  unfold Up
  rw [List.pairwise_iff_getElem]
  intro i j hi hj hij
  induction j with
  | zero => omega
  | succ j ih =>
    rcases Nat.lt_or_ge i j with h1 | h1
    · exact lt_tr (ih (by omega) h1) (h j hj)
    · have : i = j := by omega
      subst this
      exact h i hj
theorem adj_up {L : List En} (h : Up L) (i : Nat) (hi : i + 1 < L.length) : cmpE (L[i]'(by omega)) L[i + 1] < 0 := by
  unfold Up at h
  rw [List.pairwise_iff_getElem] at h
  exact h i (i + 1) (by omega) hi (by omega)
theorem less_cons (x : En) (a b : List En) (t : Bool) : lessS (x :: a) b t = if (memE b x == t) = true then x :: lessS a b t else lessS a b t := by
  unfold lessS
  rw [List.filter_cons]
theorem less_nil (b : List En) (t : Bool) : lessS [] b t = [] := rfl
theorem memE_no {b : List En} {x : En} (h : x ∉ b) : memE b x = false := by
  rw [Bool.eq_false_iff]; exact fun e => h ((memE_iff b x).1 e)
theorem memE_yes {b : List En} {x : En} (h : x ∈ b) : memE b x = true := (memE_iff b x).2 h
theorem less_drop (x : En) (a b : List En) (t : Bool) (h : x ∉ a) : lessS a (x :: b) t = lessS a b t := by
  unfold lessS
  refine List.filter_congr fun e he => ?_
  have : memE (x :: b) e = memE b e := by
    unfold memE
    rw [List.any_cons, eqE_no (fun h2 => h (by rw [← h2]; exact he)), Bool.false_or]
  rw [this]
theorem less_all (a : List En) : lessS a [] false = a ∧ lessS a [] true = [] := by
  constructor
  · unfold lessS; rw [List.filter_eq_self]; intro e _; rfl
  · unfold lessS; rw [List.filter_eq_nil_iff]; intro e _; simp [memE]
/-- One step along two rising rows: the first one is ahead. -/
theorem along_lt {x y : En} {a b : List En} (hb : Up (y :: b)) (h : cmpE x y < 0) :
    lessS (x :: a) (y :: b) false = x :: lessS a (y :: b) false ∧ lessS (y :: b) (x :: a) false = lessS (y :: b) a false ∧ lessS (x :: a) (y :: b) true = lessS a (y :: b) true := by
  have hno : x ∉ y :: b := by
    intro hm
    rcases List.mem_cons.1 hm with e | hm
    · rw [e, cmpE_self] at h; omega
    · have h2 := (List.pairwise_cons.1 hb).1 x hm
      have := to_e.anti x y
      omega
  refine ⟨?_, less_drop x _ _ _ hno, ?_⟩
  · rw [less_cons, memE_no hno]; rfl
  · rw [less_cons, memE_no hno]; rfl
/-- They are the same. -/
theorem along_eq {x : En} {a b : List En} (ha : Up (x :: a)) (hb : Up (x :: b)) :
    lessS (x :: a) (x :: b) false = lessS a b false ∧ lessS (x :: b) (x :: a) false = lessS b a false ∧ lessS (x :: a) (x :: b) true = x :: lessS a b true := by
  have n1 : x ∉ a := fun h => by have := (List.pairwise_cons.1 ha).1 x h; rw [cmpE_self] at this; omega
  have n2 : x ∉ b := fun h => by have := (List.pairwise_cons.1 hb).1 x h; rw [cmpE_self] at this; omega
  refine ⟨?_, ?_, ?_⟩
  · rw [less_cons, memE_yes (List.mem_cons_self ..), less_drop x a b _ n1]; rfl
  · rw [less_cons, memE_yes (List.mem_cons_self ..), less_drop x b a _ n2]; rfl
  · rw [less_cons, memE_yes (List.mem_cons_self ..), less_drop x a b _ n1]; rfl
end Go.Proofs.Ytkkhljneeajkmaa
