/- Layer 39 (fold): that it is an order: plain facts. -/
import Derived.Test.YtdckdhbnfakleaaDoorFd
namespace Go.Proofs.YtdckdhbnfakleaaDoor
open Go.RowKit

/-- A comparison: of two either one is ahead, or they stand alike; what is not behind what is not behind is not behind. -/
structure TO {α : Type} (c : α → α → Int) : Prop where
  bd : ∀ a b, -1 ≤ c a b ∧ c a b ≤ 1
  anti : ∀ a b, c b a = -c a b
  tr : ∀ a b d, c a b ≤ 0 → c b d ≤ 0 → c a d ≤ 0
theorem TO.zero {α : Type} {c : α → α → Int} (h : TO c) (a : α) : c a a = 0 := by have := h.anti a a; omega
theorem TO.strict {α : Type} {c : α → α → Int} (h : TO c) (a b d : α) (h1 : c a b < 0) (h2 : c b d ≤ 0) : c a d < 0 := by
  rcases (show c a d < 0 ∨ 0 ≤ c a d by omega) with h3 | h3
  · exact h3
  · exfalso
    have e1 := h.anti a d
    have e2 := h.tr b d a h2 (by omega)
    have e3 := h.anti a b
    omega
theorem TO.strict' {α : Type} {c : α → α → Int} (h : TO c) (a b d : α) (h1 : c a b ≤ 0) (h2 : c b d < 0) : c a d < 0 := by
  rcases (show c a d < 0 ∨ 0 ≤ c a d by omega) with h3 | h3
  · exact h3
  · exfalso
    have e1 := h.anti a d
    have e2 := h.tr d a b (by omega) h1
    have e3 := h.anti b d
    omega
theorem TO.same {α : Type} {c : α → α → Int} (h : TO c) (a b d : α) (h1 : c a b = 0) (h2 : c b d = 0) : c a d = 0 := by
  have e1 := h.tr a b d (by omega) (by omega)
  have e2 := h.tr d b a (by have := h.anti b d; omega) (by have := h.anti a b; omega)
  have e3 := h.anti a d
  omega
theorem TO.on {α β : Type} {c : α → α → Int} (h : TO c) (f : β → α) : TO (fun a b => c (f a) (f b)) := ⟨fun _ _ => h.bd _ _, fun _ _ => h.anti _ _, fun _ _ _ => h.tr _ _ _⟩
theorem TO.or {α : Type} {c d : α → α → Int} (h : TO c) (k : TO d) : TO (fun a b => orI (c a b) (d a b)) := by
  refine ⟨fun a b => ?_, fun a b => ?_, fun a b e h1 h2 => ?_⟩
  · have := h.bd a b; have := k.bd a b; unfold orI; split <;> omega
  · have e1 := h.anti a b
    have e2 := k.anti a b
    unfold orI
    rw [e1, e2]
    by_cases hz : c a b = 0
    · rw [if_neg (by omega), if_neg (by omega)]
    · rw [if_pos (by omega), if_pos (by omega)]
  · have key : ∀ x y, orI (c x y) (d x y) ≤ 0 → c x y < 0 ∨ (c x y = 0 ∧ d x y ≤ 0) := fun x y hxy => by
      unfold orI at hxy
      by_cases hz : c x y = 0
      · rw [if_neg (by omega)] at hxy; exact .inr ⟨hz, hxy⟩
      · rw [if_pos (by omega)] at hxy; exact .inl (by omega)
    have fin : c a e < 0 ∨ (c a e = 0 ∧ d a e ≤ 0) → orI (c a e) (d a e) ≤ 0 := fun hx => by
      unfold orI
      rcases hx with hx | ⟨hx, hy⟩
      · rw [if_pos (by omega)]; omega
      · rw [if_neg (by omega)]; exact hy
    apply fin
    rcases key a b h1 with x1 | ⟨x1, x2⟩
    · rcases key b e h2 with y1 | ⟨y1, y2⟩
      · exact .inl (h.strict a b e x1 (by omega))
      · exact .inl (h.strict a b e x1 (by omega))
    · rcases key b e h2 with y1 | ⟨y1, y2⟩
      · exact .inl (h.strict' a b e (by omega) y1)
      · exact .inr ⟨h.same a b e x1 y1, k.tr a b e x2 y2⟩
theorem to_int : TO cmpI := by
  refine ⟨fun a b => ?_, fun a b => ?_, fun a b d h1 h2 => ?_⟩
  · unfold cmpI; repeat' split
    all_goals omega
  · unfold cmpI; repeat' split
    all_goals omega
  · unfold cmpI at *
    repeat' split
    all_goals first | omega | (split at h1 <;> split at h2 <;> first | omega | (split at h1 <;> first | omega | (split at h2 <;> omega)) | (split at h2 <;> first | omega | (split at h1 <;> omega)))
theorem bless_irr : ∀ x : List UInt8, Op.bytesLess x x = false
  | [] => rfl
  | a :: x => by simp [Op.bytesLess, bless_irr x]
theorem bless_asym : ∀ x y : List UInt8, Op.bytesLess x y = true → Op.bytesLess y x = false
  | _, [], h => by simp [Op.bytesLess] at h
  | [], _ :: _, _ => rfl
  | a :: x, b :: y, h => by
    simp only [Op.bytesLess, Bool.or_eq_true, Bool.and_eq_true, decide_eq_true_eq, beq_iff_eq] at h
    simp only [Op.bytesLess, Bool.or_eq_false_iff, Bool.and_eq_false_imp, decide_eq_false_iff_not, beq_iff_eq]
    rcases h with h | ⟨rfl, h⟩
    · refine ⟨UInt8.not_lt.2 (UInt8.le_of_lt h), fun e => ?_⟩
      subst e
      exact absurd h (UInt8.lt_irrefl _)
    · exact ⟨UInt8.lt_irrefl _, fun _ => bless_asym x y h⟩
theorem bless_tot : ∀ x y : List UInt8, Op.bytesLess x y = false → x ≠ y → Op.bytesLess y x = true
  | [], [], _, hne => absurd rfl hne
  | _ :: _, [], _, _ => rfl
  | [], _ :: _, h, _ => by simp [Op.bytesLess] at h
  | a :: x, b :: y, h, hne => by
    simp only [Op.bytesLess, Bool.or_eq_false_iff, Bool.and_eq_false_imp, decide_eq_false_iff_not, beq_iff_eq] at h
    simp only [Op.bytesLess, Bool.or_eq_true, Bool.and_eq_true, decide_eq_true_eq, beq_iff_eq]
    by_cases e : a = b
    · subst e
      exact .inr ⟨rfl, bless_tot x y (h.2 rfl) (fun hxy => hne (by rw [hxy]))⟩
    · left
      have h1 := UInt8.not_lt.1 h.1
      exact UInt8.lt_of_le_of_ne h1 (fun e2 => e e2.symm)
theorem bless_tr : ∀ x y z : List UInt8, Op.bytesLess x y = true → Op.bytesLess y z = true → Op.bytesLess x z = true
  | _, [], _, h, _ => by simp [Op.bytesLess] at h
  | _, _ :: _, [], _, h => by simp [Op.bytesLess] at h
  | [], _ :: _, _ :: _, _, _ => rfl
  | a :: x, b :: y, c :: z, h1, h2 => by
    simp only [Op.bytesLess, Bool.or_eq_true, Bool.and_eq_true, decide_eq_true_eq, beq_iff_eq] at h1 h2 ⊢
    rcases h1 with h1 | ⟨rfl, h1⟩
    · rcases h2 with h2 | ⟨rfl, h2⟩
      · exact .inl (UInt8.lt_trans h1 h2)
      · exact .inl h1
    · rcases h2 with h2 | ⟨rfl, h2⟩
      · exact .inl h2
      · exact .inr ⟨rfl, bless_tr x y z h1 h2⟩
theorem cmpS_neg (a b : ByteArray) : cmpS a b < 0 ↔ Op.bytesLess a.toList b.toList = true := by
  unfold cmpS; constructor
  · intro h; split at h
    · assumption
    · split at h <;> simp at h
  · intro h; rw [if_pos h]; decide
theorem cmpS_zero (a b : ByteArray) : cmpS a b = 0 ↔ a.toList = b.toList := by
  unfold cmpS; constructor
  · intro h; split at h
    · simp at h
    · split at h
      · rename_i h2; simpa using h2
      · simp at h
  · intro h; rw [h, bless_irr]; simp
theorem cmpS_bd (a b : ByteArray) : -1 ≤ cmpS a b ∧ cmpS a b ≤ 1 := by
  unfold cmpS
  split
  · omega
  · split <;> omega
theorem to_str : TO cmpS := by
  have anti : ∀ a b, cmpS b a = -cmpS a b := fun a b => by
    cases h : Op.bytesLess a.toList b.toList with
    | true =>
      have h1 : cmpS a b = -1 := by unfold cmpS; rw [if_pos h]
      have h2 : cmpS b a = 1 := by
        unfold cmpS
        rw [if_neg (by rw [bless_asym _ _ h]; simp), if_neg]
        intro e
        rw [beq_iff_eq] at e
        rw [e, bless_irr] at h
        cases h
      rw [h1, h2]; rfl
    | false =>
      by_cases e : a.toList = b.toList
      · rw [(cmpS_zero a b).2 e, (cmpS_zero b a).2 e.symm]; rfl
      · have h2 : cmpS b a = -1 := by unfold cmpS; rw [if_pos (bless_tot _ _ h e)]
        have h1 : cmpS a b = 1 := by unfold cmpS; rw [if_neg (by rw [h]; simp), if_neg (by simpa using e)]
        rw [h1, h2]
  refine ⟨cmpS_bd, anti, fun a b d h1 h2 => ?_⟩
  rcases (show cmpS a b < 0 ∨ 0 ≤ cmpS a b by omega) with x1 | x1
  · rcases (show cmpS b d < 0 ∨ 0 ≤ cmpS b d by omega) with y1 | y1
    · have := (cmpS_neg a d).2 (bless_tr _ _ _ ((cmpS_neg a b).1 x1) ((cmpS_neg b d).1 y1)); omega
    · have e := (cmpS_zero b d).1 (by omega)
      have := (cmpS_neg a d).2 (by rw [← e]; exact (cmpS_neg a b).1 x1); omega
  · have e := (cmpS_zero a b).1 (by omega)
    rcases (show cmpS b d < 0 ∨ 0 ≤ cmpS b d by omega) with y1 | y1
    · have := (cmpS_neg a d).2 (by rw [e]; exact (cmpS_neg b d).1 y1); omega
    · have e2 := (cmpS_zero b d).1 (by omega)
      have := (cmpS_zero a d).2 (by rw [e, e2]); omega
theorem to_chunk : TO cmpK := by
  have hn : TO (fun a b : ByteArray × Bool => orI (cmpI a.1.size b.1.size) (cmpS a.1 b.1)) := TO.or (to_int.on (fun a : ByteArray × Bool => (a.1.size : Int))) (to_str.on (fun a : ByteArray × Bool => a.1))
  have hs : TO (fun a b : ByteArray × Bool => cmpS a.1 b.1) := to_str.on (fun a : ByteArray × Bool => a.1)
  have k1 : ∀ a b : ByteArray × Bool, a.2 = true → b.2 = true → cmpK a b = orI (cmpI a.1.size b.1.size) (cmpS a.1 b.1) := fun a b h1 h2 => by unfold cmpK; rw [if_pos h1, if_pos h2]
  have k2 : ∀ a b : ByteArray × Bool, a.2 = true → b.2 = false → cmpK a b = -1 := fun a b h1 h2 => by unfold cmpK; rw [if_pos h1, if_neg (by rw [h2]; simp)]
  have k3 : ∀ a b : ByteArray × Bool, a.2 = false → b.2 = true → cmpK a b = 1 := fun a b h1 h2 => by unfold cmpK; rw [if_neg (by rw [h1]; simp), if_pos h2]
  have k4 : ∀ a b : ByteArray × Bool, a.2 = false → b.2 = false → cmpK a b = cmpS a.1 b.1 := fun a b h1 h2 => by unfold cmpK; rw [if_neg (by rw [h1]; simp), if_neg (by rw [h2]; simp)]
  refine ⟨fun a b => ?_, fun a b => ?_, fun a b d h1 h2 => ?_⟩
  · cases ha : a.2 <;> cases hb : b.2
    · rw [k4 a b ha hb]; exact hs.bd a b
    · rw [k3 a b ha hb]; omega
    · rw [k2 a b ha hb]; omega
    · rw [k1 a b ha hb]; exact hn.bd a b
  · cases ha : a.2 <;> cases hb : b.2
    · rw [k4 a b ha hb, k4 b a hb ha]; exact hs.anti a b
    · rw [k3 a b ha hb, k2 b a hb ha]
    · rw [k2 a b ha hb, k3 b a hb ha]; rfl
    · rw [k1 a b ha hb, k1 b a hb ha]; exact hn.anti a b
  · cases ha : a.2 <;> cases hb : b.2 <;> cases hd : d.2
    · rw [k4 a b ha hb] at h1; rw [k4 b d hb hd] at h2; rw [k4 a d ha hd]; exact hs.tr a b d h1 h2
    · rw [k3 b d hb hd] at h2; omega
    · rw [k3 a b ha hb] at h1; omega
    · rw [k3 a b ha hb] at h1; omega
    · rw [k2 a d ha hd]; omega
    · rw [k3 b d hb hd] at h2; omega
    · rw [k2 a d ha hd]; omega
    · rw [k1 a b ha hb] at h1; rw [k1 b d hb hd] at h2; rw [k1 a d ha hd]; exact hn.tr a b d h1 h2
theorem lexK_cons (a b : ByteArray × Bool) (x y : List (ByteArray × Bool)) : lexK (a :: x) (b :: y) = orI (cmpK a b) (lexK x y) := rfl
theorem to_lex : TO lexK := by
  have bd : ∀ x y, -1 ≤ lexK x y ∧ lexK x y ≤ 1 := by
    intro x
    induction x with
    | nil => intro y; cases y <;> simp [lexK]
    | cons a x ih =>
      intro y
      cases y with
      | nil => simp [lexK]
      | cons b y => rw [lexK_cons]; have := to_chunk.bd a b; have := ih y; unfold orI; split <;> omega
  have anti : ∀ x y, lexK y x = -lexK x y := by
    intro x
    induction x with
    | nil => intro y; cases y <;> simp [lexK]
    | cons a x ih =>
      intro y
      cases y with
      | nil => simp [lexK]
      | cons b y =>
        rw [lexK_cons, lexK_cons, to_chunk.anti a b, ih y]
        unfold orI
        by_cases hz : cmpK a b = 0
        · rw [if_neg (by omega), if_neg (by omega)]
        · rw [if_pos (by omega), if_pos (by omega)]
  have key : ∀ a b x y, lexK (a :: x) (b :: y) ≤ 0 → cmpK a b < 0 ∨ (cmpK a b = 0 ∧ lexK x y ≤ 0) := fun a b x y hxy => by
    rw [lexK_cons] at hxy
    unfold orI at hxy
    by_cases hz : cmpK a b = 0
    · rw [if_neg (by omega)] at hxy; exact .inr ⟨hz, hxy⟩
    · rw [if_pos (by omega)] at hxy; exact .inl (by omega)
  have fin : ∀ a b x y, (cmpK a b < 0 ∨ (cmpK a b = 0 ∧ lexK x y ≤ 0)) → lexK (a :: x) (b :: y) ≤ 0 := fun a b x y hx => by
    rw [lexK_cons]
    unfold orI
    rcases hx with hx | ⟨hx, hy⟩
    · rw [if_pos (by omega)]; omega
    · rw [if_neg (by omega)]; exact hy
  refine ⟨bd, anti, ?_⟩
  intro x
  induction x with
  | nil => intro y z h1 h2; cases z <;> simp [lexK]
  | cons a x ih =>
    intro y z h1 h2
    cases y with
    | nil => simp [lexK] at h1
    | cons b y =>
      cases z with
      | nil => simp [lexK] at h2
      | cons e z =>
        refine fin a e x z ?_
        rcases key a b x y h1 with x1 | ⟨x1, x2⟩
        · rcases key b e y z h2 with y1 | ⟨y1, y2⟩
          · exact .inl (to_chunk.strict a b e x1 (by omega))
          · exact .inl (to_chunk.strict a b e x1 (by omega))
        · rcases key b e y z h2 with y1 | ⟨y1, y2⟩
          · exact .inl (to_chunk.strict' a b e (by omega) y1)
          · exact .inr ⟨to_chunk.same a b e x1 y1, ih y z x2 y2⟩
theorem to_w : TO cmpW := TO.or (to_lex.on (fun a : ByteArray × List (ByteArray × Bool) => a.2)) (to_str.on (fun a : ByteArray × List (ByteArray × Bool) => a.1))
theorem cmpW_same {a b : ByteArray × List (ByteArray × Bool)} (h : cmpW a b = 0) : a.1.toList = b.1.toList := by
  have : cmpS a.1 b.1 = 0 := by
    unfold cmpW orI at h
    split at h
    · omega
    · exact h
  exact (cmpS_zero _ _).1 this
end Go.Proofs.YtdckdhbnfakleaaDoor
