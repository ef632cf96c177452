/- Layer 5 (vector): the document's rows of writes, plainly. -/
import Derived.Test.YtaeflfgkdjfnfaaYj
namespace Go.Proofs.Ytaeflfgkdjfnfaa

def getL : List (Int × Int) → Int → Int
  | [], _ => 0
  | x :: l, k => if x.1 = k then x.2 else getL l k
/-- One step of Set's loop. -/
def stS (d : Int × Int) (s : List (Int × Int) × Bool) (x : Int × Int) : List (Int × Int) × Bool :=
  (if x.1 = d.1 then (if s.2 = false ∧ d.1 ≤ x.1 then s.1 ++ [d] else s.1) else (if s.2 = false ∧ d.1 ≤ x.1 then s.1 ++ [d] else s.1) ++ [x], s.2 || decide (d.1 ≤ x.1))
def goS (d : Int × Int) (l : List (Int × Int)) : List (Int × Int) × Bool := l.foldl (stS d) ([], false)
theorem goS_snoc (d : Int × Int) (l : List (Int × Int)) (x : Int × Int) : goS d (l ++ [x]) = stS d (goS d l) x := by simp [goS]
def finS (d : Int × Int) (s : List (Int × Int) × Bool) : List (Int × Int) := if s.2 = true then s.1 else s.1 ++ [d]
def setL (l : List (Int × Int)) (d : Int × Int) : List (Int × Int) := finS d (goS d l)
def insL (d : Int × Int) : List (Int × Int) → List (Int × Int)
  | [] => [d]
  | x :: l => if d.1 < x.1 then d :: x :: l else if d.1 = x.1 then d :: l else x :: insL d l
/-- Rising. -/
def Ris (l : List (Int × Int)) : Prop := l.Pairwise fun a b => a.1 < b.1
theorem fold_in (d : Int × Int) : ∀ (l acc : List (Int × Int)), (∀ y ∈ l, d.1 < y.1) → l.foldl (stS d) (acc, true) = (acc ++ l, true)
  | [], acc, _ => by simp
  | x :: l, acc, h => by
    have hx := h x (by simp)
    have e : stS d (acc, true) x = (acc ++ [x], true) := by
      unfold stS
      rw [if_neg (by omega), if_neg (by simp)]
      simp
    rw [List.foldl_cons, e, fold_in d l _ (fun y hy => h y (by simp [hy]))]
    simp
theorem fold_out (d : Int × Int) : ∀ (l acc : List (Int × Int)), Ris l → finS d (l.foldl (stS d) (acc, false)) = acc ++ insL d l
  | [], acc, _ => by simp [finS, insL]
  | x :: l, acc, h => by
    obtain ⟨h1, h2⟩ := List.pairwise_cons.1 h
    rw [List.foldl_cons]
    by_cases hlt : d.1 < x.1
    · have e : stS d (acc, false) x = (acc ++ [d] ++ [x], true) := by
        unfold stS
        rw [if_neg (by omega), if_pos ⟨rfl, by omega⟩, decide_eq_true (by omega)]
        simp
      rw [e, fold_in d l _ (fun y hy => by have := h1 y hy; omega)]
      simp [finS, insL, hlt]
    · by_cases heq : d.1 = x.1
      · have e : stS d (acc, false) x = (acc ++ [d], true) := by
          unfold stS
          rw [if_pos heq.symm, if_pos ⟨rfl, by omega⟩, decide_eq_true (by omega)]
          simp
        rw [e, fold_in d l _ (fun y hy => by have := h1 y hy; omega)]
        simp [finS, insL, hlt, heq]
      · have e : stS d (acc, false) x = (acc ++ [x], false) := by
          unfold stS
          rw [if_neg (fun e => heq e.symm), if_neg (fun e => by omega), decide_eq_false (by omega)]
          simp
        rw [e, fold_out d l _ h2]
        simp [insL, hlt, heq]
theorem setL_ins {l : List (Int × Int)} (h : Ris l) (d : Int × Int) : setL l d = insL d l := by
  unfold setL goS
  rw [fold_out d l [] h]
  simp
theorem mem_ins {d y : Int × Int} : ∀ {l : List (Int × Int)}, y ∈ insL d l → y = d ∨ y ∈ l
  | [], h => by simp [insL] at h; exact .inl h
  | x :: l, h => by
    unfold insL at h
    split at h
    · simpa using h
    · split at h
      · rcases List.mem_cons.1 h with h | h
        · exact .inl h
        · exact .inr (by simp [h])
      · rcases List.mem_cons.1 h with h | h
        · exact .inr (by simp [h])
        · rcases mem_ins h with h | h
          · exact .inl h
          · exact .inr (by simp [h])
theorem ris_ins {d : Int × Int} : ∀ {l : List (Int × Int)}, Ris l → Ris (insL d l)
  | [], _ => by simp [insL, Ris]
  | x :: l, h => by
    obtain ⟨h1, h2⟩ := List.pairwise_cons.1 h
    unfold insL
    split
    · refine List.pairwise_cons.2 ⟨fun y hy => ?_, h⟩
      rcases List.mem_cons.1 hy with rfl | hy
      · assumption
      · have := h1 y hy; omega
    · split
      · exact List.pairwise_cons.2 ⟨fun y hy => by have := h1 y hy; omega, h2⟩
      · refine List.pairwise_cons.2 ⟨fun y hy => ?_, ris_ins h2⟩
        rcases mem_ins hy with rfl | hy
        · omega
        · exact h1 y hy
theorem getL_gt : ∀ {l : List (Int × Int)} {k : Int}, (∀ y ∈ l, k < y.1) → getL l k = 0
  | [], _, _ => rfl
  | x :: l, k, h => by
    have := h x (by simp)
    unfold getL
    rw [if_neg (by omega)]
    exact getL_gt (fun y hy => h y (by simp [hy]))
theorem getL_ins {d : Int × Int} (k : Int) : ∀ {l : List (Int × Int)}, Ris l → getL (insL d l) k = if k = d.1 then d.2 else getL l k
  | [], _ => by simp [insL, getL, eq_comm]
  | x :: l, h => by
    obtain ⟨h1, h2⟩ := List.pairwise_cons.1 h
    unfold insL
    split
    · rename_i hlt
      by_cases hk : k = d.1
      · simp [getL, hk]
      · rw [if_neg hk]
        conv => lhs; unfold getL
        rw [if_neg (fun e => hk e.symm)]
    · split
      · rename_i hlt heq
        by_cases hk : k = d.1
        · simp [getL, hk]
        · rw [if_neg hk]
          unfold getL
          rw [if_neg (fun e => hk e.symm), if_neg (by omega)]
      · rename_i hlt heq
        unfold getL
        rw [getL_ins k h2]
        by_cases hk : x.1 = k
        · rw [if_pos hk, if_neg (by omega), if_pos hk]
        · rw [if_neg hk, if_neg hk]
/-- A row as the document has it: rising, of writes that may be. -/
def SR (l : List (Int × Int)) : Prop := Ris l ∧ ∀ x ∈ l, rgt x.1 x.2 = true
theorem SR.set {l : List (Int × Int)} (h : SR l) {d : Int × Int} (hd : rgt d.1 d.2 = true) : SR (setL l d) := by
  rw [setL_ins h.1]
  exact ⟨ris_ins h.1, fun y hy => by rcases mem_ins hy with rfl | hy; exact hd; exact h.2 y hy⟩
theorem SR.get {l : List (Int × Int)} (h : SR l) (d : Int × Int) (k : Int) : getL (setL l d) k = if k = d.1 then d.2 else getL l k := by
  rw [setL_ins h.1]
  exact getL_ins k h.1
def stO (out : List (Int × Int)) (x : Int × Int) : List (Int × Int) := if rgt x.1 x.2 = true ∧ getL out x.1 < x.2 then setL out x else out
def ofL (l : List (Int × Int)) : List (Int × Int) := l.foldl stO []
theorem ofL_snoc (l : List (Int × Int)) (x : Int × Int) : ofL (l ++ [x]) = stO (ofL l) x := by simp [ofL]
theorem SR.nil : SR [] := ⟨List.Pairwise.nil, fun x hx => by simp at hx⟩
theorem SR.st {l : List (Int × Int)} (h : SR l) (x : Int × Int) : SR (stO l x) := by
  unfold stO
  split
  · rename_i hx; exact h.set hx.1
  · exact h
theorem ofL_SR (l : List (Int × Int)) : SR (ofL l) := by
  unfold ofL
  suffices ∀ (l a : List (Int × Int)), SR a → SR (l.foldl stO a) from this l [] SR.nil
  intro l
  induction l with
  | nil => intro a h; exact h
  | cons x l ih => intro a h; exact ih _ (h.st x)
theorem getL_st {l : List (Int × Int)} (h : SR l) (x : Int × Int) (k : Int) : getL (stO l x) k = if rgt x.1 x.2 = true ∧ x.1 = k then max (getL l k) x.2 else getL l k := by
  unfold stO
  by_cases h1 : rgt x.1 x.2 = true
  · by_cases h2 : getL l x.1 < x.2
    · rw [if_pos ⟨h1, h2⟩, h.get]
      by_cases hk : k = x.1
      · subst hk; rw [if_pos rfl, if_pos ⟨h1, rfl⟩]; omega
      · rw [if_neg hk, if_neg (fun e => hk e.2.symm)]
    · rw [if_neg (fun e => h2 e.2)]
      by_cases hk : x.1 = k
      · subst hk; rw [if_pos ⟨h1, rfl⟩]; omega
      · rw [if_neg (fun e => hk e.2)]
  · rw [if_neg (fun e => h1 e.1), if_neg (fun e => h1 e.1)]
theorem getL_of (l : List (Int × Int)) (k : Int) : getL (ofL l) k = ofF l k := by
  unfold ofL ofF
  suffices ∀ (l a : List (Int × Int)) (n : Int), SR a → getL a k = n → getL (l.foldl stO a) k = l.foldl (fun a x => if rgt x.1 x.2 = true ∧ x.1 = k then max a x.2 else a) n from this l [] 0 SR.nil rfl
  intro l
  induction l with
  | nil => intro a n _ h; exact h
  | cons x l ih =>
    intro a n ha h
    rw [List.foldl_cons, List.foldl_cons]
    refine ih _ _ (ha.st x) ?_
    rw [getL_st ha, h]
theorem getL_pos {l : List (Int × Int)} (h : SR l) {x : Int × Int} (hx : x ∈ l) : getL l x.1 = x.2 := by
  obtain ⟨h1, h2⟩ := h
  clear h2
  induction l with
  | nil => simp at hx
  | cons y l ih =>
    obtain ⟨h1, h3⟩ := List.pairwise_cons.1 h1
    unfold getL
    rcases List.mem_cons.1 hx with rfl | hx
    · rw [if_pos rfl]
    · have := h1 x hx
      rw [if_neg (by omega)]
      exact ih hx h3
/-- Such a row is told by what it has of each. -/
theorem SR.one : ∀ {a b : List (Int × Int)}, SR a → SR b → (∀ k, getL a k = getL b k) → a = b
  | [], [], _, _, _ => rfl
  | [], y :: b, _, hb, h => by
    have h1 := getL_pos hb (x := y) (by simp)
    have h2 := (rgt_iff _ _).1 (hb.2 y (by simp))
    have h3 := h y.1
    rw [h1] at h3
    simp only [getL] at h3
    omega
  | x :: a, [], ha, _, h => by
    have h1 := getL_pos ha (x := x) (by simp)
    have h2 := (rgt_iff _ _).1 (ha.2 x (by simp))
    have h3 := h x.1
    rw [h1] at h3
    simp only [getL] at h3
    omega
  | x :: a, y :: b, ha, hb, h => by
    have hx1 := getL_pos ha (x := x) (by simp)
    have hx2 := (rgt_iff _ _).1 (ha.2 x (by simp))
    have hy1 := getL_pos hb (x := y) (by simp)
    have hy2 := (rgt_iff _ _).1 (hb.2 y (by simp))
    obtain ⟨p1, p2⟩ := List.pairwise_cons.1 ha.1
    obtain ⟨q1, q2⟩ := List.pairwise_cons.1 hb.1
    have e1 : x.1 = y.1 := by
      rcases Int.lt_trichotomy x.1 y.1 with hl | hl | hl
      · have h0 := getL_gt (l := y :: b) (k := x.1) (fun z hz => by rcases List.mem_cons.1 hz with rfl | hz; exact hl; have := q1 z hz; omega)
        have := h x.1
        omega
      · exact hl
      · have h0 := getL_gt (l := x :: a) (k := y.1) (fun z hz => by rcases List.mem_cons.1 hz with rfl | hz; exact hl; have := p1 z hz; omega)
        have := h y.1
        omega
    have e2 : x.2 = y.2 := by rw [← hx1, ← hy1, h x.1, e1]
    have e : x = y := by cases x; cases y; simp_all
    subst e
    rw [SR.one (a := a) (b := b) ⟨p2, fun z hz => ha.2 z (by simp [hz])⟩ ⟨q2, fun z hz => hb.2 z (by simp [hz])⟩ (fun k => by
      have hk := h k
      simp only [getL] at hk
      by_cases he : x.1 = k
      · subst he
        rw [getL_gt p1, getL_gt q1]
      · rwa [if_neg he, if_neg he] at hk)]
/-- What lists a vector, rising, is such a row, and has what the vector has. -/
theorem Lists.sr {D : DataW Unit} {T : List (Int × Int)} (h : Lists D T) (hu : Up T) (hg : Good D) : SR T ∧ ∀ k, getL T k = gI D k := by
  have hs : SR T := by
    refine ⟨?_, fun x hx => ?_⟩
    · have hn := h.2.2
      unfold List.Nodup at hn
      rw [List.pairwise_map] at hn
      exact (hu.and hn).imp (fun {a b} hab => by have h1 := hab.1; have h2 := hab.2; omega)
    · have h1 := (h.2.1 x hx).1
      have h2 := (hg.2 x.1).1 ((h.1 x.1).2 ⟨x.2, hx⟩)
      rw [h1] at h2
      exact h2
  refine ⟨hs, fun k => ?_⟩
  cases hh : Maps.has D (.int .i64 k) with
  | true =>
    obtain ⟨n, hn⟩ := (h.1 k).1 hh
    rw [getL_pos hs hn]
    exact (h.2.1 _ hn).1.symm
  | false =>
    rw [(hg.2 k).2 hh]
    have : ∀ (l : List (Int × Int)), (∀ y ∈ l, y.1 ≠ k) → getL l k = 0 := by
      intro l
      induction l with
      | nil => intro _; rfl
      | cons y l ih => intro hy; unfold getL; rw [if_neg (hy y (by simp))]; exact ih (fun z hz => hy z (by simp [hz]))
    refine this T (fun y hy e => ?_)
    have := (h.1 y.1).2 ⟨y.2, hy⟩
    rw [e, hh] at this
    cases this
end Go.Proofs.Ytaeflfgkdjfnfaa
