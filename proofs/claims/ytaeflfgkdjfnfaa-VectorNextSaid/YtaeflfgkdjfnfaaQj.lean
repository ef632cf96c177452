/- Layer 5 (vector): the document's Join, Meet, Covers on rows, plainly. -/
import Derived.Test.YtaeflfgkdjfnfaaQi
namespace Go.Proofs.Ytaeflfgkdjfnfaa

def stJ (out : List (Int × Int)) (x : Int × Int) : List (Int × Int) := if getL out x.1 < x.2 then setL out x else out
def joinL (a b : List (Int × Int)) : List (Int × Int) := b.foldl stJ a
theorem stJ_eq {out : List (Int × Int)} {x : Int × Int} (hx : rgt x.1 x.2 = true) : stJ out x = stO out x := by
  unfold stJ stO
  simp [hx]
theorem joinL_SR {a b : List (Int × Int)} (ha : SR a) (hb : SR b) : SR (joinL a b) := by
  unfold joinL
  have h := hb.2
  clear hb
  induction b generalizing a with
  | nil => exact ha
  | cons x b ih =>
    rw [List.foldl_cons, stJ_eq (h x (by simp))]
    exact ih (ha.st x) (fun y hy => h y (by simp [hy]))
theorem getL_join {a b : List (Int × Int)} (ha : SR a) (hb : SR b) (k : Int) : getL (joinL a b) k = max (getL a k) (getL b k) := by
  unfold joinL
  induction b generalizing a with
  | nil =>
    have : 0 ≤ getL a k := by
      by_cases h : ∃ n, (k, n) ∈ a
      · obtain ⟨n, hn⟩ := h
        have h1 := getL_pos ha hn
        have h2 := (rgt_iff _ _).1 (ha.2 _ hn)
        dsimp only at h1 h2
        omega
      · have : ∀ (l : List (Int × Int)), (∀ y ∈ l, y.1 ≠ k) → getL l k = 0 := by
          intro l
          induction l with
          | nil => intro _; rfl
          | cons y l ih => intro hy; unfold getL; rw [if_neg (hy y (by simp))]; exact ih (fun z hz => hy z (by simp [hz]))
        rw [this a (fun y hy e => h ⟨y.2, by rw [← e]; exact hy⟩)]
        omega
    simp only [List.foldl_nil, getL]
    omega
  | cons x b ih =>
    obtain ⟨h1, h2⟩ := List.pairwise_cons.1 hb.1
    have hx := hb.2 x (by simp)
    rw [List.foldl_cons, stJ_eq hx, ih (ha.st x) ⟨h2, fun y hy => hb.2 y (by simp [hy])⟩, getL_st ha]
    by_cases hk : x.1 = k
    · subst hk
      rw [if_pos ⟨hx, rfl⟩, getL_gt h1]
      have hx2 := (rgt_iff _ _).1 hx
      simp only [getL, if_true]
      omega
    · rw [if_neg (fun e => hk e.2)]
      simp only [getL, if_neg hk]
theorem getL_nn {a : List (Int × Int)} (ha : SR a) (k : Int) : 0 ≤ getL a k := by
  have h := getL_join ha SR.nil k
  simp only [joinL, List.foldl_nil, getL] at h
  omega
/-- What Meet keeps of a write. -/
def mtF (b : List (Int × Int)) (x : Int × Int) : Option (Int × Int) := if 0 < min x.2 (getL b x.1) then some (x.1, min x.2 (getL b x.1)) else none
def meetL (a b : List (Int × Int)) : List (Int × Int) := a.filterMap (mtF b)
theorem mem_meet {a b : List (Int × Int)} {y : Int × Int} (hy : y ∈ meetL a b) : ∃ x ∈ a, y.1 = x.1 ∧ y.2 = min x.2 (getL b x.1) ∧ 0 < y.2 := by
  obtain ⟨x, hx, he⟩ := List.mem_filterMap.1 hy
  unfold mtF at he
  split at he
  · cases he; exact ⟨x, hx, rfl, rfl, by assumption⟩
  · cases he
theorem meetL_SR {a b : List (Int × Int)} (ha : SR a) : SR (meetL a b) := by
  refine ⟨?_, fun y hy => ?_⟩
  · obtain ⟨h, hrr⟩ := ha
    clear hrr
    unfold meetL
    induction a with
    | nil => exact List.Pairwise.nil
    | cons x a ih =>
      obtain ⟨h1, h2⟩ := List.pairwise_cons.1 h
      rw [List.filterMap_cons]
      cases hm : mtF b x with
      | none => exact ih h2
      | some z =>
        refine List.pairwise_cons.2 ⟨fun y hy => ?_, ih h2⟩
        obtain ⟨x2, hx2, e1, _⟩ := mem_meet (a := a) hy
        have h3 := h1 x2 hx2
        unfold mtF at hm
        split at hm
        · cases hm; dsimp only; omega
        · cases hm
  · obtain ⟨x, hx, e1, e2, e3⟩ := mem_meet hy
    have := (rgt_iff _ _).1 (ha.2 x hx)
    exact (rgt_iff _ _).2 ⟨by omega, by omega, by omega⟩
theorem getL_meet {a b : List (Int × Int)} (ha : SR a) (hb : SR b) (k : Int) : getL (meetL a b) k = min (getL a k) (getL b k) := by
  have hn := getL_nn hb k
  unfold meetL
  induction a with
  | nil => simp only [List.filterMap_nil, getL]; omega
  | cons x a ih =>
    obtain ⟨h1, h2⟩ := List.pairwise_cons.1 ha.1
    have hs : SR a := ⟨h2, fun y hy => ha.2 y (by simp [hy])⟩
    have hx := (rgt_iff _ _).1 (ha.2 x (by simp))
    have ih := ih hs
    have hz : x.1 = k → getL (a.filterMap (mtF b)) k = 0 := fun e => getL_gt (fun y hy => by
      obtain ⟨x2, hx2, e1, _⟩ := mem_meet (a := a) hy
      have := h1 x2 hx2
      omega)
    rw [List.filterMap_cons]
    by_cases hp : 0 < min x.2 (getL b x.1)
    · have hm : mtF b x = some (x.1, min x.2 (getL b x.1)) := by unfold mtF; rw [if_pos hp]
      rw [hm]
      simp only [getL]
      by_cases hk : x.1 = k
      · subst hk; rw [if_pos rfl, if_pos rfl]
      · rw [if_neg hk, if_neg hk]; exact ih
    · have hm : mtF b x = none := by unfold mtF; rw [if_neg hp]
      rw [hm]
      simp only [getL]
      by_cases hk : x.1 = k
      · rw [if_pos hk, hz hk]; subst hk; omega
      · rw [if_neg hk]; exact ih
end Go.Proofs.Ytaeflfgkdjfnfaa
