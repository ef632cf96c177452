/- Layer 38 (glob): a part has at most as many spans as its pattern has runes. No program. -/
import Derived.Test.YtfnjmboflegaaaaDoorGg
namespace Go.Proofs.YtfnjmboflegaaaaDoor

theorem spF_len : ∀ (l : List Int) (sp : List (Int × Int)), spF l = some sp → sp.length ≤ l.length
  | [], sp, h => by simp [spF] at h; subst h; simp
  | [a], sp, h => by simp [spF] at h; subst h; simp
  | [a, b], sp, h => by simp [spF] at h; subst h; simp
  | a :: b :: c :: l, sp, h => by
    rw [spF] at h
    split at h
    · split at h
      · simp at h
      · cases h2 : spF l with
        | none => rw [h2] at h; simp at h
        | some s2 =>
          rw [h2] at h
          simp at h
          subst h
          have := spF_len l s2 h2
          simp; omega
    · cases h2 : spF (b :: c :: l) with
      | none => rw [h2] at h; simp at h
      | some s2 =>
        rw [h2] at h
        simp at h
        subst h
        have := spF_len (b :: c :: l) s2 h2
        simp at this
        simp; omega
theorem clsS_len {l : List Int} {p : Prt} (h : clsS l = some p) : p.sp.length ≤ l.length := by
  unfold clsS at h
  dsimp only at h
  split at h
  · simp at h
  · rename_i sp hsp
    split at h
    · simp at h
    · simp at h
      rw [← h]
      have := spF_len _ sp hsp
      dsimp only
      split at this
      · simp at this; omega
      · exact this
theorem prsF_sp : ∀ (f : Nat) (l : List Int) (ps : List Prt), prsF f l = some ps → ∀ p ∈ ps, p.sp.length ≤ l.length
  | 0, _, ps, h => by simp [prsF] at h; subst h; intro p hp; cases hp
  | f + 1, [], ps, h => by simp [prsF] at h; subst h; intro p hp; cases hp
  | f + 1, c :: l, ps, h => by
    have key : ∀ (p : Prt) (l' : List Int), l'.length ≤ l.length → p.sp.length ≤ l.length + 1 → (prsF f l').map (p :: ·) = some ps → ∀ p ∈ ps, p.sp.length ≤ (c :: l).length := by
      intro p l' hl hp he
      cases h2 : prsF f l' with
      | none => rw [h2] at he; simp at he
      | some qs =>
        rw [h2] at he
        simp at he
        subst he
        have := prsF_sp f l' qs h2
        intro p' hp'
        rcases List.mem_cons.1 hp' with rfl | h3
        · simpa using hp
        · have := this p' h3
          simp; omega
    rw [prsF] at h
    split at h
    · exact key starP l (Nat.le_refl _) (by simp [starP]) h
    · split at h
      · exact key anyP l (Nat.le_refl _) (by simp [anyP]) h
      · split at h
        · split at h
          · simp at h
          · split at h
            · simp at h
            · rename_i p hp
              refine key p _ (by simp) ?_ h
              have := clsS_len hp
              simp at this; omega
        · exact key (oneP c) l (Nat.le_refl _) (by simp [oneP]) h
theorem prs_sp {l : List Int} {ps : List Prt} (h : prs l = some ps) : ∀ p ∈ ps, p.sp.length ≤ l.length := prsF_sp _ l ps h
end Go.Proofs.YtfnjmboflegaaaaDoor
