/- Layer 5 (vector): how many a vector has; the statement VectorKnows' walk. -/
import Derived.Test.YtaeflfgkdjfnfaaQh
import Derived.Test.YtaeflfgkdjfnfaaYk
namespace Go.Proofs.Ytaeflfgkdjfnfaa
open Go.RowKit
attribute [local irreducible] wpQuiet

theorem ins_length {d : Int × Int} : ∀ {l : List (Int × Int)}, SR l → (insL d l).length = if getL l d.1 = 0 then l.length + 1 else l.length
  | [], _ => by simp [insL, getL]
  | x :: l, h => by
    obtain ⟨h1, h2⟩ := List.pairwise_cons.1 h.1
    have hx := (rgt_iff _ _).1 (h.2 x (by simp))
    unfold insL
    by_cases hlt : d.1 < x.1
    · have h0 : getL (x :: l) d.1 = 0 := getL_gt (fun y hy => by rcases List.mem_cons.1 hy with rfl | hy; exact hlt; have := h1 y hy; omega)
      rw [if_pos hlt, if_pos h0]
      simp
    · rw [if_neg hlt]
      by_cases heq : d.1 = x.1
      · have h0 : getL (x :: l) d.1 = x.2 := by unfold getL; rw [if_pos heq.symm]
        rw [if_pos heq, if_neg (by rw [h0]; omega)]
        simp
      · have h0 : getL (x :: l) d.1 = getL l d.1 := by conv => lhs; unfold getL
                                                       rw [if_neg (fun e => heq e.symm)]
        rw [if_neg heq, List.length_cons, ins_length ⟨h2, fun y hy => h.2 y (by simp [hy])⟩, h0]
        split <;> simp
/-- Of such a vector there is a row as the document has it, as long as it. -/
def Szd (D : DataW Unit) : Prop := Maps.Tidy D ∧ Good D ∧ ∃ T, SR T ∧ (∀ k, getL T k = gI D k) ∧ Maps.size D = T.length
theorem Szd.nil : Szd (.map []) := ⟨Maps.tidy_empty, Good.nil, [], SR.nil, fun _ => rfl, rfl⟩
theorem Szd.lr {D : DataW Unit} (h : Szd D) (x : Int × Int) : Szd (lrD D x) := by
  obtain ⟨ht, hg, T, hT, he, hz⟩ := h
  by_cases hr : rgt x.1 x.2 = true
  · have hr2 := (rgt_iff _ _).1 hr
    have hgx : 0 ≤ gI D x.1 ∧ gI D x.1 ≤ 1099511627776 := by
      cases hh : Maps.has D (.int .i64 x.1) with
      | true => have := (rgt_iff _ _).1 ((hg.2 x.1).1 hh); omega
      | false => have := (hg.2 x.1).2 hh; omega
    have hm : rgt x.1 (max (gI D x.1) x.2) = true := (rgt_iff _ _).2 ⟨hr2.1, by omega, by omega⟩
    refine ⟨?_, hg.lr x, setL T (x.1, max (gI D x.1) x.2), hT.set hm, fun k => ?_, ?_⟩
    · unfold lrD; rw [if_pos hr]; exact ht.put (by simp [WideAt.IsKeyLit]) _
    · rw [hT.get, gI_lr hg.1]
      by_cases hk : k = x.1
      · subst hk; rw [if_pos rfl, if_pos ⟨hr, rfl⟩]
      · rw [if_neg hk, if_neg (fun e => hk e.2.symm), he]
    · unfold lrD
      rw [if_pos hr, Maps.size_put ht, setL_ins hT.1, ins_length hT, he, hz]
      cases hh : Maps.has D (.int .i64 x.1) with
      | true => have := (rgt_iff _ _).1 ((hg.2 x.1).1 hh); rw [if_pos rfl, if_neg (by dsimp only; omega)]
      | false => rw [if_neg (by simp), if_pos ((hg.2 x.1).2 hh)]
  · have e : lrD D x = D := by unfold lrD; rw [if_neg hr]
    rw [e]
    exact ⟨ht, hg, T, hT, he, hz⟩
theorem Szd.of (l : List (Int × Int)) : Szd (ofD l) := by
  unfold ofD
  suffices ∀ (l : List (Int × Int)) (D : DataW Unit), Szd D → Szd (l.foldl lrD D) from this l _ Szd.nil
  intro l
  induction l with
  | nil => intro D h; exact h
  | cons x l ih => intro D h; exact ih _ (h.lr x)
theorem Szd.len {D : DataW Unit} (h : Szd D) {l : List (Int × Int)} (hs : SR l) (he : ∀ k, gI D k = getL l k) : Maps.size D = l.length := by
  obtain ⟨_, _, T, hT, hk, hz⟩ := h
  rw [hz, SR.one hT hs (fun k => by rw [hk, he])]
end Go.Proofs.Ytaeflfgkdjfnfaa
