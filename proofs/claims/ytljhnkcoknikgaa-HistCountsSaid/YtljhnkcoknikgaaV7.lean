/- Layer 44 (hist): a slice of ints that is handed in; ints appended to a row of one's own. -/
import Derived.Test.YtljhnkcoknikgaaV6
import Derived.Laws.AppendOwnNone
namespace Go.Proofs.Ytljhnkcoknikgaa
open Go.RowKit

/-- A slice that reads as ints, and is nil only without room. -/
def IK (w : World) (v : Value) (l : List Int) : Prop :=
  ∃ a cap, v = .slice a l.length cap ∧ (a = none → cap = 0) ∧ (l ≠ [] → ∃ b off, a = some ⟨b, off, none⟩ ∧ ∀ i (h : i < l.length), w.cell? ⟨b, off + i, none⟩ = some (.int .i64 l[i]))
theorem IK.in_ {w : World} {v : Value} {l : List Int} (h : IK w v l) : IN w v l := by
  obtain ⟨a, cap, hv, _, hr⟩ := h
  exact ⟨a, cap, hv, hr⟩
theorem IK.next {w w' : World} {v : Value} {l : List Int} (h : IK w v l) (hb : Below w.heap.size w w') : IK w' v l := by
  obtain ⟨a, cap, hv, h0, hr⟩ := h
  refine ⟨a, cap, hv, h0, fun hne => ?_⟩
  obtain ⟨b, off, ha, hc⟩ := hr hne
  refine ⟨b, off, ha, fun i hi => ?_⟩
  have := hc i hi
  rw [hb.cell (World.block_lt_of_cell? _ _ this)]
  exact this
theorem iv_app (a b : List Int) : iv a ++ iv b = iv (a ++ b) := by simp [iv]
theorem io_made (w : World) : IO (w.alloc (.cells #[] 3)) w.heap.size (.slice (some ⟨w.heap.size, 0, none⟩) 0 0) [] := World.ownsRow_made w #[] 0 (Nat.le_refl _) (by unfold maxLen; omega) rfl
/-- append of what reads as ints onto a row of one's own. -/
theorem wpList_app_i {w : World} {ops : Array Oper} {rest : List Oper} {o : Oper} {a : Act} {Q : Exit → Act → World → Prop} (hgd : o.guard = none) (s x : Operand)
    (ho : o.op = .call { callee := .builtin .append, args := #[s, x], argTypes := #[22, 22] })
    (base : Nat) (v vx : Value) (L M : List Int) (hs : a.eval s = v) (hx : a.eval x = vx) (hown : IO w base v L) (hbs : IK w vx M) (hm : L.length + M.length ≤ 100000) (hbase : base ≤ w.heap.size)
    (h : ∀ v' w', IO w' base v' (L ++ M) → w.grownBy w' v.ownBlock → wpList Try.prog ops Q rest (a.put o.dst v') w') : wpList Try.prog ops Q (o :: rest) a w := by
  obtain ⟨i0, hi, hz0, hz1, hz2⟩ := info_parts i_info
  obtain ⟨ax, cap, rfl, hn, hc⟩ := hbs
  cases ax with
  | none =>
    have hc0 := hn rfl
    have hl : M = [] := by
      apply Classical.byContradiction
      intro hne
      obtain ⟨b, off, hab, _⟩ := hc hne
      cases hab
    subst hl
    subst hc0
    refine wpList_append_own_none hgd s x 22 ho base 3 i0 1 Try.underlying22 hi v L.length (iv L) hs hown hx ?_
    refine h v w ?_ ⟨rfl, rfl, rfl, Nat.le_refl _, fun _ _ _ => rfl⟩
    rw [List.append_nil]
    exact hown
  | some ad =>
    refine wpList_append_own _ hgd s x 22 ho base 3 i0 _ 1 8 Try.underlying22 hi hz0 hz1 hz2 rfl (by decide) v L.length (iv L) hs hown ad M.length cap (iv M) hx (by rw [iv_len, Nat.mul_one]) ?_ (iv_one M) (by unfold maxLen; omega) (by omega) hbase ?_
    · intro j u hu
      have hj : j < M.length := by have := (List.getElem?_eq_some_iff.1 hu).1; rwa [iv_len] at this
      obtain ⟨b, off, hab, hcell⟩ := hc (fun e => by rw [e] at hj; simp at hj)
      cases hab
      rw [addi]
      rw [iv_at M j hj] at hu
      cases hu
      exact hcell j hj
    · intro v' w' hown' hgr' _
      refine h v' w' ?_ hgr'
      unfold IO
      rw [List.length_append, ← iv_app]
      exact hown'
theorem IO.ik {w : World} {B : Nat} {v : Value} {l : List Int} (h : IO w B v l) : IK w v l := by
  rcases h.2 with ⟨hv, h0⟩ | ⟨g, cap, cur, hv, hB, hg, hc, hm, hs, ht⟩
  · have hl : l = [] := List.eq_nil_of_length_eq_zero h0
    subst hl
    exact ⟨none, 0, hv, fun _ => rfl, fun h => absurd rfl h⟩
  · refine ⟨_, cap, hv, fun e => (by cases e), fun _ => ⟨g, 0, rfl, fun i hi => ?_⟩⟩
    subst hv
    have := World.ownsRow.cellAt h i (by omega)
    rw [Nat.zero_add, this]
    exact iv_at l i hi
end Go.Proofs.Ytljhnkcoknikgaa
