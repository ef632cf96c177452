/- Layer 4 (stamp): rows of stamps; what is behind what: plain facts. -/
import Derived.Test.YtnkgicjclngnpaaSj
import Derived.Test.YtnkgicjclngnpaaRow
namespace Go.Proofs.Ytnkgicjclngnpaa
open Go.RowKit

def ltS (a b : St) : Prop := a.x < b.x ∨ (a.x = b.x ∧ (a.y < b.y ∨ (a.y = b.y ∧ a.z < b.z)))
theorem lessS_iff (a b : St) : lessS a b = true ↔ ltS a b := by
  unfold lessS ltS cmpS cmpI
  rw [decide_eq_true_iff]
  constructor
  · intro h
    repeat' split at h
    all_goals omega
  · intro h
    repeat' split
    all_goals omega
theorem next_behind (k : Ck) : ltS k.last k.next := by
  unfold ltS Ck.next
  split
  · left; assumption
  · right; exact ⟨rfl, .inl (by dsimp only; omega)⟩
/-- All of a row are no later than a stamp. -/
def upto (L : List St) (t : St) : Prop := ∀ s ∈ L, ¬ ltS t s
theorem upto.next {L : List St} {k : Ck} (h : upto L k.last) : ∀ s ∈ L, ltS s k.next := fun s hs => by
  have h1 := h s hs
  have h2 := next_behind k
  unfold ltS at *
  omega
theorem upto.told {L : List St} {k : Ck} (h : upto L k.last) : upto (L ++ [k.next]) k.next := fun s hs => by
  rcases List.mem_append.1 hs with h1 | h1
  · have h2 := h.next s h1
    unfold ltS at *
    omega
  · simp at h1; subst h1; unfold ltS; omega
theorem upto.later {L : List St} {k : Ck} (s : St) (h : upto L k.last) : upto L (k.see s).last := fun t ht => by
  have h1 := h t ht
  unfold Ck.see
  split
  · unfold maxS
    split
    · rename_i _ h2
      have h3 := (lessS_iff k.last s).1 (by unfold lessS; exact decide_eq_true h2)
      dsimp only
      unfold ltS at *
      omega
    · exact h1
  · exact h1
theorem upto.seen {L : List St} {k : Ck} {s : St} (hr : rightB s = true) (h : upto L k.last) : upto (L ++ [s]) (k.see s).last := fun t ht => by
  rcases List.mem_append.1 ht with h1 | h1
  · exact h.later s t h1
  · simp at h1; subst h1
    unfold Ck.see
    rw [if_pos hr]
    unfold maxS
    dsimp only
    split
    · unfold ltS; omega
    · rename_i h2
      intro h3
      have h4 := (lessS_iff k.last t).2 h3
      unfold lessS at h4
      exact h2 (of_decide_eq_true h4)
theorem upto.none (t : St) : upto [] t := fun s hs => by cases hs

def flat (L : List St) : List Value := L.flatMap fun s => s.cells.toList
theorem flat_snoc (L : List St) (s : St) : flat (L ++ [s]) = flat L ++ [.int .i64 s.x, .int .i64 s.y, .int .i64 s.z] := by simp [flat, St.cells]
theorem flat_len (L : List St) : (flat L).length = L.length * 3 := by
  induction L with
  | nil => rfl
  | cons s L ih => simp only [flat, List.flatMap_cons, List.length_append, List.length_cons] at *; rw [ih]; simp [St.cells]; omega
theorem flat_at (L : List St) : ∀ (j : Nat) (h : j < L.length), (flat L)[j * 3]? = some (.int .i64 L[j].x) ∧ (flat L)[j * 3 + 1]? = some (.int .i64 L[j].y) ∧ (flat L)[j * 3 + 2]? = some (.int .i64 L[j].z) := by
  induction L with
  | nil => intro j h; simp at h
  | cons s L ih =>
    intro j h
    have e : flat (s :: L) = .int .i64 s.x :: .int .i64 s.y :: .int .i64 s.z :: flat L := by simp [flat, St.cells]
    rw [e]
    cases j with
    | zero => exact ⟨rfl, rfl, rfl⟩
    | succ j =>
      have := ih j (by simpa using h)
      rw [show (j + 1) * 3 = j * 3 + 1 + 1 + 1 from by omega]
      simp only [List.getElem?_cons_succ, List.getElem_cons_succ]
      exact this
theorem st_info : (Try.prog.info? 46).map (fun i => (i.zero, i.size, i.bytes)) = some (some (.agg #[.int .i64 0, .int .i64 0, .int .i64 0]), 3, 24) := by kernel_rfl
/-- A row of stamps that the call owns. -/
def Sts (w : World) (B : Nat) (v : Value) (L : List St) : Prop := w.ownsRow B 46 3 v L.length (flat L)
theorem Sts.next {w w' : World} {B : Nat} {v : Value} {L : List St} (h : Sts w B v L) (hb : Below w.heap.size w w') : Sts w' B v L := own_next h hb
theorem Sts.grown {w w' : World} {B c : Nat} {v : Value} {L : List St} (h : Sts w B v L) (hg : w.grownBy w' (some c)) (hc : c < B) : Sts w' B v L := h.kept hg (.inr (own_ne h hc))
theorem Sts.read {w : World} {B : Nat} {v : Value} {L : List St} (h : Sts w B v L) (j : Nat) (hj : j < L.length) : ∃ g cap, v = .slice (some ⟨g, 0, none⟩) L.length cap ∧ L.length ≤ cap ∧
    w.cell? ⟨g, j * 3, none⟩ = some (.int .i64 L[j].x) ∧ w.cell? ⟨g, j * 3 + 1, none⟩ = some (.int .i64 L[j].y) ∧ w.cell? ⟨g, j * 3 + 2, none⟩ = some (.int .i64 L[j].z) := by
  have h2 := h
  obtain ⟨g, cap, rfl, _, _⟩ := World.ownsRow.form h (by omega)
  obtain ⟨a, b, c⟩ := flat_at L j hj
  refine ⟨g, cap, rfl, ?_, ?_, ?_, ?_⟩
  · rcases h2.2 with ⟨h', _⟩ | ⟨_, _, _, h', _, _, hle, _⟩
    · simp at h'
    · simp at h'; omega
  · rw [World.ownsRow.cellAt h2 _ (by omega)]; exact a
  · rw [World.ownsRow.cellAt h2 _ (by omega)]; exact b
  · rw [World.ownsRow.cellAt h2 _ (by omega)]; exact c
theorem Sts.form {w : World} {B : Nat} {v : Value} {L : List St} (h : Sts w B v L) : ∃ a cap, v = .slice a L.length cap := by
  rcases h.2 with ⟨rfl, h0⟩ | ⟨g, cap, cur, rfl, _⟩
  · exact ⟨none, 0, by rw [h0]⟩
  · exact ⟨_, cap, rfl⟩
end Go.Proofs.Ytnkgicjclngnpaa
