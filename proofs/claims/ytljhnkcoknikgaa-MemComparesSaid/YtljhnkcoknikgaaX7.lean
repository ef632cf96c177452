/- Layer 7 (mut): rows of mutations in memory; Copy, Copies. -/
import Derived.Test.YtljhnkcoknikgaaX6
namespace Go.Proofs.Ytljhnkcoknikgaa
open Go.RowKit

/-- Mutations, each with where its stamps are. -/
abbrev MP := Mu × Value
def mcl (p : MP) : List Value := [.int .i64 p.1.t, .int .i64 p.1.k, .string p.1.key, .string p.1.en, .string p.1.val, .int .i64 p.1.ex, .int .i64 p.1.st.x, .int .i64 p.1.st.y, .int .i64 p.1.st.z, p.2]
def flatM (L : List MP) : List Value := L.flatMap mcl
theorem flatM_len (L : List MP) : (flatM L).length = L.length * 10 := by
  induction L with
  | nil => rfl
  | cons s L ih => simp only [flatM, List.flatMap_cons, List.length_append, List.length_cons] at *; rw [ih]; simp [mcl]; omega
theorem flatM_app (L M : List MP) : flatM (L ++ M) = flatM L ++ flatM M := by simp [flatM]
theorem flatM_at (L : List MP) : ∀ (j : Nat) (h : j < L.length) (i : Nat), i < 10 → (flatM L)[j * 10 + i]? = (mcl L[j])[i]? := by
  induction L with
  | nil => intro j h; simp at h
  | cons s L ih =>
    intro j h i hi
    have e : flatM (s :: L) = mcl s ++ flatM L := by simp [flatM]
    have hl : (mcl s).length = 10 := rfl
    rw [e]
    cases j with
    | zero => rw [Nat.zero_mul, Nat.zero_add, List.getElem?_append_left (by omega)]; rfl
    | succ j =>
      have := ih j (by simpa using h) i hi
      rw [List.getElem?_append_right (by omega), show (j + 1) * 10 + i - (mcl s).length = j * 10 + i from by omega, this]
      simp
/-- The cells of a mutation. -/
def MC (w : World) (b o : Nat) (p : MP) : Prop := ∀ i, i < 10 → w.cell? ⟨b, o + i, none⟩ = (mcl p)[i]?
theorem MC.next {w w' : World} {b o : Nat} {e : MP} (h : MC w b o e) (hb : Below w.heap.size w w') : MC w' b o e := fun i hi => by
  have hs : ∃ v, (mcl e)[i]? = some v := ⟨_, List.getElem?_eq_getElem (by simpa [mcl] using hi)⟩
  obtain ⟨v, hv⟩ := hs
  have := h i hi
  rw [hv] at this ⊢
  exact cell_nx hb this
theorem MC.cells {w : World} {b o : Nat} {t k ex x y z : Int} {key en val : ByteArray} {over : List St} {ov : Value} (h : MC w b o (⟨t, k, key, en, val, ex, ⟨x, y, z⟩, over⟩, ov)) :
    w.cell? ⟨b, o, none⟩ = some (.int .i64 t) ∧ w.cell? ⟨b, o + 1, none⟩ = some (.int .i64 k) ∧ w.cell? ⟨b, o + 2, none⟩ = some (.string key) ∧ w.cell? ⟨b, o + 3, none⟩ = some (.string en) ∧ w.cell? ⟨b, o + 4, none⟩ = some (.string val) ∧
    w.cell? ⟨b, o + 5, none⟩ = some (.int .i64 ex) ∧ w.cell? ⟨b, o + 6, none⟩ = some (.int .i64 x) ∧ w.cell? ⟨b, o + 7, none⟩ = some (.int .i64 y) ∧ w.cell? ⟨b, o + 8, none⟩ = some (.int .i64 z) ∧ w.cell? ⟨b, o + 9, none⟩ = some ov :=
  ⟨h 0 (by omega), h 1 (by omega), h 2 (by omega), h 3 (by omega), h 4 (by omega), h 5 (by omega), h 6 (by omega), h 7 (by omega), h 8 (by omega), h 9 (by omega)⟩
/-- The stamps of each lie where they are said to. -/
def OV (w : World) (L : List MP) : Prop := ∀ p ∈ L, SI w p.2 p.1.over ∧ p.1.over.length ≤ 100000
theorem OV.next {w w' : World} {L : List MP} (h : OV w L) (hb : Below w.heap.size w w') : OV w' L := fun p hp => ⟨(h p hp).1.next hb, (h p hp).2⟩
/-- A slice that reads as mutations. -/
def MI (w : World) (v : Value) (L : List MP) : Prop :=
  ∃ a cap, v = .slice a L.length cap ∧ L.length ≤ cap ∧ (a = none → cap = 0) ∧ (L ≠ [] → ∃ b off, a = some ⟨b, off, none⟩ ∧ ∀ i (h : i < L.length), MC w b (off + i * 10) L[i])
theorem MI.next {w w' : World} {v : Value} {L : List MP} (h : MI w v L) (hb : Below w.heap.size w w') : MI w' v L := by
  obtain ⟨a, cap, hv, hcap, hn, hr⟩ := h
  refine ⟨a, cap, hv, hcap, hn, fun h0 => ?_⟩
  obtain ⟨b, off, ha, hc⟩ := hr h0
  exact ⟨b, off, ha, fun i hi => (hc i hi).next hb⟩
theorem MI.form {w : World} {v : Value} {L : List MP} (h : MI w v L) : ∃ a cap, v = .slice a L.length cap := by
  obtain ⟨a, cap, hv, _⟩ := h
  exact ⟨a, cap, hv⟩
theorem MI.at_ {w : World} {L : List MP} {a : Option Addr} {c : Nat} (h : MI w (.slice a L.length c) L) (i : Nat) (hi : i < L.length) : ∃ b off, a = some ⟨b, off, none⟩ ∧ MC w b (off + i * 10) L[i] := by
  obtain ⟨a', cap', hv, _, _, hc⟩ := h
  obtain ⟨b, off, ha, hcell⟩ := hc (fun e => by rw [e] at hi; simp at hi)
  cases hv
  exact ⟨b, off, ha, hcell i hi⟩
/-- Mutations in a row of the call's own. -/
def MO (w : World) (B : Nat) (v : Value) (L : List MP) : Prop := w.ownsRow B 40 10 v L.length (flatM L)
theorem MO.next {w w' : World} {B : Nat} {v : Value} {L : List MP} (h : MO w B v L) (hb : Below w.heap.size w w') : MO w' B v L := own_next h hb
theorem MO.in_ {w : World} {B : Nat} {v : Value} {L : List MP} (h : MO w B v L) : MI w v L := by
  rcases h.2 with ⟨hv, h0⟩ | ⟨g, cap, cur, hv, hB, hg, hc, hm, hs, ht⟩
  · have hl : L = [] := List.eq_nil_of_length_eq_zero h0
    subst hl
    exact ⟨none, 0, hv, Nat.le_refl _, fun _ => rfl, fun h => absurd rfl h⟩
  · refine ⟨_, cap, hv, by omega, fun h => (by cases h), fun _ => ⟨g, 0, rfl, fun i hi => ?_⟩⟩
    subst hv
    intro j hj
    have r0 := World.ownsRow.cellAt h (i * 10 + j) (by omega)
    rw [Nat.zero_add, r0]
    exact flatM_at L i hi j hj
theorem MO.form {w : World} {B : Nat} {v : Value} {L : List MP} (h : MO w B v L) : ∃ a cap, v = .slice a L.length cap := h.in_.form
theorem m_info : (Try.prog.info? 40).map (fun i => (i.zero, i.size, i.bytes)) = some (some (.agg #[.int .i64 0, .int .i64 0, .string ⟨#[]⟩, .string ⟨#[]⟩, .string ⟨#[]⟩, .int .i64 0, .int .i64 0, .int .i64 0, .int .i64 0, .slice none 0 0]), 10, 120) := by kernel_rfl
theorem addM (b off j : Nat) : (⟨b, off, none⟩ : Addr).add j = ⟨b, off + j, none⟩ := by unfold Addr.add; split <;> simp_all
end Go.Proofs.Ytljhnkcoknikgaa
