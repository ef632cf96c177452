/- Layer 38 (glob): runes, spans and parts in memory. -/
import Derived.Test.YtfnjmboflegaaaaDoorGa
import Derived.Test.YtfnjmboflegaaaaDoorProg
import Derived.Test.YtfnjmboflegaaaaDoorChecked
import Derived.WalkSpells
import Derived.WalkLawsBesides
import Derived.Laws.AppendOwn
import Derived.OwnWalk
import Derived.Deep.AppendLies
import Derived.Deep.QuietTactic
import Derived.BigQuiet
import Derived.WalkSmall
namespace Go.Proofs.YtfnjmboflegaaaaDoor
open Go.RowKit

theorem gaddp (b off j : Nat) : (⟨b, off, none⟩ : Addr).add j = ⟨b, off + j, none⟩ := by
  unfold Addr.add
  by_cases h : j = 0 <;> simp [h]
/-- A slice that reads as runes. -/
def RS (w : World) (v : Value) (l : List Int) : Prop :=
  ∃ a cap, v = .slice a l.length cap ∧ l.length ≤ cap ∧ (a = none → cap = 0) ∧ (l ≠ [] → ∃ b off, a = some ⟨b, off, none⟩ ∧ ∀ i (h : i < l.length), w.cell? ⟨b, off + i, none⟩ = some (.int .i32 l[i]))
theorem RS.form {w : World} {v : Value} {l : List Int} (h : RS w v l) : ∃ a cap, v = .slice a l.length cap := by
  obtain ⟨a, cap, hv, _⟩ := h
  exact ⟨a, cap, hv⟩
theorem RS.next {w w' : World} {v : Value} {l : List Int} (h : RS w v l) (hb : Below w.heap.size w w') : RS w' v l := by
  obtain ⟨a, cap, hv, hl, hn, hr⟩ := h
  refine ⟨a, cap, hv, hl, hn, fun h0 => ?_⟩
  obtain ⟨b, off, ha, hc⟩ := hr h0
  refine ⟨b, off, ha, fun i hi => ?_⟩
  have h1 := hc i hi
  rw [hb.cell (World.block_lt_of_cell? w _ h1)]
  exact h1
theorem RS.len {w : World} {v : Value} {l : List Int} (h : RS w v l) (w' : World) : (Builtin.len_ #[36] 3 #[v]).run Tryd.prog w' = .ok (.int .i64 (l.length : Int)) w' := by
  obtain ⟨a, cap, rfl, _⟩ := h
  exact run_len_slice (P := Tryd.prog) w' 36 3 a l.length cap (by kernel_rfl)
/-- A piece of what reads as runes, from i up to ahead of j. -/
theorem RS.cut {w : World} {v : Value} {l : List Int} (h : RS w v l) (i j : Nat) (hij : i ≤ j) (hj : j ≤ l.length) :
    ∃ v', (∀ w', (Instr.slice 36 v (some (.int .i64 (i : Int))) (some (.int .i64 (j : Int))) none).run Tryd.prog w' = .ok v' w') ∧ RS w v' ((l.drop i).take (j - i)) := by
  obtain ⟨a, cap, rfl, hle, hn, hc⟩ := h
  have hel : Tryd.prog.elem 36 = 21 := by kernel_rfl
  have hu : Tryd.prog.underlying 36 = some (.slice (Tryd.prog.elem 36)) := by kernel_rfl
  have hs := Tryd.sizeOf21
  have hlen : ((l.drop i).take (j - i)).length = j - i := by simp; omega
  refine ⟨sliced a i j cap 1, fun w' => ?_, ?_⟩
  · rw [run_slice_lh w' _ a l.length cap hu .i64 .i64 (i : Int) (j : Int) (by omega) (by omega) (by omega), hel, hs]
    simp [Result.andThen]
  · cases a with
    | none =>
      have h0 := hn rfl
      have hl0 : l.length = 0 := by omega
      have hl := List.eq_nil_of_length_eq_zero hl0
      have hi : i = 0 := by omega
      have hj0 : j = 0 := by omega
      subst hl hi hj0 h0
      exact ⟨none, 0, rfl, Nat.le_refl _, fun _ => rfl, fun h => absurd rfl h⟩
    | some ad =>
      refine ⟨some (if cap = i then ad else ad.add (i * 1)), cap - i, ?_, by rw [hlen]; omega, (fun h => by cases h), fun h0 => ?_⟩
      · rw [hlen]; simp [sliced]; split <;> rfl
      · have hpos : i < j := by
          rcases Nat.lt_or_ge i j with h1 | h1
          · exact h1
          · exfalso; apply h0; apply List.eq_nil_of_length_eq_zero; rw [hlen]; omega
        obtain ⟨b, off, hab, hcell⟩ := hc (fun e => by rw [e] at hj; simp at hj; omega)
        cases hab
        refine ⟨b, off + i, ?_, fun q hq => ?_⟩
        · rw [if_neg (by omega), Nat.mul_one, gaddp]
        · rw [hlen] at hq
          have h1 := hcell (i + q) (by omega)
          rw [Nat.add_assoc, h1]
          simp
theorem RS.from {w : World} {v : Value} {l : List Int} (h : RS w v l) (i : Nat) (hi : i ≤ l.length) :
    ∃ v', (∀ w', (Instr.slice 36 v (some (.int .i64 (i : Int))) none none).run Tryd.prog w' = .ok v' w') ∧ RS w v' (l.drop i) := by
  obtain ⟨v', h1, h2⟩ := h.cut i l.length hi (Nat.le_refl _)
  refine ⟨v', fun w' => ?_, by rw [List.take_of_length_le (by simp)] at h2; exact h2⟩
  rw [← h1 w']
  obtain ⟨a, cap, rfl, hle, hn, hc⟩ := h
  have hu : Tryd.prog.underlying 36 = some (.slice (Tryd.prog.elem 36)) := by kernel_rfl
  rw [run_slice_lh w' _ a l.length cap hu .i64 .i64 (i : Int) (l.length : Int) (by omega) (by omega) (by omega), run_slice_l w' _ a l.length cap hu .i64 (i : Int) (by omega) (by omega)]
  simp

/-- Spans in a row of the call's own. -/
def flatS (L : List (Int × Int)) : List Value := L.flatMap fun s => [.int .i32 s.1, .int .i32 s.2]
theorem flatS_len (L : List (Int × Int)) : (flatS L).length = L.length * 2 := by
  induction L with
  | nil => rfl
  | cons s L ih => simp only [flatS, List.flatMap_cons, List.length_append, List.length_cons] at *; rw [ih]; simp; omega
theorem flatS_snoc (L : List (Int × Int)) (s : Int × Int) : flatS (L ++ [s]) = flatS L ++ [.int .i32 s.1, .int .i32 s.2] := by simp [flatS]
theorem flatS_at (L : List (Int × Int)) : ∀ (j : Nat) (h : j < L.length), (flatS L)[j * 2]? = some (.int .i32 L[j].1) ∧ (flatS L)[j * 2 + 1]? = some (.int .i32 L[j].2) := by
  induction L with
  | nil => intro j h; simp at h
  | cons s L ih =>
    intro j h
    have e : flatS (s :: L) = .int .i32 s.1 :: .int .i32 s.2 :: flatS L := by simp [flatS]
    rw [e]
    cases j with
    | zero => exact ⟨rfl, rfl⟩
    | succ j =>
      have := ih j (by simpa using h)
      rw [show (j + 1) * 2 = j * 2 + 1 + 1 from by omega]
      simp only [List.getElem?_cons_succ, List.getElem_cons_succ]
      exact this
def SpO (w : World) (v : Value) (L : List (Int × Int)) : Prop := w.ownsRow 0 70 2 v L.length (flatS L)
/-- Parts in a row of the call's own, each with its row of spans. -/
def flatP (q : List (Prt × Value)) : List Value := q.flatMap fun x => [.bool x.1.row, .bool x.1.nt, x.2]
theorem flatP_len (q : List (Prt × Value)) : (flatP q).length = q.length * 3 := by
  induction q with
  | nil => rfl
  | cons s L ih => simp only [flatP, List.flatMap_cons, List.length_append, List.length_cons] at *; rw [ih]; simp; omega
theorem flatP_snoc (q : List (Prt × Value)) (x : Prt × Value) : flatP (q ++ [x]) = flatP q ++ [.bool x.1.row, .bool x.1.nt, x.2] := by simp [flatP]
theorem flatP_at (L : List (Prt × Value)) : ∀ (j : Nat) (h : j < L.length), (flatP L)[j * 3]? = some (.bool L[j].1.row) ∧ (flatP L)[j * 3 + 1]? = some (.bool L[j].1.nt) ∧ (flatP L)[j * 3 + 2]? = some L[j].2 := by
  induction L with
  | nil => intro j h; simp at h
  | cons s L ih =>
    intro j h
    have e : flatP (s :: L) = .bool s.1.row :: .bool s.1.nt :: s.2 :: flatP L := by simp [flatP]
    rw [e]
    cases j with
    | zero => exact ⟨rfl, rfl, rfl⟩
    | succ j =>
      have := ih j (by simpa using h)
      rw [show (j + 1) * 3 = j * 3 + 1 + 1 + 1 from by omega]
      simp only [List.getElem?_cons_succ, List.getElem_cons_succ]
      exact this
def PtO (w : World) (v : Value) (q : List (Prt × Value)) : Prop := w.ownsRow 0 57 3 v q.length (flatP q) ∧ ∀ x ∈ q, SpO w x.2 x.1.sp
theorem SpO.next {w w' : World} {v : Value} {L : List (Int × Int)} (h : SpO w v L) (hb : Below w.heap.size w w') : SpO w' v L := own_next h hb
theorem PtO.next {w w' : World} {v : Value} {q : List (Prt × Value)} (h : PtO w v q) (hb : Below w.heap.size w w') : PtO w' v q := ⟨own_next h.1 hb, fun x hx => (h.2 x hx).next hb⟩
/-- Rows of unlike types lie in unlike blocks. -/
theorem own_apart {w : World} {B B' : Nat} {e e' : TypeId} {sz sz' n n' : Nat} {v v' : Value} {xs xs' : List Value} (h : w.ownsRow B e sz v n xs) (h' : w.ownsRow B' e' sz' v' n' xs') (hne : e ≠ e') : v.ownBlock = none ∨ v.ownBlock ≠ v'.ownBlock := by
  rcases h.2 with ⟨rfl, _⟩ | ⟨g, cap, cur, rfl, _, hg, _⟩
  · exact .inl rfl
  · right
    rcases h'.2 with ⟨rfl, _⟩ | ⟨g', cap', cur', rfl, _, hg', _⟩
    · simp [Value.ownBlock]
    · intro e1
      simp [Value.ownBlock] at e1
      subst e1
      rw [hg] at hg'
      cases hg'
      exact hne rfl
theorem SpO.kept {w w' : World} {v u : Value} {L : List (Int × Int)} {B n : Nat} {xs : List Value} (h : SpO w v L) (hu : w.ownsRow B 57 3 u n xs) (hg : w.grownBy w' u.ownBlock) : SpO w' v L :=
  World.ownsRow.kept h hg (own_apart h hu (by decide))
theorem PtO.more {w w' : World} {v v' : Value} {q : List (Prt × Value)} {x : Prt × Value} (h : PtO w v q) (hx : SpO w x.2 x.1.sp) (hg : w.grownBy w' v.ownBlock) (ho : w'.ownsRow 0 57 3 v' (q.length + 1) (flatP q ++ [.bool x.1.row, .bool x.1.nt, x.2])) : PtO w' v' (q ++ [x]) := by
  refine ⟨by rw [List.length_append, flatP_snoc]; exact ho, fun y hy => ?_⟩
  rcases List.mem_append.1 hy with h1 | h1
  · exact (h.2 y h1).kept h.1 hg
  · simp at h1; subst h1; exact hx.kept h.1 hg
theorem PtO.nil (w : World) : PtO w (.slice none 0 0) [] := ⟨World.ownsRow_nil _ _ _ _, fun x hx => by cases hx⟩
theorem SpO.nil (w : World) : SpO w (.slice none 0 0) [] := World.ownsRow_nil _ _ _ _
theorem part_info : (Tryd.prog.info? 57).map (fun i => (i.zero, i.size, i.bytes)) = some (some (.agg #[.bool false, .bool false, .slice none 0 0]), 3, 32) := by kernel_rfl
theorem span_info : (Tryd.prog.info? 70).map (fun i => (i.zero, i.size, i.bytes)) = some (some (.agg #[.int .i32 0, .int .i32 0]), 2, 8) := by kernel_rfl
end Go.Proofs.YtfnjmboflegaaaaDoor
