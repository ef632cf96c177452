/- Layer 36 (diffs): entries compared with ==; rows of entries in memory. -/
import Derived.Test.YtkkhljneeajkmaaB1
import Derived.Test.YtkkhljneeajkmaaOc
import Derived.Test.YtkkhljneeajkmaaPi
import Derived.Laws.StructEq
import Derived.ChangeKeysEq
import Derived.Laws.Strings
import Derived.Deep.AppendLies
import Derived.Laws.AppendOwnNone
namespace Go.Proofs.Ytkkhljneeajkmaa
open Go.RowKit

def En.cells (e : En) : Array Value := #[.string e.key, .int .i64 e.st.x, .int .i64 e.st.y, .int .i64 e.st.z]
theorem en_guard : Try.prog.eqGuardType Try.prog.depth 72 = false := by kernel_rfl
theorem run_enGuard (op : BinOp) (x y : Operand) (xs ys : Array Value) (w : World) : (eqGuard op 72 x y (.agg xs) (.agg ys)).run Try.prog w = .ok () w := run_eqGuard_agg w op _ x y xs ys en_guard
set_option maxRecDepth 100000 in
theorem run_eqStIn (ax ay az bx b_y bz : Int) (w : World) : (Op.equalIn 9999 70 (.agg #[.int .i64 ax, .int .i64 ay, .int .i64 az]) (.agg #[.int .i64 bx, .int .i64 b_y, .int .i64 bz])).run Try.prog w = .ok (eqSt ⟨ax, ay, az⟩ ⟨bx, b_y, bz⟩) w := by
  have u3 := Try.underlying3
  have a3 := Try.isAgg3
  have z3 := Try.sizeOf3
  have hS : Try.prog.underlying 70 = some (.struct (Try.prog.fieldsOf 70)) := by kernel_rfl
  have hp : Try.prog.stoodInHeld 70 = false := by kernel_rfl
  rw [show (9999 : Nat) = 9998 + 1 from rfl, run_equalIn_agg w 9998 70 _ _ hS hp]
  simp only [Program.fieldsOf, Try.underlying70]
  go_simp
  by_cases h1 : ax = bx <;> by_cases h2 : ay = b_y <;> by_cases h3 : az = bz <;> simp [h1, h2, h3, eqSt]
set_option maxRecDepth 100000 in
set_option maxHeartbeats 4000000 in
theorem run_eqEn (a b : En) (w : World) : (binOp .eql 72 (.agg a.cells) (.agg b.cells)).run Try.prog w = .ok (.bool (eqE a b)) w := by
  obtain ⟨k1, ⟨ax, ay, az⟩⟩ := a
  obtain ⟨k2, ⟨bx, b_y, bz⟩⟩ := b
  have u3 := Try.underlying9
  have a3 := Try.isAgg9
  have z3 := Try.sizeOf9
  obtain ⟨x, hx⟩ : ∃ x, x = eqSt ⟨ax, ay, az⟩ ⟨bx, b_y, bz⟩ := ⟨_, rfl⟩
  have eS := run_eqStIn ax ay az bx b_y bz
  rw [← hx] at eS
  have hXY : Hid (eqE ⟨k1, ⟨ax, ay, az⟩⟩ ⟨k2, ⟨bx, b_y, bz⟩⟩ = (k1.toList == k2.toList && x)) := Lib.hid (by rw [hx]; rfl)
  clear hx
  rw [hXY.out]
  have hS : Try.prog.underlying 72 = some (.struct (Try.prog.fieldsOf 72)) := by kernel_rfl
  have hp : Try.prog.stoodInHeld 72 = false := by kernel_rfl
  unfold En.cells
  dsimp only
  rw [run_eql_struct, show (10000 : Nat) = 9999 + 1 from rfl, run_equalIn_agg w 9999 72 _ _ hS hp]
  simp only [Program.fieldsOf, Try.underlying72]
  go_simp
  by_cases h : k1.toList = k2.toList <;> cases x <;> simp [h]
set_option maxRecDepth 100000 in
set_option maxHeartbeats 4000000 in
theorem run_neqEn (a b : En) (w : World) : (binOp .neq 72 (.agg a.cells) (.agg b.cells)).run Try.prog w = .ok (.bool (!eqE a b)) w := by
  obtain ⟨k1, ⟨ax, ay, az⟩⟩ := a
  obtain ⟨k2, ⟨bx, b_y, bz⟩⟩ := b
  have u3 := Try.underlying9
  have a3 := Try.isAgg9
  have z3 := Try.sizeOf9
  obtain ⟨x, hx⟩ : ∃ x, x = eqSt ⟨ax, ay, az⟩ ⟨bx, b_y, bz⟩ := ⟨_, rfl⟩
  have eS := run_eqStIn ax ay az bx b_y bz
  rw [← hx] at eS
  have hXY : Hid (eqE ⟨k1, ⟨ax, ay, az⟩⟩ ⟨k2, ⟨bx, b_y, bz⟩⟩ = (k1.toList == k2.toList && x)) := Lib.hid (by rw [hx]; rfl)
  clear hx
  rw [hXY.out]
  have hS : Try.prog.underlying 72 = some (.struct (Try.prog.fieldsOf 72)) := by kernel_rfl
  have hp : Try.prog.stoodInHeld 72 = false := by kernel_rfl
  unfold En.cells
  dsimp only
  rw [run_neq_struct, show (10000 : Nat) = 9999 + 1 from rfl, run_equalIn_agg w 9999 72 _ _ hS hp]
  simp only [Program.fieldsOf, Try.underlying72]
  go_simp
  by_cases h : k1.toList = k2.toList <;> cases x <;> simp [h]
def flatE (L : List En) : List Value := L.flatMap fun x => [.string x.key, .int .i64 x.st.x, .int .i64 x.st.y, .int .i64 x.st.z]
theorem flatE_len (L : List En) : (flatE L).length = L.length * 4 := by
  induction L with
  | nil => rfl
  | cons s L ih => simp only [flatE, List.flatMap_cons, List.length_append, List.length_cons] at *; rw [ih]; simp; omega
theorem flatE_app (L M : List En) : flatE (L ++ M) = flatE L ++ flatE M := by simp [flatE]
theorem flatE_at (L : List En) : ∀ (j : Nat) (h : j < L.length), (flatE L)[j * 4]? = some (.string L[j].key) ∧ (flatE L)[j * 4 + 1]? = some (.int .i64 L[j].st.x) ∧ (flatE L)[j * 4 + 2]? = some (.int .i64 L[j].st.y) ∧ (flatE L)[j * 4 + 3]? = some (.int .i64 L[j].st.z) := by
  induction L with
  | nil => intro j h; simp at h
  | cons s L ih =>
    intro j h
    have e : flatE (s :: L) = .string s.key :: .int .i64 s.st.x :: .int .i64 s.st.y :: .int .i64 s.st.z :: flatE L := by simp [flatE]
    rw [e]
    cases j with
    | zero => exact ⟨rfl, rfl, rfl, rfl⟩
    | succ j =>
      have := ih j (by simpa using h)
      rw [show (j + 1) * 4 = j * 4 + 1 + 1 + 1 + 1 from by omega]
      simp only [List.getElem?_cons_succ, List.getElem_cons_succ]
      exact this
theorem flatE_one (L : List En) : ∀ u ∈ flatE L, u.oneCell' = true := by
  intro u hu
  simp only [flatE, List.mem_flatMap] at hu
  obtain ⟨x, _, hx⟩ := hu
  simp at hx
  rcases hx with rfl | rfl | rfl | rfl <;> rfl
/-- The cells of an entry. -/
def EC (w : World) (b o : Nat) (e : En) : Prop := w.cell? ⟨b, o, none⟩ = some (.string e.key) ∧ w.cell? ⟨b, o + 1, none⟩ = some (.int .i64 e.st.x) ∧ w.cell? ⟨b, o + 2, none⟩ = some (.int .i64 e.st.y) ∧ w.cell? ⟨b, o + 3, none⟩ = some (.int .i64 e.st.z)
/-- A slice that reads as entries. -/
def EI (w : World) (v : Value) (L : List En) : Prop :=
  ∃ a cap, v = .slice a L.length cap ∧ L.length ≤ cap ∧ (a = none → cap = 0) ∧ (L ≠ [] → ∃ b off, a = some ⟨b, off, none⟩ ∧ ∀ i (h : i < L.length), EC w b (off + i * 4) L[i])
theorem cell_nx {w w' : World} {p : Addr} {v : Value} (hb : Below w.heap.size w w') (h : w.cell? p = some v) : w'.cell? p = some v := by
  rw [hb.cell (World.block_lt_of_cell? _ _ h)]
  exact h
theorem EC.next {w w' : World} {b o : Nat} {e : En} (h : EC w b o e) (hb : Below w.heap.size w w') : EC w' b o e := ⟨cell_nx hb h.1, cell_nx hb h.2.1, cell_nx hb h.2.2.1, cell_nx hb h.2.2.2⟩
theorem EI.next {w w' : World} {v : Value} {L : List En} (h : EI w v L) (hb : Below w.heap.size w w') : EI w' v L := by
  obtain ⟨a, cap, hv, hcap, hn, hr⟩ := h
  refine ⟨a, cap, hv, hcap, hn, fun h0 => ?_⟩
  obtain ⟨b, off, ha, hc⟩ := hr h0
  exact ⟨b, off, ha, fun i hi => (hc i hi).next hb⟩
theorem EI.form {w : World} {v : Value} {L : List En} (h : EI w v L) : ∃ a cap, v = .slice a L.length cap := by
  obtain ⟨a, cap, hv, _⟩ := h
  exact ⟨a, cap, hv⟩
theorem EI.at_ {w : World} {L : List En} {a : Option Addr} {c : Nat} (h : EI w (.slice a L.length c) L) (i : Nat) (hi : i < L.length) : ∃ b off, a = some ⟨b, off, none⟩ ∧ EC w b (off + i * 4) L[i] := by
  obtain ⟨a', cap', hv, _, _, hc⟩ := h
  obtain ⟨b, off, ha, hcell⟩ := hc (fun e => by rw [e] at hi; simp at hi)
  cases hv
  exact ⟨b, off, ha, hcell i hi⟩
/-- Entries in a row of the call's own. -/
def EO (w : World) (B : Nat) (v : Value) (L : List En) : Prop := w.ownsRow B 72 4 v L.length (flatE L)
theorem EO.next {w w' : World} {B : Nat} {v : Value} {L : List En} (h : EO w B v L) (hb : Below w.heap.size w w') : EO w' B v L := own_next h hb
theorem EO.nil (w : World) (B : Nat) : EO w B (.slice none 0 0) [] := ⟨rfl, .inl ⟨rfl, rfl⟩⟩
theorem EO.in_ {w : World} {B : Nat} {v : Value} {L : List En} (h : EO w B v L) : EI w v L := by
  rcases h.2 with ⟨hv, h0⟩ | ⟨g, cap, cur, hv, hB, hg, hc, hm, hs, ht⟩
  · have hl : L = [] := List.eq_nil_of_length_eq_zero h0
    subst hl
    exact ⟨none, 0, hv, Nat.le_refl _, fun _ => rfl, fun h => absurd rfl h⟩
  · refine ⟨_, cap, hv, by omega, fun h => (by cases h), fun _ => ⟨g, 0, rfl, fun i hi => ?_⟩⟩
    subst hv
    obtain ⟨f0, f1, f2, f3⟩ := flatE_at L i hi
    have r0 := World.ownsRow.cellAt h (i * 4) (by omega)
    have r1 := World.ownsRow.cellAt h (i * 4 + 1) (by omega)
    have r2 := World.ownsRow.cellAt h (i * 4 + 2) (by omega)
    have r3 := World.ownsRow.cellAt h (i * 4 + 3) (by omega)
    unfold EC
    rw [Nat.zero_add, r0, r1, r2, r3]
    exact ⟨f0, f1, f2, f3⟩
theorem EO.form {w : World} {B : Nat} {v : Value} {L : List En} (h : EO w B v L) : ∃ a cap, v = .slice a L.length cap := h.in_.form
theorem e_info : (Try.prog.info? 72).map (fun i => (i.zero, i.size, i.bytes)) = some (some (.agg #[.string ⟨#[]⟩, .int .i64 0, .int .i64 0, .int .i64 0]), 4, 40) := by kernel_rfl
theorem addE (b off j : Nat) : (⟨b, off, none⟩ : Addr).add j = ⟨b, off + j, none⟩ := by unfold Addr.add; split <;> simp_all
/-- The cells of a row of entries, one by one. -/
theorem EI.flat {w : World} {L : List En} {b off : Nat} (h : ∀ i (h : i < L.length), EC w b (off + i * 4) L[i]) : ∀ j u, (flatE L)[j]? = some u → w.cell? ((⟨b, off, none⟩ : Addr).add j) = some u := by
  intro j u hu
  have hj : j < L.length * 4 := by have := (List.getElem?_eq_some_iff.1 hu).1; rwa [flatE_len] at this
  have hi4 : j / 4 < L.length := by omega
  obtain ⟨f0, f1, f2, f3⟩ := flatE_at L (j / 4) hi4
  obtain ⟨g0, g1, g2, g3⟩ := h (j / 4) hi4
  rw [addE]
  rcases (show j = j / 4 * 4 ∨ j = j / 4 * 4 + 1 ∨ j = j / 4 * 4 + 2 ∨ j = j / 4 * 4 + 3 from by omega) with e | e | e | e
  · rw [← e] at f0 g0; rw [f0] at hu; cases hu; exact g0
  · rw [← e] at f1; rw [Nat.add_assoc, ← e] at g1; rw [f1] at hu; cases hu; exact g1
  · rw [← e] at f2; rw [Nat.add_assoc, ← e] at g2; rw [f2] at hu; cases hu; exact g2
  · rw [← e] at f3; rw [Nat.add_assoc, ← e] at g3; rw [f3] at hu; cases hu; exact g3
/-- One entry is appended to a row of the call's own. -/
theorem wpList_appE {X : World} {ops : Array Oper} {rest : List Oper} {o : Oper} {a : Act} {Q : Exit → Act → World → Prop} (hgd : o.guard = none) (s x : Operand)
    (ho : o.op = .call { callee := .builtin .append, args := #[s, x], argTypes := #[67, 67] })
    (base : Nat) (v : Value) (L : List En) (p : En) (hs : a.eval s = v) (hx : a.eval x = .slice (some ⟨X.heap.size, 0, none⟩) 1 1) (hown : EO X base v L) (hm : L.length ≤ 100000) (hbase : base ≤ X.heap.size)
    (h : ∀ v' w', EO w' base v' (L ++ [p]) → X.grownBy w' v.ownBlock → wpList Try.prog ops Q rest (a.put o.dst v') w') : wpList Try.prog ops Q (o :: rest) a (X.alloc (.cells #[.string p.key, .int .i64 p.st.x, .int .i64 p.st.y, .int .i64 p.st.z] 72)) := by
  obtain ⟨i0, hi, hz0, hz1, hz2⟩ := info_parts e_info
  refine wpList_append_own _ hgd s x 67 ho base 72 i0 _ 4 40 Try.underlying67 hi hz0 hz1 hz2 rfl (by decide) v L.length (flatE L) hs (hown.alloc _) ⟨X.heap.size, 0, none⟩ 1 1 [.string p.key, .int .i64 p.st.x, .int .i64 p.st.y, .int .i64 p.st.z] hx rfl ?_ ?_ ?_ ?_ (by rw [World.size_alloc]; omega) ?_
  · exact World.news_of_block (cs := #[.string p.key, .int .i64 p.st.x, .int .i64 p.st.y, .int .i64 p.st.z]) (t := 72) (fr := (0, 0)) (heap_alloc_new _ _)
  · simp [Value.oneCell']
  · simp only [maxLen]; omega
  · omega
  · intro v' w' ho' hg' _
    refine h v' w' ?_ (gb_trans (gb_alloc _ _ _) hg')
    unfold EO
    rw [List.length_append, flatE_app]
    exact ho'
end Go.Proofs.Ytkkhljneeajkmaa
