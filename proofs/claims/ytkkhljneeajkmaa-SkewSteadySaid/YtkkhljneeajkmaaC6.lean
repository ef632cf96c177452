/- Layer 41 (skew): steps in memory; Steady. -/
import Derived.Test.YtkkhljneeajkmaaC5
namespace Go.Proofs.Ytkkhljneeajkmaa
open Go.RowKit

/-- A step of a script. -/
structure Sp where
  kind : Int
  n : Int
  ticks : Int
  table : Int
  level : Int
  key : ByteArray
  fin : ByteArray
  val : ByteArray
  ctx : Int
/-- A slice that reads as steps. -/
def SpI (w : World) (v : Value) (S : List Sp) : Prop :=
  ∃ a cap, v = .slice a S.length cap ∧ (S ≠ [] → ∃ b off, a = some ⟨b, off, none⟩ ∧ ∀ i (h : i < S.length), w.cell? ⟨b, off + i * 9, none⟩ = some (.int .i64 S[i].kind) ∧ w.cell? ⟨b, off + i * 9 + 1, none⟩ = some (.int .i64 S[i].n) ∧ w.cell? ⟨b, off + i * 9 + 2, none⟩ = some (.int .i64 S[i].ticks) ∧
    w.cell? ⟨b, off + i * 9 + 3, none⟩ = some (.int .i64 S[i].table) ∧ w.cell? ⟨b, off + i * 9 + 4, none⟩ = some (.int .i64 S[i].level) ∧ w.cell? ⟨b, off + i * 9 + 5, none⟩ = some (.string S[i].key) ∧ w.cell? ⟨b, off + i * 9 + 6, none⟩ = some (.string S[i].fin) ∧ w.cell? ⟨b, off + i * 9 + 7, none⟩ = some (.string S[i].val) ∧ w.cell? ⟨b, off + i * 9 + 8, none⟩ = some (.int .i64 S[i].ctx))
theorem cell_nx {w w' : World} {p : Addr} {v : Value} (hb : Below w.heap.size w w') (h : w.cell? p = some v) : w'.cell? p = some v := by
  rw [hb.cell (World.block_lt_of_cell? _ _ h)]
  exact h
theorem SpI.next {w w' : World} {v : Value} {S : List Sp} (h : SpI w v S) (hb : Below w.heap.size w w') : SpI w' v S := by
  obtain ⟨a, cap, hv, hr⟩ := h
  refine ⟨a, cap, hv, fun h0 => ?_⟩
  obtain ⟨b, off, ha, hc⟩ := hr h0
  refine ⟨b, off, ha, fun i hi => ?_⟩
  obtain ⟨x0, x1, x2, x3, x4, x5, x6, x7, x8⟩ := hc i hi
  exact ⟨cell_nx hb x0, cell_nx hb x1, cell_nx hb x2, cell_nx hb x3, cell_nx hb x4, cell_nx hb x5, cell_nx hb x6, cell_nx hb x7, cell_nx hb x8⟩
theorem SpI.form {w : World} {v : Value} {S : List Sp} (h : SpI w v S) : ∃ a cap, v = .slice a S.length cap := by
  obtain ⟨a, cap, hv, _⟩ := h
  exact ⟨a, cap, hv⟩
/-- What a step says of a clock. -/
def tk1 (n : Nat) (s : Sp) : List (Int × Int) := if s.kind = 10 then [(s.n % n, min (max s.ticks 0) 64)] else []
def tks (n : Nat) (S : List Sp) : List (Int × Int) := S.flatMap (tk1 n)
theorem tks_snoc (n : Nat) (S : List Sp) (k : Nat) (h : k < S.length) : tks n (S.take (k + 1)) = tks n (S.take k) ++ tk1 n S[k] := by
  unfold tks
  rw [List.take_succ_eq_append_getElem h, List.flatMap_append]
  simp only [List.flatMap_cons, List.flatMap_nil, List.append_nil]
theorem tks_len (n : Nat) (S : List Sp) : (tks n S).length ≤ S.length := by
  induction S with
  | nil => exact Nat.le_refl _
  | cons s S ih =>
    show ((tk1 n s) ++ tks n S).length ≤ _
    rw [List.length_append]
    have : (tk1 n s).length ≤ 1 := by unfold tk1; split <;> simp
    simp only [List.length_cons]
    omega
theorem tks_ok (n : Nat) (hn : 1 ≤ n) (hn5 : n ≤ 5) (S : List Sp) : TOk (tks n S) := by
  intro x hx
  unfold tks at hx
  obtain ⟨s, _, hs⟩ := List.mem_flatMap.1 hx
  unfold tk1 at hs
  split at hs
  · simp only [List.mem_singleton] at hs
    subst hs
    have h1 := Int.emod_nonneg s.n (b := (n : Int)) (by omega)
    have h2 := Int.emod_lt_of_pos s.n (b := (n : Int)) (by omega)
    dsimp only
    omega
  · simp at hs
theorem RT.of_snoc (l : List (Int × Int)) (x : Int × Int) : RT.of (l ++ [x]) = RT.go x.1.toNat x.2 5 (RT.of l) := by unfold RT.of; simp
theorem RT.Ok.mono {R : RT} {N M : Int} (h : R.Ok N) (hm : N ≤ M) : R.Ok M :=
  ⟨fun x => ⟨(h.gone x).1, Int.le_trans (h.gone x).2 hm⟩, fun x y => ⟨(h.now x y).1, Int.le_trans (h.now x y).2 hm⟩, fun x y => ⟨(h.most x y).1, Int.le_trans (h.most x y).2 hm⟩⟩
theorem RT.of_ok (l : List (Int × Int)) (hl : TOk l) : (RT.of l).Ok (64 * l.length) := by
  suffices ∀ (l : List (Int × Int)) (R : RT) (N : Int), TOk l → R.Ok N → (l.foldl (fun R x => RT.go x.1.toNat x.2 5 R) R).Ok (N + 64 * l.length) by
    have := this l RT.zero 0 hl RT.zero_ok
    rw [Int.zero_add] at this
    exact this
  intro l
  induction l with
  | nil => intro R N _ h; simpa using h
  | cons x l ih =>
    intro R N hl h
    rw [List.foldl_cons]
    have := ih _ _ (fun y hy => hl y (List.mem_cons_of_mem _ hy)) (h.go x.1.toNat x.2 5 (hl x (List.mem_cons_self ..)).2)
    rw [List.length_cons, show N + 64 * ((l.length + 1 : Nat) : Int) = N + 64 + 64 * (l.length : Int) from by omega]
    exact this
theorem node_eq (N : Int) (n : Nat) (h1 : 1 ≤ n) (h5 : n ≤ 5) : (N.tmod n + n).tmod n = N % n ∧ -5 < N.tmod n ∧ N.tmod n < 5 ∧ (if N.tmod n < 0 then N.tmod n + n else N.tmod n) = N % n := by
  have hneg : N.tmod n = if 0 ≤ N then N % n else -((-N) % n) := by
    by_cases h : 0 ≤ N
    · rw [if_pos h, Int.tmod_eq_emod_of_nonneg h]
    · rw [if_neg h]
      have := Int.neg_tmod (-N) (n : Int)
      rw [Int.neg_neg] at this
      rw [this, Int.tmod_eq_emod_of_nonneg (by omega)]
  have hb : -5 < N.tmod n ∧ N.tmod n < 5 ∧ 0 ≤ N.tmod n + n := by
    rw [hneg]
    have k1 := Int.emod_nonneg N (b := (n : Int)) (by omega)
    have k2 := Int.emod_lt_of_pos N (b := (n : Int)) (by omega)
    have k3 := Int.emod_nonneg (-N) (b := (n : Int)) (by omega)
    have k4 := Int.emod_lt_of_pos (-N) (b := (n : Int)) (by omega)
    split <;> omega
  rw [Int.tmod_eq_emod_of_nonneg hb.2.2]
  refine ⟨?_, hb.1, hb.2.1, ?_⟩
  · rw [hneg]
    rcases (show n = 1 ∨ n = 2 ∨ n = 3 ∨ n = 4 ∨ n = 5 from by omega) with rfl | rfl | rfl | rfl | rfl <;> split <;> omega
  · rw [hneg]
    rcases (show n = 1 ∨ n = 2 ∨ n = 3 ∨ n = 4 ∨ n = 5 from by omega) with rfl | rfl | rfl | rfl | rfl <;> split <;> split <;> omega
end Go.Proofs.Ytkkhljneeajkmaa
