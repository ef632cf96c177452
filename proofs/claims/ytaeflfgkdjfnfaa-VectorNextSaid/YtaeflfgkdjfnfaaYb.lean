/- Layer 5 (vector): rows of dots in memory; the sort of a row of dots, by the library's contract (laid by wip/tools/sortlay.sh SEAT <number of slices.SortFunc at dots> St). -/
import Derived.Test.YtaeflfgkdjfnfaaYa
import Derived.Test.YtaeflfgkdjfnfaaSt
import Derived.Laws.OwnMore
import Derived.Laws.AppendOwn
import Derived.OwnWalk
import Derived.Deep.AppendLies
namespace Go.Proofs.Ytaeflfgkdjfnfaa
open Go.RowKit

def flatD (L : List (Int × Int)) : List Value := L.flatMap fun x => [.int .i64 x.1, .int .i64 x.2]
theorem flatD_len (L : List (Int × Int)) : (flatD L).length = L.length * 2 := by
  induction L with
  | nil => rfl
  | cons s L ih => simp only [flatD, List.flatMap_cons, List.length_append, List.length_cons] at *; rw [ih]; simp; omega
theorem flatD_snoc (L : List (Int × Int)) (x : Int × Int) : flatD (L ++ [x]) = flatD L ++ [.int .i64 x.1, .int .i64 x.2] := by simp [flatD]
theorem flatD_at (L : List (Int × Int)) : ∀ (j : Nat) (h : j < L.length), (flatD L)[j * 2]? = some (.int .i64 L[j].1) ∧ (flatD L)[j * 2 + 1]? = some (.int .i64 L[j].2) := by
  induction L with
  | nil => intro j h; simp at h
  | cons s L ih =>
    intro j h
    have e : flatD (s :: L) = .int .i64 s.1 :: .int .i64 s.2 :: flatD L := by simp [flatD]
    rw [e]
    cases j with
    | zero => exact ⟨rfl, rfl⟩
    | succ j =>
      have := ih j (by simpa using h)
      rw [show (j + 1) * 2 = j * 2 + 1 + 1 from by omega]
      simp only [List.getElem?_cons_succ, List.getElem_cons_succ]
      exact this
/-- Dots in a row of the call's own. -/
def DO (w : World) (B : Nat) (v : Value) (L : List (Int × Int)) : Prop := w.ownsRow B 123 2 v L.length (flatD L)
theorem DO.next {w w' : World} {B : Nat} {v : Value} {L : List (Int × Int)} (h : DO w B v L) (hb : Below w.heap.size w w') : DO w' B v L := own_next h hb
def encD (x : Int × Int) : List Value := [.int .i64 x.1, .int .i64 x.2]
theorem flatK_at (L : List (Int × Int)) (t : Nat) (h : t < L.length * 2) : (flatD L)[t]? = some ((Go.Sort.flatK encD 2 L.toArray)[t]!) := by
  rw [Go.Sort.get_flatK encD 2 L.toArray t (by simpa using h)]
  have hj : t / 2 < L.length := by omega
  obtain ⟨f0, f1⟩ := flatD_at L (t / 2) hj
  have hL : L.toArray[t / 2]! = L[t / 2] := by simp [hj]
  rw [hL]
  rcases (show t % 2 = 0 ∨ t % 2 = 1 from by omega) with h2 | h2
  · rw [show t / 2 * 2 = t from by omega] at f0
    rw [h2]
    exact f0
  · rw [show t / 2 * 2 + 1 = t from by omega] at f1
    rw [h2]
    exact f1
theorem DO.holds {w : World} {B g cap : Nat} {L : List (Int × Int)} (h : DO w B (.slice (some ⟨g, 0, none⟩) L.length cap) L) : Go.Sort.HoldsK encD 2 w g 0 L.toArray := by
  intro t ht
  have ht2 : t < L.length * 2 := by simpa using ht
  refine ⟨?_, ?_⟩
  · rw [Nat.zero_add, World.ownsRow.cellAt h t ht2, flatK_at L t ht2]
    rfl
  · rw [Nat.zero_add]; exact World.ownsRow.frozenAt h t
/-- Behind the sort the row holds what was sorted. -/
theorem DO.sorted {w : World} {B g cap n : Nat} {os : Array Obj} {L T : List (Int × Int)} (h : DO w B (.slice (some ⟨g, 0, none⟩) L.length cap) L) (hl : T.length = L.length) :
    DO (sortWorldK encD 2 w g 0 n T.toArray os) B (.slice (some ⟨g, 0, none⟩) L.length cap) T ∧ w.grownBy (sortWorldK encD 2 w g 0 n T.toArray os) (some g) := by
  rcases h.2 with ⟨hv, _⟩ | ⟨g', cap', cur, hv, hbase, hb, h1, h2, h3, h4⟩
  · cases hv
  · cases hv
    have hg : g < w.heap.size := (Array.getElem?_eq_some_iff.1 hb).1
    have hheap : (sortWorldK encD 2 w g 0 n T.toArray os).heap[g]? = some (.cells (Go.Sort.putCells id 0 (Go.Sort.flatK encD 2 T.toArray) cur) 123 (0, 0)) := by
      unfold sortWorldK Go.Sort.putRowK
      rw [Go.Sort.heap_grow_old _ _ (by simpa using hg)]
      simp [Go.Sort.putRow, Go.Sort.mapBlock, Go.Sort.ahead, Array.getElem?_modify, hb, Go.Sort.onCells]
    refine ⟨⟨flatD_len T, .inr ⟨g, cap, _, by rw [hl], hbase, hheap, by omega, h2, by simp [Go.Sort.putCells, h3], ?_⟩⟩, ⟨rfl, rfl, rfl, by simp [sortWorldK, Go.Sort.putRowK, Go.Sort.putRow, Go.Sort.mapBlock, Go.Sort.ahead, Go.Sort.grow], fun k hk hne => ?_⟩⟩
    · apply List.ext_getElem?
      intro j
      by_cases hj : j < T.length * 2
      · rw [List.getElem?_take_of_lt hj, Array.getElem?_toList, flatK_at T j hj]
        have hcs : j < cur.size := by omega
        simp [Go.Sort.putCells, hcs]
        omega
      · rw [List.getElem?_take_eq_none (by omega), List.getElem?_eq_none (by rw [flatD_len]; omega)]
    · unfold sortWorldK Go.Sort.putRowK
      rw [Go.Sort.heap_grow_old _ _ (by simpa using hk)]
      have : g ≠ k := fun e => hne (by rw [e])
      simp [Go.Sort.putRow, Go.Sort.mapBlock, Go.Sort.ahead, Array.getElem?_modify, this]
theorem retv {a b : Int} (h : a = b) : Ending.returned (.int .i64 a) = .returned (.int .i64 b) := by rw [h]
def cmpZ (x y : Int) : Int := if x < y then -1 else if y < x then 1 else 0
theorem nanz_any (x : Int) (w : World) : Calls Try.prog 166 #[.int .i64 x] w fun e w' => e = .returned (.bool false) ∧ w = w' := by
  have hx : (x != x) = false := by simp
  go_enter Try.func166, Try.ntmps166
  go_wp2_with fail
  go_ret
  exact ⟨rfl, rfl⟩
theorem cmpz_any (x y : Int) (w : World) : Calls Try.prog 124 #[.int .i64 x, .int .i64 y] w fun e w' => e = .returned (.int .i64 (cmpZ x y)) ∧ w = w' := by
  have h : x < y ∨ (¬ x < y ∧ y < x) ∨ (¬ x < y ∧ ¬ y < x) := by omega
  rcases h with h | ⟨h, h2⟩ | ⟨h, h2⟩
  all_goals
    go_enter Try.func124, Try.ntmps124
    go_wp2_with fail
    refine (nanz_any _ _).mono ?_; rintro e w' ⟨rfl, rfl⟩
    go_wp2_with fail
    refine (nanz_any _ _).mono ?_; rintro e w' ⟨rfl, rfl⟩
    go_wp2_with fail
    go_ret
    exact ⟨retv (by unfold cmpZ; repeat' split
                    all_goals omega), rfl⟩
set_option maxHeartbeats 1000000 in
theorem byWho_any (x y : Int × Int) (W : World) : Calls Try.prog 198 #[.agg #[.int .i64 x.1, .int .i64 x.2], .agg #[.int .i64 y.1, .int .i64 y.2]] W fun e w' => e = .returned (.int .i64 (cmpZ x.1 y.1)) ∧ ∃ q os', w' = Go.Sort.grow (W.drewN q) os' := by
  have hcon := fun W' => cmpz_any x.1 y.1 W'
  generalize cmpZ x.1 y.1 = r at hcon ⊢
  go_enter Try.func198, Try.ntmps198
  go_wp2_with fail
  refine (hcon _).mono ?_; rintro e w' ⟨rfl, rfl⟩
  go_wp2_with fail
  go_ret
  exact ⟨rfl, 0, _, by rw [Go.Sort.alloc_eq_grow, Go.Sort.alloc_eq_grow, Go.Sort.grow_grow]; rfl⟩
end Go.Proofs.Ytaeflfgkdjfnfaa
