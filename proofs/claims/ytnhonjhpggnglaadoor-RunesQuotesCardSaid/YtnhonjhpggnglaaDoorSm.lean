/- Layer 1 (runes): two rows of texts that are the same. -/
import Derived.Test.YtnhonjhpggnglaaDoorLb
namespace Go.Proofs.YtnhonjhpggnglaaDoor
open Go.RowKit

/-- A slice that reads as a row of texts. -/
def Rd (w : World) (v : Value) (xs : List (List UInt8)) : Prop :=
  ∃ A c, v = .slice A xs.length c ∧ (xs ≠ [] → ∃ b, A = some ⟨b, 0, none⟩ ∧ ∀ i x, xs[i]? = some x → w.cell? ⟨b, i, none⟩ = some (.string (mkB x)))
theorem Rd.of_own {w : World} {B : Nat} {v : Value} {xs : List (List UInt8)} (h : w.ownsRow B 9 1 v xs.length (vals xs)) : Rd w v xs := by
  rcases Nat.eq_zero_or_pos xs.length with h0 | h0
  · have hx : xs = [] := List.eq_nil_of_length_eq_zero h0
    rcases h.2 with ⟨rfl, _⟩ | ⟨g, cap, cur, rfl, _⟩
    · exact ⟨none, 0, by rw [hx]; rfl, fun hn => absurd hx hn⟩
    · exact ⟨_, cap, rfl, fun hn => absurd hx hn⟩
  · obtain ⟨g, cap, rfl, _, _⟩ := h.form h0
    refine ⟨_, cap, rfl, fun _ => ⟨g, rfl, fun i x hx => ?_⟩⟩
    have hi : i < xs.length := (List.getElem?_eq_some_iff.1 hx).1
    rw [h.cellAt i (by omega)]
    simp [vals, hx]
theorem Rd.next {w w' : World} {v : Value} {xs : List (List UInt8)} (h : Rd w v xs) (hb : Below w.heap.size w w') : Rd w' v xs := by
  obtain ⟨A, c, hv, hr⟩ := h
  refine ⟨A, c, hv, fun hn => ?_⟩
  obtain ⟨b, hA, hc⟩ := hr hn
  refine ⟨b, hA, fun i x hx => ?_⟩
  have h1 := hc i x hx
  rw [hb.cell (World.block_lt_of_cell? w _ h1)]
  exact h1

set_option maxHeartbeats 1000000 in
theorem same_yes (v1 v2 : Value) (xs : List (List UInt8)) (hn : xs.length ≤ 1000000) (w : World) (h1 : Rd w v1 xs) (h2 : Rd w v2 xs) :
    Calls Tryd.prog 23 #[v1, v2] w fun e w' => e = .returned (.bool true) ∧ Below w.heap.size w w' := by
  obtain ⟨A, c, rfl, r1⟩ := h1
  obtain ⟨B, d, rfl, r2⟩ := h2
  have hb : ((xs.length : Int) != (xs.length : Int)) = false := by simp
  go_enter Tryd.func23, Tryd.ntmps23
  go_wp2_with fail
  go_loopw [5] (fun i wr => ∃ k m : Nat, i = .int .i64 k ∧ k ≤ xs.length ∧ wr = w.drewN m) (fun i _ => xs.length - (intOf i).toNat)
  case atStart => exact ⟨0, 0, rfl, by omega, rfl⟩
  case round =>
    obtain ⟨k, m, rfl, hk, rfl⟩ := hrel
    by_cases hlt : k < xs.length
    · have hne : xs ≠ [] := fun e => by rw [e] at hlt; simp at hlt
      obtain ⟨b1, rfl, c1⟩ := r1 hne
      obtain ⟨b2, rfl, c2⟩ := r2 hne
      have hx : xs[k]? = some xs[k] := List.getElem?_eq_getElem hlt
      have e1 := c1 k _ hx
      have e2 := c2 k _ hx
      generalize mkB xs[k] = x at e1 e2
      clear r1 r2 c1 c2 hne hx
      generalize xs.length = n at *
      have hi : (k : Int) < (n : Int) := by omega
      go_wp2_with fail
      go_quiet (fail)
      go_wp2_with fail
      go_roundw
      case rel => exact ⟨k + 1, m + nq, by go_num, by omega, rfl⟩
      case measure => simp [intOf]; omega
    · go_wp2_with fail
      go_ret
      exact ⟨rfl, below_drewN (Below.refl _ _) _⟩
end Go.Proofs.YtnhonjhpggnglaaDoor
