/- Layer 38 (glob): slices.Index; a class. -/
import Derived.Test.YtfnjmboflegaaaaDoorGb
import Derived.RegionTactic
import Derived.BigRegion
namespace Go.Proofs.YtfnjmboflegaaaaDoor
open Go.RowKit

def idxI (l : List Int) : Int := match idxB l with | none => -1 | some n => (n : Int)
theorem idx_drop (l : List Int) (k : Nat) (h : k < l.length) : idxB (l.drop k) = if l[k] = 93 then some 0 else (idxB (l.drop (k + 1))).map (· + 1) := by
  rw [List.drop_eq_getElem_cons h]; rfl
theorem idx_end (l : List Int) (k : Nat) (h : l.length ≤ k) : idxB (l.drop k) = none := by
  rw [List.drop_of_length_le h]; rfl
set_option maxHeartbeats 1000000 in
theorem index_any (v : Value) (l : List Int) (hl : l.length ≤ 1000) (w : World) (h : RS w v l) :
    Calls Tryd.prog 25 #[v, .int .i32 93] w fun e w' => e = .returned (.int .i64 (idxI l)) ∧ w = w' := by
  obtain ⟨a, cap, rfl, hle, hn, hc⟩ := h
  have HC := Hid.mk' hc
  clear hc hn
  go_enter Tryd.func25, Tryd.ntmps25
  go_wp2_with fail
  go_loop [8] (fun iv => ∃ k : Nat, iv = .int .i64 k ∧ k ≤ l.length ∧ idxB l = (idxB (l.drop k)).map (· + k)) (fun iv => l.length - (intOf iv).toNat)
  case atStart => exact ⟨0, rfl, Nat.zero_le _, by simp⟩
  case round =>
    obtain ⟨k, rfl, hk, hx⟩ := hrel
    by_cases hlt : k < l.length
    · obtain ⟨b, off, rfl, hcell⟩ := HC.out (fun e => by rw [e] at hlt; simp at hlt)
      have hcp := hcell k hlt
      rw [idx_drop l k hlt] at hx
      generalize l[k] = z at *
      clear hcell
      have hi : (k : Int) < (l.length : Int) := by omega
      by_cases hz : z = 93
      · rw [if_pos hz] at hx
        have HR := Hid.mk' (show idxI l = (k : Int) by unfold idxI; rw [hx]; simp)
        have t1 : ((93 : Int) == z) = true := by simp [hz]
        clear hx hz
        go_wp2_with fail
        go_ret
        exact ⟨ret_int HR.out.symm, rfl⟩
      · rw [if_neg hz] at hx
        have HR := Hid.mk' (show idxB l = (idxB (l.drop (k + 1))).map (· + (k + 1)) by rw [hx]; cases idxB (l.drop (k + 1)) <;> simp; omega)
        have t1 : ((93 : Int) == z) = false := by simp; omega
        clear hx hz
        go_wp2_with fail
        go_round
        case rel => exact ⟨k + 1, by go_num, by omega, HR.out⟩
        case measure => simp [intOf]; omega
    · rw [idx_end l k (by omega)] at hx
      have HR := Hid.mk' (show idxI l = -1 by unfold idxI; rw [hx]; rfl)
      clear hx
      go_wp2_with fail
      go_ret
      exact ⟨ret_int HR.out.symm, rfl⟩

/-- What class answers. -/
def ClsPost (w : World) (l : List Int) (e : Ending) (w' : World) : Prop :=
  ∃ r nt sv b, e = .returned (.tuple #[.agg #[.bool r, .bool nt, sv], .bool b]) ∧ Below w.heap.size w w' ∧ ((clsS l = none ∧ b = false ∧ ∃ a n c, sv = .slice a n c) ∨ ∃ p, clsS l = some p ∧ b = true ∧ r = p.row ∧ nt = p.nt ∧ SpO w' sv p.sp)
theorem bx_apart {w : World} {g : Nat} {t e : TypeId} {cs : Array Value} {B sz n : Nat} {v : Value} {xs : List Value} (hb : Bx w g t cs) (h : w.ownsRow B e sz v n xs) (hne : e ≠ t) : v.ownBlock ≠ some g := by
  rcases h.2 with ⟨rfl, _⟩ | ⟨g', cap, cur, rfl, _, hg, _⟩
  · simp [Value.ownBlock]
  · intro e1
    simp [Value.ownBlock] at e1
    subst e1
    unfold Bx at hb
    rw [hb] at hg
    cases hg
    exact hne rfl
theorem spF_one (a : Int) (rest : List Int) (h : ¬ (2 < (a :: rest).length ∧ rest.head? = some 45)) : spF (a :: rest) = (spF rest).map ((a, a) :: ·) := by
  match rest with
  | [] => rfl
  | [b] => rfl
  | b :: c :: l =>
    rw [spF, if_neg (fun e => h ⟨by simp, by simp [e]⟩)]
theorem spF_span (a c : Int) (l : List Int) : spF (a :: 45 :: c :: l) = if c < a then none else (spF l).map ((a, c) :: ·) := by rw [spF, if_pos rfl]
theorem map_app {α : Type} (x : Option (List α)) (d : List α) (s : α) : (x.map (s :: ·)).map (d ++ ·) = x.map ((d ++ [s]) ++ ·) := by cases x <;> simp
end Go.Proofs.YtfnjmboflegaaaaDoor
