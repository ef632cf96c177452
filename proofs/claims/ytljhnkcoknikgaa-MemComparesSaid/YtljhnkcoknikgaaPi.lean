/- Rows of ints that are read, and that a call owns; slices.Equal, Index, Contains at ints. -/
import Derived.Test.YtljhnkcoknikgaaChecked
import Derived.Test.YtljhnkcoknikgaaProg
import Derived.Test.YtljhnkcoknikgaaKg
import Derived.Test.YtljhnkcoknikgaaRow
import Derived.WalkKit
import Derived.WalkSmall
import Derived.WalkSpells
import Derived.Outline
import Derived.Lib.Hide
import Derived.LoopTactic
import Derived.RegionTactic
import Derived.BigRegion
import Derived.Deep.QuietTactic
import Derived.BigQuiet
import Derived.ChangeAlike
import Derived.IntWalk
import Derived.Laws.AppendOwn
import Derived.Laws.OwnMore
import Derived.OwnWalk
import Derived.Lib.SliceRun
namespace Go.Proofs.Ytljhnkcoknikgaa
open Go.RowKit

/-- A slice that reads as ints. -/
def IN (w : World) (v : Value) (l : List Int) : Prop :=
  ∃ a cap, v = .slice a l.length cap ∧ (l ≠ [] → ∃ b off, a = some ⟨b, off, none⟩ ∧ ∀ i (h : i < l.length), w.cell? ⟨b, off + i, none⟩ = some (.int .i64 l[i]))
theorem IN.next {w w' : World} {v : Value} {l : List Int} (h : IN w v l) (hb : Below w.heap.size w w') : IN w' v l := by
  obtain ⟨a, cap, hv, hr⟩ := h
  refine ⟨a, cap, hv, fun h0 => ?_⟩
  obtain ⟨b, off, ha, hc⟩ := hr h0
  refine ⟨b, off, ha, fun i hi => ?_⟩
  have := hc i hi
  rw [hb.cell (World.block_lt_of_cell? _ _ this)]
  exact this
/-- The place of the first one that p tells, or -1. -/
def ixF (p : Int → Bool) (l : List Int) : Int := if l.any p then (l.findIdx p : Int) else -1
theorem ixF_hit {p : Int → Bool} {l : List Int} {k : Nat} (hk : k < l.length) (h : p l[k] = true) (hn : ∀ i (_ : i < k), p (l[i]'(by omega)) = false) : ixF p l = k := by
  unfold ixF
  rw [if_pos (List.any_eq_true.2 ⟨l[k], List.getElem_mem hk, h⟩)]
  congr 1
  rw [List.findIdx_eq hk]
  exact ⟨h, fun j hj => hn j hj⟩
theorem ixF_none {p : Int → Bool} {l : List Int} (hn : ∀ i (h : i < l.length), p l[i] = false) : ixF p l = -1 := by
  unfold ixF
  rw [if_neg]
  rw [List.any_eq_true]
  rintro ⟨x, hx, hp⟩
  obtain ⟨i, hi, rfl⟩ := List.mem_iff_getElem.1 hx
  rw [hn i hi] at hp
  cases hp
theorem ixF_ge (p : Int → Bool) (l : List Int) : decide (0 ≤ ixF p l) = l.any p := by
  unfold ixF
  cases h : l.any p <;> simp
theorem cret_i {a b : Int} (h : a = b) : Ending.returned (.int .i64 a) = .returned (.int .i64 b) := by rw [h]
theorem cret_b {a b : Bool} (h : a = b) : Ending.returned (.bool a) = .returned (.bool b) := by rw [h]

def iv (l : List Int) : List Value := l.map fun n => Value.int .i64 n
theorem iv_len (l : List Int) : (iv l).length = l.length := by simp [iv]
theorem iv_at (l : List Int) (i : Nat) (h : i < l.length) : (iv l)[i]? = some (.int .i64 l[i]) := by simp [iv, h]
theorem iv_snoc (l : List Int) (n : Int) : iv (l ++ [n]) = iv l ++ [.int .i64 n] := by simp [iv]
theorem iv_one (l : List Int) : ∀ u ∈ iv l, u.oneCell' = true := by
  intro u hu
  simp [iv] at hu
  obtain ⟨x, _, rfl⟩ := hu
  rfl
theorem i_info : (Try.prog.info? 3).map (fun i => (i.zero, i.size, i.bytes)) = some (some (.int .i64 0), 1, 8) := by kernel_rfl
theorem addi (b off j : Nat) : (⟨b, off, none⟩ : Addr).add j = ⟨b, off + j, none⟩ := by unfold Addr.add; split <;> simp_all
/-- A row of ints that the call owns. -/
def IO (w : World) (B : Nat) (v : Value) (l : List Int) : Prop := w.ownsRow B 3 1 v l.length (iv l)
theorem IO.next {w w' : World} {B : Nat} {v : Value} {l : List Int} (h : IO w B v l) (hb : Below w.heap.size w w') : IO w' B v l := own_next h hb
theorem IO.in_ {w : World} {B : Nat} {v : Value} {l : List Int} (h : IO w B v l) : IN w v l := by
  rcases h.2 with ⟨hv, h0⟩ | ⟨g, cap, cur, hv, hB, hg, hc, hm, hs, ht⟩
  · have hl : l = [] := List.eq_nil_of_length_eq_zero h0
    subst hl
    exact ⟨none, 0, hv, fun h => absurd rfl h⟩
  · refine ⟨_, cap, hv, fun _ => ⟨g, 0, rfl, fun i hi => ?_⟩⟩
    subst hv
    have := World.ownsRow.cellAt h i (by omega)
    rw [Nat.zero_add, this]
    exact iv_at l i hi
set_option maxHeartbeats 2000000 in
theorem iequal_yes (v1 v2 : Value) (l : List Int) (hn : l.length ≤ 1000000) (w : World) (h1 : IN w v1 l) (h2 : IN w v2 l) :
    Calls Try.prog 55 #[v1, v2] w fun e w' => e = .returned (.bool true) ∧ Below w.heap.size w w' := by
  obtain ⟨a1, p1, rfl, r1⟩ := h1
  obtain ⟨a2, p2, rfl, r2⟩ := h2
  have HC := Lib.hid (And.intro r1 r2)
  clear r1 r2
  have hb : ((l.length : Int) != (l.length : Int)) = false := by simp
  go_enter Try.func55, Try.ntmps55
  go_wp2_with fail
  go_loopw [13] (fun i wr => ∃ k m : Nat, i = .int .i64 k ∧ k ≤ l.length ∧ wr = w.drewN m) (fun i _ => l.length - (intOf i).toNat)
  case atStart => exact ⟨0, 0, rfl, by omega, rfl⟩
  case round =>
    obtain ⟨k, m, rfl, hk, rfl⟩ := hrel
    by_cases hlt : k < l.length
    · have hi1 : (k : Int) < (l.length : Int) := by omega
      obtain ⟨b1, o1, rfl, c1⟩ := HC.out.1 (fun e => by rw [e] at hlt; simp at hlt)
      obtain ⟨b2, o2, rfl, c2⟩ := HC.out.2 (fun e => by rw [e] at hlt; simp at hlt)
      have x1 := c1 k hlt
      have x2 := c2 k hlt
      clear c1 c2
      generalize l[k] = y at *
      have hy : (y != y) = false := by simp
      go_wp2_with fail
      go_quiet (fail)
      go_wp2_with fail
      go_roundw
      case rel => exact ⟨k + 1, m + nq, by go_num, by omega, by first | rfl | (rw [World.drewN_drewN])⟩
      case measure => simp [intOf]; omega
    · have hi1 : ¬ (k : Int) < (l.length : Int) := by omega
      go_wp2_with fail
      go_ret
      exact ⟨rfl, below_drewN (Below.refl _ _) _⟩
set_option maxHeartbeats 2000000 in
theorem icontains_any (v : Value) (l : List Int) (x : Int) (hn : l.length ≤ 1000000) (w : World) (h : IN w v l) :
    Calls Try.prog 97 #[v, .int .i64 x] w fun e w' => e = .returned (.bool (l.any (fun y => x == y))) ∧ Below w.heap.size w w' := by
  have CI : Calls Try.prog 137 #[v, .int .i64 x] w fun e w' => e = .returned (.int .i64 (ixF (fun y => x == y) l)) ∧ w' = w := by
    have H := Lib.hid h
    obtain ⟨a, cap, rfl, _⟩ := h
    go_enter Try.func137, Try.ntmps137
    go_wp2_with fail
    go_loopw [8] (fun i wr => ∃ k : Nat, i = .int .i64 k ∧ k ≤ l.length ∧ wr = w ∧ Hid (∀ i (_ : i < k) (hi : i < l.length), (x == l[i]) = false)) (fun i _ => l.length - (intOf i).toNat)
    case atStart => exact ⟨0, rfl, Nat.zero_le _, rfl, Lib.hid (fun i hi => absurd hi (by omega))⟩
    case round =>
      obtain ⟨k, rfl, hk, rfl, HS⟩ := hrel
      by_cases hlt : k < l.length
      · have hi1 : (k : Int) < (l.length : Int) := by omega
        obtain ⟨a', cap', hv, hc⟩ := H.out
        obtain ⟨b, off, ha, hcell⟩ := hc (fun e => by rw [e] at hlt; simp at hlt)
        subst ha
        cases hv
        have x0 := hcell k hlt
        have HY := Lib.hid (fun (e : (x == l[k]) = true) => ixF_hit (p := fun y => x == y) hlt e (fun i hi => HS.out i hi (by omega)))
        have HN := Lib.hid (fun (e : (x == l[k]) = false) i (h1 : i < k + 1) (h2 : i < l.length) => (show (x == l[i]) = false from by
          by_cases h3 : i < k
          · exact HS.out i h3 h2
          · have : i = k := by omega
            subst this
            exact e))
        clear hcell hc
        generalize l[k] = y at *
        cases hp : (x == y) with
        | true =>
          have HR := Lib.hid (HY.out hp)
          clear HY HN
          go_wp2_with fail
          go_ret
          exact ⟨cret_i HR.out.symm, rfl⟩
        | false =>
          have HR := Lib.hid (HN.out hp)
          clear HY HN
          go_wp2_with fail
          go_roundw
          case rel => exact ⟨k + 1, by go_num, by omega, by first | rfl | trivial, HR⟩
          case measure => simp [intOf]; omega
      · have hi1 : ¬ (k : Int) < (l.length : Int) := by omega
        have HR := Lib.hid (ixF_none (p := fun y => x == y) (l := l) (fun i hi => HS.out i (by omega) hi))
        go_wp2_with fail
        go_ret
        exact ⟨cret_i HR.out.symm, rfl⟩
  have C := Lib.hid CI
  have HG := Lib.hid (ixF_ge (fun y => x == y) l)
  clear CI h
  go_enter Try.func97, Try.ntmps97
  go_wp2_with fail
  refine (C.out).mono ?_; rintro e w1 ⟨rfl, rfl⟩
  generalize hz : ixF (fun y => x == y) l = z at *
  clear hz
  go_wp2_with fail
  go_ret
  exact ⟨cret_b HG.out, Below.refl _ _⟩
end Go.Proofs.Ytljhnkcoknikgaa
