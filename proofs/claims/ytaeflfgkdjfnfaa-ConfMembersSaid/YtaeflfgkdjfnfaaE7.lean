/- Layer 21 (conf): a configuration that comes in. -/
import Derived.Test.YtaeflfgkdjfnfaaE0
import Derived.ProofKit
import Derived.OpenShut
import Derived.ChangeArms
import Derived.ChangeOld
import Derived.Lib.SmallJoins
namespace Go.Proofs.Ytaeflfgkdjfnfaa
open Go.ChangeShapes Go.WideShapes

/-- A value that is a configuration. -/
def ConfV (v : Value) : Prop := ∃ (e : Int) (o0 o1 o2 o3 o4 : Bool) (j0 j1 j2 j3 j4 : Int), v = .agg #[.int .i64 e, .bool o0, .bool o1, .bool o2, .bool o3, .bool o4, .int .i64 j0, .int .i64 j1, .int .i64 j2, .int .i64 j3, .int .i64 j4] ∧ (Lit.int .i64 e).wf = true
theorem wf_low {n : Int} (h : (Lit.int .i64 n).wf = true) : -9223372036854775808 ≤ n := by
  have h2 : (decide (IntKind.i64.min ≤ n) && decide (n ≤ IntKind.i64.max)) = true := h
  rw [Bool.and_eq_true, decide_eq_true_eq, decide_eq_true_eq, show IntKind.i64.max = 9223372036854775807 from by decide, show IntKind.i64.min = -9223372036854775808 from by decide] at h2
  exact h2.1
theorem list11 {α : Type} {cs : Array α} (h : cs.size = 11) : ∃ c0 c1 c2 c3 c4 c5 c6 c7 c8 c9 c10, cs = #[c0, c1, c2, c3, c4, c5, c6, c7, c8, c9, c10] := by
  obtain ⟨l⟩ := cs
  match l, h with
  | [c0, c1, c2, c3, c4, c5, c6, c7, c8, c9, c10], _ => exact ⟨c0, c1, c2, c3, c4, c5, c6, c7, c8, c9, c10, rfl⟩
theorem trod_bools {H : Type} {enc : TypeId × Value → H} {w : World} {base : Nat} {spare : Nat → Bool} {held : Bool} {fuel : Nat} {a b c d e : Value} {x : DataW H × List MemPlace}
    (h : DataW.trod enc Try.prog w base spare held fuel 36 [a, b, c, d, e] = some x) : ∃ p q r s t, a = .bool p ∧ b = .bool q ∧ c = .bool r ∧ d = .bool s ∧ e = .bool t := by
  obtain ⟨xs, m, _, _, _, hl, hf⟩ := DataW.trod_array Try.underlying36 h
  have hC : Try.prog.cellsOf 4 = 1 := by kernel_rfl
  rw [hC] at hf
  match xs, hl with
  | [y0, y1, y2, y3, y4], _ =>
    obtain ⟨p, hp, _⟩ := DataW.trod_bool Try.underlying4 (hf 0 (by omega))
    obtain ⟨q, hq, _⟩ := DataW.trod_bool Try.underlying4 (hf 1 (by omega))
    obtain ⟨r, hr, _⟩ := DataW.trod_bool Try.underlying4 (hf 2 (by omega))
    obtain ⟨s, hs, _⟩ := DataW.trod_bool Try.underlying4 (hf 3 (by omega))
    obtain ⟨t, ht, _⟩ := DataW.trod_bool Try.underlying4 (hf 4 (by omega))
    simp at hp hq hr hs ht
    exact ⟨p, q, r, s, t, hp, hq, hr, hs, ht⟩
theorem trod_ints {H : Type} {enc : TypeId × Value → H} {w : World} {base : Nat} {spare : Nat → Bool} {held : Bool} {fuel : Nat} {a b c d e : Value} {x : DataW H × List MemPlace}
    (h : DataW.trod enc Try.prog w base spare held fuel 37 [a, b, c, d, e] = some x) : ∃ p q r s t, a = .int .i64 p ∧ b = .int .i64 q ∧ c = .int .i64 r ∧ d = .int .i64 s ∧ e = .int .i64 t := by
  obtain ⟨xs, m, _, _, _, hl, hf⟩ := DataW.trod_array Try.underlying37 h
  have hC : Try.prog.cellsOf 3 = 1 := by kernel_rfl
  rw [hC] at hf
  match xs, hl with
  | [y0, y1, y2, y3, y4], _ =>
    obtain ⟨p, hp, _⟩ := DataW.trod_int Try.underlying3 (hf 0 (by omega))
    obtain ⟨q, hq, _⟩ := DataW.trod_int Try.underlying3 (hf 1 (by omega))
    obtain ⟨r, hr, _⟩ := DataW.trod_int Try.underlying3 (hf 2 (by omega))
    obtain ⟨s, hs, _⟩ := DataW.trod_int Try.underlying3 (hf 3 (by omega))
    obtain ⟨t, ht, _⟩ := DataW.trod_int Try.underlying3 (hf 4 (by omega))
    simp at hp hq hr hs ht
    exact ⟨p, q, r, s, t, hp, hq, hr, hs, ht⟩
set_option maxRecDepth 100000 in
theorem open_conf {H : Type} {enc : TypeId × Value → H} {w : World} {r : Reach} {base : Nat} {spare : Nat → Bool} {held : Bool} {v : Value} {d : DataW H} {p : List MemPlace} (hv : Value.okWide Try.prog w r base 39 v)
    (h : DataW.Trod enc Try.prog w 0 spare held 39 v d p) : ConfV v := by
  have hK : Try.prog.cellsOf 39 = 11 := by kernel_rfl
  have hC : Try.prog.cellsOf 3 = 1 := by kernel_rfl
  have hB : Try.prog.cellsOf 36 = 5 := by kernel_rfl
  have hI : Try.prog.cellsOf 37 = 5 := by kernel_rfl
  obtain ⟨cs, rfl, hsz⟩ := okWide_struct Try.underlying39 hv
  obtain ⟨c0, c1, c2, c3, c4, c5, c6, c7, c8, c9, c10, rfl⟩ := list11 (hsz.trans hK)
  obtain ⟨fuel, hf⟩ := h
  obtain ⟨xs, n, _, _, _, hl, hg⟩ := DataW.trod_struct Try.underlying39 hf
  match xs, hl with
  | [y0, y1, y2], _ =>
    have g0 : DataW.trod enc Try.prog w 0 spare held n 3 (((Value.agg #[c0, c1, c2, c3, c4, c5, c6, c7, c8, c9, c10]).cells.toList.drop 0).take (Try.prog.cellsOf 3)) = some y0 := hg 0 _ rfl
    have g1 : DataW.trod enc Try.prog w 0 spare held n 36 (((Value.agg #[c0, c1, c2, c3, c4, c5, c6, c7, c8, c9, c10]).cells.toList.drop 1).take (Try.prog.cellsOf 36)) = some y1 := hg 1 _ rfl
    have g2 : DataW.trod enc Try.prog w 0 spare held n 37 (((Value.agg #[c0, c1, c2, c3, c4, c5, c6, c7, c8, c9, c10]).cells.toList.drop 6).take (Try.prog.cellsOf 37)) = some y2 := hg 2 _ rfl
    rw [hC] at g0
    rw [hB] at g1
    rw [hI] at g2
    obtain ⟨e, he, _, hw⟩ := DataW.trod_int Try.underlying3 g0
    obtain ⟨o0, o1, o2, o3, o4, e1, e2, e3, e4, e5⟩ := trod_bools (a := c1) (b := c2) (c := c3) (d := c4) (e := c5) g1
    obtain ⟨j0, j1, j2, j3, j4, k1, k2, k3, k4, k5⟩ := trod_ints (a := c6) (b := c7) (c := c8) (d := c9) (e := c10) g2
    simp [Value.cells] at he
    subst he e1 e2 e3 e4 e5 k1 k2 k3 k4 k5
    exact ⟨e, o0, o1, o2, o3, o4, j0, j1, j2, j3, j4, rfl, hw⟩
end Go.Proofs.Ytaeflfgkdjfnfaa
