/- Layer 7 (mut): a mutation that comes in. -/
import Derived.Test.YtljhnkcoknikgaaX7
import Derived.ProofKit
import Derived.OpenShut
import Derived.ShutString
import Derived.ChangeArms
import Derived.ChangeOld
import Derived.Deep.Slices
import Derived.Lib.SmallJoins
namespace Go.Proofs.Ytljhnkcoknikgaa
open Go.RowKit Go.ChangeShapes Go.WideShapes Go.Deep

set_option maxRecDepth 100000 in
theorem trod_sts {H : Type} {enc : TypeId × Value → H} {w : World} {spare : Nat → Bool} {held : Bool} {fuel : Nat} {c : Value} {x : DataW H × List MemPlace}
    (hf : DataW.trod enc Try.prog w 0 spare held fuel 38 [c] = some x) : ∃ L : List St, SI w c L := by
  rcases open_slice Try.underlying38 hf with ⟨hcs, _⟩ | ⟨a, len', cap', m, n, D, Pl, hcs, _, hl, hcm, hm, _, hi⟩
  · simp at hcs
    subst hcs
    exact ⟨[], ⟨none, 0, rfl, Nat.le_refl _, fun _ => rfl, fun h => absurd rfl h⟩⟩
  · simp at hcs
    subst hcs
    have hlm : len' ≤ m := by rw [hm]; split <;> omega
    have hC : Try.prog.cellsOf 37 = 3 := by kernel_rfl
    have key : ∀ i, i < len' → ∃ o : St, w.cell? (a.add (i * 3)) = some (.int .i64 o.x) ∧ w.cell? (a.add (i * 3 + 1)) = some (.int .i64 o.y) ∧ w.cell? (a.add (i * 3 + 2)) = some (.int .i64 o.z) := by
      intro i hil
      obtain ⟨cs, hcs, ht⟩ := hi i (by omega)
      rw [hC] at hcs
      obtain ⟨_, hlen, hat⟩ := World.cells?_some hcs
      match cs, hlen with
      | [c0, c1, c2], _ =>
        obtain ⟨xs, n1, _, _, _, hxl, hg⟩ := DataW.trod_struct Try.underlying37 ht
        have k1 : Try.prog.cellsOf 3 = 1 := by kernel_rfl
        match xs, hxl with
        | [z0, z1, z2], _ =>
          have s0 := hg 0 _ rfl
          have s1 := hg 1 _ rfl
          have s2 := hg 2 _ rfl
          simp [k1] at s0 s1 s2
          obtain ⟨a2, e2, _, _⟩ := DataW.trod_int Try.underlying3 s0
          obtain ⟨a3, e3, _, _⟩ := DataW.trod_int Try.underlying3 s1
          obtain ⟨a4, e4, _, _⟩ := DataW.trod_int Try.underlying3 s2
          simp at e2 e3 e4
          subst e2 e3 e4
          have q0 := hat 0 (by omega)
          have q1 := hat 1 (by omega)
          have q2 := hat 2 (by omega)
          rw [add_add] at q0 q1 q2
          exact ⟨⟨a2, a3, a4⟩, q0, q1, q2⟩
    have : Inhabited St := ⟨⟨0, 0, 0⟩⟩
    obtain ⟨f, hf2⟩ := choose_lt key
    have hlen : ((List.range len').map f).length = len' := by simp
    refine ⟨(List.range len').map f, ⟨some a, cap', by rw [hlen], by rw [hlen]; exact hl, fun h => (by cases h), fun h0 => ?_⟩⟩
    have hpos : 0 < len' := by
      rcases Nat.eq_zero_or_pos len' with h | h
      · subst h; simp at h0
      · exact h
    obtain ⟨b, off, spot⟩ := a
    have hspot : spot = none := by simpa [Addr.add] using World.cell?_spot (hf2 0 hpos).1
    subst hspot
    refine ⟨b, off, rfl, fun i hil => ?_⟩
    rw [hlen] at hil
    have := hf2 i hil
    simp only [add_plain, ← Nat.add_assoc] at this
    simp only [List.getElem_map, List.getElem_range]
    exact this
/-- A value that is a mutation. -/
def MutV (w : World) (v : Value) : Prop := ∃ (m : Mu) (ov : Value), v = .agg (m.cells ov) ∧ SI w ov m.over
theorem list10 {α : Type} {cs : Array α} (h : cs.size = 10) : ∃ c0 c1 c2 c3 c4 c5 c6 c7 c8 c9, cs = #[c0, c1, c2, c3, c4, c5, c6, c7, c8, c9] := by
  obtain ⟨l⟩ := cs
  match l, h with
  | [c0, c1, c2, c3, c4, c5, c6, c7, c8, c9], _ => exact ⟨c0, c1, c2, c3, c4, c5, c6, c7, c8, c9, rfl⟩
set_option maxRecDepth 100000 in
set_option maxHeartbeats 1000000 in
theorem open_mut {H : Type} {enc : TypeId × Value → H} {w : World} {r : Reach} {base : Nat} {spare : Nat → Bool} {held : Bool} {v : Value} {d : DataW H} {p : List MemPlace} (hv : Value.okWide Try.prog w r base 40 v)
    (h : DataW.Trod enc Try.prog w 0 spare held 40 v d p) : MutV w v := by
  have hK : Try.prog.cellsOf 40 = 10 := by kernel_rfl
  have k1 : Try.prog.cellsOf 3 = 1 := by kernel_rfl
  have k2 : Try.prog.cellsOf 9 = 1 := by kernel_rfl
  have k3 : Try.prog.cellsOf 37 = 3 := by kernel_rfl
  have k4 : Try.prog.cellsOf 38 = 1 := by kernel_rfl
  have k5 : Try.prog.cellsOf 34 = 1 := by kernel_rfl
  have k6 : Try.prog.cellsOf 35 = 1 := by kernel_rfl
  obtain ⟨cs, rfl, hsz⟩ := okWide_struct Try.underlying40 hv
  obtain ⟨c0, c1, c2, c3, c4, c5, c6, c7, c8, c9, rfl⟩ := list10 (hsz.trans hK)
  obtain ⟨fuel, hf⟩ := h
  obtain ⟨xs, n, _, _, _, hl, hg⟩ := DataW.trod_struct Try.underlying40 hf
  match xs, hl with
  | [y0, y1, y2, y3, y4, y5, y6, y7], _ =>
    have g0 := hg 0 _ rfl
    have g1 := hg 1 _ rfl
    have g2 := hg 2 _ rfl
    have g3 := hg 3 _ rfl
    have g4 := hg 4 _ rfl
    have g5 := hg 5 _ rfl
    have g6 := hg 6 _ rfl
    have g7 := hg 7 _ rfl
    simp [k1, k2, k3, k4, k5, k6, Value.cells] at g0 g1 g2 g3 g4 g5 g6 g7
    obtain ⟨xs2, n2, _, _, _, hxl2, hg2⟩ := DataW.trod_struct Try.underlying37 g6
    match xs2, hxl2 with
    | [z0, z1, z2], _ =>
      have s0 := hg2 0 _ rfl
      have s1 := hg2 1 _ rfl
      have s2 := hg2 2 _ rfl
      simp [k1] at s0 s1 s2
      obtain ⟨a0, e0, _, _⟩ := DataW.trod_int Try.underlying34 g0
      obtain ⟨a1, e1, _, _⟩ := DataW.trod_int Try.underlying35 g1
      obtain ⟨a2, e2, _, _⟩ := DataW.trod_string Try.underlying9 g2
      obtain ⟨a3, e3, _, _⟩ := DataW.trod_string Try.underlying9 g3
      obtain ⟨a4, e4, _, _⟩ := DataW.trod_string Try.underlying9 g4
      obtain ⟨a5, e5, _, _⟩ := DataW.trod_int Try.underlying3 g5
      obtain ⟨a6, e6, _, _⟩ := DataW.trod_int Try.underlying3 s0
      obtain ⟨a7, e7, _, _⟩ := DataW.trod_int Try.underlying3 s1
      obtain ⟨a8, e8, _, _⟩ := DataW.trod_int Try.underlying3 s2
      obtain ⟨L, hL⟩ := trod_sts g7
      simp at e0 e1 e2 e3 e4 e5 e6 e7 e8
      subst e0 e1 e2 e3 e4 e5 e6 e7 e8
      exact ⟨⟨a0, a1, a2, a3, a4, a5, ⟨a6, a7, a8⟩, L⟩, c9, rfl, hL⟩
end Go.Proofs.Ytljhnkcoknikgaa
