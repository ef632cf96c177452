/- Layer 44 (hist): slices of ints that come in; the statement HistCounts' walk at them. -/
import Derived.Test.YtljhnkcoknikgaaV8
import Derived.ProofKit
import Derived.OpenShut
import Derived.ChangeOld
import Derived.ChangeSlices
import Derived.Lib.SmallJoins
namespace Go.Proofs.Ytljhnkcoknikgaa
open Go.RowKit Go.ChangeShapes Go.WideShapes

/-- A slice of ints that came in. -/
def IKin (w : World) (v : Value) : Prop := ∃ l, IK w v l ∧ ∀ n ∈ l, -9223372036854775808 ≤ n ∧ n < 9223372036854775808
set_option maxRecDepth 100000 in
theorem open_ik {H : Type} {enc : TypeId × Value → H} {w : World} {r : Reach} {base : Nat} {spare : Nat → Bool} {held : Bool} {v : Value} {d : DataW H} {p : List MemPlace} (hv : Value.okWide Try.prog w r base 22 v)
    (h : DataW.Trod enc Try.prog w 0 spare held 22 v d p) : IKin w v := by
  obtain ⟨a0, len, cap, rfl⟩ := okWide_slice Try.underlying22 hv
  obtain ⟨fuel, hf⟩ := h
  have hC : Try.prog.cellsOf 3 = 1 := by kernel_rfl
  rcases DataW.trod_slice Try.underlying22 hf with ⟨hcs, _⟩ | ⟨a, len', cap', elems, rest, n, _, hcs, _, _, hl, hm, hlen, hel, _, _⟩
  · simp [Value.cells] at hcs
    obtain ⟨rfl, rfl, rfl⟩ := hcs
    exact ⟨[], ⟨none, 0, rfl, fun _ => rfl, fun h => absurd rfl h⟩, fun _ h => by cases h⟩
  · simp [Value.cells] at hcs
    obtain ⟨rfl, rfl, rfl⟩ := hcs
    have each : ∀ i, i < len → ∃ x : Int, (-9223372036854775808 ≤ x ∧ x < 9223372036854775808) ∧ w.cell? (a.add (i * 1)) = some (.int .i64 x) := by
      intro i hi
      have h1 := hel i hi
      rw [List.getElem?_eq_getElem (by omega), Option.bind_eq_some_iff, hC] at h1
      obtain ⟨cs, hcs, hy⟩ := h1
      obtain ⟨hb, hlc, hce⟩ := World.cells?_some hcs
      match cs, hlc with
      | [c0], _ =>
        obtain ⟨x0, e0, _, w0⟩ := DataW.trod_int Try.underlying3 hy
        simp at e0
        subst e0
        have k0 := hce 0 (by omega)
        exact ⟨x0, wf_bd w0, by simpa [Addr.add] using k0⟩
    obtain ⟨b, off, spot⟩ := a
    let f : Nat → Int := fun i => if h : i < len then Classical.choose (each i h) else 0
    have hfe : ∀ i (h : i < len), (-9223372036854775808 ≤ f i ∧ f i < 9223372036854775808) ∧ w.cell? ((⟨b, off, spot⟩ : Addr).add (i * 1)) = some (.int .i64 (f i)) := fun i h => by
      have := Classical.choose_spec (each i h)
      simp only [f, h, dif_pos]
      exact this
    have hll : ((List.range len).map f).length = len := by simp
    refine ⟨(List.range len).map f, ⟨some ⟨b, off, spot⟩, cap, by rw [hll], fun e => (by cases e), fun h0 => ?_⟩, fun x hx => ?_⟩
    · have h0' : 0 < len := by
        rcases Nat.eq_zero_or_pos len with h1 | h1
        · exfalso; apply h0; apply List.eq_nil_of_length_eq_zero; rw [hll, h1]
        · exact h1
      have hspot : spot = none := by simpa [Addr.add] using World.cell?_spot (hfe 0 h0').2
      subst hspot
      have add : ∀ q j, (⟨b, q, none⟩ : Addr).add j = ⟨b, q + j, none⟩ := fun q j => by unfold Addr.add; split <;> simp_all
      refine ⟨b, off, rfl, fun i hi => ?_⟩
      rw [hll] at hi
      have := (hfe i hi).2
      rw [add, Nat.mul_one] at this
      simp only [List.getElem_map, List.getElem_range]
      exact this
    · obtain ⟨i, hi, rfl⟩ := List.mem_map.1 hx
      rw [List.mem_range] at hi
      exact (hfe i hi).1
theorem histcountslaw (va vb : Value) (w : World) (ha : IKin w va) (hb : IKin w vb) :
    Calls Try.prog 3 #[va, vb] w fun e w' => e = .returned (.bool true) ∧ Below w.heap.size w w' := by
  obtain ⟨A, ha, hA⟩ := ha
  obtain ⟨B, hb, hB⟩ := hb
  exact countslaw va vb A B hA hB w ha hb
end Go.Proofs.Ytljhnkcoknikgaa
