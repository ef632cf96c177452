/- Rows of rows of ints that come in. -/
import Derived.Test.YtaeflfgkdjfnfaaM8
import Derived.ProofKit
import Derived.OpenShut
import Derived.ChangeOld
import Derived.ChangeSlices
import Derived.Lib.SmallJoins
namespace Go.Proofs.Ytaeflfgkdjfnfaa
open Go.RowKit Go.ChangeShapes Go.WideShapes

set_option maxRecDepth 100000 in
theorem in_of_trod {H : Type} {enc : TypeId × Value → H} {w : World} {spare : Nat → Bool} {held : Bool} {fuel : Nat} {c0 : Value} {x : DataW H × List MemPlace} (hf : DataW.trod enc Try.prog w 0 spare held fuel 71 [c0] = some x) : ∃ l, IN w c0 l := by
  have hC : Try.prog.cellsOf 3 = 1 := by kernel_rfl
  rcases DataW.trod_slice Try.underlying71 hf with ⟨hcs, _⟩ | ⟨a, len, cap, elems, rest, n, _, hcs, _, _, hl, hm, hlen, hel, _, _⟩
  · simp at hcs
    subst hcs
    exact ⟨[], none, 0, rfl, fun h => absurd rfl h⟩
  · simp at hcs
    subst hcs
    have each : ∀ i, i < len → ∃ x : Int, w.cell? (a.add (i * 1)) = some (.int .i64 x) := by
      intro i hi
      have h1 := hel i hi
      rw [List.getElem?_eq_getElem (by omega), Option.bind_eq_some_iff, hC] at h1
      obtain ⟨cs, hcs, hy⟩ := h1
      obtain ⟨hb, hlc, hce⟩ := World.cells?_some hcs
      match cs, hlc with
      | [c1], _ =>
        obtain ⟨x0, e0, _, w0⟩ := DataW.trod_int Try.underlying3 hy
        simp at e0
        subst e0
        have k0 := hce 0 (by omega)
        exact ⟨x0, by simpa [Addr.add] using k0⟩
    obtain ⟨b, off, spot⟩ := a
    let f : Nat → Int := fun i => if h : i < len then Classical.choose (each i h) else 0
    have hfe : ∀ i (h : i < len), w.cell? ((⟨b, off, spot⟩ : Addr).add (i * 1)) = some (.int .i64 (f i)) := fun i h => by
      have := Classical.choose_spec (each i h)
      simp only [f, h, dif_pos]
      exact this
    have hll : ((List.range len).map f).length = len := by simp
    refine ⟨(List.range len).map f, some ⟨b, off, spot⟩, cap, by rw [hll], fun h0 => ?_⟩
    have h0' : 0 < len := by
      rcases Nat.eq_zero_or_pos len with h1 | h1
      · exfalso; apply h0; apply List.eq_nil_of_length_eq_zero; rw [hll, h1]
      · exact h1
    have hspot : spot = none := by simpa [Addr.add] using World.cell?_spot (hfe 0 h0')
    subst hspot
    refine ⟨b, off, rfl, fun i hi => ?_⟩
    rw [hll] at hi
    have := hfe i hi
    rw [addi, Nat.mul_one] at this
    simp only [List.getElem_map, List.getElem_range]
    exact this
set_option maxRecDepth 100000 in
theorem open_rows {H : Type} {enc : TypeId × Value → H} {w : World} {r : Reach} {base : Nat} {spare : Nat → Bool} {held : Bool} {v : Value} {d : DataW H} {p : List MemPlace} (hv : Value.okWide Try.prog w r base 70 v)
    (h : DataW.Trod enc Try.prog w 0 spare held 70 v d p) : ∃ gs, RR w v gs := by
  obtain ⟨a0, len, cap, rfl⟩ := okWide_slice Try.underlying70 hv
  obtain ⟨fuel, hf⟩ := h
  have hC : Try.prog.cellsOf 71 = 1 := by kernel_rfl
  rcases DataW.trod_slice Try.underlying70 hf with ⟨hcs, _⟩ | ⟨a, len', cap', elems, rest, n, _, hcs, _, _, hl, hm, hlen, hel, _, _⟩
  · simp [Value.cells] at hcs
    obtain ⟨rfl, rfl, rfl⟩ := hcs
    exact ⟨[], none, 0, rfl, fun h => absurd rfl h⟩
  · simp [Value.cells] at hcs
    obtain ⟨rfl, rfl, rfl⟩ := hcs
    have each : ∀ i, i < len → ∃ x : Value × List Int, w.cell? (a.add (i * 1)) = some x.1 ∧ IN w x.1 x.2 := by
      intro i hi
      have h1 := hel i hi
      rw [List.getElem?_eq_getElem (by omega), Option.bind_eq_some_iff, hC] at h1
      obtain ⟨cs, hcs, hy⟩ := h1
      obtain ⟨hb, hlc, hce⟩ := World.cells?_some hcs
      match cs, hlc with
      | [c1], _ =>
        obtain ⟨l, hl2⟩ := in_of_trod hy
        have k0 := hce 0 (by omega)
        exact ⟨(c1, l), by simpa [Addr.add] using k0, hl2⟩
    obtain ⟨b, off, spot⟩ := a
    let f : Nat → Value × List Int := fun i => if h : i < len then Classical.choose (each i h) else (undef, [])
    have hfe : ∀ i (h : i < len), w.cell? ((⟨b, off, spot⟩ : Addr).add (i * 1)) = some (f i).1 ∧ IN w (f i).1 (f i).2 := fun i h => by
      have := Classical.choose_spec (each i h)
      simp only [f, h, dif_pos]
      exact this
    have hll : ((List.range len).map fun i => (f i).2).length = len := by simp
    refine ⟨(List.range len).map fun i => (f i).2, some ⟨b, off, spot⟩, cap, by rw [hll], fun h0 => ?_⟩
    have h0' : 0 < len := by
      rcases Nat.eq_zero_or_pos len with h1 | h1
      · exfalso; apply h0; apply List.eq_nil_of_length_eq_zero; rw [hll, h1]
      · exact h1
    have hspot : spot = none := by simpa [Addr.add] using World.cell?_spot (hfe 0 h0').1
    subst hspot
    refine ⟨b, off, rfl, fun i hi => ?_⟩
    rw [hll] at hi
    have := hfe i hi
    rw [addi, Nat.mul_one] at this
    refine ⟨(f i).1, this.1, ?_⟩
    simp only [List.getElem_map, List.getElem_range]
    exact this.2
end Go.Proofs.Ytaeflfgkdjfnfaa
