/- An argument that is a slice of dots, opened. -/
import Derived.Test.YtaeflfgkdjfnfaaYe
import Derived.ProofKit
import Derived.OpenShut
import Derived.ChangeOld
import Derived.ChangeSlices
import Derived.Lib.SmallJoins
namespace Go.Proofs.Ytaeflfgkdjfnfaa
open Go.RowKit Go.ChangeShapes Go.WideShapes

set_option maxRecDepth 100000 in
theorem open_dots {H : Type} {enc : TypeId × Value → H} {w : World} {r : Reach} {base : Nat} {spare : Nat → Bool} {held : Bool} {v : Value} {d : DataW H} {p : List MemPlace} (hv : Value.okWide Try.prog w r base 114 v)
    (h : DataW.Trod enc Try.prog w 0 spare held 114 v d p) : ∃ l, DR w v l := by
  obtain ⟨a0, len, cap, rfl⟩ := okWide_slice Try.underlying114 hv
  obtain ⟨fuel, hf⟩ := h
  have hC : Try.prog.cellsOf 123 = 2 := by kernel_rfl
  have hC1 : Try.prog.cellsOf 3 = 1 := by kernel_rfl
  rcases DataW.trod_slice Try.underlying114 hf with ⟨hcs, _⟩ | ⟨a, len', cap', elems, rest, n, _, hcs, _, _, hl, hm, hlen, hel, _, _⟩
  · simp [Value.cells] at hcs
    obtain ⟨rfl, rfl, rfl⟩ := hcs
    exact ⟨[], none, 0, rfl, by simp, fun h => absurd rfl h⟩
  · simp [Value.cells] at hcs
    obtain ⟨rfl, rfl, rfl⟩ := hcs
    have each : ∀ i, i < len → ∃ x : Int × Int, IW x.1 ∧ IW x.2 ∧ w.cell? (a.add (i * 2)) = some (.int .i64 x.1) ∧ w.cell? ((a.add (i * 2)).add 1) = some (.int .i64 x.2) := by
      intro i hi
      have h1 := hel i hi
      rw [List.getElem?_eq_getElem (by omega), Option.bind_eq_some_iff, hC] at h1
      obtain ⟨cs, hcs, hy⟩ := h1
      obtain ⟨hb, hlc, hce⟩ := World.cells?_some hcs
      obtain ⟨y0, y1, m, _, _, t0, t1⟩ := trod_struct2 Try.underlying123 hy
      match cs, hlc with
      | [c0, c1], _ =>
        obtain ⟨x0, e0, _, w0⟩ := DataW.trod_int Try.underlying3 (show DataW.trod enc Try.prog w 0 spare held m 3 [c0] = some y0 by simpa [hC1] using t0)
        obtain ⟨x1, e1, _, w1⟩ := DataW.trod_int Try.underlying3 (show DataW.trod enc Try.prog w 0 spare held m 3 [c1] = some y1 by simpa [hC1] using t1)
        simp at e0 e1
        subst e0 e1
        have k0 := hce 0 (by omega)
        have k1 := hce 1 (by omega)
        exact ⟨(x0, x1), w0, w1, by simpa [Addr.add] using k0, by simpa using k1⟩
    obtain ⟨b, off, spot⟩ := a
    let f : Nat → Int × Int := fun i => if h : i < len then Classical.choose (each i h) else (0, 0)
    have hfe : ∀ i (h : i < len), IW (f i).1 ∧ IW (f i).2 ∧ w.cell? ((⟨b, off, spot⟩ : Addr).add (i * 2)) = some (.int .i64 (f i).1) ∧ w.cell? (((⟨b, off, spot⟩ : Addr).add (i * 2)).add 1) = some (.int .i64 (f i).2) := fun i h => by
      have := Classical.choose_spec (each i h)
      show IW ((if h : i < len then Classical.choose (each i h) else (0, 0)) : Int × Int).1 ∧ _
      simp only [f, h, dif_pos]
      exact this
    have hll : ((List.range len).map f).length = len := by simp
    refine ⟨(List.range len).map f, some ⟨b, off, spot⟩, cap, by rw [hll], fun x hx => ?_, fun h0 => ?_⟩
    · obtain ⟨i, hi, rfl⟩ := List.mem_map.1 hx
      rw [List.mem_range] at hi
      exact ⟨(hfe i hi).1, (hfe i hi).2.1⟩
    · have h0' : 0 < len := by
        rcases Nat.eq_zero_or_pos len with h1 | h1
        · exfalso; apply h0; apply List.eq_nil_of_length_eq_zero; rw [hll, h1]
        · exact h1
      have hspot : spot = none := by simpa [Addr.add] using World.cell?_spot (hfe 0 h0').2.2.1
      subst hspot
      have add : ∀ q j, (⟨b, q, none⟩ : Addr).add j = ⟨b, q + j, none⟩ := fun q j => by unfold Addr.add; split <;> simp_all
      refine ⟨b, off, rfl, fun i hi => ?_⟩
      rw [hll] at hi
      have := hfe i hi
      rw [add, add] at this
      simp only [List.getElem_map, List.getElem_range]
      exact this.2.2
end Go.Proofs.Ytaeflfgkdjfnfaa
