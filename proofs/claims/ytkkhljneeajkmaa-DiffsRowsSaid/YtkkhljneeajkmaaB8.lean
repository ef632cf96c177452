/- Layer 36 (diffs): the chapter's example; entries handed in. -/
import Derived.Test.YtkkhljneeajkmaaB7
import Derived.ProofKit
import Derived.OpenShut
import Derived.ChangeOld
import Derived.Deep.Slices
import Derived.Lib.SmallJoins
namespace Go.Proofs.Ytkkhljneeajkmaa
open Go.RowKit Go.ChangeShapes Go.WideShapes Go.Deep

set_option maxRecDepth 100000 in
theorem open_entries {H : Type} {enc : TypeId × Value → H} {w : World} {r : Reach} {base : Nat} {spare : Nat → Bool} {held : Bool} {v : Value} {d : DataW H} {p : List MemPlace} (hv : Value.okWide Try.prog w r base 67 v)
    (h : DataW.Trod enc Try.prog w 0 spare held 67 v d p) : ∃ L : List En, EI w v L ∧ L.length ≤ maxLen := by
  obtain ⟨a0, len, cap, rfl⟩ := okWide_slice Try.underlying67 hv
  obtain ⟨fuel, hf⟩ := h
  rcases open_slice Try.underlying67 hf with ⟨hcs, _⟩ | ⟨a, len', cap', m, n, D, Pl, hcs, _, hl, hcm, hm, _, hi⟩
  · simp [Value.cells] at hcs
    obtain ⟨rfl, rfl, rfl⟩ := hcs
    exact ⟨[], ⟨none, 0, rfl, Nat.le_refl _, fun _ => rfl, fun h => absurd rfl h⟩, by simp⟩
  · simp [Value.cells] at hcs
    obtain ⟨rfl, rfl, rfl⟩ := hcs
    have hlm : len ≤ m := by rw [hm]; split <;> omega
    have hC : Try.prog.cellsOf 72 = 4 := by kernel_rfl
    have key : ∀ i, i < len → ∃ o : En, w.cell? (a.add (i * 4)) = some (.string o.key) ∧ w.cell? (a.add (i * 4 + 1)) = some (.int .i64 o.st.x) ∧ w.cell? (a.add (i * 4 + 2)) = some (.int .i64 o.st.y) ∧ w.cell? (a.add (i * 4 + 3)) = some (.int .i64 o.st.z) := by
      intro i hil
      obtain ⟨cs, hcs, ht⟩ := hi i (by omega)
      rw [hC] at hcs
      obtain ⟨_, hlen, hat⟩ := World.cells?_some hcs
      match cs, hlen with
      | [c0, c1, c2, c3], _ =>
        obtain ⟨xs, n1, _, _, _, hxl, hg⟩ := DataW.trod_struct Try.underlying72 ht
        have k1 : Try.prog.cellsOf 3 = 1 := by kernel_rfl
        have k2 : Try.prog.cellsOf 9 = 1 := by kernel_rfl
        have k3 : Try.prog.cellsOf 70 = 3 := by kernel_rfl
        match xs, hxl with
        | [y0, y1], _ =>
          have g0 := hg 0 _ rfl
          have g1 := hg 1 _ rfl
          simp [k1, k2, k3] at g0 g1
          obtain ⟨xs2, n2, _, _, _, hxl2, hg2⟩ := DataW.trod_struct Try.underlying70 g1
          match xs2, hxl2 with
          | [z0, z1, z2], _ =>
            have s0 := hg2 0 _ rfl
            have s1 := hg2 1 _ rfl
            have s2 := hg2 2 _ rfl
            simp [k1] at s0 s1 s2
            obtain ⟨a0, e0, _, _⟩ := DataW.trod_string Try.underlying9 g0
            obtain ⟨a2, e2, _, _⟩ := DataW.trod_int Try.underlying3 s0
            obtain ⟨a3, e3, _, _⟩ := DataW.trod_int Try.underlying3 s1
            obtain ⟨a4, e4, _, _⟩ := DataW.trod_int Try.underlying3 s2
            simp at e0 e2 e3 e4
            subst e0 e2 e3 e4
            have q0 := hat 0 (by omega)
            have q1 := hat 1 (by omega)
            have q2 := hat 2 (by omega)
            have q3 := hat 3 (by omega)
            rw [add_add] at q0 q1 q2 q3
            exact ⟨⟨a0, ⟨a2, a3, a4⟩⟩, q0, q1, q2, q3⟩
    have : Inhabited En := ⟨⟨ByteArray.empty, ⟨0, 0, 0⟩⟩⟩
    obtain ⟨f, hf2⟩ := choose_lt key
    have hlen : ((List.range len).map f).length = len := by simp
    refine ⟨(List.range len).map f, ⟨some a, cap, by rw [hlen], by rw [hlen]; exact hl, fun h => (by cases h), fun h0 => ?_⟩, by rw [hlen]; omega⟩
    have hpos : 0 < len := by
      rcases Nat.eq_zero_or_pos len with h | h
      · subst h; simp at h0
      · exact h
    obtain ⟨b, off, spot⟩ := a
    have hspot : spot = none := by simpa [Addr.add] using World.cell?_spot (hf2 0 hpos).1
    subst hspot
    refine ⟨b, off, rfl, fun i hil => ?_⟩
    rw [hlen] at hil
    have := hf2 i hil
    simp only [add_plain, ← Nat.add_assoc] at this
    simp only [List.getElem_map, List.getElem_range]
    exact this
/-- A literal row of one, of two entries. -/
theorem ei_one (W : World) (e : En) : EI (W.alloc (.cells #[.string e.key, .int .i64 e.st.x, .int .i64 e.st.y, .int .i64 e.st.z] 72)) (.slice (some ⟨W.heap.size, 0, none⟩) 1 1) [e] := by
  have hb := Bx.fresh W 72 #[.string e.key, .int .i64 e.st.x, .int .i64 e.st.y, .int .i64 e.st.z]
  refine ⟨_, 1, rfl, Nat.le_refl _, fun h => (by cases h), fun _ => ⟨_, 0, rfl, fun i hi => ?_⟩⟩
  simp only [List.length_cons, List.length_nil] at hi
  have h0 : i = 0 := by omega
  subst h0
  exact ⟨hb.read rfl, hb.read rfl, hb.read rfl, hb.read rfl⟩
theorem ei_two (W : World) (e f : En) : EI (W.alloc (.cells #[.string e.key, .int .i64 e.st.x, .int .i64 e.st.y, .int .i64 e.st.z, .string f.key, .int .i64 f.st.x, .int .i64 f.st.y, .int .i64 f.st.z] 72)) (.slice (some ⟨W.heap.size, 0, none⟩) 2 2) [e, f] := by
  have hb := Bx.fresh W 72 #[.string e.key, .int .i64 e.st.x, .int .i64 e.st.y, .int .i64 e.st.z, .string f.key, .int .i64 f.st.x, .int .i64 f.st.y, .int .i64 f.st.z]
  refine ⟨_, 2, rfl, Nat.le_refl _, fun h => (by cases h), fun _ => ⟨_, 0, rfl, fun i hi => ?_⟩⟩
  simp only [List.length_cons, List.length_nil] at hi
  rcases (show i = 0 ∨ i = 1 from by omega) with rfl | rfl
  · exact ⟨hb.read rfl, hb.read rfl, hb.read rfl, hb.read rfl⟩
  · exact ⟨hb.read rfl, hb.read rfl, hb.read rfl, hb.read rfl⟩
def eA : En := ⟨⟨#[97]⟩, ⟨1, 0, 0⟩⟩
def eB : En := ⟨⟨#[98]⟩, ⟨1, 0, 0⟩⟩
def eC : En := ⟨⟨#[99]⟩, ⟨1, 0, 0⟩⟩
theorem ab_lt : cmpE eA eB < 0 := by
  unfold cmpE eA eB cmpT
  rw [ByteArray.toList_eq, ByteArray.toList_eq]
  decide +kernel
theorem bc_lt : cmpE eB eC < 0 := by
  unfold cmpE eB eC cmpT
  rw [ByteArray.toList_eq, ByteArray.toList_eq]
  decide +kernel
theorem ne_lt {a b : En} (h : cmpE a b < 0) : a ≠ b := fun e => by rw [e, cmpE_self] at h; omega
theorem ab_less : lessS [eA, eB] [eB, eC] false = [eA] ∧ lessS [eB, eC] [eA, eB] false = [eC] ∧ lessS [eA, eB] [eB, eC] true = [eB] := by
  have hac := lt_tr ab_lt bc_lt
  have n1 := eqE_no (ne_lt ab_lt)
  have n2 := eqE_no (ne_lt bc_lt)
  have n3 := eqE_no (ne_lt hac)
  have n4 := eqE_no (ne_lt ab_lt).symm
  have n5 := eqE_no (ne_lt bc_lt).symm
  have n6 := eqE_no (ne_lt hac).symm
  simp [lessS, memE, n1, n2, n3, n4, n5, n6, eqE_self]
theorem ab_up : Up [eA, eB] ∧ Up [eB, eC] := by
  constructor
  · exact List.pairwise_cons.2 ⟨fun y hy => by rw [List.mem_singleton.1 hy]; exact ab_lt, List.pairwise_singleton _ _⟩
  · exact List.pairwise_cons.2 ⟨fun y hy => by rw [List.mem_singleton.1 hy]; exact bc_lt, List.pairwise_singleton _ _⟩
end Go.Proofs.Ytkkhljneeajkmaa
