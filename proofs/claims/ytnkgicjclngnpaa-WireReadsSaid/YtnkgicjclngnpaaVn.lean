/- Layer 3 (wire): the statement on readers, at every input; a slice of calls opened. -/
import Derived.Test.YtnkgicjclngnpaaVm
import Derived.Deep.Slices
namespace Go.Proofs.Ytnkgicjclngnpaa
open Go.RowKit Go.ChangeShapes Go.WideShapes Go.Deep

set_option maxRecDepth 100000 in
set_option maxHeartbeats 4000000 in
theorem reads_none (vb : Value) (l : List UInt8) (hl : l.length ≤ 2000) (a : Option Addr) (cap : Nat) (w : World) (hb : BS w vb l) :
    Calls Try.prog 4 #[vb, .slice a 0 cap] w fun e w' => e = .returned (.bool true) ∧ Below w.heap.size w w' := by
  have HB := Hid.mk' hb
  have hlen := fun w' => len_bs hb w'
  clear hb
  go_enter Try.func4, Try.ntmps4
  go_wp2_with fail
  refine (sclone_any vb l (by omega) _ HB.out).mono ?_; rintro e w1 ⟨v1, rfl, hO1, hb1⟩
  have H1 := Hid.mk' (And.intro hO1.bs hb1)
  clear hO1 hb1
  go_wp2_with fail
  refine (newr_any v1 l (by omega) _ H1.out.1).mono ?_; rintro e w2 ⟨R, vr, rfl, hR, hRw, hA, hb2⟩
  have HBL := Hid.mk' (bnext H1.out.2 hb2)
  have HRW := Hid.mk' (Nat.le_trans H1.out.2.size hRw)
  have cf := fail_any R vr l 0 0 70 hA w2 hR
  rw [if_pos rfl] at cf
  have CF := Hid.mk' cf
  clear hR hRw hA hb2 H1 cf
  go_wp2_with fail
  refine wp_loop_rounds 1 ?_
  rw [rounds_succ]
  go_wp2_with fail
  refine (CF.out).mono ?_; rintro e w5 ⟨rfl, hR5, hg5⟩
  have H5 := Hid.mk' (And.intro hR5 (below_gb HBL.out hg5 HRW.out))
  clear hR5 hg5
  go_wp2_with fail
  refine (why_any R vr l _ _ _ H5.out.1).mono ?_; rintro e w' ⟨rfl, rfl⟩
  go_wp2_with fail
  refine (alive3_any _).mono ?_; rintro e w9 ⟨rfl, hb9⟩
  have H9 := Hid.mk' (bnext H5.out.2 hb9)
  clear hb9
  go_wp2_with fail
  go_ret
  exact ⟨rfl, H9.out⟩
theorem reads_great (vb : Value) (l : List UInt8) (a : Option Addr) (n cap : Nat) (hm : l.length ≤ maxLen) (hn : n ≤ maxLen) (hg : 2000 < l.length ∨ 50 < n) (w : World) (hb : BS w vb l) :
    Calls Try.prog 4 #[vb, .slice a n cap] w fun e w' => e = .returned (.bool true) ∧ Below w.heap.size w w' := by
  obtain ⟨va, vc, rfl⟩ := hb.form
  unfold maxLen at hm hn
  clear hb
  by_cases h1 : 2000 < l.length
  · go_enter Try.func4, Try.ntmps4
    go_wp2_with fail
    go_ret
    exact ⟨rfl, Below.refl _ _⟩
  · have h2 : 50 < n := by omega
    go_enter Try.func4, Try.ntmps4
    go_wp2_with fail
    go_ret
    exact ⟨rfl, Below.refl _ _⟩
theorem readslaw (vb v : Value) (w : World) (hb : ∃ l, BS w vb l ∧ l.length ≤ maxLen) (h : ∃ n f, ClAt w v n f) :
    Calls Try.prog 4 #[vb, v] w fun e w' => e = .returned (.bool true) ∧ Below w.heap.size w w' := by
  obtain ⟨l, hb, hl⟩ := hb
  obtain ⟨n, f, a, cap, rfl, hc, hm, hs⟩ := h
  by_cases hg : 2000 < l.length ∨ 50 < n
  · exact reads_great vb l a n cap hl hm hg w hb
  · by_cases h0 : n = 0
    · subst h0; exact reads_none vb l (by omega) a cap w hb
    · obtain ⟨b, off, rfl, hbw, hcell⟩ := hs h0
      exact reads_some vb l (by omega) b off cap n f (by omega) hc w hb hbw hcell

theorem open_calls {H : Type} {enc : TypeId × Value → H} {w : World} {r : Reach} {base : Nat} {spare : Nat → Bool} {held : Bool} {v : Value} {d : DataW H} {p : List MemPlace} (hv : Value.okWide Try.prog w r base 31 v)
    (h : DataW.Trod enc Try.prog w 0 spare held 31 v d p) : ∃ n f, ClAt w v n f := by
  obtain ⟨a0, len, cap, rfl⟩ := okWide_slice Try.underlying31 hv
  obtain ⟨fuel, hf⟩ := h
  rcases open_slice Try.underlying31 hf with ⟨hcs, _⟩ | ⟨a, len', cap', m, n, D, Pl, hcs, _, hl, hcm, hm, _, hi⟩
  · simp [Value.cells] at hcs
    obtain ⟨rfl, rfl, rfl⟩ := hcs
    exact ⟨0, fun _ => ⟨0, 0⟩, none, 0, rfl, Nat.le_refl _, Nat.zero_le _, fun h => absurd rfl h⟩
  · simp [Value.cells] at hcs
    obtain ⟨rfl, rfl, rfl⟩ := hcs
    have hlm : len ≤ m := by rw [hm]; split <;> omega
    have hC : Try.prog.cellsOf 37 = 2 := by kernel_rfl
    have key : ∀ i, i < len → ∃ o : Cl, w.cell? (a.add (i * 2)) = some (.int .i64 o.kind) ∧ w.cell? (a.add (i * 2 + 1)) = some (.int .i64 o.most) := by
      intro i hil
      obtain ⟨cs, hcs, ht⟩ := hi i (by omega)
      rw [hC] at hcs
      obtain ⟨_, hlen, hat⟩ := World.cells?_some hcs
      match cs, hlen with
      | [c0, c1], _ =>
        obtain ⟨xs, n1, _, _, _, hxl, hg⟩ := DataW.trod_struct Try.underlying37 ht
        have k1 : Try.prog.cellsOf 3 = 1 := by kernel_rfl
        match xs, hxl with
        | [y0, y1], _ =>
          have g0 := hg 0 _ rfl
          have g1 := hg 1 _ rfl
          simp [k1] at g0 g1
          obtain ⟨a0, e0, _, _⟩ := DataW.trod_int Try.underlying3 g0
          obtain ⟨a1, e1, _, _⟩ := DataW.trod_int Try.underlying3 g1
          simp at e0 e1
          subst e0 e1
          have q0 := hat 0 (by omega)
          have q1 := hat 1 (by omega)
          rw [add_add] at q0 q1
          exact ⟨⟨a0, a1⟩, q0, q1⟩
    have : Inhabited Cl := ⟨⟨0, 0⟩⟩
    obtain ⟨f, hf2⟩ := choose_lt key
    refine ⟨len, f, some a, cap, rfl, hl, by omega, fun h0 => ?_⟩
    obtain ⟨b, off, spot⟩ := a
    have hspot : spot = none := by simpa [Addr.add] using World.cell?_spot (hf2 0 (by omega)).1
    subst hspot
    refine ⟨b, off, rfl, World.block_lt_of_cell? w _ (by have := (hf2 0 (by omega)).1; rw [add_plain] at this; exact this), fun i hil => ?_⟩
    have := hf2 i hil
    simp only [add_plain, ← Nat.add_assoc] at this
    exact this
end Go.Proofs.Ytnkgicjclngnpaa
