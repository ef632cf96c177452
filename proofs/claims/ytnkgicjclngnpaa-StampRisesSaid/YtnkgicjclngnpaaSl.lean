/- Layer 4 (stamp): the statement on clocks at every slice; a slice of calls opened. -/
import Derived.Test.YtnkgicjclngnpaaSk
import Derived.ProofKit
import Derived.OpenShut
import Derived.ChangeOld
import Derived.Deep.Slices
import Derived.Lib.SmallJoins
namespace Go.Proofs.Ytnkgicjclngnpaa
open Go.RowKit Go.ChangeShapes Go.WideShapes Go.Deep

theorem plays_great (who phys : Int) (a : Option Addr) (n cap : Nat) (hn : 100 < n) (hm : n ≤ 9223372036854775807) (w : World) :
    Calls Try.prog 7 #[.int .i64 who, .int .i64 phys, .slice a n cap] w fun e w' => e = .returned (.bool true) ∧ Below w.heap.size w w' := by
  go_enter Try.func7, Try.ntmps7
  go_wp2_with fail
  go_ret
  exact ⟨rfl, Below.refl _ _⟩
set_option maxRecDepth 100000 in
set_option maxHeartbeats 1000000 in
theorem plays_none (who phys : Int) (a : Option Addr) (cap : Nat) (w : World) :
    Calls Try.prog 7 #[.int .i64 who, .int .i64 phys, .slice a 0 cap] w fun e w' => e = .returned (.bool true) ∧ Below w.heap.size w w' := by
  go_enter Try.func7, Try.ntmps7
  go_wp2_with fail
  refine (new_any _ _ _).mono ?_; rintro e w1 ⟨rfl, hc1, hb1⟩
  clear hc1
  go_wp2_with fail
  refine (refcut_any _ _).mono ?_; rintro e w' ⟨rfl, rfl⟩
  go_wp2_with fail
  refine (refcut_any _ _).mono ?_; rintro e w' ⟨rfl, rfl⟩
  go_wp2_with fail
  have below1 := hb1.alloc hb1.size (.cells #[.int .i64 (cut who), .int .i64 (cut phys), .int .i64 0, .int .i64 0, .int .i64 0] 56)
  refine wp_loop_rounds 1 ?_
  rw [rounds_succ]
  go_wp2_with fail
  refine (alive4_any _).mono ?_; rintro e w9 ⟨rfl, hb9⟩
  go_wp2_with fail
  go_ret
  exact ⟨rfl, bnext below1 hb9⟩
theorem playslaw (who phys : Int) (v : Value) (w : World) (h : ∃ n f, OpsAt w v n f) :
    Calls Try.prog 7 #[.int .i64 who, .int .i64 phys, v] w fun e w' => e = .returned (.bool true) ∧ Below w.heap.size w w' := by
  obtain ⟨n, f, a, cap, rfl, hc, hm, hs⟩ := h
  by_cases h1 : 100 < n
  · exact plays_great who phys a n cap h1 (by unfold maxLen at hm; omega) w
  · by_cases h0 : n = 0
    · subst h0; exact plays_none who phys a cap w
    · obtain ⟨b, off, rfl, hb, hcell⟩ := hs h0
      exact plays_some who phys b off cap n f (by omega) hc w hb hcell

theorem open_ops {H : Type} {enc : TypeId × Value → H} {w : World} {r : Reach} {base : Nat} {spare : Nat → Bool} {held : Bool} {v : Value} {d : DataW H} {p : List MemPlace} (hv : Value.okWide Try.prog w r base 51 v)
    (h : DataW.Trod enc Try.prog w 0 spare held 51 v d p) : ∃ n f, OpsAt w v n f := by
  obtain ⟨a0, len, cap, rfl⟩ := okWide_slice Try.underlying51 hv
  obtain ⟨fuel, hf⟩ := h
  rcases open_slice Try.underlying51 hf with ⟨hcs, _⟩ | ⟨a, len', cap', m, n, D, Pl, hcs, _, hl, hcm, hm, _, hi⟩
  · simp [Value.cells] at hcs
    obtain ⟨rfl, rfl, rfl⟩ := hcs
    exact ⟨0, fun _ => ⟨0, 0, ⟨0, 0, 0⟩⟩, none, 0, rfl, Nat.le_refl _, Nat.zero_le _, fun h => absurd rfl h⟩
  · simp [Value.cells] at hcs
    obtain ⟨rfl, rfl, rfl⟩ := hcs
    have hlm : len ≤ m := by rw [hm]; split <;> omega
    have hC : Try.prog.cellsOf 58 = 5 := by kernel_rfl
    have hU : Try.prog.underlying 58 = some (.struct (Try.prog.fieldsOf 58)) := by kernel_rfl
    have hU2 : Try.prog.underlying 46 = some (.struct (Try.prog.fieldsOf 46)) := by kernel_rfl
    have key : ∀ i, i < len → ∃ o : Opr, w.cell? (a.add (i * 5)) = some (.int .i64 o.kind) ∧ w.cell? (a.add (i * 5 + 1)) = some (.int .i64 o.n) ∧ w.cell? (a.add (i * 5 + 2)) = some (.int .i64 o.s.x) ∧ w.cell? (a.add (i * 5 + 3)) = some (.int .i64 o.s.y) ∧ w.cell? (a.add (i * 5 + 4)) = some (.int .i64 o.s.z) := by
      intro i hil
      obtain ⟨cs, hcs, ht⟩ := hi i (by omega)
      rw [hC] at hcs
      obtain ⟨_, hlen, hat⟩ := World.cells?_some hcs
      match cs, hlen with
      | [c0, c1, c2, c3, c4], _ =>
        obtain ⟨xs, n1, _, _, _, hxl, hg⟩ := DataW.trod_struct Try.underlying58 ht
        have k1 : Try.prog.cellsOf 3 = 1 := by kernel_rfl
        have k3 : Try.prog.cellsOf 46 = 3 := by kernel_rfl
        match xs, hxl with
        | [y0, y1, y2], _ =>
          have g0 := hg 0 _ rfl
          have g1 := hg 1 _ rfl
          have g2 := hg 2 _ rfl
          simp [k1, k3] at g0 g1 g2
          obtain ⟨xs2, n2, _, _, _, hxl2, hg2⟩ := DataW.trod_struct Try.underlying46 g2
          match xs2, hxl2 with
          | [z0, z1, z2], _ =>
            have s0 := hg2 0 _ rfl
            have s1 := hg2 1 _ rfl
            have s2 := hg2 2 _ rfl
            simp [k1] at s0 s1 s2
            obtain ⟨a0, e0, _, _⟩ := DataW.trod_int Try.underlying3 g0
            obtain ⟨a1, e1, _, _⟩ := DataW.trod_int Try.underlying3 g1
            obtain ⟨a2, e2, _, _⟩ := DataW.trod_int Try.underlying3 s0
            obtain ⟨a3, e3, _, _⟩ := DataW.trod_int Try.underlying3 s1
            obtain ⟨a4, e4, _, _⟩ := DataW.trod_int Try.underlying3 s2
            simp at e0 e1 e2 e3 e4
            subst e0 e1 e2 e3 e4
            have q0 := hat 0 (by omega)
            have q1 := hat 1 (by omega)
            have q2 := hat 2 (by omega)
            have q3 := hat 3 (by omega)
            have q4 := hat 4 (by omega)
            rw [add_add] at q0 q1 q2 q3 q4
            exact ⟨⟨a0, a1, ⟨a2, a3, a4⟩⟩, q0, q1, q2, q3, q4⟩
    have : Inhabited Opr := ⟨⟨0, 0, ⟨0, 0, 0⟩⟩⟩
    obtain ⟨f, hf2⟩ := choose_lt key
    refine ⟨len, f, some a, cap, rfl, hl, by omega, fun h0 => ?_⟩
    obtain ⟨b, off, spot⟩ := a
    have hspot : spot = none := by simpa [Addr.add] using World.cell?_spot (hf2 0 (by omega)).1
    subst hspot
    refine ⟨b, off, rfl, World.block_lt_of_cell? w _ (by have := (hf2 0 (by omega)).1; rw [add_plain] at this; exact this), fun i hil => ?_⟩
    have := hf2 i hil
    simp only [add_plain, ← Nat.add_assoc] at this
    exact this
end Go.Proofs.Ytnkgicjclngnpaa
