/- Layer 21 (conf): the law's may. -/
import Derived.Test.YtaeflfgkdjfnfaaM9
namespace Go.Proofs.Ytaeflfgkdjfnfaa
open Go.RowKit
attribute [local irreducible] wpQuiet

theorem any_comm (n : Int) (g : List Int) : g.any (fun y => y == n) = g.any (fun y => n == y) := by
  congr 1
  funext y
  exact Bool.eq_iff_iff.2 (by rw [beq_iff_eq, beq_iff_eq]; exact eq_comm)
theorem mayB_bad {c : Cf} {n : Int} {gs : List (List Int)} {i : Nat} (hi : i < gs.length) (h : fl c n gs[i] = true) : mayB c n gs = false := by
  unfold mayB
  rw [List.any_eq_true.2 ⟨gs[i], List.getElem_mem hi, h⟩]
  simp
theorem mayB_good {c : Cf} {n : Int} {gs : List (List Int)} (hc : c.is n = true) (h : ∀ i (hi : i < gs.length), fl c n gs[i] = false) : mayB c n gs = true := by
  unfold mayB
  rw [hc]
  have : gs.any (fl c n) = false := by
    rw [List.any_eq_false]
    intro g hg
    obtain ⟨i, hi, rfl⟩ := List.mem_iff_getElem.1 hg
    rw [h i hi]
    simp
  rw [this]
  rfl
set_option maxRecDepth 100000 in
set_option maxHeartbeats 16000000 in
theorem law_may_in (c : Cf) (n : Int) (hi : c.is n = true) (v : Value) (gs : List (List Int)) (hl : gs.length ≤ 1000) (hs : ∀ g ∈ gs, g.length ≤ 1000) (w : World) (h : RR w v gs) :
    Calls Try.prog 33 #[.agg c.cells, .int .i64 n, v] w fun e w' => e = .returned (.bool (mayB c n gs)) ∧ Below w.heap.size w w' := by
  have hb : Below w.heap.size w (w.alloc (.cells c.cells 39)) := (Below.refl _ _).alloc (Nat.le_refl _) _
  have hx := Bx.fresh w 39 c.cells
  have hpl := is_at hi
  have hn0 : 0 ≤ n := by omega
  have hn5 : n < 5 := by omega
  have d1 : decide (n < 0) = false := by rw [decide_eq_false_iff_not]; omega
  have d2 : decide (5 ≤ n) = false := by rw [decide_eq_false_iff_not]; omega
  have xo := cell_out hx hn0 hn5
  have hout : c.out n = false := by unfold Cf.is at hi; simpa using hi
  rw [hout] at xo
  have HR := Lib.hid (h.next hb)
  have HX := Lib.hid hx
  have HB := Lib.hid hb
  have HL := Lib.hid (And.intro hl hs)
  have CAL := Lib.hid (fun y W => law_always c y W)
  have HBAD := Lib.hid (fun i (hi2 : i < gs.length) (hf : fl c n gs[i] = true) => mayB_bad hi2 hf)
  have HGOOD := Lib.hid (fun (hf : ∀ i (hi2 : i < gs.length), fl c n gs[i] = false) => mayB_good hi hf)
  have HFL : Hid (∀ g, fl c n g = (g.any (fun y => y == n) && !(g.any (kp c n)))) := Lib.hid (fun g => by rw [any_comm]; rfl)
  have HKP : Hid (∀ y, kp c n y = (y != n && c.always y)) := Lib.hid (fun y => rfl)
  obtain ⟨a, cap, rfl, _⟩ := h
  clear hb hx hpl hout hi hl hs
  generalize mayB c n gs = MB at *
  generalize fl c n = FL at *
  generalize kp c n = KP at *
  generalize c.always = AL at *
  obtain ⟨e, o0, o1, o2, o3, o4, j0, j1, j2, j3, j4⟩ := c
  unfold Cf.cells at *
  dsimp only at *
  go_enter Try.func33, Try.ntmps33
  go_wp2_with fail
  generalize hW0 : w.alloc (.cells #[.int .i64 e, .bool o0, .bool o1, .bool o2, .bool o3, .bool o4, .int .i64 j0, .int .i64 j1, .int .i64 j2, .int .i64 j3, .int .i64 j4] 39) = W0 at *
  clear xo hW0
  go_loopw [7] (fun iv wr => ∃ (i : Nat), iv = .int .i64 i ∧ i ≤ gs.length ∧ Hid ((∀ t (ht : t < gs.length), t < i → FL gs[t] = false) ∧ Below W0.heap.size W0 wr)) (fun iv _ => gs.length - (intOf iv).toNat)
  case atStart => exact ⟨0, rfl, Nat.zero_le _, Lib.hid ⟨fun t _ ht => absurd ht (Nat.not_lt_zero _), Below.refl _ _⟩⟩
  case round =>
    obtain ⟨i, rfl, hil, HS⟩ := hrel
    by_cases hlt : i < gs.length
    · have hi1 : (i : Int) < (gs.length : Int) := by omega
      obtain ⟨a', cap', hv, hc⟩ := HR.out.next HS.out.2
      obtain ⟨b, off, ha, hcell⟩ := hc (fun e => by rw [e] at hlt; simp at hlt)
      subst ha
      cases hv
      obtain ⟨u, x0, hu⟩ := hcell i hlt
      have HGL := Lib.hid (HL.out.2 gs[i] (List.getElem_mem hlt))
      have HBI := Lib.hid (HBAD.out i hlt)
      have HNX : Hid (FL gs[i] = false → ∀ t (ht : t < gs.length), t < i + 1 → FL gs[t] = false) := Lib.hid (fun e t ht hti => by
        by_cases h3 : t < i
        · exact HS.out.1 t ht h3
        · have : t = i := by omega
          subst this
          exact e)
      have HFI := Lib.hid (HFL.out gs[i])
      clear hcell hc
      generalize gs[i] = g at *
      obtain ⟨ua, uc, rfl, _⟩ := id hu
      have HU := Lib.hid x0
      have HG := Lib.hid hu
      clear hu
      have hglen := HL.out.1
      have hgl := HGL.out
      go_wp2_with fail
      rename World => wo
      go_loopw [8, 9, 10] (fun biv bov kv wi => ∃ (k : Nat) (bi bo : Bool), kv = .int .i64 k ∧ biv = .bool bi ∧ bov = .bool bo ∧ k ≤ g.length ∧ Hid (bi = (g.take k).any (fun y => y == n) ∧ bo = (g.take k).any KP ∧ Below wo.heap.size wo wi)) (fun _ _ kv _ => g.length - (intOf kv).toNat)
      case atStart => exact ⟨0, _, _, rfl, rfl, rfl, Nat.zero_le _, Lib.hid ⟨rfl, rfl, Below.refl _ _⟩⟩
      case round =>
        obtain ⟨k, bi, bo, rfl, rfl, rfl, hkl, HT⟩ := hrel
        rename World => wi
        by_cases hltk : k < g.length
        · skip
          have hi2 : (k : Int) < (g.length : Int) := by omega
          have hx0 := HT.out.1
          obtain ⟨ua', uc', hv', hc'⟩ := HG.out.next HT.out.2.2
          obtain ⟨ub, uo, ha', hcell'⟩ := hc' (fun e => by rw [e] at hltk; simp at hltk)
          subst ha'
          cases hv'
          have hy0 := hcell' k hltk
          have hu0 := cell_nxe HT.out.2.2 HU.out
          have m12 : ∀ d os, (Go.Sort.grow (Go.redrawn wi d) os).cell? ⟨ub, uo + k, none⟩ = some (.int .i64 g[k]) := fun d os => Go.cell_regrown hy0 d os
          have m11 : ∀ d os, (Go.Sort.grow (Go.redrawn wi d) os).cell? ⟨b, off + i, none⟩ = some (.slice (some ⟨ub, uo, none⟩) g.length uc) := fun d os => Go.cell_regrown hu0 d os
          have HBX := Lib.hid ((HX.out.next HS.out.2).next HT.out.2.2)
          have m0 : ∀ d os, (Go.Sort.grow (Go.redrawn wi d) os).cell? ⟨w.heap.size, 0, none⟩ = some (.int .i64 e) := fun d os => Go.cell_regrown (HBX.out.read rfl) d os
          have m1 : ∀ d os, (Go.Sort.grow (Go.redrawn wi d) os).cell? ⟨w.heap.size, 1, none⟩ = some (.bool o0) := fun d os => Go.cell_regrown (HBX.out.read rfl) d os
          have m2 : ∀ d os, (Go.Sort.grow (Go.redrawn wi d) os).cell? ⟨w.heap.size, 2, none⟩ = some (.bool o1) := fun d os => Go.cell_regrown (HBX.out.read rfl) d os
          have m3 : ∀ d os, (Go.Sort.grow (Go.redrawn wi d) os).cell? ⟨w.heap.size, 3, none⟩ = some (.bool o2) := fun d os => Go.cell_regrown (HBX.out.read rfl) d os
          have m4 : ∀ d os, (Go.Sort.grow (Go.redrawn wi d) os).cell? ⟨w.heap.size, 4, none⟩ = some (.bool o3) := fun d os => Go.cell_regrown (HBX.out.read rfl) d os
          have m5 : ∀ d os, (Go.Sort.grow (Go.redrawn wi d) os).cell? ⟨w.heap.size, 5, none⟩ = some (.bool o4) := fun d os => Go.cell_regrown (HBX.out.read rfl) d os
          have m6 : ∀ d os, (Go.Sort.grow (Go.redrawn wi d) os).cell? ⟨w.heap.size, 6, none⟩ = some (.int .i64 j0) := fun d os => Go.cell_regrown (HBX.out.read rfl) d os
          have m7 : ∀ d os, (Go.Sort.grow (Go.redrawn wi d) os).cell? ⟨w.heap.size, 7, none⟩ = some (.int .i64 j1) := fun d os => Go.cell_regrown (HBX.out.read rfl) d os
          have m8 : ∀ d os, (Go.Sort.grow (Go.redrawn wi d) os).cell? ⟨w.heap.size, 8, none⟩ = some (.int .i64 j2) := fun d os => Go.cell_regrown (HBX.out.read rfl) d os
          have m9 : ∀ d os, (Go.Sort.grow (Go.redrawn wi d) os).cell? ⟨w.heap.size, 9, none⟩ = some (.int .i64 j3) := fun d os => Go.cell_regrown (HBX.out.read rfl) d os
          have m10 : ∀ d os, (Go.Sort.grow (Go.redrawn wi d) os).cell? ⟨w.heap.size, 10, none⟩ = some (.int .i64 j4) := fun d os => Go.cell_regrown (HBX.out.read rfl) d os
          have CA := Lib.hid (fun d os => Calls.regrown_of (d := d) (os := os) (CAL.out g[k] (Go.Sort.grow (Go.redrawn wi d) os)))
          have HT1 := Lib.hid (take5 (p := fun y => y == n) g k hltk)
          have HT2 := Lib.hid (take5 (p := KP) g k hltk)
          have HKY := Lib.hid (HKP.out g[k])
          have HTB := Lib.hid HT.out.2.2
          have HI1 := Lib.hid HT.out.1
          have HI2 := Lib.hid HT.out.2.1
          clear hcell' hc' hx0 HT
          generalize g[k] = y at *
          generalize AL y = q at *
          generalize KP y = r at *
          cases bi <;> cases bo
          all_goals
            by_cases hyn : y = n
          all_goals
            first
              | (have e1 : (y == n) = true := by simp [hyn]
                 have e2 : (y != n) = false := by simp [hyn])
              | (have e1 : (y == n) = false := by simp [hyn]
                 have e2 : (y != n) = true := by simp [hyn])
            rw [e2] at HKY
            have HE1 := Lib.hid e1
            clear hyn
            go_wp2_with fail
            refine Go.wp_region_quiet_below (by kernel_rfl) (by kernel_rfl) ?_
            repeat (quiet_step (first | with_reducible exact CA.out _ _))
            refine wpQuiet_nil ?_
            intro _ hw'
            obtain ⟨⟨dq, osq⟩, hw''⟩ := hw'
            subst hw''
            have HF := Lib.hid (bnext HTB.out (Go.below_regrown wi dq osq))
            clear m0 m1 m2 m3 m4 m5 m6 m7 m8 m9 m10 m11 m12
            go_wp2_with fail
            go_roundw
            case rel => exact ⟨k + 1, _, _, by go_num, rfl, rfl, by omega, Lib.hid ⟨by rw [HT1.out, ← HI1.out, HE1.out]; rfl, by rw [HT2.out, ← HI2.out, HKY.out]; first | rfl | simp, HF.out⟩⟩
            case measure => simp [intOf]; omega

        · obtain rfl : k = g.length := by omega
          have hi2 : ¬ (g.length : Int) < (g.length : Int) := by omega
          have hu0 := cell_nxe HT.out.2.2 HU.out
          have HI := Lib.hid (show FL g = (bi && !bo) by rw [HFI.out, HT.out.1, HT.out.2.1, List.take_length])
          have HB2 := Lib.hid (bnext HS.out.2 HT.out.2.2)
          clear HT
          cases bi <;> cases bo
          case' true.false =>
            have HRET := Lib.hid (HBI.out (by rw [HI.out]; rfl))
            go_wp2_with fail
            go_ret
            exact ⟨cret_b HRET.out.symm, bnext HB.out HB2.out⟩
          all_goals
            have HN2 := Lib.hid (HNX.out (by rw [HI.out]; rfl))
            go_wp2_with fail
            go_roundw
            case rel => exact ⟨i + 1, by go_num, by omega, Lib.hid ⟨HN2.out, HB2.out⟩⟩
            case measure => simp [intOf]; omega
    · have hi1 : ¬ (i : Int) < (gs.length : Int) := by omega
      have HRET := Lib.hid (HGOOD.out (fun t ht => HS.out.1 t ht (by omega)))
      go_wp2_with fail
      go_ret
      exact ⟨cret_b HRET.out.symm, bnext HB.out HS.out.2⟩
end Go.Proofs.Ytaeflfgkdjfnfaa
