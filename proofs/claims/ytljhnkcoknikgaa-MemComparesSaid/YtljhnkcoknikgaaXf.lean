/- Layer 7 (mut), the document's side: Same of rows. -/
import Derived.Test.YtljhnkcoknikgaaX9
import Derived.Lib.QuietBelow
namespace Go.Proofs.Ytljhnkcoknikgaa
open Go.RowKit
attribute [local irreducible] wpQuiet

/-- The document's Compare, as it is used. -/
def RCmp : Prop := ∀ (a b : Mu) (oa ob : Value) (_ : a.over.length ≤ 100000) (_ : b.over.length ≤ 100000) (w : World) (_ : SI w oa a.over) (_ : SI w ob b.over),
    Calls Try.prog 21 #[.agg (a.cells oa), .agg (b.cells ob)] w fun e w' => e = .returned (.int .i64 (cmpM a b)) ∧ Below w.heap.size w w'
theorem MI.at' {w : World} {L : List MP} {a : Option Addr} {n c : Nat} (h : MI w (.slice a n c) L) (i : Nat) (hi : i < L.length) : ∃ b off, a = some ⟨b, off, none⟩ ∧ MC w b (off + i * 10) L[i] := by
  obtain ⟨a', cap', hv, _, _, hc⟩ := h
  obtain ⟨b, off, ha, hcell⟩ := hc (fun e => by rw [e] at hi; simp at hi)
  cases hv
  exact ⟨b, off, ha, hcell i hi⟩
set_option maxRecDepth 100000 in
set_option maxHeartbeats 8000000 in
theorem rsame_yes (RC : RCmp) (v1 v2 : Value) (L1 L2 : List MP) (hn : L1.length ≤ 10000) (hs : L1.map (·.1) = L2.map (·.1)) (w : World) (h1 : MI w v1 L1) (h2 : MI w v2 L2) (o1 : OV w L1) (o2 : OV w L2) :
    Calls Try.prog 25 #[v1, v2] w fun e w' => e = .returned (.bool true) ∧ Below w.heap.size w w' := by
  have hlen : L1.length = L2.length := by simpa using congrArg List.length hs
  have hat : ∀ i (h : i < L1.length) (h' : i < L2.length), L1[i].1 = L2[i].1 := fun i h h' => by
    have := congrArg (fun l => l[i]?) hs
    simpa [h, h'] using this
  have RC0 := Lib.hid RC
  clear RC
  obtain ⟨a1, c1, rfl⟩ := h1.form
  obtain ⟨a2, c2, rfl⟩ := h2.form
  have h2' : MI w (.slice a2 L1.length c2) L2 := by rw [hlen]; exact h2
  rw [← hlen]
  have H := Lib.hid (And.intro h1 (And.intro h2' (And.intro o1 o2)))
  have HAT := Lib.hid hat
  have HL := Lib.hid hlen
  have hb : ((L1.length : Int) != (L1.length : Int)) = false := by simp
  clear h1 h2 h2' o1 o2 hs hat hlen
  go_enter Try.func25, Try.ntmps25
  go_wp2_with fail
  go_loopw [5] (fun i wr => ∃ k : Nat, i = .int .i64 k ∧ k ≤ L1.length ∧ Hid (Below w.heap.size w wr)) (fun i _ => L1.length - (intOf i).toNat)
  case atStart => exact ⟨0, rfl, by omega, Lib.hid (Below.refl _ _)⟩
  case round =>
    obtain ⟨k, rfl, hk, HB⟩ := hrel
    by_cases hlt : k < L1.length
    · have hi1 : (k : Int) < (L1.length : Int) := by omega
      have hlt2 : k < L2.length := by rw [← HL.out]; exact hlt
      obtain ⟨g1, f1, rfl, q1⟩ := (H.out.1.next HB.out).at' k hlt
      obtain ⟨g2, f2, rfl, q2⟩ := (H.out.2.1.next HB.out).at' k hlt2
      have HE := Lib.hid (HAT.out k hlt hlt2)
      have V1 := Lib.hid (H.out.2.2.1 L1[k] (List.getElem_mem hlt))
      have V2 := Lib.hid (H.out.2.2.2 L2[k] (List.getElem_mem hlt2))
      generalize L1[k] = p1 at *
      generalize L2[k] = p2 at *
      obtain ⟨m1, ov1⟩ := p1
      obtain ⟨m2, ov2⟩ := p2
      obtain rfl : m1 = m2 := HE.out
      obtain ⟨t, kd, mk, en, val, ex, ⟨x, y, z⟩, over⟩ := m1
      dsimp only at *
      obtain ⟨m0, m1, m2, m3, m4, m5, m6, m7, m8, m9⟩ := q1.cells
      obtain ⟨n0, n1, n2, n3, n4, n5, n6, n7, n8, n9⟩ := q2.cells
      have d1 : ∀ q os, Calls Try.prog 21 #[.agg #[.int .i64 t, .int .i64 kd, .string mk, .string en, .string val, .int .i64 ex, .int .i64 x, .int .i64 y, .int .i64 z, ov1], .agg #[.int .i64 t, .int .i64 kd, .string mk, .string en, .string val, .int .i64 ex, .int .i64 x, .int .i64 y, .int .i64 z, ov2]] (Go.Sort.grow (Go.redrawn wr q) os) fun e w'' => e = .returned (.int .i64 0) ∧ ∃ p : Go.Regrown, w'' = Go.Sort.grow (Go.redrawn wr p.d) p.os := fun q os => Calls.regrown_of ((RC0.out ⟨t, kd, mk, en, val, ex, ⟨x, y, z⟩, over⟩ ⟨t, kd, mk, en, val, ex, ⟨x, y, z⟩, over⟩ ov1 ov2 V1.out.2 V2.out.2 _ ((V1.out.1.next HB.out).next (Go.below_regrown wr q os)) ((V2.out.1.next HB.out).next (Go.below_regrown wr q os))).mono fun e w' ⟨a, b⟩ => ⟨by rw [a, cmpM_self], b⟩)
      have D1 := Lib.hid d1
      have r0 := Go.cell_regrown m0
      have s0 := Go.cell_regrown n0
      have r1 := Go.cell_regrown m1
      have s1 := Go.cell_regrown n1
      have r2 := Go.cell_regrown m2
      have s2 := Go.cell_regrown n2
      have r3 := Go.cell_regrown m3
      have s3 := Go.cell_regrown n3
      have r4 := Go.cell_regrown m4
      have s4 := Go.cell_regrown n4
      have r5 := Go.cell_regrown m5
      have s5 := Go.cell_regrown n5
      have r6 := Go.cell_regrown m6
      have s6 := Go.cell_regrown n6
      have r7 := Go.cell_regrown m7
      have s7 := Go.cell_regrown n7
      have r8 := Go.cell_regrown m8
      have s8 := Go.cell_regrown n8
      have r9 := Go.cell_regrown m9
      have s9 := Go.cell_regrown n9
      clear m0 m1 m2 m3 m4 m5 m6 m7 m8 m9 n0 n1 n2 n3 n4 n5 n6 n7 n8 n9 q1 q2 d1 V1 V2 HE
      go_wp2_with fail
      refine Go.wp_region_quiet_below (by kernel_rfl) (by kernel_rfl) ?_
      repeat (quiet_step (first | with_reducible exact D1.out _ _))
      refine wpQuiet_nil ?_
      intro _ hw'
      obtain ⟨⟨dq, osq⟩, hw''⟩ := hw'
      subst hw''
      have HB9 := Lib.hid (bnext HB.out (Go.below_regrown wr dq osq))
      clear r0 r1 r2 r3 r4 r5 r6 r7 r8 r9 s0 s1 s2 s3 s4 s5 s6 s7 s8 s9
      generalize Go.Sort.grow (Go.redrawn wr dq) osq = W9 at *
      go_wp2_with fail
      go_roundw
      case rel => exact ⟨k + 1, by go_num, by omega, HB9⟩
      case measure => simp [intOf]; omega
    · have hi1 : ¬ (k : Int) < (L1.length : Int) := by omega
      go_wp2_with fail
      go_ret
      exact ⟨rfl, HB.out⟩
end Go.Proofs.Ytljhnkcoknikgaa
