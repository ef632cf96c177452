/- Layer 47 (gaps): the statements GapsReads' and GapsPuts' walks. -/
import Derived.Test.YtoidloofclalhabZj
namespace Go.Proofs.Ytoidloofclalhab
open Go.RowKit

theorem okF_iz : ∀ (l : List Int) (a : Int), okF a l = true → 0 ≤ a → ∀ x ∈ l, IZ x
  | [], _, _, _, x, hx => by cases hx
  | n :: r, a, h, ha, x, hx => by
    have h2 : (decide (a ≤ n ∧ n ≤ 4611686018427387903) && okF (n + 1) r) = true := h
    rw [Bool.and_eq_true, decide_eq_true_iff] at h2
    rcases List.mem_cons.1 hx with rfl | hx
    · unfold IZ; omega
    · exact okF_iz r (n + 1) h2.2 (by omega) x hx
theorem okB_iz {l : List Int} (h : okB l = true) : (∀ x ∈ l, IZ x) ∧ l.length ≤ 4096 := by
  unfold okB at h
  rw [Bool.and_eq_true, decide_eq_true_iff] at h
  exact ⟨okF_iz l 0 h.1 (by omega), h.2⟩
theorem cut0_run {w : World} {v : Value} {l : List UInt8} (h : BS w v l) (j : Nat) (hj : j ≤ l.length) :
    ∃ v', (∀ w', (Instr.slice 42 v none (some (.int .i64 (j : Int))) none).run Try.prog w' = .ok v' w') ∧ BS w v' (l.take j) := by
  obtain ⟨a, cap, rfl, hle, hn, hc⟩ := h
  have hel : Try.prog.elem 42 = 5 := by kernel_rfl
  have hu : Try.prog.underlying 42 = some (.slice (Try.prog.elem 42)) := by kernel_rfl
  have hs := Try.sizeOf5
  have hlen : (l.take j).length = j := by simp; omega
  refine ⟨sliced a 0 j cap 1, fun w' => ?_, ?_⟩
  · rw [run_slice_h w' _ a l.length cap hu .i64 (j : Int) (by omega) (by omega), hel, hs]
    simp [Result.andThen]
  · cases a with
    | none =>
      have h0 := hn rfl
      have hl := List.eq_nil_of_length_eq_zero (by omega : l.length = 0)
      have hj0 : j = 0 := by omega
      subst hl hj0 h0
      exact BS.nil w
    | some ad =>
      refine ⟨some ad, cap, ?_, by rw [hlen]; omega, (fun h => by cases h), fun h0 => ?_⟩
      · rw [hlen]; simp only [sliced]; congr 1; split
        · rfl
        · simp [Addr.add]
      · obtain ⟨b, off, hab, hcell⟩ := hc (fun e => by subst e; simp at h0)
        cases hab
        refine ⟨b, off, rfl, fun q hq => ?_⟩
        rw [hlen] at hq
        have h1 := hcell q (by omega)
        rw [h1]
        simp
set_option maxRecDepth 100000 in
set_option maxHeartbeats 4000000 in
theorem reads_some (v : Value) (l : List UInt8) (hl : l.length ≤ 500) (w : World) (h : BS w v l) :
    Calls Try.prog 7 #[v] w fun e w' => e = .returned (.bool true) ∧ Below w.heap.size w w' := by
  obtain ⟨va, vc, rfl⟩ := h.form
  have HB := Lib.hid h
  clear h
  have hgo := Lib.hid (gets_ok l)
  have hgb := Lib.hid (gets_bad l)
  go_enter Try.func7, Try.ntmps7
  go_wp2_with fail
  refine (sclone_any _ l (by omega) _ HB.out).mono ?_; rintro e w1 ⟨v1, rfl, hO1, hb1⟩
  have H1 := Lib.hid (And.intro hO1.bs hb1)
  clear hO1 hb1
  go_wp2_with fail
  refine (newr_any _ l (by omega) _ H1.out.1).mono ?_; rintro e w2 ⟨R, vr, rfl, hr2, hR2, hA2, hb2⟩
  have hRin : R < w2.heap.size := Bx.inside hr2.1
  have H2 := Lib.hid (And.intro hr2 (And.intro hA2 (And.intro (bnext H1.out.2 hb2) (Nat.le_trans H1.out.2.size hR2))))
  clear hr2 hR2 hA2 hb2
  go_wp2_with fail
  refine (gget_any R vr l (by omega) H2.out.2.1 w2 hRin H2.out.1).mono ?_
  generalize gets l = G at *
  obtain ⟨gl, gp, gy⟩ := G
  rintro e w3 ⟨v3, rfl, hio3, hr3, hg3⟩
  dsimp only at *
  have H3 := Lib.hid (And.intro hio3 (And.intro hr3 (below_gb H2.out.2.2.1 hg3 H2.out.2.2.2)))
  obtain ⟨v3a, v3c, rfl⟩ := hio3.form
  clear hio3 hr3 hg3 hRin
  have HW := Lib.hid (why_any R vr l gp gy w3 H3.out.2.1)
  by_cases hy : gy = 0
  · subst hy
    obtain ⟨q1, q2, q3⟩ := hgo.out rfl
    have HQ := Lib.hid (And.intro q1 (And.intro q2 q3))
    clear q1 q2 q3
    have HIZ := Lib.hid (okB_iz HQ.out.1)
    have HIR := Lib.hid (IO.ir H3.out.1 HIZ.out.1 (by have := HIZ.out.2; unfold maxLen; omega))
    go_wp2_with fail
    refine (HW.out).mono ?_; rintro e w4 ⟨rfl, rfl⟩
    go_wp2_with fail
    refine (lright_any _ gl (by have := HIZ.out.2; omega) _ HIR.out).mono ?_; rintro e w5 ⟨rfl, hb5⟩
    rw [HQ.out.1]
    have H5 := Lib.hid hb5
    clear hb5
    go_wp2_with fail
    refine (lbytes_any _ gl HQ.out.1 _ (HIR.out.next H5.out)).mono ?_; rintro e w6 ⟨v6, rfl, hO6, hb6⟩
    have H6 := Lib.hid (And.intro hO6.bs (bnext H5.out hb6))
    clear hO6 hb6
    have HR6 := Lib.hid (Rdr.step' H3.out.2.1 H6.out.2)
    go_wp2_with fail
    refine (at_any R vr l gp 0 _ HR6.out).mono ?_; rintro e w7 ⟨rfl, rfl⟩
    obtain ⟨vd, hcut, hbd⟩ := cut0_run (HB.out.next (bnext H3.out.2.2 H6.out.2)) gp HQ.out.2.2
    have HBD := Lib.hid hbd
    clear hbd
    go_wp2_with fail
    refine (equal_yes _ _ (gB gl) (by have := gB_len gl; have := HIZ.out.2; omega) _ H6.out.1 (by rw [← HQ.out.2.1]; exact HBD.out)).mono ?_; rintro e w8 ⟨rfl, hb8⟩
    have H8 := Lib.hid (bnext (bnext H3.out.2.2 H6.out.2) hb8)
    clear hb8 hcut
    go_wp2_with fail
    refine (alive47_any _).mono ?_; rintro e w9 ⟨rfl, hb9⟩
    have H9 := Lib.hid (bnext H8.out hb9)
    clear hb9
    go_wp2_with fail
    go_ret
    exact ⟨rfl, H9.out⟩
  · have hnil := hgb.out hy
    subst hnil
    have hy1 : (gy != 0) = true := by simpa using hy
    clear hy
    go_wp2_with fail
    refine (HW.out).mono ?_; rintro e w4 ⟨rfl, rfl⟩
    go_wp2_with fail
    refine (alive47_any _).mono ?_; rintro e w9 ⟨rfl, hb9⟩
    have H9 := Lib.hid (bnext H3.out.2.2 hb9)
    clear hb9
    go_wp2_with fail
    go_ret
    exact ⟨rfl, H9.out⟩
theorem reads_great (v : Value) (l : List UInt8) (hm : l.length ≤ maxLen) (hl : 500 < l.length) (w : World) (h : BS w v l) :
    Calls Try.prog 7 #[v] w fun e w' => e = .returned (.bool true) ∧ Below w.heap.size w w' := by
  obtain ⟨va, vc, rfl⟩ := h.form
  unfold maxLen at hm
  clear h
  go_enter Try.func7, Try.ntmps7
  go_wp2_with fail
  go_ret
  exact ⟨rfl, Below.refl _ _⟩
theorem greadslaw (v : Value) (w : World) (h : ∃ l, BS w v l ∧ l.length ≤ maxLen) :
    Calls Try.prog 7 #[v] w fun e w' => e = .returned (.bool true) ∧ Below w.heap.size w w' := by
  obtain ⟨l, h, hm⟩ := h
  by_cases hl : 500 < l.length
  · exact reads_great v l hm hl w h
  · exact reads_some v l (by omega) w h
end Go.Proofs.Ytoidloofclalhab
