/- Layer 36 (diffs): the statement DiffsRows' walk. -/
import Derived.Test.YtkkhljneeajkmaaB9
namespace Go.Proofs.Ytkkhljneeajkmaa
open Go.RowKit
attribute [local irreducible] wpQuiet

/-- A row of entries in a later world. -/
theorem EI.dn {w : World} {v : Value} {L : List En} (h : EI w v L) : EI w.drew v L := h.next ⟨rfl, rfl, rfl, Nat.le_refl _, fun _ _ => rfl⟩
set_option maxRecDepth 100000 in
set_option maxHeartbeats 16000000 in
theorem rows_some (va vb : Value) (A B : List En) (hA : A.length ≤ 60) (hB : B.length ≤ 60) (w : World) (h1 : EI w va A) (h2 : EI w vb B) :
    Calls Try.prog 10 #[va, vb] w fun e w' => e = .returned (.bool true) ∧ Below w.heap.size w w' := by
  have H := Lib.hid (And.intro h1 h2)
  obtain ⟨aa, ca, rfl⟩ := h1.form
  obtain ⟨ab, cb, rfl⟩ := h2.form
  clear h1 h2
  have n1 : ¬ ((60 : Int) < (A.length : Int)) := by omega
  have n2 : ¬ ((60 : Int) < (B.length : Int)) := by omega
  obtain ⟨X, hX⟩ : ∃ X, X = rowS A := ⟨_, rfl⟩
  obtain ⟨Y, hY⟩ : ∃ Y, Y = rowS B := ⟨_, rfl⟩
  have HX := Lib.hid (show Up X ∧ X.length ≤ 60 ∧ (X = A ↔ Up A) from by
    have h := row_up2 A
    rw [← hX] at h
    exact ⟨h.1.1, by have := h.1.2; omega, by rw [hX]; exact row_self A⟩)
  have HY := Lib.hid (show Up Y ∧ Y.length ≤ 60 from by
    have h := row_up2 B
    rw [← hY] at h
    exact ⟨h.1.1, by have := h.1.2; omega⟩)
  have CRA := Lib.hid (fun W v hW => row_any v A (by omega) W hW)
  have CRB := Lib.hid (fun W v hW => row_any v B (by omega) W hW)
  rw [← hX] at CRA
  rw [← hY] at CRB
  clear hX hY
  go_enter Try.func10, Try.ntmps10
  go_wp2_with fail
  go_loopw [5] (fun i wr => ∃ k : Nat, i = .int .i64 k ∧ k ≤ A.length ∧ k ≤ B.length ∧ Hid (Below w.heap.size w wr)) (fun i _ => A.length - (intOf i).toNat)
  case atStart => exact ⟨0, rfl, Nat.zero_le _, Nat.zero_le _, Lib.hid (Below.refl _ _)⟩
  case round =>
    obtain ⟨k, rfl, hk1, hk2, HB⟩ := hrel
    by_cases hlt : k < A.length ∧ k < B.length
    · obtain ⟨hl1, hl2⟩ := hlt
      have hi1 : (k : Int) < (A.length : Int) := by omega
      have hi2 : (k : Int) < (B.length : Int) := by omega
      obtain ⟨b1, o1, hb1, x0, x1, x2, x3⟩ := (H.out.1.next HB.out).at_ k hl1
      obtain ⟨b2, o2, hb2, y0, y1, y2, y3⟩ := (H.out.2.next HB.out).at_ k hl2
      subst hb1
      subst hb2
      have C1 := Lib.hid (fun W => ecompare_any A[k] B[k] W)
      have C2 := Lib.hid (fun W => lcompare_any A[k] B[k] W)
      generalize A[k] = p at *
      generalize B[k] = q at *
      obtain ⟨pk, ⟨px, py, pz⟩⟩ := p
      obtain ⟨qk, ⟨qx, qy, qz⟩⟩ := q
      unfold En.cells at C1 C2
      dsimp only at *
      generalize cmpE ⟨pk, ⟨px, py, pz⟩⟩ ⟨qk, ⟨qx, qy, qz⟩⟩ = cv at *
      have c1 : ∀ q os, Calls Try.prog 36 #[.agg #[.string pk, .int .i64 px, .int .i64 py, .int .i64 pz], .agg #[.string qk, .int .i64 qx, .int .i64 qy, .int .i64 qz]] (Go.Sort.grow (Go.redrawn wr q) os) fun e w'' => e = .returned (.int .i64 cv) ∧ ∃ p : Go.Regrown, w'' = Go.Sort.grow (Go.redrawn wr p.d) p.os := fun q os => Calls.regrown_of (C1.out _)
      have c2 : ∀ q os, Calls Try.prog 37 #[.agg #[.string pk, .int .i64 px, .int .i64 py, .int .i64 pz], .agg #[.string qk, .int .i64 qx, .int .i64 qy, .int .i64 qz]] (Go.Sort.grow (Go.redrawn wr q) os) fun e w'' => e = .returned (.int .i64 cv) ∧ ∃ p : Go.Regrown, w'' = Go.Sort.grow (Go.redrawn wr p.d) p.os := fun q os => Calls.regrown_of (C2.out _)
      have D1 := Lib.hid c1
      have D2 := Lib.hid c2
      clear c1 c2 C1 C2
      have m0 := Go.cell_regrown x0
      have m1 := Go.cell_regrown x1
      have m2 := Go.cell_regrown x2
      have m3 := Go.cell_regrown x3
      have k0 := Go.cell_regrown y0
      have k1 := Go.cell_regrown y1
      have k2 := Go.cell_regrown y2
      have k3 := Go.cell_regrown y3
      clear x0 x1 x2 x3 y0 y1 y2 y3
      have hcc : (cv != cv) = false := by simp
      go_wp2_with fail
      refine Go.wp_region_quiet_below (by kernel_rfl) (by kernel_rfl) ?_
      repeat (quiet_step (first | with_reducible exact D1.out _ _ | with_reducible exact D2.out _ _))
      refine wpQuiet_nil ?_
      intro _ hw'
      obtain ⟨⟨dq, osq⟩, hw''⟩ := hw'
      subst hw''
      have HB9 := Lib.hid (bnext HB.out (Go.below_regrown wr dq osq))
      clear m0 m1 m2 m3 k0 k1 k2 k3
      generalize Go.Sort.grow (Go.redrawn wr dq) osq = W9 at *
      go_wp2_with fail
      go_roundw
      case rel => exact ⟨k + 1, by go_num, by omega, by omega, HB9⟩
      case measure => simp [intOf]; omega
    · have HFIN : (k < A.length ∧ ¬ k < B.length) ∨ ¬ k < A.length := by omega
      have H1 := Lib.hid (And.intro (H.out.1.next HB.out) (H.out.2.next HB.out))
      clear hlt
      have CD := Lib.hid (fun W v1 v2 h1 h2 => diff_any v1 v2 X Y HX.out.1 HY.out.1 (by have := HX.out.2.1; omega) (by have := HY.out.2; omega) W h1 h2)
      have CS := Lib.hid (fun W v hW => sorted_any v A (by omega) W hW)
      have CE := Lib.hid (fun W v1 v2 h1 h2 => equal_any v1 v2 X A (by have := HX.out.2.1; omega) (by omega) W h1 h2)
      have L1 := Lib.hid (fun W v1 v2 t h1 h2 => less_any v1 v2 X Y t (by have := HX.out.2.1; omega) (by have := HY.out.2; omega) W h1 h2)
      have L2 := Lib.hid (fun W v1 v2 t h1 h2 => less_any v1 v2 Y X t (by have := HY.out.2; omega) (by have := HX.out.2.1; omega) W h1 h2)
      have Q1 := Lib.hid (fun W v1 v2 (h1 : EI W v1 (lessS X Y false)) h2 => equal_yes v1 v2 (lessS X Y false) (by have := less_len X Y false; have := HX.out.2.1; omega) W h1 h2)
      have Q2 := Lib.hid (fun W v1 v2 (h1 : EI W v1 (lessS Y X false)) h2 => equal_yes v1 v2 (lessS Y X false) (by have := less_len Y X false; have := HY.out.2; omega) W h1 h2)
      have Q3 := Lib.hid (fun W v1 v2 (h1 : EI W v1 (lessS X Y true)) h2 => equal_yes v1 v2 (lessS X Y true) (by have := less_len X Y true; have := HX.out.2.1; omega) W h1 h2)
      rcases HFIN with ⟨e1, e2⟩ | e1
      all_goals
        first | (have hi1 : (k : Int) < (A.length : Int) := by omega) | (have hi1 : ¬ (k : Int) < (A.length : Int) := by omega)
        first | (have hi2 : ¬ (k : Int) < (B.length : Int) := by omega) | skip
        go_wp2_with fail
        refine (CRA.out _ _ H1.out.1).mono ?_; rintro e w1 ⟨⟨vx, rfl, hx1⟩, hb1⟩
        have B1 := Lib.hid (bnext HB.out hb1)
        have A1 := Lib.hid (And.intro (H1.out.1.next hb1) (And.intro (H1.out.2.next hb1) hx1.in_))
        clear hb1 hx1
        go_wp2_with fail
        refine (CRB.out _ _ A1.out.2.1).mono ?_; rintro e w2 ⟨⟨vy, rfl, hy2⟩, hb2⟩
        have B2 := Lib.hid (bnext B1.out hb2)
        have A2 := Lib.hid (And.intro (A1.out.1.next hb2) (And.intro (A1.out.2.2.next hb2) hy2.in_))
        clear hb2 hy2
        go_wp2_with fail
        refine (CD.out _ _ _ A2.out.2.1 A2.out.2.2).mono ?_; rintro e w3 ⟨⟨v1, v2, v3, rfl, r1, r2, r3⟩, hb3⟩
        have B3 := Lib.hid (bnext B2.out hb3)
        have A3 := Lib.hid (And.intro (A2.out.1.next hb3) (And.intro (A2.out.2.1.next hb3) (And.intro (A2.out.2.2.next hb3) (And.intro r1.in_ (And.intro r2.in_ r3.in_)))))
        clear hb3 r1 r2 r3
        go_wp2_with fail
        refine (CS.out _ _ A3.out.1).mono ?_; rintro e w4 ⟨⟨bs, rfl, hbs⟩, hb4⟩
        have B4 := Lib.hid (bnext B3.out hb4)
        have BS := Lib.hid hbs
        have A4 := Lib.hid (And.intro (A3.out.1.next hb4) (And.intro (A3.out.2.1.next hb4) (And.intro (A3.out.2.2.1.next hb4) (And.intro (A3.out.2.2.2.1.next hb4) (And.intro (A3.out.2.2.2.2.1.next hb4) (A3.out.2.2.2.2.2.next hb4))))))
        clear hb4 hbs
        go_wp2_with fail
        refine (CRA.out _ _ A4.out.1).mono ?_; rintro e w5 ⟨⟨vr, rfl, hr5⟩, hb5⟩
        have B5 := Lib.hid (bnext B4.out hb5)
        have R5 := Lib.hid hr5.in_
        have A5 := Lib.hid (And.intro (A4.out.1.next hb5) (And.intro (A4.out.2.1.next hb5) (And.intro (A4.out.2.2.1.next hb5) (And.intro (A4.out.2.2.2.1.next hb5) (And.intro (A4.out.2.2.2.2.1.next hb5) (A4.out.2.2.2.2.2.next hb5))))))
        clear hb5 hr5
        go_wp2_with fail
        refine (CE.out _ _ _ R5.out A5.out.1).mono ?_; rintro e w6 ⟨⟨be, rfl, hbe⟩, hb6⟩
        have B6 := Lib.hid (bnext B5.out hb6)
        have hbb : be = bs := by
          have h8 := BS.out
          have h9 := HX.out.2.2
          cases be <;> cases bs <;> simp_all
        subst hbb
        have hbq : (be == be) = true := by simp
        have A6 := Lib.hid (And.intro (A5.out.2.1.next hb6) (And.intro (A5.out.2.2.1.next hb6) (And.intro (A5.out.2.2.2.1.next hb6) (And.intro (A5.out.2.2.2.2.1.next hb6) (A5.out.2.2.2.2.2.next hb6)))))
        clear hb6 hbe
        go_wp2_with fail
        refine (L1.out _ _ _ _ A6.out.1 A6.out.2.1).mono ?_; rintro e w7 ⟨⟨u1, rfl, h7⟩, hb7⟩
        have B7 := Lib.hid (bnext B6.out hb7)
        have R7 := Lib.hid h7.in_
        have A7 := Lib.hid (And.intro (A6.out.1.next hb7) (And.intro (A6.out.2.1.next hb7) (And.intro (A6.out.2.2.1.next hb7) (And.intro (A6.out.2.2.2.1.next hb7) (A6.out.2.2.2.2.next hb7)))))
        clear hb7 h7
        go_wp2_with fail
        refine (Q1.out _ _ _ A7.out.2.2.1 R7.out).mono ?_; rintro e w8 ⟨rfl, hb8⟩
        have B8 := Lib.hid (bnext B7.out hb8)
        have A8 := Lib.hid (And.intro (A7.out.1.next hb8) (And.intro (A7.out.2.1.next hb8) (And.intro (A7.out.2.2.2.1.next hb8) (A7.out.2.2.2.2.next hb8))))
        clear hb8
        go_wp2_with fail
        refine (L2.out _ _ _ _ A8.out.2.1 A8.out.1).mono ?_; rintro e w9 ⟨⟨u2, rfl, h9⟩, hb9⟩
        have B9 := Lib.hid (bnext B8.out hb9)
        have R9 := Lib.hid h9.in_
        have A9 := Lib.hid (And.intro (A8.out.1.next hb9) (And.intro (A8.out.2.1.next hb9) (And.intro (A8.out.2.2.1.next hb9) (A8.out.2.2.2.next hb9))))
        clear hb9 h9
        go_wp2_with fail
        refine (Q2.out _ _ _ A9.out.2.2.1 R9.out).mono ?_; rintro e w10 ⟨rfl, hb10⟩
        have B10 := Lib.hid (bnext B9.out hb10)
        have A10 := Lib.hid (And.intro (A9.out.1.next hb10) (And.intro (A9.out.2.1.next hb10) (A9.out.2.2.2.next hb10)))
        clear hb10
        go_wp2_with fail
        refine (L1.out _ _ _ _ A10.out.1 A10.out.2.1).mono ?_; rintro e w11 ⟨⟨u3, rfl, h11⟩, hb11⟩
        have B11 := Lib.hid (bnext B10.out hb11)
        have R11 := Lib.hid h11.in_
        have A11 := Lib.hid (A10.out.2.2.next hb11)
        clear hb11 h11
        go_wp2_with fail
        refine (Q3.out _ _ _ A11.out R11.out).mono ?_; rintro e w12 ⟨rfl, hb12⟩
        have B12 := Lib.hid (bnext B11.out hb12)
        clear hb12
        go_wp2_with fail
        refine (alive36_any _).mono ?_; rintro e w13 ⟨rfl, hb13⟩
        go_wp2_with fail
        go_ret
        exact ⟨rfl, bnext B12.out hb13⟩
theorem rowslaw (va vb : Value) (w : World) (h1 : ∃ L : List En, EI w va L ∧ L.length ≤ maxLen) (h2 : ∃ L : List En, EI w vb L ∧ L.length ≤ maxLen) :
    Calls Try.prog 10 #[va, vb] w fun e w' => e = .returned (.bool true) ∧ Below w.heap.size w w' := by
  obtain ⟨A, hA, mA⟩ := h1
  obtain ⟨B, hB, mB⟩ := h2
  unfold maxLen at mA mB
  by_cases lA : A.length ≤ 60
  · by_cases lB : B.length ≤ 60
    · exact rows_some va vb A B lA lB w hA hB
    · obtain ⟨aa, ca, rfl⟩ := hA.form
      obtain ⟨ab, cb, rfl⟩ := hB.form
      generalize A.length = n at *
      generalize B.length = m at *
      have n1 : ¬ ((60 : Int) < (n : Int)) := by omega
      have n2 : (60 : Int) < (m : Int) := by omega
      go_enter Try.func10, Try.ntmps10
      go_wp2_with fail
      go_ret
      exact ⟨rfl, Below.refl _ _⟩
  · obtain ⟨aa, ca, rfl⟩ := hA.form
    obtain ⟨ab, cb, rfl⟩ := hB.form
    generalize A.length = n at *
    generalize B.length = m at *
    have n1 : (60 : Int) < (n : Int) := by omega
    go_enter Try.func10, Try.ntmps10
    go_wp2_with fail
    go_ret
    exact ⟨rfl, Below.refl _ _⟩
end Go.Proofs.Ytkkhljneeajkmaa
