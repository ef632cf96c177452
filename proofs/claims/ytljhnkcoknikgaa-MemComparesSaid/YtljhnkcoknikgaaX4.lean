/- Layer 7 (mut), the document's side: numbers, texts, rows of stamps compared. -/
import Derived.Test.YtljhnkcoknikgaaX3
import Derived.Lib.QuietBelow
namespace Go.Proofs.Ytljhnkcoknikgaa
open Go.RowKit
attribute [local irreducible] wpQuiet

theorem number_any (x y : Int) (w : World) : Calls Try.prog 72 #[.int .i64 x, .int .i64 y] w fun e w' => e = .returned (.int .i64 (cmpI x y)) ∧ w' = w := by
  by_cases h1 : x < y
  · go_enter Try.func72, Try.ntmps72
    go_wp2_with fail
    go_ret
    exact ⟨ret_int (by simp [cmpI, h1]), rfl⟩
  · by_cases h2 : y < x
    · go_enter Try.func72, Try.ntmps72
      go_wp2_with fail
      go_ret
      exact ⟨ret_int (by simp [cmpI, h1, h2]), rfl⟩
    · go_enter Try.func72, Try.ntmps72
      go_wp2_with fail
      go_ret
      exact ⟨ret_int (by unfold cmpI; rw [if_neg (by omega), if_neg (by omega)]), rfl⟩
theorem bl_total : ∀ a b : List UInt8, Op.bytesLess a b = false → (a == b) = false → Op.bytesLess b a = true
  | [], [], _, h => by simp at h
  | [], _ :: _, h, _ => by simp [Op.bytesLess] at h
  | _ :: _, [], _, _ => by simp [Op.bytesLess]
  | x :: a, y :: b, h, h2 => by
    unfold Op.bytesLess at h ⊢
    have e1 : x < y ∨ x = y ∨ y < x := by
      rcases Nat.lt_trichotomy x.toNat y.toNat with h | h | h
      · exact .inl h
      · exact .inr (.inl (UInt8.toNat_inj.1 h))
      · exact .inr (.inr h)
    rcases e1 with e | e | e
    · simp [e] at h
    · subst e
      simp at h ⊢
      exact bl_total a b h (by simpa using h2)
    · simp [e]
theorem bl_anti : ∀ a b : List UInt8, Op.bytesLess a b = true → Op.bytesLess b a = false
  | [], [], h => by simp [Op.bytesLess] at h
  | [], _ :: _, _ => by simp [Op.bytesLess]
  | _ :: _, [], h => by simp [Op.bytesLess] at h
  | x :: a, y :: b, h => by
    unfold Op.bytesLess at h ⊢
    have e1 : x < y ∨ x = y ∨ y < x := by
      rcases Nat.lt_trichotomy x.toNat y.toNat with h | h | h
      · exact .inl h
      · exact .inr (.inl (UInt8.toNat_inj.1 h))
      · exact .inr (.inr h)
    rcases e1 with e | e | e
    · have e2 : ¬ y < x := fun h => Nat.lt_asymm e h
      have e3 : ¬ y = x := fun h => by subst h; exact Nat.lt_irrefl _ e
      simp [e2, e3]
    · subst e
      simp at h ⊢
      exact bl_anti a b h
    · have e2 : ¬ x < y := fun h => Nat.lt_asymm e h
      have e3 : ¬ x = y := fun h => by subst h; exact Nat.lt_irrefl _ e
      simp [e2, e3] at h
theorem ntext_any (x y : ByteArray) (w : World) : Calls Try.prog 73 #[.string x, .string y] w fun e w' => e = .returned (.int .i64 (cmpT x y)) ∧ w' = w := by
  cases h : Op.bytesLess x.toList y.toList with
  | true =>
    have HV := Lib.hid (show (-1 : Int) = cmpT x y by unfold cmpT; rw [if_pos h])
    go_enter Try.func73, Try.ntmps73
    go_wp2_with fail
    go_ret
    exact ⟨ret_int HV.out, rfl⟩
  | false =>
    cases h2 : (x.toList == y.toList) with
    | true =>
      have HV := Lib.hid (show (0 : Int) = cmpT x y by unfold cmpT; rw [if_neg (by rw [h]; simp), if_pos h2])
      have h3 : Op.bytesLess y.toList x.toList = false := by
        have e : x.toList = y.toList := by simpa using h2
        rw [e]; exact bl_irr _
      go_enter Try.func73, Try.ntmps73
      go_wp2_with fail
      go_ret
      exact ⟨ret_int HV.out, rfl⟩
    | false =>
      have HV := Lib.hid (show (1 : Int) = cmpT x y by unfold cmpT; rw [if_neg (by rw [h]; simp), if_neg (by rw [h2]; simp)])
      have h3 : Op.bytesLess y.toList x.toList = true := bl_total _ _ h h2
      go_enter Try.func73, Try.ntmps73
      go_wp2_with fail
      go_ret
      exact ⟨ret_int HV.out, rfl⟩
theorem rowsC_len : ∀ (l m : List St) (k : Nat), k ≤ l.length → k ≤ m.length → rowsC (l.drop k) (m.drop k) = rowsC l m → (k = l.length ∨ k = m.length) → cmpI l.length m.length = rowsC l m := by
  intro l m k h1 h2 h3 h4
  rw [← h3]
  rcases h4 with h4 | h4
  · by_cases h5 : k = m.length
    · rw [List.drop_of_length_le (by omega), List.drop_of_length_le (by omega)]
      have : (l.length : Int) = m.length := by omega
      rw [this, cmpI_self]; rfl
    · rw [List.drop_of_length_le (by omega), List.drop_eq_getElem_cons (by omega)]
      unfold cmpI
      rw [if_pos (by omega)]; rfl
  · by_cases h5 : k = l.length
    · rw [List.drop_of_length_le (by omega), List.drop_of_length_le (by omega)]
      have : (l.length : Int) = m.length := by omega
      rw [this, cmpI_self]; rfl
    · rw [List.drop_of_length_le (l := m) (by omega), List.drop_eq_getElem_cons (by omega)]
      unfold cmpI
      rw [if_neg (by omega), if_pos (by omega)]; rfl
set_option maxRecDepth 100000 in
set_option maxHeartbeats 4000000 in
theorem rows_any (v1 v2 : Value) (L1 L2 : List St) (hn1 : L1.length ≤ 100000) (hn2 : L2.length ≤ 100000) (w : World) (h1 : SI w v1 L1) (h2 : SI w v2 L2) :
    Calls Try.prog 74 #[v1, v2] w fun e w' => e = .returned (.int .i64 (rowsC L1 L2)) ∧ Below w.heap.size w w' := by
  obtain ⟨a1, c1, rfl⟩ := h1.form
  obtain ⟨a2, c2, rfl⟩ := h2.form
  have H1 := Hid.mk' (And.intro h1 h2)
  clear h1 h2
  go_enter Try.func74, Try.ntmps74
  go_wp2_with fail
  go_loopw [5, 6] (fun i _ wr => ∃ k : Nat, i = .int .i64 k ∧ k ≤ L1.length ∧ k ≤ L2.length ∧ Hid (Below w.heap.size w wr) ∧ Hid (rowsC (L1.drop k) (L2.drop k) = rowsC L1 L2)) (fun i _ _ => L1.length - (intOf i).toNat)
  case atStart => exact ⟨0, rfl, by omega, by omega, Hid.mk' (Below.refl _ _), Hid.mk' (by simp)⟩
  case round =>
    obtain ⟨k, rfl, hk1, hk2, HB, HR⟩ := hrel
    by_cases hlt : k < L1.length ∧ k < L2.length
    · obtain ⟨h1, h2⟩ := hlt
      obtain ⟨g1, f1, rfl, r0, r1, r2⟩ := (H1.out.1.next HB.out).at_ k h1
      obtain ⟨g2, f2, rfl, s0, s1, s2⟩ := (H1.out.2.next HB.out).at_ k h2
      have C := Hid.mk' (fun W => refcompare_any L1[k] L2[k] W)
      have HR2 := Hid.mk' (show rowsC (L1[k] :: L1.drop (k + 1)) (L2[k] :: L2.drop (k + 1)) = rowsC L1 L2 by rw [← List.drop_eq_getElem_cons h1, ← List.drop_eq_getElem_cons h2]; exact HR.out)
      clear HR
      have hi1 : (k : Int) < (L1.length : Int) := by omega
      have hi2 : (k : Int) < (L2.length : Int) := by omega
      generalize L1[k] = p at *
      generalize L2[k] = q at *
      obtain ⟨p1, p2, p3⟩ := p
      obtain ⟨q1, q2, q3⟩ := q
      unfold St.cells at C
      dsimp only at *
      generalize hz0 : cmpS ⟨p1, p2, p3⟩ ⟨q1, q2, q3⟩ = z at *
      have d1 : ∀ q os, Calls Try.prog 71 #[.agg #[.int .i64 p1, .int .i64 p2, .int .i64 p3], .agg #[.int .i64 q1, .int .i64 q2, .int .i64 q3]] (Go.Sort.grow (Go.redrawn wr q) os) fun e w'' => e = .returned (.int .i64 z) ∧ ∃ p : Go.Regrown, w'' = Go.Sort.grow (Go.redrawn wr p.d) p.os := fun q os => Calls.regrown_of (C.out _)
      have D1 := Lib.hid d1
      have m0 := Go.cell_regrown r0
      have m1 := Go.cell_regrown r1
      have m2 := Go.cell_regrown r2
      have n0 := Go.cell_regrown s0
      have n1 := Go.cell_regrown s1
      have n2 := Go.cell_regrown s2
      clear r0 r1 r2 s0 s1 s2 C d1
      go_wp2_with fail
      refine Go.wp_region_quiet_below (by kernel_rfl) (by kernel_rfl) ?_
      repeat (quiet_step (first | with_reducible exact D1.out _ _))
      refine wpQuiet_nil ?_
      intro _ hw'
      obtain ⟨⟨dq, osq⟩, hw''⟩ := hw'
      subst hw''
      have HB9 := Lib.hid (bnext HB.out (Go.below_regrown wr dq osq))
      clear m0 m1 m2 n0 n1 n2
      generalize Go.Sort.grow (Go.redrawn wr dq) osq = W9 at *
      by_cases hz : z = 0
      · have HR3 := Hid.mk' (show rowsC (L1.drop (k + 1)) (L2.drop (k + 1)) = rowsC L1 L2 by have h := HR2.out; rw [rowsC, hz0, if_neg (by simpa using hz)] at h; exact h)
        clear HR2 hz0
        subst hz
        go_wp2_with fail
        go_roundw
        case rel => exact ⟨k + 1, by go_num, by omega, by omega, HB9, HR3⟩
        case measure => simp [intOf]; omega
      · have HR3 := Hid.mk' (show z = rowsC L1 L2 by have h := HR2.out; rw [rowsC, hz0, if_pos (by simpa using hz)] at h; exact h)
        clear HR2 hz0
        have hz2 : (z != 0) = true := by simp [hz]
        clear hz
        go_wp2_with fail
        go_ret
        exact ⟨ret_int HR3.out, HB9.out⟩
    · have HR3 := Lib.hid (rowsC_len L1 L2 k hk1 hk2 HR.out (by omega))
      have hcs : (k < L1.length ∧ ¬ k < L2.length) ∨ ¬ k < L1.length := by omega
      have CN := Lib.hid (fun W => number_any L1.length L2.length W)
      clear HR hlt
      rcases hcs with ⟨h1, h2⟩ | h1
      all_goals
        first | (have hi1 : (k : Int) < (L1.length : Int) := by omega) | (have hi1 : ¬ (k : Int) < (L1.length : Int) := by omega)
        first | (have hi2 : ¬ (k : Int) < (L2.length : Int) := by omega) | skip
        go_wp2_with fail
        refine (CN.out _).mono ?_; rintro e w1 ⟨rfl, rfl⟩
        rw [HR3.out]
        go_wp2_with fail
        go_ret
        exact ⟨rfl, HB.out⟩
end Go.Proofs.Ytljhnkcoknikgaa
