/- Layer 41 (skew): Within; the document's Ahead. -/
import Derived.Test.YtkkhljneeajkmaaC4
import Derived.Deep.LoopGhost
namespace Go.Proofs.Ytkkhljneeajkmaa
open Go.RowKit

theorem wth_no {R : RT} {slack : Int} {n a b : Nat} (ha : a < n) (hb : b < n) (h : ¬ R.most a b ≤ slack) : wth R slack n = false := by
  unfold wth
  rw [Bool.eq_false_iff]
  intro h1
  rw [List.all_eq_true] at h1
  have h2 := h1 a (List.mem_range.2 ha)
  rw [List.all_eq_true] at h2
  have h3 := h2 b (List.mem_range.2 hb)
  exact h (of_decide_eq_true h3)
theorem wth_yes {R : RT} {slack : Int} {n : Nat} (h : ∀ a, a < n → ∀ b, b < n → R.most a b ≤ slack) : wth R slack n = true := by
  unfold wth
  rw [List.all_eq_true]
  intro a ha
  rw [List.all_eq_true]
  intro b hb
  exact decide_eq_true (h a (List.mem_range.1 ha) b (List.mem_range.1 hb))
set_option maxRecDepth 100000 in
set_option maxHeartbeats 4000000 in
theorem within_any (g : Nat) (slack : Int) (n : Nat) (hn : n ≤ 5) (R : RT) (w : World) (h : RB w g R) :
    Calls Try.prog 70 #[.pointer (some ⟨g, 0, none⟩), .int .i64 slack, .int .i64 n] w fun e w' => e = .returned (.bool (wth R slack n)) ∧ w' = w := by
  have HR := Lib.hid h
  clear h
  have hmin : min (n : Int) 5 = (n : Int) := by omega
  go_enter Try.func70, Try.ntmps70
  go_wp2_with fail
  clear hmin
  go_loopg [12] n (fun gh i wr => ∃ a : Nat, i = .int .i64 a ∧ a ≤ n ∧ wr = w ∧ Hid (gh = n - a) ∧ Hid (∀ x, x < a → ∀ y, y < n → R.most x y ≤ slack))
  case atStart => exact ⟨0, rfl, Nat.zero_le _, rfl, Lib.hid rfl, Lib.hid (fun x hx => absurd hx (by omega))⟩
  case round =>
    obtain ⟨a, rfl, ha, rfl, HG, HM⟩ := hrel
    by_cases hlt : a < n
    · have hi1 : (a : Int) < (n : Int) := by omega
      go_wp2_with fail
      go_loopg [16] n (fun gh i wx => ∃ b : Nat, i = .int .i64 b ∧ b ≤ n ∧ wx = wr ∧ Hid (gh = n - b) ∧ Hid (∀ y, y < b → R.most a y ≤ slack))
      case atStart => exact ⟨0, rfl, Nat.zero_le _, rfl, Lib.hid rfl, Lib.hid (fun x hx => absurd hx (by omega))⟩
      case round =>
        obtain ⟨b, rfl, hb, rfl, HG2, HM2⟩ := hrel
        by_cases hlt2 : b < n
        · have hi2 : (b : Int) < (n : Int) := by omega
          have CA := Lib.hid (ahead_any g a b R (by omega) (by omega) _ HR.out)
          have HN := Lib.hid (fun hv => @wth_no R slack n a b hlt hlt2 hv)
          have HY := Lib.hid (fun (hv : R.most a b ≤ slack) y (hy : y < b + 1) => (show R.most a y ≤ slack from by
            by_cases h3 : y < b
            · exact HM2.out y h3
            · have : y = b := by omega
              subst this; exact hv))
          generalize R.most a b = m at *
          go_wp2_with fail
          refine CA.out.mono ?_; rintro e w5 ⟨rfl, rfl⟩
          by_cases hv : m ≤ slack
          · have hv2 : ¬ slack < m := by omega
            have HM3 := Lib.hid (HY.out hv)
            clear HN HY
            go_wp2_with fail
            go_roundg (n - (b + 1))
            case measure => have := HG2.out; omega
            case rel => exact ⟨b + 1, by go_num, by omega, by first | rfl | trivial, by first | rfl | (exact Lib.hid rfl), HM3⟩
          · have hv2 : slack < m := by omega
            have HF := Lib.hid (HN.out (by omega))
            clear HN HY
            go_wp2_with fail
            go_ret
            exact ⟨cret_b HF.out.symm, rfl⟩
        · have hi2 : ¬ (b : Int) < (n : Int) := by omega
          have HM3 := Lib.hid (show ∀ x, x < a + 1 → ∀ y, y < n → R.most x y ≤ slack from fun x hx y hy => by
            by_cases h3 : x < a
            · exact HM.out x h3 y hy
            · have : x = a := by omega
              subst this; exact HM2.out y (by omega))
          go_wp2_with fail
          go_roundg (n - (a + 1))
          case measure => have := HG.out; omega
          case rel => exact ⟨a + 1, by go_num, by omega, by first | rfl | trivial, by first | rfl | (exact Lib.hid rfl), HM3⟩
    · have hi1 : ¬ (a : Int) < (n : Int) := by omega
      have HF := Lib.hid (wth_yes (fun x hx y hy => HM.out x (by omega) y hy))
      go_wp2_with fail
      go_ret
      exact ⟨cret_b HF.out.symm, rfl⟩
/-- A slice that reads as ticks of the document. -/
def TI (w : World) (v : Value) (L : List (Int × Int)) : Prop :=
  ∃ a cap, v = .slice a L.length cap ∧ (L ≠ [] → ∃ b off, a = some ⟨b, off, none⟩ ∧ ∀ i (h : i < L.length), w.cell? ⟨b, off + i * 2, none⟩ = some (.int .i64 L[i].1) ∧ w.cell? ⟨b, off + i * 2 + 1, none⟩ = some (.int .i64 L[i].2))
/-- Ticks as they may be. -/
def TOk (L : List (Int × Int)) : Prop := ∀ x ∈ L, (0 ≤ x.1 ∧ x.1 < 5) ∧ 0 ≤ x.2 ∧ x.2 ≤ 64
theorem drop_cons {α : Type} (l : List α) (k : Nat) (h : k < l.length) : l.drop k = l[k] :: l.drop (k + 1) := List.drop_eq_getElem_cons h
set_option maxRecDepth 100000 in
set_option maxHeartbeats 8000000 in
theorem refahead_some (v : Value) (L : List (Int × Int)) (a b : Nat) (ha : a < 5) (hb : b < 5) (hab : a ≠ b) (hl : L.length ≤ 60) (hok : TOk L) (w : World) (h : TI w v L) :
    Calls Try.prog 35 #[v, .int .i64 2, .int .i64 a, .int .i64 b] w fun e w' => e = .returned (.int .i64 (ahd a b L 0)) ∧ w' = w := by
  have HR := Lib.hid h
  obtain ⟨av, cv, rfl, hc⟩ := h
  clear hc
  have HOK := Lib.hid hok
  clear hok
  have n1 : ((a : Int) == (b : Int)) = false := by simp; omega
  have n2 : ¬ ((a : Int) < 0) := by omega
  have n3 : ¬ ((b : Int) < 0) := by omega
  have n4 : ¬ ((5 : Int) ≤ (a : Int)) := by omega
  have n5 : ¬ ((5 : Int) ≤ (b : Int)) := by omega
  have HAB := Lib.hid hab
  clear hab
  generalize hA : (a : Int) = A at *
  generalize hB : (b : Int) = B at *
  have HQ := Lib.hid (show A ≠ B from by have := HAB.out; omega)
  clear hA hB HAB ha hb
  go_enter Try.func35, Try.ntmps35
  go_wp2_with fail
  clear n1 n2 n3 n4 n5
  go_loopg [9, 10] L.length (fun gh bs i wr => ∃ (k : Nat) (best : Int), i = .int .i64 k ∧ bs = .int .i64 best ∧ k ≤ L.length ∧ wr = w ∧ Hid (gh = L.length - k) ∧ Hid (ahd A B (L.drop k) best = ahd A B L 0))
  case atStart => exact ⟨0, 0, rfl, rfl, Nat.zero_le _, rfl, Lib.hid rfl, Lib.hid rfl⟩
  case round =>
    obtain ⟨i, best, rfl, rfl, hi, rfl, HG, HE⟩ := hrel
    by_cases hlt : i < L.length
    · have hi1 : (i : Int) < (L.length : Int) := by omega
      have HE1 := Lib.hid (show ahd A B (L.drop (i + 1)) (inn A B (L.drop i) 0 best) = ahd A B L 0 from by
        have := HE.out
        rw [drop_cons L i hlt] at this ⊢
        exact this)
      generalize hIe : inn A B (L.drop i) 0 best = I at HE1
      have HI := Lib.hid hIe
      clear hIe
      go_wp2_with fail
      go_loopg [9, 11, 12] (L.length - i) (fun gh bs n11 i12 wx => ∃ (k : Nat) (n bst : Int), i12 = .int .i64 k ∧ n11 = .int .i64 n ∧ bs = .int .i64 bst ∧ k ≤ L.length ∧ -128 * (k : Int) ≤ n ∧ n ≤ 64 * (k : Int) ∧ wx = wr ∧ Hid (gh = L.length - k) ∧ Hid (inn A B (L.drop k) n bst = I))
      case atStart => exact ⟨i, 0, best, rfl, rfl, rfl, hi, by omega, by omega, rfl, Lib.hid rfl, HI⟩
      case round =>
        obtain ⟨k, n, best2, rfl, rfl, rfl, hk, hn1, hn2, rfl, HG2, HI2⟩ := hrel
        clear HI
        by_cases hlt2 : k < L.length
        · have hi2 : (k : Int) < (L.length : Int) := by omega
          obtain ⟨a', cap', hv, hc⟩ := id HR.out
          obtain ⟨b0, off, hb0, hcell⟩ := hc (fun e => by rw [e] at hlt2; simp at hlt2)
          subst hb0
          cases hv
          obtain ⟨x0, x1⟩ := hcell k hlt2
          have HX := Lib.hid (HOK.out L[k] (List.getElem_mem hlt2))
          replace HI2 := Lib.hid (show inn A B (L.drop (k + 1)) (stp A B n L[k]) (max best2 (stp A B n L[k])) = I from by
            have := HI2.out
            rw [drop_cons L k hlt2] at this
            exact this)
          clear hcell hc
          generalize L[k] = p at *
          obtain ⟨w0, t⟩ := p
          dsimp only at x0 x1 HX
          obtain ⟨_, ht1, ht2⟩ := HX.out
          try dsimp only at ht1 ht2
          by_cases hwA : w0 = A
          · have e1 : (w0 == A) = true := by simp [hwA]
            have e2 : (w0 == B) = false := by have := HQ.out; simp; omega
            replace HI2 := Lib.hid (show inn A B (L.drop (k + 1)) (n + t) (max best2 (n + t)) = I from by
              have := HI2.out
              unfold stp at this
              dsimp only at this
              rw [if_pos hwA, if_neg (by have := HQ.out; omega), Int.sub_zero] at this
              exact this)
            clear hwA
            by_cases hgt : best2 < n + t
            · have HI3 := Lib.hid (show inn A B (L.drop (k + 1)) (n + t) (n + t) = I from by have := HI2.out; rw [show max best2 (n + t) = n + t from by omega] at this; exact this)
              clear HI2
              go_wp2_with fail
              go_roundg (L.length - (k + 1))
              case measure => have := HG2.out; omega
              case rel => exact ⟨k + 1, n + t, n + t, by go_num, by go_num, by go_num, by omega, by omega, by omega, by first | rfl | trivial, by first | rfl | (exact Lib.hid rfl), HI3⟩
            · have HI3 := Lib.hid (show inn A B (L.drop (k + 1)) (n + t) best2 = I from by have := HI2.out; rw [show max best2 (n + t) = best2 from by omega] at this; exact this)
              clear HI2
              go_wp2_with fail
              go_roundg (L.length - (k + 1))
              case measure => have := HG2.out; omega
              case rel => exact ⟨k + 1, n + t, best2, by go_num, by go_num, rfl, by omega, by omega, by omega, by first | rfl | trivial, by first | rfl | (exact Lib.hid rfl), HI3⟩
          · have e1 : (w0 == A) = false := by simp [hwA]
            by_cases hwB : w0 = B
            · have e2 : (w0 == B) = true := by simp [hwB]
              replace HI2 := Lib.hid (show inn A B (L.drop (k + 1)) (n - 2 * t) (max best2 (n - 2 * t)) = I from by
                have := HI2.out
                unfold stp at this
                dsimp only at this
                rw [if_neg hwA, if_pos hwB] at this
                exact this)
              clear hwA hwB
              by_cases hgt : best2 < n - 2 * t
              · have HI3 := Lib.hid (show inn A B (L.drop (k + 1)) (n - 2 * t) (n - 2 * t) = I from by have := HI2.out; rw [show max best2 (n - 2 * t) = n - 2 * t from by omega] at this; exact this)
                clear HI2
                go_wp2_with fail
                go_roundg (L.length - (k + 1))
                case measure => have := HG2.out; omega
                case rel => exact ⟨k + 1, n - 2 * t, n - 2 * t, by go_num, by go_num, by go_num, by omega, by omega, by omega, by first | rfl | trivial, by first | rfl | (exact Lib.hid rfl), HI3⟩
              · have HI3 := Lib.hid (show inn A B (L.drop (k + 1)) (n - 2 * t) best2 = I from by have := HI2.out; rw [show max best2 (n - 2 * t) = best2 from by omega] at this; exact this)
                clear HI2
                go_wp2_with fail
                go_roundg (L.length - (k + 1))
                case measure => have := HG2.out; omega
                case rel => exact ⟨k + 1, n - 2 * t, best2, by go_num, by go_num, rfl, by omega, by omega, by omega, by first | rfl | trivial, by first | rfl | (exact Lib.hid rfl), HI3⟩
            · have e2 : (w0 == B) = false := by simp [hwB]
              replace HI2 := Lib.hid (show inn A B (L.drop (k + 1)) n (max best2 n) = I from by
                have := HI2.out
                unfold stp at this
                dsimp only at this
                rw [if_neg hwA, if_neg hwB, Int.sub_zero] at this
                exact this)
              clear hwA hwB
              by_cases hgt : best2 < n
              · have HI3 := Lib.hid (show inn A B (L.drop (k + 1)) (n) (n) = I from by have := HI2.out; rw [show max best2 (n) = n from by omega] at this; exact this)
                clear HI2
                go_wp2_with fail
                go_roundg (L.length - (k + 1))
                case measure => have := HG2.out; omega
                case rel => exact ⟨k + 1, n, n, by go_num, by go_num, by go_num, by omega, by omega, by omega, by first | rfl | trivial, by first | rfl | (exact Lib.hid rfl), HI3⟩
              · have HI3 := Lib.hid (show inn A B (L.drop (k + 1)) (n) best2 = I from by have := HI2.out; rw [show max best2 (n) = best2 from by omega] at this; exact this)
                clear HI2
                go_wp2_with fail
                go_roundg (L.length - (k + 1))
                case measure => have := HG2.out; omega
                case rel => exact ⟨k + 1, n, best2, by go_num, by go_num, rfl, by omega, by omega, by omega, by first | rfl | trivial, by first | rfl | (exact Lib.hid rfl), HI3⟩
        · have hi2 : ¬ (k : Int) < (L.length : Int) := by omega
          have HE2 := Lib.hid (show ahd A B (L.drop (i + 1)) best2 = ahd A B L 0 from by
            rw [← HE1.out, ← HI2.out, List.drop_eq_nil_of_le (show L.length ≤ k by omega)]
            rfl)
          clear HE HE1 HI2
          go_wp2_with fail
          go_roundg (L.length - (i + 1))
          case measure => have := HG.out; omega
          case rel => exact ⟨i + 1, best2, by go_num, rfl, by omega, by first | rfl | trivial, by first | rfl | (exact Lib.hid rfl), HE2⟩
    · have hi1 : ¬ (i : Int) < (L.length : Int) := by omega
      have HF := Lib.hid (show best = ahd A B L 0 from by
        have := HE.out
        rw [List.drop_eq_nil_of_le (show L.length ≤ i by omega)] at this
        exact this)
      go_wp2_with fail
      go_ret
      exact ⟨ret_int HF.out, rfl⟩
theorem refahead_any (v : Value) (L : List (Int × Int)) (a b : Nat) (ha : a < 5) (hb : b < 5) (hl : L.length ≤ 60) (hok : TOk L) (w : World) (h : TI w v L) :
    Calls Try.prog 35 #[v, .int .i64 2, .int .i64 a, .int .i64 b] w fun e w' => e = .returned (.int .i64 ((RT.of L).most a b)) ∧ w' = w := by
  have hz : ∀ z ∈ L, 0 ≤ z.1 ∧ 0 ≤ z.2 := fun z hz => ⟨(hok z hz).1.1, (hok z hz).2.1⟩
  rw [RT.of_ahd a b ha hb L hz]
  by_cases hab : a = b
  · subst hab
    rw [if_pos rfl]
    obtain ⟨av, cv, rfl, hc⟩ := h
    have n1 : ((a : Int) == (a : Int)) = true := by simp
    clear hz hc
    generalize (a : Int) = A at *
    go_enter Try.func35, Try.ntmps35
    go_wp2_with fail
    go_ret
    exact ⟨rfl, rfl⟩
  · rw [if_neg hab]
    exact refahead_some v L a b ha hb hab hl hok w h
end Go.Proofs.Ytkkhljneeajkmaa
