/- Layer 36 (diffs): slices.Equal, Index, Contains at entries; Sorted. -/
import Derived.Test.YtkkhljneeajkmaaB3
namespace Go.Proofs.Ytkkhljneeajkmaa
open Go.RowKit
attribute [local irreducible] wpQuiet

theorem dnb (w : World) (n : Nat) : Below w.heap.size w (w.drewN n) := ⟨rfl, rfl, rfl, Nat.le_refl _, fun _ _ => rfl⟩
/-- What Equal answers. -/
def EqR (L M : List En) (e : Ending) : Prop := ∃ b : Bool, e = .returned (.bool b) ∧ (b = true ↔ L = M)
set_option maxRecDepth 100000 in
set_option maxHeartbeats 4000000 in
theorem equal_any (v1 v2 : Value) (L M : List En) (hn : L.length ≤ 1000000) (hn2 : M.length ≤ 1000000) (w : World) (h1 : EI w v1 L) (h2 : EI w v2 M) :
    Calls Try.prog 41 #[v1, v2] w fun e w' => EqR L M e ∧ Below w.heap.size w w' := by
  have H1 := Lib.hid h1
  have H2 := Lib.hid h2
  obtain ⟨a1, c1, rfl⟩ := h1.form
  obtain ⟨a2, c2, rfl⟩ := h2.form
  clear h1 h2
  by_cases hlen : L.length = M.length
  · have hb : ((L.length : Int) != (M.length : Int)) = false := by simp [hlen]
    have HLN := Lib.hid hlen
    clear hlen
    have hg := run_enGuard
    go_enter Try.func41, Try.ntmps41
    go_wp2_with fail
    go_loopw [13] (fun i wr => ∃ k m : Nat, i = .int .i64 k ∧ k ≤ L.length ∧ wr = w.drewN m ∧ Hid (∀ i (_ : i < k) (h1 : i < L.length) (h2 : i < M.length), L[i] = M[i])) (fun i _ => L.length - (intOf i).toNat)
    case atStart => exact ⟨0, 0, rfl, by omega, rfl, Lib.hid (fun i hi => absurd hi (by omega))⟩
    case round =>
      obtain ⟨k, m, rfl, hk, rfl, HS⟩ := hrel
      by_cases hlt : k < L.length
      · have hi1 : (k : Int) < (L.length : Int) := by omega
        have hlt2 : k < M.length := by have := HLN.out; omega
        have hi2 : (k : Int) < (M.length : Int) := by omega
        obtain ⟨b1, o1, hb1, x0, x1, x2, x3⟩ := H1.out.at_ k hlt
        obtain ⟨b2, o2, hb2, y0, y1, y2, y3⟩ := H2.out.at_ k hlt2
        subst hb1
        subst hb2
        have HY := Lib.hid (fun (e : L[k] = M[k]) i (h1 : i < k + 1) (h2 : i < L.length) (h3 : i < M.length) => (show L[i] = M[i] from by
          by_cases h4 : i < k
          · exact HS.out i h4 h2 h3
          · have : i = k := by omega
            subst this; exact e))
        have HN := Lib.hid (fun (e : ¬ L[k] = M[k]) => (show ¬ L = M from fun h => e (by simp only [h])))
        have heq := run_neqEn L[k] M[k]
        have HQ := Lib.hid (eqE_iff L[k] M[k])
        unfold En.cells at heq
        generalize L[k] = p at *
        generalize M[k] = q at *
        by_cases hpq : p = q
        · have hq : eqE p q = true := HQ.out.2 hpq
          rw [hq] at heq
          have HR := Lib.hid (HY.out hpq)
          clear HY HN hq hpq
          go_wp2_with fail
          go_quiet (fail)
          go_wp2_with fail
          go_roundw
          case rel => exact ⟨k + 1, m + nq, by go_num, by omega, by first | rfl | (rw [World.drewN_drewN]), HR⟩
          case measure => simp [intOf]; omega
        · have hq : eqE p q = false := by rw [Bool.eq_false_iff]; exact fun e => hpq (HQ.out.1 e)
          rw [hq] at heq
          have HR := Lib.hid (HN.out hpq)
          clear HY HN hq hpq
          go_wp2_with fail
          go_quiet (fail)
          go_wp2_with fail
          go_ret
          exact ⟨show EqR L M _ from ⟨false, rfl, Iff.intro (fun h => by cases h) (fun h => absurd h HR.out)⟩, by first | exact below_drewN (below_drewN (Below.refl _ _) _) _ | exact below_drewN (Below.refl _ _) _⟩
      · have hi1 : ¬ (k : Int) < (L.length : Int) := by omega
        have HR := Lib.hid (show L = M from List.ext_getElem HLN.out (fun i h1 h2 => HS.out i (by omega) h1 h2))
        go_wp2_with fail
        go_ret
        exact ⟨show EqR L M _ from ⟨true, rfl, Iff.intro (fun _ => HR.out) (fun _ => rfl)⟩, below_drewN (Below.refl _ _) _⟩
  · have hb : ((L.length : Int) != (M.length : Int)) = true := by simp; omega
    have HLN := Lib.hid (show ¬ L = M from fun h => hlen (by rw [h]))
    clear hlen
    go_enter Try.func41, Try.ntmps41
    go_wp2_with fail
    go_ret
    exact ⟨show EqR L M _ from ⟨false, rfl, Iff.intro (fun h => by cases h) (fun h => absurd h HLN.out)⟩, Below.refl _ _⟩
set_option maxRecDepth 100000 in
set_option maxHeartbeats 4000000 in
theorem index_any (v : Value) (L : List En) (x : En) (hn : L.length ≤ 1000000) (w : World) (h : EI w v L) :
    Calls Try.prog 101 #[v, .agg x.cells] w fun e w' => (∃ r : Int, e = .returned (.int .i64 r) ∧ Hid (decide (0 ≤ r) = memE L x)) ∧ Below w.heap.size w w' := by
  have H := Lib.hid h
  obtain ⟨a, c, rfl⟩ := h.form
  clear h
  have hg := run_enGuard
  have HB := Lib.hid (show Below w.heap.size w (w.alloc (.cells x.cells 72)) from (Below.refl _ _).alloc (Nat.le_refl _) _)
  have HX := Lib.hid (show Bx (w.alloc (.cells x.cells 72)) w.heap.size 72 x.cells from Bx.fresh _ _ _)
  have HXE := Lib.hid (rfl : x = x)
  unfold En.cells at *
  go_enter Try.func101, Try.ntmps101
  go_wp2_with fail
  generalize hW1 : w.alloc (.cells #[.string x.key, .int .i64 x.st.x, .int .i64 x.st.y, .int .i64 x.st.z] 72) = W1 at *
  clear hW1
  go_loopw [8] (fun i wr => ∃ k m : Nat, i = .int .i64 k ∧ k ≤ L.length ∧ wr = W1.drewN m ∧ Hid (∀ i (_ : i < k) (h1 : i < L.length), eqE x L[i] = false)) (fun i _ => L.length - (intOf i).toNat)
  case atStart => exact ⟨0, 0, rfl, by omega, rfl, Lib.hid (fun i hi => absurd hi (by omega))⟩
  case round =>
    obtain ⟨k, m, rfl, hk, rfl, HS⟩ := hrel
    by_cases hlt : k < L.length
    · have hi1 : (k : Int) < (L.length : Int) := by omega
      obtain ⟨b1, o1, hb1, x0, x1, x2, x3⟩ := (H.out.next HB.out).at_ k hlt
      subst hb1
      have hx := HX.out
      obtain ⟨y0, y1, y2, y3⟩ : W1.cell? ⟨w.heap.size, 0, none⟩ = some (.string x.key) ∧ W1.cell? ⟨w.heap.size, 1, none⟩ = some (.int .i64 x.st.x) ∧ W1.cell? ⟨w.heap.size, 2, none⟩ = some (.int .i64 x.st.y) ∧ W1.cell? ⟨w.heap.size, 3, none⟩ = some (.int .i64 x.st.z) := ⟨hx.read rfl, hx.read rfl, hx.read rfl, hx.read rfl⟩
      clear hx
      have HY := Lib.hid (fun (e : eqE x L[k] = false) i (h1 : i < k + 1) (h2 : i < L.length) => (show eqE x L[i] = false from by
        by_cases h4 : i < k
        · exact HS.out i h4 h2
        · have : i = k := by omega
          subst this; exact e))
      have HN := Lib.hid (fun (e : eqE x L[k] = true) => (show memE L x = true from List.any_eq_true.2 ⟨L[k], List.getElem_mem hlt, e⟩))
      have heq := run_eqEn x L[k]
      unfold En.cells at heq
      generalize L[k] = q at *
      cases hq : eqE x q with
      | true =>
        rw [hq] at heq
        have HR := Lib.hid (HN.out hq)
        clear HY HN hq
        go_wp2_with fail
        go_quiet (fail)
        go_wp2_with fail
        go_ret
        exact ⟨⟨(k : Int), rfl, Lib.hid (by rw [HR.out]; exact decide_eq_true (by omega))⟩, by first | exact below_drewN (below_drewN HB.out _) _ | exact below_drewN HB.out _⟩
      | false =>
        rw [hq] at heq
        have HR := Lib.hid (HY.out hq)
        clear HY HN hq
        go_wp2_with fail
        go_quiet (fail)
        go_wp2_with fail
        go_roundw
        case rel => exact ⟨k + 1, m + nq, by go_num, by omega, by first | rfl | (rw [World.drewN_drewN]), HR⟩
        case measure => simp [intOf]; omega
    · have hi1 : ¬ (k : Int) < (L.length : Int) := by omega
      have HR := Lib.hid (show memE L x = false from by
        rw [Bool.eq_false_iff]
        intro h
        obtain ⟨y, hy, hxy⟩ := List.any_eq_true.1 h
        obtain ⟨i, hi, rfl⟩ := List.mem_iff_getElem.1 hy
        rw [HS.out i (by omega) hi] at hxy
        cases hxy)
      go_wp2_with fail
      go_ret
      exact ⟨⟨-1, rfl, Lib.hid (by rw [HR.out]; rfl)⟩, below_drewN HB.out _⟩
set_option maxRecDepth 100000 in
set_option maxHeartbeats 4000000 in
theorem contains_any (v : Value) (L : List En) (x : En) (hn : L.length ≤ 1000000) (w : World) (h : EI w v L) :
    Calls Try.prog 79 #[v, .agg x.cells] w fun e w' => e = .returned (.bool (memE L x)) ∧ Below w.heap.size w w' := by
  have HB := Lib.hid (show Below w.heap.size w (w.alloc (.cells x.cells 72)) from (Below.refl _ _).alloc (Nat.le_refl _) _)
  have CI := Lib.hid (fun W hW => index_any v L x hn W hW)
  have H := Lib.hid h
  clear h
  unfold En.cells at *
  go_enter Try.func79, Try.ntmps79
  go_wp2_with fail
  refine (CI.out _ (H.out.next HB.out)).mono ?_; rintro e w5 ⟨⟨r, rfl, hr⟩, hb5⟩
  have HB5 := Lib.hid (bnext HB.out hb5)
  clear hb5
  go_wp2_with fail
  go_ret
  exact ⟨cret_b hr.out, HB5.out⟩
end Go.Proofs.Ytkkhljneeajkmaa
