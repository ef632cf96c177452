/- Layer 43 (pick): the statement PickAll's walk: no range is forgotten. -/
import Derived.Test.YtkkhljneeajkmaaP8
namespace Go.Proofs.Ytkkhljneeajkmaa
open Go.RowKit

/-- What the statement asks of a range. -/
def Meek (now : Int) (d : Nd) : Prop := d.waiting ≤ 0 ∧ d.waste ≤ 9 ∧ now - 1000 ≤ d.last ∧ d.last ≤ now
theorem meek_all (now : Int) (L : List Nd) (h1 : 1000 ≤ now) (h2 : now ≤ 1073741824) (hl : 1 ≤ L.length) (hl8 : L.length ≤ 8) (h : ∀ i, i < L.length → Meek now (nd L i)) (i : Nat) (hi : i < L.length) :
    i ∈ planI (now + 5) (now + 5 + 10 * L.length) 5 (2 * L.length) L := by
  unfold planI
  have e1 : max (tkI 5) 1 = 5 := by unfold tkI; omega
  have e2 : tkI (now + 5) = now + 5 := by unfold tkI; omega
  have e3 : tkI (now + 5 + 10 * L.length) = now + 5 + 10 * L.length := by unfold tkI; omega
  rw [e1, e2, e3]
  have hc := cnt_le now (nd L) L.length
  refine plan_all now _ _ L.length (by omega) (by omega) 1000 (nd L) (now + 5) [] ?_ ?_ (by omega) (by omega) (by omega) (by simp; omega) i hi
  · intro i hi
    obtain ⟨a, b, c, d⟩ := h i hi
    exact ⟨⟨a, b, by omega⟩, by omega⟩
  · intro i hi
    exact .inl (h i hi).2.2.2
theorem planS_len (step fin most : Int) (n : Nat) : ∀ (k : Nat) (f : Nat → Nd) (t : Int) (acc : List Nat), (planS step fin most n k f t acc).length ≤ acc.length + k := by
  intro k
  induction k with
  | zero => intro f t acc; exact Nat.le_refl _
  | succ k ih =>
    intro f t acc
    unfold planS
    split
    · omega
    · split
      · rename_i j _
        have := ih (upd f j ⟨t, 0, 0⟩) (t + step) (acc ++ [j])
        refine Nat.le_trans this ?_
        simp; omega
      · have := ih f (t + step) acc
        omega
theorem planI_len (a b c d : Int) (L : List Nd) : (planI a b c d L).length ≤ 1000 := by
  unfold planI
  have := planS_len (max (tkI c) 1) (tkI b) d L.length 1000 (nd L) (tkI a) []
  simpa using this
theorem zz_any (R : List Nat) (i : Nat) (h : i ∈ R) : (zz R).any (fun y => (i : Int) == y) = true := by
  rw [List.any_eq_true]
  exact ⟨(i : Int), List.mem_map.2 ⟨i, h, rfl⟩, by simp⟩
set_option maxRecDepth 100000 in
set_option maxHeartbeats 16000000 in
theorem all_some (now : Int) (v : Value) (L : List Nd) (h1 : 1000 ≤ now) (h2 : now ≤ 1073741824) (hl : 1 ≤ L.length) (hl8 : L.length ≤ 8) (w : World) (h : NI w v L) :
    Calls Try.prog 7 #[v, .int .i64 now] w fun e w' => e = .returned (.bool true) ∧ Below w.heap.size w w' := by
  have HR := Lib.hid h
  have CP := Lib.hid (plan_any (now + 5) (now + 5 + 10 * L.length) 5 (2 * L.length) v L (by omega) w h)
  have HALL := Lib.hid (meek_all now L h1 h2 hl hl8)
  obtain ⟨av, cv, rfl⟩ := h.form
  have hcs := fun i hi => h.cells i hi
  obtain ⟨b, off, rfl, _⟩ := hcs 0 (by omega)
  clear hcs h
  have a1 : ¬ ((L.length : Int) < 1) := by omega
  have a2 : ¬ ((8 : Int) < (L.length : Int)) := by omega
  go_enter Try.func7, Try.ntmps7
  go_wp2_with fail
  go_loopw [5] (fun i wr => ∃ k : Nat, i = .int .i64 k ∧ k ≤ L.length ∧ wr = w ∧ Hid (∀ i, i < k → Meek now (nd L i))) (fun i _ => L.length - (intOf i).toNat)
  case atStart => exact ⟨0, rfl, Nat.zero_le _, rfl, Lib.hid (fun i hi => absurd hi (by omega))⟩
  case round =>
    obtain ⟨k, rfl, hk, rfl, HM⟩ := hrel
    by_cases hlt : k < L.length
    · have hi1 : (k : Int) < (L.length : Int) := by omega
      obtain ⟨b', off', hab, x0, x1, x2⟩ := HR.out.cells k hlt
      cases hab
      have HMK := Lib.hid (fun (hm : Meek now (nd L k)) i (hi : i < k + 1) => (show Meek now (nd L i) from by
        by_cases h3 : i < k
        · exact HM.out i h3
        · have : i = k := by omega
          subst this
          exact hm))
      generalize nd L k = d at *
      obtain ⟨dl, dw, dt⟩ := d
      dsimp only at *
      by_cases c1 : 0 < dt
      · go_wp2_with fail
        go_ret
        exact ⟨rfl, Below.refl _ _⟩
      · have d1 : decide (0 < dt) = false := decide_eq_false c1
        by_cases c2 : 9 < dw
        · go_wp2_with fail
          go_ret
          exact ⟨rfl, Below.refl _ _⟩
        · have d2 : decide (9 < dw) = false := decide_eq_false c2
          by_cases c3 : dl < now - 1000
          · go_wp2_with fail
            go_ret
            exact ⟨rfl, Below.refl _ _⟩
          · have d3 : decide (dl < now - 1000) = false := decide_eq_false c3
            by_cases c4 : now < dl
            · go_wp2_with fail
              go_ret
              exact ⟨rfl, Below.refl _ _⟩
            · have d4 : decide (now < dl) = false := decide_eq_false c4
              have HM1 := Lib.hid (HMK.out ⟨by dsimp only; omega, by dsimp only; omega, by dsimp only; omega, by dsimp only; omega⟩)
              clear HMK
              go_wp2_with fail
              go_roundw
              case rel => exact ⟨k + 1, by go_num, by omega, by first | rfl | trivial, HM1⟩
              case measure => simp [intOf]; omega
    · have hi1 : ¬ (k : Int) < (L.length : Int) := by omega
      have HIN := Lib.hid (fun i hi => zz_any _ i (HALL.out (fun i hi => HM.out i (by omega)) i hi))
      have HLN : (planI (now + 5) (now + 5 + 10 * L.length) 5 (2 * L.length) L).length ≤ 1000 := planI_len _ _ _ _ _
      generalize planI (now + 5) (now + 5 + 10 * L.length) 5 (2 * L.length) L = R at *
      clear HALL HM
      go_wp2_with fail
      refine CP.out.mono ?_; rintro e w3 ⟨⟨vp, rfl, hO3⟩, hb3⟩
      have HO3 := Lib.hid hO3
      have HB3 := Lib.hid hb3
      clear hO3 hb3 CP
      go_wp2_with fail
      go_loopw [7] (fun i wx => ∃ k : Nat, i = .int .i64 k ∧ k ≤ L.length ∧ Hid (IO wx wr.heap.size vp (zz R)) ∧ Hid (Below wr.heap.size wr wx)) (fun i _ => L.length - (intOf i).toNat)
      case atStart => exact ⟨0, rfl, Nat.zero_le _, HO3, HB3⟩
      case round =>
        obtain ⟨m, rfl, hm, HO, HB⟩ := hrel
        clear HO3 HB3
        by_cases hlt2 : m < L.length
        · have hi2 : (m : Int) < (L.length : Int) := by omega
          have CC := Lib.hid (icontains_any vp (zz R) (m : Int) (by rw [zz_len]; omega) _ HO.out.in_)
          rw [HIN.out m hlt2] at CC
          go_wp2_with fail
          refine CC.out.mono ?_; rintro e w4 ⟨rfl, hb4⟩
          have HO4 := Lib.hid (HO.out.next hb4)
          have HB4 := Lib.hid (bnext HB.out hb4)
          clear hb4 CC
          go_wp2_with fail
          go_roundw
          case rel => exact ⟨m + 1, by go_num, by omega, HO4, HB4⟩
          case measure => simp [intOf]; omega
        · have hi2 : ¬ (m : Int) < (L.length : Int) := by omega
          go_wp2_with fail
          refine (alive43_any _).mono ?_; rintro e w5 ⟨rfl, hb5⟩
          go_wp2_with fail
          go_ret
          exact ⟨rfl, bnext HB.out hb5⟩
theorem alllaw (v : Value) (now : Int) (w : World) (h : ∃ L : List Nd, NI w v L ∧ L.length ≤ maxLen) :
    Calls Try.prog 7 #[v, .int .i64 now] w fun e w' => e = .returned (.bool true) ∧ Below w.heap.size w w' := by
  obtain ⟨L, h, hm⟩ := h
  unfold maxLen at hm
  by_cases g1 : 1 ≤ L.length
  · by_cases g2 : L.length ≤ 8
    · by_cases g3 : 1000 ≤ now
      · by_cases g4 : now ≤ 1073741824
        · exact all_some now v L g3 g4 g1 g2 w h
        · obtain ⟨a, cap, rfl⟩ := h.form
          generalize L.length = n at *
          go_enter Try.func7, Try.ntmps7
          have a1 : ¬ ((n : Int) < 1) := by omega
          have a2 : ¬ ((8 : Int) < (n : Int)) := by omega
          have a3 : ¬ (now < 1000) := by omega
          have a4 : 1073741824 < now := by omega
          go_wp2_with fail
          go_ret
          exact ⟨rfl, Below.refl _ _⟩
      · obtain ⟨a, cap, rfl⟩ := h.form
        generalize L.length = n at *
        go_enter Try.func7, Try.ntmps7
        have a1 : ¬ ((n : Int) < 1) := by omega
        have a2 : ¬ ((8 : Int) < (n : Int)) := by omega
        have a3 : now < 1000 := by omega
        go_wp2_with fail
        go_ret
        exact ⟨rfl, Below.refl _ _⟩
    · obtain ⟨a, cap, rfl⟩ := h.form
      generalize L.length = n at *
      go_enter Try.func7, Try.ntmps7
      have a1 : ¬ ((n : Int) < 1) := by omega
      have a2 : (8 : Int) < (n : Int) := by omega
      go_wp2_with fail
      go_ret
      exact ⟨rfl, Below.refl _ _⟩
  · obtain ⟨a, cap, rfl⟩ := h.form
    generalize L.length = n at *
    go_enter Try.func7, Try.ntmps7
    have a1 : (n : Int) < 1 := by omega
    go_wp2_with fail
    go_ret
    exact ⟨rfl, Below.refl _ _⟩
end Go.Proofs.Ytkkhljneeajkmaa
