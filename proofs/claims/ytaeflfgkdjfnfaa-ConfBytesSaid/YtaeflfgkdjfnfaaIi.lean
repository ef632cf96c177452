/- Layer 3 (wire): the reader's texts, and what it has taken. -/
import Derived.Test.YtaeflfgkdjfnfaaIh
namespace Go.Proofs.Ytaeflfgkdjfnfaa
open Go.RowKit

theorem cntS_bd (l : List UInt8) (at_ : Nat) (why most : Int) (ha : at_ ≤ l.length) : (cntS l at_ why most).2.1 ≤ l.length ∧ at_ ≤ (cntS l at_ why most).2.1 ∧ (cntS l at_ why most).1 < 4611686018427387904 ∧ ((cntS l at_ why most).1 ≠ 0 → (cntS l at_ why most).2.2 = 0) ∧ ((cntS l at_ why most).2.2 ≠ 0 → (cntS l at_ why most).2.1 = at_) := by
  have hbd := rdF_bd (l.drop at_) 0 true 0
  rw [show rdF (l.drop at_) 0 true 0 = rd (l.drop at_) from rfl, List.length_drop] at hbd
  unfold cntS
  generalize rd (l.drop at_) = r at *
  obtain ⟨n, k, e⟩ := r
  dsimp only at *
  obtain ⟨h1, h2, h3, h4⟩ := hbd
  split
  · exact ⟨ha, Nat.le_refl _, by omega, fun h => absurd rfl h, fun _ => rfl⟩
  · split
    · split
      · exact ⟨ha, Nat.le_refl _, by dsimp only; omega, fun h => absurd rfl h, fun _ => rfl⟩
      · exact ⟨by dsimp only; omega, by dsimp only; omega, h1, fun _ => rfl, fun h => absurd rfl h⟩
    · exact ⟨ha, Nat.le_refl _, by dsimp only; omega, fun h => absurd rfl h, fun _ => rfl⟩
def txtS (l : List UInt8) (at_ : Nat) (why most : Int) : List UInt8 × Nat × Int :=
  if l.length - (cntS l at_ why most).2.1 < (cntS l at_ why most).1 then ([], at_, 30) else ((l.drop (cntS l at_ why most).2.1).take (cntS l at_ why most).1, (cntS l at_ why most).2.1 + (cntS l at_ why most).1, (cntS l at_ why most).2.2)
theorem BS.drawn {w : World} {v : Value} {l : List UInt8} (h : BS w v l) (n : Nat) : BS (w.drewN n) v l := h
theorem Rdr.step {w w' : World} {R : Nat} {v : Value} {l : List UInt8} {at_ : Nat} {why : Int} (h : Rdr w R v l at_ why) (hb : Below w.heap.size w w') : Rdr w' R v l at_ why := ⟨h.1.next hb, h.2.next hb⟩
set_option maxHeartbeats 2000000 in
theorem rtext_any (R : Nat) (v : Value) (l : List UInt8) (at_ : Nat) (why most : Int) (ha : at_ ≤ l.length) (hl : l.length ≤ 100000) (hA : Apart R v) (w : World) (h : Rdr w R v l at_ why) :
    Calls Try.prog 114 #[.pointer (some ⟨R, 0, none⟩), .int .i64 most] w (Left R v l (.returned (.string (mkB (txtS l at_ why most).1))) (txtS l at_ why most).2.1 (txtS l at_ why most).2.2 w) := by
  obtain ⟨c0, c1, c2⟩ := h.1.reads3
  have CC := Hid.mk' (count_any R v l at_ why most ha hl hA w h)
  have hbd := cntS_bd l at_ why most ha
  unfold txtS
  generalize cntS l at_ why most = c at *
  obtain ⟨n, p, y⟩ := c
  dsimp only at *
  obtain ⟨h1, h2, h3, h4, h5⟩ := hbd
  clear h c2
  by_cases hlt : l.length - p < n
  · rw [if_pos hlt]
    have hy : y = 0 := h4 (by omega)
    subst hy
    have hi : (l.length : Int) - (p : Int) < (n : Int) := by omega
    clear h4 h5 hlt
    go_enter Try.func114, Try.ntmps114
    go_wp2_with fail
    refine (CC.out).mono ?_; rintro e w1 ⟨rfl, hR1, hg1⟩
    clear c0 c1
    have HG := Hid.mk' hg1
    have CL := Hid.mk' (left_any R v l p 0 h1 hl w1 hR1)
    have HR := Hid.mk' hR1
    clear hR1 hg1
    go_wp2_with fail
    refine (CL.out).mono ?_; rintro e w2 ⟨rfl, hb2⟩
    have hR2 := HR.out.step hb2
    have hg2 := gb_trans HG.out (gb_below hb2 (some R))
    obtain ⟨c0, c1, c2⟩ := hR2.1.reads3
    obtain ⟨f0, f1, f2⟩ := hR2.1.opens3
    have hR3 : Rdr (w2.setCell ⟨R, 1, none⟩ (.int .i64 at_)) R v l at_ 0 := ⟨hR2.1.put 1 _, hR2.2.put hA _⟩
    have H3 := Hid.mk' (And.intro hR3 (gb_trans hg2 (gb_set w2 R 1 (.int .i64 at_))))
    have cf := fail_any R v l at_ 0 30 hA _ hR3
    rw [if_pos rfl] at cf
    have CF := Hid.mk' cf
    clear hR2 hg2 hR3 cf CL HR HG hb2
    go_wp2_with fail
    refine (CF.out).mono ?_; rintro e w4 ⟨rfl, hR4, hg4⟩
    have H4 := Hid.mk' (And.intro hR4 (gb_trans H3.out.2 hg4))
    clear hR4 hg4 c0 c1 c2 f0 f1 f2
    go_wp2_with fail
    go_ret
    exact ⟨rfl, H4.out.1, H4.out.2⟩
  · rw [if_neg hlt]
    have hi : (n : Int) ≤ (l.length : Int) - (p : Int) := by omega
    clear h4 h5
    go_enter Try.func114, Try.ntmps114
    go_wp2_with fail
    refine (CC.out).mono ?_; rintro e w1 ⟨rfl, hR1, hg1⟩
    clear c0 c1
    have HG := Hid.mk' hg1
    have CL := Hid.mk' (left_any R v l p y h1 hl w1 hR1)
    have HR := Hid.mk' hR1
    clear hR1 hg1
    go_wp2_with fail
    refine (CL.out).mono ?_; rintro e w2 ⟨rfl, hb2⟩
    have hR2 := HR.out.step hb2
    have hg2 := gb_trans HG.out (gb_below hb2 (some R))
    obtain ⟨c0, c1, c2⟩ := hR2.1.reads3
    obtain ⟨f0, f1, f2⟩ := hR2.1.opens3
    have hR3 : Rdr (w2.setCell ⟨R, 1, none⟩ (.int .i64 ((p : Int) + (n : Int)))) R v l (p + n) y := ⟨by rw [← Int.natCast_add]; exact hR2.1.put 1 _, hR2.2.put hA _⟩
    obtain ⟨v2, hcut, hbs2⟩ := cut_run hR3.2 p (p + n) (by omega) (by omega)
    rw [show p + n - p = n from by omega] at hbs2
    rw [Int.natCast_add] at hcut
    have hcv := fun q => conv_bs (hbs2.drawn q)
    have hw1 : IntKind.i64.wrap ((p : Int) + (n : Int) - (n : Int)) = (p : Int) := by rw [IntWalk.i64_in _ (by omega)]; omega
    have H3 := Hid.mk' (And.intro hR3 (gb_trans hg2 (gb_set w2 R 1 (.int .i64 ((p : Int) + (n : Int))))))
    have hpn : (p : Int) + (n : Int) ≤ 100000 := by omega
    clear hR2 hg2 hR3 CL HR HG hb2 hbs2 hlt
    go_wp2_with fail
    go_quiet (fail)
    go_wp2_with fail
    go_ret
    exact ⟨rfl, ⟨H3.out.1.1.drawn _, H3.out.1.2.drawn _⟩, gb_trans H3.out.2 (gb_drawn _ _ _)⟩
end Go.Proofs.Ytaeflfgkdjfnfaa
