/- Layer 3 (wire): the statement on readers, call by call. -/
import Derived.Test.YtnkgicjclngnpaaVl
import Derived.Deep.RegionHeld3
import Derived.RegionTactic
import Derived.BigRegion
namespace Go.Proofs.Ytnkgicjclngnpaa
open Go.RowKit

theorem step_any (R : Nat) (v vb : Value) (l : List UInt8) (at_ : Nat) (why kind most : Int) (ha : at_ ≤ l.length) (hl : l.length ≤ 100000) (hA : Apart R v) (w : World) (h : Rdr w R v l at_ why) (hb : BS w vb l) :
    Calls Try.prog 17 #[.pointer (some ⟨R, 0, none⟩), vb, .int .i64 at_, .int .i64 why, .agg #[.int .i64 kind, .int .i64 most]] w (Stepped R v l (stepS l at_ why (kind.tmod 4) most) w) := by
  by_cases hw : why = 0
  · by_cases h0 : kind.tmod 4 = 0
    · exact step_z0 R v vb l at_ why kind most ha hl hA w h hb hw h0
    · by_cases h1 : kind.tmod 4 = 1
      · exact step_z1 R v vb l at_ why kind most ha hl hA w h hb hw h1
      · by_cases h2 : kind.tmod 4 = 2
        · exact step_z2 R v vb l at_ why kind most ha hl hA w h hb hw h2
        · by_cases hlt : at_ < l.length
          · exact step_z3a R v vb l at_ why kind most ha hl hA w h hb hw ⟨h0, h1, h2⟩ hlt
          · exact step_z3b R v vb l at_ why kind most ha hl hA w h hb hw ⟨h0, h1, h2⟩ hlt
  · by_cases h0 : kind.tmod 4 = 0
    · exact step_y0 R v vb l at_ why kind most ha hl hA w h hb hw h0
    · by_cases h1 : kind.tmod 4 = 1
      · exact step_y1 R v vb l at_ why kind most ha hl hA w h hb hw h1
      · by_cases h2 : kind.tmod 4 = 2
        · exact step_y2 R v vb l at_ why kind most ha hl hA w h hb hw h2
        · exact step_y3 R v vb l at_ why kind most ha hl hA w h hb hw ⟨h0, h1, h2⟩
theorem stepS_bd (l : List UInt8) (at_ : Nat) (why kd most : Int) (ha : at_ ≤ l.length) : (stepS l at_ why kd most).1 ≤ l.length ∧ at_ ≤ (stepS l at_ why kd most).1 := by
  unfold stepS
  have h1 := cntS_bd l at_ why 9223372036854775807 ha
  have h2 := cntS_bd l at_ why most ha
  have h3 := txtS_bd l at_ why most ha
  split
  · exact ⟨h1.1, h1.2.1⟩
  · split
    · refine ⟨h3, ?_⟩
      unfold txtS
      split
      · exact Nat.le_refl _
      · dsimp only; omega
    · split
      · exact ⟨h2.1, h2.2.1⟩
      · exact ⟨ha, Nat.le_refl _⟩
/-- A world later than one. -/
def Ltr (w w' : World) : Prop := Below w.heap.size w w'
theorem Ltr.drew (w : World) : Ltr w w.drew := (Below.refl _ _).drew
theorem Ltr.next {w w' w'' : World} (h : Ltr w w') (k : Below w'.heap.size w' w'') : Ltr w w'' := bnext h k
/-- A call of a reader, as the statement has it. -/
structure Cl where
  kind : Int
  most : Int
/-- A slice of calls, n of them. -/
def ClAt (w : World) (v : Value) (n : Nat) (f : Nat → Cl) : Prop :=
  ∃ a cap, v = .slice a n cap ∧ n ≤ cap ∧ n ≤ maxLen ∧ (n ≠ 0 → ∃ b off : Nat, a = some ⟨b, off, none⟩ ∧ b < w.heap.size ∧ ∀ i, i < n → w.cell? ⟨b, off + i * 2, none⟩ = some (.int .i64 (f i).kind) ∧ w.cell? ⟨b, off + i * 2 + 1, none⟩ = some (.int .i64 (f i).most))

set_option maxRecDepth 100000 in
set_option maxHeartbeats 8000000 in
theorem reads_some (vb : Value) (l : List UInt8) (hl : l.length ≤ 2000) (b off cap n : Nat) (f : Nat → Cl) (hn : n ≤ 50) (hcap : n ≤ cap) (w : World) (hb : BS w vb l) (hbw : b < w.heap.size)
    (hc : ∀ i, i < n → w.cell? ⟨b, off + i * 2, none⟩ = some (.int .i64 (f i).kind) ∧ w.cell? ⟨b, off + i * 2 + 1, none⟩ = some (.int .i64 (f i).most)) :
    Calls Try.prog 4 #[vb, .slice (some ⟨b, off, none⟩) n cap] w fun e w' => e = .returned (.bool true) ∧ Below w.heap.size w w' := by
  have HC := Hid.mk' hc
  have HB := Hid.mk' hb
  have hlen := fun w' => len_bs hb w'
  clear hc hb
  go_enter Try.func4, Try.ntmps4
  go_wp2_with fail
  refine (sclone_any vb l (by omega) _ HB.out).mono ?_; rintro e w1 ⟨v1, rfl, hO1, hb1⟩
  have H1 := Hid.mk' (And.intro hO1.bs hb1)
  clear hO1 hb1
  go_wp2_with fail
  refine (newr_any v1 l (by omega) _ H1.out.1).mono ?_; rintro e w2 ⟨R, vr, rfl, hR, hRw, hA, hb2⟩
  have hR0 := hR
  have hbel := bnext H1.out.2 hb2
  have HRW := Hid.mk' (Nat.le_trans H1.out.2.size hRw)
  have HA := Hid.mk' (show Apart R vr from hA)
  clear hR hRw hA hb2 H1
  go_wp2_with fail
  go_loopw [6, 7, 8] (fun av yv iv wr => ∃ (k at_ : Nat) (why : Int), iv = .int .i64 k ∧ k ≤ n ∧ av = .int .i64 at_ ∧ yv = .int .i64 why ∧ at_ ≤ l.length ∧ Rdr wr R vr l at_ why ∧ Below w.heap.size w wr) (fun _ _ iv _ => n - (intOf iv).toNat)
  case atStart => exact ⟨0, 0, 0, rfl, by omega, rfl, rfl, Nat.zero_le _, hR0, hbel⟩
  case round =>
    clear hR0 hbel
    obtain ⟨k, at_, why, rfl, hk, rfl, rfl, hat, hR, hbel⟩ := hrel
    by_cases hlt : k < n
    · obtain ⟨l0, l1⟩ := HC.out k hlt
      rw [← hbel.cell (p := ⟨b, _, none⟩) hbw] at l0 l1
      generalize f k = c at *
      obtain ⟨kind, most⟩ := c
      dsimp only at *
      have hs := step_any R vr vb l at_ why kind most hat (by omega) HA.out wr hR (HB.out.next hbel)
      have hbd := stepS_bd l at_ why (kind.tmod 4) most hat
      generalize stepS l at_ why (kind.tmod 4) most = x at *
      obtain ⟨at2, why2⟩ := x
      dsimp only at *
      have HS := Hid.mk' hs
      have HBL := Hid.mk' hbel
      clear hs hR hbel
      go_wp2_with fail
      refine (HS.out).mono ?_; rintro e w5 ⟨rfl, hR5, hg5⟩
      have H5 := Hid.mk' (And.intro hR5 (below_gb HBL.out hg5 HRW.out))
      clear hR5 hg5 l0 l1
      dsimp only at *
      obtain ⟨hb1, hb2⟩ := hbd
      obtain ⟨vd, hcut, hbd⟩ := cut_run (HB.out.next H5.out.2) at_ at2 hb2 hb1
      have hs0 := Ltr.drew w5
      have c1 : ∀ W, Ltr w5 W → Calls Try.prog 18 #[.pointer (some ⟨R, 0, none⟩)] W fun e w' => e = .returned (.int .i64 ((l.length : Int) - (at2 : Int))) ∧ Ltr w5 w' := fun W hW =>
        (left_any R vr l at2 why2 hb1 (by omega) W (H5.out.1.step hW)).mono fun _ _ ⟨a, b⟩ => ⟨a, hW.next b⟩
      have c2 : ∀ W, Ltr w5 W → Calls Try.prog 19 #[.pointer (some ⟨R, 0, none⟩), .int .i64 at_] W fun e w' => ∃ v7, e = .returned v7 ∧ BS w' v7 ((l.drop at_).take (at2 - at_)) ∧ Ltr w5 w' := fun W hW =>
        (taken_some R vr l at2 why2 at_ hb2 hb1 (by omega) W (H5.out.1.step hW)).mono fun _ _ ⟨v, a, b, c⟩ => ⟨v, a, b.bs, hW.next c⟩
      have c3 : ∀ W v7, Ltr w5 W → BS W v7 ((l.drop at_).take (at2 - at_)) → Calls Try.prog 12 #[v7, vd] W fun e w' => e = .returned (.bool true) ∧ Ltr w5 w' := fun W v7 hW hv =>
        (equal_yes v7 vd _ (by simp; omega) W hv (hbd.next hW)).mono fun _ _ ⟨a, b⟩ => ⟨a, hW.next b⟩
      have c4 : ∀ W, Ltr w5 W → Calls Try.prog 19 #[.pointer (some ⟨R, 0, none⟩), .int .i64 (-1)] W fun e w' => e = .returned (.slice none 0 0) ∧ Ltr w5 w' := fun W hW =>
        (taken_none R vr l at2 why2 W (H5.out.1.step hW)).mono fun _ _ ⟨a, b⟩ => ⟨a, by rw [← b]; exact hW⟩
      have C1 := Hid.mk' c1
      have C2 := Hid.mk' c2
      have C3 := Hid.mk' c3
      have C4 := Hid.mk' c4
      have hwr : IntKind.i64.wrap ((l.length : Int) - (at2 : Int)) = (l.length : Int) - (at2 : Int) := IntWalk.i64_in _ (by omega)
      have hne : (((l.length : Int) - (at2 : Int)) != ((l.length : Int) - (at2 : Int))) = false := by simp
      have HBD := Hid.mk' hb1
      clear c1 c2 c3 c4 hbd hb1 hb2
      go_wp2_with fail
      go_region_held3 (fun w' => Ltr w5 w') (first | assumption | exact hs0)
        ((first | (go_at_call 18; refine (C1.out _ (by assumption)).mono ?_; rintro e w6 ⟨rfl, hk6⟩) | (go_at_call 19; with_reducible refine (C2.out _ (by assumption)).mono ?_; rintro e w7 ⟨v7, rfl, hO7, hk7⟩) | (go_at_call 19; with_reducible refine (C4.out _ (by assumption)).mono ?_; rintro e w9 ⟨rfl, hk9⟩) | (go_at_call 12; refine (C3.out _ _ (by assumption) (by assumption)).mono ?_; rintro e w8 ⟨rfl, hk8⟩)))
      all_goals
        have H9 := Hid.mk' (show Rdr w9 R vr l at2 why2 ∧ Below w.heap.size w w9 from ⟨H5.out.1.step hk9, bnext H5.out.2 hk9⟩)
        clear hk9 hk8 hk7 hk6 hO7 C1 C2 C3 C4 H5 hs0 hcut hwr hne
        go_wp2_with fail
        go_roundw
        case rel => exact ⟨k + 1, at2, why2, by go_num, by omega, rfl, rfl, HBD.out, H9.out.1, H9.out.2⟩
        case measure => simp [intOf]; omega
    · have cf := fail_any R vr l at_ why 70 HA.out wr hR
      have HBL := Hid.mk' hbel
      by_cases hw : why = 0
      · rw [if_pos hw] at cf
        have CF := Hid.mk' cf
        have t0 : (why == 0) = true := by simp [hw]
        clear cf hw hR hbel
        go_wp2_with fail
        refine (CF.out).mono ?_; rintro e w5 ⟨rfl, hR5, hg5⟩
        have H5 := Hid.mk' (And.intro hR5 (below_gb HBL.out hg5 HRW.out))
        clear hR5 hg5
        go_wp2_with fail
        refine (why_any R vr l _ _ _ H5.out.1).mono ?_; rintro e w' ⟨rfl, rfl⟩
        go_wp2_with fail
        refine (alive3_any _).mono ?_; rintro e w9 ⟨rfl, hb9⟩
        have H9 := Hid.mk' (bnext H5.out.2 hb9)
        clear hb9
        go_wp2_with fail
        go_ret
        exact ⟨rfl, H9.out⟩
      · rw [if_neg hw] at cf
        have CF := Hid.mk' cf
        have t0 : (why == 0) = false := by simp [hw]
        clear cf hw hR hbel
        go_wp2_with fail
        refine (CF.out).mono ?_; rintro e w5 ⟨rfl, hR5, hg5⟩
        have H5 := Hid.mk' (And.intro hR5 (below_gb HBL.out hg5 HRW.out))
        clear hR5 hg5
        go_wp2_with fail
        refine (why_any R vr l _ _ _ H5.out.1).mono ?_; rintro e w' ⟨rfl, rfl⟩
        go_wp2_with fail
        refine (alive3_any _).mono ?_; rintro e w9 ⟨rfl, hb9⟩
        have H9 := Hid.mk' (bnext H5.out.2 hb9)
        clear hb9
        go_wp2_with fail
        go_ret
        exact ⟨rfl, H9.out⟩
end Go.Proofs.Ytnkgicjclngnpaa
