/- Layer 3 (wire): the reader's calls that read on. -/
import Derived.Test.YtaeflfgkdjfnfaaIg
namespace Go.Proofs.Ytaeflfgkdjfnfaa
open Go.RowKit

/-- A piece of what reads as bytes, from i up to ahead of j. -/
theorem cut_run {w : World} {v : Value} {l : List UInt8} (h : BS w v l) (i j : Nat) (hij : i ≤ j) (hj : j ≤ l.length) :
    ∃ v', (∀ w', (Instr.slice 78 v (some (.int .i64 (i : Int))) (some (.int .i64 (j : Int))) none).run Try.prog w' = .ok v' w') ∧ BS w v' ((l.drop i).take (j - i)) := by
  obtain ⟨a, cap, rfl, hle, hn, hc⟩ := h
  have hel : Try.prog.elem 78 = 5 := by kernel_rfl
  have hu : Try.prog.underlying 78 = some (.slice (Try.prog.elem 78)) := by kernel_rfl
  have hs := Try.sizeOf5
  have hlen : ((l.drop i).take (j - i)).length = j - i := by simp; omega
  refine ⟨sliced a i j cap 1, fun w' => ?_, ?_⟩
  · rw [run_slice_lh w' _ a l.length cap hu .i64 .i64 (i : Int) (j : Int) (by omega) (by omega) (by omega), hel, hs]
    simp [Result.andThen]
  · cases a with
    | none =>
      have h0 := hn rfl
      have hl0 : l.length = 0 := by omega
      have hl := List.eq_nil_of_length_eq_zero hl0
      have hi : i = 0 := by omega
      have hj0 : j = 0 := by omega
      subst hl hi hj0 h0
      exact BS.nil w
    | some ad =>
      refine ⟨some (if cap = i then ad else ad.add (i * 1)), cap - i, ?_, by rw [hlen]; omega, (fun h => by cases h), fun h0 => ?_⟩
      · rw [hlen]; simp [sliced]; split <;> rfl
      · have hpos : i < j := by
          rcases Nat.lt_or_ge i j with h1 | h1
          · exact h1
          · exfalso; apply h0; apply List.eq_nil_of_length_eq_zero; rw [hlen]; omega
        obtain ⟨b, off, hab, hcell⟩ := hc (fun e => by rw [e] at hj; simp at hj; omega)
        cases hab
        refine ⟨b, off + i, ?_, fun q hq => ?_⟩
        · rw [if_neg (by omega), Nat.mul_one, addp]
        · rw [hlen] at hq
          have h1 := hcell (i + q) (by omega)
          rw [Nat.add_assoc, h1]
          simp

def cntS (l : List UInt8) (at_ : Nat) (why most : Int) : Nat × Nat × Int :=
  if why ≠ 0 then (0, at_, why) else
    if (rd (l.drop at_)).2.2 = 0 then (if most < ((rd (l.drop at_)).1 : Int) then (0, at_, 31) else ((rd (l.drop at_)).1, at_ + (rd (l.drop at_)).2.1, 0)) else (0, at_, (rd (l.drop at_)).2.2)
/-- What a call of a reader leaves. -/
def Left (R : Nat) (v : Value) (l : List UInt8) (x : Ending) (at_ : Nat) (why : Int) (w : World) (e : Ending) (w' : World) : Prop := e = x ∧ Rdr w' R v l at_ why ∧ w.grownBy w' (some R)
set_option maxHeartbeats 2000000 in
theorem count_any (R : Nat) (v : Value) (l : List UInt8) (at_ : Nat) (why most : Int) (ha : at_ ≤ l.length) (hl : l.length ≤ 100000) (hA : Apart R v) (w : World) (h : Rdr w R v l at_ why) :
    Calls Try.prog 102 #[.pointer (some ⟨R, 0, none⟩), .int .i64 most] w (Left R v l (.returned (.int .i64 (cntS l at_ why most).1)) (cntS l at_ why most).2.1 (cntS l at_ why most).2.2 w) := by
  have hb := h.1
  obtain ⟨c0, c1, c2⟩ := hb.reads3
  obtain ⟨f0, f1, f2⟩ := hb.opens3
  have H := Hid.mk' h
  by_cases hw : why = 0
  · have hbd := rdF_bd (l.drop at_) 0 true 0
    rw [show rdF (l.drop at_) 0 true 0 = rd (l.drop at_) from rfl] at hbd
    have CN := Hid.mk' (next_any R v l at_ why ha hl w h)
    have cf : ∀ y : Int, Calls Try.prog 104 #[.pointer (some ⟨R, 0, none⟩), .int .i64 y] w fun e w' => e = .returned (.tuple #[]) ∧ Rdr w' R v l at_ y ∧ w.grownBy w' (some R) := fun y => by
      have h1 := fail_any R v l at_ why y hA w h
      rw [if_pos hw] at h1
      exact h1
    have CF := Hid.mk' cf
    clear cf
    unfold cntS
    generalize rd (l.drop at_) = rr at *
    obtain ⟨n, k, e0⟩ := rr
    have ht : (why != 0) = false := by simp [hw]
    rw [if_neg (by simp [hw])]
    dsimp only at *
    unfold nextE at CN
    dsimp only at CN
    clear hb h
    rcases hbd with ⟨hn, hk, he, hz⟩
    by_cases he0 : e0 = 0
    · subst he0
      rw [if_pos rfl] at CN
      rw [if_pos rfl]
      have hk2 : at_ + k ≤ 200000 := by rw [List.length_drop] at hk; omega
      by_cases hm : most < (n : Int)
      · rw [if_pos hm]
        clear hw hz he hk
        go_enter Try.func102, Try.ntmps102
        go_wp2_with fail
        refine (CN.out).mono ?_; rintro e w' ⟨rfl, rfl⟩
        go_wp2_with fail
        refine (CF.out 31).mono ?_; rintro e w1 ⟨rfl, hR1, hg1⟩
        go_wp2_with fail
        go_ret
        exact ⟨rfl, hR1, hg1⟩
      · rw [if_neg hm]
        have hR := Hid.mk' (show Rdr (w.setCell ⟨R, 1, none⟩ (.int .i64 ((at_ + k : Nat) : Int))) R v l (at_ + k) 0 from ⟨by have := H.out.1.put 1 (.int .i64 ((at_ + k : Nat) : Int)); rw [hw] at this; exact this, H.out.2.put hA _⟩)
        clear hw hz he hk
        generalize ((at_ + k : Nat) : Int) = q at *
        go_enter Try.func102, Try.ntmps102
        go_wp2_with fail
        refine (CN.out).mono ?_; rintro e w' ⟨rfl, rfl⟩
        go_wp2_with fail
        go_ret
        exact ⟨rfl, hR.out, gb_set _ _ _ _⟩
    · rw [if_neg he0] at CN
      rw [if_neg he0]
      have t1 : ((e0 : Int) == 0) = false := by simp; omega
      have t2 : ((e0 : Int) != 0) = true := by simp; omega
      have hz1 := hz he0
      obtain ⟨rfl, rfl⟩ := hz1
      clear hw hz he hk he0 hn
      generalize (e0 : Int) = q at *
      go_enter Try.func102, Try.ntmps102
      go_wp2_with fail
      refine (CN.out).mono ?_; rintro e w' ⟨rfl, rfl⟩
      go_wp2_with fail
      refine (CF.out q).mono ?_; rintro e w1 ⟨rfl, hR1, hg1⟩
      go_wp2_with fail
      go_ret
      exact ⟨rfl, hR1, hg1⟩
  · unfold cntS
    rw [if_pos hw]
    have ht : (why != 0) = true := by simp [hw]
    clear hw hb h
    go_enter Try.func102, Try.ntmps102
    go_wp2_with fail
    go_ret
    exact ⟨rfl, H.out, gb_refl _ _⟩
theorem num_any (R : Nat) (v : Value) (l : List UInt8) (at_ : Nat) (why : Int) (ha : at_ ≤ l.length) (hl : l.length ≤ 100000) (hA : Apart R v) (w : World) (h : Rdr w R v l at_ why) :
    Calls Try.prog 101 #[.pointer (some ⟨R, 0, none⟩)] w (Left R v l (.returned (.int .i64 (cntS l at_ why 9223372036854775807).1)) (cntS l at_ why 9223372036854775807).2.1 (cntS l at_ why 9223372036854775807).2.2 w) := by
  have C := Hid.mk' (count_any R v l at_ why 9223372036854775807 ha hl hA w h)
  generalize cntS l at_ why 9223372036854775807 = c at *
  clear h
  go_enter Try.func101, Try.ntmps101
  go_wp2_with fail
  refine (C.out).mono ?_; rintro e w1 ⟨rfl, hR1, hg1⟩
  go_wp2_with fail
  go_ret
  exact ⟨rfl, hR1, hg1⟩
def endS (l : List UInt8) (at_ : Nat) (why : Int) : Int := if at_ < l.length then (if why = 0 then 31 else why) else why
theorem end_any (R : Nat) (v : Value) (l : List UInt8) (at_ : Nat) (why : Int) (ha : at_ ≤ l.length) (hl : l.length ≤ 100000) (hA : Apart R v) (w : World) (h : Rdr w R v l at_ why) :
    Calls Try.prog 103 #[.pointer (some ⟨R, 0, none⟩)] w (Left R v l (.returned (.int .i64 (endS l at_ why))) at_ (endS l at_ why) w) := by
  have C := Hid.mk' (left_any R v l at_ why ha hl w h)
  have H := Hid.mk' h
  unfold endS
  by_cases hlt : at_ < l.length
  · rw [if_pos hlt]
    have hi : (0 : Int) < (l.length : Int) - (at_ : Int) := by omega
    have cf : ∀ w1, Rdr w1 R v l at_ why → Calls Try.prog 104 #[.pointer (some ⟨R, 0, none⟩), .int .i64 31] w1 fun e w' => e = .returned (.tuple #[]) ∧ Rdr w' R v l at_ (if why = 0 then 31 else why) ∧ w1.grownBy w' (some R) := fun w1 h1 => fail_any R v l at_ why 31 hA w1 h1
    generalize (if why = 0 then (31 : Int) else why) = q at *
    have CF := Hid.mk' cf
    clear h cf
    go_enter Try.func103, Try.ntmps103
    go_wp2_with fail
    refine (C.out).mono ?_; rintro e w1 ⟨rfl, hb1⟩
    have h1 : Rdr w1 R v l at_ why := ⟨H.out.1.next hb1, H.out.2.next hb1⟩
    have hg1 := gb_below hb1 (some R)
    clear hb1
    go_wp2_with fail
    refine (CF.out _ h1).mono ?_; rintro e w2 ⟨rfl, hR2, hg2⟩
    have H2 := Hid.mk' (And.intro hR2 (gb_trans hg1 hg2))
    obtain ⟨c0, c1, c2⟩ := hR2.1.reads3
    clear hR2 hg1 hg2 h1
    go_wp2_with fail
    go_ret
    exact ⟨rfl, H2.out.1, H2.out.2⟩
  · rw [if_neg hlt]
    have hi : (l.length : Int) - (at_ : Int) = 0 := by omega
    rw [hi] at C
    clear h hi
    go_enter Try.func103, Try.ntmps103
    go_wp2_with fail
    refine (C.out).mono ?_; rintro e w1 ⟨rfl, hb1⟩
    have h1 : Rdr w1 R v l at_ why := ⟨H.out.1.next hb1, H.out.2.next hb1⟩
    have H2 := Hid.mk' (And.intro h1 (gb_below hb1 (some R)))
    obtain ⟨c0, c1, c2⟩ := h1.1.reads3
    clear hb1 h1
    go_wp2_with fail
    go_ret
    exact ⟨rfl, H2.out.1, H2.out.2⟩
end Go.Proofs.Ytaeflfgkdjfnfaa
