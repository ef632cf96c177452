/- Layer 3 (wire): what a reader has taken; a step of the statement. -/
import Derived.Test.YtnkgicjclngnpaaVk
import Derived.StillTailTactics
import Derived.Test.YtnkgicjclngnpaaSb
namespace Go.Proofs.Ytnkgicjclngnpaa
open Go.RowKit

set_option maxHeartbeats 1000000 in
theorem taken_some (R : Nat) (v : Value) (l : List UInt8) (at_ : Nat) (why : Int) (f : Nat) (hf : f ≤ at_) (ha : at_ ≤ l.length) (hl : l.length ≤ 100000) (w : World) (h : Rdr w R v l at_ why) :
    Calls Try.prog 19 #[.pointer (some ⟨R, 0, none⟩), .int .i64 f] w (Made w ((l.drop f).take (at_ - f))) := by
  obtain ⟨c0, c1, c2⟩ := h.1.reads3
  obtain ⟨v2, hcut, hbs⟩ := cut_run h.2 f at_ hf ha
  have hlen : ((l.drop f).take (at_ - f)).length ≤ 100000 := by simp; omega
  have C := Hid.mk' (fun w' (hb : BS w' v2 ((l.drop f).take (at_ - f))) => bclone_any v2 _ hlen w' hb)
  have HB := Hid.mk' hbs
  have hi : (f : Int) ≤ (at_ : Int) := by omega
  have hi0 : (0 : Int) ≤ (f : Int) := by omega
  clear h hbs
  go_enter Try.func19, Try.ntmps19
  go_wp2_with fail
  refine region_tail 10 (by kernel_rfl) (by kernel_rfl) ?_
  simp only [List.take_succ_cons, List.take_zero, List.drop_succ_cons, List.drop_zero]
  repeat still_step
  refine wpStill_nil ?_
  go_wp2_with fail
  refine (C.out _ (HB.out.drawn 1)).mono ?_; rintro e w1 ⟨v1, rfl, hO, hb1⟩
  have H := Hid.mk' (And.intro (show BO w1 w.heap.size v1 _ from hO) (show Below w.heap.size w w1 from ((Below.refl _ w).drew).trans hb1))
  clear hO hb1
  go_wp2_with fail
  go_ret
  exact ⟨_, rfl, H.out.1, H.out.2⟩
theorem taken_none (R : Nat) (v : Value) (l : List UInt8) (at_ : Nat) (why : Int) (w : World) (h : Rdr w R v l at_ why) :
    Calls Try.prog 19 #[.pointer (some ⟨R, 0, none⟩), .int .i64 (-1)] w fun e w' => e = .returned (.slice none 0 0) ∧ w = w' := by
  clear h
  go_enter Try.func19, Try.ntmps19
  go_wp2_with fail
  go_ret
  exact ⟨rfl, rfl⟩

def topI : Int := 9223372036854775807
theorem step_num (l : List UInt8) (at_ n k e : Nat) (h : rd (l.drop at_) = (n, k, e)) : cntS l at_ 0 9223372036854775807 = (n, at_ + k, (e : Int)) := by
  have hbd := rdF_bd (l.drop at_) 0 true 0
  rw [show rdF (l.drop at_) 0 true 0 = rd (l.drop at_) from rfl, h] at hbd
  unfold cntS
  rw [h]
  dsimp only at *
  rw [if_neg (by simp)]
  by_cases he : e = 0
  · rw [if_pos he, if_neg (by omega), he]; rfl
  · rw [if_neg he]
    obtain ⟨rfl, rfl⟩ := hbd.2.2.2 he
    rfl
theorem step_cnt (l : List UInt8) (at_ n k e : Nat) (most : Int) (h : rcS (l.drop at_) most = (n, k, e)) : cntS l at_ 0 most = (n, at_ + k, (e : Int)) := by
  have hbd := rdF_bd (l.drop at_) 0 true 0
  rw [show rdF (l.drop at_) 0 true 0 = rd (l.drop at_) from rfl] at hbd
  unfold rcS at h
  unfold cntS
  generalize rd (l.drop at_) = r at *
  obtain ⟨a, b, c⟩ := r
  dsimp only at *
  rw [if_neg (by simp)]
  by_cases he : c = 0
  · rw [if_pos he]
    by_cases hm : most < (a : Int)
    · rw [if_pos hm]
      rw [if_pos ⟨he, hm⟩] at h
      cases h; rfl
    · rw [if_neg hm]
      rw [if_neg (fun x => hm x.2)] at h
      cases h; rw [he]; rfl
  · rw [if_neg he]
    rw [if_neg (fun x => he x.1)] at h
    cases h
    obtain ⟨rfl, rfl⟩ := hbd.2.2.2 he
    rfl
theorem step_txt (l : List UInt8) (at_ k e : Nat) (most : Int) (s : List UInt8) (h : rrS (l.drop at_) most = (s, k, e)) : txtS l at_ 0 most = (s, at_ + k, (e : Int)) := by
  have hbd := rdF_bd (l.drop at_) 0 true 0
  rw [show rdF (l.drop at_) 0 true 0 = rd (l.drop at_) from rfl] at hbd
  obtain ⟨a, b, c, hrd⟩ : ∃ a b c, rd (l.drop at_) = (a, b, c) := ⟨_, _, _, rfl⟩
  unfold rrS at h
  rw [hrd] at h hbd
  rw [List.length_drop] at h
  dsimp only at h hbd
  by_cases he : c = 0
  · rw [if_neg (by simp [he])] at h
    by_cases hm : most < (a : Int)
    · rw [if_pos hm] at h
      have hc : cntS l at_ 0 most = (0, at_, 31) := by
        unfold cntS; rw [hrd]; dsimp only; rw [if_neg (by simp), if_pos he, if_pos hm]
      unfold txtS
      rw [hc]
      dsimp only
      cases h
      rw [if_neg (by omega)]
      simp
    · rw [if_neg hm] at h
      have hc : cntS l at_ 0 most = (a, at_ + b, 0) := by
        unfold cntS; rw [hrd]; dsimp only; rw [if_neg (by simp), if_pos he, if_neg hm]
      unfold txtS
      rw [hc]
      dsimp only
      by_cases hl : l.length - at_ - b < a
      · rw [if_pos hl] at h
        rw [if_pos (by omega)]
        cases h; rfl
      · rw [if_neg hl] at h
        rw [if_neg (by omega)]
        cases h
        rw [List.drop_drop, Nat.add_assoc]; rfl
  · rw [if_pos (by simpa using he)] at h
    have hc : cntS l at_ 0 most = (0, at_, (c : Int)) := by
      unfold cntS; rw [hrd]; dsimp only; rw [if_neg (by simp), if_neg he]
    unfold txtS
    rw [hc]
    dsimp only
    rw [if_neg (by omega)]
    cases h
    simp
theorem txtS_bd (l : List UInt8) (at_ : Nat) (why most : Int) (ha : at_ ≤ l.length) : (txtS l at_ why most).2.1 ≤ l.length := by
  have h := cntS_bd l at_ why most ha
  unfold txtS
  split
  · exact ha
  · dsimp only; omega
theorem endS_bd : True := trivial
def stepS (l : List UInt8) (at_ : Nat) (why kd most : Int) : Nat × Int :=
  if kd = 0 then (cntS l at_ why 9223372036854775807).2 else if kd = 1 then (txtS l at_ why most).2 else if kd = 2 then (cntS l at_ why most).2 else (at_, endS l at_ why)
/-- What a step of the statement answers. -/
def Stepped (R : Nat) (v : Value) (l : List UInt8) (x : Nat × Int) (w : World) (e : Ending) (w' : World) : Prop := e = .returned (.tuple #[.int .i64 x.1, .int .i64 x.2, .bool true]) ∧ Rdr w' R v l x.1 x.2 ∧ w.grownBy w' (some R)

set_option maxRecDepth 100000 in
set_option maxHeartbeats 4000000 in
theorem step_z0 (R : Nat) (v vb : Value) (l : List UInt8) (at_ : Nat) (why kind most : Int) (ha : at_ ≤ l.length) (hl : l.length ≤ 100000) (hA : Apart R v) (w : World) (h : Rdr w R v l at_ why) (hb : BS w vb l) (hw : why = 0) (hk : kind.tmod 4 = 0) :
    Calls Try.prog 17 #[.pointer (some ⟨R, 0, none⟩), vb, .int .i64 at_, .int .i64 why, .agg #[.int .i64 kind, .int .i64 most]] w (Stepped R v l (stepS l at_ why (kind.tmod 4) most) w) := by
  have k0 : (kind.tmod 4 == 0) = true := by simp [hk]
  have kw : (why == 0) = true := by simp [hw]
  subst hw
  obtain ⟨n, k, e0, hr⟩ : ∃ n k e0, rd (l.drop at_) = (n, k, e0) := ⟨_, _, _, rfl⟩
  have hx := step_num l at_ n k e0 hr
  have hkl : at_ + k ≤ l.length := by have := (cntS_bd l at_ 0 9223372036854775807 ha).1; rw [hx] at this; exact this
  have hS : stepS l at_ 0 (kind.tmod 4) most = (at_ + k, (e0 : Int)) := by unfold stepS; rw [if_pos hk, hx]
  rw [hS]
  clear hS hk
  have e1 : Below w.heap.size w (w.alloc (.cells #[.int .i64 kind, .int .i64 most] 37)) := (Below.refl _ _).alloc (Nat.le_refl _) _
  have bC := Bx.fresh w 37 #[.int .i64 kind, .int .i64 most]
  have hR1 := h.step e1
  have hB1 := hb.next e1
  have hRC : R < w.heap.size := h.1.inside
  have hg1 := gb_below e1 (some R)
  have cr : ∀ w1, Rdr w1 R v l at_ 0 → Calls Try.prog 22 #[.pointer (some ⟨R, 0, none⟩)] w1 (Left R v l (.returned (.int .i64 n)) (at_ + k) (e0 : Int) w1) := fun w1 h1 => by
    have h2 := num_any R v l at_ 0 ha hl hA w1 h1
    rw [hx] at h2
    exact h2
  have CR := Hid.mk' cr
  clear cr
  obtain ⟨vd, hcut, hbd⟩ := cut_from hB1 at_ ha
  have hld : (l.drop at_).length ≤ 100000 := by rw [List.length_drop]; omega
  have cn := refnum_any vd (l.drop at_) hld _ hbd
  rw [hr] at cn
  unfold rdE at cn
  dsimp only at cn
  have CN := Hid.mk' cn
  clear cn hbd hr hx
  have H1 := Hid.mk' (And.intro hR1 (And.intro hg1 bC))
  clear hR1 hg1 bC hB1 h hb e1
  obtain ⟨zk, hzk⟩ : ∃ z : Int, (k : Int) = z := ⟨_, rfl⟩
  obtain ⟨ze, hze⟩ : ∃ z : Int, (e0 : Int) = z := ⟨_, rfl⟩
  have HZ := Hid.mk' (show (at_ : Int) + zk = ((at_ + k : Nat) : Int) ∧ ((at_ + k : Nat) : Int) = (at_ : Int) + zk by rw [Int.natCast_add, hzk]; exact ⟨rfl, rfl⟩)
  rw [hzk, hze] at CN
  rw [hze] at CR ⊢
  obtain ⟨zn, hzn⟩ : ∃ z : Int, (n : Int) = z := ⟨_, rfl⟩
  rw [hzn] at CN CR
  clear hzn
  have hkb : (at_ : Int) + zk ≤ 100000 ∧ 0 ≤ zk := by omega
  obtain ⟨hkb1, hkb2⟩ := hkb
  clear hzk hze hkl
  go_enter Try.func17, Try.ntmps17
  go_wp2_with fail
  refine (CN.out).mono ?_; rintro e w' ⟨rfl, rfl⟩
  obtain ⟨hR9, hg9, bC9⟩ := H1.out
  have H9 := Hid.mk' (And.intro hR9 hg9)
  clear hR9 hg9 H1
  clear hcut
  generalize (w.alloc (.cells #[.int .i64 kind, .int .i64 most] 37)) = w9 at *
  clear bC9
  go_wp2_with fail
  refine (CR.out _ H9.out.1).mono ?_; rintro e w2 ⟨rfl, hR2, hg2⟩
  have H2 := Hid.mk' (And.intro hR2 (gb_trans H9.out.2 hg2))
  clear hR2 hg2
  have ca := at_any R v l _ _ _ H2.out.1
  rw [HZ.out.2] at ca
  have CA := Hid.mk' ca
  clear ca
  go_wp2_with fail
  refine (CA.out).mono ?_; rintro e w' ⟨rfl, rfl⟩
  go_wp2_with fail
  refine (why_any R v l _ _ _ H2.out.1).mono ?_; rintro e w' ⟨rfl, rfl⟩
  go_wp2_with fail
  go_ret3
  exact ⟨by show _ = Ending.returned (.tuple #[.int .i64 ((at_ + k : Nat) : Int), .int .i64 ze, .bool true]); rw [HZ.out.2]; rfl, H2.out.1, H2.out.2⟩
set_option maxRecDepth 100000 in
set_option maxHeartbeats 4000000 in
theorem step_z1 (R : Nat) (v vb : Value) (l : List UInt8) (at_ : Nat) (why kind most : Int) (ha : at_ ≤ l.length) (hl : l.length ≤ 100000) (hA : Apart R v) (w : World) (h : Rdr w R v l at_ why) (hb : BS w vb l) (hw : why = 0) (hk : kind.tmod 4 = 1) :
    Calls Try.prog 17 #[.pointer (some ⟨R, 0, none⟩), vb, .int .i64 at_, .int .i64 why, .agg #[.int .i64 kind, .int .i64 most]] w (Stepped R v l (stepS l at_ why (kind.tmod 4) most) w) := by
  have k0 : (kind.tmod 4 == 0) = false := by simp [hk]
  have k1 : (kind.tmod 4 == 1) = true := by simp [hk]
  have kw : (why == 0) = true := by simp [hw]
  subst hw
  obtain ⟨s, k, e0, hr⟩ : ∃ s k e0, rrS (l.drop at_) most = (s, k, e0) := ⟨_, _, _, rfl⟩
  have hx := step_txt l at_ k e0 most s hr
  have hkl : at_ + k ≤ l.length := by have := txtS_bd l at_ 0 most ha; rw [hx] at this; exact this
  have hS : stepS l at_ 0 (kind.tmod 4) most = (at_ + k, (e0 : Int)) := by unfold stepS; rw [if_neg (by omega), if_pos hk, hx]
  rw [hS]
  clear hS hk
  have e1 : Below w.heap.size w (w.alloc (.cells #[.int .i64 kind, .int .i64 most] 37)) := (Below.refl _ _).alloc (Nat.le_refl _) _
  have bC := Bx.fresh w 37 #[.int .i64 kind, .int .i64 most]
  have hR1 := h.step e1
  have hB1 := hb.next e1
  have hRC : R < w.heap.size := h.1.inside
  have hg1 := gb_below e1 (some R)
  have cr : ∀ w1, Rdr w1 R v l at_ 0 → Calls Try.prog 23 #[.pointer (some ⟨R, 0, none⟩), .int .i64 most] w1 (Left R v l (.returned (.string (mkB s))) (at_ + k) (e0 : Int) w1) := fun w1 h1 => by
    have h2 := rtext_any R v l at_ 0 most ha hl hA w1 h1
    rw [hx] at h2
    exact h2
  have CR := Hid.mk' cr
  clear cr
  obtain ⟨vd, hcut, hbd⟩ := cut_from hB1 at_ ha
  have hld : (l.drop at_).length ≤ 100000 := by rw [List.length_drop]; omega
  have cn : ∀ q, Calls Try.prog 45 #[vd, .int .i64 most] ((w.alloc (.cells #[.int .i64 kind, .int .i64 most] 37)).drewN q) fun e w' => e = .returned (.tuple #[.string (mkB s), .int .i64 k, .int .i64 e0]) ∧ w' = (w.alloc (.cells #[.int .i64 kind, .int .i64 most] 37)).drewN q := fun q => by
    have c := refread_any vd (l.drop at_) most hld _ (hbd.drawn q)
    rw [hr] at c
    exact c.mono fun _ _ ⟨a, b⟩ => ⟨a, b.symm⟩
  have CN := Hid.mk' cn
  clear cn hbd hr hx
  have H1 := Hid.mk' (And.intro hR1 (And.intro hg1 bC))
  clear hR1 hg1 bC hB1 h hb e1
  obtain ⟨zk, hzk⟩ : ∃ z : Int, (k : Int) = z := ⟨_, rfl⟩
  obtain ⟨ze, hze⟩ : ∃ z : Int, (e0 : Int) = z := ⟨_, rfl⟩
  have HZ := Hid.mk' (show (at_ : Int) + zk = ((at_ + k : Nat) : Int) ∧ ((at_ + k : Nat) : Int) = (at_ : Int) + zk by rw [Int.natCast_add, hzk]; exact ⟨rfl, rfl⟩)
  rw [hzk, hze] at CN
  rw [hze] at CR ⊢
  have hkb : (at_ : Int) + zk ≤ 100000 ∧ 0 ≤ zk := by omega
  obtain ⟨hkb1, hkb2⟩ := hkb
  clear hzk hze hkl
  go_enter Try.func17, Try.ntmps17
  go_wp2_with fail
  go_quiet (exact Calls.quiet_of_same (CN.out _))
  have hR9 : Rdr _ R v l at_ 0 := ⟨H1.out.1.1.drawn nq, H1.out.1.2.drawn nq⟩
  have bC9 := H1.out.2.2.drawn nq
  have hg9 := gb_trans H1.out.2.1 (gb_drawn _ nq _)
  have H9 := Hid.mk' (And.intro hR9 hg9)
  clear hR9 hg9 H1
  clear hcut
  generalize ((w.alloc (.cells #[.int .i64 kind, .int .i64 most] 37)).drewN nq) = w9 at *
  obtain ⟨b0, b1⟩ : w9.cell? ⟨w.heap.size, 0, none⟩ = some (.int .i64 kind) ∧ w9.cell? ⟨w.heap.size, 1, none⟩ = some (.int .i64 most) := ⟨bC9.read rfl, bC9.read rfl⟩
  clear b0
  go_wp2_with fail
  refine (CR.out _ H9.out.1).mono ?_; rintro e w2 ⟨rfl, hR2, hg2⟩
  have H2 := Hid.mk' (And.intro hR2 (gb_trans H9.out.2 hg2))
  clear hR2 hg2
  have ca := at_any R v l _ _ _ H2.out.1
  rw [HZ.out.2] at ca
  have CA := Hid.mk' ca
  clear ca
  go_wp2_with fail
  refine (CA.out).mono ?_; rintro e w' ⟨rfl, rfl⟩
  go_wp2_with fail
  refine (why_any R v l _ _ _ H2.out.1).mono ?_; rintro e w' ⟨rfl, rfl⟩
  go_wp2_with fail
  go_ret3
  exact ⟨by show _ = Ending.returned (.tuple #[.int .i64 ((at_ + k : Nat) : Int), .int .i64 ze, .bool true]); rw [HZ.out.2]; rfl, H2.out.1, H2.out.2⟩
set_option maxRecDepth 100000 in
set_option maxHeartbeats 4000000 in
theorem step_z2 (R : Nat) (v vb : Value) (l : List UInt8) (at_ : Nat) (why kind most : Int) (ha : at_ ≤ l.length) (hl : l.length ≤ 100000) (hA : Apart R v) (w : World) (h : Rdr w R v l at_ why) (hb : BS w vb l) (hw : why = 0) (hk : kind.tmod 4 = 2) :
    Calls Try.prog 17 #[.pointer (some ⟨R, 0, none⟩), vb, .int .i64 at_, .int .i64 why, .agg #[.int .i64 kind, .int .i64 most]] w (Stepped R v l (stepS l at_ why (kind.tmod 4) most) w) := by
  have k0 : (kind.tmod 4 == 0) = false := by simp [hk]
  have k1 : (kind.tmod 4 == 1) = false := by simp [hk]
  have k2 : (kind.tmod 4 == 2) = true := by simp [hk]
  have kw : (why == 0) = true := by simp [hw]
  subst hw
  obtain ⟨n, k, e0, hr⟩ : ∃ n k e0, rcS (l.drop at_) most = (n, k, e0) := ⟨_, _, _, rfl⟩
  have hx := step_cnt l at_ n k e0 most hr
  have hkl : at_ + k ≤ l.length := by have := (cntS_bd l at_ 0 most ha).1; rw [hx] at this; exact this
  have hS : stepS l at_ 0 (kind.tmod 4) most = (at_ + k, (e0 : Int)) := by unfold stepS; rw [if_neg (by omega), if_neg (by omega), if_pos hk, hx]
  rw [hS]
  clear hS hk
  have e1 : Below w.heap.size w (w.alloc (.cells #[.int .i64 kind, .int .i64 most] 37)) := (Below.refl _ _).alloc (Nat.le_refl _) _
  have bC := Bx.fresh w 37 #[.int .i64 kind, .int .i64 most]
  have hR1 := h.step e1
  have hB1 := hb.next e1
  have hRC : R < w.heap.size := h.1.inside
  have hg1 := gb_below e1 (some R)
  have cr : ∀ w1, Rdr w1 R v l at_ 0 → Calls Try.prog 47 #[.pointer (some ⟨R, 0, none⟩), .int .i64 most] w1 (Left R v l (.returned (.int .i64 n)) (at_ + k) (e0 : Int) w1) := fun w1 h1 => by
    have h2 := count_any R v l at_ 0 most ha hl hA w1 h1
    rw [hx] at h2
    exact h2
  have CR := Hid.mk' cr
  clear cr
  obtain ⟨vd, hcut, hbd⟩ := cut_from hB1 at_ ha
  have hld : (l.drop at_).length ≤ 100000 := by rw [List.length_drop]; omega
  have cn : ∀ q, Calls Try.prog 46 #[vd, .int .i64 most] ((w.alloc (.cells #[.int .i64 kind, .int .i64 most] 37)).drewN q) fun e w' => e = .returned (.tuple #[.int .i64 n, .int .i64 k, .int .i64 e0]) ∧ w' = (w.alloc (.cells #[.int .i64 kind, .int .i64 most] 37)).drewN q := fun q => by
    have c := refcount_any vd (l.drop at_) most hld _ (hbd.drawn q)
    rw [hr] at c
    exact c.mono fun _ _ ⟨a, b⟩ => ⟨a, b.symm⟩
  have CN := Hid.mk' cn
  clear cn hbd hr hx
  have H1 := Hid.mk' (And.intro hR1 (And.intro hg1 bC))
  clear hR1 hg1 bC hB1 h hb e1
  obtain ⟨zk, hzk⟩ : ∃ z : Int, (k : Int) = z := ⟨_, rfl⟩
  obtain ⟨ze, hze⟩ : ∃ z : Int, (e0 : Int) = z := ⟨_, rfl⟩
  have HZ := Hid.mk' (show (at_ : Int) + zk = ((at_ + k : Nat) : Int) ∧ ((at_ + k : Nat) : Int) = (at_ : Int) + zk by rw [Int.natCast_add, hzk]; exact ⟨rfl, rfl⟩)
  rw [hzk, hze] at CN
  rw [hze] at CR ⊢
  obtain ⟨zn, hzn⟩ : ∃ z : Int, (n : Int) = z := ⟨_, rfl⟩
  rw [hzn] at CN CR
  clear hzn
  have hkb : (at_ : Int) + zk ≤ 100000 ∧ 0 ≤ zk := by omega
  obtain ⟨hkb1, hkb2⟩ := hkb
  clear hzk hze hkl
  go_enter Try.func17, Try.ntmps17
  go_wp2_with fail
  go_quiet (exact Calls.quiet_of_same (CN.out _))
  have hR9 : Rdr _ R v l at_ 0 := ⟨H1.out.1.1.drawn nq, H1.out.1.2.drawn nq⟩
  have bC9 := H1.out.2.2.drawn nq
  have hg9 := gb_trans H1.out.2.1 (gb_drawn _ nq _)
  have H9 := Hid.mk' (And.intro hR9 hg9)
  clear hR9 hg9 H1
  clear hcut
  generalize ((w.alloc (.cells #[.int .i64 kind, .int .i64 most] 37)).drewN nq) = w9 at *
  obtain ⟨b0, b1⟩ : w9.cell? ⟨w.heap.size, 0, none⟩ = some (.int .i64 kind) ∧ w9.cell? ⟨w.heap.size, 1, none⟩ = some (.int .i64 most) := ⟨bC9.read rfl, bC9.read rfl⟩
  clear b0
  go_wp2_with fail
  refine (CR.out _ H9.out.1).mono ?_; rintro e w2 ⟨rfl, hR2, hg2⟩
  have H2 := Hid.mk' (And.intro hR2 (gb_trans H9.out.2 hg2))
  clear hR2 hg2
  have ca := at_any R v l _ _ _ H2.out.1
  rw [HZ.out.2] at ca
  have CA := Hid.mk' ca
  clear ca
  go_wp2_with fail
  refine (CA.out).mono ?_; rintro e w' ⟨rfl, rfl⟩
  go_wp2_with fail
  refine (why_any R v l _ _ _ H2.out.1).mono ?_; rintro e w' ⟨rfl, rfl⟩
  go_wp2_with fail
  go_ret3
  exact ⟨by show _ = Ending.returned (.tuple #[.int .i64 ((at_ + k : Nat) : Int), .int .i64 ze, .bool true]); rw [HZ.out.2]; rfl, H2.out.1, H2.out.2⟩
set_option maxRecDepth 100000 in
set_option maxHeartbeats 4000000 in
theorem step_z3a (R : Nat) (v vb : Value) (l : List UInt8) (at_ : Nat) (why kind most : Int) (ha : at_ ≤ l.length) (hl : l.length ≤ 100000) (hA : Apart R v) (w : World) (h : Rdr w R v l at_ why) (hb : BS w vb l) (hw : why = 0) (hk : ¬ kind.tmod 4 = 0 ∧ ¬ kind.tmod 4 = 1 ∧ ¬ kind.tmod 4 = 2) (hlt : at_ < l.length) :
    Calls Try.prog 17 #[.pointer (some ⟨R, 0, none⟩), vb, .int .i64 at_, .int .i64 why, .agg #[.int .i64 kind, .int .i64 most]] w (Stepped R v l (stepS l at_ why (kind.tmod 4) most) w) := by
  have k0 : (kind.tmod 4 == 0) = false := by simp [hk.1, hk.2.1, hk.2.2]
  have k1 : (kind.tmod 4 == 1) = false := by simp [hk.1, hk.2.1, hk.2.2]
  have k2 : (kind.tmod 4 == 2) = false := by simp [hk.1, hk.2.1, hk.2.2]
  have kw : (why == 0) = true := by simp [hw]
  subst hw
  have hx : endS l at_ 0 = 31 := by unfold endS; simp [hlt]
  have hS : stepS l at_ 0 (kind.tmod 4) most = (at_, 31) := by unfold stepS; rw [if_neg hk.1, if_neg hk.2.1, if_neg hk.2.2, hx]
  rw [hS]
  clear hS hk
  have e1 : Below w.heap.size w (w.alloc (.cells #[.int .i64 kind, .int .i64 most] 37)) := (Below.refl _ _).alloc (Nat.le_refl _) _
  have bC := Bx.fresh w 37 #[.int .i64 kind, .int .i64 most]
  have hR1 := h.step e1
  have hB1 := hb.next e1
  have hRC : R < w.heap.size := h.1.inside
  have hg1 := gb_below e1 (some R)
  have cr : ∀ w1, Rdr w1 R v l at_ 0 → Calls Try.prog 48 #[.pointer (some ⟨R, 0, none⟩)] w1 (Left R v l (.returned (.int .i64 31)) at_ 31 w1) := fun w1 h1 => by
    have h2 := end_any R v l at_ 0 ha hl hA w1 h1
    rw [hx] at h2
    exact h2
  have CR := Hid.mk' cr
  clear cr
  have hlen := fun w' => len_bs hB1 w'
  have hil : decide ((at_ : Int) < (l.length : Int)) = true := by simp; omega
  have hil2 : (at_ : Int) < (l.length : Int) := by omega
  clear hx hlt
  have H1 := Hid.mk' (And.intro hR1 (And.intro hg1 bC))
  clear hR1 hg1 bC hB1 h hb e1
  go_enter Try.func17, Try.ntmps17
  go_wp2_with fail
  obtain ⟨hR9, hg9, bC9⟩ := H1.out
  have H9 := Hid.mk' (And.intro hR9 hg9)
  clear hR9 hg9 H1
  generalize (w.alloc (.cells #[.int .i64 kind, .int .i64 most] 37)) = w9 at *
  clear bC9
  refine (CR.out _ H9.out.1).mono ?_; rintro e w2 ⟨rfl, hR2, hg2⟩
  have H2 := Hid.mk' (And.intro hR2 (gb_trans H9.out.2 hg2))
  clear hR2 hg2
  have ca := at_any R v l _ _ _ H2.out.1
  have CA := Hid.mk' ca
  clear ca
  go_wp2_with fail
  refine (CA.out).mono ?_; rintro e w' ⟨rfl, rfl⟩
  go_wp2_with fail
  refine (why_any R v l _ _ _ H2.out.1).mono ?_; rintro e w' ⟨rfl, rfl⟩
  go_wp2_with fail
  go_ret3
  exact ⟨rfl, H2.out.1, H2.out.2⟩
set_option maxRecDepth 100000 in
set_option maxHeartbeats 4000000 in
theorem step_z3b (R : Nat) (v vb : Value) (l : List UInt8) (at_ : Nat) (why kind most : Int) (ha : at_ ≤ l.length) (hl : l.length ≤ 100000) (hA : Apart R v) (w : World) (h : Rdr w R v l at_ why) (hb : BS w vb l) (hw : why = 0) (hk : ¬ kind.tmod 4 = 0 ∧ ¬ kind.tmod 4 = 1 ∧ ¬ kind.tmod 4 = 2) (hlt : ¬ at_ < l.length) :
    Calls Try.prog 17 #[.pointer (some ⟨R, 0, none⟩), vb, .int .i64 at_, .int .i64 why, .agg #[.int .i64 kind, .int .i64 most]] w (Stepped R v l (stepS l at_ why (kind.tmod 4) most) w) := by
  have k0 : (kind.tmod 4 == 0) = false := by simp [hk.1, hk.2.1, hk.2.2]
  have k1 : (kind.tmod 4 == 1) = false := by simp [hk.1, hk.2.1, hk.2.2]
  have k2 : (kind.tmod 4 == 2) = false := by simp [hk.1, hk.2.1, hk.2.2]
  have kw : (why == 0) = true := by simp [hw]
  subst hw
  have hx : endS l at_ 0 = 0 := by unfold endS; simp [hlt]
  have hS : stepS l at_ 0 (kind.tmod 4) most = (at_, 0) := by unfold stepS; rw [if_neg hk.1, if_neg hk.2.1, if_neg hk.2.2, hx]
  rw [hS]
  clear hS hk
  have e1 : Below w.heap.size w (w.alloc (.cells #[.int .i64 kind, .int .i64 most] 37)) := (Below.refl _ _).alloc (Nat.le_refl _) _
  have bC := Bx.fresh w 37 #[.int .i64 kind, .int .i64 most]
  have hR1 := h.step e1
  have hB1 := hb.next e1
  have hRC : R < w.heap.size := h.1.inside
  have hg1 := gb_below e1 (some R)
  have cr : ∀ w1, Rdr w1 R v l at_ 0 → Calls Try.prog 48 #[.pointer (some ⟨R, 0, none⟩)] w1 (Left R v l (.returned (.int .i64 0)) at_ 0 w1) := fun w1 h1 => by
    have h2 := end_any R v l at_ 0 ha hl hA w1 h1
    rw [hx] at h2
    exact h2
  have CR := Hid.mk' cr
  clear cr
  have hlen := fun w' => len_bs hB1 w'
  have hil : decide ((at_ : Int) < (l.length : Int)) = false := by simp; omega
  have hil2 : (l.length : Int) ≤ (at_ : Int) := by omega
  clear hx hlt
  have H1 := Hid.mk' (And.intro hR1 (And.intro hg1 bC))
  clear hR1 hg1 bC hB1 h hb e1
  go_enter Try.func17, Try.ntmps17
  go_wp2_with fail
  obtain ⟨hR9, hg9, bC9⟩ := H1.out
  have H9 := Hid.mk' (And.intro hR9 hg9)
  clear hR9 hg9 H1
  generalize (w.alloc (.cells #[.int .i64 kind, .int .i64 most] 37)) = w9 at *
  clear bC9
  refine (CR.out _ H9.out.1).mono ?_; rintro e w2 ⟨rfl, hR2, hg2⟩
  have H2 := Hid.mk' (And.intro hR2 (gb_trans H9.out.2 hg2))
  clear hR2 hg2
  have ca := at_any R v l _ _ _ H2.out.1
  have CA := Hid.mk' ca
  clear ca
  go_wp2_with fail
  refine (CA.out).mono ?_; rintro e w' ⟨rfl, rfl⟩
  go_wp2_with fail
  refine (why_any R v l _ _ _ H2.out.1).mono ?_; rintro e w' ⟨rfl, rfl⟩
  go_wp2_with fail
  go_ret3
  exact ⟨rfl, H2.out.1, H2.out.2⟩
set_option maxRecDepth 100000 in
set_option maxHeartbeats 4000000 in
theorem step_y0 (R : Nat) (v vb : Value) (l : List UInt8) (at_ : Nat) (why kind most : Int) (ha : at_ ≤ l.length) (hl : l.length ≤ 100000) (hA : Apart R v) (w : World) (h : Rdr w R v l at_ why) (hb : BS w vb l) (hw : ¬ why = 0) (hk : kind.tmod 4 = 0) :
    Calls Try.prog 17 #[.pointer (some ⟨R, 0, none⟩), vb, .int .i64 at_, .int .i64 why, .agg #[.int .i64 kind, .int .i64 most]] w (Stepped R v l (stepS l at_ why (kind.tmod 4) most) w) := by
  have k0 : (kind.tmod 4 == 0) = true := by simp [hk]
  have kw : (why == 0) = false := by simp [hw]
  have hx : cntS l at_ why 9223372036854775807 = (0, at_, why) := by unfold cntS; rw [if_pos hw]
  have hS : stepS l at_ why (kind.tmod 4) most = (at_, why) := by unfold stepS; rw [if_pos hk, hx]
  rw [hS]
  clear hS hk
  clear hw
  have e1 : Below w.heap.size w (w.alloc (.cells #[.int .i64 kind, .int .i64 most] 37)) := (Below.refl _ _).alloc (Nat.le_refl _) _
  have bC := Bx.fresh w 37 #[.int .i64 kind, .int .i64 most]
  have hR1 := h.step e1
  have hB1 := hb.next e1
  have hRC : R < w.heap.size := h.1.inside
  have hg1 := gb_below e1 (some R)
  have cr : ∀ w1, Rdr w1 R v l at_ why → Calls Try.prog 22 #[.pointer (some ⟨R, 0, none⟩)] w1 (Left R v l (.returned (.int .i64 0)) at_ why w1) := fun w1 h1 => by
    have h2 := num_any R v l at_ why ha hl hA w1 h1
    rw [hx] at h2
    exact h2
  have CR := Hid.mk' cr
  clear cr
  clear hx
  have H1 := Hid.mk' (And.intro hR1 (And.intro hg1 bC))
  clear hR1 hg1 bC hB1 h hb e1
  go_enter Try.func17, Try.ntmps17
  go_wp2_with fail
  obtain ⟨hR9, hg9, bC9⟩ := H1.out
  have H9 := Hid.mk' (And.intro hR9 hg9)
  clear hR9 hg9 H1
  generalize (w.alloc (.cells #[.int .i64 kind, .int .i64 most] 37)) = w9 at *
  clear bC9
  refine (CR.out _ H9.out.1).mono ?_; rintro e w2 ⟨rfl, hR2, hg2⟩
  have H2 := Hid.mk' (And.intro hR2 (gb_trans H9.out.2 hg2))
  clear hR2 hg2
  have ca := at_any R v l _ _ _ H2.out.1
  have CA := Hid.mk' ca
  clear ca
  go_wp2_with fail
  refine (CA.out).mono ?_; rintro e w' ⟨rfl, rfl⟩
  go_wp2_with fail
  refine (why_any R v l _ _ _ H2.out.1).mono ?_; rintro e w' ⟨rfl, rfl⟩
  go_wp2_with fail
  go_ret3
  exact ⟨rfl, H2.out.1, H2.out.2⟩
set_option maxRecDepth 100000 in
set_option maxHeartbeats 4000000 in
theorem step_y1 (R : Nat) (v vb : Value) (l : List UInt8) (at_ : Nat) (why kind most : Int) (ha : at_ ≤ l.length) (hl : l.length ≤ 100000) (hA : Apart R v) (w : World) (h : Rdr w R v l at_ why) (hb : BS w vb l) (hw : ¬ why = 0) (hk : kind.tmod 4 = 1) :
    Calls Try.prog 17 #[.pointer (some ⟨R, 0, none⟩), vb, .int .i64 at_, .int .i64 why, .agg #[.int .i64 kind, .int .i64 most]] w (Stepped R v l (stepS l at_ why (kind.tmod 4) most) w) := by
  have k0 : (kind.tmod 4 == 0) = false := by simp [hk]
  have k1 : (kind.tmod 4 == 1) = true := by simp [hk]
  have kw : (why == 0) = false := by simp [hw]
  have hx : txtS l at_ why most = ([], at_, why) := by unfold txtS cntS; rw [if_pos hw]; dsimp only; rw [if_neg (by omega)]; simp
  have hS : stepS l at_ why (kind.tmod 4) most = (at_, why) := by unfold stepS; rw [if_neg (by omega), if_pos hk, hx]
  rw [hS]
  clear hS hk
  clear hw
  have e1 : Below w.heap.size w (w.alloc (.cells #[.int .i64 kind, .int .i64 most] 37)) := (Below.refl _ _).alloc (Nat.le_refl _) _
  have bC := Bx.fresh w 37 #[.int .i64 kind, .int .i64 most]
  have hR1 := h.step e1
  have hB1 := hb.next e1
  have hRC : R < w.heap.size := h.1.inside
  have hg1 := gb_below e1 (some R)
  have cr : ∀ w1, Rdr w1 R v l at_ why → Calls Try.prog 23 #[.pointer (some ⟨R, 0, none⟩), .int .i64 most] w1 (Left R v l (.returned (.string ⟨#[]⟩)) at_ why w1) := fun w1 h1 => by
    have h2 := rtext_any R v l at_ why most ha hl hA w1 h1
    rw [hx] at h2
    exact h2
  have CR := Hid.mk' cr
  clear cr
  clear hx
  have H1 := Hid.mk' (And.intro hR1 (And.intro hg1 bC))
  clear hR1 hg1 bC hB1 h hb e1
  go_enter Try.func17, Try.ntmps17
  go_wp2_with fail
  obtain ⟨hR9, hg9, bC9⟩ := H1.out
  have H9 := Hid.mk' (And.intro hR9 hg9)
  clear hR9 hg9 H1
  generalize (w.alloc (.cells #[.int .i64 kind, .int .i64 most] 37)) = w9 at *
  clear bC9
  refine (CR.out _ H9.out.1).mono ?_; rintro e w2 ⟨rfl, hR2, hg2⟩
  have H2 := Hid.mk' (And.intro hR2 (gb_trans H9.out.2 hg2))
  clear hR2 hg2
  have ca := at_any R v l _ _ _ H2.out.1
  have CA := Hid.mk' ca
  clear ca
  go_wp2_with fail
  refine (CA.out).mono ?_; rintro e w' ⟨rfl, rfl⟩
  go_wp2_with fail
  refine (why_any R v l _ _ _ H2.out.1).mono ?_; rintro e w' ⟨rfl, rfl⟩
  go_wp2_with fail
  go_ret3
  exact ⟨rfl, H2.out.1, H2.out.2⟩
set_option maxRecDepth 100000 in
set_option maxHeartbeats 4000000 in
theorem step_y2 (R : Nat) (v vb : Value) (l : List UInt8) (at_ : Nat) (why kind most : Int) (ha : at_ ≤ l.length) (hl : l.length ≤ 100000) (hA : Apart R v) (w : World) (h : Rdr w R v l at_ why) (hb : BS w vb l) (hw : ¬ why = 0) (hk : kind.tmod 4 = 2) :
    Calls Try.prog 17 #[.pointer (some ⟨R, 0, none⟩), vb, .int .i64 at_, .int .i64 why, .agg #[.int .i64 kind, .int .i64 most]] w (Stepped R v l (stepS l at_ why (kind.tmod 4) most) w) := by
  have k0 : (kind.tmod 4 == 0) = false := by simp [hk]
  have k1 : (kind.tmod 4 == 1) = false := by simp [hk]
  have k2 : (kind.tmod 4 == 2) = true := by simp [hk]
  have kw : (why == 0) = false := by simp [hw]
  have hx : cntS l at_ why most = (0, at_, why) := by unfold cntS; rw [if_pos hw]
  have hS : stepS l at_ why (kind.tmod 4) most = (at_, why) := by unfold stepS; rw [if_neg (by omega), if_neg (by omega), if_pos hk, hx]
  rw [hS]
  clear hS hk
  clear hw
  have e1 : Below w.heap.size w (w.alloc (.cells #[.int .i64 kind, .int .i64 most] 37)) := (Below.refl _ _).alloc (Nat.le_refl _) _
  have bC := Bx.fresh w 37 #[.int .i64 kind, .int .i64 most]
  have hR1 := h.step e1
  have hB1 := hb.next e1
  have hRC : R < w.heap.size := h.1.inside
  have hg1 := gb_below e1 (some R)
  have cr : ∀ w1, Rdr w1 R v l at_ why → Calls Try.prog 47 #[.pointer (some ⟨R, 0, none⟩), .int .i64 most] w1 (Left R v l (.returned (.int .i64 0)) at_ why w1) := fun w1 h1 => by
    have h2 := count_any R v l at_ why most ha hl hA w1 h1
    rw [hx] at h2
    exact h2
  have CR := Hid.mk' cr
  clear cr
  clear hx
  have H1 := Hid.mk' (And.intro hR1 (And.intro hg1 bC))
  clear hR1 hg1 bC hB1 h hb e1
  go_enter Try.func17, Try.ntmps17
  go_wp2_with fail
  obtain ⟨hR9, hg9, bC9⟩ := H1.out
  have H9 := Hid.mk' (And.intro hR9 hg9)
  clear hR9 hg9 H1
  generalize (w.alloc (.cells #[.int .i64 kind, .int .i64 most] 37)) = w9 at *
  clear bC9
  refine (CR.out _ H9.out.1).mono ?_; rintro e w2 ⟨rfl, hR2, hg2⟩
  have H2 := Hid.mk' (And.intro hR2 (gb_trans H9.out.2 hg2))
  clear hR2 hg2
  have ca := at_any R v l _ _ _ H2.out.1
  have CA := Hid.mk' ca
  clear ca
  go_wp2_with fail
  refine (CA.out).mono ?_; rintro e w' ⟨rfl, rfl⟩
  go_wp2_with fail
  refine (why_any R v l _ _ _ H2.out.1).mono ?_; rintro e w' ⟨rfl, rfl⟩
  go_wp2_with fail
  go_ret3
  exact ⟨rfl, H2.out.1, H2.out.2⟩
set_option maxRecDepth 100000 in
set_option maxHeartbeats 4000000 in
theorem step_y3 (R : Nat) (v vb : Value) (l : List UInt8) (at_ : Nat) (why kind most : Int) (ha : at_ ≤ l.length) (hl : l.length ≤ 100000) (hA : Apart R v) (w : World) (h : Rdr w R v l at_ why) (hb : BS w vb l) (hw : ¬ why = 0) (hk : ¬ kind.tmod 4 = 0 ∧ ¬ kind.tmod 4 = 1 ∧ ¬ kind.tmod 4 = 2) :
    Calls Try.prog 17 #[.pointer (some ⟨R, 0, none⟩), vb, .int .i64 at_, .int .i64 why, .agg #[.int .i64 kind, .int .i64 most]] w (Stepped R v l (stepS l at_ why (kind.tmod 4) most) w) := by
  have k0 : (kind.tmod 4 == 0) = false := by simp [hk.1, hk.2.1, hk.2.2]
  have k1 : (kind.tmod 4 == 1) = false := by simp [hk.1, hk.2.1, hk.2.2]
  have k2 : (kind.tmod 4 == 2) = false := by simp [hk.1, hk.2.1, hk.2.2]
  have kw : (why == 0) = false := by simp [hw]
  have hx : endS l at_ why = why := by unfold endS; rw [if_neg hw]; split <;> rfl
  have hS : stepS l at_ why (kind.tmod 4) most = (at_, why) := by unfold stepS; rw [if_neg hk.1, if_neg hk.2.1, if_neg hk.2.2, hx]
  rw [hS]
  clear hS hk
  clear hw
  have e1 : Below w.heap.size w (w.alloc (.cells #[.int .i64 kind, .int .i64 most] 37)) := (Below.refl _ _).alloc (Nat.le_refl _) _
  have bC := Bx.fresh w 37 #[.int .i64 kind, .int .i64 most]
  have hR1 := h.step e1
  have hB1 := hb.next e1
  have hRC : R < w.heap.size := h.1.inside
  have hg1 := gb_below e1 (some R)
  have cr : ∀ w1, Rdr w1 R v l at_ why → Calls Try.prog 48 #[.pointer (some ⟨R, 0, none⟩)] w1 (Left R v l (.returned (.int .i64 why)) at_ why w1) := fun w1 h1 => by
    have h2 := end_any R v l at_ why ha hl hA w1 h1
    rw [hx] at h2
    exact h2
  have CR := Hid.mk' cr
  clear cr
  clear hx
  have H1 := Hid.mk' (And.intro hR1 (And.intro hg1 bC))
  clear hR1 hg1 bC hB1 h hb e1
  go_enter Try.func17, Try.ntmps17
  go_wp2_with fail
  obtain ⟨hR9, hg9, bC9⟩ := H1.out
  have H9 := Hid.mk' (And.intro hR9 hg9)
  clear hR9 hg9 H1
  generalize (w.alloc (.cells #[.int .i64 kind, .int .i64 most] 37)) = w9 at *
  clear bC9
  refine (CR.out _ H9.out.1).mono ?_; rintro e w2 ⟨rfl, hR2, hg2⟩
  have H2 := Hid.mk' (And.intro hR2 (gb_trans H9.out.2 hg2))
  clear hR2 hg2
  have ca := at_any R v l _ _ _ H2.out.1
  have CA := Hid.mk' ca
  clear ca
  go_wp2_with fail
  refine (CA.out).mono ?_; rintro e w' ⟨rfl, rfl⟩
  go_wp2_with fail
  refine (why_any R v l _ _ _ H2.out.1).mono ?_; rintro e w' ⟨rfl, rfl⟩
  go_wp2_with fail
  go_ret3
  exact ⟨rfl, H2.out.1, H2.out.2⟩
end Go.Proofs.Ytnkgicjclngnpaa
