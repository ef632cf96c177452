/- Layer 21 (conf): the statement ConfMembers' walk. -/
import Derived.Test.YtaeflfgkdjfnfaaMa
import Derived.Test.YtaeflfgkdjfnfaaE4
import Derived.Deep.RegionHeld3
namespace Go.Proofs.Ytaeflfgkdjfnfaa
open Go.RowKit
attribute [local irreducible] wpQuiet

set_option maxRecDepth 100000 in
set_option maxHeartbeats 4000000 in
theorem law_may_any (c : Cf) (n : Int) (v : Value) (gs : List (List Int)) (hl : gs.length ≤ 1000) (hs : ∀ g ∈ gs, g.length ≤ 1000) (w : World) (h : RR w v gs) :
    Calls Try.prog 33 #[.agg c.cells, .int .i64 n, v] w fun e w' => e = .returned (.bool (mayB c n gs)) ∧ Below w.heap.size w w' := by
  cases hi : c.is n with
  | true => exact law_may_in c n hi v gs hl hs w h
  | false =>
    have hb : Below w.heap.size w (w.alloc (.cells c.cells 39)) := (Below.refl _ _).alloc (Nat.le_refl _) _
    have hx := Bx.fresh w 39 c.cells
    have HB := Lib.hid hb
    have HM : Hid (mayB c n gs = false) := Lib.hid (by unfold mayB; rw [hi]; rfl)
    have hout : c.out n = true := by unfold Cf.is at hi; simpa using hi
    clear hb h hl hs hi
    rcases (show n < 0 ∨ (0 ≤ n ∧ 5 ≤ n) ∨ (0 ≤ n ∧ n < 5) from by omega) with h | ⟨h, h2⟩ | ⟨h, h2⟩
    · have d1 : decide (n < 0) = true := by rw [decide_eq_true_eq]; omega
      clear hx hout h
      go_enter Try.func33, Try.ntmps33
      go_wp2_with fail
      go_ret
      exact ⟨cret_b HM.out.symm, HB.out⟩
    · have d1 : decide (n < 0) = false := by rw [decide_eq_false_iff_not]; omega
      have d2 : decide (5 ≤ n) = true := by rw [decide_eq_true_eq]; omega
      clear hx hout h h2
      go_enter Try.func33, Try.ntmps33
      go_wp2_with fail
      go_ret
      exact ⟨cret_b HM.out.symm, HB.out⟩
    · have d1 : decide (n < 0) = false := by rw [decide_eq_false_iff_not]; omega
      have d2 : decide (5 ≤ n) = false := by rw [decide_eq_false_iff_not]; omega
      have xo := cell_out hx h h2
      rw [hout] at xo
      clear hx hout
      generalize c.cells = cs at *
      go_enter Try.func33, Try.ntmps33
      go_wp2_with fail
      go_ret
      exact ⟨cret_b HM.out.symm, HB.out⟩
theorem fst_snoc (p : Int → Bool) (l : List Int) (k : Nat) (h : k < l.length) : fst p (l.take (k + 1)) = if (fst p (l.take k)).2 = true then fst p (l.take k) else if p l[k] = true then (l[k], true) else (0, false) := by
  rw [List.take_succ_eq_append_getElem h]
  unfold fst
  rw [List.find?_append]
  cases hf : (l.take k).find? p with
  | some x => simp
  | none => cases hp : p l[k] <;> simp [hp]
theorem fst_off (p : Int → Bool) (l : List Int) (h : (fst p l).2 = false) : (fst p l).1 = 0 := by
  unfold fst at h ⊢
  cases hf : l.find? p with
  | some x => rw [hf] at h; simp at h
  | none => rfl
/-- append of one int onto a row of the call's own. -/
theorem wpList_appI {W0 X : World} {ops : Array Oper} {rest : List Oper} {o : Oper} {a : Act} {Q : Exit → Act → World → Prop} (hgd : o.guard = none) (s x : Operand)
    (ho : o.op = .call { callee := .builtin .append, args := #[s, x], argTypes := #[71, 71] })
    (v : Value) (L : List Int) (z : Int) (hs : a.eval s = v) (hx : a.eval x = .slice (some ⟨X.heap.size, 0, none⟩) 1 1) (hS : IO X W0.heap.size v L ∧ Below W0.heap.size W0 X) (hm : L.length ≤ 10000)
    (h : ∀ v' w', Hid (IO w' W0.heap.size v' (L ++ [z]) ∧ Below W0.heap.size W0 w') → wpList Try.prog ops Q rest (a.put o.dst v') w') : wpList Try.prog ops Q (o :: rest) a (X.alloc (.cells #[.int .i64 z] 3)) := by
  obtain ⟨i0, hi, hz0, hz1, hz2⟩ := info_parts i_info
  have hb : Below W0.heap.size W0 (X.alloc (.cells #[.int .i64 z] 3)) := hS.2.alloc hS.2.size _
  have hO : IO (X.alloc (.cells #[.int .i64 z] 3)) W0.heap.size v L := hS.1.next ((Below.refl _ X).alloc (Nat.le_refl _) _)
  have hf : Bx (X.alloc (.cells #[.int .i64 z] 3)) X.heap.size 3 #[.int .i64 z] := Bx.fresh X _ _
  refine wpList_append_own _ hgd s x 71 ho W0.heap.size 3 i0 _ 1 8 Try.underlying71 hi hz0 hz1 hz2 rfl (by decide) v L.length (iv L) hs hO ⟨X.heap.size, 0, none⟩ 1 1 [.int .i64 z] hx rfl ?_ (by intro u hu; simp at hu; subst hu; rfl) (by unfold maxLen; omega) (by omega) hb.size ?_
  · intro j u hu
    have hj : j = 0 := by have := (List.getElem?_eq_some_iff.1 hu).1; simp at this; exact this
    subst hj
    rw [addi]
    simp at hu
    subst hu
    exact hf.read rfl
  · intro v' w' ho' hg' _
    refine h v' w' (Lib.hid ⟨?_, hb.grown hg' hb.size (fun j hj => (hO.lt j hj).1)⟩)
    unfold IO
    rw [List.length_append, iv_snoc]
    exact ho'
end Go.Proofs.Ytaeflfgkdjfnfaa
