/- Layer 5 (vector): the document's Covers and Meet, in memory. -/
import Derived.Test.YtaeflfgkdjfnfaaQl
import Derived.Lib.QuietBelow
namespace Go.Proofs.Ytaeflfgkdjfnfaa
open Go.RowKit
attribute [local irreducible] wpQuiet

set_option maxRecDepth 100000 in
set_option maxHeartbeats 8000000 in
theorem covers05_any (va vl : Value) (la l : List (Int × Int)) (hna : la.length ≤ 5000) (hn : l.length ≤ 5000) (w : World) (h0 : DR w va la) (h : DR w vl l) :
    Calls Try.prog 74 #[va, vl] w fun e w' => e = .returned (.bool (covL la l)) ∧ Below w.heap.size w w' := by
  have HR := Lib.hid h
  have HA := Lib.hid h0
  obtain ⟨a, cap, rfl, hx, hc⟩ := h
  clear hx hc h0
  go_enter Try.func74, Try.ntmps74
  go_wp2_with fail
  go_loopw [5] (fun i wr => ∃ (k : Nat), i = .int .i64 k ∧ k ≤ l.length ∧ Hid (covL la l = covL la (l.drop k) ∧ Below w.heap.size w wr)) (fun i _ => l.length - (intOf i).toNat)
  case atStart => exact ⟨0, rfl, Nat.zero_le _, Lib.hid ⟨rfl, Below.refl _ _⟩⟩
  case round =>
    obtain ⟨k, rfl, hk, HS⟩ := hrel
    by_cases hlt : k < l.length
    · obtain ⟨a', cap', hv, _, hc⟩ := id HR.out
      obtain ⟨b, off, ha, hcell⟩ := hc (fun e => by rw [e] at hlt; simp at hlt)
      subst ha
      cases hv
      have x0 := cell_nxd HS.out.2 (hcell k hlt).1
      have x1 := cell_nxd HS.out.2 (hcell k hlt).2
      have hi1 : (k : Int) < (l.length : Int) := by omega
      have HD := Lib.hid (covL_drop la l k hlt)
      clear hcell hc
      generalize l[k] = p at *
      obtain ⟨pw, pn⟩ := p
      dsimp only at *
      have m0 : ∀ d os, (Go.Sort.grow (Go.redrawn wr d) os).cell? ⟨b, off + k * 2, none⟩ = some (.int .i64 pw) := fun d os => Go.cell_regrown x0 d os
      have m1 : ∀ d os, (Go.Sort.grow (Go.redrawn wr d) os).cell? ⟨b, off + k * 2 + 1, none⟩ = some (.int .i64 pn) := fun d os => Go.cell_regrown x1 d os
      have CG := Lib.hid (fun d os => Calls.regrown_of (d := d) (os := os) ((get05_any va la pw (by omega) (Go.Sort.grow (Go.redrawn wr d) os) ((HA.out.next HS.out.2).next (Go.below_regrown wr d os))).mono (fun e w' (hh : _ ∧ _) => And.intro hh.1 (by rw [hh.2]; exact Below.refl _ _))))
      generalize getL la pw = gg at *
      by_cases hg : gg < pn
      · have HE : Hid (covL la l = false) := Lib.hid (by rw [HS.out.1, HD.out, decide_eq_false (by omega)]; rfl)
        have hg2 : decide (gg < pn) = true := by simp [hg]
        clear HD
        go_wp2_with fail
        refine Go.wp_region_quiet_below (by kernel_rfl) (by kernel_rfl) ?_
        repeat (quiet_step (first | with_reducible exact CG.out _ _))
        refine wpQuiet_nil ?_
        intro _ hw'
        obtain ⟨⟨dq, osq⟩, hw''⟩ := hw'
        subst hw''
        have HF := Lib.hid (bnext HS.out.2 (Go.below_regrown wr dq osq))
        go_wp2_with fail
        go_ret
        exact ⟨ret_bl HE.out.symm, HF.out⟩
      · have HE : Hid (covL la l = covL la (l.drop (k + 1))) := Lib.hid (by rw [HS.out.1, HD.out, decide_eq_true (by omega), Bool.true_and])
        have hg2 : decide (gg < pn) = false := by rw [decide_eq_false_iff_not]; exact hg
        clear HD
        go_wp2_with fail
        refine Go.wp_region_quiet_below (by kernel_rfl) (by kernel_rfl) ?_
        repeat (quiet_step (first | with_reducible exact CG.out _ _))
        refine wpQuiet_nil ?_
        intro _ hw'
        obtain ⟨⟨dq, osq⟩, hw''⟩ := hw'
        subst hw''
        have HF := Lib.hid (bnext HS.out.2 (Go.below_regrown wr dq osq))
        go_wp2_with fail
        go_roundw
        case rel => exact ⟨k + 1, by go_num, by omega, Lib.hid ⟨HE.out, HF.out⟩⟩
        case measure => simp [intOf]; omega
    · obtain rfl : k = l.length := by omega
      have hi1 : ¬ (l.length : Int) < (l.length : Int) := by omega
      have HE : Hid (covL la l = true) := Lib.hid (by rw [HS.out.1, List.drop_length]; rfl)
      go_wp2_with fail
      go_ret
      exact ⟨ret_bl HE.out.symm, HS.out.2⟩
theorem meetL_take (b l : List (Int × Int)) (k : Nat) (hk : k < l.length) : meetL (l.take (k + 1)) b = meetL (l.take k) b ++ (if 0 < min l[k].2 (getL b l[k].1) then [(l[k].1, min l[k].2 (getL b l[k].1))] else []) := by
  unfold meetL
  rw [List.take_succ_eq_append_getElem hk, List.filterMap_append]
  congr 1
  unfold mtF
  by_cases h : 0 < min l[k].2 (getL b l[k].1)
  · rw [if_pos h, List.filterMap_cons, if_pos h]; rfl
  · rw [if_neg h, List.filterMap_cons, if_neg h]; rfl
theorem meetL_len (b l : List (Int × Int)) : (meetL l b).length ≤ l.length := List.length_filterMap_le _ _
theorem wpList_appM {w X : World} {ops : Array Oper} {rest : List Oper} {o : Oper} {a : Act} {Q : Exit → Act → World → Prop} (hgd : o.guard = none) (s x : Operand)
    (ho : o.op = .call { callee := .builtin .append, args := #[s, x], argTypes := #[117, 117] })
    (v : Value) (L : List (Int × Int)) (p1 p2 : Int) (hs : a.eval s = v) (hx : a.eval x = .slice (some ⟨X.heap.size, 0, none⟩) 1 1) (hS : DD X w.heap.size v L ∧ Below w.heap.size w X) (hm : L.length ≤ 100000)
    (h : ∀ v' w', Hid (DD w' w.heap.size v' (L ++ [(p1, p2)]) ∧ Below w.heap.size w w') → wpList Try.prog ops Q rest (a.put o.dst v') w') : wpList Try.prog ops Q (o :: rest) a (X.alloc (.cells #[.int .i64 p1, .int .i64 p2] 122)) := by
  have hb : Below w.heap.size w (X.alloc (.cells #[.int .i64 p1, .int .i64 p2] 122)) := hS.2.alloc hS.2.size _
  have hO : DD (X.alloc (.cells #[.int .i64 p1, .int .i64 p2] 122)) w.heap.size v L := hS.1.next ((Below.refl _ X).alloc (Nat.le_refl _) _)
  refine wpList_app1 hgd s x ho w.heap.size v X.heap.size L p1 p2 hs hx hO (heap_alloc_new _ _) hm hb.size ?_
  intro v' w' hO' hg
  exact h v' w' (Lib.hid ⟨hO', hb.grown hg hb.size (fun j hj => (World.ownsRow.lt hO j hj).1)⟩)
set_option maxRecDepth 100000 in
set_option maxHeartbeats 8000000 in
theorem meet05_any (vl vb : Value) (l lb : List (Int × Int)) (hn : l.length ≤ 5000) (hnb : lb.length ≤ 5000) (w : World) (h : DR w vl l) (h0 : DR w vb lb) :
    Calls Try.prog 78 #[vl, vb] w fun e w' => ∃ v, e = .returned v ∧ DD w' w.heap.size v (meetL l lb) ∧ Below w.heap.size w w' := by
  have HR := Lib.hid h
  have HA := Lib.hid h0
  obtain ⟨a, cap, rfl, hx, hc⟩ := h
  clear hx hc h0
  have H0 := Lib.hid (show DD w w.heap.size (.slice none 0 0) (meetL (l.take 0) lb) ∧ Below w.heap.size w w from ⟨DD.nil _ _, Below.refl _ _⟩)
  go_enter Try.func78, Try.ntmps78
  go_wp2_with fail
  go_loopw [5, 6] (fun r i wr => ∃ (k : Nat) (v5 : Value), i = .int .i64 k ∧ v5 = r ∧ k ≤ l.length ∧ Hid (DD wr w.heap.size v5 (meetL (l.take k) lb) ∧ Below w.heap.size w wr)) (fun _ i _ => l.length - (intOf i).toNat)
  case atStart => exact ⟨0, _, rfl, rfl, Nat.zero_le _, H0⟩
  case round =>
    clear H0
    obtain ⟨k, v5, rfl, rfl, hk, HS⟩ := hrel
    by_cases hlt : k < l.length
    · obtain ⟨a', cap', hv, _, hc⟩ := id HR.out
      obtain ⟨b, off, ha, hcell⟩ := hc (fun e => by rw [e] at hlt; simp at hlt)
      subst ha
      cases hv
      have x0 := cell_nxd HS.out.2 (hcell k hlt).1
      have x1 := cell_nxd HS.out.2 (hcell k hlt).2
      have hi1 : (k : Int) < (l.length : Int) := by omega
      have HN := Lib.hid (meetL_take lb l k hlt)
      have HLEN := Lib.hid (show (meetL (l.take k) lb).length ≤ 5000 by have := meetL_len lb (l.take k); rw [List.length_take] at this; omega)
      clear hcell hc
      generalize l[k] = p at *
      obtain ⟨pw, pn⟩ := p
      dsimp only at *
      have CG := Lib.hid (get05_any vb lb pw (by omega) wr (HA.out.next HS.out.2))
      generalize getL lb pw = gg at *
      generalize meetL (l.take k) lb = out at *
      by_cases hg : gg < pn
      · have HM : Hid (min pn gg = gg) := Lib.hid (by omega)
        have d1 : decide (gg < pn) = true := by simp [hg]
        by_cases hp : 0 < gg
        · skip
          have HE : Hid (meetL (l.take (k + 1)) lb = out ++ [(pw, gg)]) := Lib.hid (by rw [HN.out, HM.out, if_pos hp])
          have d2 : decide (0 < gg) = true := by simp [hp]
          clear HN HM hp
          go_wp2_with fail
          refine (CG.out).mono ?_; rintro e w1 ⟨rfl, rfl⟩
          go_wp2_with (at_builtin; refine wpList_appM (w := w) rfl (.tmp 33) (.tmp 41) rfl v5 out pw gg rfl rfl ?a2 ?b2 ?_)
          try case a2 => exact HS.out
          try case b2 => (have := HLEN.out; omega)
          intro v' w' hS
          have HG : Hid (DD w' w.heap.size v' (meetL (l.take (k + 1)) lb) ∧ Below w.heap.size w w') := Lib.hid (by rw [HE.out]; exact hS.out)
          clear hS
          go_wp2_with fail
          go_roundw
          case rel => exact ⟨k + 1, _, by go_num, rfl, by omega, HG⟩
          case measure => simp [intOf]; omega
        · skip
          have HE : Hid (meetL (l.take (k + 1)) lb = out) := Lib.hid (by rw [HN.out, HM.out, if_neg hp, List.append_nil])
          have d2 : decide (0 < gg) = false := by rw [decide_eq_false_iff_not]; exact hp
          clear HN HM hp
          go_wp2_with fail
          refine (CG.out).mono ?_; rintro e w1 ⟨rfl, rfl⟩
          have HG : Hid (DD w1 w.heap.size v5 (meetL (l.take (k + 1)) lb) ∧ Below w.heap.size w w1) := Lib.hid (by rw [HE.out]; exact HS.out)
          go_wp2_with fail
          go_roundw
          case rel => exact ⟨k + 1, _, by go_num, rfl, by omega, HG⟩
          case measure => simp [intOf]; omega
      · have HM : Hid (min pn gg = pn) := Lib.hid (by omega)
        have d1 : decide (gg < pn) = false := by rw [decide_eq_false_iff_not]; exact hg
        by_cases hp : 0 < pn
        · skip
          have HE : Hid (meetL (l.take (k + 1)) lb = out ++ [(pw, pn)]) := Lib.hid (by rw [HN.out, HM.out, if_pos hp])
          have d2 : decide (0 < pn) = true := by simp [hp]
          clear HN HM hp
          go_wp2_with fail
          refine (CG.out).mono ?_; rintro e w1 ⟨rfl, rfl⟩
          go_wp2_with (at_builtin; refine wpList_appM (w := w) rfl (.tmp 33) (.tmp 41) rfl v5 out pw pn rfl rfl ?a3 ?b3 ?_)
          try case a3 => exact HS.out
          try case b3 => (have := HLEN.out; omega)
          intro v' w' hS
          have HG : Hid (DD w' w.heap.size v' (meetL (l.take (k + 1)) lb) ∧ Below w.heap.size w w') := Lib.hid (by rw [HE.out]; exact hS.out)
          clear hS
          go_wp2_with fail
          go_roundw
          case rel => exact ⟨k + 1, _, by go_num, rfl, by omega, HG⟩
          case measure => simp [intOf]; omega
        · skip
          have HE : Hid (meetL (l.take (k + 1)) lb = out) := Lib.hid (by rw [HN.out, HM.out, if_neg hp, List.append_nil])
          have d2 : decide (0 < pn) = false := by rw [decide_eq_false_iff_not]; exact hp
          clear HN HM hp
          go_wp2_with fail
          refine (CG.out).mono ?_; rintro e w1 ⟨rfl, rfl⟩
          have HG : Hid (DD w1 w.heap.size v5 (meetL (l.take (k + 1)) lb) ∧ Below w.heap.size w w1) := Lib.hid (by rw [HE.out]; exact HS.out)
          go_wp2_with fail
          go_roundw
          case rel => exact ⟨k + 1, _, by go_num, rfl, by omega, HG⟩
          case measure => simp [intOf]; omega
    · obtain rfl : k = l.length := by omega
      have hi1 : ¬ (l.length : Int) < (l.length : Int) := by omega
      have HF := Lib.hid (show DD wr w.heap.size v5 (meetL l lb) ∧ Below w.heap.size w wr from ⟨by have := HS.out.1; rw [List.take_length] at this; exact this, HS.out.2⟩)
      go_wp2_with fail
      go_ret
      exact ⟨_, rfl, HF.out⟩
end Go.Proofs.Ytaeflfgkdjfnfaa
