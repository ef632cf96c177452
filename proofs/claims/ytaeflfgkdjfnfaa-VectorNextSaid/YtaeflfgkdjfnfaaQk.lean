/- Layer 5 (vector): the document's Join, in memory. -/
import Derived.Test.YtaeflfgkdjfnfaaQj
import Derived.Lib.QuietBelow
namespace Go.Proofs.Ytaeflfgkdjfnfaa
open Go.RowKit
attribute [local irreducible] wpQuiet

theorem stJ_len {l : List (Int × Int)} (h : SR l) (x : Int × Int) : (stJ l x).length ≤ l.length + 1 := by
  unfold stJ
  split
  · rw [setL_ins h.1]; exact ins_len x l
  · omega
theorem joinL_take (a l : List (Int × Int)) (k : Nat) (hk : k < l.length) : joinL a (l.take (k + 1)) = stJ (joinL a (l.take k)) l[k] := by
  unfold joinL
  rw [List.take_succ_eq_append_getElem hk, List.foldl_append]
  rfl
theorem SR.take {l : List (Int × Int)} (h : SR l) (k : Nat) : SR (l.take k) := ⟨h.1.sublist (List.take_sublist k l), fun x hx => h.2 x (List.mem_of_mem_take hx)⟩
theorem joinL_len {a b : List (Int × Int)} (ha : SR a) (hb : SR b) : (joinL a b).length ≤ a.length + b.length := by
  have h := hb.2
  clear hb
  unfold joinL
  induction b generalizing a with
  | nil => simp
  | cons x b ih =>
    have h1 := ih (a := stJ a x) (by rw [stJ_eq (h x (by simp))]; exact ha.st x) (fun y hy => h y (by simp [hy]))
    have h2 := stJ_len ha x
    simp only [List.foldl_cons, List.length_cons]
    omega
set_option maxRecDepth 100000 in
set_option maxHeartbeats 8000000 in
theorem join05_any (va vl : Value) (la l : List (Int × Int)) (hna : la.length ≤ 2000) (hn : l.length ≤ 2000) (sa : SR la) (sl : SR l) (hia : ∀ k : Nat, ∀ y ∈ joinL la (l.take k), IW y.1 ∧ IW y.2) (w : World) (h0 : DR w va la) (h : DR w vl l) :
    Calls Try.prog 76 #[va, vl] w fun e w' => ∃ v, e = .returned v ∧ DR w' v (joinL la l) ∧ Below w.heap.size w w' := by
  have HR := Lib.hid h
  obtain ⟨a, cap, rfl, hx, hc⟩ := h
  have HIA := Lib.hid hia
  have HSR := Lib.hid (And.intro sa sl)
  have H0 := Lib.hid (show DR w va (joinL la (l.take 0)) ∧ Below w.heap.size w w from ⟨h0, Below.refl _ _⟩)
  clear hx hc hia sa sl h0
  go_enter Try.func76, Try.ntmps76
  go_wp2_with fail
  go_loopw [5, 6] (fun r i wr => ∃ (k : Nat) (v3 : Value), i = .int .i64 k ∧ v3 = r ∧ k ≤ l.length ∧ Hid (DR wr v3 (joinL la (l.take k)) ∧ Below w.heap.size w wr)) (fun _ i _ => l.length - (intOf i).toNat)
  case atStart => exact ⟨0, _, rfl, rfl, Nat.zero_le _, H0⟩
  case round =>
    clear H0
    obtain ⟨k, v3, rfl, rfl, hk, HS⟩ := hrel
    have HLEN := Lib.hid (show (joinL la (l.take k)).length ≤ 4000 by have := joinL_len HSR.out.1 (HSR.out.2.take k); rw [List.length_take] at this; omega)
    by_cases hlt : k < l.length
    · obtain ⟨a', cap', hv, _, hc⟩ := id HR.out
      obtain ⟨b, off, ha, hcell⟩ := hc (fun e => by rw [e] at hlt; simp at hlt)
      subst ha
      cases hv
      have x0 := cell_nxd HS.out.2 (hcell k hlt).1
      have x1 := cell_nxd HS.out.2 (hcell k hlt).2
      have hi1 : (k : Int) < (l.length : Int) := by omega
      have HN := Lib.hid (joinL_take la l k hlt)
      have HI1 := Lib.hid (HIA.out (k + 1))
      clear hcell hc
      generalize l[k] = p at *
      obtain ⟨pw, pn⟩ := p
      dsimp only at *
      have m0 : ∀ d os, (Go.Sort.grow (Go.redrawn wr d) os).cell? ⟨b, off + k * 2, none⟩ = some (.int .i64 pw) := fun d os => Go.cell_regrown x0 d os
      have m1 : ∀ d os, (Go.Sort.grow (Go.redrawn wr d) os).cell? ⟨b, off + k * 2 + 1, none⟩ = some (.int .i64 pn) := fun d os => Go.cell_regrown x1 d os
      have CG := Lib.hid (fun d os => Calls.regrown_of (d := d) (os := os) ((get05_any v3 (joinL la (l.take k)) pw (by have := HLEN.out; omega) (Go.Sort.grow (Go.redrawn wr d) os) (HS.out.1.next (Go.below_regrown wr d os))).mono (fun e w' (hh : _ ∧ _) => And.intro hh.1 (by rw [hh.2]; exact Below.refl _ _))))
      have CS := Lib.hid (fun W (hW : Below wr.heap.size wr W) => set05_any v3 (joinL la (l.take k)) pw pn (by have := HLEN.out; omega) W (HS.out.1.next hW))
      have HST : Hid (stJ (joinL la (l.take k)) (pw, pn) = if getL (joinL la (l.take k)) pw < pn then setL (joinL la (l.take k)) (pw, pn) else joinL la (l.take k)) := Lib.hid rfl
      generalize joinL la (l.take k) = out at *
      generalize getL out pw = gg at *
      by_cases hg : gg < pn
      · have HE : Hid (stJ out (pw, pn) = setL out (pw, pn)) := Lib.hid (by rw [HST.out]; simp [hg])
        have hg2 : decide (gg < pn) = true := by simp [hg]
        clear HST
        go_wp2_with fail
        refine Go.wp_region_quiet_below (by kernel_rfl) (by kernel_rfl) ?_
        repeat (quiet_step (first | with_reducible exact CG.out _ _))
        refine wpQuiet_nil ?_
        intro _ hw'
        obtain ⟨⟨dq, osq⟩, hw''⟩ := hw'
        subst hw''
        have hbq := Go.below_regrown wr dq osq
        have CS1 := Lib.hid (CS.out _ hbq)
        have HB9 := Lib.hid (bnext HS.out.2 hbq)
        have x0 := m0 dq osq
        have x1 := m1 dq osq
        clear hbq m0 m1 CS
        generalize Go.Sort.grow (Go.redrawn wr dq) osq = W9 at *
        go_wp2_with fail
        refine (CS1.out).mono ?_; rintro e w6 ⟨v6, rfl, hd6, hb6⟩
        have HF := Lib.hid (show DR w6 v6 (joinL la (l.take (k + 1))) ∧ Below w.heap.size w w6 from ⟨DD.dr (by rw [HN.out, HE.out]; exact hd6) HI1.out, bnext HB9.out hb6⟩)
        clear hd6 hb6
        go_wp2_with fail
        go_roundw
        case rel => exact ⟨k + 1, _, by go_num, rfl, by omega, HF⟩
        case measure => simp [intOf]; omega
      · have HE : Hid (stJ out (pw, pn) = out) := Lib.hid (by rw [HST.out]; simp [hg])
        have hg2 : decide (gg < pn) = false := by rw [decide_eq_false_iff_not]; exact hg
        clear HST
        go_wp2_with fail
        refine Go.wp_region_quiet_below (by kernel_rfl) (by kernel_rfl) ?_
        repeat (quiet_step (first | with_reducible exact CG.out _ _))
        refine wpQuiet_nil ?_
        intro _ hw'
        obtain ⟨⟨dq, osq⟩, hw''⟩ := hw'
        subst hw''
        have hbq := Go.below_regrown wr dq osq
        have HF := Lib.hid (show DR (Go.Sort.grow (Go.redrawn wr dq) osq) v3 (joinL la (l.take (k + 1))) ∧ Below w.heap.size w (Go.Sort.grow (Go.redrawn wr dq) osq) from ⟨by rw [HN.out, HE.out]; exact HS.out.1.next hbq, bnext HS.out.2 hbq⟩)
        clear hbq m0 m1
        generalize Go.Sort.grow (Go.redrawn wr dq) osq = W9 at *
        go_wp2_with fail
        go_roundw
        case rel => exact ⟨k + 1, _, by go_num, rfl, by omega, HF⟩
        case measure => simp [intOf]; omega
    · obtain rfl : k = l.length := by omega
      have hi1 : ¬ (l.length : Int) < (l.length : Int) := by omega
      have HF := Lib.hid (show DR wr v3 (joinL la l) ∧ Below w.heap.size w wr from ⟨by have := HS.out.1; rw [List.take_length] at this; exact this, HS.out.2⟩)
      go_wp2_with fail
      go_ret
      exact ⟨_, rfl, HF.out⟩
end Go.Proofs.Ytaeflfgkdjfnfaa
