/- Layer 5 (vector): the document's Of and Knows, in memory. -/
import Derived.Test.YtaeflfgkdjfnfaaQc
import Derived.Lib.QuietBelow
namespace Go.Proofs.Ytaeflfgkdjfnfaa
open Go.RowKit
attribute [local irreducible] wpQuiet

theorem ins_len (d : Int × Int) : ∀ l : List (Int × Int), (insL d l).length ≤ l.length + 1
  | [] => by simp [insL]
  | x :: l => by
    unfold insL
    have := ins_len d l
    repeat' split
    all_goals simp only [List.length_cons]; omega
theorem stO_len {l : List (Int × Int)} (h : SR l) (x : Int × Int) : (stO l x).length ≤ l.length + 1 := by
  unfold stO
  split
  · rw [setL_ins h.1]; exact ins_len x l
  · omega
theorem ofL_len (l : List (Int × Int)) : (ofL l).length ≤ l.length := by
  suffices ∀ (l a : List (Int × Int)), SR a → (l.foldl stO a).length ≤ a.length + l.length by
    have := this l [] SR.nil
    simpa [ofL] using this
  intro l
  induction l with
  | nil => intro a _; simp
  | cons x l ih =>
    intro a ha
    have h1 := ih (stO a x) (ha.st x)
    have h2 := stO_len ha x
    simp only [List.foldl_cons, List.length_cons]
    omega
theorem mem_stO {l : List (Int × Int)} (h : SR l) {x y : Int × Int} (hy : y ∈ stO l x) : y = x ∨ y ∈ l := by
  unfold stO at hy
  split at hy
  · rw [setL_ins h.1] at hy; exact mem_ins hy
  · exact .inr hy
theorem mem_ofL {l : List (Int × Int)} {y : Int × Int} (hy : y ∈ ofL l) : y ∈ l := by
  suffices ∀ (l a : List (Int × Int)), SR a → y ∈ l.foldl stO a → y ∈ a ∨ y ∈ l by
    have := this l [] SR.nil hy
    simpa using this
  intro l
  induction l with
  | nil => intro a _ h; exact .inl h
  | cons x l ih =>
    intro a ha h
    rcases ih _ (ha.st x) h with h | h
    · rcases mem_stO ha h with rfl | h
      · exact .inr (by simp)
      · exact .inl h
    · exact .inr (by simp [h])
theorem ofL_take (l : List (Int × Int)) (k : Nat) (hk : k < l.length) : ofL (l.take (k + 1)) = stO (ofL (l.take k)) l[k] := by
  rw [List.take_succ_eq_append_getElem hk, ofL_snoc]
set_option maxRecDepth 100000 in
set_option maxHeartbeats 8000000 in
theorem of05_any (vl : Value) (l : List (Int × Int)) (hn : l.length ≤ 5000) (w : World) (h : DR w vl l) : Calls Try.prog 135 #[vl] w fun e w' => ∃ v, e = .returned v ∧ DD w' w.heap.size v (ofL l) ∧ Below w.heap.size w w' := by
  have HR := Lib.hid h
  obtain ⟨a, cap, rfl, hx, hc⟩ := h
  have HX := Lib.hid hx
  clear hx hc
  have H0 := Lib.hid (show DD w w.heap.size (.slice none 0 0) (ofL (l.take 0)) ∧ Below w.heap.size w w from ⟨DD.nil _ _, Below.refl _ _⟩)
  go_enter Try.func135, Try.ntmps135
  go_wp2_with fail
  go_loopw [3, 4] (fun r i wr => ∃ (k : Nat) (v3 : Value), i = .int .i64 k ∧ v3 = r ∧ k ≤ l.length ∧ Hid (DD wr w.heap.size v3 (ofL (l.take k)) ∧ Below w.heap.size w wr)) (fun _ i _ => l.length - (intOf i).toNat)
  case atStart => exact ⟨0, _, rfl, rfl, Nat.zero_le _, H0⟩
  case round =>
    clear H0
    obtain ⟨k, v3, rfl, rfl, hk, HS⟩ := hrel
    have HLEN := Lib.hid (show (ofL (l.take k)).length ≤ 5000 by have := ofL_len (l.take k); rw [List.length_take] at this; omega)
    by_cases hlt : k < l.length
    · obtain ⟨a', cap', hv, _, hc⟩ := id HR.out
      obtain ⟨b, off, ha, hcell⟩ := hc (fun e => by rw [e] at hlt; simp at hlt)
      subst ha
      cases hv
      have x0 := cell_nxd HS.out.2 (hcell k hlt).1
      have x1 := cell_nxd HS.out.2 (hcell k hlt).2
      have hi1 : (k : Int) < (l.length : Int) := by omega
      have HN := Lib.hid (ofL_take l k hlt)
      have HDR := Lib.hid (fun W (hW : Below wr.heap.size wr W) => (HS.out.1.dr (fun x hx => HX.out x (List.mem_of_mem_take (mem_ofL hx)))).next hW)
      clear hcell hc
      generalize l[k] = p at *
      obtain ⟨pw, pn⟩ := p
      dsimp only at *
      have m0 : ∀ d os, (Go.Sort.grow (Go.redrawn wr d) os).cell? ⟨b, off + k * 2, none⟩ = some (.int .i64 pw) := fun d os => Go.cell_regrown x0 d os
      have m1 : ∀ d os, (Go.Sort.grow (Go.redrawn wr d) os).cell? ⟨b, off + k * 2 + 1, none⟩ = some (.int .i64 pn) := fun d os => Go.cell_regrown x1 d os
      have CR := Lib.hid (fun d os => Calls.regrown_of (d := d) (os := os) (right05_any pw pn (Go.Sort.grow (Go.redrawn wr d) os)))
      have CG := Lib.hid (fun d os => Calls.regrown_of (d := d) (os := os) ((get05_any v3 (ofL (l.take k)) pw (by have := HLEN.out; omega) (Go.Sort.grow (Go.redrawn wr d) os) (HDR.out _ (Go.below_regrown wr d os))).mono (fun e w' (hh : _ ∧ _) => And.intro hh.1 (by rw [hh.2]; exact Below.refl _ _))))
      have CS := Lib.hid (fun W (hW : Below wr.heap.size wr W) => set05_any v3 (ofL (l.take k)) pw pn (by have := HLEN.out; omega) W (HDR.out W hW))
      have HST : Hid (stO (ofL (l.take k)) (pw, pn) = if rgt pw pn = true ∧ getL (ofL (l.take k)) pw < pn then setL (ofL (l.take k)) (pw, pn) else ofL (l.take k)) := Lib.hid rfl
      generalize ofL (l.take k) = out at *
      generalize getL out pw = gg at *
      cases hr : rgt pw pn with
      | false =>
        rw [hr] at CR HST
        have HE : Hid (stO out (pw, pn) = out) := Lib.hid (by rw [HST.out]; simp)
        clear hr HST
        go_wp2_with fail
        refine Go.wp_region_quiet_below (by kernel_rfl) (by kernel_rfl) ?_
        repeat (quiet_step (first | with_reducible exact CR.out _ _ | with_reducible exact CG.out _ _))
        refine wpQuiet_nil ?_
        intro _ hw'
        obtain ⟨⟨dq, osq⟩, hw''⟩ := hw'
        subst hw''
        have hbq := Go.below_regrown wr dq osq
        have HF := Lib.hid (show DD (Go.Sort.grow (Go.redrawn wr dq) osq) w.heap.size v3 (ofL (l.take (k + 1))) ∧ Below w.heap.size w (Go.Sort.grow (Go.redrawn wr dq) osq) from ⟨by rw [HN.out, HE.out]; exact HS.out.1.next hbq, bnext HS.out.2 hbq⟩)
        clear hbq m0 m1
        generalize Go.Sort.grow (Go.redrawn wr dq) osq = W9 at *
        go_wp2_with fail
        go_roundw
        case rel => exact ⟨k + 1, _, by go_num, rfl, by omega, HF⟩
        case measure => simp [intOf]; omega
      | true =>
        rw [hr] at CR HST
        by_cases hg : gg < pn
        · have HE : Hid (stO out (pw, pn) = setL out (pw, pn)) := Lib.hid (by rw [HST.out]; simp [hg])
          have hg2 : decide (gg < pn) = true := by simp [hg]
          clear hr HST
          go_wp2_with fail
          refine Go.wp_region_quiet_below (by kernel_rfl) (by kernel_rfl) ?_
          repeat (quiet_step (first | with_reducible exact CR.out _ _ | with_reducible exact CG.out _ _))
          refine wpQuiet_nil ?_
          intro _ hw'
          obtain ⟨⟨dq, osq⟩, hw''⟩ := hw'
          subst hw''
          have hbq := Go.below_regrown wr dq osq
          have CS1 := Lib.hid (CS.out _ hbq)
          have HB9 := Lib.hid (bnext HS.out.2 hbq)
          have x0 := m0 dq osq
          have x1 := m1 dq osq
          clear hbq m0 m1 CS
          generalize Go.Sort.grow (Go.redrawn wr dq) osq = W9 at *
          go_wp2_with fail
          refine (CS1.out).mono ?_; rintro e w6 ⟨v6, rfl, hd6, hb6⟩
          have HF := Lib.hid (show DD w6 w.heap.size v6 (ofL (l.take (k + 1))) ∧ Below w.heap.size w w6 from ⟨by rw [HN.out, HE.out]; exact hd6.base HB9.out.size, bnext HB9.out hb6⟩)
          clear hd6 hb6
          go_wp2_with fail
          go_roundw
          case rel => exact ⟨k + 1, _, by go_num, rfl, by omega, HF⟩
          case measure => simp [intOf]; omega
        · have HE : Hid (stO out (pw, pn) = out) := Lib.hid (by rw [HST.out]; simp [hg])
          have hg2 : decide (gg < pn) = false := by rw [decide_eq_false_iff_not]; exact hg
          clear hr HST
          go_wp2_with fail
          refine Go.wp_region_quiet_below (by kernel_rfl) (by kernel_rfl) ?_
          repeat (quiet_step (first | with_reducible exact CR.out _ _ | with_reducible exact CG.out _ _))
          refine wpQuiet_nil ?_
          intro _ hw'
          obtain ⟨⟨dq, osq⟩, hw''⟩ := hw'
          subst hw''
          have hbq := Go.below_regrown wr dq osq
          have HF := Lib.hid (show DD (Go.Sort.grow (Go.redrawn wr dq) osq) w.heap.size v3 (ofL (l.take (k + 1))) ∧ Below w.heap.size w (Go.Sort.grow (Go.redrawn wr dq) osq) from ⟨by rw [HN.out, HE.out]; exact HS.out.1.next hbq, bnext HS.out.2 hbq⟩)
          clear hbq m0 m1
          generalize Go.Sort.grow (Go.redrawn wr dq) osq = W9 at *
          go_wp2_with fail
          go_roundw
          case rel => exact ⟨k + 1, _, by go_num, rfl, by omega, HF⟩
          case measure => simp [intOf]; omega
    · obtain rfl : k = l.length := by omega
      have hi1 : ¬ (l.length : Int) < (l.length : Int) := by omega
      have HF := Lib.hid (show DD wr w.heap.size v3 (ofL l) ∧ Below w.heap.size w wr from ⟨by have := HS.out.1; rw [List.take_length] at this; exact this, HS.out.2⟩)
      go_wp2_with fail
      go_ret
      exact ⟨_, rfl, HF.out⟩
end Go.Proofs.Ytaeflfgkdjfnfaa
