/- Layer 38 (glob): longer texts; the chapter's examples; a pattern that tells one text tells that one. -/
import Derived.Test.YtfnjmboflegaaaaDoorHc
import Derived.Test.YtfnjmboflegaaaaDoorHa
import Derived.Test.YtfnjmboflegaaaaDoorHb
import Derived.Deep.Slices
namespace Go.Proofs.YtfnjmboflegaaaaDoor
open Go.RowKit

set_option maxRecDepth 100000 in
set_option maxHeartbeats 8000000 in
theorem match_big (s : ByteArray) (pv : Value) (q : List (Prt × Value)) (hq : q.length ≤ 100) (hsp : ∀ x ∈ q, x.1.sp.length ≤ 200) (hwf : Wf (psq q)) (t : ByteArray) (ht : t.size ≤ 100000) (w : World) (h : PtO w pv q) :
    Calls Tryd.prog 10 #[.agg #[.string s, pv], .string t] w fun e w' => e = .returned (.bool (matS (psq q) (runesG t))) ∧ Below w.heap.size w w' := by
  obtain ⟨pa, pc, rfl⟩ := own_form h.1
  obtain ⟨W1, hst, hbA, hbP, hbel⟩ := store_places w #[.string s, .slice pa q.length pc] (fun _ => false) (fun k => if k = 0 then true else false)
  have hA1 := arr_set (fun _ => false) 0 true
  have hzv := places_zero
  have hsv := places_size
  have hne : ¬ (arrB fun _ => false) = #[] := by intro e; have := congrArg Array.size e; simp [arrB] at this
  have hsz1 := arr_size (fun k => if k = 0 then true else false)
  generalize arrB (fun _ => false) = A0 at *
  obtain ⟨A1, hA⟩ : ∃ A, A = arrB (fun k => if k = 0 then true else false) := ⟨_, rfl⟩
  rw [← hA] at hA1 hst hsz1 hbA
  have HA := Hid.mk' hA
  have hpt1 := h.next hbel
  have C0 := Hid.mk' (pass_any s (.slice pa q.length pc) q hq (w.heap.size + 1) _ W1 hpt1 (hA ▸ hbA))
  have HW := Hid.mk' (And.intro h (And.intro hbP (And.intro hbel hpt1)))
  obtain ⟨o0, o1⟩ := And.intro (hbP.read (i := 0) rfl) (hbP.read (i := 1) rfl)
  have HWF := Hid.mk' hwf
  have HSP := Hid.mk' hsp
  clear hA h hbA hbP hbel hpt1 hwf hsp
  go_enter Tryd.func10, Tryd.ntmps10
  go_wp2_with fail
  clear hst hzv hne hsz1 hA1 o0 o1
  refine C0.out.mono ?_; rintro e W2 ⟨rfl, hP2⟩
  have HP := Hid.mk' hP2
  clear hP2
  go_wp2_with fail
  have hbel2 := below_gb HW.out.2.2.1 HP.out.2 (Nat.le_succ w.heap.size)
  have START := Hid.mk' (show MI w q #[.string s, .slice pa q.length pc] t W2.heap.size 0 t.size 0 _ (W2.iter t 0) from
    ⟨It.fresh W2 t 0, by omega, by simp [runesG], (HP.out.1.past _ : Bx (W2.alloc _) _ _ _), (fun i hi => by
      rw [← Cc_begin]
      unfold gK
      rw [if_pos hi]
      exact congrArg (fun z => passF (psq q) z i) (by funext k; by_cases h : k = 0 <;> simp [h])),
      (((HW.out.2.1.grown HP.out.2 (by simp)).past _) : Bx (W2.alloc _) _ _ _), hbel2.alloc hbel2.size _, Nat.zero_le _⟩)
  have hK := hbel2.size
  have hK2 := HP.out.1.inside
  generalize W2.heap.size = K at *
  generalize W2.iter t 0 = W3 at *
  clear hbel2 HP C0
  go_loopw [] (fun wr => ∃ pos f j F, Hid (MI w q #[.string s, .slice pa q.length pc] t K pos f j F wr)) (fun wr => t.size - wr.iterPos K)
  case atStart => exact ⟨0, t.size, 0, _, START⟩
  case round =>
    clear START
    obtain ⟨pos, f, j, F, HM⟩ := hrel
    have hit := HM.out.it
    by_cases hp : pos < t.size
    · obtain ⟨R, hR⟩ : ∃ R, (Utf8.decode t pos).1 = R := ⟨_, rfl⟩
      obtain ⟨wd, hwd⟩ : ∃ wd, (Utf8.decode t pos).2 = wd := ⟨_, rfl⟩
      have hw1 : 1 ≤ wd := by rw [← hwd]; exact Lib.decode_width_pos t pos hp
      have hnx : ∀ ty, (Instr.next (.pointer (some ⟨K, 0, none⟩)) true ty).run Tryd.prog wr = .ok (.tuple #[.bool true, .int .i64 pos, .int .i32 R]) (wr.iterAt K t (pos + wd)) := fun ty => by
        have := Lib.run_next_any_at (P := Tryd.prog) wr K t pos ty hit hp
        rw [hR, hwd] at this; exact this
      obtain ⟨g, rfl⟩ : ∃ g, f = g + 1 := ⟨f - 1, by have := HM.out.fuel; omega⟩
      have hrest := HM.out.rest
      rw [gR, if_pos hp, hR, hwd] at hrest
      have hjl : j < (runesG t).length := by
        rcases Nat.lt_or_ge j (runesG t).length with h1 | h1
        · exact h1
        · rw [List.drop_of_length_le h1] at hrest; cases hrest
      rw [List.drop_eq_getElem_cons hjl] at hrest
      injection hrest with hR2 hrest2
      have hget : (runesG t).getD j 0 = (R : Int) := by rw [List.getD_eq_getElem?_getD, List.getElem?_eq_getElem hjl, hR2]; rfl
      have hpl := hit.place
      have bel1 := Lib.below_iterAt HM.out.bel (k := K) hK t (pos + wd)
      have arr1 := bx_iter HM.out.arr hit (pos + wd)
      have pat1 := bx_iter HM.out.pat hit (pos + wd)
      have C := Hid.mk' (step_any s (.slice pa q.length pc) q hq HSP.out (w.heap.size + 1) F R _ (HW.out.1.next bel1) arr1)
      have hal := next_places (psq q) HWF.out (fun j => (runesG t).getD j 0) F j (by rw [psq_len]; exact HM.out.alive)
      have hde := dead_end (psq q) HWF.out (fun j => (runesG t).getD j 0) F j (runesG t).length (by rw [psq_len]; exact HM.out.alive)
      try dsimp only at hal hde
      rw [hget, psq_len] at hal hde
      have HD := Hid.mk' (And.intro hal hde)
      have H1 := Hid.mk' (And.intro bel1 (And.intro pat1 (And.intro (hit.step (pos + wd)) (And.intro hrest2 (And.intro hjl hpl)))))
      obtain ⟨o0, o1⟩ := And.intro (pat1.read (i := 0) rfl) (pat1.read (i := 1) rfl)
      have hfu := HM.out.fuel
      clear hit hrest2 hR2 hget hpl bel1 arr1 pat1 hal hde hR hwd
      go_wp2_with fail
      refine C.out.mono ?_; rintro e W4 ⟨rfl, hP⟩
      have H4 := Hid.mk' hP
      clear hP o0 o1
      cases hex : exM (stepF (psq q) F R) (q.length + 1) with
      | false =>
        have E := Hid.mk' (show matS (psq q) (runesG t) = false by unfold matS; rw [psq_len]; exact HD.out.2 hex H1.out.2.2.2.2.1)
        clear hex
        go_wp2_with fail
        go_ret
        exact ⟨ret_bool E.out.symm, below_gb H1.out.1 H4.out.2 (Nat.le_succ _)⟩
      | true =>
        clear hex
        have E := Hid.mk' (show MI w q #[.string s, .slice pa q.length pc] t K (pos + wd) g (j + 1) _ W4 from ⟨It.grown H1.out.2.2.1 H4.out.2 (by intro e; cases e; omega), by omega, H1.out.2.2.2.1, H4.out.1, HD.out.1, H1.out.2.1.grown H4.out.2 (by simp), below_gb H1.out.1 H4.out.2 (Nat.le_succ _), H1.out.2.2.2.2.1⟩)
        go_wp2_with fail
        go_roundw
        case rel => exact ⟨pos + wd, g, j + 1, _, E⟩
        case measure => rw [E.out.it.place, H1.out.2.2.2.2.2]; omega
    · have hnx : ∀ ty, (Instr.next (.pointer (some ⟨K, 0, none⟩)) true ty).run Tryd.prog wr = _ := fun ty => Lib.run_next_end_at wr K t pos ty hit hp
      have hrest := HM.out.rest
      rw [gR_end t f pos hp] at hrest
      have hjl : j = (runesG t).length := by
        have := congrArg List.length hrest
        simp at this
        have := HM.out.j_le
        omega
      have ho := HM.out.arr.read (arr_at F q.length (by omega))
      have hal := HM.out.alive q.length (Nat.le_refl _)
      have E := Hid.mk' (show F q.length = matS (psq q) (runesG t) by
        unfold matS; rw [hal, hjl, ← Cc_end, psq_len])
      have HB := Hid.mk' HM.out.bel
      obtain ⟨o0, o1⟩ := And.intro (HM.out.pat.read (i := 0) rfl) (HM.out.pat.read (i := 1) rfl)
      clear hrest hjl hal
      generalize F q.length = b at *
      clear HM
      go_wp2_with fail
      go_ret
      exact ⟨ret_bool E.out, HB.out⟩

theorem psE_wf {s : ByteArray} {ps : List Prt} (h : patS s = some ps) : Wf ps ∧ (∀ p ∈ ps, p.sp.length ≤ 200) ∧ ps.length ≤ 100 := by
  obtain ⟨h1, h2, h3⟩ := patS_facts h
  have h4 := runesG_len s
  refine ⟨prs_wf h3, fun p hp => ?_, ?_⟩
  · have := prs_sp h3 p hp; omega
  · have := prs_len h3; omega
theorem psq_sp {q : List (Prt × Value)} (h : ∀ p ∈ psq q, p.sp.length ≤ 200) : ∀ x ∈ q, x.1.sp.length ≤ 200 := fun x hx => h x.1 (List.mem_map.2 ⟨x, hx, rfl⟩)
/-- The chapter's pattern. -/
def exP : List Prt := [oneP 97, starP, ⟨false, false, [(98, 100)]⟩]
theorem ex_pat : patS ⟨#[97, 42, 91, 98, 45, 100, 93]⟩ = some exP := by kernel_rfl
theorem ex_one : matS exP (runesG ⟨#[97, 120, 99]⟩) = true := by decide +kernel
theorem ex_two : matS exP (runesG ⟨#[97, 120]⟩) = false := by decide +kernel
theorem ex_ahead : runesBytes (aheadS exP) = ⟨#[97]⟩ := by decide +kernel
set_option maxRecDepth 100000 in
set_option maxHeartbeats 2000000 in
theorem alive38_any (w : World) (hT : Tb w) : Calls Tryd.prog 9 #[] w fun e w' => e = .returned (.bool true) ∧ Below w.heap.size w w' := by
  have C := Hid.mk' (new_any ⟨#[97, 42, 91, 98, 45, 100, 93]⟩ (by unfold maxLen; decide) w hT)
  go_enter Tryd.func9, Tryd.ntmps9
  go_wp2_with fail
  refine C.out.mono ?_; rintro e w1 ⟨hb1, hres⟩
  rcases hres with ⟨hn, _⟩ | ⟨pv, q, hq, hpt, rfl⟩
  · rw [ex_pat] at hn; cases hn
  rw [ex_pat] at hq
  injection hq with hq
  have hwf := psE_wf ex_pat
  have hpsq : exP = psq q := hq
  obtain ⟨pa, pc, rfl⟩ := own_form hpt.1
  have e1 : Below w1.heap.size w1 (w1.alloc (.cells #[.string ⟨#[97, 42, 91, 98, 45, 100, 93]⟩, .slice pa q.length pc] 24)) := (Below.refl _ _).alloc (Nat.le_refl _) _
  have b1 : Bx (w1.alloc (.cells #[.string ⟨#[97, 42, 91, 98, 45, 100, 93]⟩, .slice pa q.length pc] 24)) w1.heap.size 24 #[.string ⟨#[97, 42, 91, 98, 45, 100, 93]⟩, .slice pa q.length pc] := Bx.fresh w1 _ _
  have hq100 : q.length ≤ 100 := by have := hwf.2.2; rw [hpsq, psq_len] at this; exact this
  have hsp := psq_sp (hpsq ▸ hwf.2.1)
  have hw := hpsq ▸ hwf.1
  have HP := Hid.mk' (And.intro (hpt.next e1) (And.intro b1 (bnext hb1 e1)))
  have CM := Hid.mk' (fun (W : World) (t : ByteArray) (ht : t.size ≤ 100000) (hW : PtO W (.slice pa q.length pc) q) => match_big ⟨#[97, 42, 91, 98, 45, 100, 93]⟩ _ q hq100 hsp hw t ht W hW)
  have CA := Hid.mk' (fun (W : World) (hW : PtO W (.slice pa q.length pc) q) => ahead_any ⟨#[97, 42, 91, 98, 45, 100, 93]⟩ _ q hq100 hsp W hW)
  have HE := Hid.mk' hpsq
  clear hpt hb1 hq hwf hpsq e1 b1 hsp hw C
  have C1 := Hid.mk' (CM.out _ ⟨#[97, 120, 99]⟩ (by decide) HP.out.1)
  rw [← HE.out, ex_one] at C1
  go_wp2_with fail
  refine C1.out.mono ?_; rintro e w2 ⟨rfl, hb2⟩
  have H2 := Hid.mk' (And.intro (HP.out.1.next hb2) (And.intro (HP.out.2.1.next hb2) (bnext HP.out.2.2 hb2)))
  have C2 := Hid.mk' (CM.out _ ⟨#[97, 120]⟩ (by decide) H2.out.1)
  rw [← HE.out, ex_two] at C2
  obtain ⟨o0, o1⟩ := And.intro (H2.out.2.1.read (i := 0) rfl) (H2.out.2.1.read (i := 1) rfl)
  clear hb2 C1
  go_wp2_with fail
  refine C2.out.mono ?_; rintro e w3 ⟨rfl, hb3⟩
  have H3 := Hid.mk' (And.intro (H2.out.1.next hb3) (And.intro (H2.out.2.1.next hb3) (bnext H2.out.2.2 hb3)))
  have C3 := Hid.mk' (CA.out _ H3.out.1)
  rw [← HE.out, ex_ahead] at C3
  clear o0 o1
  obtain ⟨o0, o1⟩ := And.intro (H3.out.2.1.read (i := 0) rfl) (H3.out.2.1.read (i := 1) rfl)
  clear hb3 C2
  go_wp2_with fail
  refine C3.out.mono ?_; rintro e w4 ⟨rfl, hb4⟩
  have H4 := Hid.mk' (And.intro (H3.out.2.1.next hb4) (bnext H3.out.2.2 hb4))
  clear o0 o1
  obtain ⟨o0, o1⟩ := And.intro (H4.out.1.read (i := 0) rfl) (H4.out.1.read (i := 1) rfl)
  clear hb4 C3
  go_wp2_with fail
  refine (ptext_any _ _ _).mono ?_; rintro e w5 ⟨rfl, hb5⟩
  have H5 := Hid.mk' (bnext H4.out.2 hb5)
  clear o0 o1 hb5
  go_wp2_with fail
  go_ret
  exact ⟨rfl, H5.out⟩
/-! ### A pattern that tells one text -/
theorem spF_mem : ∀ (f : Nat) (l : List Int), l.length ≤ f → ∀ sp, spF l = some sp → ∀ s ∈ sp, s.1 ∈ l
  | 0, l, h, sp, hs, s, hm => by
    have : l = [] := List.eq_nil_of_length_eq_zero (by omega)
    subst this
    simp [spF] at hs; subst hs; cases hm
  | f + 1, [], h, sp, hs, s, hm => by simp [spF] at hs; subst hs; cases hm
  | f + 1, [a], h, sp, hs, s, hm => by simp [spF] at hs; subst hs; simp at hm; subst hm; simp
  | f + 1, [a, b], h, sp, hs, s, hm => by simp [spF] at hs; subst hs; simp at hm; rcases hm with rfl | rfl <;> simp
  | f + 1, a :: b :: c :: l, h, sp, hs, s, hm => by
    simp only [List.length_cons] at h
    rw [spF] at hs
    split at hs
    · split at hs
      · simp at hs
      · cases h2 : spF l with
        | none => rw [h2] at hs; simp at hs
        | some sp2 =>
          rw [h2] at hs
          simp at hs
          subst hs
          rcases List.mem_cons.1 hm with rfl | h3
          · simp
          · have := spF_mem f l (by omega) sp2 h2 s h3
            simp [this]
    · cases h2 : spF (b :: c :: l) with
      | none => rw [h2] at hs; simp at hs
      | some sp2 =>
        rw [h2] at hs
        simp at hs
        subst hs
        rcases List.mem_cons.1 hm with rfl | h3
        · simp
        · have := spF_mem f (b :: c :: l) (by simp; omega) sp2 h2 s h3
          exact List.mem_cons_of_mem _ this
theorem cls_mem {l : List Int} {p : Prt} (h : clsS l = some p) : ∀ s ∈ p.sp, s.1 ∈ l := by
  unfold clsS at h
  dsimp only at h
  split at h
  · simp at h
  · rename_i sp hsp
    split at h
    · simp at h
    · simp at h
      subst h
      intro s hs
      have := spF_mem _ _ (Nat.le_refl _) sp hsp s hs
      split at this
      · exact List.mem_of_mem_tail this
      · exact this
theorem prsF_mem : ∀ (f : Nat) (l : List Int) (ps : List Prt), prsF f l = some ps → ∀ p ∈ ps, ∀ s ∈ p.sp, s.1 ∈ l
  | 0, _, ps, h => by simp [prsF] at h; subst h; intro p hp; cases hp
  | f + 1, [], ps, h => by simp [prsF] at h; subst h; intro p hp; cases hp
  | f + 1, c :: l, ps, h => by
    have key : ∀ (p : Prt) (l' : List Int), (∀ s ∈ p.sp, s.1 ∈ c :: l) → (∀ x ∈ l', x ∈ c :: l) → (prsF f l').map (p :: ·) = some ps → ∀ p ∈ ps, ∀ s ∈ p.sp, s.1 ∈ c :: l := by
      intro p l' hp hl he
      cases h2 : prsF f l' with
      | none => rw [h2] at he; simp at he
      | some qs =>
        rw [h2] at he
        simp at he
        subst he
        intro p' hp' s hs
        rcases List.mem_cons.1 hp' with rfl | h3
        · exact hp s hs
        · exact hl _ (prsF_mem f l' qs h2 p' h3 s hs)
    rw [prsF] at h
    split at h
    · exact key starP l (fun s hs => by simp [starP] at hs) (fun x hx => List.mem_cons_of_mem _ hx) h
    · split at h
      · exact key anyP l (fun s hs => by simp [anyP] at hs) (fun x hx => List.mem_cons_of_mem _ hx) h
      · split at h
        · split at h
          · simp at h
          · split at h
            · simp at h
            · rename_i p hp
              exact key p _ (fun s hs => List.mem_cons_of_mem _ (List.mem_of_mem_take (cls_mem hp s hs))) (fun x hx => List.mem_cons_of_mem _ (List.mem_of_mem_drop hx)) h
        · exact key (oneP c) l (fun s hs => by simp [oneP] at hs; subst hs; simp) (fun x hx => List.mem_cons_of_mem _ hx) h
theorem ahead_mem : ∀ ps : List Prt, ∀ r ∈ aheadS ps, ∃ p ∈ ps, p.sp = [(r, r)]
  | [], r, h => by simp [aheadS] at h
  | p :: ps, r, h => by
    cases ha : aloneS p with
    | none => simp [aheadS, ha] at h
    | some c =>
      simp [aheadS, ha] at h
      rcases h with rfl | h
      · exact ⟨p, List.mem_cons_self .., alone_one ha⟩
      · obtain ⟨q, hq, h2⟩ := ahead_mem ps r h
        exact ⟨q, List.mem_cons_of_mem _ hq, h2⟩
theorem ahead_gd {s : ByteArray} {ps : List Prt} (h : patS s = some ps) : ∀ r ∈ aheadS ps, Gd r := by
  intro r hr
  obtain ⟨p, hp, hsp⟩ := ahead_mem ps r hr
  have := prsF_mem _ _ ps (patS_facts h).2.2 p hp (r, r) (by rw [hsp]; simp)
  exact runesG_gd s r this
theorem ahead_runes {s : ByteArray} {ps : List Prt} (h : patS s = some ps) : runesG (runesBytes (aheadS ps)) = aheadS ps := runesG_of _ (ahead_gd h) _ (rb_flat _)
theorem plain_len : ∀ ps : List Prt, plainS ps = true → (aheadS ps).length = ps.length
  | [], _ => rfl
  | p :: ps, h => by
    cases ha : aloneS p with
    | none => simp [plainS, ha] at h
    | some c =>
      have h2 : plainS ps = true := by simp [plainS, ha] at h ⊢; exact h
      simp [aheadS, ha, plain_len ps h2]
theorem alone_self {p : Prt} {c : Int} (h : aloneS p = some c) : p.tells c = true := by
  have h1 := alone_one h
  unfold aloneS at h
  split at h
  · simp at h
  · rename_i hn
    unfold Prt.tells
    rw [h1]
    simp [hn]
theorem plain_mat (ps : List Prt) (hwf : Wf ps) (h : plainS ps = true) : matS ps (aheadS ps) = true := by
  have hl := plain_len ps h
  have key : ∀ i, i ≤ ps.length → Rr ps (fun j => (aheadS ps).getD j 0) i i = true := by
    intro i
    induction i with
    | zero => intro _; rw [Rr_zero]; rfl
    | succ i ih =>
      intro hi
      obtain ⟨p, hp, ha⟩ := ahead_at ps i (by omega)
      have hrow : rowAt ps i = false := by
        unfold rowAt; rw [hp]
        exact alone_norow hwf (List.mem_of_getElem? hp) ha
      rw [Rr_one ps _ _ _ hrow, ih (by omega), Bool.and_true]
      unfold tellAt
      rw [hp]
      dsimp only
      rw [List.getD_eq_getElem?_getD, List.getElem?_eq_getElem (by omega)]
      exact alone_self ha
  unfold matS
  rw [hl]
  exact key _ (Nat.le_refl _)
end Go.Proofs.YtfnjmboflegaaaaDoor
