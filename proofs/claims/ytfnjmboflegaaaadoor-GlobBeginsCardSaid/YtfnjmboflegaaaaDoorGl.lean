/- Layer 38 (glob): Match, by the code. -/
import Derived.Test.YtfnjmboflegaaaaDoorGk
import Derived.Lib.RuneCount
namespace Go.Proofs.YtfnjmboflegaaaaDoor
open Go.RowKit

def matS (ps : List Prt) (l : List Int) : Bool := Rr ps (fun j => l.getD j 0) ps.length l.length
theorem exM_false (g : Nat → Bool) : ∀ n, exM g n = false → ∀ i, i < n → g i = false
  | 0, _, i, h => by omega
  | n + 1, he, i, h => by
    rw [exM, Bool.or_eq_false_iff] at he
    by_cases h1 : i = n
    · subst h1; exact he.1
    · exact exM_false g n he.2 i (by omega)
theorem stepF_congr (ps : List Prt) (f g : Nat → Bool) (r : Int) (n : Nat) (h : ∀ i, i ≤ n → f i = g i) : ∀ i, i ≤ n → stepF ps f r i = stepF ps g r i := by
  intro i hi
  unfold stepF
  rw [h i hi]
  cases i with
  | zero => rfl
  | succ k => dsimp only; rw [h k (by omega)]
/-- The places behind a rune. -/
theorem next_places (ps : List Prt) (hwf : Wf ps) (t : Nat → Int) (F : Nat → Bool) (j : Nat) (h : ∀ i, i ≤ ps.length → F i = Cc ps t i j) : ∀ i, i ≤ ps.length → gK ps (sK ps.length F (stepF ps F (t j)) 0) ps.length i = Cc ps t i (j + 1) := by
  intro i hi
  rw [← Cc_step ps t hwf.tell]
  unfold gK
  rw [if_pos hi]
  refine passF_congr ps _ _ ps.length (fun k hk => ?_) i hi
  unfold sK
  rw [if_pos ⟨Nat.zero_le _, hk⟩]
  exact stepF_congr ps _ _ _ ps.length h k hk
theorem dead_end (ps : List Prt) (hwf : Wf ps) (t : Nat → Int) (F : Nat → Bool) (j len : Nat) (h : ∀ i, i ≤ ps.length → F i = Cc ps t i j) (hd : exM (stepF ps F (t j)) (ps.length + 1) = false) (hl : j < len) : Rr ps t ps.length len = false := by
  have h1 : ∀ i, i ≤ ps.length → Cc ps t i (j + 1) = false := by
    intro i hi
    rw [← Cc_step ps t hwf.tell]
    have hz : ∀ i, i ≤ ps.length → stepF ps (fun k => Cc ps t k j) (t j) i = false := fun i hi => by
      rw [← stepF_congr ps F _ _ ps.length h i hi]; exact exM_false _ _ hd i (by omega)
    rw [passF_congr ps _ (fun _ => false) ps.length hz i hi]
    have : ∀ i, passF ps (fun _ => false) i = false := by
      intro i
      induction i with
      | zero => rfl
      | succ i ih => rw [passF, ih]; rfl
    exact this i
  have h2 := dead_on ps t hwf.tell (j + 1) h1 (len - (j + 1)) ps.length (Nat.le_refl _)
  rw [show j + 1 + (len - (j + 1)) = len from by omega, Cc_end] at h2
  exact h2
theorem gR_end (s : ByteArray) (f pos : Nat) (h : ¬ pos < s.size) : gR s f pos = [] := by cases f <;> simp [gR, h]
theorem bx_iter {w : World} {g k pos : Nat} {t : TypeId} {cs : Array Value} {s : ByteArray} (h : Bx w g t cs) (hk : It w k s pos) (p : Nat) : Bx (w.iterAt k s p) g t cs := by
  unfold Bx at h ⊢
  rw [Lib.iterAt_other _ _ _ _ _ (fun e => by subst e; unfold It at hk; rw [hk] at h; cases h)]
  exact h
/-- What the walk along a text knows. -/
structure MI (w : World) (q : List (Prt × Value)) (cs : Array Value) (t : ByteArray) (K pos f j : Nat) (F : Nat → Bool) (wr : World) : Prop where
  it : It wr K t pos
  fuel : t.size ≤ pos + f
  rest : gR t f pos = (runesG t).drop j
  arr : Bx wr (w.heap.size + 1) 44 (arrB F)
  alive : ∀ i, i ≤ q.length → F i = Cc (psq q) (fun j => (runesG t).getD j 0) i j
  pat : Bx wr w.heap.size 24 cs
  bel : Below w.heap.size w wr
  j_le : j ≤ (runesG t).length
theorem psq_len (q : List (Prt × Value)) : (psq q).length = q.length := by simp [psq]
set_option maxRecDepth 100000 in
set_option maxHeartbeats 8000000 in
theorem match_any (s : ByteArray) (pv : Value) (q : List (Prt × Value)) (hq : q.length ≤ 100) (hsp : ∀ x ∈ q, x.1.sp.length ≤ 200) (hwf : Wf (psq q)) (t : ByteArray) (ht : t.size ≤ 1000) (w : World) (h : PtO w pv q) :
    Calls Tryd.prog 10 #[.agg #[.string s, pv], .string t] w fun e w' => e = .returned (.bool (matS (psq q) (runesG t))) ∧ Below w.heap.size w w' := by
  obtain ⟨pa, pc, rfl⟩ := own_form h.1
  obtain ⟨W1, hst, hbA, hbP, hbel⟩ := store_places w #[.string s, .slice pa q.length pc] (fun _ => false) (fun k => if k = 0 then true else false)
  have hA1 := arr_set (fun _ => false) 0 true
  have hzv := places_zero
  have hsv := places_size
  have hne : ¬ (arrB fun _ => false) = #[] := by intro e; have := congrArg Array.size e; simp [arrB] at this
  have hsz1 := arr_size (fun k => if k = 0 then true else false)
  generalize arrB (fun _ => false) = A0 at *
  obtain ⟨A1, hA⟩ : ∃ A, A = arrB (fun k => if k = 0 then true else false) := ⟨_, rfl⟩
  rw [← hA] at hA1 hst hsz1 hbA
  have HA := Hid.mk' hA
  have hpt1 := h.next hbel
  have C0 := Hid.mk' (pass_any s (.slice pa q.length pc) q hq (w.heap.size + 1) _ W1 hpt1 (hA ▸ hbA))
  have HW := Hid.mk' (And.intro h (And.intro hbP (And.intro hbel hpt1)))
  obtain ⟨o0, o1⟩ := And.intro (hbP.read (i := 0) rfl) (hbP.read (i := 1) rfl)
  have HWF := Hid.mk' hwf
  have HSP := Hid.mk' hsp
  clear hA h hbA hbP hbel hpt1 hwf hsp
  go_enter Tryd.func10, Tryd.ntmps10
  go_wp2_with fail
  clear hst hzv hne hsz1 hA1 o0 o1
  refine C0.out.mono ?_; rintro e W2 ⟨rfl, hP2⟩
  have HP := Hid.mk' hP2
  clear hP2
  go_wp2_with fail
  have hbel2 := below_gb HW.out.2.2.1 HP.out.2 (Nat.le_succ w.heap.size)
  have START := Hid.mk' (show MI w q #[.string s, .slice pa q.length pc] t W2.heap.size 0 t.size 0 _ (W2.iter t 0) from
    ⟨It.fresh W2 t 0, by omega, by simp [runesG], (HP.out.1.past _ : Bx (W2.alloc _) _ _ _), (fun i hi => by
      rw [← Cc_begin]
      unfold gK
      rw [if_pos hi]
      exact congrArg (fun z => passF (psq q) z i) (by funext k; by_cases h : k = 0 <;> simp [h])),
      (((HW.out.2.1.grown HP.out.2 (by simp)).past _) : Bx (W2.alloc _) _ _ _), hbel2.alloc hbel2.size _, Nat.zero_le _⟩)
  have hK := hbel2.size
  have hK2 := HP.out.1.inside
  generalize W2.heap.size = K at *
  generalize W2.iter t 0 = W3 at *
  clear hbel2 HP C0
  go_loopw [] (fun wr => ∃ pos f j F, Hid (MI w q #[.string s, .slice pa q.length pc] t K pos f j F wr)) (fun wr => t.size - wr.iterPos K)
  case atStart => exact ⟨0, t.size, 0, _, START⟩
  case round =>
    clear START
    obtain ⟨pos, f, j, F, HM⟩ := hrel
    have hit := HM.out.it
    by_cases hp : pos < t.size
    · obtain ⟨R, hR⟩ : ∃ R, (Utf8.decode t pos).1 = R := ⟨_, rfl⟩
      obtain ⟨wd, hwd⟩ : ∃ wd, (Utf8.decode t pos).2 = wd := ⟨_, rfl⟩
      have hw1 : 1 ≤ wd := by rw [← hwd]; exact Lib.decode_width_pos t pos hp
      have hnx : ∀ ty, (Instr.next (.pointer (some ⟨K, 0, none⟩)) true ty).run Tryd.prog wr = .ok (.tuple #[.bool true, .int .i64 pos, .int .i32 R]) (wr.iterAt K t (pos + wd)) := fun ty => by
        have := Lib.run_next_any_at (P := Tryd.prog) wr K t pos ty hit hp
        rw [hR, hwd] at this; exact this
      obtain ⟨g, rfl⟩ : ∃ g, f = g + 1 := ⟨f - 1, by have := HM.out.fuel; omega⟩
      have hrest := HM.out.rest
      rw [gR, if_pos hp, hR, hwd] at hrest
      have hjl : j < (runesG t).length := by
        rcases Nat.lt_or_ge j (runesG t).length with h1 | h1
        · exact h1
        · rw [List.drop_of_length_le h1] at hrest; cases hrest
      rw [List.drop_eq_getElem_cons hjl] at hrest
      injection hrest with hR2 hrest2
      have hget : (runesG t).getD j 0 = (R : Int) := by rw [List.getD_eq_getElem?_getD, List.getElem?_eq_getElem hjl, hR2]; rfl
      have hpl := hit.place
      have bel1 := Lib.below_iterAt HM.out.bel (k := K) hK t (pos + wd)
      have arr1 := bx_iter HM.out.arr hit (pos + wd)
      have pat1 := bx_iter HM.out.pat hit (pos + wd)
      have C := Hid.mk' (step_any s (.slice pa q.length pc) q hq HSP.out (w.heap.size + 1) F R _ (HW.out.1.next bel1) arr1)
      have hal := next_places (psq q) HWF.out (fun j => (runesG t).getD j 0) F j (by rw [psq_len]; exact HM.out.alive)
      have hde := dead_end (psq q) HWF.out (fun j => (runesG t).getD j 0) F j (runesG t).length (by rw [psq_len]; exact HM.out.alive)
      try dsimp only at hal hde
      rw [hget, psq_len] at hal hde
      have HD := Hid.mk' (And.intro hal hde)
      have H1 := Hid.mk' (And.intro bel1 (And.intro pat1 (And.intro (hit.step (pos + wd)) (And.intro hrest2 (And.intro hjl hpl)))))
      obtain ⟨o0, o1⟩ := And.intro (pat1.read (i := 0) rfl) (pat1.read (i := 1) rfl)
      have hfu := HM.out.fuel
      clear hit hrest2 hR2 hget hpl bel1 arr1 pat1 hal hde hR hwd
      go_wp2_with fail
      refine C.out.mono ?_; rintro e W4 ⟨rfl, hP⟩
      have H4 := Hid.mk' hP
      clear hP o0 o1
      cases hex : exM (stepF (psq q) F R) (q.length + 1) with
      | false =>
        have E := Hid.mk' (show matS (psq q) (runesG t) = false by unfold matS; rw [psq_len]; exact HD.out.2 hex H1.out.2.2.2.2.1)
        clear hex
        go_wp2_with fail
        go_ret
        exact ⟨ret_bool E.out.symm, below_gb H1.out.1 H4.out.2 (Nat.le_succ _)⟩
      | true =>
        clear hex
        have E := Hid.mk' (show MI w q #[.string s, .slice pa q.length pc] t K (pos + wd) g (j + 1) _ W4 from ⟨It.grown H1.out.2.2.1 H4.out.2 (by intro e; cases e; omega), by omega, H1.out.2.2.2.1, H4.out.1, HD.out.1, H1.out.2.1.grown H4.out.2 (by simp), below_gb H1.out.1 H4.out.2 (Nat.le_succ _), H1.out.2.2.2.2.1⟩)
        go_wp2_with fail
        go_roundw
        case rel => exact ⟨pos + wd, g, j + 1, _, E⟩
        case measure => rw [E.out.it.place, H1.out.2.2.2.2.2]; omega
    · have hnx : ∀ ty, (Instr.next (.pointer (some ⟨K, 0, none⟩)) true ty).run Tryd.prog wr = _ := fun ty => Lib.run_next_end_at wr K t pos ty hit hp
      have hrest := HM.out.rest
      rw [gR_end t f pos hp] at hrest
      have hjl : j = (runesG t).length := by
        have := congrArg List.length hrest
        simp at this
        have := HM.out.j_le
        omega
      have ho := HM.out.arr.read (arr_at F q.length (by omega))
      have hal := HM.out.alive q.length (Nat.le_refl _)
      have E := Hid.mk' (show F q.length = matS (psq q) (runesG t) by
        unfold matS; rw [hal, hjl, ← Cc_end, psq_len])
      have HB := Hid.mk' HM.out.bel
      obtain ⟨o0, o1⟩ := And.intro (HM.out.pat.read (i := 0) rfl) (HM.out.pat.read (i := 1) rfl)
      clear hrest hjl hal
      generalize F q.length = b at *
      clear HM
      go_wp2_with fail
      go_ret
      exact ⟨ret_bool E.out, HB.out⟩
end Go.Proofs.YtfnjmboflegaaaaDoor
