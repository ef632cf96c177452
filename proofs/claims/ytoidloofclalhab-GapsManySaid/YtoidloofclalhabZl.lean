/- Layer 47 (gaps): the statement GapsPuts' walk. -/
import Derived.Test.YtoidloofclalhabZk
namespace Go.Proofs.Ytoidloofclalhab
open Go.RowKit

theorem BS.keep {w5 w6 : World} {v : Value} {l : List UInt8} {B : Nat} {row : Option Nat} (h : BS w5 v l) (hv : ∀ k, v.ownBlock = some k → k < B) (hg : w5.grownBy w6 row) (hr : ∀ k, row = some k → B ≤ k) : BS w6 v l :=
  h.grown (B := B) hg hr (fun a n c e => hv a.block (by rw [e]; rfl))
/-- An operation whose guard is met is as one without a guard. -/
theorem wpList_guard_off {P : Program} {ops : Array Oper} {rest : List Oper} {o : Oper} {a : Act} {w : World} {Q : Exit → Act → World → Prop} (hw : Region.wanted o (yielded ops a.tmps) = true) (h : wpList P ops Q ({ o with guard := none } :: rest) a w) : wpList P ops Q (o :: rest) a w := by
  unfold wpList at h ⊢
  rw [if_pos hw]
  rw [if_pos (by rfl)] at h
  exact h
set_option maxRecDepth 100000 in
set_option maxHeartbeats 4000000 in
theorem gputs_no (vb vl vr : Value) (lb : List UInt8) (l : List Int) (lr : List UInt8) (h1 : lb.length ≤ 500) (h2 : l.length ≤ 300) (h3 : lr.length ≤ 500) (hok : okB l = false) (w : World) (hB : BS w vb lb) (hL : IR w vl l) (hR : BS w vr lr) :
    Calls Try.prog 6 #[vb, vl, vr] w fun e w' => e = .returned (.bool true) ∧ Below w.heap.size w w' := by
  obtain ⟨ba, bc, rfl⟩ := hB.form
  obtain ⟨la, lc, rfl⟩ := hL.form
  obtain ⟨ra, rc, rfl⟩ := hR.form
  have HB := Lib.hid hB
  have HL := Lib.hid hL
  have HOK := Lib.hid hok
  clear hB hL hR hok
  go_enter Try.func6, Try.ntmps6
  go_wp2_with fail
  refine (sclone_any _ lb (by omega) _ HB.out).mono ?_; rintro e w1 ⟨v1, rfl, hO1, hb1⟩
  have H1 := Lib.hid (And.intro hO1.bs hb1)
  clear hO1 hb1
  go_wp2_with fail
  refine (gput_any _ _ lb l (by omega) (by omega) _ H1.out.1 (HL.out.next H1.out.2)).mono ?_; rintro e w2 ⟨v2, rfl, hO2, hb2⟩
  rw [HOK.out, if_neg (by simp), List.append_nil] at hO2
  rw [HOK.out]
  have H2 := Lib.hid (And.intro hO2.bs (bnext H1.out.2 hb2))
  clear hO2 hb2
  go_wp2_with fail
  refine (lright_any _ l (by omega) _ (HL.out.next H2.out.2)).mono ?_; rintro e w3 ⟨rfl, hb3⟩
  rw [HOK.out]
  have H3 := Lib.hid (And.intro (H2.out.1.next hb3) (bnext H2.out.2 hb3))
  clear hb3
  go_wp2_with fail
  refine (equal_yes _ _ lb (by omega) _ H3.out.1 (HB.out.next H3.out.2)).mono ?_; rintro e w4 ⟨rfl, hb4⟩
  have H4 := Lib.hid (bnext H3.out.2 hb4)
  clear hb4
  go_wp2_with fail
  refine (gsize_any _ l (by omega) _ (HL.out.next H4.out)).mono ?_; rintro e w5 ⟨rfl, hb5⟩
  rw [if_neg (by rw [HOK.out]; simp)]
  have H5 := Lib.hid (bnext H4.out hb5)
  clear hb5
  go_wp2_with fail
  refine (alive47_any _).mono ?_; rintro e w9 ⟨rfl, hb9⟩
  have H9 := Lib.hid (bnext H5.out hb9)
  clear hb9
  go_wp2_with fail
  go_ret
  exact ⟨rfl, H9.out⟩
set_option maxRecDepth 100000 in
set_option maxHeartbeats 8000000 in
theorem gputs_yes (vb vl vr : Value) (lb : List UInt8) (l : List Int) (lr : List UInt8) (h1 : lb.length ≤ 500) (h2 : l.length ≤ 300) (h3 : lr.length ≤ 500) (hok : okB l = true) (w : World) (hB : BS w vb lb) (hL : IR w vl l) (hR : BS w vr lr) :
    Calls Try.prog 6 #[vb, vl, vr] w fun e w' => e = .returned (.bool true) ∧ Below w.heap.size w w' := by
  obtain ⟨ba, bc, rfl⟩ := hB.form
  obtain ⟨la, lc, rfl⟩ := hL.form
  obtain ⟨ra, rc, rfl⟩ := hR.form
  have HB := Lib.hid hB
  have HL := Lib.hid hL
  have HR := Lib.hid hR
  have HOK := Lib.hid hok
  have hgl := gB_len l
  have HGB := Lib.hid (gets_by l lr hok)
  clear hB hL hR hok
  go_enter Try.func6, Try.ntmps6
  go_wp2_with fail
  refine (sclone_any _ lb (by omega) _ HB.out).mono ?_; rintro e w1 ⟨v1, rfl, hO1, hb1⟩
  have H1 := Lib.hid (And.intro hO1.bs hb1)
  clear hO1 hb1
  go_wp2_with fail
  refine (gput_any _ _ lb l (by omega) (by omega) _ H1.out.1 (HL.out.next H1.out.2)).mono ?_; rintro e w2 ⟨v2, rfl, hO2, hb2⟩
  rw [HOK.out, if_pos rfl] at hO2
  rw [HOK.out]
  have HV2 := Lib.hid (fun k (hk : v2.ownBlock = some k) => (World.ownsRow.lt hO2 k hk).2)
  have H2 := Lib.hid (And.intro hO2.bs (bnext H1.out.2 hb2))
  clear hO2 hb2
  go_wp2_with fail
  refine (lright_any _ l (by omega) _ (HL.out.next H2.out.2)).mono ?_; rintro e w3 ⟨rfl, hb3⟩
  rw [HOK.out]
  have H3 := Lib.hid (And.intro (H2.out.1.next hb3) (bnext H2.out.2 hb3))
  have HZ3 := Lib.hid hb3.size
  clear hb3
  go_wp2_with fail
  refine (lbytes_any _ l HOK.out _ (HL.out.next H3.out.2)).mono ?_; rintro e w4 ⟨v4, rfl, hO4, hb4⟩
  have HV4 := Lib.hid (fun k (hk : v4.ownBlock = some k) => (World.ownsRow.lt hO4 k hk).2)
  have HV2' := Lib.hid (fun k (hk : v2.ownBlock = some k) => show k < w4.heap.size by have := HV2.out k hk; have := HZ3.out; have := hb4.size; omega)
  have H4 := Lib.hid (And.intro (H3.out.1.next hb4) (And.intro hO4.bs (bnext H3.out.2 hb4)))
  obtain ⟨v4a, v4c, rfl⟩ := hO4.bs.form
  clear hO4 hb4
  go_wp2_with fail
  refine (sclone_any _ lb (by omega) _ (HB.out.next H4.out.2.2)).mono ?_; rintro e w5 ⟨v5, rfl, hO5, hb5⟩
  have H5 := Lib.hid (And.intro (H4.out.1.next hb5) (And.intro (H4.out.2.1.next hb5) (And.intro hO5 (And.intro (bnext H4.out.2.2 hb5) hb5.size))))
  clear hO5 hb5
  go_wp2_with (at_builtin; refine wpList_guard_off rfl ?_; refine wpList_append_bs rfl (.tmp 56) (.tmp 57) rfl w4.heap.size v5 _ lb (gB l) rfl rfl H5.out.2.2.1 H5.out.2.1 (by omega) H5.out.2.2.2.2 ?_; intro v6 w6 hO6 hgr6)
  have hlt5 : ∀ k, v5.ownBlock = some k → w4.heap.size ≤ k := fun k hk => (World.ownsRow.lt H5.out.2.2.1 k hk).1
  have H6 := Lib.hid (And.intro (H5.out.1.keep HV2'.out hgr6 hlt5) (And.intro (H5.out.2.1.keep HV4.out hgr6 hlt5) (And.intro hO6.bs (H5.out.2.2.2.1.grown hgr6 H5.out.2.2.2.1.size (fun k hk => by have := hlt5 k hk; have := H4.out.2.2.size; omega)))))
  clear hO6 hgr6 hlt5
  go_wp2_with fail
  refine (equal_yes _ _ (lb ++ gB l) (by rw [List.length_append]; omega) _ H6.out.1 H6.out.2.2.1).mono ?_; rintro e w7 ⟨rfl, hb7⟩
  have H7 := Lib.hid (And.intro (H6.out.2.1.next hb7) (bnext H6.out.2.2.2 hb7))
  clear hb7
  go_wp2_with fail
  refine (gsize_any _ l (by omega) _ (HL.out.next H7.out.2)).mono ?_; rintro e w8 ⟨rfl, hb8⟩
  rw [if_pos HOK.out]
  have H8 := Lib.hid (And.intro (H7.out.1.next hb8) (bnext H7.out.2 hb8))
  clear hb8
  go_wp2_with fail
  refine (sclone_any _ (gB l) (by omega) _ H8.out.1).mono ?_; rintro e w9 ⟨v9, rfl, hO9, hb9⟩
  have H9 := Lib.hid (And.intro hO9 (And.intro (HR.out.next (bnext H8.out.2 hb9)) (And.intro (bnext H8.out.2 hb9) hb9.size)))
  clear hO9 hb9
  go_wp2_with (at_builtin; refine wpList_append_bs rfl (.tmp 70) (.tmp 71) rfl w8.heap.size v9 _ (gB l) lr rfl rfl H9.out.1 H9.out.2.1 (by omega) H9.out.2.2.2 ?_; intro v10 w10 hO10 hgr10)
  have H10 := Lib.hid (And.intro hO10.bs (H9.out.2.2.1.grown hgr10 H9.out.2.2.1.size (fun k hk => by have := (World.ownsRow.lt H9.out.1 k hk).1; have := H8.out.2.size; omega)))
  clear hO10 hgr10
  go_wp2_with fail
  refine (newr_any _ (gB l ++ lr) (by rw [List.length_append]; omega) _ H10.out.1).mono ?_; rintro e w11 ⟨R, vr, rfl, hr2, hR2, hA2, hb2⟩
  have hRin : R < w11.heap.size := Bx.inside hr2.1
  have H11 := Lib.hid (And.intro hr2 (And.intro hA2 (And.intro (bnext H10.out.2 hb2) (Nat.le_trans H10.out.2.size hR2))))
  clear hr2 hR2 hA2 hb2
  go_wp2_with fail
  refine (gget_any R vr (gB l ++ lr) (by rw [List.length_append]; omega) H11.out.2.1 w11 hRin H11.out.1).mono ?_
  rw [HGB.out]
  rintro e w12 ⟨v12, rfl, hio, hr, hg⟩
  dsimp only at hio hr hg
  have H12 := Lib.hid (And.intro hio (And.intro hr (below_gb H11.out.2.2.1 hg H11.out.2.2.2)))
  clear hio hr hg hRin
  have HIZ := Lib.hid (okB_iz HOK.out)
  go_wp2_with fail
  refine (equalI_yes _ _ l (by omega) _ (IO.ir H12.out.1 HIZ.out.1 (by unfold maxLen; omega)) (HL.out.next H12.out.2.2)).mono ?_; rintro e w13 ⟨rfl, hb13⟩
  have H13 := Lib.hid (And.intro (Rdr.step' H12.out.2.1 hb13) (bnext H12.out.2.2 hb13))
  clear hb13
  go_wp2_with fail
  refine (why_any R vr _ _ 0 _ H13.out.1).mono ?_; rintro e w14 ⟨rfl, rfl⟩
  go_wp2_with fail
  refine (at_any R vr _ _ 0 _ H13.out.1).mono ?_; rintro e w15 ⟨rfl, rfl⟩
  go_wp2_with fail
  refine (alive47_any _).mono ?_; rintro e w16 ⟨rfl, hb16⟩
  have H16 := Lib.hid (bnext H13.out.2 hb16)
  clear hb16
  go_wp2_with fail
  go_ret
  exact ⟨rfl, H16.out⟩
set_option maxRecDepth 100000 in
set_option maxHeartbeats 1000000 in
theorem gputs_great (ba la ra : Option Addr) (bn bc ln lc rn rc : Nat) (hbm : bn ≤ 9223372036854775807) (hlm : ln ≤ 9223372036854775807) (hrm : rn ≤ 9223372036854775807) (h : 300 < ln ∨ 500 < bn ∨ 500 < rn) (w : World) :
    Calls Try.prog 6 #[.slice ba bn bc, .slice la ln lc, .slice ra rn rc] w fun e w' => e = .returned (.bool true) ∧ Below w.heap.size w w' := by
  by_cases h1 : 300 < ln
  · go_enter Try.func6, Try.ntmps6
    go_wp2_with fail
    go_ret
    exact ⟨rfl, Below.refl _ _⟩
  · by_cases h2 : 500 < bn
    · go_enter Try.func6, Try.ntmps6
      go_wp2_with fail
      go_ret
      exact ⟨rfl, Below.refl _ _⟩
    · have h3 : 500 < rn := by omega
      go_enter Try.func6, Try.ntmps6
      go_wp2_with fail
      go_ret
      exact ⟨rfl, Below.refl _ _⟩
theorem gputslaw (vb vl vr : Value) (w : World) (hb : ∃ l, BS w vb l ∧ l.length ≤ maxLen) (hl : ∃ l, IR w vl l) (hr : ∃ l, BS w vr l ∧ l.length ≤ maxLen) :
    Calls Try.prog 6 #[vb, vl, vr] w fun e w' => e = .returned (.bool true) ∧ Below w.heap.size w w' := by
  obtain ⟨lb, hb, hbm⟩ := hb
  obtain ⟨l, hl⟩ := hl
  obtain ⟨lr, hr, hrm⟩ := hr
  have hlm : l.length ≤ maxLen := by obtain ⟨_, _, _, h, _⟩ := hl; exact h
  by_cases hg : 300 < l.length ∨ 500 < lb.length ∨ 500 < lr.length
  · obtain ⟨ba, bc, rfl⟩ := hb.form
    obtain ⟨la, lc, rfl⟩ := hl.form
    obtain ⟨ra, rc, rfl⟩ := hr.form
    unfold maxLen at hbm hlm hrm
    exact gputs_great ba la ra _ bc _ lc _ rc (by omega) (by omega) (by omega) hg w
  · cases hok : okB l with
    | false => exact gputs_no vb vl vr lb l lr (by omega) (by omega) (by omega) hok w hb hl hr
    | true => exact gputs_yes vb vl vr lb l lr (by omega) (by omega) (by omega) hok w hb hl hr
end Go.Proofs.Ytoidloofclalhab
