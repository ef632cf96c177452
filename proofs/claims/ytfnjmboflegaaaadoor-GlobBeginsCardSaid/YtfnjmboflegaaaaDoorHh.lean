/- Layer 38 (glob): the statement on beginnings and rows around, for texts that are patterns. -/
import Derived.Test.YtfnjmboflegaaaaDoorHg
namespace Go.Proofs.YtfnjmboflegaaaaDoor
open Go.RowKit

theorem vb_data {t : ByteArray} (h : ((runesBytes (runesG t)).toList == t.toList) = true) : (runesBytes (runesG t)).data.toList = t.data.toList := by
  have := eq_of_beq h
  rw [ByteArray.toList_eq, ByteArray.toList_eq] at this
  exact this
set_option maxRecDepth 100000 in
set_option maxHeartbeats 16000000 in
theorem begins_good (s t0 t1 t2 : ByteArray) (hs : s.size ≤ 90) (h01 : t0.size + t1.size ≤ 200) (h2 : t2.size ≤ 200) (ps : List Prt) (hp : patS s = some ps) (w : World) (hT : Tb w) :
    Calls Tryd.prog 5 #[.string s, .agg #[.string t0, .string t1, .string t2]] w fun e w' => e = .returned (.bool true) ∧ Below w.heap.size w w' := by
  have e0 : Below w.heap.size w (w.alloc (.cells #[.string t0, .string t1, .string t2] 35)) := (Below.refl _ _).alloc (Nat.le_refl _) _
  have x0 : Bx (w.alloc (.cells #[.string t0, .string t1, .string t2] 35)) w.heap.size 35 #[.string t0, .string t1, .string t2] := Bx.fresh w _ _
  have a' : ¬ (90 : Int) < (s.size : Int) := by omega
  have b' : ¬ (200 : Int) < (t0.size : Int) + (t1.size : Int) := by omega
  have c' : ¬ (200 : Int) < (t1.size : Int) := by omega
  have c2' : ¬ (200 : Int) < (t0.size : Int) := by omega
  have d' : ¬ (200 : Int) < (t2.size : Int) := by omega
  have hsm : IntKind.i64.wrap ((t0.size : Int) + (t1.size : Int)) = (t0.size : Int) + (t1.size : Int) := IntWalk.i64_in _ (by omega)
  have hadd := stars_add s
  have C := Hid.mk' (new_any s (by unfold maxLen; omega) _ (hT.next e0))
  have CQ := Hid.mk' (fun W (hW : Tb W) => new_any (starsB s) (by rw [starsB_size]; unfold maxLen; omega) W hW)
  have HTb := Hid.mk' hT
  have HE := Hid.mk' (And.intro e0 x0)
  have HN := Hid.mk' hp
  have HQ := Hid.mk' (around_wf hs hp)
  have HS := Hid.mk' (And.intro hs (And.intro h01 h2))
  clear hT hp e0 x0
  go_enter Tryd.func5, Tryd.ntmps5
  go_wp2_with fail
  refine C.out.mono ?_; rintro e w1 ⟨hb1, hres⟩
  rcases hres with ⟨hn, _⟩ | ⟨pv, q, hq, hpt, rfl⟩
  · rw [HN.out] at hn; cases hn
  rw [HN.out] at hq
  injection hq with hq
  have hwf := psE_wf HN.out
  have hpsq : ps = psq q := hq
  subst hpsq
  obtain ⟨pa, pc, rfl⟩ := own_form hpt.1
  have e1 : Below w1.heap.size w1 (w1.alloc (.cells #[.string s, .slice pa q.length pc] 24)) := (Below.refl _ _).alloc (Nat.le_refl _) _
  have b1 : Bx (w1.alloc (.cells #[.string s, .slice pa q.length pc] 24)) w1.heap.size 24 #[.string s, .slice pa q.length pc] := Bx.fresh w1 _ _
  have hq100 : q.length ≤ 100 := by have := hwf.2.2; rw [psq_len] at this; exact this
  have CM := Hid.mk' (fun (W : World) (hW : PtO W (.slice pa q.length pc) q) => match_big s (.slice pa q.length pc) q hq100 (psq_sp hwf.2.1) hwf.1 t1 (by have := HS.out; omega) W hW)
  have CA := Hid.mk' (fun (W : World) (hW : PtO W (.slice pa q.length pc) q) => ahead_any s (.slice pa q.length pc) q hq100 (psq_sp hwf.2.1) W hW)
  have hbb := bnext hb1 e1
  have H1 := Hid.mk' (And.intro (hpt.next e1) (And.intro b1 (And.intro ((HE.out.2.next hbb)) (bnext HE.out.1 hbb))))
  have HWF := Hid.mk' hwf.1
  have C1 := Hid.mk' (CQ.out _ (HTb.out.next H1.out.2.2.2))
  clear e1 b1 hb1 C hwf hpt hq100 hbb hq
  go_wp2_with fail
  refine C1.out.mono ?_; rintro e w2 ⟨hb2, hres⟩
  rcases hres with ⟨hn, _⟩ | ⟨pv2, q2, hq2, hpt2, rfl⟩
  · rw [HQ.out] at hn; cases hn
  rw [HQ.out] at hq2
  injection hq2 with hq2
  have hwf2 := psE_wf HQ.out
  have hpsq2 : around (psq q) = psq q2 := hq2
  rw [hpsq2] at hwf2
  obtain ⟨qa, qc, rfl⟩ := own_form hpt2.1
  have e2 : Below w2.heap.size w2 (w2.alloc (.cells #[.string (starsB s), .slice qa q2.length qc] 24)) := (Below.refl _ _).alloc (Nat.le_refl _) _
  have b2 : Bx (w2.alloc (.cells #[.string (starsB s), .slice qa q2.length qc] 24)) w2.heap.size 24 #[.string (starsB s), .slice qa q2.length qc] := Bx.fresh w2 _ _
  have hq100 : q2.length ≤ 100 := by have := hwf2.2.2; rw [psq_len] at this; exact this
  have CB := Hid.mk' (fun (W : World) (t : ByteArray) (ht : t.size ≤ 100000) (hW : PtO W (.slice qa q2.length qc) q2) => match_big (starsB s) (.slice qa q2.length qc) q2 hq100 (psq_sp hwf2.2.1) hwf2.1 t ht W hW)
  have HPQ := Hid.mk' hpsq2
  have hbb := bnext hb2 e2
  have H2 := Hid.mk' (And.intro (H1.out.1.next hbb) (And.intro (H1.out.2.1.next hbb) (And.intro (H1.out.2.2.1.next hbb) (And.intro (hpt2.next e2) (And.intro b2 (bnext H1.out.2.2.2 hbb))))))
  have C2 := Hid.mk' (CA.out _ H2.out.1)
  obtain ⟨o0, o1⟩ := And.intro (H2.out.2.1.read (i := 0) rfl) (H2.out.2.1.read (i := 1) rfl)
  clear hb2 C1 hwf2 hpsq2 e2 b2 hq100 hbb hpt2 hq2 hadd hsm
  go_wp2_with fail
  refine C2.out.mono ?_; rintro e w3 ⟨rfl, hb3⟩
  have H3 := Hid.mk' (And.intro (H2.out.1.next hb3) (And.intro (H2.out.2.1.next hb3) (And.intro (H2.out.2.2.1.next hb3) (And.intro (H2.out.2.2.2.1.next hb3) (And.intro (H2.out.2.2.2.2.1.next hb3) (bnext H2.out.2.2.2.2.2 hb3))))))
  clear hb3 C2 o0 o1 CA
  obtain ⟨m1, hm1⟩ : ∃ m1, m1 = matS (psq q) (runesG t1) := ⟨_, rfl⟩
  obtain ⟨vb, hvb⟩ : ∃ vb, vb = ((runesBytes (runesG t1)).toList == t1.toList) := ⟨_, rfl⟩
  have hkey : m1 = true → vb = true → (runesBytes (aheadS (psq q))).size ≤ t1.size ∧ t1.extract 0 (runesBytes (aheadS (psq q))).size = runesBytes (aheadS (psq q)) := fun h1 h2 => ahead_bytes (psq q) HWF.out t1 (hm1 ▸ h1) (vb_data (hvb ▸ h2))
  have harnd : m1 = true → matS (psq q2) (runesG (runesBytes (runesG t0) ++ runesBytes (runesG t1) ++ runesBytes (runesG t2))) = true := fun h1 => by
    rw [runesG_three, ← HPQ.out]; exact around_mat _ _ _ _ (hm1 ▸ h1)
  have CV := Hid.mk' (fun (W : World) => valid_any t1 (by have := HS.out; omega) W)
  rw [← hvb] at CV
  rw [← hm1] at CM
  obtain ⟨A, hA⟩ : ∃ A, A = runesBytes (aheadS (psq q)) := ⟨_, rfl⟩
  rw [← hA] at hkey
  have HA := Hid.mk' (And.intro hA (And.intro hm1 hvb))
  have hAs : A.size ≤ 400 := by
    have h1 := runesBytes_size_le (aheadS (psq q))
    have h2 := ahead_le (psq q)
    have h3 := (psE_wf HN.out).2.2
    rw [hA]; omega
  have HK := Hid.mk' hkey
  have HR := Hid.mk' harnd
  clear hm1 hvb hkey harnd
  rw [← hA]
  clear hA
  have C3 := Hid.mk' (CM.out _ H3.out.1)
  obtain ⟨o0, o1⟩ := And.intro (H3.out.2.1.read (i := 0) rfl) (H3.out.2.1.read (i := 1) rfl)
  obtain ⟨y0, y1⟩ := And.intro (H3.out.2.2.1.read (i := 0) rfl) (H3.out.2.2.1.read (i := 1) rfl)
  go_wp2_with fail
  refine C3.out.mono ?_; rintro e w4 ⟨rfl, hb4⟩
  have H4 := Hid.mk' (And.intro (H3.out.1.next hb4) (And.intro (H3.out.2.1.next hb4) (And.intro (H3.out.2.2.1.next hb4) (And.intro (H3.out.2.2.2.1.next hb4) (And.intro (H3.out.2.2.2.2.1.next hb4) (bnext H3.out.2.2.2.2.2 hb4))))))
  clear hb4 C3 o0 o1 y0 y1 H3 H2 H1
  obtain ⟨o0, o1⟩ := And.intro (H4.out.2.1.read (i := 0) rfl) (H4.out.2.1.read (i := 1) rfl)
  obtain ⟨y0, y1, y2⟩ := Bx.reads3 H4.out.2.2.1
  cases m1 with
  | false =>
    obtain ⟨v0, V0, hc0, hr0, hbv0⟩ := rconv t0 (by omega) w4
    obtain ⟨v1, V1, hc1, hr1, hbv1⟩ := rconv t1 (by omega) V0
    obtain ⟨v2, V2, hc2, hr2, hbv2⟩ := rconv t2 (by omega) V1
    have d0 := conv_rs hr0
    have d1 := conv_rs hr1
    have d2 := conv_rs hr2
    have HV := Hid.mk' (bnext hbv0 (bnext hbv1 hbv2))
    obtain ⟨z0, z1, z2⟩ := Bx.reads3 (H4.out.2.2.1.next hbv0)
    obtain ⟨u0, u1, u2⟩ := Bx.reads3 (H4.out.2.2.1.next (bnext hbv0 hbv1))
    have H5 := Hid.mk' (And.intro (H4.out.1.next HV.out) (And.intro (H4.out.2.1.next HV.out) (And.intro (H4.out.2.2.1.next HV.out) (bnext H4.out.2.2.2.2.2 HV.out))))
    obtain ⟨p0, p1⟩ := And.intro (H5.out.2.1.read (i := 0) rfl) (H5.out.2.1.read (i := 1) rfl)
    obtain ⟨q0, q1', q2'⟩ := Bx.reads3 H5.out.2.2.1
    have s0 := runesBytes_size_le (runesG t0)
    have s1 := runesBytes_size_le (runesG t1)
    have s2 := runesBytes_size_le (runesG t2)
    have g0 := runesG_len t0
    have g1 := runesG_len t1
    have g2 := runesG_len t2
    have n0 : (runesBytes (runesG t0)).size ≤ 800 := by omega
    have n1 : (runesBytes (runesG t1)).size ≤ 800 := by omega
    have n2 : (runesBytes (runesG t2)).size ≤ 800 := by omega
    clear hr0 hr1 hr2 hbv0 hbv1 hbv2 s0 s1 s2 g0 g1 g2 HK HR HA
    generalize runesBytes (runesG t0) = X0 at *
    generalize runesBytes (runesG t1) = X1 at *
    generalize runesBytes (runesG t2) = X2 at *
    have C5 := Hid.mk' (CM.out _ H5.out.1)
    go_wp2_with fail
    refine C5.out.mono ?_; rintro e w6 ⟨rfl, hb6⟩
    have H6 := Hid.mk' (bnext H5.out.2.2.2 hb6)
    clear hb6 C5 hc0 hc1 hc2 d0 d1 d2 o0 o1 y0 y1 y2 z0 z1 z2 u0 u1 u2 p0 p1 q0 q1' q2'
    go_wp2_with fail
    refine (alive38_any _ (HTb.out.next H6.out)).mono ?_; rintro e w7 ⟨rfl, hb7⟩
    have H7 := Hid.mk' (bnext H6.out hb7)
    clear hb7
    go_wp2_with fail
    go_ret
    exact ⟨rfl, H7.out⟩
  | true =>
    have CW := Hid.mk' (HR.out rfl)
    have HK2 := Hid.mk' (HK.out rfl)
    have key : ∀ (w5 : World) (hw : Below w4.heap.size w4 w5), True := fun _ _ => trivial
    clear key HK HR
    by_cases hlt : t1.size < A.size
    · have hlt' : (t1.size : Int) < (A.size : Int) := by omega
      have hvf : vb = false := by
        cases vb with
        | false => rfl
        | true => have := (HK2.out rfl).1; omega
      subst hvf
      have C4 := Hid.mk' (CV.out w4)
      go_wp2_with fail
      refine C4.out.mono ?_; rintro e w5 ⟨rfl, hb5⟩
      have H5 := Hid.mk' (And.intro (H4.out.1.next hb5) (And.intro (H4.out.2.1.next hb5) (And.intro (H4.out.2.2.1.next hb5) (And.intro (H4.out.2.2.2.1.next hb5) (And.intro (H4.out.2.2.2.2.1.next hb5) (bnext H4.out.2.2.2.2.2 hb5))))))
      clear hb5 C4 o0 o1 y0 y1 y2 H4
      obtain ⟨y0, y1, y2⟩ := Bx.reads3 H5.out.2.2.1
      have C5 := Hid.mk' (CV.out w5)
      go_wp2_with fail
      refine C5.out.mono ?_; rintro e w6 ⟨rfl, hb6⟩
      have H6 := Hid.mk' (And.intro (H5.out.1.next hb6) (And.intro (H5.out.2.1.next hb6) (And.intro (H5.out.2.2.1.next hb6) (And.intro (H5.out.2.2.2.1.next hb6) (And.intro (H5.out.2.2.2.2.1.next hb6) (bnext H5.out.2.2.2.2.2 hb6))))))
      clear hb6 C5 y0 y1 y2 H5
      obtain ⟨y0, y1, y2⟩ := Bx.reads3 H6.out.2.2.1
      obtain ⟨v0, V0, hc0, hr0, hbv0⟩ := rconv t0 (by omega) w6
      obtain ⟨v1, V1, hc1, hr1, hbv1⟩ := rconv t1 (by omega) V0
      obtain ⟨v2, V2, hc2, hr2, hbv2⟩ := rconv t2 (by omega) V1
      have d0 := conv_rs hr0
      have d1 := conv_rs hr1
      have d2 := conv_rs hr2
      have HV := Hid.mk' (bnext hbv0 (bnext hbv1 hbv2))
      obtain ⟨z0, z1, z2⟩ := Bx.reads3 (H6.out.2.2.1.next hbv0)
      obtain ⟨u0, u1, u2⟩ := Bx.reads3 (H6.out.2.2.1.next (bnext hbv0 hbv1))
      have H7 := Hid.mk' (And.intro (H6.out.1.next HV.out) (And.intro (H6.out.2.1.next HV.out) (And.intro (H6.out.2.2.1.next HV.out) (And.intro (H6.out.2.2.2.1.next HV.out) (And.intro (H6.out.2.2.2.2.1.next HV.out) (bnext H6.out.2.2.2.2.2 HV.out))))))
      obtain ⟨p0, p1⟩ := And.intro (H7.out.2.1.read (i := 0) rfl) (H7.out.2.1.read (i := 1) rfl)
      obtain ⟨p2, p3⟩ := And.intro (H7.out.2.2.2.2.1.read (i := 0) rfl) (H7.out.2.2.2.2.1.read (i := 1) rfl)
      obtain ⟨q0, q1', q2'⟩ := Bx.reads3 H7.out.2.2.1
      have s0 := runesBytes_size_le (runesG t0)
      have s1 := runesBytes_size_le (runesG t1)
      have s2 := runesBytes_size_le (runesG t2)
      have g0 := runesG_len t0
      have g1 := runesG_len t1
      have g2 := runesG_len t2
      have n0 : (runesBytes (runesG t0)).size ≤ 800 := by omega
      have n1 : (runesBytes (runesG t1)).size ≤ 800 := by omega
      have n2 : (runesBytes (runesG t2)).size ≤ 800 := by omega
      clear hr0 hr1 hr2 hbv0 hbv1 hbv2 s0 s1 s2 g0 g1 g2 HK2 HA
      generalize runesBytes (runesG t0) = X0 at *
      generalize runesBytes (runesG t1) = X1 at *
      generalize runesBytes (runesG t2) = X2 at *
      have C7 := Hid.mk' (CM.out _ H7.out.1)
      go_wp2_with fail
      refine C7.out.mono ?_; rintro e w8 ⟨rfl, hb8⟩
      have H8 := Hid.mk' (And.intro (H7.out.2.2.2.1.next hb8) (And.intro (H7.out.2.2.2.2.1.next hb8) (bnext H7.out.2.2.2.2.2 hb8)))
      have C8 := Hid.mk' (CB.out w8 (X0 ++ X1 ++ X2) (by simp; omega) H8.out.1)
      rw [CW.out] at C8
      clear hb8 C7 hc0 hc1 hc2 d0 d1 d2 y0 y1 y2 z0 z1 z2 u0 u1 u2 p0 p1 p2 p3 q0 q1' q2'
      obtain ⟨p2, p3⟩ := And.intro (H8.out.2.1.read (i := 0) rfl) (H8.out.2.1.read (i := 1) rfl)
      go_wp2_with fail
      refine C8.out.mono ?_; rintro e w9 ⟨rfl, hb9⟩
      have H9 := Hid.mk' (bnext H8.out.2.2 hb9)
      clear hb9 C8 p2 p3
      go_wp2_with fail
      refine (alive38_any _ (HTb.out.next H9.out)).mono ?_; rintro e w10 ⟨rfl, hb10⟩
      have H10 := Hid.mk' (bnext H9.out hb10)
      clear hb10
      go_wp2_with fail
      go_ret
      exact ⟨rfl, H10.out⟩
    · have hlt' : ¬ (t1.size : Int) < (A.size : Int) := by omega
      have C4 := Hid.mk' (CV.out w4)
      cases vb with
      | false =>
        go_wp2_with fail
        refine C4.out.mono ?_; rintro e w6 ⟨rfl, hb6⟩
        have H6 := Hid.mk' (And.intro (H4.out.1.next hb6) (And.intro (H4.out.2.1.next hb6) (And.intro (H4.out.2.2.1.next hb6) (And.intro (H4.out.2.2.2.1.next hb6) (And.intro (H4.out.2.2.2.2.1.next hb6) (bnext H4.out.2.2.2.2.2 hb6))))))
        clear hb6 C4 y0 y1 y2 H4
        obtain ⟨y0, y1, y2⟩ := Bx.reads3 H6.out.2.2.1
        obtain ⟨v0, V0, hc0, hr0, hbv0⟩ := rconv t0 (by omega) w6
        obtain ⟨v1, V1, hc1, hr1, hbv1⟩ := rconv t1 (by omega) V0
        obtain ⟨v2, V2, hc2, hr2, hbv2⟩ := rconv t2 (by omega) V1
        have d0 := conv_rs hr0
        have d1 := conv_rs hr1
        have d2 := conv_rs hr2
        have HV := Hid.mk' (bnext hbv0 (bnext hbv1 hbv2))
        obtain ⟨z0, z1, z2⟩ := Bx.reads3 (H6.out.2.2.1.next hbv0)
        obtain ⟨u0, u1, u2⟩ := Bx.reads3 (H6.out.2.2.1.next (bnext hbv0 hbv1))
        have H7 := Hid.mk' (And.intro (H6.out.1.next HV.out) (And.intro (H6.out.2.1.next HV.out) (And.intro (H6.out.2.2.1.next HV.out) (And.intro (H6.out.2.2.2.1.next HV.out) (And.intro (H6.out.2.2.2.2.1.next HV.out) (bnext H6.out.2.2.2.2.2 HV.out))))))
        obtain ⟨p0, p1⟩ := And.intro (H7.out.2.1.read (i := 0) rfl) (H7.out.2.1.read (i := 1) rfl)
        obtain ⟨p2, p3⟩ := And.intro (H7.out.2.2.2.2.1.read (i := 0) rfl) (H7.out.2.2.2.2.1.read (i := 1) rfl)
        obtain ⟨q0, q1', q2'⟩ := Bx.reads3 H7.out.2.2.1
        have s0 := runesBytes_size_le (runesG t0)
        have s1 := runesBytes_size_le (runesG t1)
        have s2 := runesBytes_size_le (runesG t2)
        have g0 := runesG_len t0
        have g1 := runesG_len t1
        have g2 := runesG_len t2
        have n0 : (runesBytes (runesG t0)).size ≤ 800 := by omega
        have n1 : (runesBytes (runesG t1)).size ≤ 800 := by omega
        have n2 : (runesBytes (runesG t2)).size ≤ 800 := by omega
        clear hr0 hr1 hr2 hbv0 hbv1 hbv2 s0 s1 s2 g0 g1 g2 HK2 HA
        generalize runesBytes (runesG t0) = X0 at *
        generalize runesBytes (runesG t1) = X1 at *
        generalize runesBytes (runesG t2) = X2 at *
        have C7 := Hid.mk' (CM.out _ H7.out.1)
        go_wp2_with fail
        refine C7.out.mono ?_; rintro e w8 ⟨rfl, hb8⟩
        have H8 := Hid.mk' (And.intro (H7.out.2.2.2.1.next hb8) (And.intro (H7.out.2.2.2.2.1.next hb8) (bnext H7.out.2.2.2.2.2 hb8)))
        have C8 := Hid.mk' (CB.out w8 (X0 ++ X1 ++ X2) (by simp; omega) H8.out.1)
        rw [CW.out] at C8
        clear hb8 C7 hc0 hc1 hc2 d0 d1 d2 y0 y1 y2 z0 z1 z2 u0 u1 u2 p0 p1 p2 p3 q0 q1' q2'
        obtain ⟨p2, p3⟩ := And.intro (H8.out.2.1.read (i := 0) rfl) (H8.out.2.1.read (i := 1) rfl)
        go_wp2_with fail
        refine C8.out.mono ?_; rintro e w9 ⟨rfl, hb9⟩
        have H9 := Hid.mk' (bnext H8.out.2.2 hb9)
        clear hb9 C8 p2 p3
        go_wp2_with fail
        refine (alive38_any _ (HTb.out.next H9.out)).mono ?_; rintro e w10 ⟨rfl, hb10⟩
        have H10 := Hid.mk' (bnext H9.out hb10)
        clear hb10
        go_wp2_with fail
        go_ret
        exact ⟨rfl, H10.out⟩
      | true =>
        have hcut := (HK2.out rfl).2
        have hle := (HK2.out rfl).1
        have hle' : (A.size : Int) ≤ (t1.size : Int) := by omega
        have haa : (A.toList != A.toList) = false := by simp
        go_wp2_with fail
        refine C4.out.mono ?_; rintro e w6 ⟨rfl, hb6⟩
        have H6 := Hid.mk' (And.intro (H4.out.1.next hb6) (And.intro (H4.out.2.1.next hb6) (And.intro (H4.out.2.2.1.next hb6) (And.intro (H4.out.2.2.2.1.next hb6) (And.intro (H4.out.2.2.2.2.1.next hb6) (bnext H4.out.2.2.2.2.2 hb6))))))
        clear hb6 C4 o0 o1 y0 y1 y2 H4
        obtain ⟨y0, y1, y2⟩ := Bx.reads3 H6.out.2.2.1
        obtain ⟨v0, V0, hc0, hr0, hbv0⟩ := rconv t0 (by omega) w6
        obtain ⟨v1, V1, hc1, hr1, hbv1⟩ := rconv t1 (by omega) V0
        obtain ⟨v2, V2, hc2, hr2, hbv2⟩ := rconv t2 (by omega) V1
        have d0 := conv_rs hr0
        have d1 := conv_rs hr1
        have d2 := conv_rs hr2
        have HV := Hid.mk' (bnext hbv0 (bnext hbv1 hbv2))
        obtain ⟨z0, z1, z2⟩ := Bx.reads3 (H6.out.2.2.1.next hbv0)
        obtain ⟨u0, u1, u2⟩ := Bx.reads3 (H6.out.2.2.1.next (bnext hbv0 hbv1))
        have H7 := Hid.mk' (And.intro (H6.out.1.next HV.out) (And.intro (H6.out.2.1.next HV.out) (And.intro (H6.out.2.2.1.next HV.out) (And.intro (H6.out.2.2.2.1.next HV.out) (And.intro (H6.out.2.2.2.2.1.next HV.out) (bnext H6.out.2.2.2.2.2 HV.out))))))
        obtain ⟨p0, p1⟩ := And.intro (H7.out.2.1.read (i := 0) rfl) (H7.out.2.1.read (i := 1) rfl)
        obtain ⟨p2, p3⟩ := And.intro (H7.out.2.2.2.2.1.read (i := 0) rfl) (H7.out.2.2.2.2.1.read (i := 1) rfl)
        obtain ⟨q0, q1', q2'⟩ := Bx.reads3 H7.out.2.2.1
        have s0 := runesBytes_size_le (runesG t0)
        have s1 := runesBytes_size_le (runesG t1)
        have s2 := runesBytes_size_le (runesG t2)
        have g0 := runesG_len t0
        have g1 := runesG_len t1
        have g2 := runesG_len t2
        have n0 : (runesBytes (runesG t0)).size ≤ 800 := by omega
        have n1 : (runesBytes (runesG t1)).size ≤ 800 := by omega
        have n2 : (runesBytes (runesG t2)).size ≤ 800 := by omega
        clear hr0 hr1 hr2 hbv0 hbv1 hbv2 s0 s1 s2 g0 g1 g2 HK2 HA
        generalize runesBytes (runesG t0) = X0 at *
        generalize runesBytes (runesG t1) = X1 at *
        generalize runesBytes (runesG t2) = X2 at *
        have C7 := Hid.mk' (CM.out _ H7.out.1)
        go_wp2_with fail
        refine C7.out.mono ?_; rintro e w8 ⟨rfl, hb8⟩
        have H8 := Hid.mk' (And.intro (H7.out.2.2.2.1.next hb8) (And.intro (H7.out.2.2.2.2.1.next hb8) (bnext H7.out.2.2.2.2.2 hb8)))
        have C8 := Hid.mk' (CB.out w8 (X0 ++ X1 ++ X2) (by simp; omega) H8.out.1)
        rw [CW.out] at C8
        clear hb8 C7 hc0 hc1 hc2 d0 d1 d2 y0 y1 y2 z0 z1 z2 u0 u1 u2 p0 p1 p2 p3 q0 q1' q2'
        obtain ⟨p2, p3⟩ := And.intro (H8.out.2.1.read (i := 0) rfl) (H8.out.2.1.read (i := 1) rfl)
        go_wp2_with fail
        refine C8.out.mono ?_; rintro e w9 ⟨rfl, hb9⟩
        have H9 := Hid.mk' (bnext H8.out.2.2 hb9)
        clear hb9 C8 p2 p3
        go_wp2_with fail
        refine (alive38_any _ (HTb.out.next H9.out)).mono ?_; rintro e w10 ⟨rfl, hb10⟩
        have H10 := Hid.mk' (bnext H9.out hb10)
        clear hb10
        go_wp2_with fail
        go_ret
        exact ⟨rfl, H10.out⟩
theorem beginslaw (s t0 t1 t2 : ByteArray) (hs : s.size ≤ maxLen) (h0 : t0.size ≤ maxLen) (h1 : t1.size ≤ maxLen) (h2 : t2.size ≤ maxLen) (w : World) (hT : Tb w) :
    Calls Tryd.prog 5 #[.string s, .agg #[.string t0, .string t1, .string t2]] w fun e w' => e = .returned (.bool true) ∧ Below w.heap.size w w' := by
  by_cases hg : s.size ≤ 90 ∧ t0.size + t1.size ≤ 200 ∧ t2.size ≤ 200
  · cases hp : patS s with
    | none => exact begins_bad s t0 t1 t2 hg.1 hg.2.1 hg.2.2 hp w hT
    | some ps => exact begins_good s t0 t1 t2 hg.1 hg.2.1 hg.2.2 ps hp w hT
  · exact begins_great s t0 t1 t2 hs h0 h1 h2 hg w
end Go.Proofs.YtfnjmboflegaaaaDoor
