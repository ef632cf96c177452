/- Layer 38 (glob): the statement on patterns that tell one text alone, at every input. -/
import Derived.Test.YtfnjmboflegaaaaDoorHd
namespace Go.Proofs.YtfnjmboflegaaaaDoor
open Go.RowKit

set_option maxRecDepth 100000 in
set_option maxHeartbeats 2000000 in
theorem plain_bad (s : ByteArray) (hs : s.size ≤ maxLen) (hp : patS s = none) (w : World) (hT : Tb w) :
    Calls Tryd.prog 4 #[.string s] w fun e w' => e = .returned (.bool true) ∧ Below w.heap.size w w' := by
  have C := Hid.mk' (new_any s hs w hT)
  have CR := Hid.mk' (fun W (hW : Tb W) => rright_any s hs W hW)
  rw [hp] at CR
  have HTb := Hid.mk' hT
  have HN := Hid.mk' hp
  clear hT hp
  go_enter Tryd.func4, Tryd.ntmps4
  go_wp2_with fail
  refine C.out.mono ?_; rintro e w1 ⟨hb1, hres⟩
  have he : e = .returned (.tuple #[.agg #[.string ⟨#[]⟩, .slice none 0 0], .int .i64 10]) := by
    rcases hres with ⟨_, h⟩ | ⟨pv, q, hq, _⟩
    · exact h
    · rw [HN.out] at hq; cases hq
  subst he
  have e1 : Below w1.heap.size w1 (w1.alloc (.cells #[.string ⟨#[]⟩, .slice none 0 0] 24)) := (Below.refl _ _).alloc (Nat.le_refl _) _
  have H1 := Hid.mk' (bnext hb1 e1)
  have C1 := Hid.mk' (CR.out _ (HTb.out.next H1.out))
  clear e1 hb1 C
  go_wp2_with fail
  refine C1.out.mono ?_; rintro e w2 ⟨rfl, hb2⟩
  have H2 := Hid.mk' (bnext H1.out hb2)
  clear hb2 C1
  go_wp2_with fail
  refine (alive38_any _ (HTb.out.next H2.out)).mono ?_; rintro e w4 ⟨rfl, hb4⟩
  have H4 := Hid.mk' (bnext H2.out hb4)
  clear hb4
  go_wp2_with fail
  go_ret
  exact ⟨rfl, H4.out⟩
set_option maxRecDepth 100000 in
set_option maxHeartbeats 4000000 in
theorem plain_good (s : ByteArray) (hs : s.size ≤ maxLen) (ps : List Prt) (hp : patS s = some ps) (w : World) (hT : Tb w) :
    Calls Tryd.prog 4 #[.string s] w fun e w' => e = .returned (.bool true) ∧ Below w.heap.size w w' := by
  have C := Hid.mk' (new_any s hs w hT)
  have CR := Hid.mk' (fun W (hW : Tb W) => rright_any s hs W hW)
  rw [hp] at CR
  have CD := Hid.mk' (fun W (hW : Tb W) => rahead_any s hs ps hp W hW)
  have HTb := Hid.mk' hT
  have HN := Hid.mk' hp
  clear hT hp
  go_enter Tryd.func4, Tryd.ntmps4
  go_wp2_with fail
  refine C.out.mono ?_; rintro e w1 ⟨hb1, hres⟩
  rcases hres with ⟨hn, _⟩ | ⟨pv, q, hq, hpt, rfl⟩
  · rw [HN.out] at hn; cases hn
  rw [HN.out] at hq
  injection hq with hq
  have hwf := psE_wf HN.out
  have hrun := ahead_runes HN.out
  have hpsq : ps = psq q := hq
  subst hpsq
  obtain ⟨pa, pc, rfl⟩ := own_form hpt.1
  have e1 : Below w1.heap.size w1 (w1.alloc (.cells #[.string s, .slice pa q.length pc] 24)) := (Below.refl _ _).alloc (Nat.le_refl _) _
  have b1 : Bx (w1.alloc (.cells #[.string s, .slice pa q.length pc] 24)) w1.heap.size 24 #[.string s, .slice pa q.length pc] := Bx.fresh w1 _ _
  have hq100 : q.length ≤ 100 := by have := hwf.2.2; rw [psq_len] at this; exact this
  have hsz := runesBytes_size_le (aheadS (psq q))
  have hal := ahead_le (psq q)
  have hsz2 : (runesBytes (aheadS (psq q))).size ≤ 100000 := by rw [psq_len] at hal; omega
  have CM := Hid.mk' (fun (W : World) (hW : PtO W (.slice pa q.length pc) q) (hpl : plainS (psq q) = true) => (show Calls Tryd.prog 10 #[.agg #[.string s, .slice pa q.length pc], .string (runesBytes (aheadS (psq q)))] W fun e w' => e = .returned (.bool true) ∧ Below W.heap.size W w' by
    have h := match_big s (.slice pa q.length pc) q hq100 (psq_sp hwf.2.1) hwf.1 (runesBytes (aheadS (psq q))) hsz2 W hW
    rw [hrun, plain_mat _ hwf.1 hpl] at h
    exact h))
  have CP := Hid.mk' (fun (W : World) (hW : PtO W (.slice pa q.length pc) q) => plain_any s _ q hq100 (psq_sp hwf.2.1) W hW)
  have CA := Hid.mk' (fun (W : World) (hW : PtO W (.slice pa q.length pc) q) => ahead_any s _ q hq100 (psq_sp hwf.2.1) W hW)
  have H1 := Hid.mk' (And.intro (hpt.next e1) (And.intro b1 (bnext hb1 e1)))
  have C1 := Hid.mk' (CR.out _ (HTb.out.next H1.out.2.2))
  clear b1 e1 hb1 C hpt hq hwf hq100 hrun hsz hal hsz2
  go_wp2_with fail
  refine C1.out.mono ?_; rintro e w2 ⟨rfl, hb2⟩
  have H2 := Hid.mk' (And.intro (H1.out.1.next hb2) (And.intro (H1.out.2.1.next hb2) (bnext H1.out.2.2 hb2)))
  have C2 := Hid.mk' (CD.out _ (HTb.out.next H2.out.2.2))
  clear hb2 C1 CR CD
  unfold RAheadPost at C2
  unfold PlainPost at CP
  obtain ⟨A, hA⟩ : ∃ A, A = runesBytes (aheadS (psq q)) := ⟨_, rfl⟩
  rw [← hA] at C2 CP CA CM
  clear hA
  go_wp2_with fail
  refine C2.out.mono ?_; rintro e w3 ⟨rfl, hb3⟩
  have H3 := Hid.mk' (And.intro (H2.out.1.next hb3) (And.intro (H2.out.2.1.next hb3) (bnext H2.out.2.2 hb3)))
  clear hb3 C2
  have C3 := Hid.mk' (CP.out _ H3.out.1)
  obtain ⟨o0, o1⟩ := And.intro (H3.out.2.1.read (i := 0) rfl) (H3.out.2.1.read (i := 1) rfl)
  have haa : (A.toList == A.toList) = true := by simp
  have haa2 : (A.toList != A.toList) = false := by simp
  have hb0 : (false != false) = false := rfl
  have hb1 : (true != true) = false := rfl
  cases hpl : plainS (psq q) with
  | false =>
    rw [hpl] at C3
    clear hpl
    go_wp2_with fail
    refine C3.out.mono ?_; rintro e w4 ⟨rfl, hb4⟩
    have H4 := Hid.mk' (And.intro (H3.out.1.next hb4) (And.intro (H3.out.2.1.next hb4) (bnext H3.out.2.2 hb4)))
    clear hb4 C3 o0 o1
    have C4 := Hid.mk' (CA.out _ H4.out.1)
    obtain ⟨o0, o1⟩ := And.intro (H4.out.2.1.read (i := 0) rfl) (H4.out.2.1.read (i := 1) rfl)
    go_wp2_with fail
    refine C4.out.mono ?_; rintro e w5 ⟨rfl, hb5⟩
    have H5 := Hid.mk' (bnext H4.out.2.2 hb5)
    clear hb5 C4 o0 o1
    go_wp2_with fail
    refine (alive38_any _ (HTb.out.next H5.out)).mono ?_; rintro e w6 ⟨rfl, hb6⟩
    have H6 := Hid.mk' (bnext H5.out hb6)
    clear hb6
    go_wp2_with fail
    go_ret
    exact ⟨rfl, H6.out⟩
  | true =>
    rw [hpl] at C3
    have HPL := Hid.mk' hpl
    clear hpl
    go_wp2_with fail
    refine C3.out.mono ?_; rintro e w4 ⟨rfl, hb4⟩
    have H4 := Hid.mk' (And.intro (H3.out.1.next hb4) (And.intro (H3.out.2.1.next hb4) (bnext H3.out.2.2 hb4)))
    clear hb4 C3 o0 o1
    have C4 := Hid.mk' (CM.out _ H4.out.1 HPL.out)
    obtain ⟨o0, o1⟩ := And.intro (H4.out.2.1.read (i := 0) rfl) (H4.out.2.1.read (i := 1) rfl)
    go_wp2_with fail
    refine C4.out.mono ?_; rintro e w5 ⟨rfl, hb5⟩
    have H5 := Hid.mk' (And.intro (H4.out.1.next hb5) (And.intro (H4.out.2.1.next hb5) (bnext H4.out.2.2 hb5)))
    clear hb5 C4 o0 o1
    have C5 := Hid.mk' (CA.out _ H5.out.1)
    obtain ⟨o0, o1⟩ := And.intro (H5.out.2.1.read (i := 0) rfl) (H5.out.2.1.read (i := 1) rfl)
    go_wp2_with fail
    refine C5.out.mono ?_; rintro e w6 ⟨rfl, hb6⟩
    have H6 := Hid.mk' (bnext H5.out.2.2 hb6)
    clear hb6 C5 o0 o1
    go_wp2_with fail
    refine (alive38_any _ (HTb.out.next H6.out)).mono ?_; rintro e w7 ⟨rfl, hb7⟩
    have H7 := Hid.mk' (bnext H6.out hb7)
    clear hb7
    go_wp2_with fail
    go_ret
    exact ⟨rfl, H7.out⟩
theorem plainlaw (s : ByteArray) (hs : s.size ≤ maxLen) (w : World) (hT : Tb w) :
    Calls Tryd.prog 4 #[.string s] w fun e w' => e = .returned (.bool true) ∧ Below w.heap.size w w' := by
  cases hp : patS s with
  | none => exact plain_bad s hs hp w hT
  | some ps => exact plain_good s hs ps hp w hT
end Go.Proofs.YtfnjmboflegaaaaDoor
