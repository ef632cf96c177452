/- Layer 38 (glob): the statement on which texts are patterns and what they tell, at every input. -/
import Derived.Test.YtfnjmboflegaaaaDoorHd
namespace Go.Proofs.YtfnjmboflegaaaaDoor
open Go.RowKit

theorem isSome_map {ps : List Prt} : (some ps).isSome = true := rfl
set_option maxRecDepth 100000 in
set_option maxHeartbeats 2000000 in
theorem matches_bad (s t : ByteArray) (hs : s.size ≤ maxLen) (ht : t.size ≤ 300) (hp : patS s = none) (w : World) (hT : Tb w) :
    Calls Tryd.prog 3 #[.string s, .string t] w fun e w' => e = .returned (.bool true) ∧ Below w.heap.size w w' := by
  have C := Hid.mk' (new_any s hs w hT)
  have CR := Hid.mk' (fun W (hW : Tb W) => rright_any s hs W hW)
  rw [hp] at CR
  have HTb := Hid.mk' hT
  have HN := Hid.mk' hp
  have ht' : ¬ (300 : Int) < (t.size : Int) := by omega
  clear hT hp
  go_enter Tryd.func3, Tryd.ntmps3
  go_wp2_with fail
  refine C.out.mono ?_; rintro e w1 ⟨hb1, hres⟩
  have he : e = .returned (.tuple #[.agg #[.string ⟨#[]⟩, .slice none 0 0], .int .i64 10]) := by
    rcases hres with ⟨_, h⟩ | ⟨pv, q, hq, _⟩
    · exact h
    · rw [HN.out] at hq; cases hq
  subst he
  have e1 : Below w1.heap.size w1 (w1.alloc (.cells #[.string ⟨#[]⟩, .slice none 0 0] 24)) := (Below.refl _ _).alloc (Nat.le_refl _) _
  have b1 : Bx (w1.alloc (.cells #[.string ⟨#[]⟩, .slice none 0 0] 24)) w1.heap.size 24 #[.string ⟨#[]⟩, .slice none 0 0] := Bx.fresh w1 _ _
  have H1 := Hid.mk' (And.intro b1 (bnext hb1 e1))
  have C1 := Hid.mk' (CR.out _ (HTb.out.next H1.out.2))
  clear b1 e1 hb1 C
  go_wp2_with fail
  refine C1.out.mono ?_; rintro e w2 ⟨rfl, hb2⟩
  have H2 := Hid.mk' (And.intro (H1.out.1.next hb2) (bnext H1.out.2 hb2))
  obtain ⟨o0, o1⟩ := And.intro (H2.out.1.read (i := 0) rfl) (H2.out.1.read (i := 1) rfl)
  clear hb2 C1
  go_wp2_with fail
  refine (ptext_any _ _ _).mono ?_; rintro e w3 ⟨rfl, hb3⟩
  have H3 := Hid.mk' (bnext H2.out.2 hb3)
  clear hb3 o0 o1
  go_wp2_with fail
  refine (alive38_any _ (HTb.out.next H3.out)).mono ?_; rintro e w4 ⟨rfl, hb4⟩
  have H4 := Hid.mk' (bnext H3.out hb4)
  clear hb4
  go_wp2_with fail
  go_ret
  exact ⟨rfl, H4.out⟩
set_option maxRecDepth 100000 in
set_option maxHeartbeats 2000000 in
theorem matches_good (s t : ByteArray) (hs : s.size ≤ maxLen) (ht : t.size ≤ 300) (ps : List Prt) (hp : patS s = some ps) (w : World) (hT : Tb w) :
    Calls Tryd.prog 3 #[.string s, .string t] w fun e w' => e = .returned (.bool true) ∧ Below w.heap.size w w' := by
  have C := Hid.mk' (new_any s hs w hT)
  have CR := Hid.mk' (fun W (hW : Tb W) => rright_any s hs W hW)
  rw [hp] at CR
  have CD := Hid.mk' (fun W (hW : Tb W) => rmatch_any s hs ps hp t (by omega) W hW)
  have HTb := Hid.mk' hT
  have HN := Hid.mk' hp
  have ht' : ¬ (300 : Int) < (t.size : Int) := by omega
  have HTS := Hid.mk' ht
  clear hT hp
  go_enter Tryd.func3, Tryd.ntmps3
  go_wp2_with fail
  refine C.out.mono ?_; rintro e w1 ⟨hb1, hres⟩
  rcases hres with ⟨hn, _⟩ | ⟨pv, q, hq, hpt, rfl⟩
  · rw [HN.out] at hn; cases hn
  rw [HN.out] at hq
  injection hq with hq
  have hwf := psE_wf HN.out
  have hpsq : ps = psq q := hq
  subst hpsq
  obtain ⟨pa, pc, rfl⟩ := own_form hpt.1
  have e1 : Below w1.heap.size w1 (w1.alloc (.cells #[.string s, .slice pa q.length pc] 24)) := (Below.refl _ _).alloc (Nat.le_refl _) _
  have b1 : Bx (w1.alloc (.cells #[.string s, .slice pa q.length pc] 24)) w1.heap.size 24 #[.string s, .slice pa q.length pc] := Bx.fresh w1 _ _
  have hq100 : q.length ≤ 100 := by have := hwf.2.2; rw [psq_len] at this; exact this
  have CM := Hid.mk' (fun (W : World) (hW : PtO W (.slice pa q.length pc) q) => match_big s _ q hq100 (psq_sp hwf.2.1) hwf.1 t (by have := HTS.out; omega) W hW)
  obtain ⟨b, hb⟩ : ∃ b, b = matS (psq q) (runesG t) := ⟨_, rfl⟩
  rw [← hb] at CD CM
  have H1 := Hid.mk' (And.intro (hpt.next e1) (And.intro b1 (bnext hb1 e1)))
  have C1 := Hid.mk' (CR.out _ (HTb.out.next H1.out.2.2))
  have hss : (s.toList == s.toList) = true := by simp
  have hbb : (b == b) = true := by simp
  clear b1 e1 hb1 C hpt hq hwf hb hq100
  go_wp2_with fail
  refine C1.out.mono ?_; rintro e w2 ⟨rfl, hb2⟩
  have H2 := Hid.mk' (And.intro (H1.out.1.next hb2) (And.intro (H1.out.2.1.next hb2) (bnext H1.out.2.2 hb2)))
  obtain ⟨o0, o1⟩ := And.intro (H2.out.2.1.read (i := 0) rfl) (H2.out.2.1.read (i := 1) rfl)
  clear hb2 C1
  go_wp2_with fail
  refine (ptext_any _ _ _).mono ?_; rintro e w3 ⟨rfl, hb3⟩
  have H3 := Hid.mk' (And.intro (H2.out.1.next hb3) (And.intro (H2.out.2.1.next hb3) (bnext H2.out.2.2 hb3)))
  clear hb3 o0 o1
  obtain ⟨o0, o1⟩ := And.intro (H3.out.2.1.read (i := 0) rfl) (H3.out.2.1.read (i := 1) rfl)
  have C3 := Hid.mk' (CM.out _ H3.out.1)
  go_wp2_with fail
  refine C3.out.mono ?_; rintro e w4 ⟨rfl, hb4⟩
  have H4 := Hid.mk' (bnext H3.out.2.2 hb4)
  have C4 := Hid.mk' (CD.out _ (HTb.out.next H4.out))
  clear hb4 o0 o1 C3
  go_wp2_with fail
  refine C4.out.mono ?_; rintro e w5 ⟨rfl, hb5⟩
  have H5 := Hid.mk' (bnext H4.out hb5)
  clear hb5 C4
  go_wp2_with fail
  refine (alive38_any _ (HTb.out.next H5.out)).mono ?_; rintro e w6 ⟨rfl, hb6⟩
  have H6 := Hid.mk' (bnext H5.out hb6)
  clear hb6
  go_wp2_with fail
  go_ret
  exact ⟨rfl, H6.out⟩
theorem matcheslaw (s t : ByteArray) (hs : s.size ≤ maxLen) (ht : t.size ≤ maxLen) (w : World) (hT : Tb w) :
    Calls Tryd.prog 3 #[.string s, .string t] w fun e w' => e = .returned (.bool true) ∧ Below w.heap.size w w' := by
  by_cases h : 300 < t.size
  · unfold maxLen at ht
    have h' : (300 : Int) < (t.size : Int) := by omega
    go_enter Tryd.func3, Tryd.ntmps3
    go_wp2_with fail
    go_ret
    exact ⟨rfl, Below.refl _ _⟩
  · cases hp : patS s with
    | none => exact matches_bad s t hs (by omega) hp w hT
    | some ps => exact matches_good s t hs (by omega) ps hp w hT
end Go.Proofs.YtfnjmboflegaaaaDoor
