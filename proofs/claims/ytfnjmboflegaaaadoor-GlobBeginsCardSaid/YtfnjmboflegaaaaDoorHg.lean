/- Layer 38 (glob): the statement that what a pattern tells begins with what Ahead says, and that rows around it tell more, at every input. -/
import Derived.Test.YtfnjmboflegaaaaDoorHd
namespace Go.Proofs.YtfnjmboflegaaaaDoor
open Go.RowKit

/-- What New answers of a text and of that text between two stars. -/
theorem around_wf {s : ByteArray} {ps : List Prt} (hs : s.size ≤ 90) (h : patS s = some ps) : patS (starsB s) = some (around ps) := by rw [patS_stars s hs, h]; rfl
theorem stars_add (s : ByteArray) : (⟨#[42]⟩ : ByteArray) ++ s ++ ⟨#[42]⟩ = starsB s := rfl
set_option maxRecDepth 100000 in
set_option maxHeartbeats 4000000 in
theorem begins_great (s t0 t1 t2 : ByteArray) (hs : s.size ≤ maxLen) (h0 : t0.size ≤ maxLen) (h1 : t1.size ≤ maxLen) (h2 : t2.size ≤ maxLen) (hg : ¬ (s.size ≤ 90 ∧ t0.size + t1.size ≤ 200 ∧ t2.size ≤ 200)) (w : World) :
    Calls Tryd.prog 5 #[.string s, .agg #[.string t0, .string t1, .string t2]] w fun e w' => e = .returned (.bool true) ∧ Below w.heap.size w w' := by
  unfold maxLen at hs h0 h1 h2
  have e1 : Below w.heap.size w (w.alloc (.cells #[.string t0, .string t1, .string t2] 35)) := (Below.refl _ _).alloc (Nat.le_refl _) _
  have HE := Hid.mk' e1
  clear e1
  by_cases a : 90 < s.size
  · have a' : (90 : Int) < (s.size : Int) := by omega
    go_enter Tryd.func5, Tryd.ntmps5
    go_wp2_with fail
    go_ret
    exact ⟨rfl, HE.out⟩
  · have a' : ¬ (90 : Int) < (s.size : Int) := by omega
    by_cases big : t0.size + t1.size ≤ 9223372036854775807
    · have hsm : IntKind.i64.wrap ((t0.size : Int) + (t1.size : Int)) = (t0.size : Int) + (t1.size : Int) := IntWalk.i64_in _ (by omega)
      by_cases b : 200 < t0.size + t1.size
      · have b' : (200 : Int) < (t0.size : Int) + (t1.size : Int) := by omega
        go_enter Tryd.func5, Tryd.ntmps5
        go_wp2_with fail
        go_ret
        exact ⟨rfl, HE.out⟩
      · have b' : ¬ (200 : Int) < (t0.size : Int) + (t1.size : Int) := by omega
        have c' : ¬ (200 : Int) < (t1.size : Int) := by omega
        have d' : (200 : Int) < (t2.size : Int) := by omega
        go_enter Tryd.func5, Tryd.ntmps5
        go_wp2_with fail
        go_ret
        exact ⟨rfl, HE.out⟩
    · have hsm : wrap64 ((t0.size : Int) + (t1.size : Int)) = (t0.size : Int) + (t1.size : Int) - 18446744073709551616 := by unfold wrap64; omega
      have b' : ¬ (200 : Int) < (t0.size : Int) + (t1.size : Int) - 18446744073709551616 := by omega
      have b2' : decide ((200 : Int) < wrap64 ((t0.size : Int) + (t1.size : Int))) = false := by rw [hsm]; exact decide_eq_false b'
      clear hsm
      have e' : (200 : Int) < (t0.size : Int) ∨ (200 : Int) < (t1.size : Int) := by omega
      by_cases c : 200 < t1.size
      · have c' : (200 : Int) < (t1.size : Int) := by omega
        clear e'
        go_enter Tryd.func5, Tryd.ntmps5
        go_wp2_with fail
        go_ret
        exact ⟨rfl, HE.out⟩
      · have c' : ¬ (200 : Int) < (t1.size : Int) := by omega
        have f' : (200 : Int) < (t0.size : Int) := by omega
        clear e'
        by_cases d : 200 < t2.size
        · have d' : (200 : Int) < (t2.size : Int) := by omega
          go_enter Tryd.func5, Tryd.ntmps5
          go_wp2_with fail
          go_ret
          exact ⟨rfl, HE.out⟩
        · have d' : ¬ (200 : Int) < (t2.size : Int) := by omega
          go_enter Tryd.func5, Tryd.ntmps5
          go_wp2_with fail
          go_ret
          exact ⟨rfl, HE.out⟩
set_option maxRecDepth 100000 in
set_option maxHeartbeats 4000000 in
theorem begins_bad (s t0 t1 t2 : ByteArray) (hs : s.size ≤ 90) (h01 : t0.size + t1.size ≤ 200) (h2 : t2.size ≤ 200) (hp : patS s = none) (w : World) (hT : Tb w) :
    Calls Tryd.prog 5 #[.string s, .agg #[.string t0, .string t1, .string t2]] w fun e w' => e = .returned (.bool true) ∧ Below w.heap.size w w' := by
  have e0 : Below w.heap.size w (w.alloc (.cells #[.string t0, .string t1, .string t2] 35)) := (Below.refl _ _).alloc (Nat.le_refl _) _
  have a' : ¬ (90 : Int) < (s.size : Int) := by omega
  have b' : ¬ (200 : Int) < (t0.size : Int) + (t1.size : Int) := by omega
  have c' : ¬ (200 : Int) < (t1.size : Int) := by omega
  have c2' : ¬ (200 : Int) < (t0.size : Int) := by omega
  have d' : ¬ (200 : Int) < (t2.size : Int) := by omega
  have hsm : IntKind.i64.wrap ((t0.size : Int) + (t1.size : Int)) = (t0.size : Int) + (t1.size : Int) := IntWalk.i64_in _ (by omega)
  have hadd := stars_add s
  have C := Hid.mk' (new_any s (by unfold maxLen; omega) _ (hT.next e0))
  have CQ := Hid.mk' (fun W (hW : Tb W) => new_any (starsB s) (by rw [starsB_size]; unfold maxLen; omega) W hW)
  have HTb := Hid.mk' hT
  have HE := Hid.mk' e0
  have HN := Hid.mk' hp
  have HQ := Hid.mk' (show patS (starsB s) = none by rw [patS_stars s hs, hp]; rfl)
  clear hT hp e0
  go_enter Tryd.func5, Tryd.ntmps5
  go_wp2_with fail
  refine C.out.mono ?_; rintro e w1 ⟨hb1, hres⟩
  have he : e = .returned (.tuple #[.agg #[.string ⟨#[]⟩, .slice none 0 0], .int .i64 10]) := by
    rcases hres with ⟨_, h⟩ | ⟨pv, q, hq, _⟩
    · exact h
    · rw [HN.out] at hq; cases hq
  subst he
  have e1 : Below w1.heap.size w1 (w1.alloc (.cells #[.string ⟨#[]⟩, .slice none 0 0] 24)) := (Below.refl _ _).alloc (Nat.le_refl _) _
  have H1 := Hid.mk' (bnext HE.out (bnext hb1 e1))
  have C1 := Hid.mk' (CQ.out _ (HTb.out.next H1.out))
  clear e1 hb1 C hres
  go_wp2_with fail
  refine C1.out.mono ?_; rintro e w2 ⟨hb2, hres⟩
  have he : e = .returned (.tuple #[.agg #[.string ⟨#[]⟩, .slice none 0 0], .int .i64 10]) := by
    rcases hres with ⟨_, h⟩ | ⟨pv, q, hq, _⟩
    · exact h
    · rw [HQ.out] at hq; cases hq
  subst he
  have e1 : Below w2.heap.size w2 (w2.alloc (.cells #[.string ⟨#[]⟩, .slice none 0 0] 24)) := (Below.refl _ _).alloc (Nat.le_refl _) _
  have H2 := Hid.mk' (bnext H1.out (bnext hb2 e1))
  clear e1 hb2 C1 hres
  go_wp2_with fail
  refine (alive38_any _ (HTb.out.next H2.out)).mono ?_; rintro e w4 ⟨rfl, hb4⟩
  have H4 := Hid.mk' (bnext H2.out hb4)
  clear hb4
  go_wp2_with fail
  go_ret
  exact ⟨rfl, H4.out⟩
end Go.Proofs.YtfnjmboflegaaaaDoor
