/- Layer 1 (runes): keys, by the code; the chapter's examples. -/
import Derived.Test.YtnhonjhpggnglaaDoorKy
namespace Go.Proofs.YtnhonjhpggnglaaDoor
open Go.RowKit

/-- May the rune at a place stand in a key? -/
def keyAt (s : ByteArray) (pos : Nat) : Bool := !bad s pos && (letterB (Utf8.decode s pos).1 || (decide (pos ≠ 0) && behindB (Utf8.decode s pos).1))
/-- All runes from a place on. -/
def keyFrom (s : ByteArray) : Nat → Nat → Bool
  | 0, _ => true
  | f + 1, pos => if pos < s.size then keyAt s pos && keyFrom s f (pos + (Utf8.decode s pos).2) else true
def keyB (s : ByteArray) : Bool := decide (1 ≤ s.size ∧ s.size ≤ 24) && keyFrom s s.size 0

set_option maxHeartbeats 2000000 in
theorem key_any (s : ByteArray) (hs : s.size ≤ maxLen) (w : World) : Calls Tryd.prog 6 #[.string s] w fun e w' => e = .returned (.bool (keyB s)) ∧ Below w.heap.size w w' := by
  have HS := Hid.mk' hs
  unfold maxLen at hs
  have hemp : s.toList.isEmpty = decide (s.size = 0) := by
    rw [ByteArray.toList_eq, Bool.eq_iff_iff, List.isEmpty_iff, decide_eq_true_eq, ← len_data]
    exact ⟨fun h => by rw [h]; rfl, List.eq_nil_of_length_eq_zero⟩
  by_cases h0 : s.size = 0
  · have e1 : s.toList.isEmpty = true := by rw [hemp]; simp [h0]
    have HK := Hid.mk' (show keyB s = false by unfold keyB; simp [h0])
    clear hemp h0
    go_enter Tryd.func6, Tryd.ntmps6
    go_wp2_with fail
    go_ret
    exact ⟨ret_bool HK.out.symm, Below.refl _ _⟩
  · have e1 : s.toList.isEmpty = false := by rw [hemp]; simp [h0]
    clear hemp
    by_cases h24 : 24 < s.size
    · have HK := Hid.mk' (show keyB s = false by
        unfold keyB
        rw [show decide (1 ≤ s.size ∧ s.size ≤ 24) = false from by rw [decide_eq_false_iff_not]; omega]; rfl)
      go_enter Tryd.func6, Tryd.ntmps6
      go_wp2_with fail
      go_ret
      exact ⟨ret_bool HK.out.symm, Below.refl _ _⟩
    · have HK := Hid.mk' (show keyB s = keyFrom s s.size 0 by unfold keyB; simp; intro _; omega)
      go_enter Tryd.func6, Tryd.ntmps6
      go_wp2_with fail
      go_loopw [] (fun wr => ∃ pos f : Nat, wr = w.iter s pos ∧ s.size ≤ pos + f ∧ Hid (keyFrom s f pos = keyFrom s s.size 0)) (fun wr => s.size - wr.iterPos w.heap.size)
      case atStart => exact ⟨0, s.size, rfl, by omega, rfl⟩
      case round =>
        obtain ⟨pos, f, rfl, hf, hk⟩ := hrel
        by_cases hp : pos < s.size
        · obtain ⟨R, hR⟩ : ∃ R, (Utf8.decode s pos).1 = R := ⟨_, rfl⟩
          obtain ⟨wd, hwd⟩ : ∃ wd, (Utf8.decode s pos).2 = wd := ⟨_, rfl⟩
          have hw1 : 1 ≤ wd := by rw [← hwd]; exact Lib.decode_width_pos s pos hp
          have hnx : ∀ ty, (Instr.next (.pointer (some ⟨w.heap.size, 0, none⟩)) true ty).run Tryd.prog (w.iter s pos) = .ok (.tuple #[.bool true, .int .i64 pos, .int .i32 R]) (w.iter s (pos + wd)) := fun ty => by
            have := run_next_any (P := Tryd.prog) w s pos ty hp
            rw [hR, hwd] at this; exact this
          obtain ⟨g, rfl⟩ : ∃ g, f = g + 1 := ⟨f - 1, by omega⟩
          have hk2 := hk.out
          rw [keyFrom, if_pos hp, hwd] at hk2
          have hat : keyAt s pos = (!bad s pos && (letterB R || (decide (pos ≠ 0) && behindB R))) := by unfold keyAt; rw [hR]
          have CB := Hid.mk' (broken_any s HS.out pos R hp hR)
          have CL := Hid.mk' (letter_any R)
          have CH := Hid.mk' (behind_any R)
          clear hR hwd hk
          generalize hb1 : bad s pos = b1 at *
          generalize hb2 : letterB R = b2 at *
          generalize hb3 : behindB R = b3 at *
          clear hb1 hb2 hb3
          have hz : ((pos : Int) == 0) = decide (pos = 0) := by rw [Bool.eq_iff_iff]; simp
          cases b1 with
          | true =>
            rw [hat] at hk2
            have HR := Hid.mk' (HK.out.trans hk2.symm)
            clear hat hk2 hz
            go_wp2_with (go_at_call 18; refine (CB.out _).mono ?_; rintro e w' ⟨rfl, rfl⟩)
            go_ret
            exact ⟨ret_bool (by rw [HR.out]; rfl), (Below.refl _ _).alloc (Nat.le_refl _) _⟩
          | false =>
            cases b2 with
            | true =>
              rw [hat] at hk2
              have HR := Hid.mk' (show keyFrom s g (pos + wd) = keyFrom s s.size 0 by simpa using hk2)
              clear hat hk2 hz
              go_wp2_with fail
              refine (CB.out _).mono ?_; rintro e w' ⟨rfl, rfl⟩
              go_wp2_with fail
              refine (CL.out _).mono ?_; rintro e w' ⟨rfl, rfl⟩
              go_wp2_with fail
              go_roundw
              case rel => exact ⟨pos + wd, g, rfl, by omega, HR⟩
              case measure => simp; omega
            | false =>
              by_cases h0 : pos = 0
              · have hz2 : ((pos : Int) == 0) = true := by rw [hz]; simp [h0]
                rw [hat] at hk2
                have HR := Hid.mk' (HK.out.trans hk2.symm)
                have HP := Hid.mk' h0
                clear hat hk2 hz h0
                go_wp2_with fail
                refine (CB.out _).mono ?_; rintro e w' ⟨rfl, rfl⟩
                go_wp2_with fail
                refine (CL.out _).mono ?_; rintro e w' ⟨rfl, rfl⟩
                go_wp2_with fail
                go_ret
                exact ⟨ret_bool (by rw [HR.out, HP.out]; rfl), (Below.refl _ _).alloc (Nat.le_refl _) _⟩
              · have hz2 : ((pos : Int) == 0) = false := by rw [hz]; simp [h0]
                rw [hat] at hk2
                cases b3 with
                | true =>
                  have HR := Hid.mk' (show keyFrom s g (pos + wd) = keyFrom s s.size 0 by simpa [h0] using hk2)
                  clear hat hk2 hz h0
                  go_wp2_with fail
                  refine (CB.out _).mono ?_; rintro e w' ⟨rfl, rfl⟩
                  go_wp2_with fail
                  refine (CL.out _).mono ?_; rintro e w' ⟨rfl, rfl⟩
                  go_wp2_with fail
                  refine (CH.out _).mono ?_; rintro e w' ⟨rfl, rfl⟩
                  go_wp2_with fail
                  go_roundw
                  case rel => exact ⟨pos + wd, g, rfl, by omega, HR⟩
                  case measure => simp; omega
                | false =>
                  have HR := Hid.mk' (HK.out.trans (show keyFrom s s.size 0 = false by simpa [h0] using hk2.symm))
                  clear hat hk2 hz h0
                  go_wp2_with fail
                  refine (CB.out _).mono ?_; rintro e w' ⟨rfl, rfl⟩
                  go_wp2_with fail
                  refine (CL.out _).mono ?_; rintro e w' ⟨rfl, rfl⟩
                  go_wp2_with fail
                  refine (CH.out _).mono ?_; rintro e w' ⟨rfl, rfl⟩
                  go_wp2_with fail
                  go_ret
                  exact ⟨ret_bool HR.out.symm, (Below.refl _ _).alloc (Nat.le_refl _) _⟩
        · have hnx : ∀ ty, (Instr.next (.pointer (some ⟨w.heap.size, 0, none⟩)) true ty).run Tryd.prog (w.iter s pos) = _ := fun ty => run_next_end w s pos ty hp
          have hk2 : keyFrom s f pos = true := by cases f <;> simp [keyFrom, hp]
          have HR := Hid.mk' (HK.out.trans (hk.out.symm.trans hk2))
          clear hk2
          go_wp2_with fail
          go_ret
          exact ⟨ret_bool HR.out.symm, (Below.refl _ _).alloc (Nat.le_refl _) _⟩
end Go.Proofs.YtnhonjhpggnglaaDoor
