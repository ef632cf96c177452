/- Layer 2 (nums): the statement on texts of numbers. -/
import Derived.Test.YtnhonjhpggnglaaNd
namespace Go.Proofs.Ytnhonjhpggnglaa
open Go.RowKit

theorem read_ok (s : ByteArray) (v : Int) (h : okNum s.data.toList = true) (hv : (num s.data.toList : Int) = v) (w : World) :
    Calls Try.prog 16 #[.string s] w fun e w' => e = .returned (.tuple #[.int .i64 v, .int .i64 0]) ∧ Below w.heap.size w w' := by
  have := read_any s w
  rw [(read_yes s h).1, (read_yes s h).2, hv] at this
  exact this
theorem read_bad (s : ByteArray) (h : okNum s.data.toList = false) (w : World) :
    Calls Try.prog 16 #[.string s] w fun e w' => e = .returned (.tuple #[.int .i64 0, .int .i64 20]) ∧ Below w.heap.size w w' := by
  have := read_any s w
  rw [(read_no s h).1, (read_no s h).2] at this
  exact this
theorem refread_ok (s : ByteArray) (v : Int) (h : okNum s.data.toList = true) (hv : (num s.data.toList : Int) = v) (hs : s.size ≤ maxLen) (w : World) :
    Calls Try.prog 17 #[.string s] w fun e w' => e = .returned (.tuple #[.int .i64 v, .bool true]) ∧ Below w.heap.size w w' := by
  have := refread_any s w hs
  rw [refVal_ok s h, h, hv] at this
  exact this
theorem refread_bad (s : ByteArray) (h : okNum s.data.toList = false) (hs : s.size ≤ maxLen) (w : World) :
    Calls Try.prog 17 #[.string s] w fun e w' => e = .returned (.tuple #[.int .i64 (refVal s), .bool false]) ∧ Below w.heap.size w w' := by
  have := refread_any s w hs
  rw [h] at this
  exact this
theorem txt_ok (n : Int) : okNum (txt n).data.toList = true ∧ (num (txt n).data.toList : Int) = cut n := by
  have hb := cut_bd n
  have e : (txt n).data.toList = dec (cut n).toNat := rfl
  rw [e]
  refine ⟨ok_dec _ (by unfold top; omega), ?_⟩
  rw [num_of_dec _ (by omega)]; omega


set_option maxHeartbeats 400000 in
theorem textslaw (n : Int) (s : ByteArray) (hs : s.size ≤ maxLen) (w : World) :
    Calls Try.prog 5 #[.int .i64 n, .string s] w fun e w' => e = .returned (.bool true) ∧ Below w.heap.size w w' := by
  by_cases hl : 1000 < s.size
  · unfold maxLen at hs
    go_enter Try.func5, Try.ntmps5
    go_wp2
    go_ret
    exact ⟨rfl, Below.refl _ _⟩
  · have HM := Hid.mk' hs
    unfold maxLen at hs
    cases hok : okNum s.data.toList with
    | false =>
      have HO := Hid.mk' hok
      clear hok
      go_enter Try.func5, Try.ntmps5
      go_wp2_with fail
      refine (read_bad s HO.out _).mono ?_; rintro e w1 ⟨rfl, hb1⟩
      go_wp2_with fail
      refine (refread_bad s HO.out HM.out _).mono ?_; rintro e w2 ⟨rfl, hb2⟩
      go_wp2_with fail
      refine (text_txt _ _).mono ?_; rintro e w3 ⟨rfl, hb3⟩
      go_wp2_with fail
      refine (read_ok _ _ (txt_ok n).1 (txt_ok n).2 _).mono ?_; rintro e w4 ⟨rfl, hb4⟩
      go_wp2_with fail
      refine (text_txt _ _).mono ?_; rintro e w5 ⟨rfl, hb5⟩
      go_wp2_with fail
      refine (reftext_txt _ _).mono ?_; rintro e w6 ⟨rfl, rfl⟩
      go_wp2_with fail
      refine (refcut_any _ _).mono ?_; rintro e w7 ⟨rfl, rfl⟩
      go_wp2_with fail
      refine (alive2_any _).mono ?_; rintro e w8 ⟨rfl, hb8⟩
      go_wp2_with fail
      go_ret
      exact ⟨rfl, bnext (bnext (bnext (bnext (bnext hb1 hb2) hb3) hb4) hb5) hb8⟩
    | true =>
      have HO := Hid.mk' hok
      clear hok
      obtain ⟨v, hv⟩ : ∃ v : Int, (num s.data.toList : Int) = v := ⟨_, rfl⟩
      have HV := Hid.mk' hv
      clear hv
      go_enter Try.func5, Try.ntmps5
      go_wp2_with fail
      refine (read_ok s v HO.out HV.out _).mono ?_; rintro e w1 ⟨rfl, hb1⟩
      go_wp2_with fail
      refine (refread_ok s v HO.out HV.out HM.out _).mono ?_; rintro e w2 ⟨rfl, hb2⟩
      go_wp2_with fail
      refine (text_txt _ _).mono ?_; rintro e w3 ⟨rfl, hb3⟩
      go_wp2_with fail
      refine (read_ok _ _ (txt_ok n).1 (txt_ok n).2 _).mono ?_; rintro e w4 ⟨rfl, hb4⟩
      go_wp2_with fail
      refine (text_txt _ _).mono ?_; rintro e w5 ⟨rfl, hb5⟩
      go_wp2_with fail
      refine (reftext_txt _ _).mono ?_; rintro e w6 ⟨rfl, rfl⟩
      go_wp2_with fail
      refine (refcut_any _ _).mono ?_; rintro e w7 ⟨rfl, rfl⟩
      go_wp2_with fail
      refine (alive2_any _).mono ?_; rintro e w8 ⟨rfl, hb8⟩
      go_wp2_with fail
      go_ret
      exact ⟨rfl, bnext (bnext (bnext (bnext (bnext hb1 hb2) hb3) hb4) hb5) hb8⟩
end Go.Proofs.Ytnhonjhpggnglaa
