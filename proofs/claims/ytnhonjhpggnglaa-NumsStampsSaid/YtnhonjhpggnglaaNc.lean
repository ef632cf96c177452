/- The walks of layer 2 (nums): reading numbers by definition, sums, the two statements on numbers. -/
import Derived.Test.YtnhonjhpggnglaaNb
import Derived.Deep.QuietTactic
import Derived.BigQuiet
import Derived.WalkSmall
import Derived.Lib.QuietBelow
namespace Go.Proofs.Ytnhonjhpggnglaa
open Go.RowKit

theorem cut_nat (m : Nat) : (cut (m : Int)).toNat = min m top := by
  unfold cut top
  rw [if_neg (by omega)]
  by_cases h : 1125899906842624 < (m : Int)
  · rw [if_pos h]; omega
  · rw [if_neg h]; omega
def refVal (s : ByteArray) : Int := if s.size < 1 ∨ 16 < s.size ∨ s.data.toList.all isDig = false then 0 else num s.data.toList
theorem refVal_ok (s : ByteArray) (h : okNum s.data.toList = true) : refVal s = num s.data.toList := by
  unfold refVal
  have h1 : ¬ s.size < 1 := by
    intro hh
    have h0 : s.size = 0 := by omega
    have : s.data.toList = [] := List.eq_nil_of_length_eq_zero (by simpa using h0)
    rw [ok_len _ (Or.inl this)] at h; cases h
  have h2 : ¬ 16 < s.size := by
    intro hh
    rw [ok_len _ (Or.inr (by simpa using hh))] at h; cases h
  have h3 : ¬ s.data.toList.all isDig = false := by
    intro hh
    unfold okNum at h; simp [hh] at h
  rw [if_neg (by simp only [not_or]; exact ⟨h1, h2, h3⟩)]
theorem num_len : ∀ (l : List UInt8), l.all isDig = true → num l < 10 ^ l.length := by
  intro l
  suffices h : ∀ (l : List UInt8) (a : Nat), l.all isDig = true → numFrom a l < (a + 1) * 10 ^ l.length by
    intro hl; have := h l 0 hl; simpa [num] using this
  intro l
  induction l with
  | nil => intro a _; simp [numFrom]
  | cons c l ih =>
    intro a hl
    simp only [List.all_cons, Bool.and_eq_true] at hl
    have h1 := ih (10 * a + (c.toNat - 48)) hl.2
    have h2 := (isDig_iff c).1 hl.1
    show numFrom (10 * a + (c.toNat - 48)) l < _
    refine Nat.lt_of_lt_of_le h1 ?_
    rw [List.length_cons, Nat.pow_succ, ← Nat.mul_assoc, Nat.mul_right_comm]
    exact Nat.mul_le_mul_right _ (by omega)
theorem num_pre16 (s : ByteArray) (k : Nat) (hk : k ≤ 16) (h : (pre s k).all isDig = true) : num (pre s k) < 10 ^ 16 := by
  have h1 := num_len _ h
  have h2 : (pre s k).length ≤ 16 := by unfold pre; rw [List.length_take]; omega
  exact Nat.lt_of_lt_of_le h1 (Nat.pow_le_pow_right (by omega) h2)

set_option maxHeartbeats 1000000 in
theorem refread_any (s : ByteArray) (w : World) (hs : s.size ≤ maxLen) :
    Calls Try.prog 17 #[.string s] w fun e w' => e = .returned (.tuple #[.int .i64 (refVal s), .bool (okNum s.data.toList)]) ∧ Below w.heap.size w w' := by
  unfold maxLen at hs
  by_cases h1 : s.size < 1
  · have hv : refVal s = 0 ∧ okNum s.data.toList = false := ⟨by simp [refVal, h1], ok_len _ (Or.inl (List.eq_nil_of_length_eq_zero (by rw [len_data]; omega)))⟩
    have HV := Hid.mk' hv
    clear hv
    go_enter Try.func17, Try.ntmps17
    go_wp2
    go_ret2
    exact ⟨retvb HV.out.1.symm HV.out.2.symm, Below.refl _ _⟩
  · by_cases h2 : 16 < s.size
    · have hv : refVal s = 0 ∧ okNum s.data.toList = false := ⟨by simp [refVal, h2], ok_len _ (Or.inr (by simpa using h2))⟩
      have HV := Hid.mk' hv
      clear hv
      go_enter Try.func17, Try.ntmps17
      go_wp2
      go_ret2
      exact ⟨retvb HV.out.1.symm HV.out.2.symm, Below.refl _ _⟩
    · go_enter Try.func17, Try.ntmps17
      go_wp2
      go_loop [4, 5] (fun n i => ∃ (pos m : Nat), i = .int .i64 pos ∧ n = .int .i64 m ∧ pos ≤ s.size ∧ m < 10000000000000000 ∧ Hid (m = num (pre s pos)) ∧ Hid ((pre s pos).all isDig = true)) (fun _ i => s.size - (intOf i).toNat)
      case atStart => exact ⟨0, 0, rfl, rfl, by omega, by omega, rfl, rfl⟩
      case round =>
        obtain ⟨pos, m, rfl, rfl, hpos, hm, hn, hd⟩ := hrel
        by_cases hp : pos < s.size
        · have hb := s[pos].toNat_lt
          by_cases hdg : isDig s[pos] = true
          · have hd1 := (isDig_iff _).1 hdg
            clear hdg
            have hd' : Hid ((pre s (pos + 1)).all isDig = true) := by
              show (pre s (pos + 1)).all isDig = true
              rw [pre_snoc s pos hp, List.all_append, hd.out]
              simp [isDig]; omega
            have hn' : Hid (10 * m + (s[pos].toNat - 48) = num (pre s (pos + 1))) := by rw [pre_snoc s pos hp, num_snoc, ← hn.out]; rfl
            have hm' : 10 * m + (s[pos].toNat - 48) < 10000000000000000 := by
              have := num_pre16 s (pos + 1) (by omega) hd'.out; rw [← hn'.out] at this; omega
            go_wp2
            go_round
            case rel => exact ⟨pos + 1, 10 * m + (s[pos].toNat - 48), by go_num, by rw [show ((10 * m + (s[pos].toNat - 48) : Nat) : Int) = 10 * (m : Int) + ((s[pos].toNat : Int) - 48) from by omega], by omega, hm', hn', hd'⟩
            case measure => simp [intOf]; omega
          · have hno := ok_no_digit _ _ (byte_mem s pos hp) (by simpa using hdg)
            have hv : refVal s = 0 := by
              unfold refVal
              rw [if_pos]
              right; right
              rw [List.all_eq_false]; exact ⟨_, byte_mem s pos hp, hdg⟩
            have HV := Hid.mk' hv
            have HO := Hid.mk' hno
            have hnd : s[pos].toNat < 48 ∨ 57 < s[pos].toNat := by
              have : ¬ (48 ≤ s[pos].toNat ∧ s[pos].toNat ≤ 57) := fun h => hdg ((isDig_iff _).2 h)
              omega
            clear hv hno hdg
            rcases hnd with hnd | hnd
            · go_wp2
              go_ret2
              exact ⟨retvb HV.out.symm HO.out.symm, Below.refl _ _⟩
            · go_wp2
              go_ret2
              exact ⟨retvb HV.out.symm HO.out.symm, Below.refl _ _⟩
        · have hpre := pre_all s pos (by omega)
          have hok : okNum s.data.toList = (dec (cut (m : Int)).toNat == s.data.toList) := by
            have := ok_cut s.data.toList (by rw [← hpre]; exact hd.out)
            rw [this, cut_nat, ← hpre, ← hn.out]
          have hv : refVal s = m := by
            unfold refVal
            have h3 : s.data.toList.all isDig = true := by rw [← hpre]; exact hd.out
            rw [if_neg (by rintro (h | h | h); exact h1 h; exact h2 h; rw [h3] at h; cases h), ← hpre, ← hn.out]
          have HO := Hid.mk' hok
          have HV := Hid.mk' hv
          clear hok hv hpre
          go_wp2_with (go_at_call 19; refine (reftext_any _ _).mono ?_; rintro e w' ⟨rfl, rfl⟩)
          go_ret2
          exact ⟨retvb HV.out.symm (by rw [HO.out, ByteArray.toList_eq]), Below.refl _ _⟩

set_option maxHeartbeats 400000 in
theorem add_any (a b : Int) (w : World) :
    Calls Try.prog 22 #[.int .i64 a, .int .i64 b] w fun e w' => e = .returned (.int .i64 (cut (min (max a (-1125899906842624)) 1125899906842624 + min (max b (-1125899906842624)) 1125899906842624))) ∧ w = w' := by
  have h1 : -1125899906842624 ≤ min (max a (-1125899906842624)) 1125899906842624 ∧ min (max a (-1125899906842624)) 1125899906842624 ≤ 1125899906842624 := by omega
  have h2 : -1125899906842624 ≤ min (max b (-1125899906842624)) 1125899906842624 ∧ min (max b (-1125899906842624)) 1125899906842624 ≤ 1125899906842624 := by omega
  generalize hx : min (max a (-1125899906842624)) 1125899906842624 = x at *
  generalize hy : min (max b (-1125899906842624)) 1125899906842624 = y at *
  have HX := Hid.mk' hx
  have HY := Hid.mk' hy
  clear hx hy
  go_enter Try.func22, Try.ntmps22
  go_wp2_with fail
  refine (within_any _ _ _ _).mono ?_; rintro e w' ⟨rfl, rfl⟩
  rw [HX.out]
  go_wp2_with fail
  refine (within_any _ _ _ _).mono ?_; rintro e w' ⟨rfl, rfl⟩
  rw [HY.out]
  go_wp2_with fail
  refine (within_cut _ _).mono ?_; rintro e w' ⟨rfl, rfl⟩
  go_wp2_with fail
  go_ret
  exact ⟨rfl, rfl⟩

/-- The text of a number. -/
def txt (n : Int) : ByteArray := ⟨(dec (cut n).toNat).toArray⟩
theorem txt_size (n : Int) : (txt n).size ≤ 16 := by
  have := dec_len (cut n).toNat
  unfold txt; simpa [ByteArray.size] using this
theorem text_txt (a : Int) (w : World) : Calls Try.prog 18 #[.int .i64 a] w fun e w' => e = .returned (.string (txt a)) ∧ Below w.heap.size w w' := text_any a w
theorem reftext_txt (a : Int) (w : World) : Calls Try.prog 19 #[.int .i64 a] w fun e w' => e = .returned (.string (txt a)) ∧ w' = w := (reftext_any a w).mono fun _ _ ⟨h1, h2⟩ => ⟨h1, h2.symm⟩
/-- The text of a stamp. -/
def stampText (a b c : Int) : ByteArray := txt a ++ ⟨#[46]⟩ ++ txt b ++ ⟨#[46]⟩ ++ txt c
theorem three_cells (w : World) (a b c : Value) (t : TypeId) : (w.alloc (.cells #[a, b, c] t)).cell? ⟨w.heap.size, 0, none⟩ = some a ∧ (w.alloc (.cells #[a, b, c] t)).cell? ⟨w.heap.size, 1, none⟩ = some b ∧ (w.alloc (.cells #[a, b, c] t)).cell? ⟨w.heap.size, 2, none⟩ = some c := by
  refine ⟨?_, ?_, ?_⟩ <;> simp [World.cell?_alloc_at]

open Go.Sort in
set_option maxHeartbeats 400000 in
theorem stamp_any (a b c : Int) (w : World) :
    Calls Try.prog 25 #[.agg #[.int .i64 a, .int .i64 b, .int .i64 c]] w fun e w' => e = .returned (.string (stampText a b c)) ∧ Below w.heap.size w w' := by
  have hc := three_cells w (.int .i64 a) (.int .i64 b) (.int .i64 c) 41
  have hbw : Below w.heap.size w (w.alloc (.cells #[.int .i64 a, .int .i64 b, .int .i64 c] 41)) := (Below.refl _ _).alloc (Nat.le_refl _) _
  have n1 := txt_size a
  have n2 := txt_size b
  have n3 := txt_size c
  go_enter Try.func25, Try.ntmps25
  go_wp2_with fail
  generalize hW : w.alloc (.cells #[.int .i64 a, .int .i64 b, .int .i64 c] 41) = W at *
  clear hW
  obtain ⟨h0, h1, h2⟩ := hc
  have k0 := cell_regrown h0
  have k1 := cell_regrown h1
  have k2 := cell_regrown h2
  have cT : ∀ n d os, Calls Try.prog 18 #[.int .i64 n] (grow (redrawn W d) os) fun e w'' => e = .returned (.string (txt n)) ∧ ∃ p : Regrown, w'' = grow (redrawn W p.d) p.os := fun n d os => Calls.regrown_of (text_txt n _)
  have m1 : ¬ 9223372036854775807 < (txt a).size + 1 := by omega
  have m2 : ¬ 9223372036854775807 < (txt a).size + 1 + (txt b).size := by omega
  have m3 : ¬ 9223372036854775807 < (txt a).size + 1 + (txt b).size + 1 := by omega
  have m4 : ¬ 9223372036854775807 < (txt a).size + 1 + (txt b).size + 1 + (txt c).size := by omega
  refine wp_region_quiet_below (by kernel_rfl) (by kernel_rfl) ?_
  repeat (quiet_step (exact cT _ _ _))
  refine wpQuiet_nil ?_
  intro _ hw'
  obtain ⟨⟨dq, osq⟩, hw''⟩ := hw'
  subst hw''
  go_wp2
  go_ret
  exact ⟨rfl, hbw.trans ((below_regrown W dq osq).mono (hbw.size))⟩

open Go.Sort in
set_option maxHeartbeats 400000 in
theorem refstamp_any (a b c : Int) (w : World) :
    Calls Try.prog 26 #[.agg #[.int .i64 a, .int .i64 b, .int .i64 c]] w fun e w' => e = .returned (.string (stampText a b c)) ∧ Below w.heap.size w w' := by
  have hc := three_cells w (.int .i64 a) (.int .i64 b) (.int .i64 c) 41
  have hbw : Below w.heap.size w (w.alloc (.cells #[.int .i64 a, .int .i64 b, .int .i64 c] 41)) := (Below.refl _ _).alloc (Nat.le_refl _) _
  have n1 := txt_size a
  have n2 := txt_size b
  have n3 := txt_size c
  go_enter Try.func26, Try.ntmps26
  go_wp2_with fail
  generalize hW : w.alloc (.cells #[.int .i64 a, .int .i64 b, .int .i64 c] 41) = W at *
  clear hW
  obtain ⟨h0, h1, h2⟩ := hc
  have m1 : ¬ 9223372036854775807 < (txt a).size + 1 := by omega
  have m2 : ¬ 9223372036854775807 < (txt a).size + 1 + (txt b).size := by omega
  have m3 : ¬ 9223372036854775807 < (txt a).size + 1 + (txt b).size + 1 := by omega
  have m4 : ¬ 9223372036854775807 < (txt a).size + 1 + (txt b).size + 1 + (txt c).size := by omega
  go_quiet ((go_at_call 19; exact Calls.quiet_of_same (reftext_txt _ _)))
  go_wp2
  go_ret
  exact ⟨rfl, below_drewN hbw _⟩

end Go.Proofs.Ytnhonjhpggnglaa
