/- Layer 32 (quorum): the counts: No, Said, Say. -/
import Derived.Test.YtoidloofclalhabJ4
namespace Go.Proofs.Ytoidloofclalhab
open Go.RowKit

def Qs.y (q : Qs) : Bool := decide (q.need ≤ q.yes)
def Qs.z (q : Qs) : Bool := decide (q.cp - q.no < q.need)
theorem retb2 {a c : Bool} {b d : Bool} (h : a = c) (h2 : b = d) : Ending.returned (.tuple #[.bool a, .bool b]) = .returned (.tuple #[.bool c, .bool d]) := by rw [h, h2]
set_option maxHeartbeats 1000000 in
theorem no_any (c : Nat) (q : Qs) (hc : 0 ≤ q.cp ∧ q.cp ≤ 1099511627776) (hn : 0 ≤ q.no ∧ q.no ≤ 1000) (w : World) (h : Qc w c q) :
    Calls Try.prog 20 #[.pointer (some ⟨c, 0, none⟩)] w fun e w' => e = .returned (.tuple #[.int .i64 q.first, .bool (!q.y && q.z)]) ∧ ∃ n, w' = w.drewN n := by
  have HY := Lib.hid (fun n : Nat => yes_any c q (w.drewN n) (Bx.drawn h n))
  obtain ⟨need, cp, S, O, yes, no, first⟩ := q
  unfold Qc Qs.cells at h
  unfold Qs.y Qs.z
  dsimp only at *
  have c0 := h.read (i := 0) rfl
  have c1 := h.read (i := 1) rfl
  have c13 := h.read (i := 13) rfl
  have c14 := h.read (i := 14) rfl
  clear h
  obtain ⟨hc1, hc2⟩ := hc
  obtain ⟨hn1, hn2⟩ := hn
  have hs : IntKind.i64.wrap (cp - no) = cp - no := IntWalk.i64_in _ (by omega)
  by_cases hy : need ≤ yes
  · have d1 : decide (need ≤ yes) = true := by simpa using hy
    rw [d1] at HY ⊢
    clear d1 hy
    go_enter Try.func20, Try.ntmps20
    go_wp2_with fail
    go_quiet ((go_at_call 19; exact Calls.quiet_of (HY.out _)))
    go_wp2_with fail
    go_ret2
    exact ⟨rfl, _, rfl⟩
  · have d1 : decide (need ≤ yes) = false := by simpa using hy
    rw [d1] at HY ⊢
    clear d1 hy
    go_enter Try.func20, Try.ntmps20
    go_wp2_with fail
    go_quiet ((go_at_call 19; exact Calls.quiet_of (HY.out _)))
    go_wp2_with fail
    go_ret2
    exact ⟨by simp, _, rfl⟩
set_option maxHeartbeats 1000000 in
theorem said_in (c : Nat) (q : Qs) (n : Nat) (hn : n < 5) (w : World) (h : Qc w c q) :
    Calls Try.prog 21 #[.pointer (some ⟨c, 0, none⟩), .int .i64 n] w fun e w' => e = .returned (.tuple #[.bool (q.S n), .bool (q.O n)]) ∧ ∃ n, w' = w.drewN n := by
  obtain ⟨need, cp, S, O, yes, no, first⟩ := q
  unfold Qc Qs.cells at h
  dsimp only at *
  obtain ⟨c0, c1, c2, c3, c4, c5, c6, c7, c8, c9, c10, c11, c12, c13, c14⟩ := reads15 h
  clear h
  have h5 : n = 0 ∨ n = 1 ∨ n = 2 ∨ n = 3 ∨ n = 4 := by omega
  clear hn
  rcases h5 with rfl | rfl | rfl | rfl | rfl
  all_goals
    go_enter Try.func21, Try.ntmps21
    go_wp2_with fail
    refine (is_yes _ (by omega) (by omega) _).mono ?_; rintro e w1 ⟨rfl, rfl⟩
    go_wp2_with fail
    go_quiet (fail)
    go_wp2_with fail
    go_ret2
    exact ⟨rfl, _, rfl⟩
theorem said_out (c : Nat) (n : Int) (hn : n < 0 ∨ 5 ≤ n) (w : World) :
    Calls Try.prog 21 #[.pointer (some ⟨c, 0, none⟩), .int .i64 n] w fun e w' => e = .returned (.tuple #[.bool false, .bool false]) ∧ w = w' := by
  have H := Lib.hid (is_no n hn w)
  clear hn
  go_enter Try.func21, Try.ntmps21
  go_wp2_with fail
  refine (H.out).mono ?_; rintro e w1 ⟨rfl, rfl⟩
  go_wp2_with fail
  go_ret2
  exact ⟨rfl, rfl⟩
theorem say_out (c : Nat) (n why : Int) (hn : n < 0 ∨ 5 ≤ n) (w : World) :
    Calls Try.prog 18 #[.pointer (some ⟨c, 0, none⟩), .int .i64 n, .int .i64 why] w fun e w' => e = .returned (.bool false) ∧ w = w' := by
  have H := Lib.hid (is_no n hn w)
  clear hn
  go_enter Try.func18, Try.ntmps18
  go_wp2_with fail
  refine (H.out).mono ?_; rintro e w1 ⟨rfl, rfl⟩
  go_wp2_with fail
  go_ret
  exact ⟨rfl, rfl⟩
set_option maxHeartbeats 1000000 in
theorem say_again (c : Nat) (q : Qs) (n : Nat) (hn : n < 5) (why : Int) (hs : q.S n = true) (w : World) (h : Qc w c q) :
    Calls Try.prog 18 #[.pointer (some ⟨c, 0, none⟩), .int .i64 n, .int .i64 why] w fun e w' => e = .returned (.bool false) ∧ w = w' := by
  obtain ⟨need, cp, S, O, yes, no, first⟩ := q
  unfold Qc Qs.cells at h
  dsimp only at *
  obtain ⟨c0, c1, c2, c3, c4, c5, c6, c7, c8, c9, c10, c11, c12, c13, c14⟩ := reads15 h
  clear h
  have h5 : n = 0 ∨ n = 1 ∨ n = 2 ∨ n = 3 ∨ n = 4 := by omega
  clear hn
  rcases h5 with rfl | rfl | rfl | rfl | rfl
  all_goals
    go_enter Try.func18, Try.ntmps18
    go_wp2_with fail
    refine (is_yes _ (by omega) (by omega) _).mono ?_; rintro e w1 ⟨rfl, rfl⟩
    go_wp2_with fail
    go_ret
    exact ⟨rfl, rfl⟩
theorem upd_at (f : Nat → Bool) (n : Nat) (b : Bool) : upd f n b n = b := by simp [upd]
theorem upd_ne (f : Nat → Bool) (n : Nat) (b : Bool) (i : Nat) (h : i ≠ n) : upd f n b i = f i := by simp [upd, h]
set_option maxHeartbeats 2000000 in
theorem say_ok (c : Nat) (q : Qs) (n : Nat) (hn : n < 5) (hs : q.S n = false) (hy : 0 ≤ q.yes ∧ q.yes ≤ 1000) (w : World) (h : Qc w c q) :
    Calls Try.prog 18 #[.pointer (some ⟨c, 0, none⟩), .int .i64 n, .int .i64 0] w fun e w' => e = .returned (.bool true) ∧ Qc w' c (q.say n 0) ∧ w.grownBy w' (some c) := by
  unfold Qs.say
  rw [if_neg (by rw [hs]; simp), if_pos rfl]
  obtain ⟨need, cp, S, O, yes, no, first⟩ := q
  unfold Qc Qs.cells at *
  dsimp only at *
  obtain ⟨hy0, hy1⟩ := hy
  obtain ⟨c0, c1, c2, c3, c4, c5, c6, c7, c8, c9, c10, c11, c12, c13, c14⟩ := reads15 h
  have fz : ∀ i, w.frozen? ⟨c, i, none⟩ = false := fun i => h.open_ i
  have h5 : n = 0 ∨ n = 1 ∨ n = 2 ∨ n = 3 ∨ n = 4 := by omega
  clear hn
  have HX := Hid.mk' h
  clear h
  rcases h5 with rfl | rfl | rfl | rfl | rfl
  all_goals
    go_enter Try.func18, Try.ntmps18
    go_wp2_with fail
    refine (is_yes _ (by omega) (by omega) _).mono ?_; rintro e w1 ⟨rfl, rfl⟩
    go_wp2_with fail
    go_ret
    exact ⟨rfl, ((HX.out.put _ _).put _ _).put _ _, gb_trans (gb_trans (gb_set _ _ _ _) (gb_set _ _ _ _)) (gb_set _ _ _ _)⟩
set_option maxHeartbeats 2000000 in
theorem say_no1 (c : Nat) (q : Qs) (n : Nat) (hn : n < 5) (why : Int) (hw : why ≠ 0) (hs : q.S n = false) (hno : q.no = 0) (w : World) (h : Qc w c q) :
    Calls Try.prog 18 #[.pointer (some ⟨c, 0, none⟩), .int .i64 n, .int .i64 why] w fun e w' => e = .returned (.bool true) ∧ Qc w' c (q.say n why) ∧ w.grownBy w' (some c) := by
  unfold Qs.say
  rw [if_neg (by rw [hs]; simp), if_neg hw, if_pos hno]
  obtain ⟨need, cp, S, O, yes, no, first⟩ := q
  unfold Qc Qs.cells at *
  dsimp only at *
  subst hno
  have hw' : (why == 0) = false := by simpa using hw
  clear hw
  obtain ⟨c0, c1, c2, c3, c4, c5, c6, c7, c8, c9, c10, c11, c12, c13, c14⟩ := reads15 h
  have fz : ∀ i, w.frozen? ⟨c, i, none⟩ = false := fun i => h.open_ i
  have h5 : n = 0 ∨ n = 1 ∨ n = 2 ∨ n = 3 ∨ n = 4 := by omega
  clear hn
  have HX := Hid.mk' h
  clear h
  rcases h5 with rfl | rfl | rfl | rfl | rfl
  all_goals
    go_enter Try.func18, Try.ntmps18
    go_wp2_with fail
    refine (is_yes _ (by omega) (by omega) _).mono ?_; rintro e w1 ⟨rfl, rfl⟩
    go_wp2_with fail
    go_ret
    exact ⟨rfl, (((HX.out.put _ _).put _ _).put _ _).put _ _, gb_trans (gb_trans (gb_trans (gb_set _ _ _ _) (gb_set _ _ _ _)) (gb_set _ _ _ _)) (gb_set _ _ _ _)⟩
set_option maxHeartbeats 2000000 in
theorem say_no2 (c : Nat) (q : Qs) (n : Nat) (hn : n < 5) (why : Int) (hw : why ≠ 0) (hs : q.S n = false) (hno : 1 ≤ q.no ∧ q.no ≤ 1000) (w : World) (h : Qc w c q) :
    Calls Try.prog 18 #[.pointer (some ⟨c, 0, none⟩), .int .i64 n, .int .i64 why] w fun e w' => e = .returned (.bool true) ∧ Qc w' c (q.say n why) ∧ w.grownBy w' (some c) := by
  unfold Qs.say
  rw [if_neg (by rw [hs]; simp), if_neg hw, if_neg (by omega)]
  obtain ⟨need, cp, S, O, yes, no, first⟩ := q
  unfold Qc Qs.cells at *
  dsimp only at *
  obtain ⟨hn1, hn2⟩ := hno
  have hw' : (why == 0) = false := by simpa using hw
  have hno' : (no == 0) = false := by simp; omega
  clear hw
  obtain ⟨c0, c1, c2, c3, c4, c5, c6, c7, c8, c9, c10, c11, c12, c13, c14⟩ := reads15 h
  have fz : ∀ i, w.frozen? ⟨c, i, none⟩ = false := fun i => h.open_ i
  have h5 : n = 0 ∨ n = 1 ∨ n = 2 ∨ n = 3 ∨ n = 4 := by omega
  clear hn
  have HX := Hid.mk' h
  clear h
  rcases h5 with rfl | rfl | rfl | rfl | rfl
  all_goals
    go_enter Try.func18, Try.ntmps18
    go_wp2_with fail
    refine (is_yes _ (by omega) (by omega) _).mono ?_; rintro e w1 ⟨rfl, rfl⟩
    go_wp2_with fail
    go_ret
    exact ⟨rfl, ((HX.out.put _ _).put _ _).put _ _, gb_trans (gb_trans (gb_set _ _ _ _) (gb_set _ _ _ _)) (gb_set _ _ _ _)⟩
/-- An answer of one that has said nothing yet: it is taken. -/
theorem say_new (c : Nat) (q : Qs) (n : Nat) (hn : n < 5) (why : Int) (hs : q.S n = false) (hy : 0 ≤ q.yes ∧ q.yes ≤ 1000) (hno : 0 ≤ q.no ∧ q.no ≤ 1000) (w : World) (h : Qc w c q) :
    Calls Try.prog 18 #[.pointer (some ⟨c, 0, none⟩), .int .i64 n, .int .i64 why] w fun e w' => e = .returned (.bool true) ∧ Qc w' c (q.say n why) ∧ w.grownBy w' (some c) := by
  by_cases h0 : why = 0
  · subst h0; exact say_ok c q n hn hs hy w h
  · by_cases h1 : q.no = 0
    · exact say_no1 c q n hn why h0 hs h1 w h
    · exact say_no2 c q n hn why h0 hs (by omega) w h
end Go.Proofs.Ytoidloofclalhab
