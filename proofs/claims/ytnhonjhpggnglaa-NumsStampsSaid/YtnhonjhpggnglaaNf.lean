/- Layer 2 (nums): a text cut at its first point. -/
import Derived.Test.YtnhonjhpggnglaaNe
import Derived.Lib.Bytealg
import Derived.Lib.Strings
namespace Go.Proofs.Ytnhonjhpggnglaa
open Go.RowKit

theorem idx_tw (c : UInt8) : ∀ (l : List UInt8), Lib.indexByte l c = if l.any (· == c) then ((l.takeWhile (· != c)).length : Int) else -1
  | [] => rfl
  | b :: l => by
    have ih := idx_tw c l
    rw [Lib.indexByte, ih]
    by_cases h : b = c
    · simp [h]
    · by_cases h2 : l.any (· == c) = true
      · simp only [List.any_cons, beq_iff_eq, h, h2]
        simp [h]
      · simp only [Bool.not_eq_true] at h2
        simp only [List.any_cons, beq_iff_eq, h, h2]
        simp [h]
theorem callByte (s : ByteArray) (c : Int) (w : World) : (callFunc 49 #[.string s, .int .u8 c]).run Try.prog w = .ok (.value (.int .i64 (Lib.indexByte s.data.toList c.toNat.toUInt8))) w := by
  rw [run_callFunc_extern (P := Try.prog) (f := 49) (fn := Try.f49) (e := Extern.BytealgIndexByte.indexByte) (by kernel_rfl) (by kernel_rfl) (by kernel_rfl) (by kernel_rfl) (by kernel_rfl), Lib.run_indexByteString]
  rfl

set_option maxHeartbeats 400000 in
theorem index_dot (s : ByteArray) (hs : s.size ≤ maxLen) (w : World) :
    Calls Try.prog 42 #[.string s, .string ⟨#[46]⟩] w fun e w' => e = .returned (.int .i64 (Lib.indexByte s.data.toList 46)) ∧ w = w' := by
  unfold maxLen at hs
  have hcb := fun w => callByte s 46 w
  have e46 : ((({ data := #[46] } : ByteArray)[0].toNat : Nat) : Int) = 46 := rfl
  by_cases h : ([46] == s.toList) = true
  · have hx : Lib.indexByte s.data.toList 46 = 0 := by
      rw [← ByteArray.toList_eq, ← eq_of_beq h]; rfl
    have HX := Hid.mk' hx
    clear hx
    go_enter Try.func42, Try.ntmps42
    go_wp2
    go_ret
    exact ⟨by rw [HX.out]; rfl, rfl⟩
  · simp only [Bool.not_eq_true] at h
    go_enter Try.func42, Try.ntmps42
    go_wp2
    go_ret
    exact ⟨rfl, rfl⟩
def cutB (s : ByteArray) : ByteArray := ⟨(s.data.toList.takeWhile (· != 46)).toArray⟩
def cutA (s : ByteArray) : ByteArray := ⟨((s.data.toList.dropWhile (· != 46)).drop 1).toArray⟩
def cutF (s : ByteArray) : Bool := s.data.toList.any (· == 46)

theorem tw_all (l : List UInt8) (h : l.any (· == 46) = false) : l.takeWhile (· != 46) = l ∧ l.dropWhile (· != 46) = [] := by
  induction l with
  | nil => exact ⟨rfl, rfl⟩
  | cons b l ih =>
    simp only [List.any_cons, Bool.or_eq_false_iff] at h
    have hb : (b != 46) = true := by simpa [bne] using h.1
    have := ih h.2
    simp only [List.takeWhile_cons, List.dropWhile_cons, hb, if_true, this.1, this.2]
    exact ⟨trivial, trivial⟩
theorem cut_none (s : ByteArray) (h : cutF s = false) : cutB s = s ∧ cutA s = ByteArray.empty := by
  have := tw_all s.data.toList h
  refine ⟨bytes_inj' (by unfold cutB; rw [this.1]), bytes_inj' (by unfold cutA; rw [this.2]; rfl)⟩
theorem tw_lt (s : ByteArray) (h : cutF s = true) : (s.data.toList.takeWhile (· != 46)).length < s.size := by
  rw [← len_data]
  unfold cutF at h
  generalize s.data.toList = l at h
  induction l with
  | nil => cases h
  | cons b l ih =>
    by_cases hb : b = 46
    · subst hb; simp
    · have hb' : (b != 46) = true := by simpa [bne] using hb
      simp only [List.any_cons, Bool.or_eq_true, beq_iff_eq, hb, false_or] at h
      have := ih (by simpa using h)
      simp only [List.takeWhile_cons, hb', if_true, List.length_cons]; omega
theorem tw_take (l : List UInt8) : l.takeWhile (· != 46) = l.take (l.takeWhile (· != 46)).length ∧ l.dropWhile (· != 46) = l.drop (l.takeWhile (· != 46)).length := by
  induction l with
  | nil => exact ⟨rfl, rfl⟩
  | cons b l ih =>
    by_cases hb : (b != 46) = true
    · simp only [List.takeWhile_cons, List.dropWhile_cons, hb, if_true, List.length_cons, List.take_succ_cons, List.drop_succ_cons]
      exact ⟨by rw [← ih.1], ih.2⟩
    · simp only [List.takeWhile_cons, List.dropWhile_cons, hb]
      exact ⟨rfl, rfl⟩
theorem cut_some (s : ByteArray) (k : Nat) (hk : k = (s.data.toList.takeWhile (· != 46)).length) : cutB s = s.extract 0 k ∧ cutA s = s.extract (k + 1) s.size := by
  have := tw_take s.data.toList
  rw [← hk] at this
  refine ⟨bytes_inj' ?_, bytes_inj' ?_⟩
  · unfold cutB; rw [Lib.extract_data, this.1]; simp
  · unfold cutA; rw [Lib.extract_data, this.2]; simp
    rw [List.take_of_length_le (by simp)]

theorem ret3 {a b c d : ByteArray} {x y : Bool} (h : a = b ∧ c = d) (hx : x = y) : Ending.returned (.tuple #[.string a, .string c, .bool x]) = .returned (.tuple #[.string b, .string d, .bool y]) := by rw [h.1, h.2, hx]
set_option maxHeartbeats 400000 in
theorem slcut_dot (s : ByteArray) (hs : s.size ≤ maxLen) (w : World) :
    Calls Try.prog 39 #[.string s, .string ⟨#[46]⟩] w fun e w' => e = .returned (.tuple #[.string (cutB s), .string (cutA s), .bool (cutF s)]) ∧ Below w.heap.size w w' := by
  have HM := Hid.mk' hs
  unfold maxLen at hs
  cases hf : cutF s with
  | false =>
    have hi : Lib.indexByte s.data.toList 46 = -1 := by
      rw [idx_tw]; unfold cutF at hf; rw [hf]; rfl
    have hc : cutB s = s ∧ cutA s = ByteArray.empty := cut_none s hf
    have HI := Hid.mk' hi
    have HC := Hid.mk' hc
    clear hi hc hf
    go_enter Try.func39, Try.ntmps39
    go_wp2_with (go_at_call 42; refine (index_dot _ HM.out _).mono ?_; rintro e w' ⟨rfl, rfl⟩; rw [HI.out])
    go_ret3
    exact ⟨ret3 ⟨HC.out.1.symm, HC.out.2.symm⟩ rfl, Below.refl _ _⟩
  | true =>
    obtain ⟨k, hk⟩ : ∃ k : Nat, k = (s.data.toList.takeWhile (· != 46)).length := ⟨_, rfl⟩
    have hi : Lib.indexByte s.data.toList 46 = (k : Int) := by
      rw [idx_tw]; unfold cutF at hf; rw [hf, hk]; rfl
    have hks : k < s.size := by rw [hk]; exact tw_lt s hf
    have hc : cutB s = s.extract 0 k ∧ cutA s = s.extract (k + 1) s.size := cut_some s k hk
    have HI := Hid.mk' hi
    have HC := Hid.mk' hc
    clear hi hc hf hk
    go_enter Try.func39, Try.ntmps39
    go_wp2_with (go_at_call 42; refine (index_dot _ HM.out _).mono ?_; rintro e w' ⟨rfl, rfl⟩; rw [HI.out])
    go_quiet (fail)
    go_wp2
    go_ret3
    exact ⟨ret3 ⟨HC.out.1.symm, HC.out.2.symm⟩ rfl, below_drewN (Below.refl _ _) _⟩
set_option maxHeartbeats 400000 in
theorem cut_dot (s : ByteArray) (hs : s.size ≤ maxLen) (w : World) :
    Calls Try.prog 32 #[.string s, .string ⟨#[46]⟩] w fun e w' => e = .returned (.tuple #[.string (cutB s), .string (cutA s), .bool (cutF s)]) ∧ Below w.heap.size w w' := by
  go_enter Try.func32, Try.ntmps32
  go_wp2_with (go_at_call 39; refine (slcut_dot _ hs _).mono ?_; rintro e w1 ⟨rfl, hb1⟩)
  go_ret3
  exact ⟨rfl, hb1⟩

/-! Reading a stamp. -/
set_option maxHeartbeats 1000000 in
theorem readstamp_ok (s : ByteArray) (hs : s.size ≤ maxLen) (hs2 : (cutA s).size ≤ maxLen) (a b c : Int) (h1 : okNum (cutB s).data.toList = true) (h2 : okNum (cutB (cutA s)).data.toList = true) (h3 : okNum (cutA (cutA s)).data.toList = true) (e1 : (num (cutB s).data.toList : Int) = a) (e2 : (num (cutB (cutA s)).data.toList : Int) = b) (e3 : (num (cutA (cutA s)).data.toList : Int) = c) (w : World) :
    Calls Try.prog 23 #[.string s] w fun e w' => e = .returned (.tuple #[.agg #[.int .i64 a, .int .i64 b, .int .i64 c], .int .i64 0]) ∧ Below w.heap.size w w' := by
  have R1 := read_ok (cutB s) a h1 e1
  have R2 := read_ok (cutB (cutA s)) b h2 e2
  have R3 := read_ok (cutA (cutA s)) c h3 e3
  have H1 := Hid.mk' R1
  have H2 := Hid.mk' R2
  have H3 := Hid.mk' R3
  have HS := Hid.mk' hs
  have HS2 := Hid.mk' hs2
  clear R1 h1 R2 h2 R3 h3 e1 e2 e3 hs hs2
  generalize hX : cutB s = X at *
  generalize hY : cutB (cutA s) = Y at *
  generalize hZ : cutA (cutA s) = Z at *
  have HX := Hid.mk' hX
  have HY := Hid.mk' hY
  have HZ := Hid.mk' hZ
  clear hX hY hZ
  go_enter Try.func23, Try.ntmps23
  go_wp2_with fail
  have bA := Bx.fresh w 41 #[.int .i64 0, .int .i64 0, .int .i64 0]
  have below0 : Below w.heap.size w (w.alloc (.cells #[.int .i64 0, .int .i64 0, .int .i64 0] 41)) := (Below.refl _ _).alloc (Nat.le_refl _) _
  refine (cut_dot _ HS.out _).mono ?_; rintro e w1 ⟨rfl, hb1⟩
  have bA1 := bA.next hb1
  have below1 := bnext below0 hb1
  clear bA below0 hb1
  rw [HX.out]
  go_wp2_with fail
  refine (cut_dot _ HS2.out _).mono ?_; rintro e w2 ⟨rfl, hb2⟩
  have bA2 := bA1.next hb2
  have below2 := bnext below1 hb2
  clear bA1 below1 hb2
  rw [HY.out, HZ.out]
  go_wp2_with fail
  have bA3 := bA2.past (.cells #[.int .i64 0, .int .i64 0, .int .i64 0] 56)
  have bN3 := Bx.fresh w2 56 #[.int .i64 0, .int .i64 0, .int .i64 0]
  have below3 : Below w.heap.size w (w2.alloc (.cells #[.int .i64 0, .int .i64 0, .int .i64 0] 56)) := below2.alloc below2.size _
  have hne : w.heap.size < w2.heap.size := bA2.inside
  generalize w2.heap.size = N at *
  generalize w2.alloc (.cells #[.int .i64 0, .int .i64 0, .int .i64 0] 56) = W3 at *
  clear bA2 below2
  have i0 : ∀ w, (Instr.index 57 (.agg #[.string X, .string Y, .string Z]) (.int .i64 0)).run Try.prog w = .ok (.string X) w := fun _ => by kernel_rfl
  have i1 : ∀ w, (Instr.index 57 (.agg #[.string X, .string Y, .string Z]) (.int .i64 1)).run Try.prog w = .ok (.string Y) w := fun _ => by kernel_rfl
  have i2 : ∀ w, (Instr.index 57 (.agg #[.string X, .string Y, .string Z]) (.int .i64 2)).run Try.prog w = .ok (.string Z) w := fun _ => by kernel_rfl
  refine wp_loop_rounds 4 ?_
  rw [rounds_succ]
  go_wp2_with fail
  refine (H1.out _).mono ?_; rintro e w4 ⟨rfl, hb4⟩
  have bA4 := bA3.next hb4
  have bN4 := bN3.next hb4
  have below4 := bnext below3 hb4
  have c4 := bN4.read (i := 0) rfl
  have f4 := bN4.open_ 0
  clear bA3 bN3 below3 hb4
  go_wp2_with fail
  rw [rounds_succ]
  have bN5 := bN4.put 0 (.int .i64 a)
  have bA5 := bA4.beside (p := ⟨N, 0, none⟩) (show N ≠ w.heap.size by omega) (.int .i64 a)
  have below5 := below4.setCell (p := ⟨N, 0, none⟩) (show w.heap.size ≤ N by omega) (.int .i64 a)
  clear c4 f4 bA4 bN4 below4
  generalize w4.setCell ⟨N, 0, none⟩ (.int .i64 a) = W5 at *
  go_wp2_with fail
  refine (H2.out _).mono ?_; rintro e w6 ⟨rfl, hb6⟩
  have bA6 := bA5.next hb6
  have bN6 := bN5.next hb6
  have below6 := bnext below5 hb6
  have c6 := bN6.read (i := 1) rfl
  have f6 := bN6.open_ 1
  clear bA5 bN5 below5 hb6
  go_wp2_with fail
  rw [rounds_succ]
  have bN7 := bN6.put 1 (.int .i64 b)
  have bA7 := bA6.beside (p := ⟨N, 1, none⟩) (show N ≠ w.heap.size by omega) (.int .i64 b)
  have below7 := below6.setCell (p := ⟨N, 1, none⟩) (show w.heap.size ≤ N by omega) (.int .i64 b)
  clear c6 f6 bA6 bN6 below6
  generalize w6.setCell ⟨N, 1, none⟩ (.int .i64 b) = W7 at *
  go_wp2_with fail
  refine (H3.out _).mono ?_; rintro e w8 ⟨rfl, hb8⟩
  have bA8 := bA7.next hb8
  have bN8 := bN7.next hb8
  have below8 := bnext below7 hb8
  have c8 := bN8.read (i := 2) rfl
  have f8 := bN8.open_ 2
  clear bA7 bN7 below7 hb8
  go_wp2_with fail
  rw [rounds_succ]
  have bN9 := bN8.put 2 (.int .i64 c)
  have bA9 := bA8.beside (p := ⟨N, 2, none⟩) (show N ≠ w.heap.size by omega) (.int .i64 c)
  have below9 := below8.setCell (p := ⟨N, 2, none⟩) (show w.heap.size ≤ N by omega) (.int .i64 c)
  clear c8 f8 bA8 bN8 below8
  generalize w8.setCell ⟨N, 2, none⟩ (.int .i64 c) = W9 at *
  have r0 := bN9.read (i := 0) (v := .int .i64 a) rfl
  have r1 := bN9.read (i := 1) (v := .int .i64 b) rfl
  have r2 := bN9.read (i := 2) (v := .int .i64 c) rfl
  have s0 := bA9.read (i := 0) (v := .int .i64 0) rfl
  have t0 := bA9.open_ 0
  have s1 := bA9.read (i := 1) (v := .int .i64 0) rfl
  have t1 := bA9.open_ 1
  have s2 := bA9.read (i := 2) (v := .int .i64 0) rfl
  have t2 := bA9.open_ 2
  go_wp2_with fail
  have bZ := ((bA9.put 0 (.int .i64 a)).put 1 (.int .i64 b)).put 2 (.int .i64 c)
  have belowZ := ((below9.setCell (p := ⟨w.heap.size, 0, none⟩) (Nat.le_refl _) (.int .i64 a)).setCell (p := ⟨w.heap.size, 1, none⟩) (Nat.le_refl _) (.int .i64 b)).setCell (p := ⟨w.heap.size, 2, none⟩) (Nat.le_refl _) (.int .i64 c)
  generalize ((W9.setCell ⟨w.heap.size, 0, none⟩ (.int .i64 a)).setCell ⟨w.heap.size, 1, none⟩ (.int .i64 b)).setCell ⟨w.heap.size, 2, none⟩ (.int .i64 c) = WZ at *
  have q0 := bZ.read (i := 0) (v := .int .i64 a) rfl
  have q1 := bZ.read (i := 1) (v := .int .i64 b) rfl
  have q2 := bZ.read (i := 2) (v := .int .i64 c) rfl
  exact bodyPost_ret (v := .tuple #[.agg #[.int .i64 a, .int .i64 b, .int .i64 c], .int .i64 0]) (by simp [results, Try.results23, go_sem, q0, q1, q2]) rfl ⟨rfl, belowZ⟩

set_option maxHeartbeats 1000000 in
theorem readstamp_bad0 (s : ByteArray) (hs : s.size ≤ maxLen) (hs2 : (cutA s).size ≤ maxLen) (h1 : okNum (cutB s).data.toList = false) (w : World) :
    Calls Try.prog 23 #[.string s] w fun e w' => e = .returned (.tuple #[.agg #[.int .i64 0, .int .i64 0, .int .i64 0], .int .i64 20]) ∧ Below w.heap.size w w' := by
  have R1 := read_bad (cutB s) h1
  have H1 := Hid.mk' R1
  have HS := Hid.mk' hs
  have HS2 := Hid.mk' hs2
  clear R1 h1  hs hs2
  generalize hX : cutB s = X at *
  generalize hY : cutB (cutA s) = Y at *
  generalize hZ : cutA (cutA s) = Z at *
  have HX := Hid.mk' hX
  have HY := Hid.mk' hY
  have HZ := Hid.mk' hZ
  clear hX hY hZ
  go_enter Try.func23, Try.ntmps23
  go_wp2_with fail
  have bA := Bx.fresh w 41 #[.int .i64 0, .int .i64 0, .int .i64 0]
  have below0 : Below w.heap.size w (w.alloc (.cells #[.int .i64 0, .int .i64 0, .int .i64 0] 41)) := (Below.refl _ _).alloc (Nat.le_refl _) _
  refine (cut_dot _ HS.out _).mono ?_; rintro e w1 ⟨rfl, hb1⟩
  have bA1 := bA.next hb1
  have below1 := bnext below0 hb1
  clear bA below0 hb1
  rw [HX.out]
  go_wp2_with fail
  refine (cut_dot _ HS2.out _).mono ?_; rintro e w2 ⟨rfl, hb2⟩
  have bA2 := bA1.next hb2
  have below2 := bnext below1 hb2
  clear bA1 below1 hb2
  rw [HY.out, HZ.out]
  go_wp2_with fail
  have bA3 := bA2.past (.cells #[.int .i64 0, .int .i64 0, .int .i64 0] 56)
  have bN3 := Bx.fresh w2 56 #[.int .i64 0, .int .i64 0, .int .i64 0]
  have below3 : Below w.heap.size w (w2.alloc (.cells #[.int .i64 0, .int .i64 0, .int .i64 0] 56)) := below2.alloc below2.size _
  have hne : w.heap.size < w2.heap.size := bA2.inside
  generalize w2.heap.size = N at *
  generalize w2.alloc (.cells #[.int .i64 0, .int .i64 0, .int .i64 0] 56) = W3 at *
  clear bA2 below2
  have i0 : ∀ w, (Instr.index 57 (.agg #[.string X, .string Y, .string Z]) (.int .i64 0)).run Try.prog w = .ok (.string X) w := fun _ => by kernel_rfl
  have i1 : ∀ w, (Instr.index 57 (.agg #[.string X, .string Y, .string Z]) (.int .i64 1)).run Try.prog w = .ok (.string Y) w := fun _ => by kernel_rfl
  have i2 : ∀ w, (Instr.index 57 (.agg #[.string X, .string Y, .string Z]) (.int .i64 2)).run Try.prog w = .ok (.string Z) w := fun _ => by kernel_rfl
  refine wp_loop_rounds 4 ?_
  rw [rounds_succ]
  go_wp2_with fail
  refine (H1.out _).mono ?_; rintro e w4 ⟨rfl, hb4⟩
  have bA4 := bA3.next hb4
  have below4 := bnext below3 hb4
  clear bA3 below3 hb4 bN3
  have s0 := bA4.read (i := 0) (v := .int .i64 0) rfl
  have t0 := bA4.open_ 0
  have s1 := bA4.read (i := 1) (v := .int .i64 0) rfl
  have t1 := bA4.open_ 1
  have s2 := bA4.read (i := 2) (v := .int .i64 0) rfl
  have t2 := bA4.open_ 2
  go_wp2_with fail
  have bZ := ((bA4.put 0 (.int .i64 0)).put 1 (.int .i64 0)).put 2 (.int .i64 0)
  have belowZ := ((below4.setCell (p := ⟨w.heap.size, 0, none⟩) (Nat.le_refl _) (.int .i64 0)).setCell (p := ⟨w.heap.size, 1, none⟩) (Nat.le_refl _) (.int .i64 0)).setCell (p := ⟨w.heap.size, 2, none⟩) (Nat.le_refl _) (.int .i64 0)
  generalize ((w4.setCell ⟨w.heap.size, 0, none⟩ (.int .i64 0)).setCell ⟨w.heap.size, 1, none⟩ (.int .i64 0)).setCell ⟨w.heap.size, 2, none⟩ (.int .i64 0) = WZ at *
  have q0 := bZ.read (i := 0) (v := .int .i64 0) rfl
  have q1 := bZ.read (i := 1) (v := .int .i64 0) rfl
  have q2 := bZ.read (i := 2) (v := .int .i64 0) rfl
  exact bodyPost_ret (v := .tuple #[.agg #[.int .i64 0, .int .i64 0, .int .i64 0], .int .i64 20]) (by simp [results, Try.results23, go_sem, q0, q1, q2]) rfl ⟨rfl, belowZ⟩

set_option maxHeartbeats 1000000 in
theorem readstamp_bad1 (s : ByteArray) (hs : s.size ≤ maxLen) (hs2 : (cutA s).size ≤ maxLen) (a : Int) (h1 : okNum (cutB s).data.toList = true) (e1 : (num (cutB s).data.toList : Int) = a) (h2 : okNum (cutB (cutA s)).data.toList = false) (w : World) :
    Calls Try.prog 23 #[.string s] w fun e w' => e = .returned (.tuple #[.agg #[.int .i64 0, .int .i64 0, .int .i64 0], .int .i64 20]) ∧ Below w.heap.size w w' := by
  have R1 := read_ok (cutB s) a h1 e1
  have R2 := read_bad (cutB (cutA s)) h2
  have H1 := Hid.mk' R1
  have H2 := Hid.mk' R2
  have HS := Hid.mk' hs
  have HS2 := Hid.mk' hs2
  clear R1 h1 R2 h2 e1 hs hs2
  generalize hX : cutB s = X at *
  generalize hY : cutB (cutA s) = Y at *
  generalize hZ : cutA (cutA s) = Z at *
  have HX := Hid.mk' hX
  have HY := Hid.mk' hY
  have HZ := Hid.mk' hZ
  clear hX hY hZ
  go_enter Try.func23, Try.ntmps23
  go_wp2_with fail
  have bA := Bx.fresh w 41 #[.int .i64 0, .int .i64 0, .int .i64 0]
  have below0 : Below w.heap.size w (w.alloc (.cells #[.int .i64 0, .int .i64 0, .int .i64 0] 41)) := (Below.refl _ _).alloc (Nat.le_refl _) _
  refine (cut_dot _ HS.out _).mono ?_; rintro e w1 ⟨rfl, hb1⟩
  have bA1 := bA.next hb1
  have below1 := bnext below0 hb1
  clear bA below0 hb1
  rw [HX.out]
  go_wp2_with fail
  refine (cut_dot _ HS2.out _).mono ?_; rintro e w2 ⟨rfl, hb2⟩
  have bA2 := bA1.next hb2
  have below2 := bnext below1 hb2
  clear bA1 below1 hb2
  rw [HY.out, HZ.out]
  go_wp2_with fail
  have bA3 := bA2.past (.cells #[.int .i64 0, .int .i64 0, .int .i64 0] 56)
  have bN3 := Bx.fresh w2 56 #[.int .i64 0, .int .i64 0, .int .i64 0]
  have below3 : Below w.heap.size w (w2.alloc (.cells #[.int .i64 0, .int .i64 0, .int .i64 0] 56)) := below2.alloc below2.size _
  have hne : w.heap.size < w2.heap.size := bA2.inside
  generalize w2.heap.size = N at *
  generalize w2.alloc (.cells #[.int .i64 0, .int .i64 0, .int .i64 0] 56) = W3 at *
  clear bA2 below2
  have i0 : ∀ w, (Instr.index 57 (.agg #[.string X, .string Y, .string Z]) (.int .i64 0)).run Try.prog w = .ok (.string X) w := fun _ => by kernel_rfl
  have i1 : ∀ w, (Instr.index 57 (.agg #[.string X, .string Y, .string Z]) (.int .i64 1)).run Try.prog w = .ok (.string Y) w := fun _ => by kernel_rfl
  have i2 : ∀ w, (Instr.index 57 (.agg #[.string X, .string Y, .string Z]) (.int .i64 2)).run Try.prog w = .ok (.string Z) w := fun _ => by kernel_rfl
  refine wp_loop_rounds 4 ?_
  rw [rounds_succ]
  go_wp2_with fail
  refine (H1.out _).mono ?_; rintro e w4 ⟨rfl, hb4⟩
  have bA4 := bA3.next hb4
  have bN4 := bN3.next hb4
  have below4 := bnext below3 hb4
  have c4 := bN4.read (i := 0) rfl
  have f4 := bN4.open_ 0
  clear bA3 bN3 below3 hb4
  go_wp2_with fail
  rw [rounds_succ]
  have bN5 := bN4.put 0 (.int .i64 a)
  have bA5 := bA4.beside (p := ⟨N, 0, none⟩) (show N ≠ w.heap.size by omega) (.int .i64 a)
  have below5 := below4.setCell (p := ⟨N, 0, none⟩) (show w.heap.size ≤ N by omega) (.int .i64 a)
  clear c4 f4 bA4 bN4 below4
  generalize w4.setCell ⟨N, 0, none⟩ (.int .i64 a) = W5 at *
  go_wp2_with fail
  refine (H2.out _).mono ?_; rintro e w6 ⟨rfl, hb6⟩
  have bA6 := bA5.next hb6
  have below6 := bnext below5 hb6
  clear bA5 below5 hb6 bN5
  have s0 := bA6.read (i := 0) (v := .int .i64 0) rfl
  have t0 := bA6.open_ 0
  have s1 := bA6.read (i := 1) (v := .int .i64 0) rfl
  have t1 := bA6.open_ 1
  have s2 := bA6.read (i := 2) (v := .int .i64 0) rfl
  have t2 := bA6.open_ 2
  go_wp2_with fail
  have bZ := ((bA6.put 0 (.int .i64 0)).put 1 (.int .i64 0)).put 2 (.int .i64 0)
  have belowZ := ((below6.setCell (p := ⟨w.heap.size, 0, none⟩) (Nat.le_refl _) (.int .i64 0)).setCell (p := ⟨w.heap.size, 1, none⟩) (Nat.le_refl _) (.int .i64 0)).setCell (p := ⟨w.heap.size, 2, none⟩) (Nat.le_refl _) (.int .i64 0)
  generalize ((w6.setCell ⟨w.heap.size, 0, none⟩ (.int .i64 0)).setCell ⟨w.heap.size, 1, none⟩ (.int .i64 0)).setCell ⟨w.heap.size, 2, none⟩ (.int .i64 0) = WZ at *
  have q0 := bZ.read (i := 0) (v := .int .i64 0) rfl
  have q1 := bZ.read (i := 1) (v := .int .i64 0) rfl
  have q2 := bZ.read (i := 2) (v := .int .i64 0) rfl
  exact bodyPost_ret (v := .tuple #[.agg #[.int .i64 0, .int .i64 0, .int .i64 0], .int .i64 20]) (by simp [results, Try.results23, go_sem, q0, q1, q2]) rfl ⟨rfl, belowZ⟩

set_option maxHeartbeats 1000000 in
theorem readstamp_bad2 (s : ByteArray) (hs : s.size ≤ maxLen) (hs2 : (cutA s).size ≤ maxLen) (a b : Int) (h1 : okNum (cutB s).data.toList = true) (h2 : okNum (cutB (cutA s)).data.toList = true) (e1 : (num (cutB s).data.toList : Int) = a) (e2 : (num (cutB (cutA s)).data.toList : Int) = b) (h3 : okNum (cutA (cutA s)).data.toList = false) (w : World) :
    Calls Try.prog 23 #[.string s] w fun e w' => e = .returned (.tuple #[.agg #[.int .i64 0, .int .i64 0, .int .i64 0], .int .i64 20]) ∧ Below w.heap.size w w' := by
  have R1 := read_ok (cutB s) a h1 e1
  have R2 := read_ok (cutB (cutA s)) b h2 e2
  have R3 := read_bad (cutA (cutA s)) h3
  have H1 := Hid.mk' R1
  have H2 := Hid.mk' R2
  have H3 := Hid.mk' R3
  have HS := Hid.mk' hs
  have HS2 := Hid.mk' hs2
  clear R1 h1 R2 h2 R3 h3 e1 e2 hs hs2
  generalize hX : cutB s = X at *
  generalize hY : cutB (cutA s) = Y at *
  generalize hZ : cutA (cutA s) = Z at *
  have HX := Hid.mk' hX
  have HY := Hid.mk' hY
  have HZ := Hid.mk' hZ
  clear hX hY hZ
  go_enter Try.func23, Try.ntmps23
  go_wp2_with fail
  have bA := Bx.fresh w 41 #[.int .i64 0, .int .i64 0, .int .i64 0]
  have below0 : Below w.heap.size w (w.alloc (.cells #[.int .i64 0, .int .i64 0, .int .i64 0] 41)) := (Below.refl _ _).alloc (Nat.le_refl _) _
  refine (cut_dot _ HS.out _).mono ?_; rintro e w1 ⟨rfl, hb1⟩
  have bA1 := bA.next hb1
  have below1 := bnext below0 hb1
  clear bA below0 hb1
  rw [HX.out]
  go_wp2_with fail
  refine (cut_dot _ HS2.out _).mono ?_; rintro e w2 ⟨rfl, hb2⟩
  have bA2 := bA1.next hb2
  have below2 := bnext below1 hb2
  clear bA1 below1 hb2
  rw [HY.out, HZ.out]
  go_wp2_with fail
  have bA3 := bA2.past (.cells #[.int .i64 0, .int .i64 0, .int .i64 0] 56)
  have bN3 := Bx.fresh w2 56 #[.int .i64 0, .int .i64 0, .int .i64 0]
  have below3 : Below w.heap.size w (w2.alloc (.cells #[.int .i64 0, .int .i64 0, .int .i64 0] 56)) := below2.alloc below2.size _
  have hne : w.heap.size < w2.heap.size := bA2.inside
  generalize w2.heap.size = N at *
  generalize w2.alloc (.cells #[.int .i64 0, .int .i64 0, .int .i64 0] 56) = W3 at *
  clear bA2 below2
  have i0 : ∀ w, (Instr.index 57 (.agg #[.string X, .string Y, .string Z]) (.int .i64 0)).run Try.prog w = .ok (.string X) w := fun _ => by kernel_rfl
  have i1 : ∀ w, (Instr.index 57 (.agg #[.string X, .string Y, .string Z]) (.int .i64 1)).run Try.prog w = .ok (.string Y) w := fun _ => by kernel_rfl
  have i2 : ∀ w, (Instr.index 57 (.agg #[.string X, .string Y, .string Z]) (.int .i64 2)).run Try.prog w = .ok (.string Z) w := fun _ => by kernel_rfl
  refine wp_loop_rounds 4 ?_
  rw [rounds_succ]
  go_wp2_with fail
  refine (H1.out _).mono ?_; rintro e w4 ⟨rfl, hb4⟩
  have bA4 := bA3.next hb4
  have bN4 := bN3.next hb4
  have below4 := bnext below3 hb4
  have c4 := bN4.read (i := 0) rfl
  have f4 := bN4.open_ 0
  clear bA3 bN3 below3 hb4
  go_wp2_with fail
  rw [rounds_succ]
  have bN5 := bN4.put 0 (.int .i64 a)
  have bA5 := bA4.beside (p := ⟨N, 0, none⟩) (show N ≠ w.heap.size by omega) (.int .i64 a)
  have below5 := below4.setCell (p := ⟨N, 0, none⟩) (show w.heap.size ≤ N by omega) (.int .i64 a)
  clear c4 f4 bA4 bN4 below4
  generalize w4.setCell ⟨N, 0, none⟩ (.int .i64 a) = W5 at *
  go_wp2_with fail
  refine (H2.out _).mono ?_; rintro e w6 ⟨rfl, hb6⟩
  have bA6 := bA5.next hb6
  have bN6 := bN5.next hb6
  have below6 := bnext below5 hb6
  have c6 := bN6.read (i := 1) rfl
  have f6 := bN6.open_ 1
  clear bA5 bN5 below5 hb6
  go_wp2_with fail
  rw [rounds_succ]
  have bN7 := bN6.put 1 (.int .i64 b)
  have bA7 := bA6.beside (p := ⟨N, 1, none⟩) (show N ≠ w.heap.size by omega) (.int .i64 b)
  have below7 := below6.setCell (p := ⟨N, 1, none⟩) (show w.heap.size ≤ N by omega) (.int .i64 b)
  clear c6 f6 bA6 bN6 below6
  generalize w6.setCell ⟨N, 1, none⟩ (.int .i64 b) = W7 at *
  go_wp2_with fail
  refine (H3.out _).mono ?_; rintro e w8 ⟨rfl, hb8⟩
  have bA8 := bA7.next hb8
  have below8 := bnext below7 hb8
  clear bA7 below7 hb8 bN7
  have s0 := bA8.read (i := 0) (v := .int .i64 0) rfl
  have t0 := bA8.open_ 0
  have s1 := bA8.read (i := 1) (v := .int .i64 0) rfl
  have t1 := bA8.open_ 1
  have s2 := bA8.read (i := 2) (v := .int .i64 0) rfl
  have t2 := bA8.open_ 2
  go_wp2_with fail
  have bZ := ((bA8.put 0 (.int .i64 0)).put 1 (.int .i64 0)).put 2 (.int .i64 0)
  have belowZ := ((below8.setCell (p := ⟨w.heap.size, 0, none⟩) (Nat.le_refl _) (.int .i64 0)).setCell (p := ⟨w.heap.size, 1, none⟩) (Nat.le_refl _) (.int .i64 0)).setCell (p := ⟨w.heap.size, 2, none⟩) (Nat.le_refl _) (.int .i64 0)
  generalize ((w8.setCell ⟨w.heap.size, 0, none⟩ (.int .i64 0)).setCell ⟨w.heap.size, 1, none⟩ (.int .i64 0)).setCell ⟨w.heap.size, 2, none⟩ (.int .i64 0) = WZ at *
  have q0 := bZ.read (i := 0) (v := .int .i64 0) rfl
  have q1 := bZ.read (i := 1) (v := .int .i64 0) rfl
  have q2 := bZ.read (i := 2) (v := .int .i64 0) rfl
  exact bodyPost_ret (v := .tuple #[.agg #[.int .i64 0, .int .i64 0, .int .i64 0], .int .i64 20]) (by simp [results, Try.results23, go_sem, q0, q1, q2]) rfl ⟨rfl, belowZ⟩
end Go.Proofs.Ytnhonjhpggnglaa
