/- Layer 2 (nums): a stamp read by definition; the statement on stamps. -/
import Derived.Test.YtnhonjhpggnglaaNg
namespace Go.Proofs.Ytnhonjhpggnglaa
open Go.RowKit

theorem dots_app : ∀ (l : List UInt8) (A B : List (List UInt8)) (x : List UInt8), l.foldl dotStep (A ++ B, x) = (A ++ (l.foldl dotStep (B, x)).1, (l.foldl dotStep (B, x)).2)
  | [], _, _, _ => rfl
  | c :: l, A, B, x => by
    simp only [List.foldl_cons]
    unfold dotStep
    by_cases h : c = 46
    · simp only [h, if_true, List.append_assoc]; exact dots_app l A (B ++ [x]) []
    · simp only [h, if_false]; exact dots_app l A B (x ++ [c])
theorem dots_tw : ∀ (l : List UInt8) (A : List (List UInt8)) (x : List UInt8), l.foldl dotStep (A, x) =
    if l.any (· == 46) then ((l.dropWhile (· != 46)).drop 1).foldl dotStep (A ++ [x ++ l.takeWhile (· != 46)], []) else (A, x ++ l)
  | [], _, _ => by simp
  | c :: l, A, x => by
    by_cases h : c = 46
    · subst h; simp [dotStep]
    · have hb : (c != 46) = true := by simpa [bne] using h
      have hb' : (c == 46) = false := by simpa using h
      simp only [List.foldl_cons, dotStep, if_neg h]
      rw [dots_tw l A (x ++ [c])]
      simp only [List.any_cons, hb', Bool.false_or, List.dropWhile_cons, List.takeWhile_cons, hb, if_true, List.append_assoc]
      rfl
theorem dots_no (s : ByteArray) (h : cutF s = false) : dots s.data.toList = ([], s.data.toList) := by
  unfold dots
  rw [dots_tw]
  unfold cutF at h
  rw [h]; rfl
theorem dots_yes (s : ByteArray) (h : cutF s = true) : dots s.data.toList = ((cutB s).data.toList :: (dots (cutA s).data.toList).1, (dots (cutA s).data.toList).2) := by
  unfold dots
  rw [dots_tw]
  unfold cutF at h
  rw [if_pos h]
  have := dots_app (cutA s).data.toList [(cutB s).data.toList] [] []
  simpa [cutA, cutB] using this

theorem ok_empty : okNum (ByteArray.empty).data.toList = false := by decide
theorem cutF_bad (s : ByteArray) (h : cutF s = true) : okNum s.data.toList = false := by
  unfold cutF at h
  obtain ⟨c, hc, he⟩ := List.any_eq_true.1 h
  have : c = 46 := by simpa using he
  subst this
  exact ok_no_digit _ _ hc (by decide)
theorem cut_empty : cutB ByteArray.empty = ByteArray.empty ∧ cutA ByteArray.empty = ByteArray.empty ∧ cutF ByteArray.empty = false := ⟨rfl, rfl, rfl⟩

/-- Does the text tell a stamp? -/
def stOk (s : ByteArray) : Bool := okNum (cutB s).data.toList && (okNum (cutB (cutA s)).data.toList && okNum (cutA (cutA s)).data.toList)
theorem stOk_iff (s : ByteArray) : stOk s = true ↔ okNum (cutB s).data.toList = true ∧ okNum (cutB (cutA s)).data.toList = true ∧ okNum (cutA (cutA s)).data.toList = true := by simp [stOk]
/-- If there are not just three parts it does not. -/
theorem stOk_three (s : ByteArray) (h : stOk s = true) : cutF s = true ∧ cutF (cutA s) = true ∧ cutF (cutA (cutA s)) = false := by
  rw [stOk_iff] at h
  obtain ⟨h1, h2, h3⟩ := h
  have f1 : cutF s = true := by
    cases hf : cutF s with
    | true => rfl
    | false =>
      rw [(cut_none s hf).2, cut_empty.1, ok_empty] at h2; cases h2
  have f2 : cutF (cutA s) = true := by
    cases hf : cutF (cutA s) with
    | true => rfl
    | false =>
      rw [(cut_none _ hf).2, ok_empty] at h3; cases h3
  have f3 : cutF (cutA (cutA s)) = false := by
    cases hf : cutF (cutA (cutA s)) with
    | false => rfl
    | true => rw [cutF_bad _ hf] at h3; cases h3
  exact ⟨f1, f2, f3⟩
theorem dots_three (s : ByteArray) (h1 : cutF s = true) (h2 : cutF (cutA s) = true) (h3 : cutF (cutA (cutA s)) = false) :
    dots s.data.toList = ([(cutB s).data.toList, (cutB (cutA s)).data.toList], (cutA (cutA s)).data.toList) := by
  rw [dots_yes s h1, dots_yes _ h2, dots_no _ h3]
theorem dots_count (s : ByteArray) (h : (dots s.data.toList).1.length = 2) : cutF s = true ∧ cutF (cutA s) = true ∧ cutF (cutA (cutA s)) = false := by
  cases h1 : cutF s with
  | false => rw [dots_no s h1] at h; cases h
  | true =>
    rw [dots_yes s h1] at h
    cases h2 : cutF (cutA s) with
    | false => rw [dots_no _ h2] at h; cases h
    | true =>
      rw [dots_yes _ h2] at h
      cases h3 : cutF (cutA (cutA s)) with
      | false => exact ⟨rfl, rfl, rfl⟩
      | true => rw [dots_yes _ h3] at h; simp at h

theorem cutA_size (s : ByteArray) : (cutA s).size ≤ s.size := by
  have h : (cutA s).size = ((s.data.toList.dropWhile (· != 46)).drop 1).length := by rw [← len_data]; rfl
  have h2 : (s.data.toList.dropWhile (· != 46)).length ≤ s.data.toList.length := (List.dropWhile_sublist _).length_le
  rw [len_data] at h2
  rw [h, List.length_drop]; omega
theorem cutB_size (s : ByteArray) : (cutB s).size ≤ s.size := by
  have h : (cutB s).size = (s.data.toList.takeWhile (· != 46)).length := by rw [← len_data]; rfl
  have h2 : (s.data.toList.takeWhile (· != 46)).length ≤ s.data.toList.length := (List.takeWhile_sublist _).length_le
  rw [len_data] at h2
  omega

theorem readstamp_yes (s : ByteArray) (hs : s.size ≤ maxLen) (h : stOk s = true) (a b c : Int) (e1 : (num (cutB s).data.toList : Int) = a) (e2 : (num (cutB (cutA s)).data.toList : Int) = b) (e3 : (num (cutA (cutA s)).data.toList : Int) = c) (w : World) :
    Calls Try.prog 23 #[.string s] w fun e w' => e = .returned (.tuple #[.agg #[.int .i64 a, .int .i64 b, .int .i64 c], .int .i64 0]) ∧ Below w.heap.size w w' := by
  rw [stOk_iff] at h
  exact readstamp_ok s hs (Nat.le_trans (cutA_size s) hs) a b c h.1 h.2.1 h.2.2 e1 e2 e3 w
theorem readstamp_no (s : ByteArray) (hs : s.size ≤ maxLen) (h : stOk s = false) (w : World) :
    Calls Try.prog 23 #[.string s] w fun e w' => e = .returned (.tuple #[.agg #[.int .i64 0, .int .i64 0, .int .i64 0], .int .i64 20]) ∧ Below w.heap.size w w' := by
  have hs2 := Nat.le_trans (cutA_size s) hs
  cases h1 : okNum (cutB s).data.toList with
  | false => exact readstamp_bad0 s hs hs2 h1 w
  | true =>
    cases h2 : okNum (cutB (cutA s)).data.toList with
    | false => exact readstamp_bad1 s hs hs2 _ h1 rfl h2 w
    | true =>
      cases h3 : okNum (cutA (cutA s)).data.toList with
      | false => exact readstamp_bad2 s hs hs2 _ _ h1 h2 rfl rfl h3 w
      | true => rw [(stOk_iff s).2 ⟨h1, h2, h3⟩] at h; cases h

/-- A stamp's three numbers, whatever they are, and false. -/
def NoStamp (w : World) (e : Ending) (w' : World) : Prop := ∃ a b c : Int, e = .returned (.tuple #[.agg #[.int .i64 a, .int .i64 b, .int .i64 c], .bool false]) ∧ Below w.heap.size w w'

set_option maxHeartbeats 1000000 in
theorem refreadstamp_few (s : ByteArray) (hs : s.size ≤ 1000) (h : (dots s.data.toList).1.length ≠ 2) (w : World) :
    Calls Try.prog 24 #[.string s] w (NoStamp w) := by
  have hlen := dots_len s.data.toList
  rw [len_data] at hlen
  have hb : ((((dots s.data.toList).1.length : Nat) : Int) + 1 != 3) = true := by
    rw [bne_iff_ne]; intro e; apply h; omega
  have PA := Hid.mk' (parts_any s hs)
  clear h
  generalize (dots s.data.toList).1.length = n at *
  go_enter Try.func24, Try.ntmps24
  go_wp2_with fail
  have bA := Bx.fresh w 41 #[.int .i64 0, .int .i64 0, .int .i64 0]
  have below0 : Below w.heap.size w (w.alloc (.cells #[.int .i64 0, .int .i64 0, .int .i64 0] 41)) := (Below.refl _ _).alloc (Nat.le_refl _) _
  refine (PA.out _).mono ?_; rintro e w1 ⟨v, rfl, hown, hb1⟩
  obtain ⟨g, cap, hv, hbg, hg⟩ := hown.form (by omega)
  subst hv
  have bA1 := bA.next hb1
  have below1 := bnext below0 hb1
  have s0 := bA1.read (i := 0) (v := .int .i64 0) rfl
  have s1 := bA1.read (i := 1) (v := .int .i64 0) rfl
  have s2 := bA1.read (i := 2) (v := .int .i64 0) rfl
  have t0 := bA1.open_ 0
  have t1 := bA1.open_ 1
  have t2 := bA1.open_ 2
  clear bA below0 hb1
  go_wp2_with fail
  have bZ := ((bA1.put 0 (.int .i64 0)).put 1 (.int .i64 0)).put 2 (.int .i64 0)
  have belowZ := ((below1.setCell (p := ⟨w.heap.size, 0, none⟩) (Nat.le_refl _) (.int .i64 0)).setCell (p := ⟨w.heap.size, 1, none⟩) (Nat.le_refl _) (.int .i64 0)).setCell (p := ⟨w.heap.size, 2, none⟩) (Nat.le_refl _) (.int .i64 0)
  generalize ((w1.setCell ⟨w.heap.size, 0, none⟩ (.int .i64 0)).setCell ⟨w.heap.size, 1, none⟩ (.int .i64 0)).setCell ⟨w.heap.size, 2, none⟩ (.int .i64 0) = WZ at *
  have q0 := bZ.read (i := 0) (v := .int .i64 0) rfl
  have q1 := bZ.read (i := 1) (v := .int .i64 0) rfl
  have q2 := bZ.read (i := 2) (v := .int .i64 0) rfl
  exact bodyPost_ret (v := .tuple #[.agg #[.int .i64 0, .int .i64 0, .int .i64 0], .bool false]) (by simp [results, Try.results24, go_sem, q0, q1, q2]) rfl ⟨0, 0, 0, rfl, belowZ⟩

set_option maxHeartbeats 1000000 in
theorem refreadstamp_three (s : ByteArray) (hs : s.size ≤ 1000) (h1 : cutF s = true) (h2 : cutF (cutA s) = true) (h3 : cutF (cutA (cutA s)) = false) (a b c : Int) (x y z : Bool)
    (ea : refVal (cutB s) = a) (eb : refVal (cutB (cutA s)) = b) (ec : refVal (cutA (cutA s)) = c) (ex : okNum (cutB s).data.toList = x) (ey : okNum (cutB (cutA s)).data.toList = y) (ez : okNum (cutA (cutA s)).data.toList = z) (w : World) :
    Calls Try.prog 24 #[.string s] w fun e w' => e = .returned (.tuple #[.agg #[.int .i64 a, .int .i64 b, .int .i64 c], .bool (x && (y && z))]) ∧ Below w.heap.size w w' := by
  have hd := dots_three s h1 h2 h3
  have PA0 := parts_any s hs
  unfold partsV at PA0
  rw [hd] at PA0
  have PA := Hid.mk' PA0
  have hm : maxLen = 9223372036854775807 := rfl
  have z1 := cutB_size s
  have z2 := cutA_size s
  have z3 := cutB_size (cutA s)
  have z4 := cutA_size (cutA s)
  have C1 := Hid.mk' (refread_any (cutB s) · (by omega))
  have C2 := Hid.mk' (refread_any (cutB (cutA s)) · (by omega))
  have C3 := Hid.mk' (refread_any (cutA (cutA s)) · (by omega))
  rw [ea, ex] at C1
  rw [eb, ey] at C2
  rw [ec, ez] at C3
  clear h1 h2 h3 hd PA0 ea eb ec ex ey ez hm
  go_enter Try.func24, Try.ntmps24
  go_wp2_with fail
  have bA := Bx.fresh w 41 #[.int .i64 0, .int .i64 0, .int .i64 0]
  have below0 : Below w.heap.size w (w.alloc (.cells #[.int .i64 0, .int .i64 0, .int .i64 0] 41)) := (Below.refl _ _).alloc (Nat.le_refl _) _
  refine (PA.out _).mono ?_; rintro e w1 ⟨v, rfl, hown, hb1⟩
  obtain ⟨g, cap, hv, hbg, hg⟩ := hown.form (by simp)
  subst hv
  have c0 := hown.cellAt 0 (by simp)
  have c1 := hown.cellAt 1 (by simp)
  have c2 := hown.cellAt 2 (by simp)
  have d0 : w1.cell? ⟨g, 0, none⟩ = some (.string (cutB s)) := by rw [c0]; simp [mkB_of]
  have d1 : w1.cell? ⟨g, 1, none⟩ = some (.string (cutB (cutA s))) := by rw [c1]; simp [mkB_of]
  have d2 : w1.cell? ⟨g, 2, none⟩ = some (.string (cutA (cutA s))) := by rw [c2]; simp [mkB_of]
  have bA1 := bA.next hb1
  have below1 := bnext below0 hb1
  clear bA below0 hb1 c0 c1 c2 hown
  go_wp2_with fail
  refine (C1.out _).mono ?_; rintro e w2 ⟨rfl, hb2⟩
  have d1' := (hb2.cell (p := ⟨g, 1, none⟩) hg).trans d1
  clear d1
  have d1 := d1'
  clear d1'
  have d2' := (hb2.cell (p := ⟨g, 2, none⟩) hg).trans d2
  clear d2
  have d2 := d2'
  clear d2'
  have hg2 : g < w2.heap.size := Nat.lt_of_lt_of_le hg hb2.size
  clear hg
  have hg := hg2
  clear hg2
  have bA2 := bA1.next hb2
  have below2 := bnext below1 hb2
  clear bA1 below1 hb2
  go_wp2_with fail
  refine (C2.out _).mono ?_; rintro e w3 ⟨rfl, hb3⟩
  have d2' := (hb3.cell (p := ⟨g, 2, none⟩) hg).trans d2
  clear d2
  have d2 := d2'
  clear d2'
  have hg3 : g < w3.heap.size := Nat.lt_of_lt_of_le hg hb3.size
  clear hg
  have hg := hg3
  clear hg3
  have bA3 := bA2.next hb3
  have below3 := bnext below2 hb3
  clear bA2 below2 hb3
  go_wp2_with fail
  refine (C3.out _).mono ?_; rintro e w4 ⟨rfl, hb4⟩
  have hg4 : g < w4.heap.size := Nat.lt_of_lt_of_le hg hb4.size
  clear hg
  have hg := hg4
  clear hg4
  have bA4 := bA3.next hb4
  have below4 := bnext below3 hb4
  clear bA3 below3 hb4
  have s0 := bA4.read (i := 0) (v := .int .i64 0) rfl
  have s1 := bA4.read (i := 1) (v := .int .i64 0) rfl
  have s2 := bA4.read (i := 2) (v := .int .i64 0) rfl
  have t0 := bA4.open_ 0
  have t1 := bA4.open_ 1
  have t2 := bA4.open_ 2
  have bZ := ((bA4.put 0 (.int .i64 a)).put 1 (.int .i64 b)).put 2 (.int .i64 c)
  have belowZ := ((below4.setCell (p := ⟨w.heap.size, 0, none⟩) (Nat.le_refl _) (.int .i64 a)).setCell (p := ⟨w.heap.size, 1, none⟩) (Nat.le_refl _) (.int .i64 b)).setCell (p := ⟨w.heap.size, 2, none⟩) (Nat.le_refl _) (.int .i64 c)
  cases x <;> cases y <;> cases z
  all_goals
    go_wp2_with fail
    generalize ((w4.setCell ⟨w.heap.size, 0, none⟩ (.int .i64 a)).setCell ⟨w.heap.size, 1, none⟩ (.int .i64 b)).setCell ⟨w.heap.size, 2, none⟩ (.int .i64 c) = WZ at *
    have q0 := bZ.read (i := 0) (v := .int .i64 a) rfl
    have q1 := bZ.read (i := 1) (v := .int .i64 b) rfl
    have q2 := bZ.read (i := 2) (v := .int .i64 c) rfl
    refine bodyPost_ret (v := .tuple #[.agg #[.int .i64 a, .int .i64 b, .int .i64 c], .bool _]) (by simp [results, Try.results24, go_sem, q0, q1, q2]) rfl ⟨rfl, belowZ⟩
end Go.Proofs.Ytnhonjhpggnglaa
