/- Layer 2 (nums): the statement on stamps. -/
import Derived.Test.YtnhonjhpggnglaaNh
import Derived.Deep.RegionHeld3
namespace Go.Proofs.Ytnhonjhpggnglaa
open Go.RowKit

theorem refreadstamp_yes (s : ByteArray) (hs : s.size ≤ 1000) (h : stOk s = true) (a b c : Int) (e1 : (num (cutB s).data.toList : Int) = a) (e2 : (num (cutB (cutA s)).data.toList : Int) = b) (e3 : (num (cutA (cutA s)).data.toList : Int) = c) (w : World) :
    Calls Try.prog 24 #[.string s] w fun e w' => e = .returned (.tuple #[.agg #[.int .i64 a, .int .i64 b, .int .i64 c], .bool true]) ∧ Below w.heap.size w w' := by
  have h3 := stOk_three s h
  rw [stOk_iff] at h
  have := refreadstamp_three s hs h3.1 h3.2.1 h3.2.2 a b c true true true (by rw [refVal_ok _ h.1, e1]) (by rw [refVal_ok _ h.2.1, e2]) (by rw [refVal_ok _ h.2.2, e3]) h.1 h.2.1 h.2.2 w
  exact this
theorem refreadstamp_no (s : ByteArray) (hs : s.size ≤ 1000) (h : stOk s = false) (w : World) :
    Calls Try.prog 24 #[.string s] w (NoStamp w) := by
  by_cases h2 : (dots s.data.toList).1.length = 2
  · have h3 := dots_count s h2
    have := refreadstamp_three s hs h3.1 h3.2.1 h3.2.2 _ _ _ _ _ _ rfl rfl rfl rfl rfl rfl w
    refine this.mono fun e w' ⟨he, hb⟩ => ⟨refVal (cutB s), refVal (cutB (cutA s)), refVal (cutA (cutA s)), ?_, hb⟩
    rw [he]
    have hx : (okNum (cutB s).data.toList && (okNum (cutB (cutA s)).data.toList && okNum (cutA (cutA s)).data.toList)) = false := h
    rw [hx]
  · exact refreadstamp_few s hs h2 w

/-- What a stamp's text reads as. -/
theorem stampText_reads (a b c : Int) : (stampText a b c).size ≤ 50 ∧ stOk (stampText a b c) = true ∧ (num (cutB (stampText a b c)).data.toList : Int) = cut a ∧ (num (cutB (cutA (stampText a b c))).data.toList : Int) = cut b ∧ (num (cutA (cutA (stampText a b c))).data.toList : Int) = cut c := by
  have hno : ∀ n, ∀ x ∈ (txt n).data.toList, (x != 46) = true := fun n x hx => by
    have h := (txt_ok n).1
    cases hb : (x != 46) with
    | true => rfl
    | false =>
      have e : x = 46 := by simpa [bne] using hb
      subst e
      rw [ok_no_digit _ _ hx (by decide)] at h; cases h
  have hd : (stampText a b c).data.toList = (txt a).data.toList ++ 46 :: ((txt b).data.toList ++ 46 :: (txt c).data.toList) := by
    unfold stampText
    simp [ByteArray.toList_data_append]
  have tw : ∀ (l r : List UInt8), (∀ x ∈ l, (x != 46) = true) → (l ++ 46 :: r).takeWhile (· != 46) = l ∧ (l ++ 46 :: r).dropWhile (· != 46) = 46 :: r := by
    intro l r hl
    induction l with
    | nil => exact ⟨rfl, rfl⟩
    | cons x l ih =>
      have hx := hl x (by simp)
      have := ih fun y hy => hl y (by simp [hy])
      simp only [List.cons_append, List.takeWhile_cons, List.dropWhile_cons, hx, if_true, this]
      exact ⟨trivial, trivial⟩
  have h1 : cutB (stampText a b c) = txt a := bytes_inj' (by unfold cutB; rw [hd, (tw _ _ (hno a)).1])
  have h2 : (cutA (stampText a b c)).data.toList = (txt b).data.toList ++ 46 :: (txt c).data.toList := by unfold cutA; rw [hd, (tw _ _ (hno a)).2]; rfl
  have h3 : cutB (cutA (stampText a b c)) = txt b := bytes_inj' (by
    have : (cutB (cutA (stampText a b c))).data.toList = (cutA (stampText a b c)).data.toList.takeWhile (· != 46) := rfl
    rw [this, h2, (tw _ _ (hno b)).1])
  have h4 : cutA (cutA (stampText a b c)) = txt c := bytes_inj' (by
    have : (cutA (cutA (stampText a b c))).data.toList = ((cutA (stampText a b c)).data.toList.dropWhile (· != 46)).drop 1 := rfl
    rw [this, h2, (tw _ _ (hno b)).2]; rfl)
  refine ⟨?_, ?_, ?_, ?_, ?_⟩
  · have s1 := txt_size a
    have s2 := txt_size b
    have s3 := txt_size c
    rw [← len_data, hd]
    simp only [List.length_append, List.length_cons, len_data]
    omega
  · rw [stOk_iff, h1, h3, h4]; exact ⟨(txt_ok a).1, (txt_ok b).1, (txt_ok c).1⟩
  · rw [h1]; exact (txt_ok a).2
  · rw [h3]; exact (txt_ok b).2
  · rw [h4]; exact (txt_ok c).2

theorem size_back (a b c : Int) : (stampText a b c).size ≤ maxLen := Nat.le_trans (stampText_reads a b c).1 (by unfold maxLen; omega)
set_option maxHeartbeats 1000000 in
theorem stampslaw_no (x y z : Int) (s : ByteArray) (hs : s.size ≤ maxLen) (hl : ¬ 1000 < s.size) (hok : stOk s = false) (w : World) :
    Calls Try.prog 7 #[.agg #[.int .i64 x, .int .i64 y, .int .i64 z], .string s] w fun e w' => e = .returned (.bool true) ∧ Below w.heap.size w w' := by
  have C1 := Hid.mk' (readstamp_no s hs hok)
  have C2 := Hid.mk' (refreadstamp_no s (by omega) hok)
  clear hok
  unfold maxLen at hs
  have bX := Bx.fresh w 41 #[.int .i64 x, .int .i64 y, .int .i64 z]
  have below0 : Below w.heap.size w (w.alloc (.cells #[.int .i64 x, .int .i64 y, .int .i64 z] 41)) := (Below.refl _ _).alloc (Nat.le_refl _) _
  go_enter Try.func7, Try.ntmps7
  go_wp2_with fail
  refine (C1.out _).mono ?_; rintro e w1 ⟨rfl, hb1⟩
  have bX1 := (bX.next hb1).past (.cells #[.int .i64 0, .int .i64 0, .int .i64 0] 41)
  have bM1 := Bx.fresh w1 41 #[.int .i64 0, .int .i64 0, .int .i64 0]
  have below1 := (bnext below0 hb1).alloc (bnext below0 hb1).size (.cells #[.int .i64 0, .int .i64 0, .int .i64 0] 41)
  clear bX below0 hb1
  go_wp2_with fail
  generalize w1.heap.size = M at *
  generalize w1.alloc (.cells #[.int .i64 0, .int .i64 0, .int .i64 0] 41) = W1 at *
  refine (C2.out _).mono ?_; rintro e w2 ⟨ka, kb, kc, rfl, hb2⟩
  have bX2 := (bX1.next hb2).past (.cells #[.int .i64 ka, .int .i64 kb, .int .i64 kc] 41)
  have bM2 := (bM1.next hb2).past (.cells #[.int .i64 ka, .int .i64 kb, .int .i64 kc] 41)
  have bK2 := Bx.fresh w2 41 #[.int .i64 ka, .int .i64 kb, .int .i64 kc]
  have below2 := (bnext below1 hb2).alloc (bnext below1 hb2).size (.cells #[.int .i64 ka, .int .i64 kb, .int .i64 kc] 41)
  have m0 := bM2.read (i := 0) (v := .int .i64 0) rfl
  have m1 := bM2.read (i := 1) (v := .int .i64 0) rfl
  have m2 := bM2.read (i := 2) (v := .int .i64 0) rfl
  have x0 := bX2.read (i := 0) (v := .int .i64 x) rfl
  have x1 := bX2.read (i := 1) (v := .int .i64 y) rfl
  have x2 := bX2.read (i := 2) (v := .int .i64 z) rfl
  clear bX1 bM1 below1 hb2
  go_wp2_with fail
  clear m0 m1 m2 x0 x1 x2 bM2
  generalize w2.heap.size = K2 at *
  generalize w2.alloc (.cells #[.int .i64 ka, .int .i64 kb, .int .i64 kc] 41) = W2 at *
  refine (stamp_any _ _ _ _).mono ?_; rintro e w3 ⟨rfl, hb3⟩
  have bX3 := bX2.next hb3
  have below3 := bnext below2 hb3
  clear bX2 bK2 below2 hb3
  have SR := Hid.mk' (stampText_reads x y z)
  go_wp2_with fail
  refine (readstamp_yes _ (size_back x y z) SR.out.2.1 _ _ _ SR.out.2.2.1 SR.out.2.2.2.1 SR.out.2.2.2.2 _).mono ?_; rintro e w4 ⟨rfl, hb4⟩
  have bX4 := (bX3.next hb4).past (.cells #[.int .i64 (cut x), .int .i64 (cut y), .int .i64 (cut z)] 41)
  have bB4 := Bx.fresh w4 41 #[.int .i64 (cut x), .int .i64 (cut y), .int .i64 (cut z)]
  have below4 := (bnext below3 hb4).alloc (bnext below3 hb4).size (.cells #[.int .i64 (cut x), .int .i64 (cut y), .int .i64 (cut z)] 41)
  clear bX3 below3 hb4
  go_wp2_with fail
  generalize w4.heap.size = B4 at *
  generalize w4.alloc (.cells #[.int .i64 (cut x), .int .i64 (cut y), .int .i64 (cut z)] 41) = W4 at *
  have x0 := bX4.read (i := 0) (v := .int .i64 x) rfl
  have x1 := bX4.read (i := 1) (v := .int .i64 y) rfl
  have x2 := bX4.read (i := 2) (v := .int .i64 z) rfl
  have hin := bX4.inside
  go_region_held3 (fun w' => w'.cell? ⟨w.heap.size, 0, none⟩ = some (.int .i64 x) ∧ w'.cell? ⟨w.heap.size, 1, none⟩ = some (.int .i64 y) ∧ w'.cell? ⟨w.heap.size, 2, none⟩ = some (.int .i64 z))
    (first | go_keep)
    ((go_at_call 20; refine (refcut_any _ _).mono ?_; rintro e w' ⟨rfl, rfl⟩))
  all_goals
    go_wp2_with fail
    have bX5 : Bx (W4.alloc (.cells #[.int .i64 (cut x), .int .i64 (cut y), .int .i64 (cut z)] 41)).drew w.heap.size 41 #[.int .i64 x, .int .i64 y, .int .i64 z] := (bX4.past _).drawn 1
    have bB5 : Bx (W4.alloc (.cells #[.int .i64 (cut x), .int .i64 (cut y), .int .i64 (cut z)] 41)).drew B4 41 #[.int .i64 (cut x), .int .i64 (cut y), .int .i64 (cut z)] := (bB4.past _).drawn 1
    have bN5 : Bx (W4.alloc (.cells #[.int .i64 (cut x), .int .i64 (cut y), .int .i64 (cut z)] 41)).drew W4.heap.size 41 #[.int .i64 (cut x), .int .i64 (cut y), .int .i64 (cut z)] := (Bx.fresh W4 _ _).drawn 1
    have below5 : Below w.heap.size w (W4.alloc (.cells #[.int .i64 (cut x), .int .i64 (cut y), .int .i64 (cut z)] 41)).drew := (below4.alloc below4.size _).drew
    generalize (W4.alloc (.cells #[.int .i64 (cut x), .int .i64 (cut y), .int .i64 (cut z)] 41)).drew = W5 at *
    have k0 := Go.cell_regrown (bX5.read (i := 0) (v := .int .i64 x) rfl)
    have k1 := Go.cell_regrown (bX5.read (i := 1) (v := .int .i64 y) rfl)
    have k2 := Go.cell_regrown (bX5.read (i := 2) (v := .int .i64 z) rfl)
    have b0 := Go.cell_regrown (bB5.read (i := 0) (v := .int .i64 (cut x)) rfl)
    have b1 := Go.cell_regrown (bB5.read (i := 1) (v := .int .i64 (cut y)) rfl)
    have b2 := Go.cell_regrown (bB5.read (i := 2) (v := .int .i64 (cut z)) rfl)
    have n0 := Go.cell_regrown (bN5.read (i := 0) (v := .int .i64 (cut x)) rfl)
    have n1 := Go.cell_regrown (bN5.read (i := 1) (v := .int .i64 (cut y)) rfl)
    have n2 := Go.cell_regrown (bN5.read (i := 2) (v := .int .i64 (cut z)) rfl)
    have cS : ∀ d os, Calls Try.prog 25 #[.agg #[.int .i64 x, .int .i64 y, .int .i64 z]] (Go.Sort.grow (Go.redrawn W5 d) os) fun e w'' => e = .returned (.string (stampText x y z)) ∧ ∃ p : Go.Regrown, w'' = Go.Sort.grow (Go.redrawn W5 p.d) p.os := fun d os => Calls.regrown_of (stamp_any x y z _)
    have cR : ∀ d os, Calls Try.prog 26 #[.agg #[.int .i64 x, .int .i64 y, .int .i64 z]] (Go.Sort.grow (Go.redrawn W5 d) os) fun e w'' => e = .returned (.string (stampText x y z)) ∧ ∃ p : Go.Regrown, w'' = Go.Sort.grow (Go.redrawn W5 p.d) p.os := fun d os => Calls.regrown_of (refstamp_any x y z _)
    have cA : ∀ d os, Calls Try.prog 21 #[] (Go.Sort.grow (Go.redrawn W5 d) os) fun e w'' => e = .returned (.bool true) ∧ ∃ p : Go.Regrown, w'' = Go.Sort.grow (Go.redrawn W5 p.d) p.os := fun d os => Calls.regrown_of (alive2_any _)
    have CS := Hid.mk' cS
    have CR := Hid.mk' cR
    have CA := Hid.mk' cA
    clear cS cR cA bX5 bB5 bN5 bX4 bB4 x0 x1 x2
    refine Go.wp_region_quiet_below (by kernel_rfl) (by kernel_rfl) ?_
    repeat (quiet_step (first | exact CS.out _ _ | exact CR.out _ _ | exact CA.out _ _))
    refine wpQuiet_nil ?_
    intro _ hw'
    obtain ⟨⟨dq, osq⟩, hw''⟩ := hw'
    subst hw''
    go_wp2
    go_ret
    exact ⟨rfl, below5.trans ((Go.below_regrown W5 dq osq).mono below5.size)⟩

set_option maxHeartbeats 1000000 in
theorem stampslaw_yes (x y z : Int) (s : ByteArray) (hs : s.size ≤ maxLen) (hl : ¬ 1000 < s.size) (hok : stOk s = true) (w : World) :
    Calls Try.prog 7 #[.agg #[.int .i64 x, .int .i64 y, .int .i64 z], .string s] w fun e w' => e = .returned (.bool true) ∧ Below w.heap.size w w' := by
  obtain ⟨ka, eka⟩ : ∃ v : Int, (num (cutB s).data.toList : Int) = v := ⟨_, rfl⟩
  obtain ⟨kb, ekb⟩ : ∃ v : Int, (num (cutB (cutA s)).data.toList : Int) = v := ⟨_, rfl⟩
  obtain ⟨kc, ekc⟩ : ∃ v : Int, (num (cutA (cutA s)).data.toList : Int) = v := ⟨_, rfl⟩
  have C1 := Hid.mk' (readstamp_yes s hs hok ka kb kc eka ekb ekc)
  have C2 := Hid.mk' (refreadstamp_yes s (by omega) hok ka kb kc eka ekb ekc)
  clear hok eka ekb ekc
  unfold maxLen at hs
  have bX := Bx.fresh w 41 #[.int .i64 x, .int .i64 y, .int .i64 z]
  have below0 : Below w.heap.size w (w.alloc (.cells #[.int .i64 x, .int .i64 y, .int .i64 z] 41)) := (Below.refl _ _).alloc (Nat.le_refl _) _
  go_enter Try.func7, Try.ntmps7
  go_wp2_with fail
  refine (C1.out _).mono ?_; rintro e w1 ⟨rfl, hb1⟩
  have bX1 := (bX.next hb1).past (.cells #[.int .i64 ka, .int .i64 kb, .int .i64 kc] 41)
  have bM1 := Bx.fresh w1 41 #[.int .i64 ka, .int .i64 kb, .int .i64 kc]
  have below1 := (bnext below0 hb1).alloc (bnext below0 hb1).size (.cells #[.int .i64 ka, .int .i64 kb, .int .i64 kc] 41)
  clear bX below0 hb1
  go_wp2_with fail
  generalize w1.heap.size = M at *
  generalize w1.alloc (.cells #[.int .i64 ka, .int .i64 kb, .int .i64 kc] 41) = W1 at *
  refine (C2.out _).mono ?_; rintro e w2 ⟨rfl, hb2⟩
  have bX2 := (bX1.next hb2).past (.cells #[.int .i64 ka, .int .i64 kb, .int .i64 kc] 41)
  have bM2 := (bM1.next hb2).past (.cells #[.int .i64 ka, .int .i64 kb, .int .i64 kc] 41)
  have bK2 := Bx.fresh w2 41 #[.int .i64 ka, .int .i64 kb, .int .i64 kc]
  have below2 := (bnext below1 hb2).alloc (bnext below1 hb2).size (.cells #[.int .i64 ka, .int .i64 kb, .int .i64 kc] 41)
  have m0 := bM2.read (i := 0) (v := .int .i64 ka) rfl
  have q0 := bK2.read (i := 0) (v := .int .i64 ka) rfl
  have m1 := bM2.read (i := 1) (v := .int .i64 kb) rfl
  have q1 := bK2.read (i := 1) (v := .int .i64 kb) rfl
  have m2 := bM2.read (i := 2) (v := .int .i64 kc) rfl
  have q2 := bK2.read (i := 2) (v := .int .i64 kc) rfl
  have x0 := bX2.read (i := 0) (v := .int .i64 x) rfl
  have x1 := bX2.read (i := 1) (v := .int .i64 y) rfl
  have x2 := bX2.read (i := 2) (v := .int .i64 z) rfl
  clear bX1 bM1 below1 hb2
  go_wp2_with fail
  clear m0 m1 m2 q0 q1 q2 x0 x1 x2 bM2
  generalize w2.heap.size = K2 at *
  generalize w2.alloc (.cells #[.int .i64 ka, .int .i64 kb, .int .i64 kc] 41) = W2 at *
  refine (stamp_any _ _ _ _).mono ?_; rintro e w3 ⟨rfl, hb3⟩
  have bX3 := bX2.next hb3
  have below3 := bnext below2 hb3
  clear bX2 bK2 below2 hb3
  have SR := Hid.mk' (stampText_reads x y z)
  go_wp2_with fail
  refine (readstamp_yes _ (size_back x y z) SR.out.2.1 _ _ _ SR.out.2.2.1 SR.out.2.2.2.1 SR.out.2.2.2.2 _).mono ?_; rintro e w4 ⟨rfl, hb4⟩
  have bX4 := (bX3.next hb4).past (.cells #[.int .i64 (cut x), .int .i64 (cut y), .int .i64 (cut z)] 41)
  have bB4 := Bx.fresh w4 41 #[.int .i64 (cut x), .int .i64 (cut y), .int .i64 (cut z)]
  have below4 := (bnext below3 hb4).alloc (bnext below3 hb4).size (.cells #[.int .i64 (cut x), .int .i64 (cut y), .int .i64 (cut z)] 41)
  clear bX3 below3 hb4
  go_wp2_with fail
  generalize w4.heap.size = B4 at *
  generalize w4.alloc (.cells #[.int .i64 (cut x), .int .i64 (cut y), .int .i64 (cut z)] 41) = W4 at *
  have x0 := bX4.read (i := 0) (v := .int .i64 x) rfl
  have x1 := bX4.read (i := 1) (v := .int .i64 y) rfl
  have x2 := bX4.read (i := 2) (v := .int .i64 z) rfl
  have hin := bX4.inside
  go_region_held3 (fun w' => w'.cell? ⟨w.heap.size, 0, none⟩ = some (.int .i64 x) ∧ w'.cell? ⟨w.heap.size, 1, none⟩ = some (.int .i64 y) ∧ w'.cell? ⟨w.heap.size, 2, none⟩ = some (.int .i64 z))
    (first | go_keep)
    ((go_at_call 20; refine (refcut_any _ _).mono ?_; rintro e w' ⟨rfl, rfl⟩))
  all_goals
    go_wp2_with fail
    have bX5 : Bx (W4.alloc (.cells #[.int .i64 (cut x), .int .i64 (cut y), .int .i64 (cut z)] 41)).drew w.heap.size 41 #[.int .i64 x, .int .i64 y, .int .i64 z] := (bX4.past _).drawn 1
    have bB5 : Bx (W4.alloc (.cells #[.int .i64 (cut x), .int .i64 (cut y), .int .i64 (cut z)] 41)).drew B4 41 #[.int .i64 (cut x), .int .i64 (cut y), .int .i64 (cut z)] := (bB4.past _).drawn 1
    have bN5 : Bx (W4.alloc (.cells #[.int .i64 (cut x), .int .i64 (cut y), .int .i64 (cut z)] 41)).drew W4.heap.size 41 #[.int .i64 (cut x), .int .i64 (cut y), .int .i64 (cut z)] := (Bx.fresh W4 _ _).drawn 1
    have below5 : Below w.heap.size w (W4.alloc (.cells #[.int .i64 (cut x), .int .i64 (cut y), .int .i64 (cut z)] 41)).drew := (below4.alloc below4.size _).drew
    generalize (W4.alloc (.cells #[.int .i64 (cut x), .int .i64 (cut y), .int .i64 (cut z)] 41)).drew = W5 at *
    have k0 := Go.cell_regrown (bX5.read (i := 0) (v := .int .i64 x) rfl)
    have k1 := Go.cell_regrown (bX5.read (i := 1) (v := .int .i64 y) rfl)
    have k2 := Go.cell_regrown (bX5.read (i := 2) (v := .int .i64 z) rfl)
    have b0 := Go.cell_regrown (bB5.read (i := 0) (v := .int .i64 (cut x)) rfl)
    have b1 := Go.cell_regrown (bB5.read (i := 1) (v := .int .i64 (cut y)) rfl)
    have b2 := Go.cell_regrown (bB5.read (i := 2) (v := .int .i64 (cut z)) rfl)
    have n0 := Go.cell_regrown (bN5.read (i := 0) (v := .int .i64 (cut x)) rfl)
    have n1 := Go.cell_regrown (bN5.read (i := 1) (v := .int .i64 (cut y)) rfl)
    have n2 := Go.cell_regrown (bN5.read (i := 2) (v := .int .i64 (cut z)) rfl)
    have cS : ∀ d os, Calls Try.prog 25 #[.agg #[.int .i64 x, .int .i64 y, .int .i64 z]] (Go.Sort.grow (Go.redrawn W5 d) os) fun e w'' => e = .returned (.string (stampText x y z)) ∧ ∃ p : Go.Regrown, w'' = Go.Sort.grow (Go.redrawn W5 p.d) p.os := fun d os => Calls.regrown_of (stamp_any x y z _)
    have cR : ∀ d os, Calls Try.prog 26 #[.agg #[.int .i64 x, .int .i64 y, .int .i64 z]] (Go.Sort.grow (Go.redrawn W5 d) os) fun e w'' => e = .returned (.string (stampText x y z)) ∧ ∃ p : Go.Regrown, w'' = Go.Sort.grow (Go.redrawn W5 p.d) p.os := fun d os => Calls.regrown_of (refstamp_any x y z _)
    have cA : ∀ d os, Calls Try.prog 21 #[] (Go.Sort.grow (Go.redrawn W5 d) os) fun e w'' => e = .returned (.bool true) ∧ ∃ p : Go.Regrown, w'' = Go.Sort.grow (Go.redrawn W5 p.d) p.os := fun d os => Calls.regrown_of (alive2_any _)
    have CS := Hid.mk' cS
    have CR := Hid.mk' cR
    have CA := Hid.mk' cA
    clear cS cR cA bX5 bB5 bN5 bX4 bB4 x0 x1 x2
    refine Go.wp_region_quiet_below (by kernel_rfl) (by kernel_rfl) ?_
    repeat (quiet_step (first | exact CS.out _ _ | exact CR.out _ _ | exact CA.out _ _))
    refine wpQuiet_nil ?_
    intro _ hw'
    obtain ⟨⟨dq, osq⟩, hw''⟩ := hw'
    subst hw''
    go_wp2
    go_ret
    exact ⟨rfl, below5.trans ((Go.below_regrown W5 dq osq).mono below5.size)⟩

theorem stampslaw (x y z : Int) (s : ByteArray) (hs : s.size ≤ maxLen) (w : World) :
    Calls Try.prog 7 #[.agg #[.int .i64 x, .int .i64 y, .int .i64 z], .string s] w fun e w' => e = .returned (.bool true) ∧ Below w.heap.size w w' := by
  by_cases hl : 1000 < s.size
  · unfold maxLen at hs
    go_enter Try.func7, Try.ntmps7
    go_wp2_with fail
    go_ret
    exact ⟨rfl, (Below.refl _ _).alloc (Nat.le_refl _) _⟩
  · cases hok : stOk s with
    | false => exact stampslaw_no x y z s hs hl hok w
    | true => exact stampslaw_yes x y z s hs hl hok w
end Go.Proofs.Ytnhonjhpggnglaa
