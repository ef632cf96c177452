/- Layer 1 (runes): the words of a line, by the code. -/
import Derived.Test.YtnhonjhpggnglaaDoorSm
namespace Go.Proofs.YtnhonjhpggnglaaDoor
open Go.RowKit

/-- The words of what is left of a line, behind words that are over, within a word: 0 none, 1 plain, 2 in quotes, 3 in quotes behind a backslash that counts. -/
def wdRun : List UInt8 → List (List UInt8) → List UInt8 → Nat → List (List UInt8)
  | [], D, cur, m => if m = 0 then D else D ++ [cur]
  | c :: r, D, cur, m =>
    if m = 0 then (if c = 32 then wdRun r D [] 0 else wdRun r D [c] (if c = 34 then 2 else 1))
    else if m = 1 then (if c = 32 then wdRun r (D ++ [cur]) [] 0 else wdRun r D (cur ++ [c]) 1)
    else if m = 2 then (if c = 34 then wdRun r (D ++ [cur ++ [c]]) [] 0 else wdRun r D (cur ++ [c]) (if c = 92 then 3 else 2))
    else wdRun r D (cur ++ [c]) 2
def wordsL (l : List UInt8) : List (List UInt8) := wdRun l [] [] 0
def rest (s : ByteArray) (k : Nat) : List UInt8 := s.data.toList.drop k
theorem rest_cons (s : ByteArray) (k : Nat) (h : k < s.size) : rest s k = s[k] :: rest s (k + 1) := by
  have hl : k < s.data.toList.length := by simpa using h
  unfold rest
  rw [List.drop_eq_getElem_cons hl]; rfl
theorem rest_end (s : ByteArray) (k : Nat) (h : s.size ≤ k) : rest s k = [] := List.drop_of_length_le (by simpa using h)
theorem bt_is (s : ByteArray) (k : Nat) (h : k < s.size) (n : UInt8) : s[k] = n ↔ bt s k = n.toNat := by
  rw [← bt_at s k h]; exact UInt8.toNat_inj.symm
/-- Bytes that are nothing special go on within a word. -/
theorem wd_on (s : ByteArray) (fr pos m : Nat) (D : List (List UInt8)) (hfr : fr ≤ pos) (hm : m = 1 ∨ m = 2) : ∀ j, pos + j ≤ s.size →
    (∀ i, i < j → (m = 1 → bt s (pos + i) ≠ 32) ∧ (m = 2 → bt s (pos + i) ≠ 34 ∧ bt s (pos + i) ≠ 92)) →
    wdRun (rest s pos) D (mid s fr pos) m = wdRun (rest s (pos + j)) D (mid s fr (pos + j)) m
  | 0, _, _ => rfl
  | j + 1, hj, hb => by
    have hl : pos + j < s.size := by omega
    rw [wd_on s fr pos m D hfr hm j (by omega) (fun i hi => hb i (by omega)), rest_cons s _ hl, wdRun]
    have hj' := hb j (by omega)
    have b32 := bt_is s _ hl 32
    have b34 := bt_is s _ hl 34
    have b92 := bt_is s _ hl 92
    rcases hm with rfl | rfl
    · rw [if_neg (by omega), if_pos rfl, if_neg (fun e => hj'.1 rfl (b32.1 e)), ← mid_snoc s fr _ (by omega) hl]; rfl
    · rw [if_neg (by omega), if_neg (by omega), if_pos rfl, if_neg (fun e => (hj'.2 rfl).1 (b34.1 e)), if_neg (fun e => (hj'.2 rfl).2 (b92.1 e)), ← mid_snoc s fr _ (by omega) hl]; rfl
/-- What one sees of the rune at a place. -/
def Seen (s : ByteArray) (pos wd R : Nat) : Prop :=
  (∀ n, n < 128 → (R = n ↔ bt s pos = n)) ∧ (∀ i, i < wd - 1 → 128 ≤ bt s (pos + 1 + i)) ∧ (R < 128 → wd = 1)
theorem rune_at (s : ByteArray) (pos : Nat) (hp : pos < s.size) : ∃ (wd R : Nat), Hid (Utf8.decode s pos = (R, wd)) ∧ 1 ≤ wd ∧ pos + wd ≤ s.size ∧ Seen s pos wd R := by
  by_cases ha : bt s pos < 128
  · have := decode_ascii s pos hp (by rw [bt_at s pos hp]; exact ha)
    exact ⟨1, bt s pos, by rw [this, bt_at s pos hp]; rfl, by omega, by omega, fun _ _ => Iff.rfl, fun i hi => by omega, fun _ => rfl⟩
  · have h := dec_high s pos hp (by omega)
    refine ⟨(Utf8.decode s pos).2, (Utf8.decode s pos).1, rfl, h.2.1, h.2.2.1, fun n hn => ⟨fun e => by omega, fun e => by omega⟩, fun i hi => ?_, fun e => by omega⟩
    have := h.2.2.2 (1 + i) (by omega)
    rw [← Nat.add_assoc] at this; exact this
/-- A first byte, and those of the same rune behind it. -/
theorem wd_rune (s : ByteArray) (fr pos wd R m : Nat) (D : List (List UInt8)) (hw1 : 1 ≤ wd) (hw2 : pos + wd ≤ s.size) (hs : Seen s pos wd R) (hfr : fr ≤ pos + 1) (hm : m = 1 ∨ m = 2 ∨ (m = 3 ∧ wd = 1)) :
    wdRun (rest s (pos + 1)) D (mid s fr (pos + 1)) m = wdRun (rest s (pos + wd)) D (mid s fr (pos + wd)) m := by
  rcases hm with hm | hm | ⟨hm, rfl⟩
  · have := wd_on s fr (pos + 1) m D hfr (Or.inl hm) (wd - 1) (by omega) (fun i hi => by have := hs.2.1 i hi; omega)
    rw [show pos + 1 + (wd - 1) = pos + wd from by omega] at this; exact this
  · have := wd_on s fr (pos + 1) m D hfr (Or.inr hm) (wd - 1) (by omega) (fun i hi => by have := hs.2.1 i hi; omega)
    rw [show pos + 1 + (wd - 1) = pos + wd from by omega] at this; exact this
  · rfl
section
variable (s : ByteArray) (fr pos wd R : Nat) (D : List (List UInt8)) (cur : List UInt8) (hp : pos < s.size) (hw1 : 1 ≤ wd) (hw2 : pos + wd ≤ s.size) (hs : Seen s pos wd R) (hfr : fr ≤ pos)
include hp hw1 hw2 hs
theorem wd0_blank (h : R = 32) : wdRun (rest s pos) D cur 0 = wdRun (rest s (pos + wd)) D [] 0 := by
  have h1 := (hs.1 32 (by omega)).1 h
  have hw := hs.2.2 (by omega)
  subst hw
  rw [rest_cons s pos hp, wdRun, if_pos rfl, if_pos ((bt_is s pos hp 32).2 h1)]
theorem wd0_start (h : R ≠ 32) : wdRun (rest s pos) D cur 0 = wdRun (rest s (pos + wd)) D (mid s pos (pos + wd)) (if R = 34 then 2 else 1) := by
  have h1 : ¬ bt s pos = 32 := fun e => h ((hs.1 32 (by omega)).2 e)
  have hm : mid s pos (pos + 1) = [s[pos]] := by rw [mid_snoc s pos pos (Nat.le_refl _) hp, mid_self]; rfl
  have e := wd_rune s pos pos wd R (if R = 34 then 2 else 1) D hw1 hw2 hs (by omega) (by split; right; left; rfl; left; rfl)
  rw [← e, hm, rest_cons s pos hp, wdRun, if_pos rfl, if_neg (fun x => h1 ((bt_is s pos hp 32).1 x))]
  by_cases h34 : R = 34
  · rw [if_pos h34, if_pos ((bt_is s pos hp 34).2 ((hs.1 34 (by omega)).1 h34))]
  · rw [if_neg h34, if_neg (fun x => h34 ((hs.1 34 (by omega)).2 ((bt_is s pos hp 34).1 x)))]
theorem wd1_blank (h : R = 32) : wdRun (rest s pos) D (mid s fr pos) 1 = wdRun (rest s (pos + wd)) (D ++ [mid s fr pos]) [] 0 := by
  have h1 := (hs.1 32 (by omega)).1 h
  have hw := hs.2.2 (by omega)
  subst hw
  rw [rest_cons s pos hp, wdRun, if_neg (by omega), if_pos rfl, if_pos ((bt_is s pos hp 32).2 h1)]
include hfr
theorem wd1_on (h : R ≠ 32) : wdRun (rest s pos) D (mid s fr pos) 1 = wdRun (rest s (pos + wd)) D (mid s fr (pos + wd)) 1 := by
  have h1 : ¬ bt s pos = 32 := fun e => h ((hs.1 32 (by omega)).2 e)
  rw [← wd_rune s fr pos wd R 1 D hw1 hw2 hs (by omega) (Or.inl rfl), rest_cons s pos hp, wdRun, if_neg (by omega), if_pos rfl, if_neg (fun x => h1 ((bt_is s pos hp 32).1 x)), ← mid_snoc s fr pos hfr hp]
theorem wd2_quote (h : R = 34) : wdRun (rest s pos) D (mid s fr pos) 2 = wdRun (rest s (pos + wd)) (D ++ [mid s fr (pos + 1)]) [] 0 := by
  have h1 := (hs.1 34 (by omega)).1 h
  have hw := hs.2.2 (by omega)
  subst hw
  rw [rest_cons s pos hp, wdRun, if_neg (by omega), if_neg (by omega), if_pos rfl, if_pos ((bt_is s pos hp 34).2 h1), mid_snoc s fr pos hfr hp]
theorem wd2_on (h : R ≠ 34) : wdRun (rest s pos) D (mid s fr pos) 2 = wdRun (rest s (pos + wd)) D (mid s fr (pos + wd)) (if R = 92 then 3 else 2) := by
  have h1 : ¬ bt s pos = 34 := fun e => h ((hs.1 34 (by omega)).2 e)
  rw [← wd_rune s fr pos wd R (if R = 92 then 3 else 2) D hw1 hw2 hs (by omega) (by
    split
    · right; right; exact ⟨rfl, hs.2.2 (by omega)⟩
    · right; left; rfl), rest_cons s pos hp, wdRun, if_neg (by omega), if_neg (by omega), if_pos rfl, if_neg (fun x => h1 ((bt_is s pos hp 34).1 x)), ← mid_snoc s fr pos hfr hp]
  by_cases h92 : R = 92
  · rw [if_pos h92, if_pos ((bt_is s pos hp 92).2 ((hs.1 92 (by omega)).1 h92))]
  · rw [if_neg h92, if_neg (fun x => h92 ((hs.1 92 (by omega)).2 ((bt_is s pos hp 92).1 x)))]
theorem wd3_on : wdRun (rest s pos) D (mid s fr pos) 3 = wdRun (rest s (pos + wd)) D (mid s fr (pos + wd)) 2 := by
  rw [← wd_rune s fr pos wd R 2 D hw1 hw2 hs (by omega) (Or.inr (Or.inl rfl)), rest_cons s pos hp, wdRun, if_neg (by omega), if_neg (by omega), if_neg (by omega), ← mid_snoc s fr pos hfr hp]
end
/-- How the code's three variables tell the state of a word. -/
def WdSt (s : ByteArray) (pos : Nat) (F : Int) (Q E : Bool) (cur : List UInt8) (m : Nat) : Prop :=
  (m = 0 ∧ F = -1) ∨ ∃ fr : Nat, fr ≤ pos ∧ F = fr ∧ cur = mid s fr pos ∧ ((m = 1 ∧ Q = false) ∨ (m = 2 ∧ Q = true ∧ E = false) ∨ (m = 3 ∧ Q = true ∧ E = true))

set_option maxHeartbeats 4000000 in
theorem words_any (s : ByteArray) (hs : s.size ≤ 20000) (w : World) : Calls Tryd.prog 24 #[.string s] w (Row w (wordsL s.data.toList)) := by
  obtain ⟨i0, hi, hz0, hz1, hz2⟩ := info_parts str_info
  go_enter Tryd.func24, Tryd.ntmps24
  go_wp2_with fail
  go_loopw [3, 4, 5, 6] (fun v f q x wr => ∃ (pos m : Nat) (D : List (List UInt8)) (cur : List UInt8) (F : Int) (Q E : Bool), f = .int .i64 F ∧ q = .bool Q ∧ x = .bool E ∧ D.length ≤ pos ∧ pos ≤ s.size ∧
    Hid (wdRun (rest s pos) D cur m = wordsL s.data.toList) ∧ Hid (WdSt s pos F Q E cur m) ∧ It wr w.heap.size s pos ∧ wr.ownsRow (w.heap.size + 1) 9 1 v D.length (vals D) ∧ Below w.heap.size w wr) (fun _ _ _ _ wr => s.size - wr.iterPos w.heap.size)
  case atStart => exact ⟨0, 0, [], [], -1, false, false, rfl, rfl, rfl, by simp, by omega, rfl, Or.inl ⟨rfl, rfl⟩, It.fresh w s 0, World.ownsRow_nil _ _ _ _, (Below.refl _ _).alloc (Nat.le_refl _) _⟩
  case round =>
    obtain ⟨pos, m, D, cur, F, Q, E, rfl, rfl, rfl, hD, hpos, hrun, hst, hit, hown, hbel⟩ := hrel
    by_cases hp : pos < s.size
    · obtain ⟨wd, R, hdec, hw1, hw2, hseen0⟩ := rune_at s pos hp
      have hseen := Hid.mk' hseen0
      have hnx0 := hseen0
      clear hseen0
      have hnx : ∀ ty, (Instr.next (.pointer (some ⟨w.heap.size, 0, none⟩)) true ty).run Tryd.prog wr = .ok (.tuple #[.bool true, .int .i64 pos, .int .i32 R]) (wr.iterAt w.heap.size s (pos + wd)) := fun ty => by
        have := Lib.run_next_any_at (P := Tryd.prog) wr w.heap.size s pos ty hit hp
        rw [hdec.out] at this; exact this
      have hit1 := hit.step (pos + wd)
      have hown1 := ownsRow_iterAt hown (k := w.heap.size) (by omega) s (pos + wd)
      have hbel1 := Lib.below_iterAt hbel (k := w.heap.size) (Nat.le_refl _) s (pos + wd)
      have HPL := Hid.mk' hit.place
      clear hnx0
      rcases hst.out with ⟨rfl, rfl⟩ | ⟨fr, hfr, rfl, rfl, hst'⟩
      · by_cases h32 : R = 32
        · have hr : ((R : Int) == 32) = true := by rw [h32]; rfl
          have hrun' := Hid.mk' ((wd0_blank s pos wd R D cur hp hw1 hw2 hseen.out h32).symm.trans hrun.out)
          clear h32
          go_wp2_with fail
          go_roundw
          case rel => exact ⟨pos + wd, 0, D, [], -1, Q, E, rfl, rfl, rfl, by omega, by omega, hrun', Or.inl ⟨rfl, rfl⟩, hit1, hown1, hbel1⟩
          case measure => rw [hit1.place, HPL.out]; omega
        · have hr : ((R : Int) == 32) = false := by rw [beq_eq_false_iff_ne]; omega
          have hrun' := (wd0_start s pos wd R D cur hp hw1 hw2 hseen.out h32).symm.trans hrun.out
          by_cases h34 : R = 34
          · have hr2 : ((R : Int) == 34) = true := by rw [h34]; rfl
            rw [if_pos h34] at hrun'
            have HR := Hid.mk' hrun'
            clear h32 h34 hrun'
            go_wp2_with fail
            go_roundw
            case rel => exact ⟨pos + wd, 2, D, mid s pos (pos + wd), pos, true, false, rfl, rfl, rfl, by omega, by omega, HR, Or.inr ⟨pos, by omega, rfl, rfl, Or.inr (Or.inl ⟨rfl, rfl, rfl⟩)⟩, hit1, hown1, hbel1⟩
            case measure => rw [hit1.place, HPL.out]; omega
          · have hr2 : ((R : Int) == 34) = false := by rw [beq_eq_false_iff_ne]; omega
            rw [if_neg h34] at hrun'
            have HR := Hid.mk' hrun'
            clear h32 h34 hrun'
            go_wp2_with fail
            go_roundw
            case rel => exact ⟨pos + wd, 1, D, mid s pos (pos + wd), pos, false, false, rfl, rfl, rfl, by omega, by omega, HR, Or.inr ⟨pos, by omega, rfl, rfl, Or.inl ⟨rfl, rfl⟩⟩, hit1, hown1, hbel1⟩
            case measure => rw [hit1.place, HPL.out]; omega
      · have hf1 : ((fr : Int) == -1) = false := by rw [beq_eq_false_iff_ne]; omega
        rcases hst' with ⟨rfl, rfl⟩ | ⟨rfl, rfl, rfl⟩ | ⟨rfl, rfl, rfl⟩
        · by_cases h32 : R = 32
          · have hr : ((R : Int) == 32) = true := by rw [h32]; rfl
            have HR := Hid.mk' ((wd1_blank s fr pos wd R D hp hw1 hw2 hseen.out h32).symm.trans hrun.out)
            clear h32
            go_wp2_with (at_builtin; refine wpList_append_own _ rfl (.tmp 57) (.tmp 62) 38 rfl (w.heap.size + 1) 9 i0 _ 1 16 Tryd.underlying38 hi hz0 hz1 hz2 rfl (by decide) u3 _ _ rfl (hown1.alloc _) ⟨(wr.iterAt w.heap.size s (pos + wd)).heap.size, 0, none⟩ 1 1 [.string (s.extract fr pos)] rfl rfl ?ca1 ?ca2 ?ca3 ?ca4 ?ca5 ?_)
            case ca1 => exact cell_one_new _ _ _
            case ca2 => intro u hu; simp at hu; subst hu; rfl
            case ca3 => simp only [maxLen]; omega
            case ca4 => omega
            case ca5 => have := hit1.inside; simp; omega
            intro v1 w1 hown2 hgr1 _
            have hbel2 : Below w.heap.size w w1 := (hbel1.alloc hbel1.size _).grown hgr1 (by have := hbel1.size; simp; omega) (fun k hk => by have := (hown1.lt k hk).1; omega)
            have hit2 : It w1 w.heap.size s (pos + wd) := (hit1.past _).grown hgr1 (own_ne hown1 (by omega))
            rw [← mid_extract, vals_snoc] at hown2
            clear hgr1 hown hown1 hbel hbel1 hit hit1
            go_wp2_with fail
            go_roundw
            case rel => exact ⟨pos + wd, 0, D ++ [mid s fr pos], [], -1, false, E, rfl, rfl, rfl, by simp; omega, by omega, HR, Or.inl ⟨rfl, rfl⟩, hit2, by simpa using hown2, hbel2⟩
            case measure => rw [hit2.place, HPL.out]; omega
          · have hr : ((R : Int) == 32) = false := by rw [beq_eq_false_iff_ne]; omega
            have HR := Hid.mk' ((wd1_on s fr pos wd R D hp hw1 hw2 hseen.out hfr h32).symm.trans hrun.out)
            clear h32
            go_wp2_with fail
            go_roundw
            case rel => exact ⟨pos + wd, 1, D, mid s fr (pos + wd), fr, false, E, rfl, rfl, rfl, by omega, by omega, HR, Or.inr ⟨fr, by omega, rfl, rfl, Or.inl ⟨rfl, rfl⟩⟩, hit1, hown1, hbel1⟩
            case measure => rw [hit1.place, HPL.out]; omega
        · by_cases h34 : R = 34
          · have hr : ((R : Int) == 34) = true := by rw [h34]; rfl
            have hw : wd = 1 := hseen.out.2.2 (by omega)
            subst hw
            have HR := Hid.mk' ((wd2_quote s fr pos 1 R D hp hw1 hw2 hseen.out hfr h34).symm.trans hrun.out)
            clear h34
            go_wp2_with (at_builtin; refine wpList_append_own _ rfl (.tmp 38) (.tmp 44) 38 rfl (w.heap.size + 1) 9 i0 _ 1 16 Tryd.underlying38 hi hz0 hz1 hz2 rfl (by decide) u3 _ _ rfl (hown1.alloc _) ⟨(wr.iterAt w.heap.size s (pos + 1)).heap.size, 0, none⟩ 1 1 [.string (s.extract fr (pos + 1))] rfl rfl ?cb1 ?cb2 ?cb3 ?cb4 ?cb5 ?_)
            case cb1 => exact cell_one_new _ _ _
            case cb2 => intro u hu; simp at hu; subst hu; rfl
            case cb3 => simp only [maxLen]; omega
            case cb4 => omega
            case cb5 => have := hit1.inside; simp; omega
            intro v1 w1 hown2 hgr1 _
            have hbel2 : Below w.heap.size w w1 := (hbel1.alloc hbel1.size _).grown hgr1 (by have := hbel1.size; simp; omega) (fun k hk => by have := (hown1.lt k hk).1; omega)
            have hit2 : It w1 w.heap.size s (pos + 1) := (hit1.past _).grown hgr1 (own_ne hown1 (by omega))
            rw [← mid_extract, vals_snoc] at hown2
            clear hgr1 hown hown1 hbel hbel1 hit hit1
            go_wp2_with fail
            go_roundw
            case rel => exact ⟨pos + 1, 0, D ++ [mid s fr (pos + 1)], [], -1, true, false, rfl, rfl, rfl, by simp; omega, by omega, HR, Or.inl ⟨rfl, rfl⟩, hit2, by simpa using hown2, hbel2⟩
            case measure => rw [hit2.place, HPL.out]; omega
          · have hr : ((R : Int) == 34) = false := by rw [beq_eq_false_iff_ne]; omega
            have hrun' := (wd2_on s fr pos wd R D hp hw1 hw2 hseen.out hfr h34).symm.trans hrun.out
            by_cases h92 : R = 92
            · have hr2 : ((R : Int) == 92) = true := by rw [h92]; rfl
              rw [if_pos h92] at hrun'
              have HR := Hid.mk' hrun'
              clear h34 h92 hrun'
              go_wp2_with fail
              go_roundw
              case rel => exact ⟨pos + wd, 3, D, mid s fr (pos + wd), fr, true, true, rfl, rfl, rfl, by omega, by omega, HR, Or.inr ⟨fr, by omega, rfl, rfl, Or.inr (Or.inr ⟨rfl, rfl, rfl⟩)⟩, hit1, hown1, hbel1⟩
              case measure => rw [hit1.place, HPL.out]; omega
            · have hr2 : ((R : Int) == 92) = false := by rw [beq_eq_false_iff_ne]; omega
              rw [if_neg h92] at hrun'
              have HR := Hid.mk' hrun'
              clear h34 h92 hrun'
              go_wp2_with fail
              go_roundw
              case rel => exact ⟨pos + wd, 2, D, mid s fr (pos + wd), fr, true, false, rfl, rfl, rfl, by omega, by omega, HR, Or.inr ⟨fr, by omega, rfl, rfl, Or.inr (Or.inl ⟨rfl, rfl, rfl⟩)⟩, hit1, hown1, hbel1⟩
              case measure => rw [hit1.place, HPL.out]; omega
        · have HR := Hid.mk' ((wd3_on s fr pos wd R D hp hw1 hw2 hseen.out hfr).symm.trans hrun.out)
          obtain ⟨b34, hr⟩ : ∃ b, ((R : Int) == 34) = b := ⟨_, rfl⟩
          obtain ⟨b92, hr2⟩ : ∃ b, ((R : Int) == 92) = b := ⟨_, rfl⟩
          cases b34 <;> cases b92
          all_goals
            go_wp2_with fail
            go_roundw
            case rel => exact ⟨pos + wd, 2, D, mid s fr (pos + wd), fr, true, false, rfl, rfl, rfl, by omega, by omega, HR, Or.inr ⟨fr, by omega, rfl, rfl, Or.inr (Or.inl ⟨rfl, rfl, rfl⟩)⟩, hit1, hown1, hbel1⟩
            case measure => rw [hit1.place, HPL.out]; omega
    · have hnx : ∀ ty, (Instr.next (.pointer (some ⟨w.heap.size, 0, none⟩)) true ty).run Tryd.prog wr = _ := fun ty => Lib.run_next_end_at wr w.heap.size s pos ty hit hp
      obtain rfl : pos = s.size := by omega
      have hr := hrun.out
      rw [rest_end s s.size (Nat.le_refl _), wdRun] at hr
      rcases hst.out with ⟨rfl, rfl⟩ | ⟨fr, hfr, rfl, rfl, hst'⟩
      · rw [if_pos rfl] at hr
        have HR := Hid.mk' hr
        clear hr
        go_wp2_with fail
        go_ret
        exact ⟨_, rfl, by rw [← HR.out]; exact hown.mono (by omega), hbel⟩
      · have hf1 : ((fr : Int) != -1) = true := by rw [bne_iff_ne]; omega
        rw [if_neg (by omega)] at hr
        have HR := Hid.mk' hr
        clear hr hst' hst hrun
        have hbel1 := hbel
        have hown1 := hown
        go_wp2_with (at_builtin; refine wpList_append_own _ rfl (.tmp 66) (.tmp 70) 38 rfl (w.heap.size + 1) 9 i0 _ 1 16 Tryd.underlying38 hi hz0 hz1 hz2 rfl (by decide) u3 _ _ rfl (hown.alloc _) ⟨(wr).heap.size, 0, none⟩ 1 1 [.string (s.extract fr s.size)] rfl rfl ?cc1 ?cc2 ?cc3 ?cc4 ?cc5 ?_)
        case cc1 => exact cell_one_new _ _ _
        case cc2 => intro u hu; simp at hu; subst hu; rfl
        case cc3 => simp only [maxLen]; omega
        case cc4 => omega
        case cc5 => have := hit.inside; simp; omega
        intro v1 w1 hown2 hgr1 _
        have hbel2 : Below w.heap.size w w1 := (hbel1.alloc hbel1.size _).grown hgr1 (by have := hbel1.size; simp; omega) (fun k hk => by have := (hown1.lt k hk).1; omega)
        rw [← mid_extract, vals_snoc] at hown2
        clear hgr1 hown hown1 hbel hbel1 hit
        go_wp2_with fail
        go_ret
        exact ⟨_, rfl, by rw [← HR.out]; simpa using hown2.mono (by omega), hbel2⟩
end Go.Proofs.YtnhonjhpggnglaaDoor
