/- Layer 1 (runes): keys and values, by definition. -/
import Derived.Test.YtnhonjhpggnglaaDoorCu
import Derived.Test.YtnhonjhpggnglaaDoorKz
import Derived.Lib.ValidLaws
namespace Go.Proofs.YtnhonjhpggnglaaDoor
open Go.RowKit

/-- Is each byte within a rune? -/
def vL : Nat → List UInt8 → Bool
  | 0, _ => true
  | f + 1, l => if l = [] then true else if dl l = (65533, 1) then false else vL f (l.drop (dl l).2)
def runesL : Nat → List UInt8 → List Nat
  | 0, _ => []
  | f + 1, l => if l = [] then [] else (dl l).1 :: runesL f (l.drop (dl l).2)
def kOk (r : Nat) : Bool := letterB r || behindB r
theorem vL_eq : ∀ n l, Lib.validGoD n l = vL n l
  | 0, _ => rfl
  | n + 1, l => by
    have e : Lib.decodeL l = dl l := rfl
    rw [Lib.validGoD, vL, e]
    by_cases hl : l = []
    · rw [if_pos hl, if_pos hl]
    · rw [if_neg hl, if_neg hl]
      by_cases hd : dl l = (65533, 1)
      · rw [if_pos hd, if_pos (by rw [hd]; exact ⟨rfl, rfl⟩)]
      · rw [if_neg hd, if_neg (by rintro ⟨h1, h2⟩; exact hd (Prod.ext h1 h2)), vL_eq n]
theorem valid_eq (s : ByteArray) : Lib.validD s.data.toList = vL s.size s.data.toList := by unfold Lib.validD; rw [vL_eq, len_data]
theorem runesL_len : ∀ f l, (runesL f l).length = cntL f l
  | 0, _ => rfl
  | f + 1, l => by rw [runesL, cntL]; split <;> simp [runesL_len f]; omega
theorem runesFrom_eq (s : ByteArray) : ∀ f pos (acc : Array Value), Conv.runesFrom s f pos acc = acc ++ ((runesL f (rest s pos)).map fun (r : Nat) => Value.int .i32 (r : Int)).toArray
  | 0, _, acc => by simp [Conv.runesFrom, runesL]
  | f + 1, pos, acc => by
    unfold Conv.runesFrom
    rw [runesL]
    by_cases h : pos < s.size
    · rw [if_pos h, if_neg (fun e => (rest_nil s pos).1 e h)]
      show Conv.runesFrom s f (pos + (Utf8.decode s pos).2) (acc.push (.int .i32 (((Utf8.decode s pos).1 : Nat) : Int))) = _
      rw [runesFrom_eq s f, dl_at, rest_drop]
      simp
    · rw [if_neg h, if_pos ((rest_nil s pos).2 h)]; simp
theorem bad_eq (s : ByteArray) (pos : Nat) : bad s pos = decide (dl (rest s pos) = (65533, 1)) := by unfold bad; rw [dl_at]
theorem keyFrom_eq (s : ByteArray) : ∀ f pos, pos ≠ 0 → keyFrom s f pos = (vL f (rest s pos) && (runesL f (rest s pos)).all kOk)
  | 0, _, _ => rfl
  | f + 1, pos, h0 => by
    rw [keyFrom, vL, runesL]
    by_cases h : pos < s.size
    · have hne : rest s pos ≠ [] := fun e => (rest_nil s pos).1 e h
      have hw := (dl_wide _ hne).1
      rw [if_pos h, if_neg hne, if_neg hne, dl_at, keyFrom_eq s f _ (by omega), rest_drop]
      unfold keyAt
      rw [bad_eq, dl_at]
      by_cases hd : dl (rest s pos) = (65533, 1)
      · rw [if_pos hd]; simp [hd]
      · rw [if_neg hd]
        simp only [hd, decide_false, Bool.not_false, Bool.true_and, h0, ne_eq, not_false_eq_true, decide_true, List.all_cons]
        unfold kOk
        rw [Bool.and_left_comm]
    · rw [if_neg h, if_pos ((rest_nil s pos).2 h), if_pos ((rest_nil s pos).2 h)]; rfl
/-- May a text be a key: by definition. -/
def keyD (s : ByteArray) : Bool :=
  decide (1 ≤ s.size ∧ s.size ≤ 24) && (vL s.size s.data.toList && (letterB ((runesL s.size s.data.toList).getD 0 0) && (runesL s.size s.data.toList).all kOk))
theorem key_same (s : ByteArray) : keyB s = keyD s := by
  unfold keyB keyD
  by_cases hs : 1 ≤ s.size ∧ s.size ≤ 24
  · congr 1
    obtain ⟨g, hg⟩ : ∃ g, s.size = g + 1 := ⟨s.size - 1, by omega⟩
    have hne : rest s 0 ≠ [] := fun e => (rest_nil s 0).1 e (by omega)
    have hw := (dl_wide _ hne).1
    rw [← rest_zero]
    rw [hg, keyFrom, vL, runesL, if_pos (by omega), if_neg hne, if_neg hne, dl_at, keyFrom_eq s g _ (by omega), rest_drop]
    unfold keyAt
    rw [bad_eq, dl_at]
    by_cases hd : dl (rest s 0) = (65533, 1)
    · rw [if_pos hd]; simp [hd]
    · rw [if_neg hd]
      simp only [hd, decide_false, Bool.not_false, Bool.true_and, ne_eq, not_true_eq_false, Bool.false_and, Bool.or_false, List.all_cons, List.getD_cons_zero]
      unfold kOk
      generalize letterB (dl (rest s 0)).1 = a
      generalize behindB (dl (rest s 0)).1 = b
      generalize vL g (List.drop (dl (rest s 0)).2 (rest s 0)) = c
      generalize List.all (runesL g (List.drop (dl (rest s 0)).2 (rest s 0))) (fun r => letterB r || behindB r) = d
      cases a <;> cases b <;> cases c <;> cases d <;> rfl
  · rw [decide_eq_false hs]; rfl

def valFrom (s : ByteArray) : Nat → Nat → Bool
  | 0, _ => true
  | f + 1, pos => if pos < s.size then !bad s pos && valFrom s f (pos + (Utf8.decode s pos).2) else true
theorem valFrom_eq (s : ByteArray) : ∀ f pos, valFrom s f pos = vL f (rest s pos)
  | 0, _ => rfl
  | f + 1, pos => by
    rw [valFrom, vL]
    by_cases h : pos < s.size
    · rw [if_pos h, if_neg (fun e => (rest_nil s pos).1 e h), valFrom_eq s f, bad_eq, dl_at, rest_drop]
      by_cases hd : dl (rest s pos) = (65533, 1)
      · rw [if_pos hd]; simp [hd]
      · rw [if_neg hd]; simp [hd]
    · rw [if_neg h, if_pos ((rest_nil s pos).2 h)]
def valB (s : ByteArray) : Bool := decide (s.size ≤ 64) && vL s.size s.data.toList

set_option maxHeartbeats 1000000 in
theorem val_any (s : ByteArray) (hs : s.size ≤ maxLen) (w : World) : Calls Tryd.prog 8 #[.string s] w fun e w' => e = .returned (.bool (valB s)) ∧ Below w.heap.size w w' := by
  have HS := Hid.mk' hs
  unfold maxLen at hs
  by_cases h64 : 64 < s.size
  · have HK := Hid.mk' (show valB s = false by unfold valB; rw [decide_eq_false (by omega)]; rfl)
    go_enter Tryd.func8, Tryd.ntmps8
    go_wp2_with fail
    go_ret
    exact ⟨ret_bool HK.out.symm, Below.refl _ _⟩
  · have HK := Hid.mk' (show valB s = valFrom s s.size 0 by unfold valB; rw [decide_eq_true (by omega), valFrom_eq, rest_zero]; rfl)
    go_enter Tryd.func8, Tryd.ntmps8
    go_wp2_with fail
    go_loopw [] (fun wr => ∃ pos f : Nat, wr = w.iter s pos ∧ s.size ≤ pos + f ∧ Hid (valFrom s f pos = valFrom s s.size 0)) (fun wr => s.size - wr.iterPos w.heap.size)
    case atStart => exact ⟨0, s.size, rfl, by omega, Hid.mk' rfl⟩
    case round =>
      obtain ⟨pos, f, rfl, hf, hk⟩ := hrel
      by_cases hp : pos < s.size
      · obtain ⟨R, hR⟩ : ∃ R, (Utf8.decode s pos).1 = R := ⟨_, rfl⟩
        obtain ⟨wd, hwd⟩ : ∃ wd, (Utf8.decode s pos).2 = wd := ⟨_, rfl⟩
        have hw1 : 1 ≤ wd := by rw [← hwd]; exact Lib.decode_width_pos s pos hp
        have hnx : ∀ ty, (Instr.next (.pointer (some ⟨w.heap.size, 0, none⟩)) true ty).run Tryd.prog (w.iter s pos) = .ok (.tuple #[.bool true, .int .i64 pos, .int .i32 R]) (w.iter s (pos + wd)) := fun ty => by
          have := run_next_any (P := Tryd.prog) w s pos ty hp
          rw [hR, hwd] at this; exact this
        obtain ⟨g, rfl⟩ : ∃ g, f = g + 1 := ⟨f - 1, by omega⟩
        have hk2 := hk.out
        rw [valFrom, if_pos hp, hwd] at hk2
        have CB := Hid.mk' (broken_any s HS.out pos R hp hR)
        clear hR hwd hk
        generalize hb1 : bad s pos = b1 at *
        clear hb1
        cases b1 with
        | true =>
          have HR := Hid.mk' (HK.out.trans hk2.symm)
          clear hk2
          go_wp2_with fail
          refine (CB.out _).mono ?_; rintro e w' ⟨rfl, rfl⟩
          go_wp2_with fail
          go_ret
          exact ⟨ret_bool (by rw [HR.out]; rfl), (Below.refl _ _).alloc (Nat.le_refl _) _⟩
        | false =>
          have HR := Hid.mk' (show valFrom s g (pos + wd) = valFrom s s.size 0 by simpa using hk2)
          clear hk2
          go_wp2_with fail
          refine (CB.out _).mono ?_; rintro e w' ⟨rfl, rfl⟩
          go_wp2_with fail
          go_roundw
          case rel => exact ⟨pos + wd, g, rfl, by omega, HR⟩
          case measure => simp; omega
      · have hnx : ∀ ty, (Instr.next (.pointer (some ⟨w.heap.size, 0, none⟩)) true ty).run Tryd.prog (w.iter s pos) = _ := fun ty => run_next_end w s pos ty hp
        have hk2 : valFrom s f pos = true := by cases f <;> simp [valFrom, hp]
        have HR := Hid.mk' (HK.out.trans (hk.out.symm.trans hk2))
        clear hk2
        go_wp2_with fail
        go_ret
        exact ⟨ret_bool HR.out.symm, (Below.refl _ _).alloc (Nat.le_refl _) _⟩

theorem validstring_any (s : ByteArray) (hs : s.size ≤ maxLen) (w : World) (hT : Tb w) : Calls Tryd.prog 30 #[.string s] w fun e w' => e = .returned (.bool (vL s.size s.data.toList)) ∧ Below w.heap.size w w' := by
  have h := Any.utf8_ValidString Tryd.lays196 s w (by unfold maxLen at hs; omega) hT
  rw [valid_eq] at h
  exact h
set_option maxHeartbeats 1000000 in
theorem refbad_any (s : ByteArray) (hs : s.size ≤ maxLen) (w : World) (hT : Tb w) : Calls Tryd.prog 21 #[.string s] w fun e w' => e = .returned (.bool (!vL s.size s.data.toList)) ∧ Below w.heap.size w w' := by
  have C := Hid.mk' (validstring_any s hs w hT)
  generalize vL s.size s.data.toList = b at *
  clear hs hT
  go_enter Tryd.func21, Tryd.ntmps21
  go_wp2_with fail
  refine (C.out).mono ?_; rintro e w1 ⟨rfl, hb1⟩
  go_wp2_with fail
  go_ret
  exact ⟨rfl, hb1⟩
set_option maxHeartbeats 1000000 in
theorem refval_any (s : ByteArray) (hs : s.size ≤ maxLen) (w : World) (hT : Tb w) : Calls Tryd.prog 9 #[.string s] w fun e w' => e = .returned (.bool (valB s)) ∧ Below w.heap.size w w' := by
  have C := Hid.mk' (refbad_any s hs w hT)
  clear hT
  unfold maxLen at hs
  by_cases h : s.size ≤ 64
  · have HV := Hid.mk' (show (!!vL s.size s.data.toList) = valB s by unfold valB; rw [decide_eq_true h]; simp)
    generalize (!vL s.size s.data.toList) = b at *
    go_enter Tryd.func9, Tryd.ntmps9
    go_wp2_with fail
    refine (C.out).mono ?_; rintro e w1 ⟨rfl, hb1⟩
    go_wp2_with fail
    go_ret
    exact ⟨ret_bool HV.out, hb1⟩
  · have HV := Hid.mk' (show false = valB s by unfold valB; rw [decide_eq_false h]; rfl)
    go_enter Tryd.func9, Tryd.ntmps9
    go_wp2_with fail
    go_ret
    exact ⟨ret_bool HV.out, Below.refl _ _⟩
set_option maxHeartbeats 1000000 in
theorem refletter_any (r : Nat) (w : World) : Calls Tryd.prog 22 #[.int .i32 r] w (Says (letterB r) w) := by
  obtain ⟨z, hz⟩ : ∃ z : Int, (r : Int) = z := ⟨_, rfl⟩
  have hl : letterB r = decide (97 ≤ z ∧ z ≤ 122 ∨ 65 ≤ z ∧ z ≤ 90 ∨ 128 ≤ z) := by unfold letterB; rw [Bool.eq_iff_iff, decide_eq_true_eq, decide_eq_true_eq]; omega
  rw [hl, hz]
  clear hl hz
  have h : z < 65 ∨ (65 ≤ z ∧ z ≤ 90) ∨ (90 < z ∧ z < 97) ∨ (97 ≤ z ∧ z ≤ 122) ∨ (122 < z ∧ z < 128) ∨ 128 ≤ z := by omega
  rcases h with h | h | h | h | h | h
  all_goals
    go_enter Tryd.func22, Tryd.ntmps22
    go_wp2_with fail
    go_ret
    exact ⟨ret_bool (by rw [Bool.eq_iff_iff]; simp; omega), rfl⟩
end Go.Proofs.YtnhonjhpggnglaaDoor
