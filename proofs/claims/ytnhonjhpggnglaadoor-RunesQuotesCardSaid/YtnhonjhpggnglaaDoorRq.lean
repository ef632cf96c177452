/- Layer 1 (runes): a text in quotes, by definition. -/
import Derived.Test.YtnhonjhpggnglaaDoorCu
import Derived.Test.YtnhonjhpggnglaaDoorBk
import Derived.Test.YtnhonjhpggnglaaDoorAl
import Derived.Deep.QuietTactic
import Derived.BigQuiet
import Derived.WalkSmall
import Derived.Lib.QuietBelow
namespace Go.Proofs.YtnhonjhpggnglaaDoor
open Go.RowKit

/-- The text of these numbers. -/
def mkN (l : List Nat) : ByteArray := mkB (l.map UInt8.ofNat)
theorem mkN_app (a b : List Nat) : mkN a ++ mkN b = mkN (a ++ b) := by
  apply bytes_inj'
  unfold mkN
  simp [ByteArray.toList_data_append, mkB_data]
theorem mkN_mid (s : ByteArray) (a b : Nat) : s.extract a b = mkN ((mid s a b).map (·.toNat)) := by unfold mkN; rw [map_back, mid_extract]
theorem quoteB_eq (s : ByteArray) : quoteB s = mkN (34 :: qFrom s s.size 0) ++ mkN [34] := by rw [mkN_app]; rfl
theorem mkN_size (l : List Nat) : (mkN l).size = l.length := by unfold mkN; rw [mkB_size, List.length_map]
theorem fig_ext : ∀ n : Fin 16, (⟨#[48, 49, 50, 51, 52, 53, 54, 55, 56, 57, 97, 98, 99, 100, 101, 102]⟩ : ByteArray).extract n.val (n.val + 1) = mkN [hexd n.val] := by decide +kernel
theorem byte_ext (s : ByteArray) (k : Nat) (h : k < s.size) : s.extract k (k + 1) = mkN [bt s k] := by
  rw [mkN_mid, mid_snoc s k k (Nat.le_refl _) h, mid_self, List.nil_append, List.map_cons, List.map_nil, bt_at s k h]

set_option maxRecDepth 100000 in
set_option maxHeartbeats 4000000 in
theorem refquote_any (s : ByteArray) (hs : s.size ≤ 20000) (w : World) (hT : Tb w) : Calls Tryd.prog 17 #[.string s] w fun e w' => e = .returned (.string (quoteB s)) ∧ Below w.heap.size w w' := by
  go_enter Tryd.func17, Tryd.ntmps17
  go_wp2_with fail
  go_loopw [4, 5] (fun o a wr => ∃ (pos f : Nat) (l : List Nat), o = .string (mkN l) ∧ a = .int .i64 pos ∧ Below w.heap.size w wr ∧ l.length ≤ 4 * pos + 1 ∧ pos ≤ s.size ∧ s.size ≤ pos + f ∧ Hid (l ++ qFrom s f pos = 34 :: qFrom s s.size 0)) (fun _ a _ => s.size - (intOf a).toNat)
  case atStart => exact ⟨0, s.size, [34], rfl, rfl, Below.refl _ _, by simp, by omega, by omega, Hid.mk' rfl⟩
  case round =>
    obtain ⟨pos, f, l, rfl, rfl, hbel, hl, hpos, hf, hrun⟩ := hrel
    by_cases hp : pos < s.size
    · obtain ⟨wd, hwd⟩ : ∃ wd, (Utf8.decode s pos).2 = wd := ⟨_, rfl⟩
      have hw1 : 1 ≤ wd := by rw [← hwd]; exact Lib.decode_width_pos s pos hp
      have hw2 : pos + wd ≤ s.size := by rw [← hwd, dl_at]; have := (dl_wide (rest s pos) (fun e => (rest_nil s pos).1 e hp)).2; rw [rest_len] at this; omega
      have CF := Hid.mk' (first_any s pos hp wr (hT.next hbel))
      obtain ⟨g, rfl⟩ : ∃ g, f = g + 1 := ⟨f - 1, by omega⟩
      have hr := hrun.out
      rw [qFrom, if_pos hp, hwd] at hr
      rw [hwd] at CF
      have hbt : ((s[pos]).toNat : Nat) = bt s pos := bt_at s pos hp
      have hb256 := bt_lt s pos
      have HQ := Hid.mk' hr
      have HW := Hid.mk' hwd
      clear hr hrun hwd
      obtain ⟨b, hbv⟩ : ∃ b, bt s pos = b := ⟨_, rfl⟩
      rw [hbv] at hbt hb256
      have hhi : b / 16 < 16 := by omega
      have hlo : b % 16 < 16 := by omega
      have x1 := fig_ext ⟨b / 16, hhi⟩
      have x2 := fig_ext ⟨b % 16, hlo⟩
      simp only at x1 x2
      have q1 : IntKind.u8.wrap ((b : Int) / 16) = ((b / 16 : Nat) : Int) := by simp only [IntKind.wrap, IntKind.bits, IntKind.signed]; first | omega | (simp; omega)
      have q2 : IntKind.u8.wrap (((b / 16 : Nat) : Int) + 1) = ((b / 16 + 1 : Nat) : Int) := by simp only [IntKind.wrap, IntKind.bits, IntKind.signed]; first | omega | (simp; omega)
      have q3 : IntKind.u8.wrap ((b : Int) % 16) = ((b % 16 : Nat) : Int) := by simp only [IntKind.wrap, IntKind.bits, IntKind.signed]; first | omega | (simp; omega)
      have q3' : ((b : Int) % 16) = ((b % 16 : Nat) : Int) := by omega
      have q4 : IntKind.u8.wrap (((b % 16 : Nat) : Int) + 1) = ((b % 16 + 1 : Nat) : Int) := by simp only [IntKind.wrap, IntKind.bits, IntKind.signed]; first | omega | (simp; omega)
      have hesc : mkN l ++ ((⟨#[92, 120]⟩ : ByteArray) ++ mkN [hexd (b / 16)] ++ mkN [hexd (b % 16)]) = mkN (l ++ [92, 120, hexd (b / 16), hexd (b % 16)]) := by
        rw [show (⟨#[92, 120]⟩ : ByteArray) = mkN [92, 120] from rfl, mkN_app, mkN_app, mkN_app]; rfl
      have HE := Hid.mk' hesc
      have hsz : (mkN l).size ≤ 100000 := by rw [mkN_size]; omega
      have hsz1 : (mkN [hexd (b / 16)]).size = 1 := by rw [mkN_size]; rfl
      have hsz2 : (mkN [hexd (b % 16)]).size = 1 := by rw [mkN_size]; rfl
      clear hesc
      generalize mkN [hexd (b / 16)] = F1 at *
      generalize mkN [hexd (b % 16)] = F2 at *
      cases hbad : bad s pos with
      | true =>
        rw [hbad] at CF
        have hqa := qAt_esc s pos (Or.inl hbad)
        rw [hbv] at hqa
        have HQ2 := Hid.mk' (show (l ++ [92, 120, hexd (b / 16), hexd (b % 16)]) ++ qFrom s g (pos + wd) = 34 :: qFrom s s.size 0 by rw [← hqa, List.append_assoc]; exact HQ.out)
        clear hbad hbv hqa HQ HW
        go_wp2_with fail
        refine (CF.out).mono ?_; rintro e w1 ⟨rfl, hb1⟩
        have hbel1 := bnext hbel hb1
        clear hb1 hbel CF
        go_wp2_with fail
        generalize b / 16 = hi at *
        generalize b % 16 = lo at *
        go_quiet (fail)
        go_wp2_with fail
        go_roundw
        case rel => exact ⟨pos + wd, g, l ++ [92, 120, hexd hi, hexd lo], by rw [HE.out], by go_num, below_drewN hbel1 _, by rw [List.length_append]; simp only [List.length_cons, List.length_nil]; omega, by omega, by omega, HQ2⟩
        case measure => simp [intOf]; omega
      | false =>
        rw [hbad] at CF
        have hcase : b < 32 ∨ b = 127 ∨ b = 34 ∨ b = 92 ∨ (32 ≤ b ∧ b ≠ 127 ∧ b ≠ 34 ∧ b ≠ 92) := by omega
        rcases hcase with hb | hb | hb | hb | hb
        · have hqa := qAt_esc s pos (Or.inr (Or.inl (by omega)))
          rw [hbv] at hqa
          have HQ2 := Hid.mk' (show (l ++ [92, 120, hexd (b / 16), hexd (b % 16)]) ++ qFrom s g (pos + wd) = 34 :: qFrom s s.size 0 by rw [← hqa, List.append_assoc]; exact HQ.out)
          clear hbad hbv hqa HQ HW
          go_wp2_with fail
          refine (CF.out).mono ?_; rintro e w1 ⟨rfl, hb1⟩
          have hbel1 := bnext hbel hb1
          clear hb1 hbel CF
          go_wp2_with fail
          generalize b / 16 = hi at *
          generalize b % 16 = lo at *
          go_quiet (fail)
          go_wp2_with fail
          go_roundw
          case rel => exact ⟨pos + wd, g, l ++ [92, 120, hexd hi, hexd lo], by rw [HE.out], by go_num, below_drewN hbel1 _, by rw [List.length_append]; simp only [List.length_cons, List.length_nil]; omega, by omega, by omega, HQ2⟩
          case measure => simp [intOf]; omega
        · have hqa := qAt_esc s pos (Or.inr (Or.inr (by omega)))
          rw [hbv] at hqa
          have he : ((b : Int) == 127) = true := by rw [hb]; rfl
          have h32 : ¬ ((b : Int) < 32) := by omega
          clear hb
          have HQ2 := Hid.mk' (show (l ++ [92, 120, hexd (b / 16), hexd (b % 16)]) ++ qFrom s g (pos + wd) = 34 :: qFrom s s.size 0 by rw [← hqa, List.append_assoc]; exact HQ.out)
          clear hbad hbv hqa HQ HW
          go_wp2_with fail
          refine (CF.out).mono ?_; rintro e w1 ⟨rfl, hb1⟩
          have hbel1 := bnext hbel hb1
          clear hb1 hbel CF
          go_wp2_with fail
          generalize b / 16 = hi at *
          generalize b % 16 = lo at *
          go_quiet (fail)
          go_wp2_with fail
          go_roundw
          case rel => exact ⟨pos + wd, g, l ++ [92, 120, hexd hi, hexd lo], by rw [HE.out], by go_num, below_drewN hbel1 _, by rw [List.length_append]; simp only [List.length_cons, List.length_nil]; omega, by omega, by omega, HQ2⟩
          case measure => simp [intOf]; omega
        · have hqa := qAt_back s pos 34 hbad (by omega) (by omega)
          have HQ2 := Hid.mk' (show (l ++ [92, 34]) ++ qFrom s g (pos + wd) = 34 :: qFrom s s.size 0 by rw [← hqa, List.append_assoc]; exact HQ.out)
          have hx := byte_ext s pos hp
          rw [hbv, hb] at hx
          have HE2 := Hid.mk' (show mkN l ++ ((⟨#[92]⟩ : ByteArray) ++ mkN [34]) = mkN (l ++ [92, 34]) by rw [show (⟨#[92]⟩ : ByteArray) = mkN [92] from rfl, mkN_app, mkN_app]; rfl)
          have hsz3 : (mkN [34]).size = 1 := by rw [mkN_size]; rfl
          generalize mkN [34] = F3 at *
          clear hbad hbv hqa HQ HW HE q1 q2 q3 q3' q4 x1 x2 hsz1 hsz2 hhi hlo
          subst hb
          go_wp2_with fail
          refine (CF.out).mono ?_; rintro e w1 ⟨rfl, hb1⟩
          have hbel1 := bnext hbel hb1
          clear hb1 hbel CF
          go_wp2_with fail
          go_roundw
          case rel => exact ⟨pos + wd, g, l ++ [92, 34], by rw [HE2.out], by go_num, hbel1, by rw [List.length_append]; simp only [List.length_cons, List.length_nil]; omega, by omega, by omega, HQ2⟩
          case measure => simp [intOf]; omega
        · have hqa := qAt_back s pos 92 hbad (by omega) (by omega)
          have HQ2 := Hid.mk' (show (l ++ [92, 92]) ++ qFrom s g (pos + wd) = 34 :: qFrom s s.size 0 by rw [← hqa, List.append_assoc]; exact HQ.out)
          have hx := byte_ext s pos hp
          rw [hbv, hb] at hx
          have HE2 := Hid.mk' (show mkN l ++ ((⟨#[92]⟩ : ByteArray) ++ mkN [92]) = mkN (l ++ [92, 92]) by rw [show (⟨#[92]⟩ : ByteArray) = mkN [92] from rfl, mkN_app, mkN_app]; rfl)
          have hsz3 : (mkN [92]).size = 1 := by rw [mkN_size]; rfl
          generalize mkN [92] = F3 at *
          clear hbad hbv hqa HQ HW HE q1 q2 q3 q3' q4 x1 x2 hsz1 hsz2 hhi hlo
          subst hb
          go_wp2_with fail
          refine (CF.out).mono ?_; rintro e w1 ⟨rfl, hb1⟩
          have hbel1 := bnext hbel hb1
          clear hb1 hbel CF
          go_wp2_with fail
          go_roundw
          case rel => exact ⟨pos + wd, g, l ++ [92, 92], by rw [HE2.out], by go_num, hbel1, by rw [List.length_append]; simp only [List.length_cons, List.length_nil]; omega, by omega, by omega, HQ2⟩
          case measure => simp [intOf]; omega
        · obtain ⟨hb1, hb2, hb3, hb4⟩ := hb
          have hqa : qAt s pos = (mid s pos (pos + wd)).map (·.toNat) := by
            unfold qAt
            rw [hbad, hbv, HW.out, if_neg (by simp; omega), if_neg (by omega)]
          have HQ2 := Hid.mk' (show (l ++ (mid s pos (pos + wd)).map (·.toNat)) ++ qFrom s g (pos + wd) = 34 :: qFrom s s.size 0 by rw [← hqa, List.append_assoc]; exact HQ.out)
          have hx := mkN_mid s pos (pos + wd)
          have hml : ((mid s pos (pos + wd)).map (·.toNat)).length = wd := by rw [List.length_map, mid_len s pos (pos + wd) hw2]; omega
          generalize (mid s pos (pos + wd)).map (·.toNat) = M at *
          have HE2 := Hid.mk' (mkN_app l M)
          have hsz3 : (mkN M).size = wd := by rw [mkN_size]; exact hml
          generalize mkN M = F3 at *
          have e34 : ((b : Int) == 34) = false := by simp; omega
          have e92 : ((b : Int) == 92) = false := by simp; omega
          have e127 : ((b : Int) == 127) = false := by simp; omega
          have h32 : ¬ ((b : Int) < 32) := by omega
          clear hbad hbv hqa HQ HW HE q1 q2 q3 q3' q4 x1 x2 hsz1 hsz2 hhi hlo hb1 hb2 hb3 hb4
          go_wp2_with fail
          refine (CF.out).mono ?_; rintro e w1 ⟨rfl, hb1⟩
          have hbel1 := bnext hbel hb1
          clear hb1 hbel CF
          go_wp2_with fail
          go_roundw
          case rel => exact ⟨pos + wd, g, l ++ M, by rw [HE2.out], by go_num, hbel1, by rw [List.length_append]; omega, by omega, by omega, HQ2⟩
          case measure => simp [intOf]; omega
    · have hend : qFrom s f pos = [] := by cases f <;> simp [qFrom, hp]
      have hr := hrun.out
      rw [hend, List.append_nil] at hr
      have HR := Hid.mk' (show mkN l ++ (⟨#[34]⟩ : ByteArray) = quoteB s by rw [quoteB_eq, hr]; rfl)
      have hsz : (mkN l).size ≤ 100000 := by rw [mkN_size]; omega
      clear hr hend hrun
      go_wp2_with fail
      go_ret
      exact ⟨ret_s HR.out, hbel⟩
end Go.Proofs.YtnhonjhpggnglaaDoor
