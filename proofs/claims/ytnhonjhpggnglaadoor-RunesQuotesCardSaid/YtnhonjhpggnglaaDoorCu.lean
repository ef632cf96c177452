/- Layer 1 (runes): the first so many runes, by definition; what they make up. -/
import Derived.Test.YtnhonjhpggnglaaDoorCo
import Derived.Test.YtnhonjhpggnglaaDoorSh
import Derived.Laws.IdiomStrings
namespace Go.Proofs.YtnhonjhpggnglaaDoor
open Go.RowKit

/-- The decoder's two tables lie as Go's library lays them. -/
def Tb (w : World) : Prop := Lib.Utf8Tabs (Tryd.lays197_ren.g 3) (Tryd.lays197_ren.g 4) w
theorem Tb.next {w w' : World} (h : Tb w) (hb : Below w.heap.size w w') : Tb w' := by
  have c : ∀ {p v}, w.cell? p = some v → w'.cell? p = some v := fun h1 => by rw [hb.cell (World.block_lt_of_cell? w _ h1)]; exact h1
  exact ⟨fun k hk => c (h.1 k hk), fun i hi => ⟨c (h.2 i hi).1, c (h.2 i hi).2⟩⟩
theorem go_at (s : ByteArray) (k : Nat) (h : k < s.size) : Lib.decodeGo (s.extract k s.size) = Utf8.decode s k := by
  unfold Lib.decodeGo
  rw [if_neg (by rw [ByteArray.size_extract]; omega), Lib.tail_decode]; rfl
theorem decode_any (s : ByteArray) (w : World) (hT : Tb w) : Calls Tryd.prog 31 #[.string s] w fun e w' => e = .returned (.tuple #[.int .i32 (Lib.decodeGo s).1, .int .i64 (Lib.decodeGo s).2]) ∧ Below w.heap.size w w' :=
  Any.utf8_DecodeRuneInString Tryd.lays197 s w hT
theorem retnb {a c : Nat} {b d : Bool} (h : a = c) (h2 : b = d) : Ending.returned (.tuple #[.int .i64 (a : Int), .bool b]) = .returned (.tuple #[.int .i64 (c : Int), .bool d]) := by rw [h, h2]
set_option maxHeartbeats 1000000 in
/-- The first rune of what stands from a place on: its width, and whether it is one. -/
theorem first_any (s : ByteArray) (k : Nat) (hk : k < s.size) (w : World) (hT : Tb w) : Calls Tryd.prog 25 #[.string (s.extract k s.size)] w fun e w' => e = .returned (.tuple #[.int .i64 (Utf8.decode s k).2, .bool (!bad s k)]) ∧ Below w.heap.size w w' := by
  have C := decode_any (s.extract k s.size) w hT
  rw [go_at s k hk] at C
  have hbad : bad s k = decide (Utf8.decode s k = (65533, 1)) := by unfold bad; rfl
  have hpos := Lib.decode_width_pos s k hk
  generalize Utf8.decode s k = d at *
  obtain ⟨R, wd⟩ := d
  have CC := Hid.mk' C
  simp only at hpos
  have hb2 : (!bad s k) = (decide (R ≠ 65533) || decide (1 < wd)) := by
    rw [hbad, Bool.eq_iff_iff]; simp; omega
  clear hbad C
  by_cases hR : R = 65533
  · have hne : ((R : Int) != 65533) = false := by rw [hR]; rfl
    have HB := Hid.mk' (show decide ((1 : Int) < (wd : Int)) = !bad s k by rw [hb2]; simp [hR]; omega)
    go_enter Tryd.func25, Tryd.ntmps25
    go_wp2_with fail
    refine (CC.out).mono ?_; rintro e w1 ⟨rfl, hb1⟩
    go_wp2_with fail
    go_ret2
    exact ⟨retnb rfl HB.out, hb1⟩
  · have hne : ((R : Int) != 65533) = true := by simp; omega
    have HB := Hid.mk' (show true = !bad s k by rw [hb2]; simp [hR])
    go_enter Tryd.func25, Tryd.ntmps25
    go_wp2_with fail
    refine (CC.out).mono ?_; rintro e w1 ⟨rfl, hb1⟩
    go_wp2_with fail
    go_ret2
    exact ⟨retnb rfl HB.out, hb1⟩

set_option maxHeartbeats 2000000 in
theorem refcut_any (s : ByteArray) (n : Int) (hs : s.size ≤ 20000) (hn : -9223372036854775808 ≤ n ∧ n ≤ 9223372036854775807) (w : World) (hT : Tb w) : Calls Tryd.prog 12 #[.string s, .int .i64 n] w fun e w' => e = .returned (.string (s.extract 0 (cutP s n))) ∧ Below w.heap.size w w' := by
  have HM := Hid.mk' (show cutP s n = cutF s s.size 0 n.toNat from rfl)
  go_enter Tryd.func12, Tryd.ntmps12
  go_wp2_with fail
  go_loopw [5, 6] (fun a i wr => ∃ pos f k : Nat, a = .int .i64 pos ∧ i = .int .i64 k ∧ s.size ≤ pos + f ∧ k ≤ pos ∧ pos ≤ s.size ∧ Below w.heap.size w wr ∧ Hid (cutF s f pos (n.toNat - k) = cutP s n)) (fun a _ _ => s.size - (intOf a).toNat)
  case atStart => exact ⟨0, s.size, 0, rfl, rfl, by omega, by omega, by omega, Below.refl _ _, Hid.mk' rfl⟩
  case round =>
    obtain ⟨pos, f, k, rfl, rfl, hf, hk, hpz, hbel, hrun⟩ := hrel
    by_cases hp : pos < s.size ∧ (k : Int) < n
    · obtain ⟨hp, hkn⟩ := hp
      obtain ⟨wd, hwd⟩ : ∃ wd, (Utf8.decode s pos).2 = wd := ⟨_, rfl⟩
      have hw1 : 1 ≤ wd := by rw [← hwd]; exact Lib.decode_width_pos s pos hp
      have hw2 : pos + wd ≤ s.size := by rw [← hwd, dl_at]; have := (dl_wide (rest s pos) (fun e => (rest_nil s pos).1 e hp)).2; rw [rest_len] at this; omega
      have CF := Hid.mk' (first_any s pos hp wr (hT.next hbel))
      obtain ⟨g, rfl⟩ : ∃ g, f = g + 1 := ⟨f - 1, by omega⟩
      have hr := hrun.out
      rw [cutF, if_pos ⟨hp, by omega⟩, hwd, show n.toNat - k - 1 = n.toNat - (k + 1) from by omega] at hr
      rw [hwd] at CF
      have HR := Hid.mk' hr
      clear hr hrun hwd HM
      generalize (!bad s pos) = bb at *
      go_wp2_with fail
      refine (CF.out).mono ?_; rintro e w1 ⟨rfl, hb1⟩
      have hbel1 := bnext hbel hb1
      go_wp2_with fail
      go_roundw
      case rel => exact ⟨pos + wd, g, k + 1, by go_num, by go_num, by omega, by omega, by omega, hbel1, HR⟩
      case measure => simp [intOf]; omega
    · have hk2 : cutF s f pos (n.toNat - k) = pos := by
        cases f with
        | zero => rfl
        | succ g => rw [cutF, if_neg (by omega)]
      have hr := hrun.out
      rw [hk2] at hr
      have HR := Hid.mk' hr.symm
      clear hr hrun hk2 HM
      by_cases hkn : (k : Int) < n
      · have hp' : ¬ ((pos : Int) < (s.size : Int)) := by omega
        clear hp
        go_wp2_with fail
        go_ret
        exact ⟨ret_s (by rw [HR.out]), hbel⟩
      · clear hp
        go_wp2_with fail
        go_ret
        exact ⟨ret_s (by rw [HR.out]), hbel⟩

/-! What is cut off and the rest are the text. -/
def cntL : Nat → List UInt8 → Nat
  | 0, _ => 0
  | f + 1, l => if l = [] then 0 else 1 + cntL f (l.drop (dl l).2)
theorem cntF_eq (s : ByteArray) : ∀ f pos, cntF s f pos = cntL f (rest s pos)
  | 0, _ => rfl
  | f + 1, pos => by
    rw [cntF, cntL]
    by_cases h : pos < s.size
    · rw [if_pos h, if_neg (fun e => (rest_nil s pos).1 e h), cntF_eq s f, dl_at, rest_drop]
    · rw [if_neg h, if_pos ((rest_nil s pos).2 h)]
theorem cntL_more : ∀ f g (l : List UInt8), l.length ≤ f → l.length ≤ g → cntL f l = cntL g l
  | 0, g, l, h, _ => by
    obtain rfl := List.eq_nil_of_length_eq_zero (by omega : l.length = 0)
    cases g <;> rfl
  | f + 1, 0, l, _, h => by
    obtain rfl := List.eq_nil_of_length_eq_zero (by omega : l.length = 0)
    rfl
  | f + 1, g + 1, l, h1, h2 => by
    rw [cntL, cntL]
    by_cases hl : l = []
    · rw [if_pos hl, if_pos hl]
    · rw [if_neg hl, if_neg hl]
      have := dl_wide l hl
      rw [cntL_more f g (l.drop (dl l).2) (by rw [List.length_drop]; omega) (by rw [List.length_drop]; omega)]
theorem cnt_eq (s : ByteArray) : cnt s = cntL s.size s.data.toList := by unfold cnt; rw [cntF_eq, rest_zero]
/-- How many bytes the first so many runes have. -/
def cutL : Nat → List UInt8 → Nat → Nat
  | 0, _, _ => 0
  | f + 1, l, n => if l ≠ [] ∧ 0 < n then (dl l).2 + cutL f (l.drop (dl l).2) (n - 1) else 0
theorem cutF_eq (s : ByteArray) : ∀ f pos n, cutF s f pos n = pos + cutL f (rest s pos) n
  | 0, _, _ => rfl
  | f + 1, pos, n => by
    rw [cutF, cutL]
    by_cases h : pos < s.size ∧ 0 < n
    · rw [if_pos h, if_pos ⟨fun e => (rest_nil s pos).1 e h.1, h.2⟩, cutF_eq s f, dl_at, rest_drop, Nat.add_assoc]
    · rw [if_neg h, if_neg (by rintro ⟨h1, h2⟩; exact h ⟨by rw [Ne, rest_nil] at h1; omega, h2⟩)]; rfl
theorem cutL_le : ∀ f (l : List UInt8) n, cutL f l n ≤ l.length
  | 0, _, _ => by simp [cutL]
  | f + 1, l, n => by
    rw [cutL]
    split
    · rename_i h
      have h1 := dl_wide l h.1
      have h2 := cutL_le f (l.drop (dl l).2) (n - 1)
      rw [List.length_drop] at h2; omega
    · omega
theorem cut_sum : ∀ f (l : List UInt8) n, l.length ≤ f → cntL f (l.take (cutL f l n)) + cntL f (l.drop (cutL f l n)) = cntL f l
  | 0, l, n, h => by simp [cntL]
  | f + 1, l, n, h => by
    rw [cutL]
    by_cases hc : l ≠ [] ∧ 0 < n
    · rw [if_pos hc]
      have h1 := dl_wide l hc.1
      generalize hm : cutL f (l.drop (dl l).2) (n - 1) = m
      have hm2 : m ≤ l.length - (dl l).2 := by rw [← hm, ← List.length_drop]; exact cutL_le _ _ _
      have ih := cut_sum f (l.drop (dl l).2) (n - 1) (by rw [List.length_drop]; omega)
      rw [hm] at ih
      have hne : l.take ((dl l).2 + m) ≠ [] := by
        intro e
        have e2 := congrArg List.length e
        rw [List.length_take, List.length_nil] at e2; omega
      have e1 : cntL (f + 1) (l.take ((dl l).2 + m)) = 1 + cntL f ((l.drop (dl l).2).take m) := by
        rw [cntL, if_neg hne, dl_pre l hc.1 _ (by omega), List.drop_take, show (dl l).2 + m - (dl l).2 = m from by omega]
      have e2 : cntL (f + 1) (l.drop ((dl l).2 + m)) = cntL f ((l.drop (dl l).2).drop m) := by
        rw [List.drop_drop]
        exact cntL_more _ _ _ (by rw [List.length_drop]; omega) (by rw [List.length_drop]; omega)
      rw [e1, e2]
      conv => rhs; rw [cntL, if_neg hc.1]
      omega
    · rw [if_neg hc]
      simp [cntL]
theorem cutP_eq (s : ByteArray) (n : Int) : cutP s n = cutL s.size s.data.toList n.toNat := by unfold cutP; rw [cutF_eq, rest_zero]; omega
theorem cutP_le (s : ByteArray) (n : Int) : cutP s n ≤ s.size := by rw [cutP_eq]; have := cutL_le s.size s.data.toList n.toNat; rw [len_data] at this; exact this
theorem cnt_parts (s : ByteArray) (n : Int) : cnt (s.extract 0 (cutP s n)) + cnt (s.extract (cutP s n) s.size) = cnt s := by
  have h := cut_sum s.size s.data.toList n.toNat (by rw [len_data]; exact Nat.le_refl _)
  rw [← cutP_eq] at h
  have hle := cutP_le s n
  have e1 : (s.extract 0 (cutP s n)).data.toList = s.data.toList.take (cutP s n) := by simp
  have e2 : (s.extract (cutP s n) s.size).data.toList = s.data.toList.drop (cutP s n) := by rw [mkB_rest, mkB_data]; rfl
  rw [cnt_eq, cnt_eq, cnt_eq, e1, e2]
  rw [cntL_more (s.extract 0 (cutP s n)).size s.size _ (by rw [← len_data, e1]; exact Nat.le_refl _) (by rw [List.length_take, len_data]; omega)]
  rw [cntL_more (s.extract (cutP s n) s.size).size s.size _ (by rw [← len_data, e2]; exact Nat.le_refl _) (by rw [List.length_drop, len_data]; omega)]
  exact h
theorem runes_size (s : ByteArray) : ∀ f pos (acc : Array Value), (Conv.runesFrom s f pos acc).size = acc.size + cntF s f pos
  | 0, _, acc => by simp [Conv.runesFrom, cntF]
  | f + 1, pos, acc => by
    unfold Conv.runesFrom
    rw [cntF]
    split
    · rw [runes_size s f]; simp; omega
    · rfl
theorem runes_cnt (s : ByteArray) : (Conv.runesFrom s s.size 0 #[]).size = cnt s := by rw [runes_size]; simp [cnt]
end Go.Proofs.YtnhonjhpggnglaaDoor
