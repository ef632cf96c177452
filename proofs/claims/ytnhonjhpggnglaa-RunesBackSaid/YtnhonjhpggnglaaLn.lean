/- Layer 1 (runes): the lines of a text, by the code and by definition. -/
import Derived.Test.YtnhonjhpggnglaaRow
import Derived.Test.YtnhonjhpggnglaaUt
import Derived.Test.YtnhonjhpggnglaaChecked
import Derived.ProofKit
import Derived.WalkLawsBesides
import Derived.WalkSpells
import Derived.Outline
import Derived.RegionTactic
import Derived.Deep.QuietTactic
import Derived.BigQuiet
namespace Go.Proofs.Ytnhonjhpggnglaa
open Go.RowKit

def lnStep (p : List (List UInt8) × List UInt8) (c : UInt8) : List (List UInt8) × List UInt8 := if c = 10 then (p.1 ++ [p.2], []) else (p.1, p.2 ++ [c])
def lns (l : List UInt8) : List (List UInt8) × List UInt8 := l.foldl lnStep ([], [])
theorem lns_snoc (l : List UInt8) (c : UInt8) : lns (l ++ [c]) = lnStep (lns l) c := by simp [lns]
/-- The lines of a text. -/
def linesL (l : List UInt8) : List (List UInt8) := if (lns l).2 = [] then (lns l).1 else (lns l).1 ++ [(lns l).2]
theorem lns_len' : ∀ (l : List UInt8) (p : List (List UInt8) × List UInt8), (l.foldl lnStep p).1.length + (l.foldl lnStep p).2.length ≤ p.1.length + p.2.length + l.length
  | [], p => by simp
  | c :: l, p => by
    have h := lns_len' l (lnStep p c)
    have h2 : (lnStep p c).1.length + (lnStep p c).2.length ≤ p.1.length + p.2.length + 1 := by unfold lnStep; split <;> simp <;> omega
    simp only [List.foldl_cons, List.length_cons]
    omega
theorem lns_len (l : List UInt8) : (lns l).1.length + (lns l).2.length ≤ l.length := by
  have := lns_len' l ([], [])
  simpa [lns] using this
theorem pre_len (s : ByteArray) (k : Nat) : (pre s k).length ≤ s.size := by unfold pre; rw [List.length_take, len_data]; omega
theorem str_info : (Try.prog.info? 9).map (fun i => (i.zero, i.size, i.bytes)) = some (some (.string ⟨#[]⟩), 1, 16) := by kernel_rfl
theorem byte_eq (c : UInt8) (n : Nat) (h : c.toNat = n) : c = UInt8.ofNat n := by rw [← h]; simp

/-- What a call answers that makes a row of texts: it owns the row, and what was there is as it was. -/
def Row (w : World) (xs : List (List UInt8)) (e : Ending) (w' : World) : Prop := ∃ v, e = .returned v ∧ w'.ownsRow w.heap.size 9 1 v xs.length (vals xs) ∧ Below w.heap.size w w'

set_option maxHeartbeats 1000000 in
theorem reflines_any (s : ByteArray) (hs : s.size ≤ 2000) (w : World) : Calls Try.prog 15 #[.string s] w (Row w (linesL s.data.toList)) := by
  obtain ⟨i0, hi, hz0, hz1, hz2⟩ := info_parts str_info
  go_enter Try.func15, Try.ntmps15
  go_wp2_with fail
  go_loopw [3, 4, 5] (fun v c i wr => ∃ pos : Nat, i = .int .i64 pos ∧ pos ≤ s.size ∧ c = .string (mkB (lns (pre s pos)).2) ∧ wr.ownsRow w.heap.size 9 1 v (lns (pre s pos)).1.length (vals (lns (pre s pos)).1) ∧ Below w.heap.size w wr) (fun _ _ i _ => s.size - (intOf i).toNat)
  case atStart => exact ⟨0, rfl, by omega, rfl, World.ownsRow_nil w _ _ _, Below.refl _ _⟩
  case round =>
    obtain ⟨pos, rfl, hpos, rfl, hown, hbel⟩ := hrel
    have hlen := lns_len (pre s pos)
    have hlen2 := pre_len s pos
    by_cases hp : pos < s.size
    · by_cases hc : s[pos] = 10
      · have hb : ((((s[pos]).toNat : Nat) : Int) == 10) = true := by rw [hc]; rfl
        have on : lns (pre s (pos + 1)) = ((lns (pre s pos)).1 ++ [(lns (pre s pos)).2], []) := by rw [pre_snoc s pos hp, lns_snoc, lnStep, if_pos hc]
        have ON := Hid.mk' on
        clear hc on
        go_wp2_with (at_builtin; refine wpList_append_own _ rfl (.tmp 16) (.tmp 18) 26 rfl w.heap.size 9 i0 _ 1 16 Try.underlying26 hi hz0 hz1 hz2 rfl (by decide) u3 _ _ rfl (hown.alloc _) ⟨wr.heap.size, 0, none⟩ 1 1 [.string (mkB (lns (pre s pos)).2)] rfl rfl ?c1 ?c2 ?c3 ?c4 ?c5 ?_)
        case c1 => exact cell_one_new _ _ _
        case c2 => intro u hu; simp at hu; subst hu; rfl
        case c3 => simp only [maxLen]; omega
        case c4 => omega
        case c5 => have := hbel.size; simp; omega
        intro v1 w1 hown1 hgr1 _
        have hbel1 : Below w.heap.size w w1 := (hbel.alloc hbel.size _).grown hgr1 (by have := hbel.size; simp; omega) (fun k hk => (hown.lt k hk).1)
        rw [vals_snoc] at hown1
        clear hgr1 hown hbel
        go_wp2_with fail
        go_roundw
        case rel => exact ⟨pos + 1, by go_num, by omega, by rw [ON.out]; rfl, by rw [ON.out]; simpa using hown1, hbel1⟩
        case measure => simp [intOf]; omega
      · have hb : ((((s[pos]).toNat : Nat) : Int) == 10) = false := by
          rw [beq_eq_false_iff_ne]; intro h; apply hc
          exact UInt8.toNat_inj.1 (by have : (10 : UInt8).toNat = 10 := rfl; omega)
        have on : lns (pre s (pos + 1)) = ((lns (pre s pos)).1, (lns (pre s pos)).2 ++ [s[pos]]) := by rw [pre_snoc s pos hp, lns_snoc, lnStep, if_neg hc]
        have ON := Hid.mk' on
        have hsz : (mkB (lns (pre s pos)).2).size + 1 ≤ 2001 := by rw [mkB_size]; omega
        clear hc on
        go_wp2_with fail
        go_roundw
        case rel => exact ⟨pos + 1, by go_num, by omega, by rw [ON.out, mkB_snoc _ s pos hp], by rw [ON.out]; exact hown, hbel⟩
        case measure => simp [intOf]; omega
    · have hpr := pre_all s pos (by omega)
      rw [hpr] at hown hlen ⊢
      clear hpr hlen2
      rw [len_data] at hlen
      by_cases he : (lns s.data.toList).2 = []
      · have e0 : linesL s.data.toList = (lns s.data.toList).1 := by unfold linesL; rw [if_pos he]
        have hb : (mkB (lns s.data.toList).2).toList = [] := by rw [ByteArray.toList_eq, mkB_data, he]
        have hb2 : (!(mkB (lns s.data.toList).2).toList.isEmpty) = false := by rw [hb]; rfl
        have E0 := Hid.mk' e0
        clear e0 he hb
        go_wp2_with fail
        go_ret
        exact ⟨_, rfl, by rw [E0.out]; exact hown, hbel⟩
      · have e0 : linesL s.data.toList = (lns s.data.toList).1 ++ [(lns s.data.toList).2] := by unfold linesL; rw [if_neg he]
        have hb2 : (!(mkB (lns s.data.toList).2).toList.isEmpty) = true := by
          rw [ByteArray.toList_eq, mkB_data]
          cases h : (lns s.data.toList).2 with
          | nil => exact absurd h he
          | cons a b => rfl
        have E0 := Hid.mk' e0
        clear e0 he
        go_wp2_with (at_builtin; refine wpList_append_own _ rfl (.tmp 29) (.tmp 31) 26 rfl w.heap.size 9 i0 _ 1 16 Try.underlying26 hi hz0 hz1 hz2 rfl (by decide) u3 _ _ rfl (hown.alloc _) ⟨wr.heap.size, 0, none⟩ 1 1 [.string (mkB (lns s.data.toList).2)] rfl rfl ?c1 ?c2 ?c3 ?c4 ?c5 ?_)
        case c1 => exact cell_one_new _ _ _
        case c2 => intro u hu; simp at hu; subst hu; rfl
        case c3 => simp only [maxLen]; omega
        case c4 => omega
        case c5 => have := hbel.size; simp; omega
        intro v1 w1 hown1 hgr1 _
        have hbel1 : Below w.heap.size w w1 := (hbel.alloc hbel.size _).grown hgr1 (by have := hbel.size; simp; omega) (fun k hk => (hown.lt k hk).1)
        rw [vals_snoc] at hown1
        clear hgr1 hown hbel
        go_wp2_with fail
        go_ret
        exact ⟨_, rfl, by rw [E0.out]; simpa using hown1, hbel1⟩

theorem lns_on (s : ByteArray) (fr pos : Nat) (hfr : fr ≤ pos) (h : (lns (pre s pos)).2 = mid s fr pos) : ∀ j, pos + j ≤ s.size → (∀ i, i < j → bt s (pos + i) ≠ 10) →
    (lns (pre s (pos + j))).1 = (lns (pre s pos)).1 ∧ (lns (pre s (pos + j))).2 = mid s fr (pos + j)
  | 0, _, _ => ⟨rfl, h⟩
  | j + 1, hj, hb => by
    have ih := lns_on s fr pos hfr h j (by omega) (fun i hi => hb i (by omega))
    have hl : pos + j < s.size := by omega
    have hne : ¬ s[pos + j] = 10 := fun e => hb j (by omega) (by rw [← bt_at s _ hl, e]; rfl)
    rw [show pos + (j + 1) = pos + j + 1 from rfl, pre_snoc s _ hl, lns_snoc, lnStep, if_neg hne, mid_snoc s fr (pos + j) (by omega) hl]
    exact ⟨ih.1, by rw [ih.2]⟩
theorem lns_cut (s : ByteArray) (fr pos : Nat) (hp : pos < s.size) (h : (lns (pre s pos)).2 = mid s fr pos) (hc : bt s pos = 10) :
    (lns (pre s (pos + 1))).1 = (lns (pre s pos)).1 ++ [mid s fr pos] ∧ (lns (pre s (pos + 1))).2 = mid s (pos + 1) (pos + 1) := by
  have he : s[pos] = 10 := UInt8.toNat_inj.1 (by rw [bt_at s pos hp, hc]; rfl)
  rw [pre_snoc s pos hp, lns_snoc, lnStep, if_pos he, h, mid_self]
  exact ⟨rfl, rfl⟩

set_option maxHeartbeats 1000000 in
theorem lines_any (s : ByteArray) (hs : s.size ≤ 2000) (w : World) : Calls Try.prog 14 #[.string s] w (Row w (linesL s.data.toList)) := by
  obtain ⟨i0, hi, hz0, hz1, hz2⟩ := info_parts str_info
  go_enter Try.func14, Try.ntmps14
  go_wp2_with fail
  go_loopw [3, 4] (fun v f wr => ∃ pos fr : Nat, f = .int .i64 fr ∧ fr ≤ pos ∧ pos ≤ s.size ∧ Hid ((lns (pre s pos)).2 = mid s fr pos) ∧ It wr w.heap.size s pos ∧ wr.ownsRow (w.heap.size + 1) 9 1 v (lns (pre s pos)).1.length (vals (lns (pre s pos)).1) ∧ Below w.heap.size w wr) (fun _ _ wr => s.size - wr.iterPos w.heap.size)
  case atStart => exact ⟨0, 0, rfl, by omega, by omega, rfl, It.fresh w s 0, World.ownsRow_nil _ _ _ _, (Below.refl _ _).alloc (Nat.le_refl _) _⟩
  case round =>
    obtain ⟨pos, fr, rfl, hfr, hpos, hcur, hit, hown, hbel⟩ := hrel
    have hlen := lns_len (pre s pos)
    have hlen2 := pre_len s pos
    by_cases hp : pos < s.size
    · have hbt := bt_at s pos hp
      by_cases hc : bt s pos = 10
      · have hnx : ∀ ty, (Instr.next (.pointer (some ⟨w.heap.size, 0, none⟩)) true ty).run Try.prog wr = _ := fun ty => Lib.run_next_ascii_at wr w.heap.size s pos ty hit hp (by omega)
        have cut := lns_cut s fr pos hp hcur.out hc
        have hr : ((((s[pos]).toNat : Nat) : Int) == 10) = true := by rw [hbt, hc]; rfl
        have C := Hid.mk' cut
        have hit1 := hit.step (pos + 1)
        have hown1 := ownsRow_iterAt hown (k := w.heap.size) (by omega) s (pos + 1)
        have hbel1 := Lib.below_iterAt hbel (k := w.heap.size) (Nat.le_refl _) s (pos + 1)
        have hpl := hit.place
        have HPL := Hid.mk' hpl
        have HBT := Hid.mk' hbt
        have HC := Hid.mk' hc
        clear cut hpl hbt hc
        go_wp2_with (at_builtin; refine wpList_append_own _ rfl (.tmp 15) (.tmp 20) 26 rfl (w.heap.size + 1) 9 i0 _ 1 16 Try.underlying26 hi hz0 hz1 hz2 rfl (by decide) u3 _ _ rfl (hown1.alloc _) ⟨(wr.iterAt w.heap.size s (pos + 1)).heap.size, 0, none⟩ 1 1 [.string (s.extract fr pos)] rfl rfl ?c1 ?c2 ?c3 ?c4 ?c5 ?_)
        case c1 => exact cell_one_new _ _ _
        case c2 => intro u hu; simp at hu; subst hu; rfl
        case c3 => simp only [maxLen]; omega
        case c4 => omega
        case c5 => have := hit1.inside; simp; omega
        intro v1 w1 hown2 hgr1 _
        have hbel2 : Below w.heap.size w w1 := (hbel1.alloc hbel1.size _).grown hgr1 (by have := hbel1.size; simp; omega) (fun k hk => by have := (hown1.lt k hk).1; omega)
        have hit2 : It w1 w.heap.size s (pos + 1) := (hit1.past _).grown hgr1 (own_ne hown1 (by omega))
        rw [← mid_extract, vals_snoc, ← C.out.1] at hown2
        clear hgr1 hown hown1 hbel hbel1 hit hit1
        go_wp2_with fail
        go_roundw
        case rel => exact ⟨pos + 1, pos + 1, by go_num, by omega, by omega, C.out.2, hit2, by rw [C.out.1, List.length_append] at *; exact hown2, hbel2⟩
        case measure => rw [hit2.place, HPL.out]; omega
      · have skip : ∃ wd, Hid (wd = (Utf8.decode s pos).2) ∧ 1 ≤ wd ∧ pos + wd ≤ s.size ∧ (((Utf8.decode s pos).1 : Int) == 10) = false ∧ ∀ i, i < wd → bt s (pos + i) ≠ 10 := by
          by_cases ha : bt s pos < 128
          · have := decode_ascii s pos hp (by omega)
            refine ⟨1, by rw [this]; rfl, by omega, by omega, ?_, fun i hi => ?_⟩
            · rw [this, beq_eq_false_iff_ne]; simp; omega
            · have : i = 0 := by omega
              subst this; exact hc
          · have h := dec_high s pos hp (by omega)
            refine ⟨_, rfl, h.2.1, h.2.2.1, ?_, fun i hi => ?_⟩
            · rw [beq_eq_false_iff_ne]; omega
            · have := h.2.2.2 i hi; omega
        obtain ⟨wd, hwd, h1, h2, hr, hno⟩ := skip
        have hnx : ∀ ty, (Instr.next (.pointer (some ⟨w.heap.size, 0, none⟩)) true ty).run Try.prog wr = .ok (.tuple #[.bool true, .int .i64 pos, .int .i32 (Utf8.decode s pos).1]) (wr.iterAt w.heap.size s (pos + wd)) := fun ty => by rw [hwd.out]; exact Lib.run_next_any_at wr w.heap.size s pos ty hit hp
        have C := Hid.mk' (lns_on s fr pos hfr hcur.out wd h2 hno)
        have hit1 := hit.step (pos + wd)
        have hown1 := ownsRow_iterAt hown (k := w.heap.size) (by omega) s (pos + wd)
        have hbel1 := Lib.below_iterAt hbel (k := w.heap.size) (Nat.le_refl _) s (pos + wd)
        have HPL := Hid.mk' hit.place
        clear hno hc hbt
        go_wp2_with fail
        go_roundw
        case rel => exact ⟨pos + wd, fr, rfl, by omega, by omega, C.out.2, hit1, by rw [C.out.1]; exact hown1, hbel1⟩
        case measure => rw [hit1.place, HPL.out]; omega
    · have hnx : ∀ ty, (Instr.next (.pointer (some ⟨w.heap.size, 0, none⟩)) true ty).run Try.prog wr = _ := fun ty => Lib.run_next_end_at wr w.heap.size s pos ty hit hp
      have hpr := pre_all s pos (by omega)
      have hcur2 := hcur.out
      rw [hpr] at hown hlen hcur2
      rw [len_data] at hlen
      obtain rfl : pos = s.size := by omega
      clear hpr hlen2 hcur
      have hml := mid_len s fr s.size (Nat.le_refl _)
      by_cases hf : fr < s.size
      · have e0 : linesL s.data.toList = (lns s.data.toList).1 ++ [mid s fr s.size] := by
          unfold linesL
          rw [hcur2, if_neg (fun h => by rw [h] at hml; simp at hml; omega)]
        have E0 := Hid.mk' e0
        clear e0 hcur2 hml
        go_wp2_with (at_builtin; refine wpList_append_own _ rfl (.tmp 28) (.tmp 32) 26 rfl (w.heap.size + 1) 9 i0 _ 1 16 Try.underlying26 hi hz0 hz1 hz2 rfl (by decide) u3 _ _ rfl (hown.alloc _) ⟨(wr).heap.size, 0, none⟩ 1 1 [.string (s.extract fr s.size)] rfl rfl ?c1 ?c2 ?c3 ?c4 ?c5 ?_)
        case c1 => exact cell_one_new _ _ _
        case c2 => intro u hu; simp at hu; subst hu; rfl
        case c3 => simp only [maxLen]; omega
        case c4 => omega
        case c5 => have := hit.inside; simp; omega
        intro v1 w1 hown2 hgr1 _
        have hbel2 : Below w.heap.size w w1 := (hbel.alloc hbel.size _).grown hgr1 (by have := hbel.size; simp; omega) (fun k hk => by have := (hown.lt k hk).1; omega)
        rw [← mid_extract, vals_snoc] at hown2
        clear hgr1 hown hbel hit
        go_wp2_with fail
        go_ret
        exact ⟨_, rfl, by rw [E0.out]; simpa using hown2.mono (by omega), hbel2⟩
      · have e0 : linesL s.data.toList = (lns s.data.toList).1 := by
          unfold linesL
          rw [hcur2, if_pos (List.eq_nil_of_length_eq_zero (by omega))]
        have E0 := Hid.mk' e0
        clear e0 hcur2 hml
        go_wp2_with fail
        go_ret
        exact ⟨_, rfl, by rw [E0.out]; exact hown.mono (by omega), hbel⟩
end Go.Proofs.Ytnhonjhpggnglaa
