/- Layer 2 (nums): what stands between points; a stamp read by definition. -/
import Derived.Test.YtnhonjhpggnglaaNf
import Derived.Deep.AppendLies
import Derived.OwnWalk
import Derived.RegionTactic
import Derived.BigRegion
import Derived.ChangeAlike
namespace Go.Proofs.Ytnhonjhpggnglaa
open Go.RowKit

def mkB (l : List UInt8) : ByteArray := ⟨l.toArray⟩
theorem mkB_data (l : List UInt8) : (mkB l).data.toList = l := rfl
theorem mkB_of (s : ByteArray) : mkB s.data.toList = s := bytes_inj' rfl
theorem mkB_size (l : List UInt8) : (mkB l).size = l.length := by simp [mkB, ByteArray.size]
theorem mkB_snoc (l : List UInt8) (s : ByteArray) (k : Nat) (h : k < s.size) : mkB (l ++ [s[k]]) = mkB l ++ s.extract k (k + 1) := by
  apply bytes_inj'
  rw [mkB_data, ByteArray.toList_data_append, mkB_data, Lib.extract_data]
  have : List.drop k s.data.toList = s[k] :: List.drop (k + 1) s.data.toList := by
    have hl : k < s.data.toList.length := by simpa using h
    rw [List.drop_eq_getElem_cons hl]; rfl
  rw [this]; simp

/-- What stands between points: the parts that are over, the part that goes on. -/
def dotStep (p : List (List UInt8) × List UInt8) (c : UInt8) : List (List UInt8) × List UInt8 := if c = 46 then (p.1 ++ [p.2], []) else (p.1, p.2 ++ [c])
def dots (l : List UInt8) : List (List UInt8) × List UInt8 := l.foldl dotStep ([], [])
theorem dots_snoc (l : List UInt8) (c : UInt8) : dots (l ++ [c]) = dotStep (dots l) c := by simp [dots]
theorem dots_len' : ∀ (l : List UInt8) (p : List (List UInt8) × List UInt8), (l.foldl dotStep p).1.length + (l.foldl dotStep p).2.length ≤ p.1.length + p.2.length + l.length
  | [], p => by simp
  | c :: l, p => by
    have h := dots_len' l (dotStep p c)
    have h2 : (dotStep p c).1.length + (dotStep p c).2.length ≤ p.1.length + p.2.length + 1 := by unfold dotStep; split <;> simp <;> omega
    simp only [List.foldl_cons, List.length_cons]
    omega
theorem dots_len (l : List UInt8) : (dots l).1.length + (dots l).2.length ≤ l.length := by
  have := dots_len' l ([], [])
  simpa [dots] using this
def partsV (l : List UInt8) : List Value := ((dots l).1 ++ [(dots l).2]).map fun x => Value.string (mkB x)

theorem str_info : (Try.prog.info? 9).map (fun i => (i.zero, i.size, i.bytes)) = some (some (.string ⟨#[]⟩), 1, 16) := by kernel_rfl
theorem partsV_len (l : List UInt8) : (partsV l).length = (dots l).1.length + 1 := by simp [partsV]
theorem partsV_dot (s : ByteArray) (k : Nat) (h : k < s.size) (hc : s[k] = 46) : partsV (pre s (k + 1)) = partsV (pre s k) ++ [.string ⟨#[]⟩] := by
  unfold partsV
  rw [pre_snoc s k h, dots_snoc, dotStep, if_pos hc]
  simp [mkB]
theorem partsV_on (s : ByteArray) (k : Nat) (h : k < s.size) (hc : ¬ s[k] = 46) : partsV (pre s (k + 1)) = (partsV (pre s k)).set (dots (pre s k)).1.length (.string (mkB (dots (pre s k)).2 ++ s.extract k (k + 1))) ∧ (dots (pre s (k + 1))).1.length = (dots (pre s k)).1.length := by
  unfold partsV
  rw [pre_snoc s k h, dots_snoc, dotStep, if_neg hc]
  refine ⟨?_, rfl⟩
  rw [List.map_append, List.map_append, List.set_append_right _ _ (by simp)]
  simp [mkB_snoc _ s k h]
theorem partsV_last (l : List UInt8) : (partsV l)[(dots l).1.length]? = some (.string (mkB (dots l).2)) := by simp [partsV]

set_option maxHeartbeats 1000000 in
theorem parts_any (s : ByteArray) (hs : s.size ≤ 1000) (w : World) :
    Calls Try.prog 33 #[.string s] w fun e w' => ∃ v, e = .returned v ∧ w'.ownsRow w.heap.size 9 1 v ((dots s.data.toList).1.length + 1) (partsV s.data.toList) ∧ Below w.heap.size w w' := by
  obtain ⟨i0, hi, hz0, hz1, hz2⟩ := info_parts str_info
  go_enter Try.func33, Try.ntmps33
  go_wp2_with fail
  go_loopw [3, 4] (fun v i wr => ∃ pos : Nat, i = .int .i64 pos ∧ pos ≤ s.size ∧ wr.ownsRow w.heap.size 9 1 v ((dots (pre s pos)).1.length + 1) (partsV (pre s pos)) ∧ Below w.heap.size w wr) (fun _ i _ => s.size - (intOf i).toNat)
  case atStart =>
    refine ⟨0, rfl, by omega, ?_, ?_⟩
    · exact World.ownsRow_lit (e := 9) (base := w.heap.size) (size := 1) w #[.string ⟨#[]⟩] 1 (Nat.le_refl _) (by decide) rfl
    · exact (Below.refl _ _).alloc (Nat.le_refl _) _
  case round =>
    obtain ⟨pos, rfl, hpos, hown, hbel⟩ := hrel
    have hlen := dots_len (pre s pos)
    have hlen2 : (pre s pos).length ≤ 1000 := by unfold pre; rw [List.length_take, len_data]; omega
    by_cases hp : pos < s.size
    · by_cases hc : s[pos] = 46
      · have hb : ((((s[pos]).toNat : Nat) : Int) == 46) = true := by rw [hc]; rfl
        have HC := Hid.mk' hc
        clear hc
        go_wp2_with (at_builtin; refine wpList_append_own _ rfl (.tmp 16) (.tmp 17) 26 rfl w.heap.size 9 i0 _ 1 16 Try.underlying26 hi hz0 hz1 hz2 rfl (by decide) u3 ((dots (pre s pos)).1.length + 1) _ rfl (hown.alloc _) ⟨wr.heap.size, 0, none⟩ 1 1 [.string ⟨#[]⟩] rfl rfl ?c1 ?c2 ?c3 ?c4 ?c5 ?_)
        case c1 => exact cell_one_new _ _ _
        case c2 => intro u hu; simp at hu; subst hu; rfl
        case c3 => simp only [maxLen]; omega
        case c4 => omega
        case c5 => have := hbel.size; simp; omega
        intro v1 w1 hown1 hgr1 _
        have hbel1 : Below w.heap.size w w1 := (hbel.alloc hbel.size _).grown hgr1 (by have := hbel.size; simp; omega) (fun k hk => (hown.lt k hk).1)
        have e1 := partsV_dot s pos hp HC.out
        have e2 : (dots (pre s (pos + 1))).1.length = (dots (pre s pos)).1.length + 1 := by
          have h1 := congrArg List.length e1
          rw [List.length_append, partsV_len, partsV_len] at h1
          simpa using h1
        rw [← e1, ← e2] at hown1
        clear e1 e2 hgr1 hown hbel
        go_wp2_with fail
        go_roundw
        case rel => exact ⟨pos + 1, by go_num, by omega, hown1, hbel1⟩
        case measure => simp [intOf]; omega
      · have hb : ((((s[pos]).toNat : Nat) : Int) == 46) = false := by
          rw [beq_eq_false_iff_ne]; intro h; apply hc
          apply UInt8.toNat_inj.1; have : (46 : UInt8).toNat = 46 := rfl; omega
        obtain ⟨g, cap, hv, hbg, hg⟩ := hown.form (by omega)
        subst hv
        have hcell := hown.cellAt (dots (pre s pos)).1.length (by omega)
        rw [partsV_last] at hcell
        have hfr := hown.frozenAt (dots (pre s pos)).1.length
        have hsz : (mkB (dots (pre s pos)).2).size + 1 ≤ 1001 := by rw [mkB_size]; omega
        have on := partsV_on s pos hp hc
        have st := hown.stored (dots (pre s pos)).1.length (.string (mkB (dots (pre s pos)).2 ++ s.extract pos (pos + 1)))
        have HON := Hid.mk' on
        have HST := Hid.mk' st
        clear on st hc
        generalize (dots (pre s pos)).1.length = n at *
        generalize mkB (dots (pre s pos)).2 = x at *
        go_wp2_with fail
        go_region
        go_wp2_with fail
        go_roundw
        case rel => exact ⟨pos + 1, by go_num, by omega, by rw [HON.out.1, HON.out.2]; exact HST.out.1, (hbel.setCell hbg _).drew⟩
        case measure => simp [intOf]; omega
    · have HP := pre_all s pos (by omega)
      rw [HP] at hown
      go_wp2_with fail
      go_ret
      exact ⟨_, rfl, hown, hbel⟩
end Go.Proofs.Ytnhonjhpggnglaa
