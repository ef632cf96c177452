/- Layer 3 (wire): a slice of bytes cut, and turned into a text; the reader's calls that read alone; next. -/
import Derived.Test.YtaeflfgkdjfnfaaIf
import Derived.Laws.BytesArg
import Derived.Laws.IdiomStrings
import Derived.IntWalk
namespace Go.Proofs.Ytaeflfgkdjfnfaa
open Go.RowKit

theorem conv_bs {w : World} {v : Value} {l : List UInt8} (h : BS w v l) : (convert 78 9 v).run Try.prog w = .ok (.string (mkB l)) w := by
  obtain ⟨a, cap, rfl, hle, hn, hc⟩ := h
  by_cases h0 : l = []
  · subst h0
    show (convert 78 9 (.slice a 0 cap)).run Try.prog w = _
    rw [run_convert_bytes_string w _ _ _ _ 0 cap Try.underlying78 Try.underlying5 Try.underlying9]
    cases a with
    | none => rfl
    | some ad =>
      simp [Conv.bytesToString, loadCells, loadCellsFrom]
      rfl
  · obtain ⟨b, off, rfl, hcell⟩ := hc h0
    rw [run_convert_bytes_arg (P := Try.prog) w 78 5 Try.underlying78 Try.underlying5 b off l.length cap (l.map fun c => (c.toNat : Int)) (by simp) (fun i hi => by rw [hcell i hi]; simp [hi]) 9 Try.underlying9]
    congr 2
    unfold strOfNums mkB
    congr 1
    apply Array.ext'
    simp only [List.map_map]
    exact (List.map_congr_left (fun c _ => by simp)).trans (List.map_id l)
/-- A piece of a slice of bytes. -/
def cutV (v : Value) (i j : Nat) : Value := match v with
  | .slice (some ⟨b, off, none⟩) _ cap => .slice (some ⟨b, if cap = i then off else off + i, none⟩) (j - i) (cap - i)
  | _ => v

theorem left_any (R : Nat) (v : Value) (l : List UInt8) (at_ : Nat) (why : Int) (ha : at_ ≤ l.length) (hl : l.length ≤ 100000) (w : World) (h : Rdr w R v l at_ why) :
    Calls Try.prog 149 #[.pointer (some ⟨R, 0, none⟩)] w fun e w' => e = .returned (.int .i64 ((l.length : Int) - at_)) ∧ Below w.heap.size w w' := by
  obtain ⟨hb, hs⟩ := h
  obtain ⟨a, cap, rfl⟩ := hs.form
  obtain ⟨c0, c1, c2⟩ := hb.reads3
  have hw : IntKind.i64.wrap ((l.length : Int) - (at_ : Int)) = (l.length : Int) - at_ := IntWalk.i64_in _ (by omega)
  clear hb hs
  go_enter Try.func149, Try.ntmps149
  go_wp2_with fail
  go_quiet (fail)
  go_wp2_with fail
  go_ret
  exact ⟨rfl, below_drewN (Below.refl _ _) _⟩
theorem at_any (R : Nat) (v : Value) (l : List UInt8) (at_ : Nat) (why : Int) (w : World) (h : Rdr w R v l at_ why) :
    Calls Try.prog 115 #[.pointer (some ⟨R, 0, none⟩)] w fun e w' => e = .returned (.int .i64 at_) ∧ w = w' := by
  obtain ⟨hb, hs⟩ := h
  obtain ⟨c0, c1, c2⟩ := hb.reads3
  clear hb hs
  go_enter Try.func115, Try.ntmps115
  go_wp2_with fail
  go_ret
  exact ⟨rfl, rfl⟩
theorem why_any (R : Nat) (v : Value) (l : List UInt8) (at_ : Nat) (why : Int) (w : World) (h : Rdr w R v l at_ why) :
    Calls Try.prog 105 #[.pointer (some ⟨R, 0, none⟩)] w fun e w' => e = .returned (.int .i64 why) ∧ w = w' := by
  obtain ⟨hb, hs⟩ := h
  obtain ⟨c0, c1, c2⟩ := hb.reads3
  clear hb hs
  go_enter Try.func105, Try.ntmps105
  go_wp2_with fail
  go_ret
  exact ⟨rfl, rfl⟩
/-- The bytes of a reader lie apart from the reader itself. -/
def Apart (R : Nat) (v : Value) : Prop := ∀ k, v.ownBlock = some k → k < R
theorem BS.put {w : World} {v : Value} {l : List UInt8} {R i : Nat} (h : BS w v l) (ha : Apart R v) (u : Value) : BS (w.setCell ⟨R, i, none⟩ u) v l := by
  obtain ⟨a, cap, rfl, hl, hn, hc⟩ := h
  refine ⟨a, cap, rfl, hl, hn, fun h0 => ?_⟩
  obtain ⟨b, off, rfl, hcell⟩ := hc h0
  have hb := ha b rfl
  refine ⟨b, off, rfl, fun j hj => ?_⟩
  exact (gb_set w R i u).cell (hcell j hj) (by intro e; have := Option.some.inj e; dsimp only at this; omega)
theorem fail_any (R : Nat) (v : Value) (l : List UInt8) (at_ : Nat) (why y : Int) (ha : Apart R v) (w : World) (h : Rdr w R v l at_ why) :
    Calls Try.prog 104 #[.pointer (some ⟨R, 0, none⟩), .int .i64 y] w fun e w' => e = .returned (.tuple #[]) ∧ Rdr w' R v l at_ (if why = 0 then y else why) ∧ w.grownBy w' (some R) := by
  have h0 := h
  obtain ⟨hb, hs⟩ := h
  by_cases hw : why = 0
  · rw [if_pos hw]
    have hR : Rdr (w.setCell ⟨R, 2, none⟩ (.int .i64 y)) R v l at_ y := ⟨hb.put 2 _, hs.put ha _⟩
    obtain ⟨c0, c1, c2⟩ := hb.reads3
    obtain ⟨f0, f1, f2⟩ := hb.opens3
    have H := Hid.mk' hR
    clear hb hs h0 hR
    have ht : (why == 0) = true := by simp [hw]
    clear hw
    go_enter Try.func104, Try.ntmps104
    go_wp2_with fail
    go_end0
    exact ⟨rfl, H.out, gb_set _ _ _ _⟩
  · rw [if_neg hw]
    obtain ⟨c0, c1, c2⟩ := hb.reads3
    have H := Hid.mk' h0
    clear hb hs h0
    have ht : (why == 0) = false := by simp [hw]
    clear hw
    go_enter Try.func104, Try.ntmps104
    go_wp2_with fail
    go_end0
    exact ⟨rfl, H.out, gb_refl _ _⟩

theorem rdF_drop (l : List UInt8) (p : Nat) (h : p < l.length) (n : Nat) (f : Bool) (k : Nat) : rdF (l.drop p) n f k =
    if (f = true ∧ l[p].toNat = 128) ∨ 36028797018963968 ≤ n then (0, 0, 31) else if l[p].toNat < 128 then (n * 128 + l[p].toNat, k + 1, 0) else rdF (l.drop (p + 1)) (n * 128 + (l[p].toNat - 128)) false (k + 1) := by
  rw [List.drop_eq_getElem_cons h]; rfl
theorem rdF_end (l : List UInt8) (p : Nat) (h : l.length ≤ p) (n : Nat) (f : Bool) (k : Nat) : rdF (l.drop p) n f k = (0, 0, 30) := by
  rw [List.drop_of_length_le h]; rfl
/-- What next answers. -/
def nextE (at_ : Nat) (r : Nat × Nat × Nat) : Ending := .returned (.tuple #[.int .i64 r.1, .int .i64 (if r.2.2 = 0 then ((at_ + r.2.1 : Nat) : Int) else 0), .int .i64 r.2.2])
theorem ret3i {a b c d e f : Int} (h : a = d) (h2 : b = e) (h3 : c = f) : Ending.returned (.tuple #[.int .i64 a, .int .i64 b, .int .i64 c]) = .returned (.tuple #[.int .i64 d, .int .i64 e, .int .i64 f]) := by rw [h, h2, h3]
set_option maxHeartbeats 4000000 in
theorem next_any (R : Nat) (v : Value) (l : List UInt8) (at_ : Nat) (why : Int) (ha : at_ ≤ l.length) (hl : l.length ≤ 100000) (w : World) (h : Rdr w R v l at_ why) :
    Calls Try.prog 148 #[.pointer (some ⟨R, 0, none⟩)] w fun e w' => e = nextE at_ (rd (l.drop at_)) ∧ w = w' := by
  obtain ⟨hb, hs⟩ := h
  obtain ⟨a, cap, hv, hle, hn, hc⟩ := hs
  subst hv
  obtain ⟨c0, c1, c2⟩ := hb.reads3
  have HC := Hid.mk' hc
  clear hb hc hn
  go_enter Try.func148, Try.ntmps148
  go_wp2_with fail
  go_loop [2, 5] (fun nv iv => ∃ m p : Nat, nv = .int .i64 m ∧ iv = .int .i64 p ∧ at_ ≤ p ∧ p ≤ l.length ∧ m < 4611686018427387904 ∧ rd (l.drop at_) = rdF (l.drop p) m (decide (p = at_)) (p - at_)) (fun _ iv => l.length - (intOf iv).toNat)
  case atStart => exact ⟨0, at_, rfl, rfl, Nat.le_refl _, ha, by omega, by simp [rd]⟩
  case round =>
    obtain ⟨m, p, rfl, rfl, hap, hpl, hm, hrd⟩ := hrel
    by_cases hlt : p < l.length
    · obtain ⟨b, off, rfl, hcell⟩ := HC.out (fun e => by rw [e] at hlt; simp at hlt)
      have hcp := hcell p hlt
      rw [rdF_drop l p hlt] at hrd
      have hcb := u8_lt l[p]
      obtain ⟨c, hcc⟩ : ∃ c, l[p].toNat = c := ⟨_, rfl⟩
      rw [hcc] at hrd hcp hcb
      clear hcell hcc
      have hi0 : (0 : Int) ≤ (p : Int) := by omega
      have hi1 : (p : Int) < (l.length : Int) := by omega
      obtain ⟨z, hz⟩ : ∃ z : Int, (c : Int) = z := ⟨_, rfl⟩
      obtain ⟨y, hy⟩ : ∃ y : Int, (m : Int) = y := ⟨_, rfl⟩
      rw [hz] at hcp
      rw [hy]
      have hz0 : 0 ≤ z := by omega
      have hz1 : z < 256 := by omega
      have hy0 : 0 ≤ y := by omega
      have HN := Hid.mk' (And.intro hz (And.intro hy (And.intro hap hpl)))
      have HNM := Hid.mk' hm
      by_cases hp : p = at_
      · have t1 : ((p : Int) == (at_ : Int)) = true := by simp [hp]
        by_cases h128 : c = 128
        · rw [if_pos (.inl ⟨by simp [hp], h128⟩)] at hrd
          have t2 : (z == 128) = true := by simp; omega
          clear hp h128
          have HR := Hid.mk' hrd
          clear hrd hm hz hy
          go_wp2_with fail
          go_ret3
          exact ⟨by unfold nextE; rw [HR.out]; rfl, rfl⟩
        · have t2 : (z == 128) = false := by simp; omega
          by_cases h55 : 36028797018963968 ≤ m
          · rw [if_pos (.inr h55)] at hrd
            have t3 : decide (36028797018963967 < y) = true := by simp; omega
            have t3' : 36028797018963967 < y := by omega
            clear hp h128 h55
            have HR := Hid.mk' hrd
            clear hrd hm hz hy
            go_wp2_with fail
            go_ret3
            exact ⟨by unfold nextE; rw [HR.out]; rfl, rfl⟩
          · rw [if_neg (fun h => by rcases h with h | h; · exact h128 h.2
                                    · exact h55 h)] at hrd
            have t3 : y ≤ 36028797018963967 := by omega
            by_cases hc7 : c < 128
            · rw [if_pos hc7] at hrd
              have t4 : z < 128 := by omega
              clear hp h128 h55 hc7
              have HR := Hid.mk' hrd
              clear hrd hm hz hy
              go_wp2_with fail
              go_ret3
              exact ⟨by unfold nextE; rw [HR.out]; exact ret3i (by have := HN.out; dsimp only; omega) (by have := HN.out; dsimp only; rw [if_pos rfl]; omega) rfl, rfl⟩
            · rw [if_neg hc7] at hrd
              have t4 : 128 ≤ z := by omega
              clear hp h128 h55
              have HR := Hid.mk' hrd
              clear hrd hm hz hy
              go_wp2_with fail
              go_round
              case rel => exact ⟨m * 128 + (c - 128), p + 1, (by have := HN.out; congr 1; omega), by go_num, by omega, by omega, by have := HN.out; omega, (by rw [HR.out, show decide (p + 1 = at_) = false from by simp; have := HN.out; omega, show p + 1 - at_ = p - at_ + 1 from by have := HN.out; omega])⟩
              case measure => simp [intOf]; omega
      · have t1 : ((p : Int) == (at_ : Int)) = false := by simp; omega
        by_cases h55 : 36028797018963968 ≤ m
        · rw [if_pos (.inr h55)] at hrd
          have t3' : 36028797018963967 < y := by omega
          clear hp h55
          have HR := Hid.mk' hrd
          clear hrd hm hz hy
          go_wp2_with fail
          go_ret3
          exact ⟨by unfold nextE; rw [HR.out]; rfl, rfl⟩
        · rw [if_neg (fun h => by rcases h with h | h; · exact hp (of_decide_eq_true h.1)
                                  · exact h55 h)] at hrd
          have t3 : y ≤ 36028797018963967 := by omega
          by_cases hc7 : c < 128
          · rw [if_pos hc7] at hrd
            have t4 : z < 128 := by omega
            clear hp h55 hc7
            have HR := Hid.mk' hrd
            clear hrd hm hz hy
            go_wp2_with fail
            go_ret3
            exact ⟨by unfold nextE; rw [HR.out]; exact ret3i (by have := HN.out; dsimp only; omega) (by have := HN.out; dsimp only; rw [if_pos rfl]; omega) rfl, rfl⟩
          · rw [if_neg hc7] at hrd
            have t4 : 128 ≤ z := by omega
            clear h55
            have HR := Hid.mk' hrd
            clear hrd hm hz hy
            go_wp2_with fail
            go_round
            case rel => exact ⟨m * 128 + (c - 128), p + 1, (by have := HN.out; congr 1; omega), by go_num, by omega, by omega, by have := HN.out; omega, (by rw [HR.out, show decide (p + 1 = at_) = false from by simp; have := HN.out; omega, show p + 1 - at_ = p - at_ + 1 from by have := HN.out; omega])⟩
            case measure => simp [intOf]; omega
    · rw [rdF_end l p (by omega)] at hrd
      have HR := Hid.mk' hrd
      clear hrd
      go_wp2_with fail
      go_ret3
      exact ⟨by unfold nextE; rw [HR.out]; rfl, rfl⟩
end Go.Proofs.Ytaeflfgkdjfnfaa
