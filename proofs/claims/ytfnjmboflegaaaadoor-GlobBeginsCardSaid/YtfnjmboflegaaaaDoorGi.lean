/- Layer 38 (glob): going on behind the rows, by the code. -/
import Derived.Test.YtfnjmboflegaaaaDoorGh
namespace Go.Proofs.YtfnjmboflegaaaaDoor
open Go.RowKit

/-- The places in memory. -/
def arrB (f : Nat → Bool) : Array Value := ((List.range 101).map fun i => Value.bool (f i)).toArray
theorem arr_at (f : Nat → Bool) (i : Nat) (h : i < 101) : (arrB f)[i]? = some (.bool (f i)) := by simp [arrB, h]
theorem arr_set (f : Nat → Bool) (i : Nat) (b : Bool) : (arrB f).setIfInBounds i (.bool b) = arrB (fun k => if k = i then b else f k) := by
  unfold arrB
  apply Array.ext_getElem?
  intro k
  simp only [List.setIfInBounds_toArray, List.getElem?_toArray, List.getElem?_set, List.getElem?_map, List.getElem?_range, List.length_map, List.length_range]
  by_cases h : i = k
  · subst h
    by_cases h2 : i < 101
    · simp [h2]
    · simp [h2]
  · rw [if_neg h]
    by_cases h2 : k < 101
    · simp [h2, Ne.symm h]
    · simp [h2]
def gK (ps : List Prt) (f : Nat → Bool) (k : Nat) : Nat → Bool := fun i => if i ≤ k then passF ps f i else f i
theorem gK_zero (ps : List Prt) (f : Nat → Bool) : gK ps f 0 = f := by
  funext i
  unfold gK
  split
  · have : i = 0 := by omega
    subst this; rfl
  · rfl
theorem gK_on (ps : List Prt) (f : Nat → Bool) (k : Nat) (h : (passF ps f k && rowAt ps k) = true) : (fun i => if i = k + 1 then true else gK ps f k i) = gK ps f (k + 1) := by
  funext i
  unfold gK
  by_cases h1 : i = k + 1
  · subst h1
    rw [if_pos rfl, if_pos (Nat.le_refl _), passF, h]; simp
  · rw [if_neg h1]
    by_cases h2 : i ≤ k
    · rw [if_pos h2, if_pos (by omega)]
    · rw [if_neg h2, if_neg (by omega)]
theorem gK_off (ps : List Prt) (f : Nat → Bool) (k : Nat) (h : (passF ps f k && rowAt ps k) = false) : gK ps f k = gK ps f (k + 1) := by
  funext i
  unfold gK
  by_cases h1 : i = k + 1
  · subst h1
    rw [if_neg (by omega), if_pos (Nat.le_refl _), passF, h]; simp
  · by_cases h2 : i ≤ k
    · rw [if_pos h2, if_pos (by omega)]
    · rw [if_neg h2, if_neg (by omega)]
def psq (q : List (Prt × Value)) : List Prt := q.map Prod.fst
theorem row_at (q : List (Prt × Value)) (k : Nat) (h : k < q.length) : rowAt (psq q) k = q[k].1.row := by unfold rowAt psq; simp [h]
theorem tell_at (q : List (Prt × Value)) (k : Nat) (r : Int) (h : k < q.length) : tellAt (psq q) k r = q[k].1.tells r := by unfold tellAt psq; simp [h]
/-- A block of the caller's is told whole behind a call that writes it alone. -/
def BPost (w : World) (B : Nat) (f : Nat → Bool) (w' : World) : Prop := Bx w' B 44 (arrB f) ∧ w.grownBy w' (some B)
set_option maxHeartbeats 4000000 in
theorem pass_any (s : ByteArray) (pv : Value) (q : List (Prt × Value)) (hq : q.length ≤ 100) (B : Nat) (f : Nat → Bool) (w : World) (h : PtO w pv q) (hb : Bx w B 44 (arrB f)) :
    Calls Tryd.prog 19 #[.agg #[.string s, pv], .pointer (some ⟨B, 0, none⟩)] w fun e w' => e = .returned (.tuple #[]) ∧ BPost w B (gK (psq q) f q.length) w' := by
  obtain ⟨pa, pc, rfl⟩ := own_form h.1
  have hBw := hb.inside
  have START := Hid.mk' (show BPost w B (gK (psq q) f 0) (w.alloc (.cells #[.string s, .slice pa q.length pc] 24)) from ⟨by rw [gK_zero]; exact hb.past _, gb_alloc _ _ _⟩)
  have HH := Hid.mk' (And.intro h hb)
  clear h hb
  go_enter Tryd.func19, Tryd.ntmps19
  go_wp2_with fail
  go_loopw [9] (fun iv wr => ∃ k : Nat, iv = .int .i64 k ∧ k ≤ q.length ∧ Hid (BPost w B (gK (psq q) f k) wr)) (fun iv _ => q.length - (intOf iv).toNat)
  case atStart => exact ⟨0, rfl, Nat.zero_le _, START⟩
  case round =>
    clear START
    obtain ⟨k, rfl, hk, HP⟩ := hrel
    by_cases hlt : k < q.length
    · have hpt := HH.out.1.kept HP.out.2 HH.out.2 (by decide) (by decide)
      obtain ⟨g, cap, hv, hle, c0, c1, c2⟩ := hpt.at k hlt
      cases hv
      obtain ⟨xa, xc, hx⟩ := own_form (hpt.2 _ (List.getElem_mem hlt))
      have hrow := row_at q k hlt
      have HR := Hid.mk' hrow
      rw [hx] at c2
      have hi : (k : Int) < (q.length : Int) := by omega
      have hql : (q.length : Int) ≤ 100 := by omega
      generalize q[k] = x at *
      obtain ⟨⟨row, nt, sp⟩, xv⟩ := x
      dsimp only at *
      have hbx := HP.out.1
      have hsz := HP.out.2.size
      have hwr := hbx.inside
      have hnB : wr.heap.size ≠ B := by omega
      have b1 := hbx.past (.cells #[.bool row, .bool nt, .slice xa sp.length xc] 57)
      have hgk : gK (psq q) f k k = passF (psq q) f k := by unfold gK; rw [if_pos (Nat.le_refl _)]
      have r0 := b1.read (arr_at _ k (by omega))
      have r1 := b1.read (arr_at _ (k + 1) (by omega))
      have f1 := b1.open_ (k + 1)
      rw [hgk] at r0
      have G1 := Hid.mk' (show w.grownBy (wr.alloc (.cells #[.bool row, .bool nt, .slice xa sp.length xc] 57)) (some B) from gb_trans HP.out.2 (gb_alloc _ _ _))
      have B1 := Hid.mk' b1
      have B0 := Hid.mk' (And.intro hbx HP.out.2)
      clear hpt hx hrow hbx b1 hgk HP
      cases hp : passF (psq q) f k with
      | false =>
        rw [hp] at r0
        have HE := Hid.mk' (gK_off (psq q) f k (by rw [hp]; rfl))
        clear hp
        go_wp2_with fail
        go_roundw
        case rel => exact ⟨k + 1, by go_num, by omega, ⟨by rw [← HE.out]; exact B1.out, G1.out⟩⟩
        case measure => simp [intOf]; omega
      | true =>
        rw [hp] at r0
        cases row with
        | false =>
          have HE := Hid.mk' (gK_off (psq q) f k (by rw [hp, HR.out]; rfl))
          clear hp
          go_wp2_with fail
          go_roundw
          case rel => exact ⟨k + 1, by go_num, by omega, ⟨by rw [← HE.out]; exact B1.out, G1.out⟩⟩
          case measure => simp [intOf]; omega
        | true =>
          have HE := Hid.mk' (gK_on (psq q) f k (by rw [hp, HR.out]; rfl))
          clear hp
          have B2 := B0.out.1.put (k + 1) (.bool true)
          rw [arr_set, HE.out] at B2
          have HB2 := Hid.mk' B2
          clear B2
          go_wp2_with fail
          go_roundw
          case rel => exact ⟨k + 1, by go_num, by omega, ⟨HB2.out.past _, gb_trans B0.out.2 (gb_trans (gb_set _ _ _ _) (gb_alloc _ _ _))⟩⟩
          case measure => simp [intOf]; omega
    · have hkn : k = q.length := by omega
      have hi : ¬ (k : Int) < (q.length : Int) := by omega
      have E := Hid.mk' (show BPost w B (gK (psq q) f q.length) wr from hkn ▸ HP.out)
      clear HP hkn
      go_wp2_with fail
      go_end0
      exact ⟨rfl, E.out⟩
end Go.Proofs.YtfnjmboflegaaaaDoor
