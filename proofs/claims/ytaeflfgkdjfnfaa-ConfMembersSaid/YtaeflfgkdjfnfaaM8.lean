/- Layer 21 (conf): Leader; who never was out, by the law; May. -/
import Derived.Test.YtaeflfgkdjfnfaaM7
import Derived.Lib.QuietBelow
namespace Go.Proofs.Ytaeflfgkdjfnfaa
open Go.RowKit

theorem cell_out {w : World} {g : Nat} {t : TypeId} {c : Cf} (h : Bx w g t c.cells) {m : Int} (h0 : 0 ≤ m) (h5 : m < 5) : w.cell? ⟨g, 1 + m.toNat, none⟩ = some (.bool (c.out m)) := by
  rcases (show m = 0 ∨ m = 1 ∨ m = 2 ∨ m = 3 ∨ m = 4 from by omega) with rfl | rfl | rfl | rfl | rfl
  all_goals exact h.read rfl
theorem cell_join {w : World} {g : Nat} {t : TypeId} {c : Cf} (h : Bx w g t c.cells) {m : Int} (h0 : 0 ≤ m) (h5 : m < 5) : w.cell? ⟨g, 6 + m.toNat, none⟩ = some (.int .i64 (c.join m)) := by
  rcases (show m = 0 ∨ m = 1 ∨ m = 2 ∨ m = 3 ∨ m = 4 from by omega) with rfl | rfl | rfl | rfl | rfl
  all_goals exact h.read rfl
set_option maxRecDepth 100000 in
set_option maxHeartbeats 4000000 in
theorem law_always (c : Cf) (m : Int) (w : World) : Calls Try.prog 28 #[.agg c.cells, .int .i64 m] w fun e w' => e = .returned (.bool (c.always m)) ∧ Below w.heap.size w w' := by
  have hb : Below w.heap.size w (w.alloc (.cells c.cells 39)) := (Below.refl _ _).alloc (Nat.le_refl _) _
  have hx := Bx.fresh w 39 c.cells
  have HB := Lib.hid hb
  clear hb
  rcases (show m < 0 ∨ (0 ≤ m ∧ 5 ≤ m) ∨ (0 ≤ m ∧ m < 5) from by omega) with h | ⟨h, h2⟩ | ⟨h, h2⟩
  · have d1 : decide (0 ≤ m) = false := by rw [decide_eq_false_iff_not]; omega
    have HR : Hid (c.always m = false) := Lib.hid (by unfold Cf.always; rw [out_no (.inl h)]; rfl)
    clear h hx
    go_enter Try.func28, Try.ntmps28
    go_wp2_with fail
    go_ret
    exact ⟨cret_b HR.out.symm, HB.out⟩
  · have d1 : decide (0 ≤ m) = true := by rw [decide_eq_true_eq]; omega
    have d2 : decide (m < 5) = false := by rw [decide_eq_false_iff_not]; omega
    have HR : Hid (c.always m = false) := Lib.hid (by unfold Cf.always; rw [out_no (.inr h2)]; rfl)
    clear h h2 hx
    go_enter Try.func28, Try.ntmps28
    go_wp2_with fail
    go_ret
    exact ⟨cret_b HR.out.symm, HB.out⟩
  · have xo := cell_out hx h h2
    have xj := cell_join hx h h2
    have HR : Hid (c.always m = (!c.out m && c.join m == 0)) := Lib.hid rfl
    clear hx
    generalize c.always m = r at *
    generalize c.out m = o at *
    generalize c.join m = j at *
    generalize c.cells = cs at *
    cases o with
    | true =>
      have HR2 : Hid (r = false) := Lib.hid (by rw [HR.out]; rfl)
      go_enter Try.func28, Try.ntmps28
      go_wp2_with fail
      go_ret
      exact ⟨cret_b HR2.out.symm, HB.out⟩
    | false =>
      have HR2 : Hid (r = (j == 0)) := Lib.hid (by rw [HR.out]; rfl)
      go_enter Try.func28, Try.ntmps28
      go_wp2_with fail
      go_ret
      exact ⟨cret_b HR2.out.symm, HB.out⟩
/-- The first one that p tells. -/
def fst (p : Int → Bool) (l : List Int) : Int × Bool := match l.find? p with | some x => (x, true) | none => (0, false)
theorem fst_no {p : Int → Bool} {l : List Int} (h : ixF p l = -1) : fst p l = (0, false) := by
  have h2 : l.find? p = none := by
    rw [List.find?_eq_none]
    intro x hx hp
    unfold ixF at h
    rw [if_pos (List.any_eq_true.2 ⟨x, hx, hp⟩)] at h
    omega
  unfold fst
  rw [h2]
theorem fst_yes {p : Int → Bool} {l : List Int} (h : ixF p l ≠ -1) : ∃ k, ∃ hk : k < l.length, ixF p l = (k : Nat) ∧ fst p l = (l[k], true) := by
  have hany : l.any p = true := by
    cases hq : l.any p with
    | true => rfl
    | false => unfold ixF at h; rw [hq] at h; simp at h
  have hlt : l.findIdx p < l.length := List.findIdx_lt_length_of_exists (by rw [List.any_eq_true] at hany; exact hany)
  refine ⟨l.findIdx p, hlt, by unfold ixF; rw [if_pos hany], ?_⟩
  have hf : l.find? p = some l[l.findIdx p] := by
    rw [List.find?_eq_some_iff_getElem]
    exact ⟨List.findIdx_getElem, _, hlt, rfl, fun j hj => by have := List.not_of_lt_findIdx hj; simpa using this⟩
  unfold fst
  rw [hf]
set_option maxRecDepth 100000 in
set_option maxHeartbeats 4000000 in
theorem cf_leader (c : Cf) (v : Value) (l : List Int) (hl : l.length ≤ 10000) (w : World) (h : IN w v l) :
    Calls Try.prog 29 #[.agg c.cells, v] w fun e w' => e = .returned (.tuple #[.int .i64 (fst c.always l).1, .bool (fst c.always l).2]) ∧ Below w.heap.size w w' := by
  have hb : Below w.heap.size w (w.alloc (.cells c.cells 39)) := (Below.refl _ _).alloc (Nat.le_refl _) _
  have CI := Lib.hid (indexf_m1 24 (.agg c.cells) c.always v l (by omega) _ (h.next hb) (fun xs W => by go_simp) (fun W hW x _ => cf_always c x W))
  have HIN := Lib.hid (h.next hb)
  have HB := Lib.hid hb
  have HNO := Lib.hid (fun h => fst_no (p := c.always) (l := l) h)
  have HYE := Lib.hid (fun h => fst_yes (p := c.always) (l := l) h)
  obtain ⟨a, cap, rfl, _⟩ := h
  clear hb
  generalize c.always = p at *
  generalize hz : ixF p l = z at *
  obtain ⟨e, o0, o1, o2, o3, o4, j0, j1, j2, j3, j4⟩ := c
  unfold Cf.cells at *
  dsimp only at *
  by_cases hz1 : z = -1
  · subst hz1
    have HF := Lib.hid (HNO.out rfl)
    clear HNO HYE hz
    go_enter Try.func29, Try.ntmps29
    go_wp2_with fail
    refine (CI.out).mono ?_; rintro _ w1 ⟨rfl, hb1⟩
    have H1 := Lib.hid (bnext HB.out hb1)
    clear hb1 CI
    go_wp2_with fail
    go_ret2
    exact ⟨by rw [HF.out]; rfl, H1.out⟩
  · obtain ⟨k, hk, hzk, hfk⟩ := HYE.out hz1
    subst hzk
    have HF := Lib.hid hfk
    have hk1 : (k : Int) < (l.length : Int) := by omega
    have hk2 : ¬ (k : Int) < 0 := by omega
    clear HNO HYE hz hz1 hfk
    go_enter Try.func29, Try.ntmps29
    go_wp2_with fail
    refine (CI.out).mono ?_; rintro _ w1 ⟨rfl, hb1⟩
    have H1 := Lib.hid (bnext HB.out hb1)
    obtain ⟨a', cap', hv, hc⟩ := HIN.out.next hb1
    obtain ⟨b, off, ha, hcell⟩ := hc (fun e => by rw [e] at hk; simp at hk)
    subst ha
    cases hv
    have x0 := hcell k hk
    clear hb1 CI hcell hc
    generalize l[k] = y at *
    go_wp2_with fail
    go_ret2
    exact ⟨by rw [HF.out]; rfl, H1.out⟩
/-- A slice that reads as rows of ints. -/
def RR (w : World) (v : Value) (ls : List (List Int)) : Prop := ∃ a cap, v = .slice a ls.length cap ∧ (ls ≠ [] → ∃ b off, a = some ⟨b, off, none⟩ ∧ ∀ i (h : i < ls.length), ∃ u, w.cell? ⟨b, off + i, none⟩ = some u ∧ IN w u ls[i])
theorem RR.next {w w' : World} {v : Value} {ls : List (List Int)} (h : RR w v ls) (hb : Below w.heap.size w w') : RR w' v ls := by
  obtain ⟨a, cap, hv, hr⟩ := h
  refine ⟨a, cap, hv, fun h0 => ?_⟩
  obtain ⟨b, off, ha, hc⟩ := hr h0
  refine ⟨b, off, ha, fun i hi => ?_⟩
  obtain ⟨u, h1, h2⟩ := hc i hi
  exact ⟨u, by rw [hb.cell (World.block_lt_of_cell? _ _ h1)]; exact h1, h2.next hb⟩
/-- The place of the first one that p tells, or -1. -/
def ixG (p : List Int → Bool) (l : List (List Int)) : Int := if l.any p then (l.findIdx p : Int) else -1
theorem ixG_hit {p : List Int → Bool} {l : List (List Int)} {k : Nat} (hk : k < l.length) (h : p l[k] = true) (hn : ∀ i (_ : i < k), p (l[i]'(by omega)) = false) : ixG p l = k := by
  unfold ixG
  rw [if_pos (List.any_eq_true.2 ⟨l[k], List.getElem_mem hk, h⟩)]
  congr 1
  rw [List.findIdx_eq hk]
  exact ⟨h, fun j hj => hn j hj⟩
theorem ixG_none {p : List Int → Bool} {l : List (List Int)} (hn : ∀ i (h : i < l.length), p l[i] = false) : ixG p l = -1 := by
  unfold ixG
  rw [if_neg]
  rw [List.any_eq_true]
  rintro ⟨x, hx, hp⟩
  obtain ⟨i, hi, rfl⟩ := List.mem_iff_getElem.1 hx
  rw [hn i hi] at hp
  cases hp
theorem ixG_ge (p : List Int → Bool) (l : List (List Int)) : decide (0 ≤ ixG p l) = l.any p := by
  unfold ixG
  cases h : l.any p <;> simp
set_option maxRecDepth 100000 in
set_option maxHeartbeats 4000000 in
theorem indexg_c2 (f : FuncId) (b1 b2 : Value) (p : List Int → Bool) (v : Value) (l : List (List Int)) (hl : l.length ≤ 100000) (w : World) (h : RR w v l)
    (hcf : ∀ (xs : Array Value) (W : World), (callFunc f xs).run Try.prog W = .ok (.enter f xs) W) (HC : ∀ W, Below w.heap.size w W → ∀ x ∈ l, ∀ u, IN W u x → Calls Try.prog f #[u, b1, b2] W fun e w' => e = .returned (.bool (p x)) ∧ Below W.heap.size W w') :
    Calls Try.prog 146 #[v, .func (.func f) #[] #[b1, b2]] w fun e w' => e = .returned (.int .i64 (ixG p l)) ∧ Below w.heap.size w w' := by
  have H := Lib.hid h
  have C := Lib.hid HC
  obtain ⟨a, cap, rfl, _⟩ := h
  clear HC
  go_enter Try.func146, Try.ntmps146
  go_wp2_with fail
  go_loopw [8] (fun i wr => ∃ k : Nat, i = .int .i64 k ∧ k ≤ l.length ∧ Hid (Below w.heap.size w wr ∧ ∀ i (_ : i < k) (hi : i < l.length), p l[i] = false)) (fun i _ => l.length - (intOf i).toNat)
  case atStart => exact ⟨0, rfl, Nat.zero_le _, Lib.hid ⟨Below.refl _ _, fun i hi => absurd hi (by omega)⟩⟩
  case round =>
    obtain ⟨k, rfl, hk, HS⟩ := hrel
    by_cases hlt : k < l.length
    · have hi1 : (k : Int) < (l.length : Int) := by omega
      obtain ⟨a', cap', hv, hc⟩ := H.out.next HS.out.1
      obtain ⟨b, off, ha, hcell⟩ := hc (fun e => by rw [e] at hlt; simp at hlt)
      subst ha
      cases hv
      obtain ⟨u, x0, hu⟩ := hcell k hlt
      have C1 := Lib.hid (C.out wr HS.out.1 l[k] (List.getElem_mem hlt) u hu)
      have HY := Lib.hid (fun (e : p l[k] = true) => ixG_hit hlt e (fun i hi => HS.out.2 i hi (by omega)))
      have HN := Lib.hid (fun (e : p l[k] = false) i (h1 : i < k + 1) (h2 : i < l.length) => (show p l[i] = false from by
        by_cases h3 : i < k
        · exact HS.out.2 i h3 h2
        · have : i = k := by omega
          subst this
          exact e))
      clear hcell hc hu
      generalize l[k] = y at *
      cases hp : p y with
      | true =>
        rw [hp] at C1
        have HR := Lib.hid (HY.out hp)
        clear hp HY HN
        go_wp2_with fail
        refine (C1.out).mono ?_; rintro e w1 ⟨rfl, hb1⟩
        have HB := Lib.hid (bnext HS.out.1 hb1)
        clear hb1
        go_wp2_with fail
        go_ret
        exact ⟨cret_i HR.out.symm, HB.out⟩
      | false =>
        rw [hp] at C1
        have HR := Lib.hid (HN.out hp)
        clear hp HY HN
        go_wp2_with fail
        refine (C1.out).mono ?_; rintro e w1 ⟨rfl, hb1⟩
        have HB := Lib.hid (bnext HS.out.1 hb1)
        clear hb1
        go_wp2_with fail
        go_roundw
        case rel => exact ⟨k + 1, by go_num, by omega, Lib.hid ⟨HB.out, HR.out⟩⟩
        case measure => simp [intOf]; omega
    · have hi1 : ¬ (k : Int) < (l.length : Int) := by omega
      have HR := Lib.hid (ixG_none (p := p) (l := l) (fun i hi => HS.out.2 i (by omega) hi))
      go_wp2_with fail
      go_ret
      exact ⟨cret_i HR.out.symm, HS.out.1⟩
set_option maxHeartbeats 4000000 in
theorem contg_c2 (f : FuncId) (b1 b2 : Value) (p : List Int → Bool) (v : Value) (l : List (List Int)) (hl : l.length ≤ 100000) (w : World) (h : RR w v l)
    (hcf : ∀ (xs : Array Value) (W : World), (callFunc f xs).run Try.prog W = .ok (.enter f xs) W) (HC : ∀ W, Below w.heap.size w W → ∀ x ∈ l, ∀ u, IN W u x → Calls Try.prog f #[u, b1, b2] W fun e w' => e = .returned (.bool (p x)) ∧ Below W.heap.size W w') :
    Calls Try.prog 99 #[v, .func (.func f) #[] #[b1, b2]] w fun e w' => e = .returned (.bool (l.any p)) ∧ Below w.heap.size w w' := by
  have C := Lib.hid (indexg_c2 f b1 b2 p v l hl w h hcf HC)
  have HG := Lib.hid (ixG_ge p l)
  clear HC h
  go_enter Try.func99, Try.ntmps99
  go_wp2_with fail
  refine (C.out).mono ?_; rintro e w1 ⟨rfl, hb1⟩
  have HB := Lib.hid hb1
  clear hb1
  generalize hz : ixG p l = z at *
  clear hz
  go_wp2_with fail
  go_ret
  exact ⟨cret_b HG.out, HB.out⟩
end Go.Proofs.Ytaeflfgkdjfnfaa
