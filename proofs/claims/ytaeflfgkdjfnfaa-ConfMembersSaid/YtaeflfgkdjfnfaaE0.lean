/- Rows of ints that are read; slices.IndexFunc, ContainsFunc at ints, with any closure that answers by a plain word. -/
import Derived.Test.YtaeflfgkdjfnfaaChecked
import Derived.Test.YtaeflfgkdjfnfaaKs
import Derived.Test.YtaeflfgkdjfnfaaKg
import Derived.Lib.Hide
namespace Go.Proofs.Ytaeflfgkdjfnfaa
open Go.RowKit

/-- A slice that reads as ints. -/
def IN (w : World) (v : Value) (l : List Int) : Prop :=
  ∃ a cap, v = .slice a l.length cap ∧ (l ≠ [] → ∃ b off, a = some ⟨b, off, none⟩ ∧ ∀ i (h : i < l.length), w.cell? ⟨b, off + i, none⟩ = some (.int .i64 l[i]))
theorem IN.next {w w' : World} {v : Value} {l : List Int} (h : IN w v l) (hb : Below w.heap.size w w') : IN w' v l := by
  obtain ⟨a, cap, hv, hr⟩ := h
  refine ⟨a, cap, hv, fun h0 => ?_⟩
  obtain ⟨b, off, ha, hc⟩ := hr h0
  refine ⟨b, off, ha, fun i hi => ?_⟩
  have := hc i hi
  rw [hb.cell (World.block_lt_of_cell? _ _ this)]
  exact this
/-- The place of the first one that p tells, or -1. -/
def ixF (p : Int → Bool) (l : List Int) : Int := if l.any p then (l.findIdx p : Int) else -1
theorem ixF_hit {p : Int → Bool} {l : List Int} {k : Nat} (hk : k < l.length) (h : p l[k] = true) (hn : ∀ i (_ : i < k), p (l[i]'(by omega)) = false) : ixF p l = k := by
  unfold ixF
  rw [if_pos (List.any_eq_true.2 ⟨l[k], List.getElem_mem hk, h⟩)]
  congr 1
  rw [List.findIdx_eq hk]
  exact ⟨h, fun j hj => hn j hj⟩
theorem ixF_none {p : Int → Bool} {l : List Int} (hn : ∀ i (h : i < l.length), p l[i] = false) : ixF p l = -1 := by
  unfold ixF
  rw [if_neg]
  rw [List.any_eq_true]
  rintro ⟨x, hx, hp⟩
  obtain ⟨i, hi, rfl⟩ := List.mem_iff_getElem.1 hx
  rw [hn i hi] at hp
  cases hp
theorem ixF_ge (p : Int → Bool) (l : List Int) : decide (0 ≤ ixF p l) = l.any p := by
  unfold ixF
  cases h : l.any p <;> simp
theorem cret_i {a b : Int} (h : a = b) : Ending.returned (.int .i64 a) = .returned (.int .i64 b) := by rw [h]
theorem cret_b {a b : Bool} (h : a = b) : Ending.returned (.bool a) = .returned (.bool b) := by rw [h]

set_option maxRecDepth 100000 in
set_option maxHeartbeats 4000000 in
theorem indexf_c1 (f : FuncId) (b1 : Value) (p : Int → Bool) (v : Value) (l : List Int) (hl : l.length ≤ 100000) (w : World) (h : IN w v l)
    (hcf : ∀ (xs : Array Value) (W : World), (callFunc f xs).run Try.prog W = .ok (.enter f xs) W) (HC : ∀ W, Below w.heap.size w W → ∀ x ∈ l, Calls Try.prog f #[.int .i64 x, b1] W fun e w' => e = .returned (.bool (p x)) ∧ Below W.heap.size W w') :
    Calls Try.prog 92 #[v, .func (.func f) #[] #[b1]] w fun e w' => e = .returned (.int .i64 (ixF p l)) ∧ Below w.heap.size w w' := by
  have H := Lib.hid h
  have C := Lib.hid HC
  obtain ⟨a, cap, rfl, _⟩ := h
  clear HC
  go_enter Try.func92, Try.ntmps92
  go_wp2_with fail
  go_loopw [8] (fun i wr => ∃ k : Nat, i = .int .i64 k ∧ k ≤ l.length ∧ Hid (Below w.heap.size w wr ∧ ∀ i (_ : i < k) (hi : i < l.length), p l[i] = false)) (fun i _ => l.length - (intOf i).toNat)
  case atStart => exact ⟨0, rfl, Nat.zero_le _, Lib.hid ⟨Below.refl _ _, fun i hi => absurd hi (by omega)⟩⟩
  case round =>
    obtain ⟨k, rfl, hk, HS⟩ := hrel
    by_cases hlt : k < l.length
    · have hi1 : (k : Int) < (l.length : Int) := by omega
      obtain ⟨a', cap', hv, hc⟩ := H.out.next HS.out.1
      obtain ⟨b, off, ha, hcell⟩ := hc (fun e => by rw [e] at hlt; simp at hlt)
      subst ha
      cases hv
      have x0 := hcell k hlt
      have C1 := Lib.hid (C.out wr HS.out.1 l[k] (List.getElem_mem hlt))
      have HY := Lib.hid (fun (e : p l[k] = true) => ixF_hit hlt e (fun i hi => HS.out.2 i hi (by omega)))
      have HN := Lib.hid (fun (e : p l[k] = false) i (h1 : i < k + 1) (h2 : i < l.length) => (show p l[i] = false from by
        by_cases h3 : i < k
        · exact HS.out.2 i h3 h2
        · have : i = k := by omega
          subst this
          exact e))
      clear hcell hc
      generalize l[k] = y at *
      cases hp : p y with
      | true =>
        rw [hp] at C1
        have HR := Lib.hid (HY.out hp)
        clear hp HY HN
        go_wp2_with fail
        refine (C1.out).mono ?_; rintro e w1 ⟨rfl, hb1⟩
        have HB := Lib.hid (bnext HS.out.1 hb1)
        clear hb1
        go_wp2_with fail
        go_ret
        exact ⟨cret_i HR.out.symm, HB.out⟩
      | false =>
        rw [hp] at C1
        have HR := Lib.hid (HN.out hp)
        clear hp HY HN
        go_wp2_with fail
        refine (C1.out).mono ?_; rintro e w1 ⟨rfl, hb1⟩
        have HB := Lib.hid (bnext HS.out.1 hb1)
        clear hb1
        go_wp2_with fail
        go_roundw
        case rel => exact ⟨k + 1, by go_num, by omega, Lib.hid ⟨HB.out, HR.out⟩⟩
        case measure => simp [intOf]; omega
    · have hi1 : ¬ (k : Int) < (l.length : Int) := by omega
      have HR := Lib.hid (ixF_none (p := p) (l := l) (fun i hi => HS.out.2 i (by omega) hi))
      go_wp2_with fail
      go_ret
      exact ⟨cret_i HR.out.symm, HS.out.1⟩
set_option maxHeartbeats 4000000 in
theorem contf_c1 (f : FuncId) (b1 : Value) (p : Int → Bool) (v : Value) (l : List Int) (hl : l.length ≤ 100000) (w : World) (h : IN w v l)
    (hcf : ∀ (xs : Array Value) (W : World), (callFunc f xs).run Try.prog W = .ok (.enter f xs) W) (HC : ∀ W, Below w.heap.size w W → ∀ x ∈ l, Calls Try.prog f #[.int .i64 x, b1] W fun e w' => e = .returned (.bool (p x)) ∧ Below W.heap.size W w') :
    Calls Try.prog 90 #[v, .func (.func f) #[] #[b1]] w fun e w' => e = .returned (.bool (l.any p)) ∧ Below w.heap.size w w' := by
  have C := Lib.hid (indexf_c1 f b1 p v l hl w h hcf HC)
  have HG := Lib.hid (ixF_ge p l)
  clear HC h
  go_enter Try.func90, Try.ntmps90
  go_wp2_with fail
  refine (C.out).mono ?_; rintro e w1 ⟨rfl, hb1⟩
  have HB := Lib.hid hb1
  clear hb1
  generalize hz : ixF p l = z at *
  clear hz
  go_wp2_with fail
  go_ret
  exact ⟨cret_b HG.out, HB.out⟩

set_option maxRecDepth 100000 in
set_option maxHeartbeats 4000000 in
theorem indexf_c2 (f : FuncId) (b1 b2 : Value) (p : Int → Bool) (v : Value) (l : List Int) (hl : l.length ≤ 100000) (w : World) (h : IN w v l)
    (hcf : ∀ (xs : Array Value) (W : World), (callFunc f xs).run Try.prog W = .ok (.enter f xs) W) (HC : ∀ W, Below w.heap.size w W → ∀ x ∈ l, Calls Try.prog f #[.int .i64 x, b1, b2] W fun e w' => e = .returned (.bool (p x)) ∧ Below W.heap.size W w') :
    Calls Try.prog 92 #[v, .func (.func f) #[] #[b1, b2]] w fun e w' => e = .returned (.int .i64 (ixF p l)) ∧ Below w.heap.size w w' := by
  have H := Lib.hid h
  have C := Lib.hid HC
  obtain ⟨a, cap, rfl, _⟩ := h
  clear HC
  go_enter Try.func92, Try.ntmps92
  go_wp2_with fail
  go_loopw [8] (fun i wr => ∃ k : Nat, i = .int .i64 k ∧ k ≤ l.length ∧ Hid (Below w.heap.size w wr ∧ ∀ i (_ : i < k) (hi : i < l.length), p l[i] = false)) (fun i _ => l.length - (intOf i).toNat)
  case atStart => exact ⟨0, rfl, Nat.zero_le _, Lib.hid ⟨Below.refl _ _, fun i hi => absurd hi (by omega)⟩⟩
  case round =>
    obtain ⟨k, rfl, hk, HS⟩ := hrel
    by_cases hlt : k < l.length
    · have hi1 : (k : Int) < (l.length : Int) := by omega
      obtain ⟨a', cap', hv, hc⟩ := H.out.next HS.out.1
      obtain ⟨b, off, ha, hcell⟩ := hc (fun e => by rw [e] at hlt; simp at hlt)
      subst ha
      cases hv
      have x0 := hcell k hlt
      have C1 := Lib.hid (C.out wr HS.out.1 l[k] (List.getElem_mem hlt))
      have HY := Lib.hid (fun (e : p l[k] = true) => ixF_hit hlt e (fun i hi => HS.out.2 i hi (by omega)))
      have HN := Lib.hid (fun (e : p l[k] = false) i (h1 : i < k + 1) (h2 : i < l.length) => (show p l[i] = false from by
        by_cases h3 : i < k
        · exact HS.out.2 i h3 h2
        · have : i = k := by omega
          subst this
          exact e))
      clear hcell hc
      generalize l[k] = y at *
      cases hp : p y with
      | true =>
        rw [hp] at C1
        have HR := Lib.hid (HY.out hp)
        clear hp HY HN
        go_wp2_with fail
        refine (C1.out).mono ?_; rintro e w1 ⟨rfl, hb1⟩
        have HB := Lib.hid (bnext HS.out.1 hb1)
        clear hb1
        go_wp2_with fail
        go_ret
        exact ⟨cret_i HR.out.symm, HB.out⟩
      | false =>
        rw [hp] at C1
        have HR := Lib.hid (HN.out hp)
        clear hp HY HN
        go_wp2_with fail
        refine (C1.out).mono ?_; rintro e w1 ⟨rfl, hb1⟩
        have HB := Lib.hid (bnext HS.out.1 hb1)
        clear hb1
        go_wp2_with fail
        go_roundw
        case rel => exact ⟨k + 1, by go_num, by omega, Lib.hid ⟨HB.out, HR.out⟩⟩
        case measure => simp [intOf]; omega
    · have hi1 : ¬ (k : Int) < (l.length : Int) := by omega
      have HR := Lib.hid (ixF_none (p := p) (l := l) (fun i hi => HS.out.2 i (by omega) hi))
      go_wp2_with fail
      go_ret
      exact ⟨cret_i HR.out.symm, HS.out.1⟩
set_option maxHeartbeats 4000000 in
theorem contf_c2 (f : FuncId) (b1 b2 : Value) (p : Int → Bool) (v : Value) (l : List Int) (hl : l.length ≤ 100000) (w : World) (h : IN w v l)
    (hcf : ∀ (xs : Array Value) (W : World), (callFunc f xs).run Try.prog W = .ok (.enter f xs) W) (HC : ∀ W, Below w.heap.size w W → ∀ x ∈ l, Calls Try.prog f #[.int .i64 x, b1, b2] W fun e w' => e = .returned (.bool (p x)) ∧ Below W.heap.size W w') :
    Calls Try.prog 90 #[v, .func (.func f) #[] #[b1, b2]] w fun e w' => e = .returned (.bool (l.any p)) ∧ Below w.heap.size w w' := by
  have C := Lib.hid (indexf_c2 f b1 b2 p v l hl w h hcf HC)
  have HG := Lib.hid (ixF_ge p l)
  clear HC h
  go_enter Try.func90, Try.ntmps90
  go_wp2_with fail
  refine (C.out).mono ?_; rintro e w1 ⟨rfl, hb1⟩
  have HB := Lib.hid hb1
  clear hb1
  generalize hz : ixF p l = z at *
  clear hz
  go_wp2_with fail
  go_ret
  exact ⟨cret_b HG.out, HB.out⟩

set_option maxRecDepth 100000 in
set_option maxHeartbeats 4000000 in
theorem indexf_m1 (f : FuncId) (b1 : Value) (p : Int → Bool) (v : Value) (l : List Int) (hl : l.length ≤ 100000) (w : World) (h : IN w v l)
    (hcf : ∀ (xs : Array Value) (W : World), (callFunc f xs).run Try.prog W = .ok (.enter f xs) W) (HC : ∀ W, Below w.heap.size w W → ∀ x ∈ l, Calls Try.prog f #[b1, .int .i64 x] W fun e w' => e = .returned (.bool (p x)) ∧ Below W.heap.size W w') :
    Calls Try.prog 92 #[v, .func (.func f) #[b1] #[]] w fun e w' => e = .returned (.int .i64 (ixF p l)) ∧ Below w.heap.size w w' := by
  have H := Lib.hid h
  have C := Lib.hid HC
  obtain ⟨a, cap, rfl, _⟩ := h
  clear HC
  go_enter Try.func92, Try.ntmps92
  go_wp2_with fail
  go_loopw [8] (fun i wr => ∃ k : Nat, i = .int .i64 k ∧ k ≤ l.length ∧ Hid (Below w.heap.size w wr ∧ ∀ i (_ : i < k) (hi : i < l.length), p l[i] = false)) (fun i _ => l.length - (intOf i).toNat)
  case atStart => exact ⟨0, rfl, Nat.zero_le _, Lib.hid ⟨Below.refl _ _, fun i hi => absurd hi (by omega)⟩⟩
  case round =>
    obtain ⟨k, rfl, hk, HS⟩ := hrel
    by_cases hlt : k < l.length
    · have hi1 : (k : Int) < (l.length : Int) := by omega
      obtain ⟨a', cap', hv, hc⟩ := H.out.next HS.out.1
      obtain ⟨b, off, ha, hcell⟩ := hc (fun e => by rw [e] at hlt; simp at hlt)
      subst ha
      cases hv
      have x0 := hcell k hlt
      have C1 := Lib.hid (C.out wr HS.out.1 l[k] (List.getElem_mem hlt))
      have HY := Lib.hid (fun (e : p l[k] = true) => ixF_hit hlt e (fun i hi => HS.out.2 i hi (by omega)))
      have HN := Lib.hid (fun (e : p l[k] = false) i (h1 : i < k + 1) (h2 : i < l.length) => (show p l[i] = false from by
        by_cases h3 : i < k
        · exact HS.out.2 i h3 h2
        · have : i = k := by omega
          subst this
          exact e))
      clear hcell hc
      generalize l[k] = y at *
      cases hp : p y with
      | true =>
        rw [hp] at C1
        have HR := Lib.hid (HY.out hp)
        clear hp HY HN
        go_wp2_with fail
        refine (C1.out).mono ?_; rintro e w1 ⟨rfl, hb1⟩
        have HB := Lib.hid (bnext HS.out.1 hb1)
        clear hb1
        go_wp2_with fail
        go_ret
        exact ⟨cret_i HR.out.symm, HB.out⟩
      | false =>
        rw [hp] at C1
        have HR := Lib.hid (HN.out hp)
        clear hp HY HN
        go_wp2_with fail
        refine (C1.out).mono ?_; rintro e w1 ⟨rfl, hb1⟩
        have HB := Lib.hid (bnext HS.out.1 hb1)
        clear hb1
        go_wp2_with fail
        go_roundw
        case rel => exact ⟨k + 1, by go_num, by omega, Lib.hid ⟨HB.out, HR.out⟩⟩
        case measure => simp [intOf]; omega
    · have hi1 : ¬ (k : Int) < (l.length : Int) := by omega
      have HR := Lib.hid (ixF_none (p := p) (l := l) (fun i hi => HS.out.2 i (by omega) hi))
      go_wp2_with fail
      go_ret
      exact ⟨cret_i HR.out.symm, HS.out.1⟩
set_option maxHeartbeats 4000000 in
theorem contf_m1 (f : FuncId) (b1 : Value) (p : Int → Bool) (v : Value) (l : List Int) (hl : l.length ≤ 100000) (w : World) (h : IN w v l)
    (hcf : ∀ (xs : Array Value) (W : World), (callFunc f xs).run Try.prog W = .ok (.enter f xs) W) (HC : ∀ W, Below w.heap.size w W → ∀ x ∈ l, Calls Try.prog f #[b1, .int .i64 x] W fun e w' => e = .returned (.bool (p x)) ∧ Below W.heap.size W w') :
    Calls Try.prog 90 #[v, .func (.func f) #[b1] #[]] w fun e w' => e = .returned (.bool (l.any p)) ∧ Below w.heap.size w w' := by
  have C := Lib.hid (indexf_m1 f b1 p v l hl w h hcf HC)
  have HG := Lib.hid (ixF_ge p l)
  clear HC h
  go_enter Try.func90, Try.ntmps90
  go_wp2_with fail
  refine (C.out).mono ?_; rintro e w1 ⟨rfl, hb1⟩
  have HB := Lib.hid hb1
  clear hb1
  generalize hz : ixF p l = z at *
  clear hz
  go_wp2_with fail
  go_ret
  exact ⟨cret_b HG.out, HB.out⟩
end Go.Proofs.Ytaeflfgkdjfnfaa
