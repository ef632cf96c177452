/- Layer 5 (vector): a vector as a map in memory; Right, Knows, learn. -/
import Derived.Test.YtaeflfgkdjfnfaaKg
import Derived.Test.YtaeflfgkdjfnfaaRow
import Derived.Test.YtaeflfgkdjfnfaaProg
import Derived.Test.YtaeflfgkdjfnfaaChecked
import Derived.Maps.RangeWalk
import Derived.WalkSpells
import Derived.WalkLawsBesides
import Derived.WalkSmall
import Derived.IntWalk
namespace Go.Proofs.Ytaeflfgkdjfnfaa
open Go.RowKit
open Go.Maps (Keyed)

theorem intLaw : Keyed Try.prog 3 := Maps.int_keyed Try.underlying3
theorem zeroI (w : World) : (zeroValue 3).run Try.prog w = .ok (.int .i64 0) w := by kernel_rfl
/-- A vector in memory: a map of ints. -/
def VM (w : World) (M n : Nat) (D : DataW Unit) : Prop := w.ownsMap Try.prog 3 (plainElem Try.prog 3) M n D
/-- How many of a writer's writes it has. -/
def gI (D : DataW Unit) (k : Int) : Int := match D.atKey (.int .i64 k) (.lit (.int .i64 0)) with | .lit (.int .i64 c) => c | _ => 0
def rgt (who n : Int) : Bool := decide (0 ≤ who ∧ 1 ≤ n ∧ n ≤ 1099511627776)
def IW (n : Int) : Prop := (Lit.int .i64 n).wf = true
theorem look_vm {w : World} {M n : Nat} {D : DataW Unit} (h : VM w M n D) (k : Int) (hk : IW k) : (Instr.lookup 116 (.map (some M)) (.int .i64 k) false).run Try.prog w = .ok (.int .i64 (gI D k)) w ∧ IW (gI D k) := by
  obtain ⟨c, hrun, hat, hwc⟩ := World.ownsMap.lookup_int h intLaw Try.underlying116 Try.underlying3 (zeroI w) (Maps.keyOf_int_mk Try.underlying3 hk)
  have e : gI D k = c := by unfold gI; rw [hat]
  rw [e]
  exact ⟨hrun, hwc⟩
theorem ret_bl {a b : Bool} (h : a = b) : Ending.returned (.bool a) = .returned (.bool b) := by rw [h]
set_option maxHeartbeats 2000000 in
theorem right_any (who n : Int) (w : World) : Calls Try.prog 136 #[.agg #[.int .i64 who, .int .i64 n]] w fun e w' => e = .returned (.bool (rgt who n)) ∧ Below w.heap.size w w' := by
  have hb : Below w.heap.size w (w.alloc (.cells #[.int .i64 who, .int .i64 n] 123)) := (Below.refl _ _).alloc (Nat.le_refl _) _
  have HB := Hid.mk' hb
  clear hb
  rcases (show who < 0 ∨ (0 ≤ who ∧ n < 1) ∨ (0 ≤ who ∧ 1 ≤ n ∧ 1099511627776 < n) ∨ (0 ≤ who ∧ 1 ≤ n ∧ n ≤ 1099511627776) from by omega) with h | ⟨h, h2⟩ | ⟨h, h2, h3⟩ | ⟨h, h2, h3⟩
  · have d1 : decide (0 ≤ who) = false := by rw [decide_eq_false_iff_not]; omega
    go_enter Try.func136, Try.ntmps136
    go_wp2_with fail
    go_ret
    exact ⟨ret_bl (by unfold rgt; symm; rw [decide_eq_false_iff_not]; omega), HB.out⟩
  · have d2 : decide (1 ≤ n) = false := by rw [decide_eq_false_iff_not]; omega
    go_enter Try.func136, Try.ntmps136
    go_wp2_with fail
    go_ret
    exact ⟨ret_bl (by unfold rgt; symm; rw [decide_eq_false_iff_not]; omega), HB.out⟩
  · have d3 : decide (n ≤ 1099511627776) = false := by rw [decide_eq_false_iff_not]; omega
    go_enter Try.func136, Try.ntmps136
    go_wp2_with fail
    go_ret
    exact ⟨ret_bl (by unfold rgt; symm; rw [decide_eq_false_iff_not]; omega), HB.out⟩
  · go_enter Try.func136, Try.ntmps136
    go_wp2_with fail
    go_ret
    exact ⟨ret_bl (by unfold rgt; symm; rw [decide_eq_true_eq]; omega), HB.out⟩
/-- What a vector has of each, a write more being learnt. -/
theorem gI_put (D : DataW Unit) (hD : Maps.IsMap D) (k c : Int) (z : Int) : gI (D.put (.int .i64 k) (.lit (.int .i64 c))) z = if z = k then c else gI D z := by
  by_cases hz : z = k
  · subst hz
    rw [if_pos rfl]
    unfold gI
    rw [Maps.atKey_put_same hD (by simp [WideAt.IsKeyLit])]
  · rw [if_neg hz]
    unfold gI
    rw [Maps.atKey_put_other (fun e => hz (by injection e))]
set_option maxRecDepth 100000 in
set_option maxHeartbeats 4000000 in
theorem learn_any (who n : Int) (hk : IW who) (w : World) (M m : Nat) (D : DataW Unit) (hm : m < 100000) (h : VM w M m D) : Calls Try.prog 138 #[.map (some M), .agg #[.int .i64 who, .int .i64 n]] w fun e w' => e = .returned (.tuple #[]) ∧ VM w' M (m + 1) (if rgt who n = true then D.put (.int .i64 who) (.lit (.int .i64 (max (gI D who) n))) else D) ∧ w.grownBy w' (some M) := by
  have C := Hid.mk' (right_any who n (w.alloc (.cells #[.int .i64 who, .int .i64 n] 123)))
  have H := Hid.mk' h
  have hb : Below w.heap.size w (w.alloc (.cells #[.int .i64 who, .int .i64 n] 123)) := (Below.refl _ _).alloc (Nat.le_refl _) _
  have hx : Bx (w.alloc (.cells #[.int .i64 who, .int .i64 n] 123)) w.heap.size 123 #[.int .i64 who, .int .i64 n] := Bx.fresh w _ _
  have HB := Hid.mk' (And.intro hb hx)
  clear h hb hx
  have hrg : rgt who n = true → 1 ≤ n ∧ n ≤ 1099511627776 := fun h => by unfold rgt at h; rw [decide_eq_true_eq] at h; omega
  obtain ⟨r, hr⟩ : ∃ r, rgt who n = r := ⟨_, rfl⟩
  rw [hr] at C hrg ⊢
  obtain ⟨g, hg⟩ : ∃ g, gI D who = g := ⟨_, rfl⟩
  rw [hg]
  go_enter Try.func138, Try.ntmps138
  go_wp2_with fail
  refine C.out.mono ?_; rintro e w1 ⟨rfl, hb1⟩
  have hx1 := HB.out.2.next hb1
  obtain ⟨x0, x1⟩ := And.intro (hx1.read (i := 0) rfl) (hx1.read (i := 1) rfl)
  have hb2 := bnext HB.out.1 hb1
  have hv1 : VM w1 M m D := World.ownsMap.kept H.out (gb_below hb2 none) (by simp)
  have hl := look_vm hv1 who hk
  rw [hg] at hl
  have H2 := Hid.mk' (And.intro hb2 hv1)
  clear hx1 hb1 hb2 C hv1
  cases r with
  | true =>
    obtain ⟨hl1, hl2⟩ := hl
    obtain ⟨hn1, hn2⟩ := hrg rfl
    have hmx : IW (max g n) := by
      unfold IW at *
      have h2 : (decide (IntKind.i64.min ≤ g) && decide (g ≤ IntKind.i64.max)) = true := hl2
      show (decide (IntKind.i64.min ≤ max g n) && decide (max g n ≤ IntKind.i64.max)) = true
      rw [Bool.and_eq_true, decide_eq_true_eq, decide_eq_true_eq, show IntKind.i64.min = -9223372036854775808 from by decide, show IntKind.i64.max = 9223372036854775807 from by decide] at *
      omega
    have HMX := Hid.mk' hmx
    clear hmx hl2 hrg
    go_wp2_with (at_mapUpdate; refine wpList_mapUpdate_own _ rfl _ _ _ 116 rfl 3 3 intLaw Try.underlying116 _ M m D rfl H2.out.2 (by unfold maxLen; omega) _ _ _ rfl rfl (Maps.keyOf_int_mk Try.underlying3 hk) _ [] (plainElem_int Try.underlying3 HMX.out) ?_)
    intro w2 hm2 hg2
    have HF := Hid.mk' (And.intro hm2 (gb_trans (gb_below H2.out.1 _) hg2))
    clear hm2 hg2
    go_wp2_with fail
    go_end0
    exact ⟨rfl, HF.out⟩
  | false =>
    go_wp2_with fail
    go_end0
    exact ⟨rfl, World.ownsMap.mono H2.out.2 (Nat.le_succ _), gb_below H2.out.1 _⟩
end Go.Proofs.Ytaeflfgkdjfnfaa
