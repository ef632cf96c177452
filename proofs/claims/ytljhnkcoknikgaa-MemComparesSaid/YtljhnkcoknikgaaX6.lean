/- Layer 7 (mut): Same, Covers, Great. -/
import Derived.Test.YtljhnkcoknikgaaX4
import Derived.Lib.QuietBelow
namespace Go.Proofs.Ytljhnkcoknikgaa
open Go.RowKit

theorem xret_b {a b : Bool} (h : a = b) : Ending.returned (.bool a) = .returned (.bool b) := by rw [h]
theorem msame_any (a b : Mu) (oa ob : Value) (hna : a.over.length ≤ 100000) (hnb : b.over.length ≤ 100000) (w : World) (ha : SI w oa a.over) (hb : SI w ob b.over) :
    Calls Try.prog 22 #[.agg (a.cells oa), .agg (b.cells ob)] w fun e w' => e = .returned (.bool (cmpM a b == 0)) ∧ Below w.heap.size w w' := by
  have CC := Lib.hid (fun W hA hB => mcompare_any a b oa ob hna hnb W hA hB)
  have H := Lib.hid (And.intro ha hb)
  clear ha hb hna hnb
  generalize cmpM a b = z at *
  obtain ⟨at_, ak, akey, aen, aval, aex, ⟨ax, ay, az⟩, ao⟩ := a
  obtain ⟨bt, bk, bkey, ben, bval, bex, ⟨bx, b_y, bz⟩, bo⟩ := b
  unfold Mu.cells at *
  dsimp only at *
  have HA := Lib.hid (((Below.refl w.heap.size w).alloc (Nat.le_refl _) (.cells #[.int .i64 at_, .int .i64 ak, .string akey, .string aen, .string aval, .int .i64 aex, .int .i64 ax, .int .i64 ay, .int .i64 az, oa] 40)).alloc (by simp) (.cells #[.int .i64 bt, .int .i64 bk, .string bkey, .string ben, .string bval, .int .i64 bex, .int .i64 bx, .int .i64 b_y, .int .i64 bz, ob] 40))
  go_enter Try.func22, Try.ntmps22
  go_wp2_with fail
  refine (CC.out _ (H.out.1.next HA.out) (H.out.2.next HA.out)).mono ?_; rintro e w1 ⟨rfl, hb1⟩
  have HB := Lib.hid (bnext HA.out hb1)
  clear hb1
  go_wp2_with fail
  go_ret
  exact ⟨rfl, HB.out⟩
theorem bl_cases (a b : List UInt8) : (Op.bytesLess a b = true ∧ Op.bytesLess b a = false ∧ (a == b) = false ∧ (b == a) = false) ∨ (Op.bytesLess a b = false ∧ Op.bytesLess b a = false ∧ (a == b) = true ∧ (b == a) = true) ∨ (Op.bytesLess a b = false ∧ Op.bytesLess b a = true ∧ (a == b) = false ∧ (b == a) = false) := by
  by_cases e : a = b
  · subst e
    exact .inr (.inl ⟨bl_irr _, bl_irr _, by simp, by simp⟩)
  · have e1 : (a == b) = false := by simp [e]
    have e2 : (b == a) = false := by
      have e3 : ¬ b = a := fun h => e h.symm
      simp [e3]
    cases h : Op.bytesLess a b with
    | true => exact .inl ⟨rfl, bl_anti _ _ h, e1, e2⟩
    | false => exact .inr (.inr ⟨rfl, bl_total _ _ h e1, e1, e2⟩)
/-- Is a key wiped? -/
def covS (m : Mu) (key : ByteArray) : Bool := m.k == 3 && (!Op.bytesLess key.toList m.key.toList) && Op.bytesLess key.toList m.en.toList
set_option maxHeartbeats 1000000 in
theorem covers_any (m : Mu) (ov : Value) (key : ByteArray) (w : World) :
    Calls Try.prog 23 #[.agg (m.cells ov), .string key] w fun e w' => e = .returned (.bool (covS m key)) ∧ Below w.heap.size w w' := by
  obtain ⟨t, k, mk, en, val, ex, ⟨x, y, z⟩, over⟩ := m
  unfold Mu.cells covS
  dsimp only
  have HB := Lib.hid ((Below.refl w.heap.size w).alloc (Nat.le_refl _) (.cells #[.int .i64 t, .int .i64 k, .string mk, .string en, .string val, .int .i64 ex, .int .i64 x, .int .i64 y, .int .i64 z, ov] 40))
  by_cases hk : k = 3
  · subst hk
    rcases bl_cases mk.toList key.toList with ⟨h1, h2, h3, h4⟩ | ⟨h1, h2, h3, h4⟩ | ⟨h1, h2, h3, h4⟩
    all_goals
      cases h5 : Op.bytesLess key.toList en.toList
      all_goals
        rw [h2]
        go_enter Try.func23, Try.ntmps23
        go_wp2_with fail
        go_ret
        exact ⟨xret_b (by simp), HB.out⟩
  · have hk2 : (k == 3) = false := by simp [hk]
    clear hk
    rw [hk2, Bool.false_and, Bool.false_and]
    go_enter Try.func23, Try.ntmps23
    go_wp2_with fail
    go_ret
    exact ⟨rfl, HB.out⟩
set_option maxHeartbeats 1000000 in
theorem rcovers_any (m : Mu) (ov : Value) (key : ByteArray) (w : World) :
    Calls Try.prog 24 #[.agg (m.cells ov), .string key] w fun e w' => e = .returned (.bool (covS m key)) ∧ Below w.heap.size w w' := by
  obtain ⟨t, k, mk, en, val, ex, ⟨x, y, z⟩, over⟩ := m
  unfold Mu.cells covS
  dsimp only
  have HB := Lib.hid ((Below.refl w.heap.size w).alloc (Nat.le_refl _) (.cells #[.int .i64 t, .int .i64 k, .string mk, .string en, .string val, .int .i64 ex, .int .i64 x, .int .i64 y, .int .i64 z, ov] 40))
  by_cases hk : k = 3
  · subst hk
    rcases bl_cases mk.toList key.toList with ⟨h1, h2, h3, h4⟩ | ⟨h1, h2, h3, h4⟩ | ⟨h1, h2, h3, h4⟩
    all_goals
      cases h5 : Op.bytesLess key.toList en.toList
      all_goals
        rw [h2]
        go_enter Try.func24, Try.ntmps24
        go_wp2_with fail
        go_ret
        exact ⟨xret_b (by simp), HB.out⟩
  · have hk2 : (k == 3) = false := by simp [hk]
    clear hk
    rw [hk2, Bool.false_and, Bool.false_and]
    go_enter Try.func24, Try.ntmps24
    go_wp2_with fail
    go_ret
    exact ⟨rfl, HB.out⟩
/-- Is it too great to be asked? -/
def greatS (m : Mu) : Bool := decide (500 < m.key.size) || decide (500 < m.en.size) || decide (500 < m.val.size) || decide (100 < m.over.length)
set_option maxHeartbeats 1000000 in
theorem great_any (m : Mu) (ov : Value) (w : World) (h : SI w ov m.over) :
    Calls Try.prog 18 #[.agg (m.cells ov)] w fun e w' => e = .returned (.bool (greatS m)) ∧ Below w.heap.size w w' := by
  obtain ⟨t, k, mk, en, val, ex, ⟨x, y, z⟩, over⟩ := m
  obtain ⟨a, cap, hv⟩ := h.form
  subst hv
  clear h
  unfold Mu.cells greatS
  dsimp only
  have HB := Lib.hid ((Below.refl w.heap.size w).alloc (Nat.le_refl _) (.cells #[.int .i64 t, .int .i64 k, .string mk, .string en, .string val, .int .i64 ex, .int .i64 x, .int .i64 y, .int .i64 z, .slice a over.length cap] 40))
  have q1 : ((500 : Int) < (mk.size : Int)) = (500 < mk.size) := propext (by omega)
  have q2 : ((500 : Int) < (en.size : Int)) = (500 < en.size) := propext (by omega)
  have q3 : ((500 : Int) < (val.size : Int)) = (500 < val.size) := propext (by omega)
  have q4 : ((100 : Int) < (over.length : Int)) = (100 < over.length) := propext (by omega)
  have hcs : 500 < mk.size ∨ (¬ 500 < mk.size ∧ 500 < en.size) ∨ (¬ 500 < mk.size ∧ ¬ 500 < en.size ∧ 500 < val.size) ∨ (¬ 500 < mk.size ∧ ¬ 500 < en.size ∧ ¬ 500 < val.size) := by omega
  rcases hcs with h1 | ⟨h1, h2⟩ | ⟨h1, h2, h3⟩ | ⟨h1, h2, h3⟩
  all_goals
    first | (have h2 := h2) | (have h2 := h1)
    first | (have h3 := h3) | (have h3 := h1)
    go_enter Try.func18, Try.ntmps18
    go_wp2_with fail
    go_ret
    exact ⟨xret_b (by simp only [q1, q2, q3, q4, h1, h2, h3, decide_true, decide_false, Bool.true_or, Bool.false_or]), HB.out⟩
end Go.Proofs.Ytljhnkcoknikgaa
