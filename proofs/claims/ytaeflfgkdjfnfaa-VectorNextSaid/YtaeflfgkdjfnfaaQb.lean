/- Layer 5 (vector): the document's Right, Get, Set, in memory. -/
import Derived.Test.YtaeflfgkdjfnfaaQa
import Derived.BigQuiet
import Derived.Lib.Hide
namespace Go.Proofs.Ytaeflfgkdjfnfaa
open Go.RowKit

/-- Writes of the document in a row of the call's own. -/
def DD (w : World) (B : Nat) (v : Value) (L : List (Int × Int)) : Prop := w.ownsRow B 122 2 v L.length (flatD L)
theorem DD.next {w w' : World} {B : Nat} {v : Value} {L : List (Int × Int)} (h : DD w B v L) (hb : Below w.heap.size w w') : DD w' B v L := own_next h hb
theorem DD.base {w : World} {B C : Nat} {v : Value} {L : List (Int × Int)} (h : DD w B v L) (hC : C ≤ B) : DD w C v L := by
  refine ⟨h.1, ?_⟩
  rcases h.2 with h2 | ⟨g, cap, cur, a, b, c, d⟩
  · exact .inl h2
  · exact .inr ⟨g, cap, cur, a, Nat.le_trans hC b, c, d⟩
theorem DD.nil (w : World) (B : Nat) : DD w B (.slice none 0 0) [] := ⟨rfl, .inl ⟨rfl, rfl⟩⟩
theorem DD.cell {w : World} {B n c : Nat} {a : Option Addr} {L : List (Int × Int)} (h : DD w B (.slice a n c) L) (k : Nat) (hk : k < L.length) : ∃ g, a = some ⟨g, 0, none⟩ ∧ w.cell? ⟨g, k * 2, none⟩ = some (.int .i64 L[k].1) ∧ w.cell? ⟨g, k * 2 + 1, none⟩ = some (.int .i64 L[k].2) := by
  rcases h.2 with ⟨hv, hl⟩ | ⟨g, cap, cur, hv, hg, _⟩
  · omega
  · obtain ⟨f0, f1⟩ := flatD_at L k hk
    cases hv
    have hc := World.ownsRow.cells h (g := g) rfl
    have add : ∀ j, (⟨g, 0, none⟩ : Addr).add j = ⟨g, j, none⟩ := fun j => by unfold Addr.add; split <;> simp_all
    have r0 := hc _ _ f0
    have r1 := hc _ _ f1
    rw [add] at r0 r1
    exact ⟨g, rfl, r0, r1⟩
theorem DD.form {w : World} {B : Nat} {v : Value} {L : List (Int × Int)} (h : DD w B v L) : ∃ a c, v = .slice a L.length c := by
  rcases h.2 with ⟨rfl, hl⟩ | ⟨g, cap, cur, rfl, _⟩
  · exact ⟨none, 0, by rw [hl]⟩
  · exact ⟨_, _, rfl⟩
/-- Its own row reads as writes. -/
theorem DD.dr {w : World} {B : Nat} {v : Value} {L : List (Int × Int)} (h : DD w B v L) (hi : ∀ x ∈ L, IW x.1 ∧ IW x.2) : DR w v L := by
  obtain ⟨a, c, rfl⟩ := h.form
  refine ⟨a, c, rfl, hi, fun h0 => ?_⟩
  have hl : 0 < L.length := List.length_pos_iff.2 h0
  obtain ⟨g, hg, _⟩ := h.cell 0 hl
  refine ⟨g, 0, hg, fun i hi2 => ?_⟩
  obtain ⟨g', hg', x0, x1⟩ := h.cell i hi2
  rw [hg] at hg'
  cases hg'
  rw [Nat.zero_add]
  exact ⟨x0, x1⟩
theorem rgt_iw {who n : Int} (hk : IW who) (h : rgt who n = true) : IW n := by
  have := (rgt_iff _ _).1 h
  unfold IW
  show (decide (IntKind.i64.min ≤ n) && decide (n ≤ IntKind.i64.max)) = true
  rw [Bool.and_eq_true, decide_eq_true_eq, decide_eq_true_eq, show IntKind.i64.min = -9223372036854775808 from by decide, show IntKind.i64.max = 9223372036854775807 from by decide]
  omega
theorem D_info : (Try.prog.info? 122).map (fun i => (i.zero, i.size, i.bytes)) = some (some (.agg #[.int .i64 0, .int .i64 0]), 2, 16) := by kernel_rfl
theorem wpList_app1 {w : World} {ops : Array Oper} {rest : List Oper} {o : Oper} {a : Act} {Q : Exit → Act → World → Prop} (hgd : o.guard = none) (s x : Operand)
    (ho : o.op = .call { callee := .builtin .append, args := #[s, x], argTypes := #[117, 117] })
    (base : Nat) (v : Value) (g : Nat) (L : List (Int × Int)) (p1 p2 : Int) (hs : a.eval s = v) (hx : a.eval x = .slice (some ⟨g, 0, none⟩) 1 1) (hown : DD w base v L)
    (h0 : w.heap[g]? = some (.cells #[.int .i64 p1, .int .i64 p2] 122)) (hm : L.length ≤ 100000) (hbase : base ≤ w.heap.size)
    (h : ∀ v' w', DD w' base v' (L ++ [(p1, p2)]) → w.grownBy w' v.ownBlock → wpList Try.prog ops Q rest (a.put o.dst v') w') : wpList Try.prog ops Q (o :: rest) a w := by
  obtain ⟨i0, hi, hz0, hz1, hz2⟩ := info_parts D_info
  refine wpList_append_own _ hgd s x 117 ho base 122 i0 _ 2 16 Try.underlying117 hi hz0 hz1 hz2 rfl (by decide) v L.length (flatD L) hs hown ⟨g, 0, none⟩ 1 1 [.int .i64 p1, .int .i64 p2] hx rfl ?_ ?_ ?_ ?_ hbase ?_
  · exact World.news_of_block (cs := #[.int .i64 p1, .int .i64 p2]) (t := 122) (fr := (0, 0)) h0
  · simp [Value.oneCell']
  · simp only [maxLen]; omega
  · omega
  · intro v' w' ho' hg' _
    refine h v' w' ?_ hg'
    unfold DD
    rw [List.length_append, flatD_snoc]
    exact ho'
set_option maxHeartbeats 2000000 in
theorem right05_any (who n : Int) (w : World) : Calls Try.prog 70 #[.agg #[.int .i64 who, .int .i64 n]] w fun e w' => e = .returned (.bool (rgt who n)) ∧ Below w.heap.size w w' := by
  have hb : Below w.heap.size w (w.alloc (.cells #[.int .i64 who, .int .i64 n] 122)) := (Below.refl _ _).alloc (Nat.le_refl _) _
  have HB := Lib.hid hb
  clear hb
  rcases (show who < 0 ∨ (0 ≤ who ∧ n < 1) ∨ (0 ≤ who ∧ 1 ≤ n ∧ 1099511627776 < n) ∨ (0 ≤ who ∧ 1 ≤ n ∧ n ≤ 1099511627776) from by omega) with h | ⟨h, h2⟩ | ⟨h, h2, h3⟩ | ⟨h, h2, h3⟩
  · have d1 : decide (0 ≤ who) = false := by rw [decide_eq_false_iff_not]; omega
    go_enter Try.func70, Try.ntmps70
    go_wp2_with fail
    go_ret
    exact ⟨ret_bl (by unfold rgt; symm; rw [decide_eq_false_iff_not]; omega), HB.out⟩
  · have d2 : decide (1 ≤ n) = false := by rw [decide_eq_false_iff_not]; omega
    go_enter Try.func70, Try.ntmps70
    go_wp2_with fail
    go_ret
    exact ⟨ret_bl (by unfold rgt; symm; rw [decide_eq_false_iff_not]; omega), HB.out⟩
  · have d3 : decide (n ≤ 1099511627776) = false := by rw [decide_eq_false_iff_not]; omega
    go_enter Try.func70, Try.ntmps70
    go_wp2_with fail
    go_ret
    exact ⟨ret_bl (by unfold rgt; symm; rw [decide_eq_false_iff_not]; omega), HB.out⟩
  · go_enter Try.func70, Try.ntmps70
    go_wp2_with fail
    go_ret
    exact ⟨ret_bl (by unfold rgt; symm; rw [decide_eq_true_eq]; omega), HB.out⟩
theorem retv' {a b : Int} (h : a = b) : Ending.returned (.int .i64 a) = .returned (.int .i64 b) := by rw [h]
theorem getL_drop (l : List (Int × Int)) (k : Nat) (hk : k < l.length) (who : Int) : getL (l.drop k) who = if l[k].1 = who then l[k].2 else getL (l.drop (k + 1)) who := by
  rw [List.drop_eq_getElem_cons hk]
  rfl
set_option maxRecDepth 100000 in
set_option maxHeartbeats 4000000 in
theorem get05_any (v : Value) (l : List (Int × Int)) (who : Int) (hn : l.length ≤ 100000) (w : World) (h : DR w v l) : Calls Try.prog 68 #[v, .int .i64 who] w fun e w' => e = .returned (.int .i64 (getL l who)) ∧ w' = w := by
  obtain ⟨a, cap, rfl, hx, hc⟩ := id h
  have HC := Lib.hid hc
  clear h hx hc
  go_enter Try.func68, Try.ntmps68
  go_wp2_with fail
  go_loopw [5] (fun i wr => ∃ k : Nat, i = .int .i64 k ∧ k ≤ l.length ∧ wr = w ∧ Hid (getL l who = getL (l.drop k) who)) (fun i _ => l.length - (intOf i).toNat)
  case atStart => exact ⟨0, rfl, by omega, rfl, Lib.hid rfl⟩
  case round =>
    obtain ⟨k, rfl, hk, rfl, HP⟩ := hrel
    by_cases h1 : k < l.length
    · obtain ⟨b, off, rfl, hcell⟩ := HC.out (fun e => by rw [e] at h1; simp at h1)
      obtain ⟨x0, x1⟩ := hcell k h1
      have hi1 : (k : Int) < (l.length : Int) := by omega
      have HD := Lib.hid (getL_drop l k h1 who)
      clear hcell
      generalize l[k] = p at *
      obtain ⟨pw, pn⟩ := p
      dsimp only at *
      by_cases hq : pw = who
      · have hq2 : (pw == who) = true := by simp [hq]
        have HV : Hid (getL l who = pn) := Lib.hid (by rw [HP.out, HD.out]; simp [hq])
        clear hq
        go_wp2_with fail
        go_ret
        exact ⟨retv' HV.out.symm, rfl⟩
      · have hq2 : (pw == who) = false := by simp [hq]
        have HV : Hid (getL l who = getL (l.drop (k + 1)) who) := Lib.hid (by rw [HP.out, HD.out]; simp [hq])
        clear hq
        go_wp2_with fail
        go_roundw
        case rel => exact ⟨k + 1, by go_num, by omega, (by first | rfl | trivial), HV⟩
        case measure => simp [intOf]; omega
    · have hi1 : ¬ (k : Int) < (l.length : Int) := by omega
      have HV : Hid (getL l who = 0) := Lib.hid (by rw [HP.out, List.drop_eq_nil_of_le (by omega)]; rfl)
      go_wp2_with fail
      go_ret
      exact ⟨retv' HV.out.symm, rfl⟩
end Go.Proofs.Ytaeflfgkdjfnfaa
