/- Layer 41 (skew): the chapter's example; the statement SkewSteady's walk. -/
import Derived.Test.YtkkhljneeajkmaaC7
import Derived.ProofKit
import Derived.OpenShut
import Derived.ChangeOld
import Derived.Deep.Slices
import Derived.Lib.SmallJoins
namespace Go.Proofs.Ytkkhljneeajkmaa
open Go.RowKit Go.ChangeShapes Go.WideShapes Go.Deep

def R1 : RT := RT.go 0 3 5 RT.zero
def R2 : RT := RT.go 1 1 5 R1
theorem R1_ok : R1.Ok 1000000 := (RT.zero_ok.go 0 3 5 (by omega)).mono (by omega)
theorem R2_ok : R2.Ok 1000000 := ((RT.zero_ok.go 0 3 5 (by omega)).go 1 1 5 (by omega)).mono (by omega)
set_option maxRecDepth 100000 in
set_option maxHeartbeats 4000000 in
theorem alive41_any (w : World) : Calls Try.prog 34 #[] w fun e w' => e = .returned (.bool true) ∧ Below w.heap.size w w' := by
  have C1 := Lib.hid (fun g W (hW : RB W g RT.zero) => sgo_any g 0 3 RT.zero (RT.zero_ok.mono (by omega)) (by omega) (by omega) W hW)
  have C2 := Lib.hid (fun g W (hW : RB W g R1) => sgo_any g 1 1 R1 R1_ok (by omega) (by omega) W hW)
  go_enter Try.func34, Try.ntmps34
  go_wp2_with fail
  refine (new_any w).mono ?_; rintro e w1 ⟨rfl, hr1, hb1⟩
  have HR1 := Lib.hid hr1
  have HB1 := Lib.hid hb1
  clear hr1 hb1
  go_wp2_with fail
  refine (C1.out _ _ HR1.out).mono ?_; rintro e w2 ⟨rfl, hr2, hg2⟩
  have HR2 := Lib.hid (show RB w2 w.heap.size R1 from hr2)
  have HB2 := Lib.hid (below_gb HB1.out hg2 (Nat.le_refl _))
  clear hr2 hg2 HR1 HB1
  go_wp2_with fail
  refine (C2.out _ _ HR2.out).mono ?_; rintro e w3 ⟨rfl, hr3, hg3⟩
  have HR3 := Lib.hid (show RB w3 w.heap.size R2 from hr3)
  have HB3 := Lib.hid (below_gb HB2.out hg3 (Nat.le_refl _))
  clear hr3 hg3 HR2 HB2
  go_wp2_with fail
  refine (ahead_any w.heap.size 0 1 R2 (by omega) (by omega) w3 HR3.out).mono ?_; rintro e w4 ⟨rfl, rfl⟩
  rw [show R2.most 0 1 = 3 from by decide +kernel]
  go_wp2_with fail
  refine (ahead_any w.heap.size 1 0 R2 (by omega) (by omega) _ HR3.out).mono ?_; rintro e w5 ⟨rfl, rfl⟩
  rw [show R2.most 1 0 = 1 from by decide +kernel]
  go_wp2_with fail
  refine (within_any w.heap.size 3 2 (by omega) R2 _ HR3.out).mono ?_; rintro e w6 ⟨rfl, rfl⟩
  rw [show wth R2 3 2 = true from by decide +kernel]
  go_wp2_with fail
  refine (within_any w.heap.size 2 2 (by omega) R2 _ HR3.out).mono ?_; rintro e w7 ⟨rfl, rfl⟩
  rw [show wth R2 2 2 = false from by decide +kernel]
  go_wp2_with fail
  go_ret
  exact ⟨rfl, HB3.out⟩
def flatT (L : List (Int × Int)) : List Value := L.flatMap fun x => [.int .i64 x.1, .int .i64 x.2]
theorem flatT_snoc (L : List (Int × Int)) (x : Int × Int) : flatT (L ++ [x]) = flatT L ++ [.int .i64 x.1, .int .i64 x.2] := by simp [flatT]
theorem flatT_at (L : List (Int × Int)) : ∀ (j : Nat) (h : j < L.length), (flatT L)[j * 2]? = some (.int .i64 L[j].1) ∧ (flatT L)[j * 2 + 1]? = some (.int .i64 L[j].2) := by
  induction L with
  | nil => intro j h; simp at h
  | cons s L ih =>
    intro j h
    have e : flatT (s :: L) = .int .i64 s.1 :: .int .i64 s.2 :: flatT L := by simp [flatT]
    rw [e]
    cases j with
    | zero => exact ⟨rfl, rfl⟩
    | succ j =>
      have := ih j (by simpa using h)
      rw [show (j + 1) * 2 = j * 2 + 1 + 1 from by omega]
      simp only [List.getElem?_cons_succ, List.getElem_cons_succ]
      exact this
/-- Ticks of the document in a row of the call's own. -/
def TO (w : World) (B : Nat) (v : Value) (L : List (Int × Int)) : Prop := w.ownsRow B 64 2 v L.length (flatT L)
theorem TO.next {w w' : World} {B : Nat} {v : Value} {L : List (Int × Int)} (h : TO w B v L) (hb : Below w.heap.size w w') : TO w' B v L := own_next h hb
theorem TO.form {w : World} {B : Nat} {v : Value} {L : List (Int × Int)} (h : TO w B v L) : ∃ a c, v = .slice a L.length c := by
  rcases h.2 with ⟨rfl, hl⟩ | ⟨g, cap, cur, rfl, _⟩
  · exact ⟨none, 0, by rw [hl]⟩
  · exact ⟨_, _, rfl⟩
theorem TO.in_ {w : World} {B : Nat} {v : Value} {L : List (Int × Int)} (h : TO w B v L) : TI w v L := by
  rcases h.2 with ⟨hv, h0⟩ | ⟨g, cap, cur, hv, hB, hg, hc, hm, hs, ht⟩
  · have hl : L = [] := List.eq_nil_of_length_eq_zero h0
    subst hl
    exact ⟨none, 0, hv, fun h => absurd rfl h⟩
  · refine ⟨_, cap, hv, fun _ => ⟨g, 0, rfl, fun i hi => ?_⟩⟩
    subst hv
    obtain ⟨f0, f1⟩ := flatT_at L i hi
    have r0 := World.ownsRow.cellAt h (i * 2) (by omega)
    have r1 := World.ownsRow.cellAt h (i * 2 + 1) (by omega)
    rw [Nat.zero_add, r0, r1]
    exact ⟨f0, f1⟩
theorem T_info : (Try.prog.info? 64).map (fun i => (i.zero, i.size, i.bytes)) = some (some (.agg #[.int .i64 0, .int .i64 0]), 2, 16) := by kernel_rfl
theorem wpList_appT {X : World} {ops : Array Oper} {rest : List Oper} {o : Oper} {a : Act} {Q : Exit → Act → World → Prop} (hgd : o.guard = none) (s x : Operand)
    (ho : o.op = .call { callee := .builtin .append, args := #[s, x], argTypes := #[57, 57] })
    (base : Nat) (v : Value) (L : List (Int × Int)) (p1 p2 : Int) (hs : a.eval s = v) (hx : a.eval x = .slice (some ⟨X.heap.size, 0, none⟩) 1 1) (hown : TO X base v L) (hm : L.length ≤ 100000) (hbase : base ≤ X.heap.size)
    (h : ∀ v' w', TO w' base v' (L ++ [(p1, p2)]) → X.grownBy w' v.ownBlock → wpList Try.prog ops Q rest (a.put o.dst v') w') : wpList Try.prog ops Q (o :: rest) a (X.alloc (.cells #[.int .i64 p1, .int .i64 p2] 64)) := by
  obtain ⟨i0, hi, hz0, hz1, hz2⟩ := info_parts T_info
  refine wpList_append_own _ hgd s x 57 ho base 64 i0 _ 2 16 Try.underlying57 hi hz0 hz1 hz2 rfl (by decide) v L.length (flatT L) hs (hown.alloc _) ⟨X.heap.size, 0, none⟩ 1 1 [.int .i64 p1, .int .i64 p2] hx rfl ?_ ?_ ?_ ?_ (by rw [World.size_alloc]; omega) ?_
  · exact World.news_of_block (cs := #[.int .i64 p1, .int .i64 p2]) (t := 64) (fr := (0, 0)) (heap_alloc_new _ _)
  · simp [Value.oneCell']
  · simp only [maxLen]; omega
  · omega
  · intro v' w' ho' hg' _
    refine h v' w' ?_ (gb_trans (gb_alloc _ _ _) hg')
    unfold TO
    rw [List.length_append, flatT_snoc]
    exact ho'
theorem steady_none (n : Int) (hn : n < 1 ∨ 5 < n) (v : Value) (w : World) : Calls Try.prog 33 #[.int .i64 n, v] w fun e w' => e = .returned (.bool true) ∧ w' = w := by
  rcases (show n < 1 ∨ (¬ n < 1 ∧ 5 < n) from by omega) with h | ⟨h, h2⟩
  · go_enter Try.func33, Try.ntmps33
    go_wp2_with fail
    go_ret
    exact ⟨rfl, rfl⟩
  · go_enter Try.func33, Try.ntmps33
    go_wp2_with fail
    go_ret
    exact ⟨rfl, rfl⟩
end Go.Proofs.Ytkkhljneeajkmaa
