/- Layer 44 (hist): the iterator that Some hands out: its contract, at the wide fence. -/
import Derived.Test.YtljhnkcoknikgaaW2
import Derived.Test.YtljhnkcoknikgaaWc
import Derived.RangeFuncNested
import Derived.ChangeKeysEq
import Derived.RangeFuncBound
import Derived.RangeFuncCalls
import Derived.RangeFuncLeaves
import Derived.Shelf.Abstract
import Derived.Shelf.RegionOpen
import Derived.OwnWalkIn
import Derived.TacticsInMore
import Derived.LoopNIn
import Derived.LoopIn
namespace Go.Proofs.Ytljhnkcoknikgaa
open Go.RowKit
attribute [local go_sem] Oper.semAt_some

/-- The buckets that have some, from one on. -/
def prs (f : Nat → Int) : Nat → Nat → List (Int × Int)
  | _, 0 => []
  | k, n + 1 => if 0 < f k then ((k : Int), f k) :: prs f (k + 1) n else prs f (k + 1) n
/-- A bucket that is gone through, and how many. -/
abbrev Pr := { x : Int × Int // (0 ≤ x.1 ∧ x.1 < 24) ∧ 0 < x.2 ∧ x.2 < 9223372036854775808 }
def encPr (x : Pr) : Array Value := #[.int .i64 x.1.1, .int .i64 x.1.2]
/-- What counts hold. -/
structure HC (cs : Array Value) (f : Nat → Int) : Prop where
  size : cs.size = 24
  at_ : ∀ k, k < 24 → cs[k]? = some (.int .i64 (f k))
  bd : ∀ k, k < 24 → -9223372036854775808 ≤ f k ∧ f k < 9223372036854775808
theorem idx_run (cs : Array Value) (k : Nat) (z : Int) (hk : k < 24) (h : cs[k]? = some (.int .i64 z)) (W : World) : (Instr.index 24 (.agg cs) (.int .i64 (k : Int))).run Try.prog W = .ok (.int .i64 z) W := by
  have h1 : (0 : Int) ≤ (k : Int) ∧ (k : Int) < 24 := by omega
  have hu := run_underlying Try.underlying24 W
  have hz : (sizeOf 3).run Try.prog W = .ok 1 W := by kernel_rfl
  have hp : (part 3 cs k).run Try.prog W = .ok (.int .i64 z) W := run_part_plain W (by kernel_rfl) h
  simp only [Instr.index, Sem.run_bind, asIntOf, Sem.run_pure, Result.andThen_ok, hu]
  simp [h1, Sem.run_bind, hz, hp]
theorem hist_info : (Try.prog.info? 24).map (·.size) = some 24 := by kernel_rfl
theorem load_hist (W : World) (g : Nat) (cs : Array Value) (h : Bx W g 24 cs) (hs : cs.size = 24) : (loadVar 24 ⟨g, 0, none⟩).run Try.prog W = .ok (.agg cs) W :=
  run_loadVar_row W g 24 24 cs (0, 0) _ h Try.underlying24 rfl (by rw [hs]; exact hist_info)
theorem wpListIn_load_row {F : Fence} {n : Nat} {P : Program} {w : World} {ops : Array Oper} {rest : List Oper} {o : Oper} {a : Act} {Q : Exit → Act → World → Prop} (hgd : o.guard = none) (ty : TypeId) (x : Operand) (ho : o.op = .load ty x)
    (g : Nat) (hx : a.eval x = .pointer (some ⟨g, 0, none⟩)) (cs : Array Value) (hrun : (loadVar ty ⟨g, 0, none⟩).run P w = .ok (.agg cs) w) (h : wpListIn F n P ops Q rest (a.put o.dst (.agg cs)) w) : wpListIn F n P ops Q (o :: rest) a w := by
  refine wpListIn_plain hgd fun K hK => ?_
  unfold Oper.wpIn
  refine ⟨by simp [Oper.about, ho], ?_⟩
  rw [Oper.semAt_plain F _ _ (by rw [ho]; intro c hc'; cases hc')]
  simp [execOp, ho, hx, Instr.loadAt, Instr.sureAddr, Sem.run_bind, hrun, Result.andThen]
  exact hK _ _ h
def allP (f : Nat → Int) (xs : List Pr) : Prop := xs.map (·.1) = prs f 0 24
def preP (f : Nat → Int) (xs : List Pr) : Prop := ∃ ys, xs.map (·.1) ++ ys = prs f 0 24
set_option maxRecDepth 100000 in
set_option maxHeartbeats 4000000 in
theorem some_in (n : Nat) (hn : 1 ≤ n) (cs : Array Value) (f : Nat → Int) (hC : HC cs f) (l B m : Nat) (hm : 24 ≤ m) (J Jx : List Pr → World → Prop) (W : World)
    (hJ : AbidesFrom W.heap.size J)
    (hY : ∀ pre (x : Pr) W1, J pre W1 → pre.length < m → YieldAt Fence.wide (n - 1) Try.prog l (encPr x) W1 fun e W' =>
      (e = .returned (.bool true) ∧ J (pre ++ [x]) W' ∧ True) ∨ (e = .returned (.bool false) ∧ Jx (pre ++ [x]) W'))
    (hB0 : Bx W B 24 cs) (h0 : J [] W) :
    CallsIn Fence.wide n Try.prog 101 #[.func (.yield l) #[] #[], .pointer (some ⟨B, 0, none⟩)] W fun e W' => (∃ v, e = .returned v) ∧
      ((∃ ys : List Pr, allP f ys ∧ J ys W') ∨ (∃ pre : List Pr, preP f pre ∧ Jx pre W')) := by
  have HCC := Lib.hid hC
  clear hC
  refine callsIn_of_wp Try.func101 rfl trivial ?_ rfl
  simp only [Try.ntmps101, List.size_toArray, List.length_cons, List.length_nil, Nat.reduceAdd, Nat.reduceSub, Array.replicate_succ, Array.replicate_zero, List.push_toArray, List.append_toArray, List.nil_append, List.cons_append]
  have hld := load_hist W B cs hB0 HCC.out.size
  gi_wp2_with (refine wpListIn_load_row rfl 24 _ rfl B rfl cs hld ?_)
  clear hld
  gi_loopw [6] (fun i wr => ∃ (T : List Pr) (k : Nat), i = .int .i64 k ∧ k ≤ 24 ∧ T.length ≤ k ∧ J T wr ∧ Hid (T.map (·.1) ++ prs f k (24 - k) = prs f 0 24)) (fun i _ => 24 - (intOf i).toNat)
  case atStart => exact ⟨[], 0, rfl, by omega, by simp, h0, Lib.hid rfl⟩
  case round =>
    obtain ⟨T, k, rfl, hk, hT, hJT, HT⟩ := hrel
    clear h0
    by_cases hlt : k < 24
    · have hi := HCC.out.at_ k hlt
      have hb := HCC.out.bd k hlt
      generalize hfk : f k = z at hi hb
      have HF := Lib.hid hfk
      have hix := idx_run cs k z hlt hi
      clear hi hfk
      obtain ⟨hb0, hb1⟩ := hb
      by_cases hz : 0 < z
      · have hpx : (0 ≤ (k : Int) ∧ (k : Int) < 24) ∧ 0 < z ∧ z < 9223372036854775808 := by omega
        have hyy := hY T ⟨((k : Int), z), hpx⟩ wr hJT (by omega)
        unfold encPr at hyy
        dsimp only at hyy
        obtain ⟨fn, tmps, assign, body, hy, hR⟩ := hyy
        have HT' : Hid ((T ++ [(⟨((k : Int), z), hpx⟩ : Pr)]).map (·.1) ++ prs f (k + 1) (24 - (k + 1)) = prs f 0 24) := Lib.hid (by
          rw [← HT.out, show 24 - k = (24 - (k + 1)) + 1 by omega]
          simp [prs, HF.out, hz])
        have HL : Hid ((T ++ [(⟨((k : Int), z), hpx⟩ : Pr)]).length = T.length + 1) := Lib.hid (by simp)
        generalize T ++ [(⟨((k : Int), z), hpx⟩ : Pr)] = T' at *
        clear hY hJT
        gi_wp2
        refine hR.mono ?_
        rintro e W3 (⟨rfl, hJ3, _⟩ | ⟨rfl, hJx3⟩)
        · have HJ3 := Lib.hid hJ3
          clear hJ3 hR
          gi_wp2
          go_roundw
          case rel => exact ⟨T', k + 1, by go_num, by omega, by rw [HL.out]; omega, HJ3.out, HT'⟩
          case measure => simp [intOf]; omega
        · gi_wp2
          refine bodyPost_ret (results_none rfl _ _ _) rfl ?_
          exact ⟨⟨_, rfl⟩, .inr ⟨_, ⟨_, HT'.out⟩, hJx3⟩⟩
      · have HT' : Hid (T.map (·.1) ++ prs f (k + 1) (24 - (k + 1)) = prs f 0 24) := Lib.hid (by
          rw [← HT.out, show 24 - k = (24 - (k + 1)) + 1 by omega]
          simp [prs, HF.out, hz])
        clear hY
        gi_wp2
        refine ⟨fun f hf => (by cases hf), ?_⟩
        gi_wp2
        go_roundw
        case rel => exact ⟨T, k + 1, by go_num, by omega, by omega, hJT, HT'⟩
        case measure => simp [intOf]; omega
    · have e : k = 24 := by omega
      subst e
      gi_wp2
      go_end0
      refine ⟨⟨_, rfl⟩, .inl ⟨T, ?_, hJT⟩⟩
      have h := HT.out
      simpa [prs, allP] using h
/-- **What Some hands out goes through the buckets that have some.** -/
theorem some_stops (n : Nat) (hn : 1 ≤ n) (cs : Array Value) (f : Nat → Int) (hC : HC cs f) (B m : Nat) (hm : 24 ≤ m) (w : World) (hB0 : Bx w B 24 cs) :
    SeqStopsK Fence.wide n Try.prog 101 #[.pointer (some ⟨B, 0, none⟩)] encPr (fun _ _ => True) (allP f) (preP f) m w :=
  fun l J Jx W hW hJ _ hY h0 => some_in n hn cs f hC l B m hm J Jx W hJ hY (hB0.next hW) h0
theorem some_any (cs : Array Value) (hs : cs.size = 24) (w : World) :
    Calls Try.prog 59 #[.agg cs] w fun e w' => e = .returned (.func (.func 101) #[] #[.pointer (some ⟨w.heap.size, 0, none⟩)]) ∧ w' = w.alloc (.cells cs 24) := by
  go_enter Try.func59, Try.ntmps59
  go_wp2_with fail
  go_ret
  exact ⟨rfl, rfl⟩
end Go.Proofs.Ytljhnkcoknikgaa
