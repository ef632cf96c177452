/- Layer 44 (hist): the law's alive; the statement HistBuckets' walk. -/
import Derived.Test.YtljhnkcoknikgaaW9
import Derived.Test.YtljhnkcoknikgaaW4
namespace Go.Proofs.Ytljhnkcoknikgaa
open Go.RowKit

theorem wpList_load_rowG {P : Program} {w : World} {ops : Array Oper} {rest : List Oper} {o : Oper} {a : Act} {Q : Exit → Act → World → Prop} (hw : Region.wanted o (yielded ops a.tmps) = true) (ty : TypeId) (x : Operand) (ho : o.op = .load ty x)
    (g : Nat) (hx : a.eval x = .pointer (some ⟨g, 0, none⟩)) (cs : Array Value) (hrun : (loadVar ty ⟨g, 0, none⟩).run P w = .ok (.agg cs) w) (h : wpList P ops Q rest (a.put o.dst (.agg cs)) w) : wpList P ops Q (o :: rest) a w := by
  refine wpList_step fun K hK => ?_
  rw [if_pos hw]
  unfold Oper.wp execOp
  simp only [ho, hx, Instr.loadAt, Instr.sureAddr, Sem.run_bind, Sem.run_pure, Result.andThen_ok, hrun]
  exact hK _ _ h
set_option maxRecDepth 100000 in
set_option maxHeartbeats 4000000 in
theorem alive44_any (w : World) : Calls Try.prog 15 #[] w fun e w' => e = .returned (.bool true) ∧ Below w.heap.size w w' := by
  have CO := Lib.hid (of_any [0, 1, 5, 7] w.heap.size 4 (by decide) (by decide) (w.alloc (.cells #[.int .i64 0, .int .i64 1, .int .i64 5, .int .i64 7] 3)) (by simp) (by
    have hb := Bx.fresh w 3 #[.int .i64 0, .int .i64 1, .int .i64 5, .int .i64 7]
    intro k hk
    have hk4 : k = 0 ∨ k = 1 ∨ k = 2 ∨ k = 3 := by simp at hk; omega
    rcases hk4 with rfl | rfl | rfl | rfl <;> exact hb.read rfl))
  go_enter Try.func15, Try.ntmps15
  go_wp2_with fail
  refine (show Calls _ _ _ _ _ from CO.out).mono ?_
  rintro e w2 ⟨cs, rfl, hC, hb2⟩
  have CL := Lib.hid (fun W => line_ex cs hC W)
  have CS := Lib.hid (fun W => share_ex cs hC W)
  have CN := Lib.hid (fun W => len_any cs (cntF exL) hC W)
  rw [ex_len] at CN
  have hone := hC.one
  have hi : (Try.prog.info? 24).map (·.size) = some cs.size := by rw [hC.size]; exact hist_info
  have hz := Bx.fresh w2 24 (Array.replicate 24 (.int .i64 0))
  have h6 : Bx ((w2.alloc (.cells (Array.replicate 24 (.int .i64 0)) 24)).setRow w2.heap.size cs) w2.heap.size 24 cs := by
    exact setRow_heap _ _ _ cs _ _ hz
  have hb3 : Below w.heap.size w ((w2.alloc (.cells (Array.replicate 24 (.int .i64 0)) 24)).setRow w2.heap.size cs) := by
    have e1 := bnext ((Below.refl w.heap.size w).alloc (Nat.le_refl _) (.cells #[.int .i64 0, .int .i64 1, .int .i64 5, .int .i64 7] 3)) hb2
    exact below_setRow (e1.alloc e1.size _) e1.size _
  have hsz : cs.size = 24 := hC.size
  clear hb2
  have hld := load_hist _ w2.heap.size cs h6 hsz
  go_wp2_with (first
    | (refine wpList_store_row rfl 24 _ _ rfl w2.heap.size cs rfl rfl 24 (Array.replicate 24 (.int .i64 0)) hz hi (by rw [hsz]; rfl) hone ?_)
    | (refine wpList_load_rowG (by rfl) 24 _ rfl w2.heap.size rfl cs hld ?_))
  refine (CL.out _).mono ?_
  rintro e w4 ⟨rfl, hb4⟩
  have h7 := h6.next hb4
  have e4 := bnext hb3 hb4
  have hld4 := load_hist _ w2.heap.size cs h7 hsz
  clear hb4 hld h6 hb3 hz
  go_wp2_with (refine wpList_load_rowG (by rfl) 24 _ rfl w2.heap.size rfl cs hld4 ?_)
  refine (CS.out _).mono ?_
  rintro e w5 ⟨rfl, hb5⟩
  have h8 := h7.next hb5
  have e5 := bnext e4 hb5
  have hld5 := load_hist _ w2.heap.size cs h8 hsz
  clear hb5 hld4 h7 e4
  go_wp2_with (refine wpList_load_rowG (by rfl) 24 _ rfl w2.heap.size rfl cs hld5 ?_)
  refine (CN.out _).mono ?_
  rintro e w6 ⟨rfl, hb6⟩
  have e6 := bnext e5 hb6
  clear hb6
  go_wp2_with fail
  go_ret
  exact ⟨rfl, e6⟩
theorem wf_bd {n : Int} (h : (Lit.int .i64 n).wf = true) : -9223372036854775808 ≤ n ∧ n < 9223372036854775808 := by
  have h2 : (decide (IntKind.i64.min ≤ n) && decide (n ≤ IntKind.i64.max)) = true := h
  rw [Bool.and_eq_true, decide_eq_true_eq, decide_eq_true_eq, show IntKind.i64.max = 9223372036854775807 from by decide, show IntKind.i64.min = -9223372036854775808 from by decide] at h2
  omega
theorem histbucketslaw (n i : Int) (hn : (Lit.int .i64 n).wf = true) (hi : (Lit.int .i64 i).wf = true) (w : World) :
    Calls Try.prog 4 #[.int .i64 n, .int .i64 i] w fun e w' => e = .returned (.bool true) ∧ Below w.heap.size w w' := histlaw alive44_any n i (wf_bd hn) (wf_bd hi) w
end Go.Proofs.Ytljhnkcoknikgaa
