/- Layer 44 (hist): the statement HistCounts' walk. -/
import Derived.Test.YtljhnkcoknikgaaV7
import Derived.Test.YtljhnkcoknikgaaV1
import Derived.Lib.QuietBelow
namespace Go.Proofs.Ytljhnkcoknikgaa
open Go.RowKit
attribute [local irreducible] wpQuiet

theorem wpQuiet_load_row {P : Program} {C : World → Prop} {ops : Array Oper} {rest : List Oper} {o : Oper} {a : Act} {Q : Act → Prop} (hw : Region.wanted o (yielded ops a.tmps) = true) (ty : TypeId) (x : Operand) (ho : o.op = .load ty x)
    (g : Nat) (hx : a.eval x = .pointer (some ⟨g, 0, none⟩)) (cs : Array Value) (hrun : ∀ w, C w → (loadVar ty ⟨g, 0, none⟩).run P w = .ok (.agg cs) w) (h : wpQuiet P ops C Q rest (a.put o.dst (.agg cs))) : wpQuiet P ops C Q (o :: rest) a := by
  refine wpQuiet_step fun K hK => ?_
  rw [if_pos hw]
  refine ⟨.agg cs, fun w hC => ?_, hK _ h⟩
  unfold Oper.quietAt execOp
  simp only [ho, hx, Instr.loadAt, Instr.sureAddr, Sem.run_bind, Sem.run_pure, Result.andThen_ok, hrun w hC]
  exact ⟨rfl, rfl⟩
set_option maxRecDepth 100000 in
set_option maxHeartbeats 8000000 in
theorem countslaw (va vb : Value) (A B : List Int) (hbA : ∀ n ∈ A, -9223372036854775808 ≤ n ∧ n < 9223372036854775808) (hbB : ∀ n ∈ B, -9223372036854775808 ≤ n ∧ n < 9223372036854775808) (w : World) (ha : IK w va A) (hb : IK w vb B) :
    Calls Try.prog 3 #[va, vb] w fun e w' => e = .returned (.bool true) ∧ Below w.heap.size w w' := by
  have HA := Lib.hid ha
  have HB := Lib.hid hb
  obtain ⟨aa, capa, rfl, _, hra⟩ := ha
  obtain ⟨ab, capb, rfl, _, hrb⟩ := hb
  have HRA := Lib.hid hra
  clear hra hrb
  have CB := Lib.hid (fun n hn W => lbucket_any n hn W)
  by_cases hA : 100 < A.length
  · go_enter Try.func3, Try.ntmps3
    go_wp2_with fail
    go_ret
    exact ⟨rfl, Below.refl _ _⟩
  by_cases hB : 100 < B.length
  · go_enter Try.func3, Try.ntmps3
    go_wp2_with fail
    go_ret
    exact ⟨rfl, Below.refl _ _⟩
  go_enter Try.func3, Try.ntmps3
  go_wp2_with fail
  go_loopw [6] (fun i wr => ∃ k : Nat, i = .int .i64 k ∧ k ≤ A.length ∧ Hid (WI w A k wr)) (fun i _ => A.length - (intOf i).toNat)
  case atStart =>
    exact ⟨0, rfl, by omega, Lib.hid ⟨Array.replicate 24 (.int .i64 0), Bx.fresh _ _ _, HC.zero, (Below.refl _ _).alloc (Nat.le_refl _) _⟩⟩
  case round =>
    obtain ⟨k, rfl, hk, HO⟩ := hrel
    by_cases hlt : k < A.length
    · obtain ⟨b, off, rfl, hc⟩ := HRA.out (by rintro rfl; simp at hlt)
      have hx0 := HO.out.choose_spec.2.2
      have hck := hc k hlt
      have hcell : wr.cell? ⟨b, off + k, none⟩ = some (.int .i64 A[k]) := by rw [hx0.cell (p := ⟨b, off + k, none⟩) (World.block_lt_of_cell? _ _ hck)]; exact hck
      obtain ⟨d1, d2, d3⟩ := HO.out.step hlt (by omega)
      have hbd := hbA A[k] (List.getElem_mem hlt)
      have hcb := cntF_bd (A.take k) (bk A[k])
      have hbl := bk_le A[k]
      have hle : (A.take k).length ≤ A.length := by simp; omega
      have CB1 := Lib.hid (fun W => CB.out A[k] hbd W)
      have D3 := Lib.hid d3
      clear d3 hbd hx0 hck hc
      generalize A[k] = n at *
      generalize cntF (A.take k) (bk n) = c at *
      generalize bk n = bb at *
      generalize (A.take k).length = lt at *
      go_wp2_with (go_at_call 11; refine (CB1.out _).mono ?_; rintro e w' ⟨rfl, rfl⟩)
      go_roundw
      case rel => exact ⟨k + 1, by go_num, by omega, D3⟩
      case measure => simp [intOf]; omega
    · have e : k = A.length := by omega
      subst e
      obtain ⟨cs, h1, h2, h5⟩ := HO.out
      rw [List.take_length] at h2
      have hcs := h2.c24
      subst hcs
      have H1 := Lib.hid (And.intro h1 (And.intro h5 (And.intro (HA.out.next (h5.mono (Nat.le_refl _))) (HB.out.next (h5.mono (Nat.le_refl _))))))
      clear h1 h2 h5 HO hk CB HRA
      have hbase : w.heap.size ≤ wr.heap.size := H1.out.2.1.size
      have hm1 : ([] : List Int).length + A.length ≤ 100000 := by simp; omega
      go_wp2_with (at_builtin; refine wpList_app_i rfl (.tmp 31) (.tmp 32) rfl wr.heap.size _ _ [] A rfl rfl (io_made wr) (H1.out.2.2.1.next ((Below.refl _ _).alloc (Nat.le_refl _) _)) hm1 (by rw [World.size_alloc]; omega) ?_)
      intro v1 w1 hown1 hgr1
      have hb1 : Below wr.heap.size wr w1 := ((Below.refl _ wr).alloc (Nat.le_refl _) _).grown hgr1 (by simp) (fun k hk => by cases hk; exact Nat.le_refl _)
      have hge1 : wr.heap.size ≤ w1.heap.size := hb1.size
      have H2 := Lib.hid (And.intro hown1 (And.intro hb1 (H1.out.2.2.2.next hb1)))
      have hfm := hown1.ik.in_
      obtain ⟨a1, c1, hv1, _⟩ := hfm
      clear hown1 hgr1 hb1
      have hm2 : A.length + B.length ≤ 100000 := by omega
      go_wp2_with (at_builtin; refine wpList_app_i rfl (.tmp 33) (.tmp 34) rfl wr.heap.size _ _ A B rfl rfl H2.out.1 H2.out.2.2 hm2 hge1 ?_)
      intro v2 w2 hown2 hgr2
      have hb2 : Below w1.heap.size w1 w2 ∨ True := .inr trivial
      have hB2 : Below wr.heap.size wr w2 := H2.out.2.1.grown hgr2 hge1 (fun k hk => by
        obtain ⟨_, hO⟩ := H2.out.1
        rcases hO with ⟨hv, _⟩ | ⟨g, cap, cur, hv, hBg, _⟩
        · rw [← hv1, hv] at hk; cases hk
        · rw [← hv1, hv] at hk; cases hk; exact hBg)
      have hik := hown2.ik.in_
      have hlen : (A ++ B).length ≤ 200 := by simp; omega
      have hbAB : ∀ n ∈ A ++ B, -9223372036854775808 ≤ n ∧ n < 9223372036854775808 := fun n hn => by
        rcases List.mem_append.1 hn with h | h
        · exact hbA n h
        · exact hbB n h
      obtain ⟨a2, c2, hv2⟩ : ∃ a c, v2 = .slice a (A ++ B).length c := by obtain ⟨a, c, h, _⟩ := hik; exact ⟨a, c, h⟩
      clear hik
      have K0 := Lib.hid (And.intro hown2.ik.in_ (And.intro (H1.out.2.2.1.next hB2).in_ (And.intro (H1.out.2.2.2.next hB2).in_ (And.intro (H1.out.1.next hB2) (H1.out.2.1.trans (hB2.mono hbase))))))
      subst hv2
      clear hown2 hgr2 hb2 hB2 H1 H2 hv1
      have E0 := Lib.hid (show (A ++ B).length = A.length + B.length from List.length_append)
      have hn1 : A.length ≤ 140737488355328 := by omega
      have hn2 : B.length ≤ 140737488355328 := by omega
      have hn3 : (A ++ B).length ≤ 140737488355328 := by omega
      have d1 : ∀ q os, Calls Try.prog 12 #[.slice aa A.length capa] (Go.Sort.grow (Go.redrawn w2 q) os) fun e w'' => e = .returned (.agg (c24 (cntF A))) ∧ ∃ p : Go.Regrown, w'' = Go.Sort.grow (Go.redrawn w2 p.d) p.os := fun q os => Calls.regrown_of (of_in _ A hn1 hbA _ (K0.out.2.1.next (Go.below_regrown w2 q os)))
      have d2 : ∀ q os, Calls Try.prog 12 #[.slice ab B.length capb] (Go.Sort.grow (Go.redrawn w2 q) os) fun e w'' => e = .returned (.agg (c24 (cntF B))) ∧ ∃ p : Go.Regrown, w'' = Go.Sort.grow (Go.redrawn w2 p.d) p.os := fun q os => Calls.regrown_of (of_in _ B hn2 hbB _ (K0.out.2.2.1.next (Go.below_regrown w2 q os)))
      have d3 : ∀ q os, Calls Try.prog 12 #[.slice a2 (A ++ B).length c2] (Go.Sort.grow (Go.redrawn w2 q) os) fun e w'' => e = .returned (.agg (c24 (cntF (A ++ B)))) ∧ ∃ p : Go.Regrown, w'' = Go.Sort.grow (Go.redrawn w2 p.d) p.os := fun q os => Calls.regrown_of (of_in _ (A ++ B) hn3 hbAB _ (K0.out.1.next (Go.below_regrown w2 q os)))
      have d4 : ∀ q os, Calls Try.prog 13 #[.agg (c24 (cntF A)), .agg (c24 (cntF B))] (Go.Sort.grow (Go.redrawn w2 q) os) fun e w'' => e = .returned (.agg (c24 (cntF (A ++ B)))) ∧ ∃ p : Go.Regrown, w'' = Go.Sort.grow (Go.redrawn w2 p.d) p.os := fun q os => Calls.regrown_of (join_is A B (by omega) _)
      have d5 : ∀ q os, Calls Try.prog 14 #[.agg (c24 (cntF (A ++ B)))] (Go.Sort.grow (Go.redrawn w2 q) os) fun e w'' => e = .returned (.int .i64 (A ++ B).length) ∧ ∃ p : Go.Regrown, w'' = Go.Sort.grow (Go.redrawn w2 p.d) p.os := fun q os => Calls.regrown_of (len_is (A ++ B) (by omega) _)
      have d6 : ∀ q os, Calls Try.prog 15 #[] (Go.Sort.grow (Go.redrawn w2 q) os) fun e w'' => e = .returned (.bool true) ∧ ∃ p : Go.Regrown, w'' = Go.Sort.grow (Go.redrawn w2 p.d) p.os := fun q os => Calls.regrown_of (alive44_any _)
      have D1 := Lib.hid d1
      have D2 := Lib.hid d2
      have D3 := Lib.hid d3
      have D4 := Lib.hid d4
      have D5 := Lib.hid d5
      have D6 := Lib.hid d6
      have Q1 : ∀ W, (binOp .eql 24 (.agg (c24 (cntF A))) (.agg (c24 (cntF A)))).run Try.prog W = .ok (.bool true) W := run_eqlHist A hn1
      have Q2 : ∀ W, (binOp .eql 24 (.agg (c24 (cntF (A ++ B)))) (.agg (c24 (cntF (A ++ B))))).run Try.prog W = .ok (.bool true) W := run_eqlHist (A ++ B) hn3
      have LD : ∀ W, (∃ p : Go.Regrown, W = Go.Sort.grow (Go.redrawn w2 p.d) p.os) → (loadVar 24 ⟨w.heap.size, 0, none⟩).run Try.prog W = .ok (.agg (c24 (cntF A))) W := by
        rintro W ⟨⟨q, os⟩, rfl⟩
        exact load_hist _ w.heap.size _ (K0.out.2.2.2.1.next (Go.below_regrown w2 q os)) (by simp [c24])
      have LD' := Lib.hid LD
      clear d1 d2 d3 d4 d5 d6 LD hbA hbB hbAB
      generalize c24 (cntF A) = cA at *
      generalize c24 (cntF B) = cB at *
      generalize c24 (cntF (A ++ B)) = cC at *
      generalize (A ++ B).length = nab at *
      go_wp2_with fail
      refine Go.wp_region_quiet_below (by kernel_rfl) (by kernel_rfl) ?_
      repeat (first
        | (refine wpQuiet_load_row (by rfl) 24 _ rfl w.heap.size rfl cA LD'.out ?_)
        | quiet_step (first | with_reducible exact D1.out _ _ | with_reducible exact D2.out _ _ | with_reducible exact D3.out _ _ | with_reducible exact D4.out _ _ | with_reducible exact D5.out _ _ | with_reducible exact D6.out _ _))
      refine wpQuiet_nil ?_
      intro _ hw'
      obtain ⟨⟨dq, osq⟩, hw''⟩ := hw'
      subst hw''
      have HB9 := Lib.hid (bnext K0.out.2.2.2.2 (Go.below_regrown w2 dq osq))
      generalize Go.Sort.grow (Go.redrawn w2 dq) osq = W9 at *
      go_wp2_with fail
      go_ret
      exact ⟨rfl, HB9.out⟩
end Go.Proofs.Ytljhnkcoknikgaa
