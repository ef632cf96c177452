/- Layer 13 (mem): From, of the example's tree. -/
import Derived.Test.YtljhnkcoknikgaaXq
import Derived.StillTailTactics
namespace Go.Proofs.Ytljhnkcoknikgaa
open Go.RowKit
attribute [local go_sem] Oper.semAt_some

set_option maxRecDepth 100000 in
set_option maxHeartbeats 2000000 in
theorem from1_in (n l n0 gt g gA bt bk : Nat) (hg : g < n0) (hgA : gA < n0) (J Jx : List Bool → World → Prop) (W : World) (hn0 : n0 ≤ W.heap.size) (hA : AbidesFrom W.heap.size J)
    (ht : Bx W gt 98 #[.pointer (some ⟨g, 0, none⟩), .int .i64 2]) (hbt : W.cell? ⟨bt, 0, none⟩ = some (.pointer (some ⟨gt, 0, none⟩))) (hbk : W.cell? ⟨bk, 0, none⟩ = some (.string ⟨#[]⟩))
    (h : Bx W g 166 #[.int .i64 1, .int .i64 1, .string ⟨#[98]⟩, .string ⟨#[]⟩, .string ⟨#[]⟩, .int .i64 0, .int .i64 1, .int .i64 0, .int .i64 0, .slice none 0 0, .pointer (some ⟨gA, 0, none⟩), .pointer none, .int .i64 2]) (hAa : Bx W gA 166 #[.int .i64 1, .int .i64 1, .string ⟨#[97]⟩, .string ⟨#[]⟩, .string ⟨#[]⟩, .int .i64 0, .int .i64 2, .int .i64 0, .int .i64 0, .slice none 0 0, .pointer none, .pointer none, .int .i64 1]) (h0 : J [] W)
    (hY : ∀ m pre (x : Bool) W1, J pre W1 → pre.length < 2 → YieldAt Fence.wide m Try.prog l (encAB x) W1 fun e W' => (e = .returned (.bool true) ∧ J (pre ++ [x]) W' ∧ Below n0 W1 W') ∨ (e = .returned (.bool false) ∧ Jx (pre ++ [x]) W')) :
    CallsIn Fence.wide n Try.prog 153 #[.func (.yield l) #[] #[], .pointer (some ⟨bt, 0, none⟩), .pointer (some ⟨bk, 0, none⟩)] W fun e W' => (∃ v, e = .returned v) ∧
      ((∃ ys, ys = [false, true] ∧ J ys W') ∨ (∃ q, q <+: [false, true] ∧ Jx q W')) := by
  have hbd : Below W.heap.size W W.drew := (Below.refl _ _).drew
  have hsd : W.drew.heap.size = W.heap.size := by rw [World.drew]
  have HE := Lib.hid (callsIn_wide.1 (each_B 5 l n0 g gA hg hgA J Jx W.drew (by rw [hsd]; exact hn0) (by rw [hsd]; exact hA) (h.next hbd) (hAa.next hbd) (hA [] W W.drew none h0 (gb_below hbd none) (by intro r hr; cases hr)) hY))
  have c0 := ht.read (i := 0) rfl
  clear hY hA h hAa hbd hsd
  refine callsIn_wide.2 ?_
  go_enter Try.func153, Try.ntmps153
  go_wp2_with fail
  refine region_tail 6 (by kernel_rfl) (by kernel_rfl) ?_
  simp only [List.take_succ_cons, List.take_zero, List.drop_succ_cons, List.drop_zero]
  repeat still_step
  refine wpStill_nil ?_
  go_wp2_with (go_at_call 154; refine HE.out.mono ?_; clear HE; rintro e W1 (⟨rfl, hJ1, hb1⟩ | ⟨rfl, q, hq, hx1⟩))
  · go_end0
    exact ⟨⟨_, rfl⟩, .inl ⟨_, rfl, hJ1⟩⟩
  · go_end0
    exact ⟨⟨_, rfl⟩, .inr ⟨q, hq, hx1⟩⟩
theorem from_any (gt : Nat) (w : World) : Calls Try.prog 120 #[.pointer (some ⟨gt, 0, none⟩), .string ⟨#[]⟩] w fun e w' =>
    e = .returned (.func (.func 153) #[] #[.pointer (some ⟨w.heap.size, 0, none⟩), .pointer (some ⟨w.heap.size + 1, 0, none⟩)]) ∧ Bx w' w.heap.size 95 #[.pointer (some ⟨gt, 0, none⟩)] ∧ Bx w' (w.heap.size + 1) 9 #[.string ⟨#[]⟩] ∧ Below w.heap.size w w' ∧ w.heap.size + 2 ≤ w'.heap.size := by
  go_enter Try.func120, Try.ntmps120
  go_wp2_with fail
  go_ret
  exact ⟨rfl, (Bx.fresh _ _ _).past _, Bx.fresh' _ (by simp) _ _, ((Below.refl _ _).alloc (Nat.le_refl _) _).alloc (by simp) _, by simp⟩
theorem from_stops (n gt g gA bt : Nat) (n0 : Nat) (w : World) (hg : g < n0) (hgA : gA < n0) (hn0 : n0 ≤ w.heap.size)
    (ht : Bx w gt 98 #[.pointer (some ⟨g, 0, none⟩), .int .i64 2]) (hbt : Bx w bt 95 #[.pointer (some ⟨gt, 0, none⟩)]) (hbk : Bx w (bt + 1) 9 #[.string ⟨#[]⟩])
    (h : Bx w g 166 #[.int .i64 1, .int .i64 1, .string ⟨#[98]⟩, .string ⟨#[]⟩, .string ⟨#[]⟩, .int .i64 0, .int .i64 1, .int .i64 0, .int .i64 0, .slice none 0 0, .pointer (some ⟨gA, 0, none⟩), .pointer none, .int .i64 2]) (hAa : Bx w gA 166 #[.int .i64 1, .int .i64 1, .string ⟨#[97]⟩, .string ⟨#[]⟩, .string ⟨#[]⟩, .int .i64 0, .int .i64 2, .int .i64 0, .int .i64 0, .slice none 0 0, .pointer none, .pointer none, .int .i64 1]) :
    SeqStopsK Fence.wide n Try.prog 153 #[.pointer (some ⟨bt, 0, none⟩), .pointer (some ⟨bt + 1, 0, none⟩)] encAB (Below n0) (fun ys => ys = [false, true]) (fun pre => pre <+: [false, true]) 2 w :=
  fun l J Jx W hW hJ _ hY h0 => from1_in n l n0 gt g gA bt (bt + 1) hg hgA J Jx W (Nat.le_trans hn0 hW.size) hJ (ht.next hW) ((hbt.next hW).read (i := 0) rfl) ((hbk.next hW).read (i := 0) rfl) (h.next hW) (hAa.next hW) h0
    (fun m pre x W1 hj hl => yieldAt_any m (hY pre x W1 hj hl))
end Go.Proofs.Ytljhnkcoknikgaa
