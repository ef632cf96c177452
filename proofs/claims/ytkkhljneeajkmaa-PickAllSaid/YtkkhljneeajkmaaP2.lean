/- Layer 43 (pick): rows of needs in memory; within, tick, Due, Score, wants; the law's cut, due, score. -/
import Derived.Test.YtkkhljneeajkmaaP1
import Derived.Test.YtkkhljneeajkmaaPi
namespace Go.Proofs.Ytkkhljneeajkmaa
open Go.RowKit

def Nd.cells (d : Nd) : Array Value := #[.int .i64 d.last, .int .i64 d.waste, .int .i64 d.waiting]
def flatN (L : List Nd) : List Value := L.flatMap fun x => [.int .i64 x.last, .int .i64 x.waste, .int .i64 x.waiting]
theorem flatN_len (L : List Nd) : (flatN L).length = L.length * 3 := by
  induction L with
  | nil => rfl
  | cons s L ih => simp only [flatN, List.flatMap_cons, List.length_append, List.length_cons] at *; rw [ih]; simp; omega
theorem flatN_at (L : List Nd) : ∀ (j : Nat) (h : j < L.length), (flatN L)[j * 3]? = some (.int .i64 L[j].last) ∧ (flatN L)[j * 3 + 1]? = some (.int .i64 L[j].waste) ∧ (flatN L)[j * 3 + 2]? = some (.int .i64 L[j].waiting) := by
  induction L with
  | nil => intro j h; simp at h
  | cons s L ih =>
    intro j h
    have e : flatN (s :: L) = .int .i64 s.last :: .int .i64 s.waste :: .int .i64 s.waiting :: flatN L := by simp [flatN]
    rw [e]
    cases j with
    | zero => exact ⟨rfl, rfl, rfl⟩
    | succ j =>
      have := ih j (by simpa using h)
      rw [show (j + 1) * 3 = j * 3 + 1 + 1 + 1 from by omega]
      simp only [List.getElem?_cons_succ, List.getElem_cons_succ]
      exact this
/-- A slice that reads as needs. -/
def NI (w : World) (v : Value) (L : List Nd) : Prop :=
  ∃ a cap, v = .slice a L.length cap ∧ L.length ≤ cap ∧ (a = none → cap = 0) ∧ (L ≠ [] → ∃ b off, a = some ⟨b, off, none⟩ ∧ ∀ i (h : i < L.length), w.cell? ⟨b, off + i * 3, none⟩ = some (.int .i64 L[i].last) ∧ w.cell? ⟨b, off + i * 3 + 1, none⟩ = some (.int .i64 L[i].waste) ∧ w.cell? ⟨b, off + i * 3 + 2, none⟩ = some (.int .i64 L[i].waiting))
theorem cell_nx {w w' : World} {p : Addr} {v : Value} (hb : Below w.heap.size w w') (h : w.cell? p = some v) : w'.cell? p = some v := by
  rw [hb.cell (World.block_lt_of_cell? _ _ h)]
  exact h
theorem NI.next {w w' : World} {v : Value} {L : List Nd} (h : NI w v L) (hb : Below w.heap.size w w') : NI w' v L := by
  obtain ⟨a, cap, hv, hcap, hn, hr⟩ := h
  refine ⟨a, cap, hv, hcap, hn, fun h0 => ?_⟩
  obtain ⟨b, off, ha, hc⟩ := hr h0
  refine ⟨b, off, ha, fun i hi => ?_⟩
  obtain ⟨x, y, z⟩ := hc i hi
  exact ⟨cell_nx hb x, cell_nx hb y, cell_nx hb z⟩
/-- Needs in a row of the call's own. -/
def NO (w : World) (B : Nat) (v : Value) (L : List Nd) : Prop := w.ownsRow B 45 3 v L.length (flatN L)
theorem NO.next {w w' : World} {B : Nat} {v : Value} {L : List Nd} (h : NO w B v L) (hb : Below w.heap.size w w') : NO w' B v L := own_next h hb
theorem NO.in_ {w : World} {B : Nat} {v : Value} {L : List Nd} (h : NO w B v L) : NI w v L := by
  rcases h.2 with ⟨hv, h0⟩ | ⟨g, cap, cur, hv, hB, hg, hc, hm, hs, ht⟩
  · have hl : L = [] := List.eq_nil_of_length_eq_zero h0
    subst hl
    exact ⟨none, 0, hv, Nat.le_refl _, fun _ => rfl, fun h => absurd rfl h⟩
  · refine ⟨_, cap, hv, by omega, fun h => (by cases h), fun _ => ⟨g, 0, rfl, fun i hi => ?_⟩⟩
    subst hv
    obtain ⟨f0, f1, f2⟩ := flatN_at L i hi
    have r0 := World.ownsRow.cellAt h (i * 3) (by omega)
    have r1 := World.ownsRow.cellAt h (i * 3 + 1) (by omega)
    have r2 := World.ownsRow.cellAt h (i * 3 + 2) (by omega)
    rw [Nat.zero_add, r0, r1, r2]
    exact ⟨f0, f1, f2⟩
theorem n_info : (Try.prog.info? 45).map (fun i => (i.zero, i.size, i.bytes)) = some (some (.agg #[.int .i64 0, .int .i64 0, .int .i64 0]), 3, 24) := by kernel_rfl
theorem within_any (a b c : Int) (w : World) :
    Calls Try.prog 65 #[.int .i64 a, .int .i64 b, .int .i64 c] w fun e w' => e = .returned (.int .i64 (bdI a b c)) ∧ w' = w := by
  unfold bdI
  go_enter Try.func65, Try.ntmps65
  go_wp2_with fail
  go_ret
  exact ⟨ret_int (by omega), rfl⟩
theorem tick_any (a : Int) (w : World) :
    Calls Try.prog 63 #[.int .i64 a] w fun e w' => e = .returned (.int .i64 (tkI a)) ∧ w' = w := by
  go_enter Try.func63, Try.ntmps63
  go_wp2_with fail
  refine (within_any _ _ _ _).mono ?_; rintro e w1 ⟨rfl, rfl⟩
  go_wp2_with fail
  go_ret
  exact ⟨ret_int (by unfold bdI tkI; omega), rfl⟩
theorem cut_any (a b c : Int) (w : World) :
    Calls Try.prog 21 #[.int .i64 a, .int .i64 b, .int .i64 c] w fun e w' => e = .returned (.int .i64 (bdI a b c)) ∧ w' = w := by
  unfold bdI
  go_enter Try.func21, Try.ntmps21
  go_wp2_with fail
  go_ret
  exact ⟨ret_int (by omega), rfl⟩
theorem tcut_any (a : Int) (w : World) :
    Calls Try.prog 21 #[.int .i64 a, .int .i64 0, .int .i64 1099511627776] w fun e w' => e = .returned (.int .i64 (tkI a)) ∧ w' = w := cut_any a 0 1099511627776 w
set_option maxHeartbeats 1000000 in
theorem due_any (d : Nd) (now : Int) (w : World) :
    Calls Try.prog 27 #[.agg d.cells, .int .i64 now] w fun e w' => e = .returned (.int .i64 (d.due now)) ∧ Below w.heap.size w w' := by
  have h1 := tk_bd now
  have h2 := tk_bd d.last
  have C1 := Lib.hid (fun W => tick_any now W)
  have C2 := Lib.hid (fun W => tick_any d.last W)
  obtain ⟨last, waste, waiting⟩ := d
  unfold Nd.cells Nd.due
  dsimp only at *
  generalize tkI now = n at *
  generalize tkI last = l at *
  obtain ⟨h11, h12⟩ := h1
  obtain ⟨h21, h22⟩ := h2
  have hw : IntKind.i64.wrap (n - l) = n - l := IntWalk.i64_in _ (by omega)
  go_enter Try.func27, Try.ntmps27
  go_wp2_with fail
  go_quiet ((first | (with_reducible exact Calls.quiet_of_same (C1.out _)) | (with_reducible exact Calls.quiet_of_same (C2.out _))))
  go_wp2_with fail
  go_ret
  exact ⟨ret_int (by omega), below_drewN ((Below.refl _ _).alloc (Nat.le_refl _) _) _⟩
set_option maxHeartbeats 1000000 in
theorem ldue_any (d : Nd) (now : Int) (w : World) :
    Calls Try.prog 28 #[.agg d.cells, .int .i64 now] w fun e w' => e = .returned (.int .i64 (d.due now)) ∧ Below w.heap.size w w' := by
  have h1 := tk_bd now
  have h2 := tk_bd d.last
  have C1 := Lib.hid (fun W => tcut_any now W)
  have C2 := Lib.hid (fun W => tcut_any d.last W)
  obtain ⟨last, waste, waiting⟩ := d
  unfold Nd.cells Nd.due
  dsimp only at *
  generalize tkI now = n at *
  generalize tkI last = l at *
  obtain ⟨h11, h12⟩ := h1
  obtain ⟨h21, h22⟩ := h2
  have hw : IntKind.i64.wrap (n - l) = n - l := IntWalk.i64_in _ (by omega)
  go_enter Try.func28, Try.ntmps28
  go_wp2_with fail
  go_quiet ((first | (with_reducible exact Calls.quiet_of_same (C1.out _)) | (with_reducible exact Calls.quiet_of_same (C2.out _))))
  go_wp2_with fail
  go_ret
  exact ⟨ret_int (by omega), below_drewN ((Below.refl _ _).alloc (Nat.le_refl _) _) _⟩
end Go.Proofs.Ytkkhljneeajkmaa
