/- Layer 39 (fold): the sort of three; Compact, Equal, Same at what the example asks. -/
import Derived.Test.YtdckdhbnfakleaaDoorFg
namespace Go.Proofs.YtdckdhbnfakleaaDoor
open Go.RowKit

theorem ex_10 : natS ⟨#[78, 57]⟩ ⟨#[110, 49, 48]⟩ = -1 := by decide +kernel
theorem ex_20 : natS ⟨#[110, 49]⟩ ⟨#[110, 49, 48]⟩ = -1 := by decide +kernel
theorem ex_21 : natS ⟨#[110, 49]⟩ ⟨#[78, 57]⟩ = -1 := by decide +kernel
theorem ex_same : foldB ⟨#[65, 98]⟩ = foldB ⟨#[97, 66]⟩ := by decide +kernel
section
variable {p0 p1 p2 : ByteArray} {q0 q1 q2 : Option Addr} {n0 n1 n2 c0 c1 c2 : Nat}
set_option maxRecDepth 100000 in
set_option maxHeartbeats 4000000 in
theorem pdq_rev (lim : Int) (g cap : Nat) (w : World) (h : Rw w w g cap [.string p0, .slice q0 n0 c0, .string p1, .slice q1 n1 c1, .string p2, .slice q2 n2 c2]) (h10 : Ahd w g cap (.agg #[.string p1, .slice q1 n1 c1]) (.agg #[.string p0, .slice q0 n0 c0])) (h20 : Ahd w g cap (.agg #[.string p2, .slice q2 n2 c2]) (.agg #[.string p0, .slice q0 n0 c0])) (h21 : Ahd w g cap (.agg #[.string p2, .slice q2 n2 c2]) (.agg #[.string p1, .slice q1 n1 c1])) :
    Calls Tryd.prog 34 #[.slice (some ⟨g, 0, none⟩) 3 cap, .int .i64 0, .int .i64 3, .int .i64 lim, .func (.func 21) #[] #[]] w fun e w' => e = .returned (.tuple #[]) ∧ Rw w w' g cap [.string p2, .slice q2 n2 c2, .string p1, .slice q1 n1 c1, .string p0, .slice q0 n0 c0] := by
  have C := Hid.mk' (ins_rev g cap w h h10 h20 h21)
  have hw3 : IntKind.i64.wrap 3 = 3 := by decide
  clear h h10 h20 h21
  go_enter Tryd.func34, Tryd.ntmps34
  go_wp2_with fail
  go_loopw [1, 2] (fun a b wr => a = .int .i64 0 ∧ b = .int .i64 3 ∧ wr = w) (fun _ _ _ => 0)
  case atStart => exact ⟨rfl, rfl, rfl⟩
  case round =>
    obtain ⟨rfl, rfl, rfl⟩ := hrel
    go_wp2_with fail
    refine C.out.mono ?_; rintro e w1 ⟨rfl, h1⟩
    have H1 := Hid.mk' h1
    clear h1
    go_wp2_with fail
    exact bodyPost_ret (v := .tuple #[]) (by simp [results, Tryd.results34, go_sem]) rfl ⟨rfl, H1.out⟩
set_option maxRecDepth 100000 in
set_option maxHeartbeats 4000000 in
theorem len64_3 (w : World) : Calls Tryd.prog 51 #[.int .u64 3] w fun e w' => (∃ l : Int, e = .returned (.int .i64 l)) ∧ w = w' := by
  go_enter Tryd.func51, Tryd.ntmps51
  go_wp2_with fail
  go_ret
  exact ⟨⟨_, rfl⟩, rfl⟩
set_option maxRecDepth 100000 in
set_option maxHeartbeats 4000000 in
theorem len_3 (w : World) : Calls Tryd.prog 35 #[.int .u64 3] w fun e w' => (∃ l : Int, e = .returned (.int .i64 l)) ∧ w = w' := by
  go_enter Tryd.func35, Tryd.ntmps35
  go_wp2_with fail
  refine (len64_3 _).mono ?_; rintro e w' ⟨⟨l, rfl⟩, rfl⟩
  go_wp2_with fail
  go_ret
  exact ⟨⟨_, rfl⟩, rfl⟩
set_option maxRecDepth 100000 in
set_option maxHeartbeats 4000000 in
theorem sortfunc_rev (g cap : Nat) (w : World) (h : Rw w w g cap [.string p0, .slice q0 n0 c0, .string p1, .slice q1 n1 c1, .string p2, .slice q2 n2 c2]) (h10 : Ahd w g cap (.agg #[.string p1, .slice q1 n1 c1]) (.agg #[.string p0, .slice q0 n0 c0])) (h20 : Ahd w g cap (.agg #[.string p2, .slice q2 n2 c2]) (.agg #[.string p0, .slice q0 n0 c0])) (h21 : Ahd w g cap (.agg #[.string p2, .slice q2 n2 c2]) (.agg #[.string p1, .slice q1 n1 c1])) :
    Calls Tryd.prog 25 #[.slice (some ⟨g, 0, none⟩) 3 cap, .func (.func 21) #[] #[]] w fun e w' => e = .returned (.tuple #[]) ∧ Rw w w' g cap [.string p2, .slice q2 n2 c2, .string p1, .slice q1 n1 c1, .string p0, .slice q0 n0 c0] := by
  have C := Hid.mk' (fun l => pdq_rev l g cap w h h10 h20 h21)
  have hw3 : IntKind.u64.wrap 3 = 3 := by decide
  clear h h10 h20 h21
  go_enter Tryd.func25, Tryd.ntmps25
  go_wp2_with fail
  refine (len_3 _).mono ?_; rintro e w' ⟨⟨l, rfl⟩, rfl⟩
  go_wp2_with fail
  refine (C.out _).mono ?_; rintro e w1 ⟨rfl, h1⟩
  have H1 := Hid.mk' h1
  clear h1
  go_wp2_with fail
  go_end0
  exact ⟨rfl, H1.out⟩
end
/-- Three texts in memory. -/
def T3 (w : World) (g : Nat) (a b c : ByteArray) : Prop := w.cell? ⟨g, 0, none⟩ = some (.string a) ∧ w.cell? ⟨g, 1, none⟩ = some (.string b) ∧ w.cell? ⟨g, 2, none⟩ = some (.string c)
theorem T3.next {w w' : World} {g : Nat} {a b c : ByteArray} (h : T3 w g a b c) (hb : Below w.heap.size w w') : T3 w' g a b c := ⟨cell_nx hb h.1, cell_nx hb h.2.1, cell_nx hb h.2.2⟩
set_option maxRecDepth 100000 in
set_option maxHeartbeats 4000000 in
theorem equal3_yes (g1 g2 k1 k2 : Nat) (a b c : ByteArray) (w : World) (h1 : T3 w g1 a b c) (h2 : T3 w g2 a b c) :
    Calls Tryd.prog 15 #[.slice (some ⟨g1, 0, none⟩) 3 k1, .slice (some ⟨g2, 0, none⟩) 3 k2] w fun e w' => e = .returned (.bool true) ∧ Below w.heap.size w w' := by
  obtain ⟨x0, x1, x2⟩ := h1
  obtain ⟨y0, y1, y2⟩ := h2
  have ea : (a.toList == a.toList) = true := by simp
  have eb : (b.toList == b.toList) = true := by simp
  have ec : (c.toList == c.toList) = true := by simp
  go_enter Tryd.func15, Tryd.ntmps15
  go_wp2_with fail
  go_loopw [13] (fun i wr => ∃ k m : Nat, i = .int .i64 k ∧ k ≤ 3 ∧ wr = w.drewN m) (fun i _ => 3 - (intOf i).toNat)
  case atStart => exact ⟨0, 0, rfl, by omega, rfl⟩
  case round =>
    obtain ⟨k, m, rfl, hk, rfl⟩ := hrel
    rcases (show k = 0 ∨ k = 1 ∨ k = 2 ∨ k = 3 from by omega) with rfl | rfl | rfl | rfl
    · go_wp2_with fail
      go_quiet (fail)
      go_wp2_with fail
      go_roundw
      case rel => exact ⟨1, m + nq, by go_num, by omega, rfl⟩
      case measure => simp [intOf]
    · go_wp2_with fail
      go_quiet (fail)
      go_wp2_with fail
      go_roundw
      case rel => exact ⟨2, m + nq, by go_num, by omega, rfl⟩
      case measure => simp [intOf]
    · go_wp2_with fail
      go_quiet (fail)
      go_wp2_with fail
      go_roundw
      case rel => exact ⟨3, m + nq, by go_num, by omega, rfl⟩
      case measure => simp [intOf]
    · go_wp2_with fail
      go_ret
      exact ⟨rfl, below_drewN (Below.refl _ _) _⟩
set_option maxRecDepth 100000 in
set_option maxHeartbeats 4000000 in
theorem compact3 (g k1 : Nat) (a b c : ByteArray) (hab : (b.toList == a.toList) = false) (hbc : (c.toList == b.toList) = false) (w : World) (h1 : T3 w g a b c) :
    Calls Tryd.prog 26 #[.slice (some ⟨g, 0, none⟩) 3 k1] w fun e w' => e = .returned (.slice (some ⟨g, 0, none⟩) 3 k1) ∧ Below w.heap.size w w' := by
  obtain ⟨x0, x1, x2⟩ := h1
  have hw0 : IntKind.i64.wrap 0 = 0 := by decide
  have hw1 : IntKind.i64.wrap 1 = 1 := by decide
  go_enter Tryd.func26, Tryd.ntmps26
  go_wp2_with fail
  go_loopw [3] (fun i wr => ∃ k m : Nat, i = .int .i64 k ∧ 1 ≤ k ∧ k ≤ 3 ∧ wr = w.drewN m) (fun i _ => 3 - (intOf i).toNat)
  case atStart => exact ⟨1, 0, rfl, by omega, by omega, rfl⟩
  case round =>
    obtain ⟨k, m, rfl, hk1, hk, rfl⟩ := hrel
    rcases (show k = 1 ∨ k = 2 ∨ k = 3 from by omega) with rfl | rfl | rfl
    · go_wp2_with fail
      go_quiet (fail)
      go_wp2_with fail
      go_roundw
      case rel => exact ⟨2, m + nq, by go_num, by omega, by omega, rfl⟩
      case measure => simp [intOf]
    · go_wp2_with fail
      go_quiet (fail)
      go_wp2_with fail
      go_roundw
      case rel => exact ⟨3, m + nq, by go_num, by omega, by omega, rfl⟩
      case measure => simp [intOf]
    · go_wp2_with fail
      go_ret
      exact ⟨rfl, below_drewN (Below.refl _ _) _⟩
set_option maxHeartbeats 4000000 in
theorem same_yes (a b : ByteArray) (ha : a.size ≤ 20000) (hb : b.size ≤ 20000) (h : foldB a = foldB b) (w : World) : Calls Tryd.prog 10 #[.string a, .string b] w fun e w' => e = .returned (.bool true) ∧ Below w.heap.size w w' := by
  have C1 := Hid.mk' (fold_any a ha)
  have C2 := Hid.mk' (fold_any b hb)
  rw [← h] at C2
  have he : ((foldB a).toList == (foldB a).toList) = true := by simp
  generalize foldB a = f at *
  clear h
  go_enter Tryd.func10, Tryd.ntmps10
  go_wp2_with fail
  refine (C1.out _).mono ?_; rintro e w1 ⟨rfl, hb1⟩
  have H1 := Hid.mk' hb1
  clear hb1
  go_wp2_with fail
  refine (C2.out _).mono ?_; rintro e w2 ⟨rfl, hb2⟩
  have H2 := Hid.mk' (bnext H1.out hb2)
  clear hb2
  go_wp2_with fail
  go_ret
  exact ⟨rfl, H2.out⟩
end Go.Proofs.YtdckdhbnfakleaaDoor
