/- Layer 13 (mem): depth, join, balance, with: at trees of up to two nodes. -/
import Derived.Test.YtljhnkcoknikgaaXk
import Derived.Deep.RegionWith
namespace Go.Proofs.Ytljhnkcoknikgaa
open Go.RowKit

theorem depth_nil (w : World) : Calls Try.prog 170 #[.pointer none] w fun e w' => e = .returned (.int .i64 0) ∧ w' = w := by
  go_enter Try.func170, Try.ntmps170
  go_wp2_with fail
  go_ret
  exact ⟨rfl, rfl⟩
theorem depth_at (g : Nat) (d : Int) (w : World) (h : w.cell? ⟨g, 12, none⟩ = some (.int .i64 d)) : Calls Try.prog 170 #[.pointer (some ⟨g, 0, none⟩)] w fun e w' => e = .returned (.int .i64 d) ∧ w' = w := by
  go_enter Try.func170, Try.ntmps170
  go_wp2_with fail
  go_ret
  exact ⟨rfl, rfl⟩
/-- A new node. -/
def NewN (w : World) (cs : Array Value) (e : Ending) (w' : World) : Prop := ∃ g, e = .returned (.pointer (some ⟨g, 0, none⟩)) ∧ Bx w' g 166 cs ∧ w.heap.size ≤ g ∧ Below w.heap.size w w'
set_option maxRecDepth 100000 in
set_option maxHeartbeats 4000000 in
theorem join_nn (t kd ex x y z : Int) (mk en val : ByteArray) (w : World) : Calls Try.prog 151 #[.agg #[.int .i64 t, .int .i64 kd, .string mk, .string en, .string val, .int .i64 ex, .int .i64 x, .int .i64 y, .int .i64 z, .slice none 0 0], .pointer none, .pointer none] w (NewN w #[.int .i64 t, .int .i64 kd, .string mk, .string en, .string val, .int .i64 ex, .int .i64 x, .int .i64 y, .int .i64 z, .slice none 0 0, .pointer none, .pointer none, .int .i64 1]) := by
  have hb0 : Below w.heap.size w (w.alloc (.cells #[.int .i64 t, .int .i64 kd, .string mk, .string en, .string val, .int .i64 ex, .int .i64 x, .int .i64 y, .int .i64 z, .slice none 0 0] 40)) := (Below.refl _ _).alloc (Nat.le_refl _) _
  have HB := Lib.hid hb0
  have CD := Lib.hid (fun W => depth_nil W)
  have hmx : max (0 : Int) 0 = 0 := by decide
  have hw1 : IntKind.i64.wrap 1 = 1 := by decide
  clear hb0
  go_enter Try.func151, Try.ntmps151
  go_wp2_with fail
  go_region_with (go_at_call 170; refine (CD.out _).mono ?_; rintro e w1 ⟨rfl, rfl⟩)
  all_goals
    go_wp2_with fail
    go_ret
    exact ⟨w.heap.size + 1, rfl, (Bx.fresh' (w.alloc _) (by simp) _ _).drawn 1, by omega, (HB.out.alloc HB.out.size _).drew⟩
set_option maxRecDepth 100000 in
set_option maxHeartbeats 4000000 in
theorem join_an (g0 : Nat) (t kd ex x y z : Int) (mk en val : ByteArray) (w : World) (h : w.cell? ⟨g0, 12, none⟩ = some (.int .i64 1)) : Calls Try.prog 151 #[.agg #[.int .i64 t, .int .i64 kd, .string mk, .string en, .string val, .int .i64 ex, .int .i64 x, .int .i64 y, .int .i64 z, .slice none 0 0], .pointer (some ⟨g0, 0, none⟩), .pointer none] w (NewN w #[.int .i64 t, .int .i64 kd, .string mk, .string en, .string val, .int .i64 ex, .int .i64 x, .int .i64 y, .int .i64 z, .slice none 0 0, .pointer (some ⟨g0, 0, none⟩), .pointer none, .int .i64 2]) := by
  have hb0 : Below w.heap.size w (w.alloc (.cells #[.int .i64 t, .int .i64 kd, .string mk, .string en, .string val, .int .i64 ex, .int .i64 x, .int .i64 y, .int .i64 z, .slice none 0 0] 40)) := (Below.refl _ _).alloc (Nat.le_refl _) _
  have HB := Lib.hid hb0
  have CD := Lib.hid (fun W => depth_nil W)
  have CE := Lib.hid (show ∀ n, Calls Try.prog 170 #[.pointer (some ⟨g0, 0, none⟩)] ((w.alloc (.cells #[.int .i64 t, .int .i64 kd, .string mk, .string en, .string val, .int .i64 ex, .int .i64 x, .int .i64 y, .int .i64 z, .slice none 0 0] 40)).drewN n) fun e w' => e = .returned (.int .i64 1) ∧ w' = (w.alloc (.cells #[.int .i64 t, .int .i64 kd, .string mk, .string en, .string val, .int .i64 ex, .int .i64 x, .int .i64 y, .int .i64 z, .slice none 0 0] 40)).drewN n from fun n => depth_at g0 1 _ (show (w.alloc (.cells #[.int .i64 t, .int .i64 kd, .string mk, .string en, .string val, .int .i64 ex, .int .i64 x, .int .i64 y, .int .i64 z, .slice none 0 0] 40)).cell? ⟨g0, 12, none⟩ = _ from cell_nx ((Below.refl _ _).alloc (Nat.le_refl _) _) h))
  have hmx : max (1 : Int) 0 = 1 := by decide
  have hw1 : IntKind.i64.wrap 2 = 2 := by decide
  clear hb0 h
  go_enter Try.func151, Try.ntmps151
  go_wp2_with fail
  go_region_with (go_at_call 170; first | (refine (CD.out _).mono ?_; rintro e w1 ⟨rfl, rfl⟩) | (refine (CE.out 1).mono ?_; rintro e w1 ⟨rfl, rfl⟩))
  all_goals
    go_wp2_with fail
    go_ret
    exact ⟨w.heap.size + 1, rfl, (Bx.fresh' (w.alloc _) (by simp) _ _).drawn 1, by omega, (HB.out.alloc HB.out.size _).drew⟩
/-- A copy of a mutation that supersedes nothing. -/
theorem copy0_any (t kd ex x y z : Int) (mk en val : ByteArray) (w : World) : Calls Try.prog 19 #[.agg #[.int .i64 t, .int .i64 kd, .string mk, .string en, .string val, .int .i64 ex, .int .i64 x, .int .i64 y, .int .i64 z, .slice none 0 0]] w fun e w' => e = .returned (.agg #[.int .i64 t, .int .i64 kd, .string mk, .string en, .string val, .int .i64 ex, .int .i64 x, .int .i64 y, .int .i64 z, .slice none 0 0]) ∧ Below w.heap.size w w' := by
  have hnil : ∀ w, (binOp .eql 38 (.slice none 0 0) (.slice none 0 0)).run Try.prog w = .ok (.bool true) w := fun w : World => Lib.run_eql_slice_nil (P := Try.prog) w 38 37 none 0 0 0 0 Try.underlying38
  have CC : ∀ W, Calls Try.prog 63 #[.slice none 0 0] W fun e w' => e = .returned (.slice none 0 0) ∧ w' = W := by
    intro W
    go_enter Try.func63, Try.ntmps63
    go_wp2_with fail
    go_ret
    exact ⟨rfl, rfl⟩
  have C := Lib.hid CC
  clear hnil CC
  have HB := Lib.hid (((Below.refl w.heap.size w).alloc (Nat.le_refl _) (.cells #[.int .i64 t, .int .i64 kd, .string mk, .string en, .string val, .int .i64 ex, .int .i64 x, .int .i64 y, .int .i64 z, .slice none 0 0] 40)).alloc (by simp) (.cells #[.int .i64 t, .int .i64 kd, .string mk, .string en, .string val, .int .i64 ex, .int .i64 x, .int .i64 y, .int .i64 z, .slice none 0 0] 40))
  go_enter Try.func19, Try.ntmps19
  go_wp2_with fail
  refine (C.out _).mono ?_; rintro e w1 ⟨rfl, rfl⟩
  go_wp2_with fail
  have h6 : Bx ((w.alloc (.cells #[.int .i64 t, .int .i64 kd, .string mk, .string en, .string val, .int .i64 ex, .int .i64 x, .int .i64 y, .int .i64 z, .slice none 0 0] 40)).alloc (.cells #[.int .i64 t, .int .i64 kd, .string mk, .string en, .string val, .int .i64 ex, .int .i64 x, .int .i64 y, .int .i64 z, .slice none 0 0] 40)) (w.heap.size + 1) 40 #[.int .i64 t, .int .i64 kd, .string mk, .string en, .string val, .int .i64 ex, .int .i64 x, .int .i64 y, .int .i64 z, .slice none 0 0] := Bx.fresh' (w.alloc _) (by simp) _ _
  (try simp only [Exit.inBlock, Exit.then])
  refine bodyPost_ret (results_cell_row rfl _ _ (w.heap.size + 1) 40 #[.int .i64 t, .int .i64 kd, .string mk, .string en, .string val, .int .i64 ex, .int .i64 x, .int .i64 y, .int .i64 z, .slice none 0 0] (0, 0) _ rfl h6 Try.underlying40 rfl mut_size) rfl ?_
  exact ⟨rfl, HB.out⟩
set_option maxRecDepth 100000 in
set_option maxHeartbeats 4000000 in
theorem balance_an (g0 : Nat) (t kd ex x y z : Int) (mk en val : ByteArray) (w : World) (h : w.cell? ⟨g0, 12, none⟩ = some (.int .i64 1)) : Calls Try.prog 152 #[.agg #[.int .i64 t, .int .i64 kd, .string mk, .string en, .string val, .int .i64 ex, .int .i64 x, .int .i64 y, .int .i64 z, .slice none 0 0], .pointer (some ⟨g0, 0, none⟩), .pointer none] w (NewN w #[.int .i64 t, .int .i64 kd, .string mk, .string en, .string val, .int .i64 ex, .int .i64 x, .int .i64 y, .int .i64 z, .slice none 0 0, .pointer (some ⟨g0, 0, none⟩), .pointer none, .int .i64 2]) := by
  have hb0 : Below w.heap.size w (w.alloc (.cells #[.int .i64 t, .int .i64 kd, .string mk, .string en, .string val, .int .i64 ex, .int .i64 x, .int .i64 y, .int .i64 z, .slice none 0 0] 40)) := (Below.refl _ _).alloc (Nat.le_refl _) _
  have HB := Lib.hid hb0
  have CD := Lib.hid (fun W => depth_nil W)
  have CE := Lib.hid (depth_at g0 1 _ (cell_nx hb0 h))
  have CJ := Lib.hid (join_an g0 t kd ex x y z mk en val _ (cell_nx hb0 h))
  clear hb0 h
  go_enter Try.func152, Try.ntmps152
  go_wp2_with fail
  refine (CE.out).mono ?_; rintro e w1 ⟨rfl, rfl⟩
  go_wp2_with fail
  refine (CD.out _).mono ?_; rintro e w1 ⟨rfl, rfl⟩
  go_wp2_with fail
  refine (CJ.out).mono ?_; rintro e w1 ⟨g, rfl, hx, hg, hb⟩
  have HF := Lib.hid (And.intro hx (And.intro (show w.heap.size ≤ g by rw [World.size_alloc] at hg; omega) (bnext HB.out hb)))
  clear hx hg hb
  go_wp2_with fail
  go_ret
  exact ⟨_, rfl, HF.out⟩
end Go.Proofs.Ytljhnkcoknikgaa
