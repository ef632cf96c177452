/- Layer 22 (net): Says, by the code. -/
import Derived.Test.YtaeflfgkdjfnfaaChecked
import Derived.Test.YtaeflfgkdjfnfaaKs
import Derived.Test.YtaeflfgkdjfnfaaKg
import Derived.Lib.Hide
import Derived.Tactics
import Derived.Tactics2
import Derived.Defers
import Derived.Recover
import Derived.Laws.Pointers
namespace Go.Proofs.Ytaeflfgkdjfnfaa
open Go.RowKit

theorem catch_idle (p : Addr) (w : World) :
    CallsD Try.prog 84 #[.pointer (some p)] .returning w fun e u' w' => e = .returned (.tuple #[]) ∧ u' = .returning ∧ w' = w := by
  refine callsD_of_wpS Try.func84 rfl fun c₀ cs hu => ?_
  apply wpS_seq
  apply wpS_region
  simp [wpOpsS, go_sem, recoverD, hu, Try.ntmps84, Exit.thenS]
  refine wpS_cond (t := false) (by simp [Act.eval, Array.replicate]) ?_
  simp only [Bool.false_eq_true, if_false]
  refine wpS_of_wp (wp_skip ?_)
  cases c₀
  simp_all [bodyPostS, results, Try.results84]
set_option maxHeartbeats 2000000 in
theorem saysWrite (v : Value) (w : World) : Calls Try.prog 249 #[v] w fun e w' => e = .returned (.string { data := #[119, 114, 105, 116, 101] }) ∧ Below w.heap.size w w' := by
  go_enter Try.func249, Try.ntmps249
  go_wp2_with fail
  all_goals
    go_ret
    exact ⟨rfl, (Below.refl _ _).alloc (Nat.le_refl _) _⟩
set_option maxRecDepth 100000 in
set_option maxHeartbeats 4000000 in
theorem msgWrite (f : Int) (v : Value) (w : World) : Calls Try.prog 19 #[.agg #[.int .i64 f, .int .i64 0, .int .i64 0, .bool false, .bool false, .bool false, .bool false, .bool false, .int .i64 0, .int .i64 0, .int .i64 0, .int .i64 0, .int .i64 0, .int .i64 0, .int .i64 0, .int .i64 0, .iface 35 v]] w fun e w' => e = .returned (.string { data := #[119, 114, 105, 116, 101] }) ∧ Below w.heap.size w w' := by
  have hmf : ∀ (fn : Fn) (first cap : Array Value) (w : World), (Instr.makeFunc fn first cap).run Try.prog w = .ok (.func fn first cap) w := fun _ _ _ _ => rfl
  have hme : ∀ (W : World), (method (Try.prog.types.size + Made.depth) 35 v "Says").run Try.prog W = .ok (249, v) W := fun W => by kernel_rfl
  simp only [show Try.prog.types.size + Made.depth = 385 from by kernel_rfl] at hme
  have CS := Lib.hid (saysWrite v)
  go_enter_defers Try.func19, Try.ntmps19
  go_wp2_with fail
  refine (CS.out _).mono ?_; rintro _ w1 ⟨rfl, hb1⟩
  have hx1 : Bx w1 (w.heap.size + 1) 9 #[.string { data := #[] }] := (Bx.fresh' (w.alloc _) (by simp) _ _).next hb1
  have x0 := hx1.read (i := 0) (v := .string { data := #[] }) rfl
  have f0 := hx1.open_ 0
  have HB := Lib.hid (bnext (((Below.refl w.heap.size w).alloc (Nat.le_refl _) (.cells #[.int .i64 f, .int .i64 0, .int .i64 0, .bool false, .bool false, .bool false, .bool false, .bool false, .int .i64 0, .int .i64 0, .int .i64 0, .int .i64 0, .int .i64 0, .int .i64 0, .int .i64 0, .int .i64 0, .iface 35 v] 43)).alloc (by simp) (.cells #[.string { data := #[] }] 9)) hb1)
  clear hb1 hx1 CS
  go_wp2_with fail
  refine leaves_cons (f := 84) (args := #[.pointer (some ⟨w.heap.size + 1, 0, none⟩)]) (by simp) (by simp [go_sem]) ?_
  refine (catch_idle ⟨w.heap.size + 1, 0, none⟩ _).mono ?_
  rintro e u' w'' ⟨rfl, rfl, rfl⟩
  simp [Leaves, settle, results, Try.results19, go_sem, x0]
  exact (HB.out).setCell (by exact Nat.le_succ _) _
set_option maxHeartbeats 2000000 in
theorem saysAck (v : Value) (w : World) : Calls Try.prog 251 #[v] w fun e w' => e = .returned (.string { data := #[97, 99, 107] }) ∧ Below w.heap.size w w' := by
  go_enter Try.func251, Try.ntmps251
  go_wp2_with fail
  all_goals
    go_ret
    exact ⟨rfl, (Below.refl _ _).alloc (Nat.le_refl _) _⟩
set_option maxRecDepth 100000 in
set_option maxHeartbeats 4000000 in
theorem msgAck (f : Int) (v : Value) (w : World) : Calls Try.prog 19 #[.agg #[.int .i64 f, .int .i64 0, .int .i64 0, .bool false, .bool false, .bool false, .bool false, .bool false, .int .i64 0, .int .i64 0, .int .i64 0, .int .i64 0, .int .i64 0, .int .i64 0, .int .i64 0, .int .i64 0, .iface 47 v]] w fun e w' => e = .returned (.string { data := #[97, 99, 107] }) ∧ Below w.heap.size w w' := by
  have hmf : ∀ (fn : Fn) (first cap : Array Value) (w : World), (Instr.makeFunc fn first cap).run Try.prog w = .ok (.func fn first cap) w := fun _ _ _ _ => rfl
  have hme : ∀ (W : World), (method (Try.prog.types.size + Made.depth) 47 v "Says").run Try.prog W = .ok (251, v) W := fun W => by kernel_rfl
  simp only [show Try.prog.types.size + Made.depth = 385 from by kernel_rfl] at hme
  have CS := Lib.hid (saysAck v)
  go_enter_defers Try.func19, Try.ntmps19
  go_wp2_with fail
  refine (CS.out _).mono ?_; rintro _ w1 ⟨rfl, hb1⟩
  have hx1 : Bx w1 (w.heap.size + 1) 9 #[.string { data := #[] }] := (Bx.fresh' (w.alloc _) (by simp) _ _).next hb1
  have x0 := hx1.read (i := 0) (v := .string { data := #[] }) rfl
  have f0 := hx1.open_ 0
  have HB := Lib.hid (bnext (((Below.refl w.heap.size w).alloc (Nat.le_refl _) (.cells #[.int .i64 f, .int .i64 0, .int .i64 0, .bool false, .bool false, .bool false, .bool false, .bool false, .int .i64 0, .int .i64 0, .int .i64 0, .int .i64 0, .int .i64 0, .int .i64 0, .int .i64 0, .int .i64 0, .iface 47 v] 43)).alloc (by simp) (.cells #[.string { data := #[] }] 9)) hb1)
  clear hb1 hx1 CS
  go_wp2_with fail
  refine leaves_cons (f := 84) (args := #[.pointer (some ⟨w.heap.size + 1, 0, none⟩)]) (by simp) (by simp [go_sem]) ?_
  refine (catch_idle ⟨w.heap.size + 1, 0, none⟩ _).mono ?_
  rintro e u' w'' ⟨rfl, rfl, rfl⟩
  simp [Leaves, settle, results, Try.results19, go_sem, x0]
  exact (HB.out).setCell (by exact Nat.le_succ _) _
set_option maxHeartbeats 2000000 in
theorem saysAsk (v : Value) (w : World) : Calls Try.prog 252 #[v] w fun e w' => e = .returned (.string { data := #[97, 115, 107] }) ∧ Below w.heap.size w w' := by
  go_enter Try.func252, Try.ntmps252
  go_wp2_with fail
  all_goals
    go_ret
    exact ⟨rfl, (Below.refl _ _).alloc (Nat.le_refl _) _⟩
set_option maxRecDepth 100000 in
set_option maxHeartbeats 4000000 in
theorem msgAsk (f : Int) (v : Value) (w : World) : Calls Try.prog 19 #[.agg #[.int .i64 f, .int .i64 0, .int .i64 0, .bool false, .bool false, .bool false, .bool false, .bool false, .int .i64 0, .int .i64 0, .int .i64 0, .int .i64 0, .int .i64 0, .int .i64 0, .int .i64 0, .int .i64 0, .iface 49 v]] w fun e w' => e = .returned (.string { data := #[97, 115, 107] }) ∧ Below w.heap.size w w' := by
  have hmf : ∀ (fn : Fn) (first cap : Array Value) (w : World), (Instr.makeFunc fn first cap).run Try.prog w = .ok (.func fn first cap) w := fun _ _ _ _ => rfl
  have hme : ∀ (W : World), (method (Try.prog.types.size + Made.depth) 49 v "Says").run Try.prog W = .ok (252, v) W := fun W => by kernel_rfl
  simp only [show Try.prog.types.size + Made.depth = 385 from by kernel_rfl] at hme
  have CS := Lib.hid (saysAsk v)
  go_enter_defers Try.func19, Try.ntmps19
  go_wp2_with fail
  refine (CS.out _).mono ?_; rintro _ w1 ⟨rfl, hb1⟩
  have hx1 : Bx w1 (w.heap.size + 1) 9 #[.string { data := #[] }] := (Bx.fresh' (w.alloc _) (by simp) _ _).next hb1
  have x0 := hx1.read (i := 0) (v := .string { data := #[] }) rfl
  have f0 := hx1.open_ 0
  have HB := Lib.hid (bnext (((Below.refl w.heap.size w).alloc (Nat.le_refl _) (.cells #[.int .i64 f, .int .i64 0, .int .i64 0, .bool false, .bool false, .bool false, .bool false, .bool false, .int .i64 0, .int .i64 0, .int .i64 0, .int .i64 0, .int .i64 0, .int .i64 0, .int .i64 0, .int .i64 0, .iface 49 v] 43)).alloc (by simp) (.cells #[.string { data := #[] }] 9)) hb1)
  clear hb1 hx1 CS
  go_wp2_with fail
  refine leaves_cons (f := 84) (args := #[.pointer (some ⟨w.heap.size + 1, 0, none⟩)]) (by simp) (by simp [go_sem]) ?_
  refine (catch_idle ⟨w.heap.size + 1, 0, none⟩ _).mono ?_
  rintro e u' w'' ⟨rfl, rfl, rfl⟩
  simp [Leaves, settle, results, Try.results19, go_sem, x0]
  exact (HB.out).setCell (by exact Nat.le_succ _) _
set_option maxHeartbeats 2000000 in
theorem saysAnswer (v : Value) (w : World) : Calls Try.prog 254 #[v] w fun e w' => e = .returned (.string { data := #[97, 110, 115, 119, 101, 114] }) ∧ Below w.heap.size w w' := by
  go_enter Try.func254, Try.ntmps254
  go_wp2_with fail
  all_goals
    go_ret
    exact ⟨rfl, (Below.refl _ _).alloc (Nat.le_refl _) _⟩
set_option maxRecDepth 100000 in
set_option maxHeartbeats 4000000 in
theorem msgAnswer (f : Int) (v : Value) (w : World) : Calls Try.prog 19 #[.agg #[.int .i64 f, .int .i64 0, .int .i64 0, .bool false, .bool false, .bool false, .bool false, .bool false, .int .i64 0, .int .i64 0, .int .i64 0, .int .i64 0, .int .i64 0, .int .i64 0, .int .i64 0, .int .i64 0, .iface 54 v]] w fun e w' => e = .returned (.string { data := #[97, 110, 115, 119, 101, 114] }) ∧ Below w.heap.size w w' := by
  have hmf : ∀ (fn : Fn) (first cap : Array Value) (w : World), (Instr.makeFunc fn first cap).run Try.prog w = .ok (.func fn first cap) w := fun _ _ _ _ => rfl
  have hme : ∀ (W : World), (method (Try.prog.types.size + Made.depth) 54 v "Says").run Try.prog W = .ok (254, v) W := fun W => by kernel_rfl
  simp only [show Try.prog.types.size + Made.depth = 385 from by kernel_rfl] at hme
  have CS := Lib.hid (saysAnswer v)
  go_enter_defers Try.func19, Try.ntmps19
  go_wp2_with fail
  refine (CS.out _).mono ?_; rintro _ w1 ⟨rfl, hb1⟩
  have hx1 : Bx w1 (w.heap.size + 1) 9 #[.string { data := #[] }] := (Bx.fresh' (w.alloc _) (by simp) _ _).next hb1
  have x0 := hx1.read (i := 0) (v := .string { data := #[] }) rfl
  have f0 := hx1.open_ 0
  have HB := Lib.hid (bnext (((Below.refl w.heap.size w).alloc (Nat.le_refl _) (.cells #[.int .i64 f, .int .i64 0, .int .i64 0, .bool false, .bool false, .bool false, .bool false, .bool false, .int .i64 0, .int .i64 0, .int .i64 0, .int .i64 0, .int .i64 0, .int .i64 0, .int .i64 0, .int .i64 0, .iface 54 v] 43)).alloc (by simp) (.cells #[.string { data := #[] }] 9)) hb1)
  clear hb1 hx1 CS
  go_wp2_with fail
  refine leaves_cons (f := 84) (args := #[.pointer (some ⟨w.heap.size + 1, 0, none⟩)]) (by simp) (by simp [go_sem]) ?_
  refine (catch_idle ⟨w.heap.size + 1, 0, none⟩ _).mono ?_
  rintro e u' w'' ⟨rfl, rfl, rfl⟩
  simp [Leaves, settle, results, Try.results19, go_sem, x0]
  exact (HB.out).setCell (by exact Nat.le_succ _) _
set_option maxHeartbeats 2000000 in
theorem saysPrepare (v : Value) (w : World) : Calls Try.prog 255 #[v] w fun e w' => e = .returned (.string { data := #[112, 114, 101, 112, 97, 114, 101] }) ∧ Below w.heap.size w w' := by
  go_enter Try.func255, Try.ntmps255
  go_wp2_with fail
  all_goals
    go_ret
    exact ⟨rfl, (Below.refl _ _).alloc (Nat.le_refl _) _⟩
set_option maxRecDepth 100000 in
set_option maxHeartbeats 4000000 in
theorem msgPrepare (f : Int) (v : Value) (w : World) : Calls Try.prog 19 #[.agg #[.int .i64 f, .int .i64 0, .int .i64 0, .bool false, .bool false, .bool false, .bool false, .bool false, .int .i64 0, .int .i64 0, .int .i64 0, .int .i64 0, .int .i64 0, .int .i64 0, .int .i64 0, .int .i64 0, .iface 56 v]] w fun e w' => e = .returned (.string { data := #[112, 114, 101, 112, 97, 114, 101] }) ∧ Below w.heap.size w w' := by
  have hmf : ∀ (fn : Fn) (first cap : Array Value) (w : World), (Instr.makeFunc fn first cap).run Try.prog w = .ok (.func fn first cap) w := fun _ _ _ _ => rfl
  have hme : ∀ (W : World), (method (Try.prog.types.size + Made.depth) 56 v "Says").run Try.prog W = .ok (255, v) W := fun W => by kernel_rfl
  simp only [show Try.prog.types.size + Made.depth = 385 from by kernel_rfl] at hme
  have CS := Lib.hid (saysPrepare v)
  go_enter_defers Try.func19, Try.ntmps19
  go_wp2_with fail
  refine (CS.out _).mono ?_; rintro _ w1 ⟨rfl, hb1⟩
  have hx1 : Bx w1 (w.heap.size + 1) 9 #[.string { data := #[] }] := (Bx.fresh' (w.alloc _) (by simp) _ _).next hb1
  have x0 := hx1.read (i := 0) (v := .string { data := #[] }) rfl
  have f0 := hx1.open_ 0
  have HB := Lib.hid (bnext (((Below.refl w.heap.size w).alloc (Nat.le_refl _) (.cells #[.int .i64 f, .int .i64 0, .int .i64 0, .bool false, .bool false, .bool false, .bool false, .bool false, .int .i64 0, .int .i64 0, .int .i64 0, .int .i64 0, .int .i64 0, .int .i64 0, .int .i64 0, .int .i64 0, .iface 56 v] 43)).alloc (by simp) (.cells #[.string { data := #[] }] 9)) hb1)
  clear hb1 hx1 CS
  go_wp2_with fail
  refine leaves_cons (f := 84) (args := #[.pointer (some ⟨w.heap.size + 1, 0, none⟩)]) (by simp) (by simp [go_sem]) ?_
  refine (catch_idle ⟨w.heap.size + 1, 0, none⟩ _).mono ?_
  rintro e u' w'' ⟨rfl, rfl, rfl⟩
  simp [Leaves, settle, results, Try.results19, go_sem, x0]
  exact (HB.out).setCell (by exact Nat.le_succ _) _
set_option maxHeartbeats 2000000 in
theorem saysReport (v : Value) (w : World) : Calls Try.prog 256 #[v] w fun e w' => e = .returned (.string { data := #[114, 101, 112, 111, 114, 116] }) ∧ Below w.heap.size w w' := by
  go_enter Try.func256, Try.ntmps256
  go_wp2_with fail
  all_goals
    go_ret
    exact ⟨rfl, (Below.refl _ _).alloc (Nat.le_refl _) _⟩
set_option maxRecDepth 100000 in
set_option maxHeartbeats 4000000 in
theorem msgReport (f : Int) (v : Value) (w : World) : Calls Try.prog 19 #[.agg #[.int .i64 f, .int .i64 0, .int .i64 0, .bool false, .bool false, .bool false, .bool false, .bool false, .int .i64 0, .int .i64 0, .int .i64 0, .int .i64 0, .int .i64 0, .int .i64 0, .int .i64 0, .int .i64 0, .iface 58 v]] w fun e w' => e = .returned (.string { data := #[114, 101, 112, 111, 114, 116] }) ∧ Below w.heap.size w w' := by
  have hmf : ∀ (fn : Fn) (first cap : Array Value) (w : World), (Instr.makeFunc fn first cap).run Try.prog w = .ok (.func fn first cap) w := fun _ _ _ _ => rfl
  have hme : ∀ (W : World), (method (Try.prog.types.size + Made.depth) 58 v "Says").run Try.prog W = .ok (256, v) W := fun W => by kernel_rfl
  simp only [show Try.prog.types.size + Made.depth = 385 from by kernel_rfl] at hme
  have CS := Lib.hid (saysReport v)
  go_enter_defers Try.func19, Try.ntmps19
  go_wp2_with fail
  refine (CS.out _).mono ?_; rintro _ w1 ⟨rfl, hb1⟩
  have hx1 : Bx w1 (w.heap.size + 1) 9 #[.string { data := #[] }] := (Bx.fresh' (w.alloc _) (by simp) _ _).next hb1
  have x0 := hx1.read (i := 0) (v := .string { data := #[] }) rfl
  have f0 := hx1.open_ 0
  have HB := Lib.hid (bnext (((Below.refl w.heap.size w).alloc (Nat.le_refl _) (.cells #[.int .i64 f, .int .i64 0, .int .i64 0, .bool false, .bool false, .bool false, .bool false, .bool false, .int .i64 0, .int .i64 0, .int .i64 0, .int .i64 0, .int .i64 0, .int .i64 0, .int .i64 0, .int .i64 0, .iface 58 v] 43)).alloc (by simp) (.cells #[.string { data := #[] }] 9)) hb1)
  clear hb1 hx1 CS
  go_wp2_with fail
  refine leaves_cons (f := 84) (args := #[.pointer (some ⟨w.heap.size + 1, 0, none⟩)]) (by simp) (by simp [go_sem]) ?_
  refine (catch_idle ⟨w.heap.size + 1, 0, none⟩ _).mono ?_
  rintro e u' w'' ⟨rfl, rfl, rfl⟩
  simp [Leaves, settle, results, Try.results19, go_sem, x0]
  exact (HB.out).setCell (by exact Nat.le_succ _) _
set_option maxHeartbeats 2000000 in
theorem saysInstall (v : Value) (w : World) : Calls Try.prog 257 #[v] w fun e w' => e = .returned (.string { data := #[105, 110, 115, 116, 97, 108, 108] }) ∧ Below w.heap.size w w' := by
  go_enter Try.func257, Try.ntmps257
  go_wp2_with fail
  all_goals
    go_ret
    exact ⟨rfl, (Below.refl _ _).alloc (Nat.le_refl _) _⟩
set_option maxRecDepth 100000 in
set_option maxHeartbeats 4000000 in
theorem msgInstall (f : Int) (v : Value) (w : World) : Calls Try.prog 19 #[.agg #[.int .i64 f, .int .i64 0, .int .i64 0, .bool false, .bool false, .bool false, .bool false, .bool false, .int .i64 0, .int .i64 0, .int .i64 0, .int .i64 0, .int .i64 0, .int .i64 0, .int .i64 0, .int .i64 0, .iface 60 v]] w fun e w' => e = .returned (.string { data := #[105, 110, 115, 116, 97, 108, 108] }) ∧ Below w.heap.size w w' := by
  have hmf : ∀ (fn : Fn) (first cap : Array Value) (w : World), (Instr.makeFunc fn first cap).run Try.prog w = .ok (.func fn first cap) w := fun _ _ _ _ => rfl
  have hme : ∀ (W : World), (method (Try.prog.types.size + Made.depth) 60 v "Says").run Try.prog W = .ok (257, v) W := fun W => by kernel_rfl
  simp only [show Try.prog.types.size + Made.depth = 385 from by kernel_rfl] at hme
  have CS := Lib.hid (saysInstall v)
  go_enter_defers Try.func19, Try.ntmps19
  go_wp2_with fail
  refine (CS.out _).mono ?_; rintro _ w1 ⟨rfl, hb1⟩
  have hx1 : Bx w1 (w.heap.size + 1) 9 #[.string { data := #[] }] := (Bx.fresh' (w.alloc _) (by simp) _ _).next hb1
  have x0 := hx1.read (i := 0) (v := .string { data := #[] }) rfl
  have f0 := hx1.open_ 0
  have HB := Lib.hid (bnext (((Below.refl w.heap.size w).alloc (Nat.le_refl _) (.cells #[.int .i64 f, .int .i64 0, .int .i64 0, .bool false, .bool false, .bool false, .bool false, .bool false, .int .i64 0, .int .i64 0, .int .i64 0, .int .i64 0, .int .i64 0, .int .i64 0, .int .i64 0, .int .i64 0, .iface 60 v] 43)).alloc (by simp) (.cells #[.string { data := #[] }] 9)) hb1)
  clear hb1 hx1 CS
  go_wp2_with fail
  refine leaves_cons (f := 84) (args := #[.pointer (some ⟨w.heap.size + 1, 0, none⟩)]) (by simp) (by simp [go_sem]) ?_
  refine (catch_idle ⟨w.heap.size + 1, 0, none⟩ _).mono ?_
  rintro e u' w'' ⟨rfl, rfl, rfl⟩
  simp [Leaves, settle, results, Try.results19, go_sem, x0]
  exact (HB.out).setCell (by exact Nat.le_succ _) _
set_option maxHeartbeats 2000000 in
theorem saysDone (v : Value) (w : World) : Calls Try.prog 258 #[v] w fun e w' => e = .returned (.string { data := #[100, 111, 110, 101] }) ∧ Below w.heap.size w w' := by
  go_enter Try.func258, Try.ntmps258
  go_wp2_with fail
  all_goals
    go_ret
    exact ⟨rfl, (Below.refl _ _).alloc (Nat.le_refl _) _⟩
set_option maxRecDepth 100000 in
set_option maxHeartbeats 4000000 in
theorem msgDone (f : Int) (v : Value) (w : World) : Calls Try.prog 19 #[.agg #[.int .i64 f, .int .i64 0, .int .i64 0, .bool false, .bool false, .bool false, .bool false, .bool false, .int .i64 0, .int .i64 0, .int .i64 0, .int .i64 0, .int .i64 0, .int .i64 0, .int .i64 0, .int .i64 0, .iface 62 v]] w fun e w' => e = .returned (.string { data := #[100, 111, 110, 101] }) ∧ Below w.heap.size w w' := by
  have hmf : ∀ (fn : Fn) (first cap : Array Value) (w : World), (Instr.makeFunc fn first cap).run Try.prog w = .ok (.func fn first cap) w := fun _ _ _ _ => rfl
  have hme : ∀ (W : World), (method (Try.prog.types.size + Made.depth) 62 v "Says").run Try.prog W = .ok (258, v) W := fun W => by kernel_rfl
  simp only [show Try.prog.types.size + Made.depth = 385 from by kernel_rfl] at hme
  have CS := Lib.hid (saysDone v)
  go_enter_defers Try.func19, Try.ntmps19
  go_wp2_with fail
  refine (CS.out _).mono ?_; rintro _ w1 ⟨rfl, hb1⟩
  have hx1 : Bx w1 (w.heap.size + 1) 9 #[.string { data := #[] }] := (Bx.fresh' (w.alloc _) (by simp) _ _).next hb1
  have x0 := hx1.read (i := 0) (v := .string { data := #[] }) rfl
  have f0 := hx1.open_ 0
  have HB := Lib.hid (bnext (((Below.refl w.heap.size w).alloc (Nat.le_refl _) (.cells #[.int .i64 f, .int .i64 0, .int .i64 0, .bool false, .bool false, .bool false, .bool false, .bool false, .int .i64 0, .int .i64 0, .int .i64 0, .int .i64 0, .int .i64 0, .int .i64 0, .int .i64 0, .int .i64 0, .iface 62 v] 43)).alloc (by simp) (.cells #[.string { data := #[] }] 9)) hb1)
  clear hb1 hx1 CS
  go_wp2_with fail
  refine leaves_cons (f := 84) (args := #[.pointer (some ⟨w.heap.size + 1, 0, none⟩)]) (by simp) (by simp [go_sem]) ?_
  refine (catch_idle ⟨w.heap.size + 1, 0, none⟩ _).mono ?_
  rintro e u' w'' ⟨rfl, rfl, rfl⟩
  simp [Leaves, settle, results, Try.results19, go_sem, x0]
  exact (HB.out).setCell (by exact Nat.le_succ _) _
set_option maxHeartbeats 2000000 in
theorem saysFinish (v : Value) (w : World) : Calls Try.prog 259 #[v] w fun e w' => e = .returned (.string { data := #[102, 105, 110, 105, 115, 104] }) ∧ Below w.heap.size w w' := by
  go_enter Try.func259, Try.ntmps259
  go_wp2_with fail
  all_goals
    go_ret
    exact ⟨rfl, (Below.refl _ _).alloc (Nat.le_refl _) _⟩
set_option maxRecDepth 100000 in
set_option maxHeartbeats 4000000 in
theorem msgFinish (f : Int) (v : Value) (w : World) : Calls Try.prog 19 #[.agg #[.int .i64 f, .int .i64 0, .int .i64 0, .bool false, .bool false, .bool false, .bool false, .bool false, .int .i64 0, .int .i64 0, .int .i64 0, .int .i64 0, .int .i64 0, .int .i64 0, .int .i64 0, .int .i64 0, .iface 63 v]] w fun e w' => e = .returned (.string { data := #[102, 105, 110, 105, 115, 104] }) ∧ Below w.heap.size w w' := by
  have hmf : ∀ (fn : Fn) (first cap : Array Value) (w : World), (Instr.makeFunc fn first cap).run Try.prog w = .ok (.func fn first cap) w := fun _ _ _ _ => rfl
  have hme : ∀ (W : World), (method (Try.prog.types.size + Made.depth) 63 v "Says").run Try.prog W = .ok (259, v) W := fun W => by kernel_rfl
  simp only [show Try.prog.types.size + Made.depth = 385 from by kernel_rfl] at hme
  have CS := Lib.hid (saysFinish v)
  go_enter_defers Try.func19, Try.ntmps19
  go_wp2_with fail
  refine (CS.out _).mono ?_; rintro _ w1 ⟨rfl, hb1⟩
  have hx1 : Bx w1 (w.heap.size + 1) 9 #[.string { data := #[] }] := (Bx.fresh' (w.alloc _) (by simp) _ _).next hb1
  have x0 := hx1.read (i := 0) (v := .string { data := #[] }) rfl
  have f0 := hx1.open_ 0
  have HB := Lib.hid (bnext (((Below.refl w.heap.size w).alloc (Nat.le_refl _) (.cells #[.int .i64 f, .int .i64 0, .int .i64 0, .bool false, .bool false, .bool false, .bool false, .bool false, .int .i64 0, .int .i64 0, .int .i64 0, .int .i64 0, .int .i64 0, .int .i64 0, .int .i64 0, .int .i64 0, .iface 63 v] 43)).alloc (by simp) (.cells #[.string { data := #[] }] 9)) hb1)
  clear hb1 hx1 CS
  go_wp2_with fail
  refine leaves_cons (f := 84) (args := #[.pointer (some ⟨w.heap.size + 1, 0, none⟩)]) (by simp) (by simp [go_sem]) ?_
  refine (catch_idle ⟨w.heap.size + 1, 0, none⟩ _).mono ?_
  rintro e u' w'' ⟨rfl, rfl, rfl⟩
  simp [Leaves, settle, results, Try.results19, go_sem, x0]
  exact (HB.out).setCell (by exact Nat.le_succ _) _
set_option maxHeartbeats 2000000 in
theorem saysBeat (v : Value) (w : World) : Calls Try.prog 260 #[v] w fun e w' => e = .returned (.string { data := #[98, 101, 97, 116] }) ∧ Below w.heap.size w w' := by
  go_enter Try.func260, Try.ntmps260
  go_wp2_with fail
  all_goals
    go_ret
    exact ⟨rfl, (Below.refl _ _).alloc (Nat.le_refl _) _⟩
set_option maxRecDepth 100000 in
set_option maxHeartbeats 4000000 in
theorem msgBeat (f : Int) (v : Value) (w : World) : Calls Try.prog 19 #[.agg #[.int .i64 f, .int .i64 0, .int .i64 0, .bool false, .bool false, .bool false, .bool false, .bool false, .int .i64 0, .int .i64 0, .int .i64 0, .int .i64 0, .int .i64 0, .int .i64 0, .int .i64 0, .int .i64 0, .iface 145 v]] w fun e w' => e = .returned (.string { data := #[98, 101, 97, 116] }) ∧ Below w.heap.size w w' := by
  have hmf : ∀ (fn : Fn) (first cap : Array Value) (w : World), (Instr.makeFunc fn first cap).run Try.prog w = .ok (.func fn first cap) w := fun _ _ _ _ => rfl
  have hme : ∀ (W : World), (method (Try.prog.types.size + Made.depth) 145 v "Says").run Try.prog W = .ok (260, v) W := fun W => by kernel_rfl
  simp only [show Try.prog.types.size + Made.depth = 385 from by kernel_rfl] at hme
  have CS := Lib.hid (saysBeat v)
  go_enter_defers Try.func19, Try.ntmps19
  go_wp2_with fail
  refine (CS.out _).mono ?_; rintro _ w1 ⟨rfl, hb1⟩
  have hx1 : Bx w1 (w.heap.size + 1) 9 #[.string { data := #[] }] := (Bx.fresh' (w.alloc _) (by simp) _ _).next hb1
  have x0 := hx1.read (i := 0) (v := .string { data := #[] }) rfl
  have f0 := hx1.open_ 0
  have HB := Lib.hid (bnext (((Below.refl w.heap.size w).alloc (Nat.le_refl _) (.cells #[.int .i64 f, .int .i64 0, .int .i64 0, .bool false, .bool false, .bool false, .bool false, .bool false, .int .i64 0, .int .i64 0, .int .i64 0, .int .i64 0, .int .i64 0, .int .i64 0, .int .i64 0, .int .i64 0, .iface 145 v] 43)).alloc (by simp) (.cells #[.string { data := #[] }] 9)) hb1)
  clear hb1 hx1 CS
  go_wp2_with fail
  refine leaves_cons (f := 84) (args := #[.pointer (some ⟨w.heap.size + 1, 0, none⟩)]) (by simp) (by simp [go_sem]) ?_
  refine (catch_idle ⟨w.heap.size + 1, 0, none⟩ _).mono ?_
  rintro e u' w'' ⟨rfl, rfl, rfl⟩
  simp [Leaves, settle, results, Try.results19, go_sem, x0]
  exact (HB.out).setCell (by exact Nat.le_succ _) _
set_option maxRecDepth 100000 in
set_option maxHeartbeats 4000000 in
theorem msgNil (f : Int) (w : World) : Calls Try.prog 19 #[.agg #[.int .i64 f, .int .i64 0, .int .i64 0, .bool false, .bool false, .bool false, .bool false, .bool false, .int .i64 0, .int .i64 0, .int .i64 0, .int .i64 0, .int .i64 0, .int .i64 0, .int .i64 0, .int .i64 0, .nilIface]] w fun e w' => e = .returned (.string { data := #[] }) ∧ Below w.heap.size w w' := by
  have hmf : ∀ (fn : Fn) (first cap : Array Value) (w : World), (Instr.makeFunc fn first cap).run Try.prog w = .ok (.func fn first cap) w := fun _ _ _ _ => rfl
  have HB := Lib.hid (((Below.refl w.heap.size w).alloc (Nat.le_refl _) (.cells #[.int .i64 f, .int .i64 0, .int .i64 0, .bool false, .bool false, .bool false, .bool false, .bool false, .int .i64 0, .int .i64 0, .int .i64 0, .int .i64 0, .int .i64 0, .int .i64 0, .int .i64 0, .int .i64 0, .nilIface] 43)).alloc (by simp) (.cells #[.string { data := #[] }] 9))
  go_enter_defers Try.func19, Try.ntmps19
  go_wp2_with fail
  simp [bodyPostD, Leaves, settle, results, Try.results19, go_sem]
  exact HB.out
end Go.Proofs.Ytaeflfgkdjfnfaa
