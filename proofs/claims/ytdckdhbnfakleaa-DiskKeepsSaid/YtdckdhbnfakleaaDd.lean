/- Layer 11 (disk): a disk of one file: Append to a file that is there. -/
import Derived.Test.YtdckdhbnfakleaaDc
import Derived.Deep.RegionHeld3
namespace Go.Proofs.Ytdckdhbnfakleaa
open Go.RowKit
open Go.Maps (Keyed)

theorem row_nemap {w : World} {M n k B sz : Nat} {Dt : DataW Unit} {t : TypeId} {v : Value} {xs : List Value} (h' : w.ownsMap Try.prog 9 Rp M n Dt) (h : w.ownsRow B t sz v k xs) : v.ownBlock ≠ some M := by
  rcases h.2 with ⟨rfl, _⟩ | ⟨g, cap, cur, rfl, _, hg, _⟩
  · simp [Value.ownBlock]
  · intro e
    simp [Value.ownBlock] at e
    subst e
    obtain ⟨es, clock, hb, _⟩ := h'
    rw [hg] at hb
    cases hb
theorem ne_or {x : Option Nat} {a : Nat} (h : x = none ∨ x ≠ some a) : x ≠ some a := by
  rcases h with h | h
  · rw [h]; simp
  · exact h
/-- What Append leaves where the file is there. -/
def App2Post (B D M F : Nat) (s : ByteArray) (room ops ahead sy : Int) (l : List UInt8) (w : World) (e : Ending) (w' : World) : Prop :=
  e = .returned (.int .i64 (opS ahead).1) ∧ ∃ v, DS w' B D M F s room (opS ahead).2.1 (ops + 1) (opS ahead).2.2 v sy ∧ BO w' B v l ∧ Below B w w'
set_option maxRecDepth 100000 in
set_option maxHeartbeats 4000000 in
theorem append_next (B D M F : Nat) (s : ByteArray) (hk : keyB s = true) (hs : s.size ≤ 24) (room ops ahead : Int) (h1 : -1 ≤ ahead) (h2 : ahead ≤ 9223372036854775807) (ho : 0 ≤ ops) (ho2 : ops ≤ 1000) (v : Value) (sy : Int) (l0 : List UInt8) (vb : Value) (l : List UInt8) (hl0 : l0.length ≤ 10000) (hl : l.length ≤ 10000) (hroom : (l0.length : Int) + (l.length : Int) ≤ room) (hr2 : room ≤ 1000000)
    (w : World) (h : DS w B D M F s room false ops ahead v sy) (hv : BO w B v l0) (hB : B ≤ w.heap.size) (hb : BS w vb l) :
    Calls Try.prog 42 #[.pointer (some ⟨D, 0, none⟩), .string s, vb] w (App2Post B D M F s room ops ahead sy (l0 ++ l) w) := by
  have hsm : s.size ≤ maxLen := by unfold maxLen; omega
  have HSM := Hid.mk' hsm
  have CK := Hid.mk' (key_any s hsm w)
  rw [hk] at CK
  have hlk := lookok1 h.mp hsm
  obtain ⟨ab, cb, rfl⟩ := hb.form
  obtain ⟨av, cv, rfl⟩ := hv.bs.form
  have HH := Hid.mk' (And.intro h (And.intro hv hb))
  have HB := Hid.mk' hB
  have hop := (fun W hW => operate_any D (.map (some M)) room ops ahead h1 h2 ho ho2 W hW)
  unfold App2Post
  generalize opS ahead = x at *
  obtain ⟨x1, x2, x3⟩ := x
  dsimp only at *
  have HO := Hid.mk' hop
  clear hop
  have hd := h.dk
  unfold Dk at hd
  obtain ⟨c0, c1, c2, c3, c4⟩ := hd.reads5
  clear hd h hv hb hB hsm hk h1 h2 ho ho2
  go_enter Try.func42, Try.ntmps42
  go_wp2_with fail
  refine CK.out.mono ?_; rintro e w1 ⟨rfl, hb1⟩
  have H1 := Hid.mk' (And.intro (HH.out.1.next hb1) (And.intro (HH.out.2.1.next hb1) (And.intro (HH.out.2.2.next hb1) hb1)))
  have hd1 := H1.out.1.dk
  unfold Dk at hd1
  obtain ⟨d0, d1, d2, d3, d4⟩ := hd1.reads5
  have CU := Hid.mk' (fun (W : World) (hW : W.cell? ⟨D, 0, none⟩ = some (.map (some M)) ∧ W.cell? ⟨D, 1, none⟩ = some (.int .i64 room) ∧ Hid (Below w1.heap.size w1 W)) => (used_one B D M F s room false ops ahead (.slice av l0.length cv) sy l0 (by omega) W (H1.out.1.next hW.2.2.out) (H1.out.2.1.next hW.2.2.out).bs).mono (R' := fun e w' => e = .returned (.int .i64 (l0.length : Int)) ∧ w'.cell? ⟨D, 0, none⟩ = some (.map (some M)) ∧ w'.cell? ⟨D, 1, none⟩ = some (.int .i64 room) ∧ Hid (Below w1.heap.size w1 w')) (fun e w' ⟨a, b⟩ => by
      have hb2 := bnext hW.2.2.out b
      have hd2 := (H1.out.1.next hb2).dk
      unfold Dk at hd2
      obtain ⟨e0, e1, e2, e3, e4⟩ := hd2.reads5
      exact ⟨a, e0, e1, Hid.mk' hb2⟩))
  have hbel1 := Hid.mk' ((Below.refl w1.heap.size w1).drew)
  have hrm : IntKind.i64.wrap (room - (l0.length : Int)) = room - (l0.length : Int) := IntWalk.i64_in _ (by omega)
  have hl00 : (0 : Int) ≤ (l.length : Int) := by omega
  have hroom2 : (l.length : Int) ≤ room - (l0.length : Int) := by omega
  clear hd1 hb1 hlk c0 c1 c2 c3 c4 CK
  go_wp2_with fail
  refine wp_region_held_drew (S := fun W => W.cell? ⟨D, 0, none⟩ = some (.map (some M)) ∧ W.cell? ⟨D, 1, none⟩ = some (.int .i64 room) ∧ Hid (Below w1.heap.size w1 W)) (by kernel_rfl) ⟨d0, d1, hbel1⟩ (fun hS0 => ?_)
  refine wpAnyH_take (i := 0) (oi := { dst := some 28, op := Op.move (Operand.tmp 8), type := 4, pos := "disk.go:68", after := #[], guard := none }) (v := .bool true) (fuel := 22) rfl (by kernel_rfl) (by kernel_rfl) (by kernel_rfl) (fun _ _ _ h => h) (Or.inl ⟨by kernel_rfl, ?_⟩) hS0 ?_
  · (intro W hW; (try dsimp only at hW); (try (obtain ⟨s0, s1, s2⟩ := hW)); first | (go_simp; done) | (go_simp; with_reducible rfl) | (go_simp; rfl))
  simp only [Act.put, List.setIfInBounds_toArray, List.set_cons_zero, List.set_cons_succ]
  refine wpAnyH_take (i := 1) (oi := { dst := some 29, op := Op.unOp UnOp.not 4 (Operand.tmp 28), type := 4, pos := "disk.go:68", after := #[{ on := 0, ground := Ground.data }], guard := none }) (v := .bool false) (fuel := 21) rfl (by kernel_rfl) (by kernel_rfl) (by kernel_rfl) (fun _ _ _ h => h) (Or.inl ⟨by kernel_rfl, ?_⟩) hS0 ?_
  · (intro W hW; (try dsimp only at hW); (try (obtain ⟨s0, s1, s2⟩ := hW)); first | (go_simp; done) | (go_simp; with_reducible rfl) | (go_simp; rfl))
  simp only [Act.put, List.setIfInBounds_toArray, List.set_cons_zero, List.set_cons_succ]
  refine wpAnyH_take (i := 2) (oi := { dst := some 30, op := Op.move (Operand.tmp 29), type := 4, pos := "disk.go:68", after := #[{ on := 1, ground := Ground.data }], guard := none }) (v := .bool false) (fuel := 20) rfl (by kernel_rfl) (by kernel_rfl) (by kernel_rfl) (fun _ _ _ h => h) (Or.inl ⟨by kernel_rfl, ?_⟩) hS0 ?_
  · (intro W hW; (try dsimp only at hW); (try (obtain ⟨s0, s1, s2⟩ := hW)); first | (go_simp; done) | (go_simp; with_reducible rfl) | (go_simp; rfl))
  simp only [Act.put, List.setIfInBounds_toArray, List.set_cons_zero, List.set_cons_succ]
  refine wpAnyH_take (i := 3) (oi := { dst := some 31, op := Op.move (Operand.tmp 0), type := 63, pos := "disk.go:68", after := #[{ on := 2, ground := Ground.guard }], guard := some (2, true) }) (v := undef) (fuel := 19) rfl (by kernel_rfl) (by kernel_rfl) (by kernel_rfl) (fun _ _ _ h => h) (Or.inr ⟨by kernel_rfl, rfl⟩) hS0 ?_
  simp only [Act.put, List.setIfInBounds_toArray, List.set_cons_zero, List.set_cons_succ]
  refine wpAnyH_take (i := 4) (oi := { dst := some 32, op := Op.nilCheck (Operand.tmp 31), type := 0, pos := "disk.go:68", after := #[{ on := 3, ground := Ground.data }, { on := 2, ground := Ground.guard }], guard := some (2, true) }) (v := undef) (fuel := 18) rfl (by kernel_rfl) (by kernel_rfl) (by kernel_rfl) (fun _ _ _ h => h) (Or.inr ⟨by kernel_rfl, rfl⟩) hS0 ?_
  simp only [Act.put, List.setIfInBounds_toArray, List.set_cons_zero, List.set_cons_succ]
  refine wpAnyH_take (i := 5) (oi := { dst := some 33, op := Op.fieldAddr 89 (Operand.tmp 32) 0, type := 0, pos := "disk.go:68", after := #[{ on := 4, ground := Ground.data }, { on := 2, ground := Ground.guard }], guard := some (2, true) }) (v := undef) (fuel := 17) rfl (by kernel_rfl) (by kernel_rfl) (by kernel_rfl) (fun _ _ _ h => h) (Or.inr ⟨by kernel_rfl, rfl⟩) hS0 ?_
  simp only [Act.put, List.setIfInBounds_toArray, List.set_cons_zero, List.set_cons_succ]
  refine wpAnyH_take (i := 6) (oi := { dst := some 34, op := Op.load 87 (Operand.tmp 33), type := 87, pos := "disk.go:68", after := #[{ on := 5, ground := Ground.data }, { on := 2, ground := Ground.guard }], guard := some (2, true) }) (v := undef) (fuel := 16) rfl (by kernel_rfl) (by kernel_rfl) (by kernel_rfl) (fun _ _ _ h => h) (Or.inr ⟨by kernel_rfl, rfl⟩) hS0 ?_
  simp only [Act.put, List.setIfInBounds_toArray, List.set_cons_zero, List.set_cons_succ]
  refine wpAnyH_take (i := 7) (oi := { dst := some 35, op := Op.call { callee := Callee.builtin Builtin.len, args := #[Operand.tmp 34], argTypes := #[87] }, type := 3, pos := "disk.go:68", after := #[{ on := 6, ground := Ground.data }, { on := 2, ground := Ground.chain }, { on := 2, ground := Ground.guard }], guard := some (2, true) }) (v := undef) (fuel := 15) rfl (by kernel_rfl) (by kernel_rfl) (by kernel_rfl) (fun _ _ _ h => h) (Or.inr ⟨by kernel_rfl, rfl⟩) hS0 ?_
  simp only [Act.put, List.setIfInBounds_toArray, List.set_cons_zero, List.set_cons_succ]
  refine wpAnyH_take (i := 8) (oi := { dst := some 36, op := Op.binOp BinOp.geq 3 (Operand.tmp 35) (Operand.const (Value.int IntKind.i64 200)) 3, type := 4, pos := "disk.go:68", after := #[{ on := 7, ground := Ground.data }, { on := 2, ground := Ground.guard }], guard := some (2, true) }) (v := undef) (fuel := 14) rfl (by kernel_rfl) (by kernel_rfl) (by kernel_rfl) (fun _ _ _ h => h) (Or.inr ⟨by kernel_rfl, rfl⟩) hS0 ?_
  simp only [Act.put, List.setIfInBounds_toArray, List.set_cons_zero, List.set_cons_succ]
  refine wpAnyH_take (i := 9) (oi := { dst := some 37, op := Op.pick (Operand.tmp 30) (Operand.tmp 36) (Operand.const (Value.bool false)), type := 4, pos := "disk.go:68", after := #[{ on := 2, ground := Ground.data }, { on := 8, ground := Ground.data }], guard := none }) (v := .bool false) (fuel := 13) rfl (by kernel_rfl) (by kernel_rfl) (by kernel_rfl) (fun _ _ _ h => h) (Or.inl ⟨by kernel_rfl, ?_⟩) hS0 ?_
  · (intro W hW; (try dsimp only at hW); (try (obtain ⟨s0, s1, s2⟩ := hW)); first | (go_simp; done) | (go_simp; with_reducible rfl) | (go_simp; rfl))
  simp only [Act.put, List.setIfInBounds_toArray, List.set_cons_zero, List.set_cons_succ]
  refine wpAnyH_take (i := 10) (oi := { dst := some 38, op := Op.move (Operand.tmp 37), type := 4, pos := "disk.go:68", after := #[{ on := 9, ground := Ground.data }, { on := 7, ground := Ground.chain }], guard := none }) (v := .bool false) (fuel := 12) rfl (by kernel_rfl) (by kernel_rfl) (by kernel_rfl) (fun _ _ _ h => h) (Or.inl ⟨by kernel_rfl, ?_⟩) hS0 ?_
  · (intro W hW; (try dsimp only at hW); (try (obtain ⟨s0, s1, s2⟩ := hW)); first | (go_simp; done) | (go_simp; with_reducible rfl) | (go_simp; rfl))
  simp only [Act.put, List.setIfInBounds_toArray, List.set_cons_zero, List.set_cons_succ]
  refine wpAnyH_take (i := 11) (oi := { dst := some 39, op := Op.move (Operand.tmp 2), type := 60, pos := "disk.go:68", after := #[{ on := 10, ground := Ground.guard }], guard := some (10, false) }) (v := .slice ab l.length cb) (fuel := 11) rfl (by kernel_rfl) (by kernel_rfl) (by kernel_rfl) (fun _ _ _ h => h) (Or.inl ⟨by kernel_rfl, ?_⟩) hS0 ?_
  · (intro W hW; (try dsimp only at hW); (try (obtain ⟨s0, s1, s2⟩ := hW)); first | (go_simp; done) | (go_simp; with_reducible rfl) | (go_simp; rfl))
  simp only [Act.put, List.setIfInBounds_toArray, List.set_cons_zero, List.set_cons_succ]
  refine wpAnyH_take (i := 12) (oi := { dst := some 40, op := Op.call { callee := Callee.builtin Builtin.len, args := #[Operand.tmp 39], argTypes := #[60] }, type := 3, pos := "disk.go:68", after := #[{ on := 11, ground := Ground.data }, { on := 10, ground := Ground.guard }], guard := some (10, false) }) (v := .int .i64 (l.length : Int)) (fuel := 10) rfl (by kernel_rfl) (by kernel_rfl) (by kernel_rfl) (fun _ _ _ h => h) (Or.inl ⟨by kernel_rfl, ?_⟩) hS0 ?_
  · (intro W hW; (try dsimp only at hW); (try (obtain ⟨s0, s1, s2⟩ := hW)); first | (go_simp; done) | (go_simp; with_reducible rfl) | (go_simp; rfl))
  simp only [Act.put, List.setIfInBounds_toArray, List.set_cons_zero, List.set_cons_succ]
  refine wpAnyH_take (i := 13) (oi := { dst := some 41, op := Op.move (Operand.tmp 0), type := 63, pos := "disk.go:68", after := #[{ on := 10, ground := Ground.guard }], guard := some (10, false) }) (v := .pointer (some ⟨D, 0, none⟩)) (fuel := 9) rfl (by kernel_rfl) (by kernel_rfl) (by kernel_rfl) (fun _ _ _ h => h) (Or.inl ⟨by kernel_rfl, ?_⟩) hS0 ?_
  · (intro W hW; (try dsimp only at hW); (try (obtain ⟨s0, s1, s2⟩ := hW)); first | (go_simp; done) | (go_simp; with_reducible rfl) | (go_simp; rfl))
  simp only [Act.put, List.setIfInBounds_toArray, List.set_cons_zero, List.set_cons_succ]
  refine wpAnyH_take (i := 14) (oi := { dst := some 42, op := Op.nilCheck (Operand.tmp 41), type := 0, pos := "disk.go:68", after := #[{ on := 13, ground := Ground.data }, { on := 10, ground := Ground.guard }], guard := some (10, false) }) (v := .pointer (some ⟨D, 0, none⟩)) (fuel := 8) rfl (by kernel_rfl) (by kernel_rfl) (by kernel_rfl) (fun _ _ _ h => h) (Or.inl ⟨by kernel_rfl, ?_⟩) hS0 ?_
  · (intro W hW; (try dsimp only at hW); (try (obtain ⟨s0, s1, s2⟩ := hW)); first | (go_simp; done) | (go_simp; with_reducible rfl) | (go_simp; rfl))
  simp only [Act.put, List.setIfInBounds_toArray, List.set_cons_zero, List.set_cons_succ]
  refine wpAnyH_take (i := 15) (oi := { dst := some 43, op := Op.fieldAddr 89 (Operand.tmp 42) 1, type := 0, pos := "disk.go:68", after := #[{ on := 14, ground := Ground.data }, { on := 10, ground := Ground.guard }], guard := some (10, false) }) (v := .pointer (some ⟨D, 1, none⟩)) (fuel := 7) rfl (by kernel_rfl) (by kernel_rfl) (by kernel_rfl) (fun _ _ _ h => h) (Or.inl ⟨by kernel_rfl, ?_⟩) hS0 ?_
  · (intro W hW; (try dsimp only at hW); (try (obtain ⟨s0, s1, s2⟩ := hW)); first | (go_simp; done) | (go_simp; with_reducible rfl) | (go_simp; rfl))
  simp only [Act.put, List.setIfInBounds_toArray, List.set_cons_zero, List.set_cons_succ]
  refine wpAnyH_take (i := 16) (oi := { dst := some 44, op := Op.load 3 (Operand.tmp 43), type := 3, pos := "disk.go:68", after := #[{ on := 15, ground := Ground.data }, { on := 10, ground := Ground.guard }], guard := some (10, false) }) (v := .int .i64 room) (fuel := 6) rfl (by kernel_rfl) (by kernel_rfl) (by kernel_rfl) (fun _ _ _ h => h) (Or.inl ⟨by kernel_rfl, ?_⟩) hS0 ?_
  · (intro W hW; (try dsimp only at hW); (try (obtain ⟨s0, s1, s2⟩ := hW)); first | (go_simp; done) | (go_simp; with_reducible rfl) | (go_simp; rfl))
  simp only [Act.put, List.setIfInBounds_toArray, List.set_cons_zero, List.set_cons_succ]
  refine wpAnyH_take (i := 17) (oi := { dst := some 45, op := Op.move (Operand.tmp 0), type := 63, pos := "disk.go:68", after := #[{ on := 10, ground := Ground.guard }], guard := some (10, false) }) (v := .pointer (some ⟨D, 0, none⟩)) (fuel := 5) rfl (by kernel_rfl) (by kernel_rfl) (by kernel_rfl) (fun _ _ _ h => h) (Or.inl ⟨by kernel_rfl, ?_⟩) hS0 ?_
  · (intro W hW; (try dsimp only at hW); (try (obtain ⟨s0, s1, s2⟩ := hW)); first | (go_simp; done) | (go_simp; with_reducible rfl) | (go_simp; rfl))
  simp only [Act.put, List.setIfInBounds_toArray, List.set_cons_zero, List.set_cons_succ]
  refine wpAnyH_ready (rs := [18]) (fuel := 4) (by kernel_rfl) (by simp) ?_
  refine AllReadyH.cons (o := { dst := some 46, op := Op.call { callee := Callee.value (Operand.func 68), args := #[Operand.tmp 45], argTypes := #[63] }, type := 3, pos := "disk.go:68", after := #[{ on := 17, ground := Ground.data }, { on := 10, ground := Ground.chain }, { on := 10, ground := Ground.guard }], guard := some (10, false) }) rfl (fun K hK => ?_) AllReadyH.nil
  go_simp
  refine (CU.out _ hS0).mono ?_; rintro e w6 ⟨rfl, k0, k1, k3⟩
  go_simp
  refine hK.out _ _ ⟨k0, k1, k3⟩ (fun hS1 => ?_)
  clear hK K
  try simp only [Act.put, List.setIfInBounds_toArray, List.set_cons_zero, List.set_cons_succ]
  refine wpAnyH_take (i := 19) (oi := { dst := some 47, op := Op.binOp BinOp.sub 3 (Operand.tmp 44) (Operand.tmp 46) 3, type := 3, pos := "disk.go:68", after := #[{ on := 16, ground := Ground.data }, { on := 18, ground := Ground.data }, { on := 10, ground := Ground.guard }], guard := some (10, false) }) (v := .int .i64 (room - (l0.length : Int))) (fuel := 3) rfl (by kernel_rfl) (by kernel_rfl) (by kernel_rfl) (fun _ _ _ h => h) (Or.inl ⟨by kernel_rfl, ?_⟩) hS1 ?_
  · (intro W hW; (try dsimp only at hW); (try (obtain ⟨s0, s1, s2⟩ := hW)); first | (go_simp; done) | (go_simp; with_reducible rfl) | (go_simp; rfl))
  simp only [Act.put, List.setIfInBounds_toArray, List.set_cons_zero, List.set_cons_succ]
  refine wpAnyH_take (i := 20) (oi := { dst := some 48, op := Op.binOp BinOp.gtr 3 (Operand.tmp 40) (Operand.tmp 47) 3, type := 4, pos := "disk.go:68", after := #[{ on := 12, ground := Ground.data }, { on := 19, ground := Ground.data }, { on := 10, ground := Ground.guard }], guard := some (10, false) }) (v := .bool false) (fuel := 2) rfl (by kernel_rfl) (by kernel_rfl) (by kernel_rfl) (fun _ _ _ h => h) (Or.inl ⟨by kernel_rfl, ?_⟩) hS1 ?_
  · (intro W hW; (try dsimp only at hW); (try (obtain ⟨s0, s1, s2⟩ := hW)); first | (go_simp; done) | (go_simp; with_reducible rfl) | (go_simp; rfl))
  simp only [Act.put, List.setIfInBounds_toArray, List.set_cons_zero, List.set_cons_succ]
  refine wpAnyH_take (i := 21) (oi := { dst := some 49, op := Op.pick (Operand.tmp 38) (Operand.const (Value.bool true)) (Operand.tmp 48), type := 4, pos := "disk.go:68", after := #[{ on := 10, ground := Ground.data }, { on := 20, ground := Ground.data }], guard := none }) (v := .bool false) (fuel := 1) rfl (by kernel_rfl) (by kernel_rfl) (by kernel_rfl) (fun _ _ _ h => h) (Or.inl ⟨by kernel_rfl, ?_⟩) hS1 ?_
  · (intro W hW; (try dsimp only at hW); (try (obtain ⟨s0, s1, s2⟩ := hW)); first | (go_simp; done) | (go_simp; with_reducible rfl) | (go_simp; rfl))
  simp only [Act.put, List.setIfInBounds_toArray, List.set_cons_zero, List.set_cons_succ]
  refine wpAnyH_take (i := 22) (oi := { dst := some 27, op := Op.assign (Operand.tmp 49), type := 4, pos := "disk.go:68", after := #[{ on := 21, ground := Ground.data }, { on := 18, ground := Ground.chain }], guard := none }) (v := .bool false) (fuel := 0) rfl (by kernel_rfl) (by kernel_rfl) (by kernel_rfl) (fun _ _ _ h => h) (Or.inl ⟨by kernel_rfl, ?_⟩) hS1 ?_
  · (intro W hW; (try dsimp only at hW); (try (obtain ⟨s0, s1, s2⟩ := hW)); first | (go_simp; done) | (go_simp; with_reducible rfl) | (go_simp; rfl))
  simp only [Act.put, List.setIfInBounds_toArray, List.set_cons_zero, List.set_cons_succ]
  refine wpAnyH_done (by kernel_rfl) ?_ _
  have h6 := H1.out.1.next k3.out
  have ho6 := H1.out.2.1.next k3.out
  have hbs6 := H1.out.2.2.1.next k3.out
  have hb6 : Below B w w6 := ((Below.refl B w).trans (H1.out.2.2.2.mono HB.out)).trans (k3.out.mono (Nat.le_trans HB.out H1.out.2.2.2.size))
  have hB6 : B ≤ w6.heap.size := Nat.le_trans HB.out hb6.size
  have H6 := Hid.mk' (And.intro h6 (And.intro ho6 (And.intro hbs6 (And.intro hb6 hB6))))
  obtain ⟨f0, f1⟩ := And.intro (h6.fl.read (i := 0) rfl) (h6.fl.read (i := 1) rfl)
  clear h6 ho6 hbs6 hb6 hB6 k0 k1 k3 hS0 hS1 d0 d1 d2 d3 d4 CU
  go_wp2_with (at_builtin; refine wpList_append_bs rfl (.tmp 64) (.tmp 65) rfl B _ _ l0 l rfl rfl H6.out.2.1 H6.out.2.2.1 (by omega) H6.out.2.2.2.2 ?_)
  intro v8 w8 ho8 hg8
  obtain ⟨a8, c8, hv8⟩ := ho8.bs.form
  subst hv8
  have hrow := H6.out.2.1
  have hb8 : Below B w w8 := H6.out.2.2.2.1.grown hg8 H6.out.2.2.2.2 (fun j hj => (World.ownsRow.lt hrow j hj).1)
  have hds8 : DS w8 B D M F s room false ops ahead (.slice av l0.length cv) sy := ⟨Bx.grown H6.out.1.dk hg8 (ne_or (bx_row H6.out.1.dk hrow (by decide))), H6.out.1.mp.kept hg8 (fun e => row_nemap H6.out.1.mp hrow e.symm), H6.out.1.fl.grown hg8 (ne_or (bx_row H6.out.1.fl hrow (by decide))), H6.out.1.bd, H6.out.1.bm, H6.out.1.bf⟩
  obtain ⟨e0, e1⟩ := And.intro (hds8.fl.read (i := 0) rfl) (hds8.fl.read (i := 1) rfl)
  have e2 := hds8.fl.open_ 0
  have hds9 := hds8.flset (v' := .slice a8 (l0 ++ l).length c8) (sy' := sy) 0 (.slice a8 (l0 ++ l).length c8) rfl
  have ho9 : BO (w8.setCell ⟨F, 0, none⟩ (.slice a8 (l0 ++ l).length c8)) B (.slice a8 (l0 ++ l).length c8) (l0 ++ l) := World.ownsRow.kept ho8 (gb_set _ _ _ _) (bx_row hds8.fl ho8 (by decide))
  have hb9 := bgB HB.out hb8 (gb_set w8 F 0 (.slice a8 (l0 ++ l).length c8)) H6.out.1.bf
  have CO := Hid.mk' (HO.out _ hds9.dk)
  have H9 := Hid.mk' (And.intro hds9 (And.intro ho9 hb9))
  clear hds8 hds9 ho9 hb9 hb8 ho8 hg8 hrow H6 HO H1 HH HSM f0 f1
  generalize (l0 ++ l).length = N at *
  go_wp2_with fail
  refine CO.out.mono ?_; rintro e w10 ⟨rfl, hd10, hg10⟩
  have H10 := Hid.mk' (show DS w10 B D M F s room x2 (ops + 1) x3 (.slice a8 N c8) sy ∧ BO w10 B (.slice a8 N c8) (l0 ++ l) ∧ Below B w w10 from ⟨H9.out.1.dkset hd10 hg10, H9.out.1.rowset H9.out.2.1 hg10, bgB HB.out H9.out.2.2 hg10 H9.out.1.bd⟩)
  clear hd10 hg10 H9
  go_wp2_with fail
  go_ret
  exact ⟨rfl, _, H10.out⟩
end Go.Proofs.Ytdckdhbnfakleaa
