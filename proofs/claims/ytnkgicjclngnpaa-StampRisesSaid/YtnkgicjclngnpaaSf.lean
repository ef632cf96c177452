/- Layer 4 (stamp): the clock's calls. -/
import Derived.Test.YtnkgicjclngnpaaSe
import Derived.Test.YtnkgicjclngnpaaKg
import Derived.Deep.RegionHeld3
import Derived.RegionTactic
import Derived.BigRegion
import Derived.IntWalk
namespace Go.Proofs.Ytnkgicjclngnpaa
open Go.RowKit

/-- A clock in memory. -/
structure Ck where
  who : Int
  phys : Int
  last : St
def Ck.cells (k : Ck) : Array Value := #[.int .i64 k.who, .int .i64 k.phys, .int .i64 k.last.x, .int .i64 k.last.y, .int .i64 k.last.z]
def Clk (w : World) (c : Nat) (k : Ck) : Prop := Bx w c 83 k.cells
def Ck.tick (k : Ck) (n : Int) : Ck := { k with phys := cut (k.phys + cut n) }
def Ck.see (k : Ck) (s : St) : Ck := if rightB s = true then { k with last := maxS k.last s } else k
def Ck.next (k : Ck) : St := if k.last.x < k.phys then ⟨k.phys, 0, k.who⟩ else ⟨k.last.x, k.last.y + 1, k.who⟩
def Ck.now (k : Ck) : Ck := if rightB k.next = true then { k with last := k.next } else k
def zeroS : St := ⟨0, 0, 0⟩
def Ck.told (k : Ck) : St := if rightB k.next = true then k.next else zeroS
/-- All numbers of a clock are from 0 to the greatest one. -/
structure Ck.Ok (k : Ck) : Prop where
  who : 0 ≤ k.who ∧ k.who ≤ 1099511627776
  phys : 0 ≤ k.phys ∧ k.phys ≤ 1099511627776
  x : 0 ≤ k.last.x ∧ k.last.x ≤ 1099511627776
  y : 0 ≤ k.last.y ∧ k.last.y ≤ 1099511627776
  z : 0 ≤ k.last.z ∧ k.last.z ≤ 1099511627776
theorem cut_bd (n : Int) : 0 ≤ cut n ∧ cut n ≤ 1099511627776 := by unfold cut; omega

theorem new_any (who phys : Int) (w : World) :
    Calls Try.prog 34 #[.int .i64 who, .int .i64 phys] w fun e w' => e = .returned (.pointer (some ⟨w.heap.size, 0, none⟩)) ∧ Clk w' w.heap.size ⟨cut who, cut phys, zeroS⟩ ∧ Below w.heap.size w w' := by
  go_enter Try.func34, Try.ntmps34
  go_wp2_with fail
  refine (within_any _ _).mono ?_; rintro e w' ⟨rfl, rfl⟩
  go_wp2_with fail
  refine (within_any _ _).mono ?_; rintro e w' ⟨rfl, rfl⟩
  go_wp2_with fail
  go_ret
  exact ⟨rfl, Bx.fresh _ _ _, (Below.refl _ _).alloc (Nat.le_refl _) _⟩
theorem phys_any (c : Nat) (k : Ck) (w : World) (h : Clk w c k) :
    Calls Try.prog 40 #[.pointer (some ⟨c, 0, none⟩)] w fun e w' => e = .returned (.int .i64 k.phys) ∧ w' = w := by
  obtain ⟨who, phys, ⟨x, y, z⟩⟩ := k
  obtain ⟨c0, c1, c2, c3, c4⟩ := Bx.reads5 h
  dsimp only at *
  clear h
  go_enter Try.func40, Try.ntmps40
  go_wp2_with fail
  go_ret
  exact ⟨rfl, rfl⟩
theorem last_any (c : Nat) (k : Ck) (w : World) (h : Clk w c k) :
    Calls Try.prog 41 #[.pointer (some ⟨c, 0, none⟩)] w fun e w' => e = .returned (.agg k.last.cells) ∧ Below w.heap.size w w' := by
  obtain ⟨who, phys, ⟨x, y, z⟩⟩ := k
  have hin : c < w.heap.size := h.inside
  obtain ⟨c0, c1, c2, c3, c4⟩ := Bx.reads5 h
  unfold St.cells
  dsimp only at *
  clear h
  go_enter Try.func41, Try.ntmps41
  go_wp2_with fail
  exact bodyPost_ret (v := .agg #[.int .i64 x, .int .i64 y, .int .i64 z]) (by simp [results, Try.results41, go_sem]) rfl ⟨rfl, (Below.refl _ _).alloc (Nat.le_refl _) _⟩
theorem tick_any (c : Nat) (k : Ck) (n : Int) (hk : 0 ≤ k.phys ∧ k.phys ≤ 1099511627776) (w : World) (h : Clk w c k) :
    Calls Try.prog 36 #[.pointer (some ⟨c, 0, none⟩), .int .i64 n] w fun e w' => e = .returned (.tuple #[]) ∧ Clk w' c (k.tick n) ∧ w.grownBy w' (some c) := by
  have HC := Hid.mk' ((Bx.put (w := w.drew) h 1 (.int .i64 (cut (k.phys + cut n)))))
  obtain ⟨who, phys, ⟨x, y, z⟩⟩ := k
  obtain ⟨c0, c1, c2, c3, c4⟩ := Bx.reads5 h
  obtain ⟨f0, f1, f2, f3, f4⟩ := Bx.opens5 h
  have hb := cut_bd n
  unfold Ck.tick
  dsimp only at *
  obtain ⟨hk1, hk2⟩ := hk
  obtain ⟨hb1, hb2⟩ := hb
  clear h
  have hs : IntKind.i64.wrap (phys + cut n) = phys + cut n := IntWalk.i64_in _ (by omega)
  go_enter Try.func36, Try.ntmps36
  go_wp2_with fail
  refine region_tail 11 (by kernel_rfl) (by kernel_rfl) ?_
  simp only [List.take_succ_cons, List.take_zero, List.drop_succ_cons, List.drop_zero]
  repeat (first | still_step | still_call (within_same _ _))
  refine wpStill_nil ?_
  go_wp2_with fail
  go_end0
  exact ⟨rfl, HC.out, gb_trans (gb_drew _ _) (gb_set _ _ _ _)⟩
set_option maxHeartbeats 1000000 in
theorem see_any (c : Nat) (k : Ck) (s : St) (w : World) (h : Clk w c k) :
    Calls Try.prog 37 #[.pointer (some ⟨c, 0, none⟩), .agg s.cells] w fun e w' => e = .returned (.tuple #[]) ∧ Clk w' c (k.see s) ∧ w.grownBy w' (some c) := by
  have CR := Hid.mk' (right_any s)
  have CM := Hid.mk' (max_any k.last s)
  have hin : c < w.heap.size := h.inside
  have h1 : Bx (w.alloc (.cells s.cells 46)) c 83 k.cells := h.past _
  have b1 := Bx.fresh w 46 s.cells
  have g1 := gb_alloc w (.cells s.cells 46) (some c)
  unfold Ck.see
  cases hr : rightB s with
  | false =>
    rw [hr] at CR
    simp only [Bool.false_eq_true, if_false]
    obtain ⟨x, y, z⟩ := s
    unfold St.cells at *
    dsimp only at *
    clear hr CM
    go_enter Try.func37, Try.ntmps37
    go_wp2_with fail
    refine (CR.out _).mono ?_; rintro e w1 ⟨rfl, hb1⟩
    go_wp2_with fail
    go_end0
    exact ⟨rfl, h1.next hb1, gb_trans g1 (gb_below hb1 _)⟩
  | true =>
    rw [hr] at CR
    simp only [if_true]
    obtain ⟨x, y, z⟩ := s
    obtain ⟨who, phys, ⟨lx, ly, lz⟩⟩ := k
    unfold Clk Ck.cells
    dsimp only
    generalize maxS ⟨lx, ly, lz⟩ ⟨x, y, z⟩ = m at *
    obtain ⟨mx, my, mz⟩ := m
    unfold Ck.cells at h1
    unfold St.cells at *
    dsimp only at *
    clear hr h
    go_enter Try.func37, Try.ntmps37
    go_wp2_with fail
    refine (CR.out _).mono ?_; rintro e w1 ⟨rfl, hb1⟩
    have h2 := h1.next hb1
    have b2 := b1.next hb1
    have g2 := gb_trans g1 (gb_below hb1 (some c))
    obtain ⟨c0, c1, c2, c3, c4⟩ := Bx.reads5 h2
    obtain ⟨f0, f1, f2, f3, f4⟩ := Bx.opens5 h2
    obtain ⟨s0, s1, s2⟩ := Bx.reads3 b2
    clear h1 b1 g1 hb1
    go_wp2_with fail
    clear c0 c1 f0 f1 f2 f3 f4
    go_region_with ((go_at_call 29; refine (CM.out _).mono ?_; rintro e w2 ⟨rfl, hb2⟩; have h3 := (h2.drawn 1).next hb2; obtain ⟨e0, e1, e2, e3, e4⟩ := Bx.opens5 h3; obtain ⟨d0, d1, d2, d3, d4⟩ := Bx.reads5 h3))
    all_goals
      go_wp2_with fail
      go_end0
      exact ⟨rfl, ((h3.put 2 _).put 3 _).put 4 _, gb_trans (gb_trans (gb_trans (gb_trans g2 (gb_trans (gb_drew _ _) (gb_below hb2 _))) (gb_set _ _ _ _)) (gb_set _ _ _ _)) (gb_set _ _ _ _)⟩
end Go.Proofs.Ytnkgicjclngnpaa
