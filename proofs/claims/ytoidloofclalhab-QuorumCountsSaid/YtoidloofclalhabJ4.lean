/- Layer 32 (quorum): the counts: New, Say, Yes, No, Said. -/
import Derived.Test.YtoidloofclalhabJ2
import Derived.Test.YtoidloofclalhabKg
import Derived.RegionTactic
import Derived.BigRegion
import Derived.Deep.QuietTactic
import Derived.BigQuiet
import Derived.ChangeAlike
namespace Go.Proofs.Ytoidloofclalhab
open Go.RowKit

/-- A count in memory: what is needed, of how many; who said something, and whether that was OK; how many were, how many weren't, the first one that wasn't. -/
structure Qs where
  need : Int
  cp : Int
  S : Nat → Bool
  O : Nat → Bool
  yes : Int
  no : Int
  first : Int
def Qs.cells (q : Qs) : Array Value := #[.int .i64 q.need, .int .i64 q.cp, .bool (q.S 0), .bool (q.O 0), .bool (q.S 1), .bool (q.O 1), .bool (q.S 2), .bool (q.O 2), .bool (q.S 3), .bool (q.O 3), .bool (q.S 4), .bool (q.O 4), .int .i64 q.yes, .int .i64 q.no, .int .i64 q.first]
def upd (f : Nat → Bool) (n : Nat) (b : Bool) : Nat → Bool := fun i => if i = n then b else f i
def Qc (w : World) (c : Nat) (q : Qs) : Prop := Bx w c 79 q.cells
/-- An answer taken. -/
def Qs.say (q : Qs) (n : Nat) (why : Int) : Qs :=
  if q.S n = true then q else
  if why = 0 then { q with S := upd q.S n true, O := upd q.O n true, yes := q.yes + 1 }
  else { q with S := upd q.S n true, O := upd q.O n false, no := q.no + 1, first := if q.no = 0 then why else q.first }

theorem is_any (n : Int) (w : World) : Calls Try.prog 45 #[.int .i64 n] w fun e w' => e = .returned (.bool (decide (0 ≤ n ∧ n < 5))) ∧ w = w' := by
  by_cases h0 : 0 ≤ n
  · by_cases h5 : n < 5
    · go_enter Try.func45, Try.ntmps45
      go_wp2_with fail
      go_ret
      exact ⟨by simp; omega, rfl⟩
    · go_enter Try.func45, Try.ntmps45
      go_wp2_with fail
      go_ret
      exact ⟨by simp; omega, rfl⟩
  · go_enter Try.func45, Try.ntmps45
    go_wp2_with fail
    go_ret
    exact ⟨by simp; omega, rfl⟩
theorem is_yes (n : Int) (h0 : 0 ≤ n) (h5 : n < 5) (w : World) : Calls Try.prog 45 #[.int .i64 n] w fun e w' => e = .returned (.bool true) ∧ w = w' :=
  (is_any n w).mono fun _ _ ⟨h, h2⟩ => ⟨by rw [h, decide_eq_true ⟨h0, h5⟩], h2⟩
theorem is_no (n : Int) (h : n < 0 ∨ 5 ≤ n) (w : World) : Calls Try.prog 45 #[.int .i64 n] w fun e w' => e = .returned (.bool false) ∧ w = w' :=
  (is_any n w).mono fun _ _ ⟨h1, h2⟩ => ⟨by rw [h1, decide_eq_false (by omega)], h2⟩
theorem qnew_any (need cp : Int) (w : World) :
    Calls Try.prog 17 #[.int .i64 need, .int .i64 cp] w fun e w' => e = .returned (.pointer (some ⟨w.heap.size, 0, none⟩)) ∧ Qc w' w.heap.size ⟨need, max cp 0, fun _ => false, fun _ => false, 0, 0, 0⟩ ∧ Below w.heap.size w w' := by
  go_enter Try.func17, Try.ntmps17
  go_wp2_with fail
  go_ret
  exact ⟨rfl, Bx.fresh _ _ _, (Below.refl _ _).alloc (Nat.le_refl _) _⟩
theorem reads15 {w : World} {c : Nat} {t : TypeId} {a0 a1 a2 a3 a4 a5 a6 a7 a8 a9 a10 a11 a12 a13 a14 : Value} (h : Bx w c t #[a0, a1, a2, a3, a4, a5, a6, a7, a8, a9, a10, a11, a12, a13, a14]) :
    w.cell? ⟨c, 0, none⟩ = some a0 ∧ w.cell? ⟨c, 1, none⟩ = some a1 ∧ w.cell? ⟨c, 2, none⟩ = some a2 ∧ w.cell? ⟨c, 3, none⟩ = some a3 ∧ w.cell? ⟨c, 4, none⟩ = some a4 ∧ w.cell? ⟨c, 5, none⟩ = some a5 ∧ w.cell? ⟨c, 6, none⟩ = some a6 ∧ w.cell? ⟨c, 7, none⟩ = some a7 ∧ w.cell? ⟨c, 8, none⟩ = some a8 ∧ w.cell? ⟨c, 9, none⟩ = some a9 ∧ w.cell? ⟨c, 10, none⟩ = some a10 ∧ w.cell? ⟨c, 11, none⟩ = some a11 ∧ w.cell? ⟨c, 12, none⟩ = some a12 ∧ w.cell? ⟨c, 13, none⟩ = some a13 ∧ w.cell? ⟨c, 14, none⟩ = some a14 :=
  ⟨h.read rfl, h.read rfl, h.read rfl, h.read rfl, h.read rfl, h.read rfl, h.read rfl, h.read rfl, h.read rfl, h.read rfl, h.read rfl, h.read rfl, h.read rfl, h.read rfl, h.read rfl⟩
theorem yes_any (c : Nat) (q : Qs) (w : World) (h : Qc w c q) :
    Calls Try.prog 19 #[.pointer (some ⟨c, 0, none⟩)] w fun e w' => e = .returned (.bool (decide (q.need ≤ q.yes))) ∧ ∃ n, w' = w.drewN n := by
  obtain ⟨need, cp, S, O, yes, no, first⟩ := q
  unfold Qc Qs.cells at h
  dsimp only at *
  have c0 := h.read (i := 0) rfl
  have c12 := h.read (i := 12) rfl
  clear h
  go_enter Try.func19, Try.ntmps19
  go_wp2_with fail
  go_quiet (fail)
  go_wp2_with fail
  go_ret
  exact ⟨rfl, _, rfl⟩
end Go.Proofs.Ytoidloofclalhab
