/- Layer 4 (stamp): clocks stay within bounds; calls of a clock in memory. -/
import Derived.Test.YtnkgicjclngnpaaSh
import Derived.Test.YtnkgicjclngnpaaSi
namespace Go.Proofs.Ytnkgicjclngnpaa
open Go.RowKit

theorem rightB_bd {s : St} (h : rightB s = true) : (0 ≤ s.x ∧ s.x ≤ 1099511627776) ∧ (0 ≤ s.y ∧ s.y ≤ 1099511627776) ∧ (0 ≤ s.z ∧ s.z ≤ 1099511627776) := by
  simp only [rightB, inB, Bool.and_eq_true, decide_eq_true_eq] at h
  exact ⟨h.1.1.1, h.1.1.2, h.1.2⟩
theorem Ck.Ok.with {k : Ck} (h : k.Ok) {s : St} (hs : rightB s = true) : Ck.Ok { k with last := s } := by
  obtain ⟨a, b, c⟩ := rightB_bd hs
  exact ⟨h.who, h.phys, a, b, c⟩
theorem Ck.Ok.tick {k : Ck} (h : k.Ok) (n : Int) : (k.tick n).Ok := ⟨h.who, cut_bd _, h.x, h.y, h.z⟩
theorem Ck.Ok.see {k : Ck} (h : k.Ok) (s : St) : (k.see s).Ok := by
  unfold Ck.see
  by_cases hr : rightB s = true
  · rw [if_pos hr]
    unfold maxS
    split
    · exact h.with hr
    · exact h
  · rw [if_neg hr]; exact h
theorem Ck.Ok.now {k : Ck} (h : k.Ok) : k.now.Ok := by
  unfold Ck.now
  by_cases hr : rightB k.next = true
  · rw [if_pos hr]; exact h.with hr
  · rw [if_neg hr]; exact h
theorem Ck.Ok.fresh (who phys : Int) : Ck.Ok ⟨cut who, cut phys, ⟨0, 0, 0⟩⟩ := ⟨cut_bd _, cut_bd _, by dsimp only; omega, by dsimp only; omega, by dsimp only; omega⟩

theorem refcut_same (n : Int) (w : World) :
    Calls Try.prog 35 #[.int .i64 n] w fun e w' => e = .returned (.int .i64 (cut n)) ∧ w' = w := (refcut_any n w).mono fun _ _ ⟨a, b⟩ => ⟨a, b.symm⟩
/-- A call of a clock, as the statement has it. -/
structure Opr where
  kind : Int
  n : Int
  s : St
def Opr.cells (o : Opr) : Array Value := #[.int .i64 o.kind, .int .i64 o.n, .int .i64 o.s.x, .int .i64 o.s.y, .int .i64 o.s.z]
/-- A slice of calls, n of them. -/
def OpsAt (w : World) (v : Value) (n : Nat) (f : Nat → Opr) : Prop :=
  ∃ a cap, v = .slice a n cap ∧ n ≤ cap ∧ n ≤ maxLen ∧ (n ≠ 0 → ∃ b off : Nat, a = some ⟨b, off, none⟩ ∧ b < w.heap.size ∧ ∀ i, i < n →
    w.cell? ⟨b, off + i * 5, none⟩ = some (.int .i64 (f i).kind) ∧ w.cell? ⟨b, off + i * 5 + 1, none⟩ = some (.int .i64 (f i).n) ∧ w.cell? ⟨b, off + i * 5 + 2, none⟩ = some (.int .i64 (f i).s.x) ∧
    w.cell? ⟨b, off + i * 5 + 3, none⟩ = some (.int .i64 (f i).s.y) ∧ w.cell? ⟨b, off + i * 5 + 4, none⟩ = some (.int .i64 (f i).s.z))
end Go.Proofs.Ytnkgicjclngnpaa
