/- Layer 32 (quorum): the law's loop: the statement QuorumCounts' walk. -/
import Derived.Test.YtoidloofclalhabJ6
namespace Go.Proofs.Ytoidloofclalhab
open Go.RowKit

def inR (nd : Int) : Bool := decide (0 ≤ nd ∧ nd < 5)
/-- What becomes of a count by an answer of whomever. -/
def Qs.step (q : Qs) (nd why : Int) : Qs := if inR nd = true then q.say nd.toNat why else q
def Qs.cnt (q : Qs) (nd : Int) : Bool := inR nd && !q.S nd.toNat
structure Qs.Ok (q : Qs) (k : Nat) : Prop where
  y0 : 0 ≤ q.yes
  y1 : q.yes ≤ k
  n0 : 0 ≤ q.no
  n1 : q.no ≤ k
  f0 : q.no = 0 ↔ q.first = 0
theorem Qs.Ok.more {q : Qs} {k : Nat} (h : q.Ok k) : q.Ok (k + 1) := ⟨h.y0, by have := h.y1; omega, h.n0, by have := h.n1; omega, h.f0⟩
theorem Qs.Ok.step {q : Qs} {k : Nat} (h : q.Ok k) (nd why : Int) : (q.step nd why).Ok (k + 1) := by
  have ⟨a, b, c, d, e⟩ := h
  unfold Qs.step
  split
  · unfold Qs.say
    split
    · exact h.more
    · split
      · exact ⟨by dsimp only; omega, by dsimp only; omega, c, by dsimp only; omega, e⟩
      · rename_i _ hw
        refine ⟨a, by dsimp only; omega, by dsimp only; omega, by dsimp only; omega, ?_⟩
        dsimp only
        split
        · constructor
          · intro; omega
          · intro h5; exact absurd h5 hw
        · constructor
          · intro; omega
          · intro h5; have := e.2 h5; omega
  · exact h.more
theorem step_cp (q : Qs) (nd why : Int) : (q.step nd why).need = q.need ∧ (q.step nd why).cp = q.cp := by
  unfold Qs.step Qs.say
  split
  · split
    · exact ⟨rfl, rfl⟩
    · split <;> exact ⟨rfl, rfl⟩
  · exact ⟨rfl, rfl⟩
theorem say_step (c : Nat) (q : Qs) (k : Nat) (hk : k ≤ 100) (hq : q.Ok k) (nd why : Int) (w : World) (h : Qc w c q) :
    Calls Try.prog 18 #[.pointer (some ⟨c, 0, none⟩), .int .i64 nd, .int .i64 why] w fun e w' => e = .returned (.bool (q.cnt nd)) ∧ Qc w' c (q.step nd why) ∧ w.grownBy w' (some c) := by
  unfold Qs.cnt Qs.step
  cases hi : inR nd with
  | false =>
    have hn : nd < 0 ∨ 5 ≤ nd := by
      have := of_decide_eq_false hi
      omega
    refine (say_out c nd why hn w).mono ?_
    rintro e w1 ⟨rfl, rfl⟩
    exact ⟨rfl, h, gb_refl _ _⟩
  | true =>
    have hn := of_decide_eq_true hi
    obtain ⟨n, rfl⟩ : ∃ n : Nat, nd = n := ⟨nd.toNat, by omega⟩
    rw [if_pos rfl, Int.toNat_natCast]
    cases hs : q.S n with
    | true =>
      refine (say_again c q n (by omega) why hs w h).mono ?_
      rintro e w1 ⟨rfl, rfl⟩
      refine ⟨rfl, ?_, gb_refl _ _⟩
      unfold Qs.say
      rw [if_pos hs]
      exact h
    | false =>
      have ⟨a, b, c', d, e⟩ := hq
      exact (say_new c q n (by omega) why hs (by omega) (by omega) w h).mono fun e w1 ⟨h1, h2, h3⟩ => ⟨h1, h2, h3⟩
theorem said_step (c : Nat) (q : Qs) (nd : Int) (w : World) (h : Qc w c q) :
    Calls Try.prog 21 #[.pointer (some ⟨c, 0, none⟩), .int .i64 nd] w fun e w' => e = .returned (.tuple #[.bool (inR nd && q.S nd.toNat), .bool (inR nd && q.O nd.toNat)]) ∧ ∃ n, w' = w.drewN n := by
  cases hi : inR nd with
  | false =>
    have hn : nd < 0 ∨ 5 ≤ nd := by
      have := of_decide_eq_false hi
      omega
    exact (said_out c nd hn w).mono fun e w1 ⟨h1, h2⟩ => ⟨h1, 0, h2.symm⟩
  | true =>
    have hn := of_decide_eq_true hi
    obtain ⟨n, rfl⟩ : ∃ n : Nat, nd = n := ⟨nd.toNat, by omega⟩
    rw [Int.toNat_natCast]
    exact said_in c q n (by omega) w h
/-- Five flags in memory. -/
def arr5 (f : Nat → Bool) : Array Value := #[.bool (f 0), .bool (f 1), .bool (f 2), .bool (f 3), .bool (f 4)]
theorem arr5_at (f : Nat → Bool) (n : Nat) (h : n < 5) : (arr5 f)[n]? = some (.bool (f n)) := by
  have h5 : n = 0 ∨ n = 1 ∨ n = 2 ∨ n = 3 ∨ n = 4 := by omega
  rcases h5 with rfl | rfl | rfl | rfl | rfl <;> rfl
theorem arr5_put (f : Nat → Bool) (n : Nat) (h : n < 5) (b : Bool) : (arr5 f).setIfInBounds n (.bool b) = arr5 (upd f n b) := by
  have h5 : n = 0 ∨ n = 1 ∨ n = 2 ∨ n = 3 ∨ n = 4 := by omega
  rcases h5 with rfl | rfl | rfl | rfl | rfl <;> rfl
/-- What holds at the round's head. -/
structure HdR (w : World) (c b8 : Nat) (q : Qs) (k : Nat) (wr : World) : Prop where
  qc : Qc wr c q
  x8 : Bx wr b8 32 (arr5 q.S)
  x9 : Bx wr (b8 + 1) 32 (arr5 q.O)
  bel : Below w.heap.size w wr
/-- What holds where the law has taken the answer, and the count hasn't yet. -/
structure MidR (w : World) (c b8 : Nat) (q q' : Qs) (wr : World) : Prop where
  qc : Qc wr c q
  x8 : Bx wr b8 32 (arr5 q'.S)
  x9 : Bx wr (b8 + 1) 32 (arr5 q'.O)
  bel : Below w.heap.size w wr
theorem HdR.same {w : World} {c b8 : Nat} {q : Qs} {k : Nat} {wr : World} (h : HdR w c b8 q k wr) : MidR w c b8 q q wr := ⟨h.qc, h.x8, h.x9, h.bel⟩
theorem HdR.put {w : World} {c b8 : Nat} {q : Qs} {k : Nat} {wr : World} (h : HdR w c b8 q k wr) (hc : c < b8) (hw : w.heap.size ≤ b8) (n : Nat) (hn : n < 5) (hs : q.S n = false) (why : Int) (wx : World)
    (hx : wx = (wr.setCell ⟨b8, n, none⟩ (.bool true)).setCell ⟨b8 + 1, n, none⟩ (.bool (why == 0))) : MidR w c b8 q (q.say n why) wx := by
  subst hx
  have e1 : (q.say n why).S = upd q.S n true := by unfold Qs.say; rw [if_neg (by rw [hs]; simp)]; split <;> rfl
  have e2 : (q.say n why).O = upd q.O n (why == 0) := by
    unfold Qs.say; rw [if_neg (by rw [hs]; simp)]
    split
    · rename_i h0; subst h0; rfl
    · rename_i h0; rw [show (why == 0) = false by simpa using h0]
  refine ⟨?_, ?_, ?_, ?_⟩
  · exact (h.qc.beside (p := ⟨b8, n, none⟩) (by show b8 ≠ c; omega) _).beside (p := ⟨b8 + 1, n, none⟩) (by show b8 + 1 ≠ c; omega) _
  · rw [e1, ← arr5_put _ _ hn]
    exact (h.x8.put n _).beside (p := ⟨b8 + 1, n, none⟩) (by show b8 + 1 ≠ b8; omega) _
  · rw [e2, ← arr5_put _ _ hn]
    exact (h.x9.beside (p := ⟨b8, n, none⟩) (by show b8 ≠ b8 + 1; omega) _).put n _
  · exact (h.bel.setCell (p := ⟨b8, n, none⟩) hw _).setCell (p := ⟨b8 + 1, n, none⟩) (by show w.heap.size ≤ b8 + 1; omega) _
theorem MidR.say {w : World} {c b8 : Nat} {q q' : Qs} {wr wx : World} (h : MidR w c b8 q q' wr) (hc : c < b8) (hw : w.heap.size ≤ c) (hq : Qc wx c q') (hg : wr.grownBy wx (some c)) : HdR w c b8 q' 0 wx :=
  ⟨hq, h.x8.grown hg (by intro e; cases e; omega), h.x9.grown hg (by intro e; cases e; omega), below_gb h.bel hg hw⟩
theorem HdR.drawn {w : World} {c b8 : Nat} {q : Qs} {k : Nat} {wr : World} (h : HdR w c b8 q k wr) (n k' : Nat) : HdR w c b8 q k' (wr.drewN n) := ⟨h.qc.drawn n, h.x8.drawn n, h.x9.drawn n, below_drewN h.bel n⟩
theorem MidR.drew {w : World} {c b8 : Nat} {q q' : Qs} {wr : World} (h : MidR w c b8 q q' wr) : MidR w c b8 q q' wr.drew := ⟨h.qc, h.x8, h.x9, h.bel.drew⟩
theorem say_eq0 (q : Qs) (n : Nat) (hs : q.S n = false) : (q.say n 0).yes = q.yes + 1 ∧ (q.say n 0).no = q.no ∧ (q.say n 0).first = q.first := by
  unfold Qs.say; rw [if_neg (by rw [hs]; simp), if_pos rfl]; exact ⟨rfl, rfl, rfl⟩
theorem say_eq1 (q : Qs) (n : Nat) (why : Int) (hs : q.S n = false) (hw : why ≠ 0) (hf : q.no = 0) : (q.say n why).yes = q.yes ∧ (q.say n why).no = q.no + 1 ∧ (q.say n why).first = why := by
  unfold Qs.say; rw [if_neg (by rw [hs]; simp), if_neg hw, if_pos hf]; exact ⟨rfl, rfl, rfl⟩
theorem say_eq2 (q : Qs) (n : Nat) (why : Int) (hs : q.S n = false) (hw : why ≠ 0) (hf : q.no ≠ 0) : (q.say n why).yes = q.yes ∧ (q.say n why).no = q.no + 1 ∧ (q.say n why).first = q.first := by
  unfold Qs.say; rw [if_neg (by rw [hs]; simp), if_neg hw, if_neg hf]; exact ⟨rfl, rfl, rfl⟩
end Go.Proofs.Ytoidloofclalhab
