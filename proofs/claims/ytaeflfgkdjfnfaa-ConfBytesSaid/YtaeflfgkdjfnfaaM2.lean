/- Layer 21 (conf): Get, by the code. -/
import Derived.Test.YtaeflfgkdjfnfaaM1
import Derived.Test.YtaeflfgkdjfnfaaE3
namespace Go.Proofs.Ytaeflfgkdjfnfaa
open Go.RowKit

theorem Bx.gr {w w' : World} {g R : Nat} {t : TypeId} {cs : Array Value} (h : Bx w g t cs) (hg : w.grownBy w' (some R)) (hne : R ≠ g) : Bx w' g t cs := by
  have := h.inside
  unfold Bx at h ⊢
  rw [hg.block g this (fun e => hne (Option.some.inj e).symm)]
  exact h
theorem Rdr.set {w : World} {R g i : Nat} {v : Value} {l : List UInt8} {p : Nat} {y : Int} (h : Rdr w R v l p y) (hne : g ≠ R) (ha : Apart g v) (u : Value) : Rdr (w.setCell ⟨g, i, none⟩ u) R v l p y :=
  ⟨h.1.beside (p := ⟨g, i, none⟩) hne u, h.2.put ha u⟩
def gS (l : List UInt8) (k : Nat) : List Nat × Nat × Int := rdL l (cM.take (1 + 2 * k)) 0 0
/-- What Get holds ahead of node k. -/
structure GS (w : World) (l : List UInt8) (R : Nat) (vr : Value) (g : Nat) (T : List Nat × Nat × Int) (wr : World) : Prop where
  rd : Rdr wr R vr l T.2.1 T.2.2
  bx : Bx wr g 39 (cfD T.1).cells
  res : Bx wr w.heap.size 39 #[.int .i64 0, .bool false, .bool false, .bool false, .bool false, .bool false, .int .i64 0, .int .i64 0, .int .i64 0, .int .i64 0, .int .i64 0]
  bel : Below w.heap.size w wr
  at_ : T.2.1 ≤ l.length
  rg : R < g
  wR : w.heap.size < R
  ap : Apart R vr
theorem GS.apg {w : World} {l : List UInt8} {R : Nat} {vr : Value} {g : Nat} {T : List Nat × Nat × Int} {wr : World} (h : GS w l R vr g T wr) : Apart g vr := fun k hk => Nat.lt_trans (h.ap k hk) h.rg
/-- A number more was read, and stored. -/
theorem GS.more {w : World} {l : List UInt8} {R : Nat} {vr : Value} {g : Nat} {vs : List Nat} {p : Nat} {y : Int} {wr w1 : World} (h : GS w l R vr g (vs, p, y) wr) (m : Int) (i : Nat) (u : Value)
    (h1 : Rdr w1 R vr l (cntS l p y m).2.1 (cntS l p y m).2.2) (hg : wr.grownBy w1 (some R)) (hc : (cfD (vs ++ [(cntS l p y m).1])).cells = (cfD vs).cells.setIfInBounds i u) : GS w l R vr g (vs ++ [(cntS l p y m).1], (cntS l p y m).2) (w1.setCell ⟨g, i, none⟩ u) := by
  have hb : Below w.heap.size w w1 := h.bel.grown hg h.bel.size (fun k e => by cases e; exact Nat.le_of_lt h.wR)
  refine ⟨h1.set (by have := h.rg; omega) h.apg u, ?_, (h.res.gr hg (by have := h.wR; omega)).beside (p := ⟨g, i, none⟩) (by show g ≠ w.heap.size; have := h.rg; have := h.wR; omega) u, hb.setCell (p := ⟨g, i, none⟩) (by show w.heap.size ≤ g; have := h.rg; have := h.wR; omega) u, (cntS_bd l p y m h.at_).1, h.rg, h.wR, h.ap⟩
  dsimp only
  rw [hc]
  exact (h.bx.gr hg (by have := h.rg; omega)).put i u
theorem gS_next (l : List UInt8) (k : Nat) (hk : k < 5) : gS l (k + 1) = ((gS l k).1 ++ [(cntS l (gS l k).2.1 (gS l k).2.2 1).1] ++ [(cntS l (cntS l (gS l k).2.1 (gS l k).2.2 1).2.1 (cntS l (gS l k).2.1 (gS l k).2.2 1).2.2 mxI).1], (cntS l (cntS l (gS l k).2.1 (gS l k).2.2 1).2.1 (cntS l (gS l k).2.1 (gS l k).2.2 1).2.2 mxI).2) := by
  have e : cM.take (1 + 2 * (k + 1)) = cM.take (1 + 2 * k) ++ [1] ++ [mxI] := by
    rcases (show k = 0 ∨ k = 1 ∨ k = 2 ∨ k = 3 ∨ k = 4 from by omega) with rfl | rfl | rfl | rfl | rfl <;> rfl
  unfold gS
  rw [e, rdL_snoc, rdL_snoc]
theorem gS_len (l : List UInt8) (k : Nat) (hk : k ≤ 5) : (gS l k).1.length = 1 + 2 * k := by
  unfold gS
  rw [rdL_len]
  rcases (show k = 0 ∨ k = 1 ∨ k = 2 ∨ k = 3 ∨ k = 4 ∨ k = 5 from by omega) with rfl | rfl | rfl | rfl | rfl | rfl <;> rfl
set_option maxRecDepth 100000 in
set_option maxHeartbeats 16000000 in
theorem cf_get (v : Value) (l : List UInt8) (hl : l.length ≤ 100000) (w : World) (h : BS w v l) : Calls Try.prog 34 #[v] w fun e w' => e = .returned (.tuple #[.agg (gC l).cells, .int .i64 (gY l)]) ∧ Below w.heap.size w w' := by
  have hb0 : Below w.heap.size w (w.alloc (.cells #[.int .i64 0, .bool false, .bool false, .bool false, .bool false, .bool false, .int .i64 0, .int .i64 0, .int .i64 0, .int .i64 0, .int .i64 0] 39)) := (Below.refl _ _).alloc (Nat.le_refl _) _
  have CN := Lib.hid (newr_any v l hl _ (h.next hb0))
  have HB := Lib.hid hb0
  have HL := Lib.hid hl
  clear hb0 h
  go_enter Try.func34, Try.ntmps34
  go_wp2_with fail
  refine (CN.out).mono ?_; rintro e w1 ⟨R, vr, rfl, hR, hge, hA, hb1⟩
  have CU := Lib.hid (num_any R vr l 0 0 (Nat.zero_le _) hl hA w1 hR)
  have H1 := Lib.hid (show Bx w1 w.heap.size 39 #[.int .i64 0, .bool false, .bool false, .bool false, .bool false, .bool false, .int .i64 0, .int .i64 0, .int .i64 0, .int .i64 0, .int .i64 0] ∧ Below w.heap.size w w1 ∧ w.heap.size < R ∧ Apart R vr ∧ R < w1.heap.size from ⟨(Bx.fresh w _ _).next hb1, bnext HB.out hb1, by rw [World.size_alloc] at hge; omega, hA, hR.1.inside⟩)
  clear hR hge hA hb1 CN HB
  go_wp2_with fail
  refine (CU.out).mono ?_; rintro e w2 ⟨rfl, hR2, hg2⟩
  have HG0 : Hid (GS w l R vr w2.heap.size (gS l 0) (w2.alloc (.cells (cfD (gS l 0).1).cells 39))) := Lib.hid (by
    have hb2 : Below w.heap.size w w2 := H1.out.2.1.grown hg2 H1.out.2.1.size (fun k e => by cases e; exact Nat.le_of_lt H1.out.2.2.1)
    have hRi := hR2.1.inside
    exact ⟨⟨hR2.1.past _, hR2.2.next ((Below.refl _ _).alloc (Nat.le_refl _) _)⟩, Bx.fresh w2 _ _, (H1.out.1.gr hg2 (by have := H1.out.2.2.1; omega)).past _, hb2.alloc hb2.size _, (cntS_bd l 0 0 mxI (Nat.zero_le _)).1, hRi, H1.out.2.2.1, H1.out.2.2.2.1⟩)
  rw [show (cfD (gS l 0).1).cells = #[.int .i64 ((cntS l 0 0 mxI).1 : Nat), .bool false, .bool false, .bool false, .bool false, .bool false, .int .i64 0, .int .i64 0, .int .i64 0, .int .i64 0, .int .i64 0] from rfl] at HG0
  rw [show (9223372036854775807 : Int) = mxI from rfl] at *
  clear hR2 hg2 CU H1
  generalize (cntS l 0 0 mxI).1 = e0 at *
  go_wp2_with fail
  go_loopw [13] (fun i wr => ∃ k : Nat, i = .int .i64 k ∧ k ≤ 5 ∧ Hid (GS w l R vr w2.heap.size (gS l k) wr)) (fun i _ => 5 - (intOf i).toNat)
  case atStart => exact ⟨0, rfl, by omega, HG0⟩
  case round =>
    clear HG0
    obtain ⟨k, rfl, hk, HS⟩ := hrel
    have HLEN := Lib.hid (gS_len l k hk)
    rcases (show k = 0 ∨ k = 1 ∨ k = 2 ∨ k = 3 ∨ k = 4 ∨ k = 5 from by omega) with rfl | rfl | rfl | rfl | rfl | rfl
    · have HN := Lib.hid (gS_next l 0 (by omega))
      generalize gS l 0 = T at *
      obtain ⟨vs, p, y⟩ := T
      dsimp only at *
      obtain ⟨x0, rfl⟩ : ∃ x0, vs = [x0] := by
        have := HLEN.out
        match vs, this with
        | [x0], _ => exact ⟨x0, rfl⟩
      have CC := Lib.hid (count_any R vr l p y 1 HS.out.at_ HL.out HS.out.ap wr HS.out.rd)
      have f0 := HS.out.bx.open_ 1
      have c0 := HS.out.bx.read (i := 1) (v := .bool false) rfl
      clear hk f0 c0
      go_wp2_with fail
      refine (CC.out).mono ?_; rintro e w3 ⟨rfl, hR3, hg3⟩
      have HB3 := Lib.hid ((HS.out.bx.gr hg3 (by have := HS.out.rg; omega)))
      have HG3 := Lib.hid (HS.out.more 1 1 (.bool ((((cntS l p y 1).1 : Nat) : Int) == 1)) hR3 hg3 rfl)
      have f1 := HB3.out.open_ 1
      have c1 := HB3.out.read (i := 1) (v := .bool false) rfl
      clear hR3 hg3 CC HS
      have CD := Lib.hid (num_any R vr l (cntS l p y 1).2.1 (cntS l p y 1).2.2 HG3.out.at_ HL.out HG3.out.ap _ HG3.out.rd)
      rw [show (9223372036854775807 : Int) = mxI from rfl] at CD
      generalize cntS l p y 1 = q at *
      obtain ⟨a, p2, y2⟩ := q
      dsimp only at *
      go_wp2_with fail
      refine (CD.out).mono ?_; rintro e w4 ⟨rfl, hR4, hg4⟩
      have HB4 := Lib.hid ((HG3.out.bx.gr hg4 (by have := HG3.out.rg; omega)))
      have HG4 := Lib.hid (HG3.out.more mxI 6 (.int .i64 ((cntS l p2 y2 mxI).1 : Nat)) hR4 hg4 rfl)
      have f2 := HB4.out.open_ 6
      have c2 := HB4.out.read (i := 6) (v := .int .i64 0) rfl
      rw [← HN.out] at HG4
      clear hR4 hg4 CD HG3 HB3 c1 f1
      generalize cntS l p2 y2 mxI = q at *
      obtain ⟨b, p3, y3⟩ := q
      dsimp only at *
      go_wp2_with fail
      go_roundw
      case rel => exact ⟨1, rfl, by omega, HG4⟩
      case measure => simp [intOf]
    · have HN := Lib.hid (gS_next l 1 (by omega))
      generalize gS l 1 = T at *
      obtain ⟨vs, p, y⟩ := T
      dsimp only at *
      obtain ⟨x0, x1, x2, rfl⟩ : ∃ x0 x1 x2, vs = [x0, x1, x2] := by
        have := HLEN.out
        match vs, this with
        | [x0, x1, x2], _ => exact ⟨x0, x1, x2, rfl⟩
      have CC := Lib.hid (count_any R vr l p y 1 HS.out.at_ HL.out HS.out.ap wr HS.out.rd)
      have f0 := HS.out.bx.open_ 2
      have c0 := HS.out.bx.read (i := 2) (v := .bool false) rfl
      clear hk f0 c0
      go_wp2_with fail
      refine (CC.out).mono ?_; rintro e w3 ⟨rfl, hR3, hg3⟩
      have HB3 := Lib.hid ((HS.out.bx.gr hg3 (by have := HS.out.rg; omega)))
      have HG3 := Lib.hid (HS.out.more 1 2 (.bool ((((cntS l p y 1).1 : Nat) : Int) == 1)) hR3 hg3 rfl)
      have f1 := HB3.out.open_ 2
      have c1 := HB3.out.read (i := 2) (v := .bool false) rfl
      clear hR3 hg3 CC HS
      have CD := Lib.hid (num_any R vr l (cntS l p y 1).2.1 (cntS l p y 1).2.2 HG3.out.at_ HL.out HG3.out.ap _ HG3.out.rd)
      rw [show (9223372036854775807 : Int) = mxI from rfl] at CD
      generalize cntS l p y 1 = q at *
      obtain ⟨a, p2, y2⟩ := q
      dsimp only at *
      go_wp2_with fail
      refine (CD.out).mono ?_; rintro e w4 ⟨rfl, hR4, hg4⟩
      have HB4 := Lib.hid ((HG3.out.bx.gr hg4 (by have := HG3.out.rg; omega)))
      have HG4 := Lib.hid (HG3.out.more mxI 7 (.int .i64 ((cntS l p2 y2 mxI).1 : Nat)) hR4 hg4 rfl)
      have f2 := HB4.out.open_ 7
      have c2 := HB4.out.read (i := 7) (v := .int .i64 0) rfl
      rw [← HN.out] at HG4
      clear hR4 hg4 CD HG3 HB3 c1 f1
      generalize cntS l p2 y2 mxI = q at *
      obtain ⟨b, p3, y3⟩ := q
      dsimp only at *
      go_wp2_with fail
      go_roundw
      case rel => exact ⟨2, rfl, by omega, HG4⟩
      case measure => simp [intOf]
    · have HN := Lib.hid (gS_next l 2 (by omega))
      generalize gS l 2 = T at *
      obtain ⟨vs, p, y⟩ := T
      dsimp only at *
      obtain ⟨x0, x1, x2, x3, x4, rfl⟩ : ∃ x0 x1 x2 x3 x4, vs = [x0, x1, x2, x3, x4] := by
        have := HLEN.out
        match vs, this with
        | [x0, x1, x2, x3, x4], _ => exact ⟨x0, x1, x2, x3, x4, rfl⟩
      have CC := Lib.hid (count_any R vr l p y 1 HS.out.at_ HL.out HS.out.ap wr HS.out.rd)
      have f0 := HS.out.bx.open_ 3
      have c0 := HS.out.bx.read (i := 3) (v := .bool false) rfl
      clear hk f0 c0
      go_wp2_with fail
      refine (CC.out).mono ?_; rintro e w3 ⟨rfl, hR3, hg3⟩
      have HB3 := Lib.hid ((HS.out.bx.gr hg3 (by have := HS.out.rg; omega)))
      have HG3 := Lib.hid (HS.out.more 1 3 (.bool ((((cntS l p y 1).1 : Nat) : Int) == 1)) hR3 hg3 rfl)
      have f1 := HB3.out.open_ 3
      have c1 := HB3.out.read (i := 3) (v := .bool false) rfl
      clear hR3 hg3 CC HS
      have CD := Lib.hid (num_any R vr l (cntS l p y 1).2.1 (cntS l p y 1).2.2 HG3.out.at_ HL.out HG3.out.ap _ HG3.out.rd)
      rw [show (9223372036854775807 : Int) = mxI from rfl] at CD
      generalize cntS l p y 1 = q at *
      obtain ⟨a, p2, y2⟩ := q
      dsimp only at *
      go_wp2_with fail
      refine (CD.out).mono ?_; rintro e w4 ⟨rfl, hR4, hg4⟩
      have HB4 := Lib.hid ((HG3.out.bx.gr hg4 (by have := HG3.out.rg; omega)))
      have HG4 := Lib.hid (HG3.out.more mxI 8 (.int .i64 ((cntS l p2 y2 mxI).1 : Nat)) hR4 hg4 rfl)
      have f2 := HB4.out.open_ 8
      have c2 := HB4.out.read (i := 8) (v := .int .i64 0) rfl
      rw [← HN.out] at HG4
      clear hR4 hg4 CD HG3 HB3 c1 f1
      generalize cntS l p2 y2 mxI = q at *
      obtain ⟨b, p3, y3⟩ := q
      dsimp only at *
      go_wp2_with fail
      go_roundw
      case rel => exact ⟨3, rfl, by omega, HG4⟩
      case measure => simp [intOf]
    · have HN := Lib.hid (gS_next l 3 (by omega))
      generalize gS l 3 = T at *
      obtain ⟨vs, p, y⟩ := T
      dsimp only at *
      obtain ⟨x0, x1, x2, x3, x4, x5, x6, rfl⟩ : ∃ x0 x1 x2 x3 x4 x5 x6, vs = [x0, x1, x2, x3, x4, x5, x6] := by
        have := HLEN.out
        match vs, this with
        | [x0, x1, x2, x3, x4, x5, x6], _ => exact ⟨x0, x1, x2, x3, x4, x5, x6, rfl⟩
      have CC := Lib.hid (count_any R vr l p y 1 HS.out.at_ HL.out HS.out.ap wr HS.out.rd)
      have f0 := HS.out.bx.open_ 4
      have c0 := HS.out.bx.read (i := 4) (v := .bool false) rfl
      clear hk f0 c0
      go_wp2_with fail
      refine (CC.out).mono ?_; rintro e w3 ⟨rfl, hR3, hg3⟩
      have HB3 := Lib.hid ((HS.out.bx.gr hg3 (by have := HS.out.rg; omega)))
      have HG3 := Lib.hid (HS.out.more 1 4 (.bool ((((cntS l p y 1).1 : Nat) : Int) == 1)) hR3 hg3 rfl)
      have f1 := HB3.out.open_ 4
      have c1 := HB3.out.read (i := 4) (v := .bool false) rfl
      clear hR3 hg3 CC HS
      have CD := Lib.hid (num_any R vr l (cntS l p y 1).2.1 (cntS l p y 1).2.2 HG3.out.at_ HL.out HG3.out.ap _ HG3.out.rd)
      rw [show (9223372036854775807 : Int) = mxI from rfl] at CD
      generalize cntS l p y 1 = q at *
      obtain ⟨a, p2, y2⟩ := q
      dsimp only at *
      go_wp2_with fail
      refine (CD.out).mono ?_; rintro e w4 ⟨rfl, hR4, hg4⟩
      have HB4 := Lib.hid ((HG3.out.bx.gr hg4 (by have := HG3.out.rg; omega)))
      have HG4 := Lib.hid (HG3.out.more mxI 9 (.int .i64 ((cntS l p2 y2 mxI).1 : Nat)) hR4 hg4 rfl)
      have f2 := HB4.out.open_ 9
      have c2 := HB4.out.read (i := 9) (v := .int .i64 0) rfl
      rw [← HN.out] at HG4
      clear hR4 hg4 CD HG3 HB3 c1 f1
      generalize cntS l p2 y2 mxI = q at *
      obtain ⟨b, p3, y3⟩ := q
      dsimp only at *
      go_wp2_with fail
      go_roundw
      case rel => exact ⟨4, rfl, by omega, HG4⟩
      case measure => simp [intOf]
    · have HN := Lib.hid (gS_next l 4 (by omega))
      generalize gS l 4 = T at *
      obtain ⟨vs, p, y⟩ := T
      dsimp only at *
      obtain ⟨x0, x1, x2, x3, x4, x5, x6, x7, x8, rfl⟩ : ∃ x0 x1 x2 x3 x4 x5 x6 x7 x8, vs = [x0, x1, x2, x3, x4, x5, x6, x7, x8] := by
        have := HLEN.out
        match vs, this with
        | [x0, x1, x2, x3, x4, x5, x6, x7, x8], _ => exact ⟨x0, x1, x2, x3, x4, x5, x6, x7, x8, rfl⟩
      have CC := Lib.hid (count_any R vr l p y 1 HS.out.at_ HL.out HS.out.ap wr HS.out.rd)
      have f0 := HS.out.bx.open_ 5
      have c0 := HS.out.bx.read (i := 5) (v := .bool false) rfl
      clear hk f0 c0
      go_wp2_with fail
      refine (CC.out).mono ?_; rintro e w3 ⟨rfl, hR3, hg3⟩
      have HB3 := Lib.hid ((HS.out.bx.gr hg3 (by have := HS.out.rg; omega)))
      have HG3 := Lib.hid (HS.out.more 1 5 (.bool ((((cntS l p y 1).1 : Nat) : Int) == 1)) hR3 hg3 rfl)
      have f1 := HB3.out.open_ 5
      have c1 := HB3.out.read (i := 5) (v := .bool false) rfl
      clear hR3 hg3 CC HS
      have CD := Lib.hid (num_any R vr l (cntS l p y 1).2.1 (cntS l p y 1).2.2 HG3.out.at_ HL.out HG3.out.ap _ HG3.out.rd)
      rw [show (9223372036854775807 : Int) = mxI from rfl] at CD
      generalize cntS l p y 1 = q at *
      obtain ⟨a, p2, y2⟩ := q
      dsimp only at *
      go_wp2_with fail
      refine (CD.out).mono ?_; rintro e w4 ⟨rfl, hR4, hg4⟩
      have HB4 := Lib.hid ((HG3.out.bx.gr hg4 (by have := HG3.out.rg; omega)))
      have HG4 := Lib.hid (HG3.out.more mxI 10 (.int .i64 ((cntS l p2 y2 mxI).1 : Nat)) hR4 hg4 rfl)
      have f2 := HB4.out.open_ 10
      have c2 := HB4.out.read (i := 10) (v := .int .i64 0) rfl
      rw [← HN.out] at HG4
      clear hR4 hg4 CD HG3 HB3 c1 f1
      generalize cntS l p2 y2 mxI = q at *
      obtain ⟨b, p3, y3⟩ := q
      dsimp only at *
      go_wp2_with fail
      go_roundw
      case rel => exact ⟨5, rfl, by omega, HG4⟩
      case measure => simp [intOf]
    · have hT : gS l 5 = rdL l cM 0 0 := rfl
      have HC0 : Hid (gY l = if endS l (gS l 5).2.1 (gS l 5).2.2 = 0 then (if (cfD (gS l 5).1).right = true then 0 else 31) else endS l (gS l 5).2.1 (gS l 5).2.2) := Lib.hid rfl
      have HC1 : Hid (gC l = if gY l = 0 then cfD (gS l 5).1 else Cf.zero) := Lib.hid rfl
      clear hT
      generalize gS l 5 = T at *
      obtain ⟨vs, p, y⟩ := T
      dsimp only at *
      have CE := Lib.hid (end_any R vr l p y HS.out.at_ HL.out HS.out.ap wr HS.out.rd)
      generalize endS l p y = z at *
      have HRT := Lib.hid (fun W => cf_right (cfD vs) W)
      have hrc : ∃ r, (cfD vs).right = r := ⟨_, rfl⟩
      obtain ⟨r, hrr⟩ := hrc
      rw [hrr] at HRT HC0
      obtain ⟨cc, hcc⟩ : ∃ cc, cfD vs = cc := ⟨_, rfl⟩
      have HBX := Lib.hid HS.out.bx
      have HSS := Lib.hid (And.intro HS.out.res (And.intro HS.out.bel (And.intro HS.out.rg (And.intro HS.out.wR HS.out.ap))))
      dsimp only at HBX
      rw [hcc] at HRT HC1 HBX
      clear hrr hcc HLEN HS
      obtain ⟨ce, u0, u1, u2, u3, u4, i0, i1, i2, i3, i4⟩ := cc
      have HRT2 : Hid (∀ W, Calls Try.prog 21 #[.agg #[.int .i64 ce, .bool u0, .bool u1, .bool u2, .bool u3, .bool u4, .int .i64 i0, .int .i64 i1, .int .i64 i2, .int .i64 i3, .int .i64 i4]] W fun e w' => e = .returned (.bool r) ∧ Below W.heap.size W w') := HRT
      have HBX2 : Hid (Bx wr w2.heap.size 39 #[.int .i64 ce, .bool u0, .bool u1, .bool u2, .bool u3, .bool u4, .int .i64 i0, .int .i64 i1, .int .i64 i2, .int .i64 i3, .int .i64 i4]) := HBX
      clear HRT HBX
      by_cases hz : z = 0
      · subst hz
        have HE := Lib.hid (show Hid True from Lib.hid trivial)
        go_wp2_with fail
        refine (CE.out).mono ?_; rintro e w3 ⟨rfl, hR3, hg3⟩
        have HX3 := Lib.hid (HBX2.out.gr hg3 (by have := HSS.out.2.2.1; omega))
        have HY3 := Lib.hid (HSS.out.1.gr hg3 (by have := HSS.out.2.2.2.1; omega))
        have HB3 := Lib.hid (HSS.out.2.1.grown hg3 HSS.out.2.1.size (fun k e => by cases e; exact Nat.le_of_lt HSS.out.2.2.2.1))
        have HR3 := Lib.hid hR3
        clear hR3 hg3 CE HBX2 HE
        obtain ⟨x0, x1, x2, x3, x4, x5, x6, x7, x8, x9, x10⟩ := HX3.out.reads11
        go_wp2_with fail
        refine (HRT2.out _).mono ?_; rintro e w4 ⟨rfl, hb4⟩
        have HX4 := Lib.hid (HX3.out.next hb4)
        have HY4 := Lib.hid (HY3.out.next hb4)
        have HB4 := Lib.hid (bnext HB3.out hb4)
        have HR4 := Lib.hid (show Rdr w4 R vr l p 0 from ⟨HR3.out.1.next hb4, HR3.out.2.next hb4⟩)
        clear hb4 x0 x1 x2 x3 x4 x5 x6 x7 x8 x9 x10 HX3 HY3 HB3 HR3 HRT2
        cases r with
        | true =>
          have HF : Hid (gY l = 0 ∧ (gC l).cells = #[.int .i64 ce, .bool u0, .bool u1, .bool u2, .bool u3, .bool u4, .int .i64 i0, .int .i64 i1, .int .i64 i2, .int .i64 i3, .int .i64 i4]) := Lib.hid (by
            have h0 : gY l = 0 := by rw [HC0.out]; rfl
            exact ⟨h0, by rw [HC1.out, if_pos h0]; rfl⟩)
          have CW := Lib.hid (why_any R vr l p 0 w4 HR4.out)
          clear HC0 HC1
          go_wp2_with fail
          refine (CW.out).mono ?_; rintro e w5 ⟨rfl, rfl⟩
          obtain ⟨x0, x1, x2, x3, x4, x5, x6, x7, x8, x9, x10⟩ := HX4.out.reads11
          obtain ⟨y0, y1, y2, y3, y4, y5, y6, y7, y8, y9, y10⟩ := HY4.out.reads11
          obtain ⟨f0, f1, f2, f3, f4, f5, f6, f7, f8, f9, f10⟩ := HY4.out.opens11
          clear CW HX4 HY4 HR4
          go_wp2_with fail
          (try simp only [Exit.inBlock, Exit.then])
          refine bodyPost_ret (v := .tuple #[.agg #[.int .i64 ce, .bool u0, .bool u1, .bool u2, .bool u3, .bool u4, .int .i64 i0, .int .i64 i1, .int .i64 i2, .int .i64 i3, .int .i64 i4], .int .i64 0]) (by simp [results, Try.results34, go_sem, *]) rfl ⟨by rw [HF.out.1, HF.out.2], ?_⟩
          have hB1 := HB4.out
          iterate 11 (refine Below.setCell ?_ (by exact Nat.le_refl _) _)
          exact hB1
        | false =>
          have HF : Hid (gY l = 31 ∧ (gC l).cells = #[.int .i64 0, .bool false, .bool false, .bool false, .bool false, .bool false, .int .i64 0, .int .i64 0, .int .i64 0, .int .i64 0, .int .i64 0]) := Lib.hid (by
            have h0 : gY l = 31 := by rw [HC0.out]; rfl
            exact ⟨h0, by rw [HC1.out, if_neg (by rw [h0]; decide)]; rfl⟩)
          have CF := Lib.hid (fail_any R vr l p 0 31 HSS.out.2.2.2.2 w4 HR4.out)
          rw [if_pos rfl] at CF
          clear HC0 HC1 HX4
          go_wp2_with fail
          refine (CF.out).mono ?_; rintro e w5 ⟨rfl, hR5, hg5⟩
          have HY5 := Lib.hid (HY4.out.gr hg5 (by have := HSS.out.2.2.2.1; omega))
          have HB5 := Lib.hid (HB4.out.grown hg5 HB4.out.size (fun k e => by cases e; exact Nat.le_of_lt HSS.out.2.2.2.1))
          have CW := Lib.hid (why_any R vr l p 31 w5 hR5)
          clear hR5 hg5 CF HR4 HY4 HB4
          go_wp2_with fail
          refine (CW.out).mono ?_; rintro e w6 ⟨rfl, rfl⟩
          obtain ⟨y0, y1, y2, y3, y4, y5, y6, y7, y8, y9, y10⟩ := HY5.out.reads11
          obtain ⟨f0, f1, f2, f3, f4, f5, f6, f7, f8, f9, f10⟩ := HY5.out.opens11
          clear CW HY5
          go_wp2_with fail
          (try simp only [Exit.inBlock, Exit.then])
          refine bodyPost_ret (v := .tuple #[.agg #[.int .i64 0, .bool false, .bool false, .bool false, .bool false, .bool false, .int .i64 0, .int .i64 0, .int .i64 0, .int .i64 0, .int .i64 0], .int .i64 31]) (by simp [results, Try.results34, go_sem, *]) rfl ⟨by rw [HF.out.1, HF.out.2], ?_⟩
          have hB1 := HB5.out
          iterate 11 (refine Below.setCell ?_ (by exact Nat.le_refl _) _)
          exact hB1
      · have HF : Hid (gY l = z ∧ (gC l).cells = #[.int .i64 0, .bool false, .bool false, .bool false, .bool false, .bool false, .int .i64 0, .int .i64 0, .int .i64 0, .int .i64 0, .int .i64 0]) := Lib.hid (by
          have h0 : gY l = z := by rw [HC0.out, if_neg hz]
          exact ⟨h0, by rw [HC1.out, if_neg (by rw [h0]; exact hz)]; rfl⟩)
        have hz1 : (z == 0) = false := by simp [hz]
        have hz2 : (z != 0) = true := by simp [hz]
        clear HC0 HC1 HBX2 HRT2 hz
        go_wp2_with fail
        refine (CE.out).mono ?_; rintro e w3 ⟨rfl, hR3, hg3⟩
        have HY3 := Lib.hid (HSS.out.1.gr hg3 (by have := HSS.out.2.2.2.1; omega))
        have HB3 := Lib.hid (HSS.out.2.1.grown hg3 HSS.out.2.1.size (fun k e => by cases e; exact Nat.le_of_lt HSS.out.2.2.2.1))
        have CW := Lib.hid (why_any R vr l p z w3 hR3)
        clear hR3 hg3 CE
        go_wp2_with fail
        refine (CW.out).mono ?_; rintro e w6 ⟨rfl, rfl⟩
        obtain ⟨y0, y1, y2, y3, y4, y5, y6, y7, y8, y9, y10⟩ := HY3.out.reads11
        obtain ⟨f0, f1, f2, f3, f4, f5, f6, f7, f8, f9, f10⟩ := HY3.out.opens11
        clear CW HY3
        go_wp2_with fail
        (try simp only [Exit.inBlock, Exit.then])
        refine bodyPost_ret (v := .tuple #[.agg #[.int .i64 0, .bool false, .bool false, .bool false, .bool false, .bool false, .int .i64 0, .int .i64 0, .int .i64 0, .int .i64 0, .int .i64 0], .int .i64 z]) (by simp [results, Try.results34, go_sem, *]) rfl ⟨by rw [HF.out.1, HF.out.2], ?_⟩
        have hB1 := HB3.out
        iterate 11 (refine Below.setCell ?_ (by exact Nat.le_refl _) _)
        exact hB1
end Go.Proofs.Ytaeflfgkdjfnfaa
