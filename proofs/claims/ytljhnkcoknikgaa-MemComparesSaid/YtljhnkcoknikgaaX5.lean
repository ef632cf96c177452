/- Layer 7 (mut), the document's side: Compare. Printed by wip/tools/gen_x5.py. -/
import Derived.Test.YtljhnkcoknikgaaX4
namespace Go.Proofs.Ytljhnkcoknikgaa
open Go.RowKit

/-- The array that the document's Compare makes, still of noughts. -/
def AX (w W : World) (D : Nat) : Prop := Bx W D 93 #[.int .i64 0, .int .i64 0, .int .i64 0, .int .i64 0, .int .i64 0, .int .i64 0, .int .i64 0, .int .i64 0] ∧ w.heap.size + 2 ≤ D
theorem AX.lo {w W : World} {D : Nat} (h : AX w W D) : w.heap.size + 2 ≤ D := h.2
theorem AX.next {w W W' : World} {D : Nat} (h : AX w W D) (hb : Below W.heap.size W W') : AX w W' D := ⟨h.1.next hb, h.2⟩
def AXc (W : World) (D : Nat) : Prop := W.cell? ⟨D, 0, none⟩ = some (.int .i64 0) ∧ W.cell? ⟨D, 1, none⟩ = some (.int .i64 0) ∧ W.cell? ⟨D, 2, none⟩ = some (.int .i64 0) ∧ W.cell? ⟨D, 3, none⟩ = some (.int .i64 0) ∧ W.cell? ⟨D, 4, none⟩ = some (.int .i64 0) ∧ W.cell? ⟨D, 5, none⟩ = some (.int .i64 0) ∧ W.cell? ⟨D, 6, none⟩ = some (.int .i64 0) ∧ W.cell? ⟨D, 7, none⟩ = some (.int .i64 0) ∧ W.frozen? ⟨D, 0, none⟩ = false ∧ W.frozen? ⟨D, 1, none⟩ = false ∧ W.frozen? ⟨D, 2, none⟩ = false ∧ W.frozen? ⟨D, 3, none⟩ = false ∧ W.frozen? ⟨D, 4, none⟩ = false ∧ W.frozen? ⟨D, 5, none⟩ = false ∧ W.frozen? ⟨D, 6, none⟩ = false ∧ W.frozen? ⟨D, 7, none⟩ = false
theorem AX.cells {w W : World} {D : Nat} (h : AX w W D) : AXc W D := ⟨h.1.read (i := 0) rfl, h.1.read (i := 1) rfl, h.1.read (i := 2) rfl, h.1.read (i := 3) rfl, h.1.read (i := 4) rfl, h.1.read (i := 5) rfl, h.1.read (i := 6) rfl, h.1.read (i := 7) rfl, h.1.open_ 0, h.1.open_ 1, h.1.open_ 2, h.1.open_ 3, h.1.open_ 4, h.1.open_ 5, h.1.open_ 6, h.1.open_ 7⟩
theorem cell_beside {W : World} {g i D j : Nat} {u v : Value} (h : W.cell? ⟨g, i, none⟩ = some v) (hne : D ≠ g) : (W.setCell ⟨D, j, none⟩ u).cell? ⟨g, i, none⟩ = some v := by
  rw [World.cell?_setCell_far _ _ _ _ (by exact hne)]
  exact h
/-- What is kept while two mutations are compared by the document. -/
def KR (w : World) (oa ob : Value) (ao bo : List St) (W : World) : Prop := SI w oa ao ∧ SI w ob bo ∧ Below w.heap.size w W
theorem KR.next {w W W' : World} {oa ob : Value} {ao bo : List St} (h : KR w oa ob ao bo W) (hb : Below W.heap.size W W') : KR w oa ob ao bo W' := ⟨h.1, h.2.1, bnext h.2.2 hb⟩
theorem MR_next {w W W' : World} {at_ ak aex ax ay az bt bk bex bx b_y bz : Int} {akey aen aval bkey ben bval : ByteArray} {oa ob : Value} {ao bo : List St}
    (h : W.cell? ⟨w.heap.size, 0, none⟩ = some (.int .i64 at_) ∧ W.cell? ⟨w.heap.size, 1, none⟩ = some (.int .i64 ak) ∧ W.cell? ⟨w.heap.size, 2, none⟩ = some (.string akey) ∧ W.cell? ⟨w.heap.size, 3, none⟩ = some (.string aen) ∧ W.cell? ⟨w.heap.size, 4, none⟩ = some (.string aval) ∧ W.cell? ⟨w.heap.size, 5, none⟩ = some (.int .i64 aex) ∧ W.cell? ⟨w.heap.size, 6, none⟩ = some (.int .i64 ax) ∧ W.cell? ⟨w.heap.size, 7, none⟩ = some (.int .i64 ay) ∧ W.cell? ⟨w.heap.size, 8, none⟩ = some (.int .i64 az) ∧ W.cell? ⟨w.heap.size, 9, none⟩ = some oa ∧ W.cell? ⟨w.heap.size + 1, 0, none⟩ = some (.int .i64 bt) ∧ W.cell? ⟨w.heap.size + 1, 1, none⟩ = some (.int .i64 bk) ∧ W.cell? ⟨w.heap.size + 1, 2, none⟩ = some (.string bkey) ∧ W.cell? ⟨w.heap.size + 1, 3, none⟩ = some (.string ben) ∧ W.cell? ⟨w.heap.size + 1, 4, none⟩ = some (.string bval) ∧ W.cell? ⟨w.heap.size + 1, 5, none⟩ = some (.int .i64 bex) ∧ W.cell? ⟨w.heap.size + 1, 6, none⟩ = some (.int .i64 bx) ∧ W.cell? ⟨w.heap.size + 1, 7, none⟩ = some (.int .i64 b_y) ∧ W.cell? ⟨w.heap.size + 1, 8, none⟩ = some (.int .i64 bz) ∧ W.cell? ⟨w.heap.size + 1, 9, none⟩ = some ob ∧ Hid (KR w oa ob ao bo W)) (hb : Below W.heap.size W W') : W'.cell? ⟨w.heap.size, 0, none⟩ = some (.int .i64 at_) ∧ W'.cell? ⟨w.heap.size, 1, none⟩ = some (.int .i64 ak) ∧ W'.cell? ⟨w.heap.size, 2, none⟩ = some (.string akey) ∧ W'.cell? ⟨w.heap.size, 3, none⟩ = some (.string aen) ∧ W'.cell? ⟨w.heap.size, 4, none⟩ = some (.string aval) ∧ W'.cell? ⟨w.heap.size, 5, none⟩ = some (.int .i64 aex) ∧ W'.cell? ⟨w.heap.size, 6, none⟩ = some (.int .i64 ax) ∧ W'.cell? ⟨w.heap.size, 7, none⟩ = some (.int .i64 ay) ∧ W'.cell? ⟨w.heap.size, 8, none⟩ = some (.int .i64 az) ∧ W'.cell? ⟨w.heap.size, 9, none⟩ = some oa ∧ W'.cell? ⟨w.heap.size + 1, 0, none⟩ = some (.int .i64 bt) ∧ W'.cell? ⟨w.heap.size + 1, 1, none⟩ = some (.int .i64 bk) ∧ W'.cell? ⟨w.heap.size + 1, 2, none⟩ = some (.string bkey) ∧ W'.cell? ⟨w.heap.size + 1, 3, none⟩ = some (.string ben) ∧ W'.cell? ⟨w.heap.size + 1, 4, none⟩ = some (.string bval) ∧ W'.cell? ⟨w.heap.size + 1, 5, none⟩ = some (.int .i64 bex) ∧ W'.cell? ⟨w.heap.size + 1, 6, none⟩ = some (.int .i64 bx) ∧ W'.cell? ⟨w.heap.size + 1, 7, none⟩ = some (.int .i64 b_y) ∧ W'.cell? ⟨w.heap.size + 1, 8, none⟩ = some (.int .i64 bz) ∧ W'.cell? ⟨w.heap.size + 1, 9, none⟩ = some ob ∧ Hid (KR w oa ob ao bo W') := by
  obtain ⟨k0, k1, k2, k3, k4, k5, k6, k7, k8, k9, k10, k11, k12, k13, k14, k15, k16, k17, k18, k19, k20⟩ := h
  exact ⟨cell_nx hb k0, cell_nx hb k1, cell_nx hb k2, cell_nx hb k3, cell_nx hb k4, cell_nx hb k5, cell_nx hb k6, cell_nx hb k7, cell_nx hb k8, cell_nx hb k9, cell_nx hb k10, cell_nx hb k11, cell_nx hb k12, cell_nx hb k13, cell_nx hb k14, cell_nx hb k15, cell_nx hb k16, cell_nx hb k17, cell_nx hb k18, cell_nx hb k19, Hid.mk' (k20.out.next hb)⟩
theorem MR_set {w W : World} {D j : Nat} {u : Value} {at_ ak aex ax ay az bt bk bex bx b_y bz : Int} {akey aen aval bkey ben bval : ByteArray} {oa ob : Value} {ao bo : List St}
    (h : W.cell? ⟨w.heap.size, 0, none⟩ = some (.int .i64 at_) ∧ W.cell? ⟨w.heap.size, 1, none⟩ = some (.int .i64 ak) ∧ W.cell? ⟨w.heap.size, 2, none⟩ = some (.string akey) ∧ W.cell? ⟨w.heap.size, 3, none⟩ = some (.string aen) ∧ W.cell? ⟨w.heap.size, 4, none⟩ = some (.string aval) ∧ W.cell? ⟨w.heap.size, 5, none⟩ = some (.int .i64 aex) ∧ W.cell? ⟨w.heap.size, 6, none⟩ = some (.int .i64 ax) ∧ W.cell? ⟨w.heap.size, 7, none⟩ = some (.int .i64 ay) ∧ W.cell? ⟨w.heap.size, 8, none⟩ = some (.int .i64 az) ∧ W.cell? ⟨w.heap.size, 9, none⟩ = some oa ∧ W.cell? ⟨w.heap.size + 1, 0, none⟩ = some (.int .i64 bt) ∧ W.cell? ⟨w.heap.size + 1, 1, none⟩ = some (.int .i64 bk) ∧ W.cell? ⟨w.heap.size + 1, 2, none⟩ = some (.string bkey) ∧ W.cell? ⟨w.heap.size + 1, 3, none⟩ = some (.string ben) ∧ W.cell? ⟨w.heap.size + 1, 4, none⟩ = some (.string bval) ∧ W.cell? ⟨w.heap.size + 1, 5, none⟩ = some (.int .i64 bex) ∧ W.cell? ⟨w.heap.size + 1, 6, none⟩ = some (.int .i64 bx) ∧ W.cell? ⟨w.heap.size + 1, 7, none⟩ = some (.int .i64 b_y) ∧ W.cell? ⟨w.heap.size + 1, 8, none⟩ = some (.int .i64 bz) ∧ W.cell? ⟨w.heap.size + 1, 9, none⟩ = some ob ∧ Hid (KR w oa ob ao bo W)) (hD : w.heap.size + 2 ≤ D) : (W.setCell ⟨D, j, none⟩ u).cell? ⟨w.heap.size, 0, none⟩ = some (.int .i64 at_) ∧ (W.setCell ⟨D, j, none⟩ u).cell? ⟨w.heap.size, 1, none⟩ = some (.int .i64 ak) ∧ (W.setCell ⟨D, j, none⟩ u).cell? ⟨w.heap.size, 2, none⟩ = some (.string akey) ∧ (W.setCell ⟨D, j, none⟩ u).cell? ⟨w.heap.size, 3, none⟩ = some (.string aen) ∧ (W.setCell ⟨D, j, none⟩ u).cell? ⟨w.heap.size, 4, none⟩ = some (.string aval) ∧ (W.setCell ⟨D, j, none⟩ u).cell? ⟨w.heap.size, 5, none⟩ = some (.int .i64 aex) ∧ (W.setCell ⟨D, j, none⟩ u).cell? ⟨w.heap.size, 6, none⟩ = some (.int .i64 ax) ∧ (W.setCell ⟨D, j, none⟩ u).cell? ⟨w.heap.size, 7, none⟩ = some (.int .i64 ay) ∧ (W.setCell ⟨D, j, none⟩ u).cell? ⟨w.heap.size, 8, none⟩ = some (.int .i64 az) ∧ (W.setCell ⟨D, j, none⟩ u).cell? ⟨w.heap.size, 9, none⟩ = some oa ∧ (W.setCell ⟨D, j, none⟩ u).cell? ⟨w.heap.size + 1, 0, none⟩ = some (.int .i64 bt) ∧ (W.setCell ⟨D, j, none⟩ u).cell? ⟨w.heap.size + 1, 1, none⟩ = some (.int .i64 bk) ∧ (W.setCell ⟨D, j, none⟩ u).cell? ⟨w.heap.size + 1, 2, none⟩ = some (.string bkey) ∧ (W.setCell ⟨D, j, none⟩ u).cell? ⟨w.heap.size + 1, 3, none⟩ = some (.string ben) ∧ (W.setCell ⟨D, j, none⟩ u).cell? ⟨w.heap.size + 1, 4, none⟩ = some (.string bval) ∧ (W.setCell ⟨D, j, none⟩ u).cell? ⟨w.heap.size + 1, 5, none⟩ = some (.int .i64 bex) ∧ (W.setCell ⟨D, j, none⟩ u).cell? ⟨w.heap.size + 1, 6, none⟩ = some (.int .i64 bx) ∧ (W.setCell ⟨D, j, none⟩ u).cell? ⟨w.heap.size + 1, 7, none⟩ = some (.int .i64 b_y) ∧ (W.setCell ⟨D, j, none⟩ u).cell? ⟨w.heap.size + 1, 8, none⟩ = some (.int .i64 bz) ∧ (W.setCell ⟨D, j, none⟩ u).cell? ⟨w.heap.size + 1, 9, none⟩ = some ob ∧ Hid (KR w oa ob ao bo (W.setCell ⟨D, j, none⟩ u)) := by
  obtain ⟨k0, k1, k2, k3, k4, k5, k6, k7, k8, k9, k10, k11, k12, k13, k14, k15, k16, k17, k18, k19, k20⟩ := h
  have e1 : D ≠ w.heap.size := by omega
  have e2 : D ≠ w.heap.size + 1 := by omega
  exact ⟨cell_beside k0 e1, cell_beside k1 e1, cell_beside k2 e1, cell_beside k3 e1, cell_beside k4 e1, cell_beside k5 e1, cell_beside k6 e1, cell_beside k7 e1, cell_beside k8 e1, cell_beside k9 e1, cell_beside k10 e2, cell_beside k11 e2, cell_beside k12 e2, cell_beside k13 e2, cell_beside k14 e2, cell_beside k15 e2, cell_beside k16 e2, cell_beside k17 e2, cell_beside k18 e2, cell_beside k19 e2, Hid.mk' ⟨k20.out.1, k20.out.2.1, k20.out.2.2.setCell (p := ⟨D, j, none⟩) (by show w.heap.size ≤ D; omega) u⟩⟩
theorem fnz_skip {x : Int} {l : List Int} (h : x = 0) : fnz (x :: l) = fnz l := by rw [fnz, if_neg (by simpa using h)]
theorem fnz_hit {x : Int} {l : List Int} (h : x ≠ 0) : fnz (x :: l) = x := by rw [fnz, if_pos (by simpa using h)]
theorem ax_fin {w W : World} {D : Nat} {z1 z2 z3 z4 z5 z6 z7 z8 : Int} {oa ob : Value} {ao bo : List St} (h : AX w W D) (k : KR w oa ob ao bo W) :
    Bx ((((((((W.setCell ⟨D, 0, none⟩ (.int .i64 z1)).setCell ⟨D, 1, none⟩ (.int .i64 z2)).setCell ⟨D, 2, none⟩ (.int .i64 z3)).setCell ⟨D, 3, none⟩ (.int .i64 z4)).setCell ⟨D, 4, none⟩ (.int .i64 z5)).setCell ⟨D, 5, none⟩ (.int .i64 z6)).setCell ⟨D, 6, none⟩ (.int .i64 z7)).setCell ⟨D, 7, none⟩ (.int .i64 z8)) D 93 #[.int .i64 z1, .int .i64 z2, .int .i64 z3, .int .i64 z4, .int .i64 z5, .int .i64 z6, .int .i64 z7, .int .i64 z8] ∧ Below w.heap.size w ((((((((W.setCell ⟨D, 0, none⟩ (.int .i64 z1)).setCell ⟨D, 1, none⟩ (.int .i64 z2)).setCell ⟨D, 2, none⟩ (.int .i64 z3)).setCell ⟨D, 3, none⟩ (.int .i64 z4)).setCell ⟨D, 4, none⟩ (.int .i64 z5)).setCell ⟨D, 5, none⟩ (.int .i64 z6)).setCell ⟨D, 6, none⟩ (.int .i64 z7)).setCell ⟨D, 7, none⟩ (.int .i64 z8)) := by
  have hD := AX.lo h
  have hle : w.heap.size ≤ D := by omega
  have b0 : Bx _ D 93 #[.int .i64 z1, .int .i64 0, .int .i64 0, .int .i64 0, .int .i64 0, .int .i64 0, .int .i64 0, .int .i64 0] := Bx.put h.1 0 (.int .i64 z1)
  have l0 := Below.setCell k.2.2 (p := ⟨D, 0, none⟩) hle (.int .i64 z1)
  have b1 : Bx _ D 93 #[.int .i64 z1, .int .i64 z2, .int .i64 0, .int .i64 0, .int .i64 0, .int .i64 0, .int .i64 0, .int .i64 0] := Bx.put b0 1 (.int .i64 z2)
  have l1 := Below.setCell l0 (p := ⟨D, 1, none⟩) hle (.int .i64 z2)
  have b2 : Bx _ D 93 #[.int .i64 z1, .int .i64 z2, .int .i64 z3, .int .i64 0, .int .i64 0, .int .i64 0, .int .i64 0, .int .i64 0] := Bx.put b1 2 (.int .i64 z3)
  have l2 := Below.setCell l1 (p := ⟨D, 2, none⟩) hle (.int .i64 z3)
  have b3 : Bx _ D 93 #[.int .i64 z1, .int .i64 z2, .int .i64 z3, .int .i64 z4, .int .i64 0, .int .i64 0, .int .i64 0, .int .i64 0] := Bx.put b2 3 (.int .i64 z4)
  have l3 := Below.setCell l2 (p := ⟨D, 3, none⟩) hle (.int .i64 z4)
  have b4 : Bx _ D 93 #[.int .i64 z1, .int .i64 z2, .int .i64 z3, .int .i64 z4, .int .i64 z5, .int .i64 0, .int .i64 0, .int .i64 0] := Bx.put b3 4 (.int .i64 z5)
  have l4 := Below.setCell l3 (p := ⟨D, 4, none⟩) hle (.int .i64 z5)
  have b5 : Bx _ D 93 #[.int .i64 z1, .int .i64 z2, .int .i64 z3, .int .i64 z4, .int .i64 z5, .int .i64 z6, .int .i64 0, .int .i64 0] := Bx.put b4 5 (.int .i64 z6)
  have l5 := Below.setCell l4 (p := ⟨D, 5, none⟩) hle (.int .i64 z6)
  have b6 : Bx _ D 93 #[.int .i64 z1, .int .i64 z2, .int .i64 z3, .int .i64 z4, .int .i64 z5, .int .i64 z6, .int .i64 z7, .int .i64 0] := Bx.put b5 6 (.int .i64 z7)
  have l6 := Below.setCell l5 (p := ⟨D, 6, none⟩) hle (.int .i64 z7)
  have b7 : Bx _ D 93 #[.int .i64 z1, .int .i64 z2, .int .i64 z3, .int .i64 z4, .int .i64 z5, .int .i64 z6, .int .i64 z7, .int .i64 z8] := Bx.put b6 7 (.int .i64 z8)
  have l7 := Below.setCell l6 (p := ⟨D, 7, none⟩) hle (.int .i64 z8)

  exact ⟨b7, l7⟩
theorem MR_set8 {w W : World} {D : Nat} {u0 u1 u2 u3 u4 u5 u6 u7 : Value} {at_ ak aex ax ay az bt bk bex bx b_y bz : Int} {akey aen aval bkey ben bval : ByteArray} {oa ob : Value} {ao bo : List St}
    (h : W.cell? ⟨w.heap.size, 0, none⟩ = some (.int .i64 at_) ∧ W.cell? ⟨w.heap.size, 1, none⟩ = some (.int .i64 ak) ∧ W.cell? ⟨w.heap.size, 2, none⟩ = some (.string akey) ∧ W.cell? ⟨w.heap.size, 3, none⟩ = some (.string aen) ∧ W.cell? ⟨w.heap.size, 4, none⟩ = some (.string aval) ∧ W.cell? ⟨w.heap.size, 5, none⟩ = some (.int .i64 aex) ∧ W.cell? ⟨w.heap.size, 6, none⟩ = some (.int .i64 ax) ∧ W.cell? ⟨w.heap.size, 7, none⟩ = some (.int .i64 ay) ∧ W.cell? ⟨w.heap.size, 8, none⟩ = some (.int .i64 az) ∧ W.cell? ⟨w.heap.size, 9, none⟩ = some oa ∧ W.cell? ⟨w.heap.size + 1, 0, none⟩ = some (.int .i64 bt) ∧ W.cell? ⟨w.heap.size + 1, 1, none⟩ = some (.int .i64 bk) ∧ W.cell? ⟨w.heap.size + 1, 2, none⟩ = some (.string bkey) ∧ W.cell? ⟨w.heap.size + 1, 3, none⟩ = some (.string ben) ∧ W.cell? ⟨w.heap.size + 1, 4, none⟩ = some (.string bval) ∧ W.cell? ⟨w.heap.size + 1, 5, none⟩ = some (.int .i64 bex) ∧ W.cell? ⟨w.heap.size + 1, 6, none⟩ = some (.int .i64 bx) ∧ W.cell? ⟨w.heap.size + 1, 7, none⟩ = some (.int .i64 b_y) ∧ W.cell? ⟨w.heap.size + 1, 8, none⟩ = some (.int .i64 bz) ∧ W.cell? ⟨w.heap.size + 1, 9, none⟩ = some ob ∧ Hid (KR w oa ob ao bo W)) (hD : w.heap.size + 2 ≤ D) : ((((((((W.setCell ⟨D, 0, none⟩ u0).setCell ⟨D, 1, none⟩ u1).setCell ⟨D, 2, none⟩ u2).setCell ⟨D, 3, none⟩ u3).setCell ⟨D, 4, none⟩ u4).setCell ⟨D, 5, none⟩ u5).setCell ⟨D, 6, none⟩ u6).setCell ⟨D, 7, none⟩ u7).cell? ⟨w.heap.size, 0, none⟩ = some (.int .i64 at_) ∧ ((((((((W.setCell ⟨D, 0, none⟩ u0).setCell ⟨D, 1, none⟩ u1).setCell ⟨D, 2, none⟩ u2).setCell ⟨D, 3, none⟩ u3).setCell ⟨D, 4, none⟩ u4).setCell ⟨D, 5, none⟩ u5).setCell ⟨D, 6, none⟩ u6).setCell ⟨D, 7, none⟩ u7).cell? ⟨w.heap.size, 1, none⟩ = some (.int .i64 ak) ∧ ((((((((W.setCell ⟨D, 0, none⟩ u0).setCell ⟨D, 1, none⟩ u1).setCell ⟨D, 2, none⟩ u2).setCell ⟨D, 3, none⟩ u3).setCell ⟨D, 4, none⟩ u4).setCell ⟨D, 5, none⟩ u5).setCell ⟨D, 6, none⟩ u6).setCell ⟨D, 7, none⟩ u7).cell? ⟨w.heap.size, 2, none⟩ = some (.string akey) ∧ ((((((((W.setCell ⟨D, 0, none⟩ u0).setCell ⟨D, 1, none⟩ u1).setCell ⟨D, 2, none⟩ u2).setCell ⟨D, 3, none⟩ u3).setCell ⟨D, 4, none⟩ u4).setCell ⟨D, 5, none⟩ u5).setCell ⟨D, 6, none⟩ u6).setCell ⟨D, 7, none⟩ u7).cell? ⟨w.heap.size, 3, none⟩ = some (.string aen) ∧ ((((((((W.setCell ⟨D, 0, none⟩ u0).setCell ⟨D, 1, none⟩ u1).setCell ⟨D, 2, none⟩ u2).setCell ⟨D, 3, none⟩ u3).setCell ⟨D, 4, none⟩ u4).setCell ⟨D, 5, none⟩ u5).setCell ⟨D, 6, none⟩ u6).setCell ⟨D, 7, none⟩ u7).cell? ⟨w.heap.size, 4, none⟩ = some (.string aval) ∧ ((((((((W.setCell ⟨D, 0, none⟩ u0).setCell ⟨D, 1, none⟩ u1).setCell ⟨D, 2, none⟩ u2).setCell ⟨D, 3, none⟩ u3).setCell ⟨D, 4, none⟩ u4).setCell ⟨D, 5, none⟩ u5).setCell ⟨D, 6, none⟩ u6).setCell ⟨D, 7, none⟩ u7).cell? ⟨w.heap.size, 5, none⟩ = some (.int .i64 aex) ∧ ((((((((W.setCell ⟨D, 0, none⟩ u0).setCell ⟨D, 1, none⟩ u1).setCell ⟨D, 2, none⟩ u2).setCell ⟨D, 3, none⟩ u3).setCell ⟨D, 4, none⟩ u4).setCell ⟨D, 5, none⟩ u5).setCell ⟨D, 6, none⟩ u6).setCell ⟨D, 7, none⟩ u7).cell? ⟨w.heap.size, 6, none⟩ = some (.int .i64 ax) ∧ ((((((((W.setCell ⟨D, 0, none⟩ u0).setCell ⟨D, 1, none⟩ u1).setCell ⟨D, 2, none⟩ u2).setCell ⟨D, 3, none⟩ u3).setCell ⟨D, 4, none⟩ u4).setCell ⟨D, 5, none⟩ u5).setCell ⟨D, 6, none⟩ u6).setCell ⟨D, 7, none⟩ u7).cell? ⟨w.heap.size, 7, none⟩ = some (.int .i64 ay) ∧ ((((((((W.setCell ⟨D, 0, none⟩ u0).setCell ⟨D, 1, none⟩ u1).setCell ⟨D, 2, none⟩ u2).setCell ⟨D, 3, none⟩ u3).setCell ⟨D, 4, none⟩ u4).setCell ⟨D, 5, none⟩ u5).setCell ⟨D, 6, none⟩ u6).setCell ⟨D, 7, none⟩ u7).cell? ⟨w.heap.size, 8, none⟩ = some (.int .i64 az) ∧ ((((((((W.setCell ⟨D, 0, none⟩ u0).setCell ⟨D, 1, none⟩ u1).setCell ⟨D, 2, none⟩ u2).setCell ⟨D, 3, none⟩ u3).setCell ⟨D, 4, none⟩ u4).setCell ⟨D, 5, none⟩ u5).setCell ⟨D, 6, none⟩ u6).setCell ⟨D, 7, none⟩ u7).cell? ⟨w.heap.size, 9, none⟩ = some oa ∧ ((((((((W.setCell ⟨D, 0, none⟩ u0).setCell ⟨D, 1, none⟩ u1).setCell ⟨D, 2, none⟩ u2).setCell ⟨D, 3, none⟩ u3).setCell ⟨D, 4, none⟩ u4).setCell ⟨D, 5, none⟩ u5).setCell ⟨D, 6, none⟩ u6).setCell ⟨D, 7, none⟩ u7).cell? ⟨w.heap.size + 1, 0, none⟩ = some (.int .i64 bt) ∧ ((((((((W.setCell ⟨D, 0, none⟩ u0).setCell ⟨D, 1, none⟩ u1).setCell ⟨D, 2, none⟩ u2).setCell ⟨D, 3, none⟩ u3).setCell ⟨D, 4, none⟩ u4).setCell ⟨D, 5, none⟩ u5).setCell ⟨D, 6, none⟩ u6).setCell ⟨D, 7, none⟩ u7).cell? ⟨w.heap.size + 1, 1, none⟩ = some (.int .i64 bk) ∧ ((((((((W.setCell ⟨D, 0, none⟩ u0).setCell ⟨D, 1, none⟩ u1).setCell ⟨D, 2, none⟩ u2).setCell ⟨D, 3, none⟩ u3).setCell ⟨D, 4, none⟩ u4).setCell ⟨D, 5, none⟩ u5).setCell ⟨D, 6, none⟩ u6).setCell ⟨D, 7, none⟩ u7).cell? ⟨w.heap.size + 1, 2, none⟩ = some (.string bkey) ∧ ((((((((W.setCell ⟨D, 0, none⟩ u0).setCell ⟨D, 1, none⟩ u1).setCell ⟨D, 2, none⟩ u2).setCell ⟨D, 3, none⟩ u3).setCell ⟨D, 4, none⟩ u4).setCell ⟨D, 5, none⟩ u5).setCell ⟨D, 6, none⟩ u6).setCell ⟨D, 7, none⟩ u7).cell? ⟨w.heap.size + 1, 3, none⟩ = some (.string ben) ∧ ((((((((W.setCell ⟨D, 0, none⟩ u0).setCell ⟨D, 1, none⟩ u1).setCell ⟨D, 2, none⟩ u2).setCell ⟨D, 3, none⟩ u3).setCell ⟨D, 4, none⟩ u4).setCell ⟨D, 5, none⟩ u5).setCell ⟨D, 6, none⟩ u6).setCell ⟨D, 7, none⟩ u7).cell? ⟨w.heap.size + 1, 4, none⟩ = some (.string bval) ∧ ((((((((W.setCell ⟨D, 0, none⟩ u0).setCell ⟨D, 1, none⟩ u1).setCell ⟨D, 2, none⟩ u2).setCell ⟨D, 3, none⟩ u3).setCell ⟨D, 4, none⟩ u4).setCell ⟨D, 5, none⟩ u5).setCell ⟨D, 6, none⟩ u6).setCell ⟨D, 7, none⟩ u7).cell? ⟨w.heap.size + 1, 5, none⟩ = some (.int .i64 bex) ∧ ((((((((W.setCell ⟨D, 0, none⟩ u0).setCell ⟨D, 1, none⟩ u1).setCell ⟨D, 2, none⟩ u2).setCell ⟨D, 3, none⟩ u3).setCell ⟨D, 4, none⟩ u4).setCell ⟨D, 5, none⟩ u5).setCell ⟨D, 6, none⟩ u6).setCell ⟨D, 7, none⟩ u7).cell? ⟨w.heap.size + 1, 6, none⟩ = some (.int .i64 bx) ∧ ((((((((W.setCell ⟨D, 0, none⟩ u0).setCell ⟨D, 1, none⟩ u1).setCell ⟨D, 2, none⟩ u2).setCell ⟨D, 3, none⟩ u3).setCell ⟨D, 4, none⟩ u4).setCell ⟨D, 5, none⟩ u5).setCell ⟨D, 6, none⟩ u6).setCell ⟨D, 7, none⟩ u7).cell? ⟨w.heap.size + 1, 7, none⟩ = some (.int .i64 b_y) ∧ ((((((((W.setCell ⟨D, 0, none⟩ u0).setCell ⟨D, 1, none⟩ u1).setCell ⟨D, 2, none⟩ u2).setCell ⟨D, 3, none⟩ u3).setCell ⟨D, 4, none⟩ u4).setCell ⟨D, 5, none⟩ u5).setCell ⟨D, 6, none⟩ u6).setCell ⟨D, 7, none⟩ u7).cell? ⟨w.heap.size + 1, 8, none⟩ = some (.int .i64 bz) ∧ ((((((((W.setCell ⟨D, 0, none⟩ u0).setCell ⟨D, 1, none⟩ u1).setCell ⟨D, 2, none⟩ u2).setCell ⟨D, 3, none⟩ u3).setCell ⟨D, 4, none⟩ u4).setCell ⟨D, 5, none⟩ u5).setCell ⟨D, 6, none⟩ u6).setCell ⟨D, 7, none⟩ u7).cell? ⟨w.heap.size + 1, 9, none⟩ = some ob ∧ Hid (KR w oa ob ao bo ((((((((W.setCell ⟨D, 0, none⟩ u0).setCell ⟨D, 1, none⟩ u1).setCell ⟨D, 2, none⟩ u2).setCell ⟨D, 3, none⟩ u3).setCell ⟨D, 4, none⟩ u4).setCell ⟨D, 5, none⟩ u5).setCell ⟨D, 6, none⟩ u6).setCell ⟨D, 7, none⟩ u7)) :=
  MR_set (MR_set (MR_set (MR_set (MR_set (MR_set (MR_set (MR_set h hD) hD) hD) hD) hD) hD) hD) hD
theorem MR_size {w W : World} {at_ ak aex ax ay az bt bk bex bx b_y bz : Int} {akey aen aval bkey ben bval : ByteArray} {oa ob : Value} {ao bo : List St}
    (h : (W.alloc (.cells #[.int .i64 0, .int .i64 0, .int .i64 0, .int .i64 0, .int .i64 0, .int .i64 0, .int .i64 0, .int .i64 0] 93)).cell? ⟨w.heap.size, 0, none⟩ = some (.int .i64 at_) ∧ (W.alloc (.cells #[.int .i64 0, .int .i64 0, .int .i64 0, .int .i64 0, .int .i64 0, .int .i64 0, .int .i64 0, .int .i64 0] 93)).cell? ⟨w.heap.size, 1, none⟩ = some (.int .i64 ak) ∧ (W.alloc (.cells #[.int .i64 0, .int .i64 0, .int .i64 0, .int .i64 0, .int .i64 0, .int .i64 0, .int .i64 0, .int .i64 0] 93)).cell? ⟨w.heap.size, 2, none⟩ = some (.string akey) ∧ (W.alloc (.cells #[.int .i64 0, .int .i64 0, .int .i64 0, .int .i64 0, .int .i64 0, .int .i64 0, .int .i64 0, .int .i64 0] 93)).cell? ⟨w.heap.size, 3, none⟩ = some (.string aen) ∧ (W.alloc (.cells #[.int .i64 0, .int .i64 0, .int .i64 0, .int .i64 0, .int .i64 0, .int .i64 0, .int .i64 0, .int .i64 0] 93)).cell? ⟨w.heap.size, 4, none⟩ = some (.string aval) ∧ (W.alloc (.cells #[.int .i64 0, .int .i64 0, .int .i64 0, .int .i64 0, .int .i64 0, .int .i64 0, .int .i64 0, .int .i64 0] 93)).cell? ⟨w.heap.size, 5, none⟩ = some (.int .i64 aex) ∧ (W.alloc (.cells #[.int .i64 0, .int .i64 0, .int .i64 0, .int .i64 0, .int .i64 0, .int .i64 0, .int .i64 0, .int .i64 0] 93)).cell? ⟨w.heap.size, 6, none⟩ = some (.int .i64 ax) ∧ (W.alloc (.cells #[.int .i64 0, .int .i64 0, .int .i64 0, .int .i64 0, .int .i64 0, .int .i64 0, .int .i64 0, .int .i64 0] 93)).cell? ⟨w.heap.size, 7, none⟩ = some (.int .i64 ay) ∧ (W.alloc (.cells #[.int .i64 0, .int .i64 0, .int .i64 0, .int .i64 0, .int .i64 0, .int .i64 0, .int .i64 0, .int .i64 0] 93)).cell? ⟨w.heap.size, 8, none⟩ = some (.int .i64 az) ∧ (W.alloc (.cells #[.int .i64 0, .int .i64 0, .int .i64 0, .int .i64 0, .int .i64 0, .int .i64 0, .int .i64 0, .int .i64 0] 93)).cell? ⟨w.heap.size, 9, none⟩ = some oa ∧ (W.alloc (.cells #[.int .i64 0, .int .i64 0, .int .i64 0, .int .i64 0, .int .i64 0, .int .i64 0, .int .i64 0, .int .i64 0] 93)).cell? ⟨w.heap.size + 1, 0, none⟩ = some (.int .i64 bt) ∧ (W.alloc (.cells #[.int .i64 0, .int .i64 0, .int .i64 0, .int .i64 0, .int .i64 0, .int .i64 0, .int .i64 0, .int .i64 0] 93)).cell? ⟨w.heap.size + 1, 1, none⟩ = some (.int .i64 bk) ∧ (W.alloc (.cells #[.int .i64 0, .int .i64 0, .int .i64 0, .int .i64 0, .int .i64 0, .int .i64 0, .int .i64 0, .int .i64 0] 93)).cell? ⟨w.heap.size + 1, 2, none⟩ = some (.string bkey) ∧ (W.alloc (.cells #[.int .i64 0, .int .i64 0, .int .i64 0, .int .i64 0, .int .i64 0, .int .i64 0, .int .i64 0, .int .i64 0] 93)).cell? ⟨w.heap.size + 1, 3, none⟩ = some (.string ben) ∧ (W.alloc (.cells #[.int .i64 0, .int .i64 0, .int .i64 0, .int .i64 0, .int .i64 0, .int .i64 0, .int .i64 0, .int .i64 0] 93)).cell? ⟨w.heap.size + 1, 4, none⟩ = some (.string bval) ∧ (W.alloc (.cells #[.int .i64 0, .int .i64 0, .int .i64 0, .int .i64 0, .int .i64 0, .int .i64 0, .int .i64 0, .int .i64 0] 93)).cell? ⟨w.heap.size + 1, 5, none⟩ = some (.int .i64 bex) ∧ (W.alloc (.cells #[.int .i64 0, .int .i64 0, .int .i64 0, .int .i64 0, .int .i64 0, .int .i64 0, .int .i64 0, .int .i64 0] 93)).cell? ⟨w.heap.size + 1, 6, none⟩ = some (.int .i64 bx) ∧ (W.alloc (.cells #[.int .i64 0, .int .i64 0, .int .i64 0, .int .i64 0, .int .i64 0, .int .i64 0, .int .i64 0, .int .i64 0] 93)).cell? ⟨w.heap.size + 1, 7, none⟩ = some (.int .i64 b_y) ∧ (W.alloc (.cells #[.int .i64 0, .int .i64 0, .int .i64 0, .int .i64 0, .int .i64 0, .int .i64 0, .int .i64 0, .int .i64 0] 93)).cell? ⟨w.heap.size + 1, 8, none⟩ = some (.int .i64 bz) ∧ (W.alloc (.cells #[.int .i64 0, .int .i64 0, .int .i64 0, .int .i64 0, .int .i64 0, .int .i64 0, .int .i64 0, .int .i64 0] 93)).cell? ⟨w.heap.size + 1, 9, none⟩ = some ob ∧ Hid (KR w oa ob ao bo (W.alloc (.cells #[.int .i64 0, .int .i64 0, .int .i64 0, .int .i64 0, .int .i64 0, .int .i64 0, .int .i64 0, .int .i64 0] 93)))) : w.heap.size + 2 ≤ W.heap.size := by
  obtain ⟨k0, k1, k2, k3, k4, k5, k6, k7, k8, k9, k10, k11, k12, k13, k14, k15, k16, k17, k18, k19, k20⟩ := h
  have h1 := World.block_lt_of_cell? _ _ k12
  rw [World.size_alloc] at h1
  have h2 : w.heap.size + 1 ≠ W.heap.size := fun e => by
    have h3 := (Bx.fresh W 93 #[.int .i64 0, .int .i64 0, .int .i64 0, .int .i64 0, .int .i64 0, .int .i64 0, .int .i64 0, .int .i64 0]).read (i := 2) rfl
    rw [← e, k12] at h3
    cases h3
  have h4 : w.heap.size + 1 < W.heap.size + 1 := h1
  omega
theorem MR_sizeD {w W : World} {at_ ak aex ax ay az bt bk bex bx b_y bz : Int} {akey aen aval bkey ben bval : ByteArray} {oa ob : Value} {ao bo : List St}
    (h : ((W.alloc (.cells #[.int .i64 0, .int .i64 0, .int .i64 0, .int .i64 0, .int .i64 0, .int .i64 0, .int .i64 0, .int .i64 0] 93)).drew).cell? ⟨w.heap.size, 0, none⟩ = some (.int .i64 at_) ∧ ((W.alloc (.cells #[.int .i64 0, .int .i64 0, .int .i64 0, .int .i64 0, .int .i64 0, .int .i64 0, .int .i64 0, .int .i64 0] 93)).drew).cell? ⟨w.heap.size, 1, none⟩ = some (.int .i64 ak) ∧ ((W.alloc (.cells #[.int .i64 0, .int .i64 0, .int .i64 0, .int .i64 0, .int .i64 0, .int .i64 0, .int .i64 0, .int .i64 0] 93)).drew).cell? ⟨w.heap.size, 2, none⟩ = some (.string akey) ∧ ((W.alloc (.cells #[.int .i64 0, .int .i64 0, .int .i64 0, .int .i64 0, .int .i64 0, .int .i64 0, .int .i64 0, .int .i64 0] 93)).drew).cell? ⟨w.heap.size, 3, none⟩ = some (.string aen) ∧ ((W.alloc (.cells #[.int .i64 0, .int .i64 0, .int .i64 0, .int .i64 0, .int .i64 0, .int .i64 0, .int .i64 0, .int .i64 0] 93)).drew).cell? ⟨w.heap.size, 4, none⟩ = some (.string aval) ∧ ((W.alloc (.cells #[.int .i64 0, .int .i64 0, .int .i64 0, .int .i64 0, .int .i64 0, .int .i64 0, .int .i64 0, .int .i64 0] 93)).drew).cell? ⟨w.heap.size, 5, none⟩ = some (.int .i64 aex) ∧ ((W.alloc (.cells #[.int .i64 0, .int .i64 0, .int .i64 0, .int .i64 0, .int .i64 0, .int .i64 0, .int .i64 0, .int .i64 0] 93)).drew).cell? ⟨w.heap.size, 6, none⟩ = some (.int .i64 ax) ∧ ((W.alloc (.cells #[.int .i64 0, .int .i64 0, .int .i64 0, .int .i64 0, .int .i64 0, .int .i64 0, .int .i64 0, .int .i64 0] 93)).drew).cell? ⟨w.heap.size, 7, none⟩ = some (.int .i64 ay) ∧ ((W.alloc (.cells #[.int .i64 0, .int .i64 0, .int .i64 0, .int .i64 0, .int .i64 0, .int .i64 0, .int .i64 0, .int .i64 0] 93)).drew).cell? ⟨w.heap.size, 8, none⟩ = some (.int .i64 az) ∧ ((W.alloc (.cells #[.int .i64 0, .int .i64 0, .int .i64 0, .int .i64 0, .int .i64 0, .int .i64 0, .int .i64 0, .int .i64 0] 93)).drew).cell? ⟨w.heap.size, 9, none⟩ = some oa ∧ ((W.alloc (.cells #[.int .i64 0, .int .i64 0, .int .i64 0, .int .i64 0, .int .i64 0, .int .i64 0, .int .i64 0, .int .i64 0] 93)).drew).cell? ⟨w.heap.size + 1, 0, none⟩ = some (.int .i64 bt) ∧ ((W.alloc (.cells #[.int .i64 0, .int .i64 0, .int .i64 0, .int .i64 0, .int .i64 0, .int .i64 0, .int .i64 0, .int .i64 0] 93)).drew).cell? ⟨w.heap.size + 1, 1, none⟩ = some (.int .i64 bk) ∧ ((W.alloc (.cells #[.int .i64 0, .int .i64 0, .int .i64 0, .int .i64 0, .int .i64 0, .int .i64 0, .int .i64 0, .int .i64 0] 93)).drew).cell? ⟨w.heap.size + 1, 2, none⟩ = some (.string bkey) ∧ ((W.alloc (.cells #[.int .i64 0, .int .i64 0, .int .i64 0, .int .i64 0, .int .i64 0, .int .i64 0, .int .i64 0, .int .i64 0] 93)).drew).cell? ⟨w.heap.size + 1, 3, none⟩ = some (.string ben) ∧ ((W.alloc (.cells #[.int .i64 0, .int .i64 0, .int .i64 0, .int .i64 0, .int .i64 0, .int .i64 0, .int .i64 0, .int .i64 0] 93)).drew).cell? ⟨w.heap.size + 1, 4, none⟩ = some (.string bval) ∧ ((W.alloc (.cells #[.int .i64 0, .int .i64 0, .int .i64 0, .int .i64 0, .int .i64 0, .int .i64 0, .int .i64 0, .int .i64 0] 93)).drew).cell? ⟨w.heap.size + 1, 5, none⟩ = some (.int .i64 bex) ∧ ((W.alloc (.cells #[.int .i64 0, .int .i64 0, .int .i64 0, .int .i64 0, .int .i64 0, .int .i64 0, .int .i64 0, .int .i64 0] 93)).drew).cell? ⟨w.heap.size + 1, 6, none⟩ = some (.int .i64 bx) ∧ ((W.alloc (.cells #[.int .i64 0, .int .i64 0, .int .i64 0, .int .i64 0, .int .i64 0, .int .i64 0, .int .i64 0, .int .i64 0] 93)).drew).cell? ⟨w.heap.size + 1, 7, none⟩ = some (.int .i64 b_y) ∧ ((W.alloc (.cells #[.int .i64 0, .int .i64 0, .int .i64 0, .int .i64 0, .int .i64 0, .int .i64 0, .int .i64 0, .int .i64 0] 93)).drew).cell? ⟨w.heap.size + 1, 8, none⟩ = some (.int .i64 bz) ∧ ((W.alloc (.cells #[.int .i64 0, .int .i64 0, .int .i64 0, .int .i64 0, .int .i64 0, .int .i64 0, .int .i64 0, .int .i64 0] 93)).drew).cell? ⟨w.heap.size + 1, 9, none⟩ = some ob ∧ Hid (KR w oa ob ao bo ((W.alloc (.cells #[.int .i64 0, .int .i64 0, .int .i64 0, .int .i64 0, .int .i64 0, .int .i64 0, .int .i64 0, .int .i64 0] 93)).drew))) : w.heap.size + 2 ≤ W.heap.size := by
  obtain ⟨k0, k1, k2, k3, k4, k5, k6, k7, k8, k9, k10, k11, k12, k13, k14, k15, k16, k17, k18, k19, k20⟩ := h
  have h1 := World.block_lt_of_cell? _ _ k12
  have h1' : w.heap.size + 1 < (W.alloc (.cells #[.int .i64 0, .int .i64 0, .int .i64 0, .int .i64 0, .int .i64 0, .int .i64 0, .int .i64 0, .int .i64 0] 93)).heap.size := h1
  rw [World.size_alloc] at h1'
  have h2 : w.heap.size + 1 ≠ W.heap.size := fun e => by
    have h3 := (Bx.fresh W 93 #[.int .i64 0, .int .i64 0, .int .i64 0, .int .i64 0, .int .i64 0, .int .i64 0, .int .i64 0, .int .i64 0]).read (i := 2) rfl
    have k12' : (W.alloc (.cells #[.int .i64 0, .int .i64 0, .int .i64 0, .int .i64 0, .int .i64 0, .int .i64 0, .int .i64 0, .int .i64 0] 93)).cell? ⟨w.heap.size + 1, 2, none⟩ = some (.string bkey) := k12
    rw [← e, k12'] at h3
    cases h3
  have h4 : w.heap.size + 1 < W.heap.size + 1 := h1'
  omega

set_option maxRecDepth 100000 in
set_option maxHeartbeats 32000000 in
theorem rcompare_any (a b : Mu) (oa ob : Value) (hna : a.over.length ≤ 100000) (hnb : b.over.length ≤ 100000) (w : World) (ha : SI w oa a.over) (hb : SI w ob b.over) :
    Calls Try.prog 21 #[.agg (a.cells oa), .agg (b.cells ob)] w fun e w' => e = .returned (.int .i64 (cmpM a b)) ∧ Below w.heap.size w w' := by
  obtain ⟨at_, ak, akey, aen, aval, aex, ⟨ax, ay, az⟩, ao⟩ := a
  obtain ⟨bt, bk, bkey, ben, bval, bex, ⟨bx, b_y, bz⟩, bo⟩ := b
  have HV := Lib.hid (show fnz [cmpS ⟨ax, ay, az⟩ ⟨bx, b_y, bz⟩, cmpI at_ bt, cmpI ak bk, cmpT akey bkey, cmpT aen ben, cmpT aval bval, cmpI aex bex, rowsC ao bo] = cmpM ⟨at_, ak, akey, aen, aval, aex, ⟨ax, ay, az⟩, ao⟩ ⟨bt, bk, bkey, ben, bval, bex, ⟨bx, b_y, bz⟩, bo⟩ from rfl)
  generalize cmpM _ _ = z at *
  unfold Mu.cells
  dsimp only at *
  have hK := show KR w oa ob ao bo ((w.alloc (.cells #[.int .i64 at_, .int .i64 ak, .string akey, .string aen, .string aval, .int .i64 aex, .int .i64 ax, .int .i64 ay, .int .i64 az, oa] 40)).alloc (.cells #[.int .i64 bt, .int .i64 bk, .string bkey, .string ben, .string bval, .int .i64 bex, .int .i64 bx, .int .i64 b_y, .int .i64 bz, ob] 40)) from ⟨ha, hb, ((Below.refl _ _).alloc (Nat.le_refl _) _).alloc (by simp) _⟩
  have HK := Lib.hid hK
  have HN := Lib.hid (And.intro hna hnb)
  clear ha hb hK hna hnb
  have BC1 := Hid.mk' (fun (W : World) (hW : W.cell? ⟨w.heap.size, 0, none⟩ = some (.int .i64 at_) ∧ W.cell? ⟨w.heap.size, 1, none⟩ = some (.int .i64 ak) ∧ W.cell? ⟨w.heap.size, 2, none⟩ = some (.string akey) ∧ W.cell? ⟨w.heap.size, 3, none⟩ = some (.string aen) ∧ W.cell? ⟨w.heap.size, 4, none⟩ = some (.string aval) ∧ W.cell? ⟨w.heap.size, 5, none⟩ = some (.int .i64 aex) ∧ W.cell? ⟨w.heap.size, 6, none⟩ = some (.int .i64 ax) ∧ W.cell? ⟨w.heap.size, 7, none⟩ = some (.int .i64 ay) ∧ W.cell? ⟨w.heap.size, 8, none⟩ = some (.int .i64 az) ∧ W.cell? ⟨w.heap.size, 9, none⟩ = some oa ∧ W.cell? ⟨w.heap.size + 1, 0, none⟩ = some (.int .i64 bt) ∧ W.cell? ⟨w.heap.size + 1, 1, none⟩ = some (.int .i64 bk) ∧ W.cell? ⟨w.heap.size + 1, 2, none⟩ = some (.string bkey) ∧ W.cell? ⟨w.heap.size + 1, 3, none⟩ = some (.string ben) ∧ W.cell? ⟨w.heap.size + 1, 4, none⟩ = some (.string bval) ∧ W.cell? ⟨w.heap.size + 1, 5, none⟩ = some (.int .i64 bex) ∧ W.cell? ⟨w.heap.size + 1, 6, none⟩ = some (.int .i64 bx) ∧ W.cell? ⟨w.heap.size + 1, 7, none⟩ = some (.int .i64 b_y) ∧ W.cell? ⟨w.heap.size + 1, 8, none⟩ = some (.int .i64 bz) ∧ W.cell? ⟨w.heap.size + 1, 9, none⟩ = some ob ∧ Hid (KR w oa ob ao bo W)) => (show Calls Try.prog 71 #[.agg #[.int .i64 ax, .int .i64 ay, .int .i64 az], .agg #[.int .i64 bx, .int .i64 b_y, .int .i64 bz]] W fun e w' => e = .returned (.int .i64 (cmpS ⟨ax, ay, az⟩ ⟨bx, b_y, bz⟩)) ∧ Below W.heap.size W w' from refcompare_any ⟨ax, ay, az⟩ ⟨bx, b_y, bz⟩ W))
  have BC2 := Hid.mk' (fun (W : World) (hW : W.cell? ⟨w.heap.size, 0, none⟩ = some (.int .i64 at_) ∧ W.cell? ⟨w.heap.size, 1, none⟩ = some (.int .i64 ak) ∧ W.cell? ⟨w.heap.size, 2, none⟩ = some (.string akey) ∧ W.cell? ⟨w.heap.size, 3, none⟩ = some (.string aen) ∧ W.cell? ⟨w.heap.size, 4, none⟩ = some (.string aval) ∧ W.cell? ⟨w.heap.size, 5, none⟩ = some (.int .i64 aex) ∧ W.cell? ⟨w.heap.size, 6, none⟩ = some (.int .i64 ax) ∧ W.cell? ⟨w.heap.size, 7, none⟩ = some (.int .i64 ay) ∧ W.cell? ⟨w.heap.size, 8, none⟩ = some (.int .i64 az) ∧ W.cell? ⟨w.heap.size, 9, none⟩ = some oa ∧ W.cell? ⟨w.heap.size + 1, 0, none⟩ = some (.int .i64 bt) ∧ W.cell? ⟨w.heap.size + 1, 1, none⟩ = some (.int .i64 bk) ∧ W.cell? ⟨w.heap.size + 1, 2, none⟩ = some (.string bkey) ∧ W.cell? ⟨w.heap.size + 1, 3, none⟩ = some (.string ben) ∧ W.cell? ⟨w.heap.size + 1, 4, none⟩ = some (.string bval) ∧ W.cell? ⟨w.heap.size + 1, 5, none⟩ = some (.int .i64 bex) ∧ W.cell? ⟨w.heap.size + 1, 6, none⟩ = some (.int .i64 bx) ∧ W.cell? ⟨w.heap.size + 1, 7, none⟩ = some (.int .i64 b_y) ∧ W.cell? ⟨w.heap.size + 1, 8, none⟩ = some (.int .i64 bz) ∧ W.cell? ⟨w.heap.size + 1, 9, none⟩ = some ob ∧ Hid (KR w oa ob ao bo W)) => (show Calls Try.prog 72 #[.int .i64 at_, .int .i64 bt] W fun e w' => e = .returned (.int .i64 (cmpI at_ bt)) ∧ Below W.heap.size W w' from (number_any _ _ W).mono fun _ _ ⟨x, y⟩ => by subst y; exact ⟨x, Below.refl _ _⟩))
  have BC3 := Hid.mk' (fun (W : World) (hW : W.cell? ⟨w.heap.size, 0, none⟩ = some (.int .i64 at_) ∧ W.cell? ⟨w.heap.size, 1, none⟩ = some (.int .i64 ak) ∧ W.cell? ⟨w.heap.size, 2, none⟩ = some (.string akey) ∧ W.cell? ⟨w.heap.size, 3, none⟩ = some (.string aen) ∧ W.cell? ⟨w.heap.size, 4, none⟩ = some (.string aval) ∧ W.cell? ⟨w.heap.size, 5, none⟩ = some (.int .i64 aex) ∧ W.cell? ⟨w.heap.size, 6, none⟩ = some (.int .i64 ax) ∧ W.cell? ⟨w.heap.size, 7, none⟩ = some (.int .i64 ay) ∧ W.cell? ⟨w.heap.size, 8, none⟩ = some (.int .i64 az) ∧ W.cell? ⟨w.heap.size, 9, none⟩ = some oa ∧ W.cell? ⟨w.heap.size + 1, 0, none⟩ = some (.int .i64 bt) ∧ W.cell? ⟨w.heap.size + 1, 1, none⟩ = some (.int .i64 bk) ∧ W.cell? ⟨w.heap.size + 1, 2, none⟩ = some (.string bkey) ∧ W.cell? ⟨w.heap.size + 1, 3, none⟩ = some (.string ben) ∧ W.cell? ⟨w.heap.size + 1, 4, none⟩ = some (.string bval) ∧ W.cell? ⟨w.heap.size + 1, 5, none⟩ = some (.int .i64 bex) ∧ W.cell? ⟨w.heap.size + 1, 6, none⟩ = some (.int .i64 bx) ∧ W.cell? ⟨w.heap.size + 1, 7, none⟩ = some (.int .i64 b_y) ∧ W.cell? ⟨w.heap.size + 1, 8, none⟩ = some (.int .i64 bz) ∧ W.cell? ⟨w.heap.size + 1, 9, none⟩ = some ob ∧ Hid (KR w oa ob ao bo W)) => (show Calls Try.prog 72 #[.int .i64 ak, .int .i64 bk] W fun e w' => e = .returned (.int .i64 (cmpI ak bk)) ∧ Below W.heap.size W w' from (number_any _ _ W).mono fun _ _ ⟨x, y⟩ => by subst y; exact ⟨x, Below.refl _ _⟩))
  have BC4 := Hid.mk' (fun (W : World) (hW : W.cell? ⟨w.heap.size, 0, none⟩ = some (.int .i64 at_) ∧ W.cell? ⟨w.heap.size, 1, none⟩ = some (.int .i64 ak) ∧ W.cell? ⟨w.heap.size, 2, none⟩ = some (.string akey) ∧ W.cell? ⟨w.heap.size, 3, none⟩ = some (.string aen) ∧ W.cell? ⟨w.heap.size, 4, none⟩ = some (.string aval) ∧ W.cell? ⟨w.heap.size, 5, none⟩ = some (.int .i64 aex) ∧ W.cell? ⟨w.heap.size, 6, none⟩ = some (.int .i64 ax) ∧ W.cell? ⟨w.heap.size, 7, none⟩ = some (.int .i64 ay) ∧ W.cell? ⟨w.heap.size, 8, none⟩ = some (.int .i64 az) ∧ W.cell? ⟨w.heap.size, 9, none⟩ = some oa ∧ W.cell? ⟨w.heap.size + 1, 0, none⟩ = some (.int .i64 bt) ∧ W.cell? ⟨w.heap.size + 1, 1, none⟩ = some (.int .i64 bk) ∧ W.cell? ⟨w.heap.size + 1, 2, none⟩ = some (.string bkey) ∧ W.cell? ⟨w.heap.size + 1, 3, none⟩ = some (.string ben) ∧ W.cell? ⟨w.heap.size + 1, 4, none⟩ = some (.string bval) ∧ W.cell? ⟨w.heap.size + 1, 5, none⟩ = some (.int .i64 bex) ∧ W.cell? ⟨w.heap.size + 1, 6, none⟩ = some (.int .i64 bx) ∧ W.cell? ⟨w.heap.size + 1, 7, none⟩ = some (.int .i64 b_y) ∧ W.cell? ⟨w.heap.size + 1, 8, none⟩ = some (.int .i64 bz) ∧ W.cell? ⟨w.heap.size + 1, 9, none⟩ = some ob ∧ Hid (KR w oa ob ao bo W)) => (show Calls Try.prog 73 #[.string akey, .string bkey] W fun e w' => e = .returned (.int .i64 (cmpT akey bkey)) ∧ Below W.heap.size W w' from (ntext_any _ _ W).mono fun _ _ ⟨x, y⟩ => by subst y; exact ⟨x, Below.refl _ _⟩))
  have BC5 := Hid.mk' (fun (W : World) (hW : W.cell? ⟨w.heap.size, 0, none⟩ = some (.int .i64 at_) ∧ W.cell? ⟨w.heap.size, 1, none⟩ = some (.int .i64 ak) ∧ W.cell? ⟨w.heap.size, 2, none⟩ = some (.string akey) ∧ W.cell? ⟨w.heap.size, 3, none⟩ = some (.string aen) ∧ W.cell? ⟨w.heap.size, 4, none⟩ = some (.string aval) ∧ W.cell? ⟨w.heap.size, 5, none⟩ = some (.int .i64 aex) ∧ W.cell? ⟨w.heap.size, 6, none⟩ = some (.int .i64 ax) ∧ W.cell? ⟨w.heap.size, 7, none⟩ = some (.int .i64 ay) ∧ W.cell? ⟨w.heap.size, 8, none⟩ = some (.int .i64 az) ∧ W.cell? ⟨w.heap.size, 9, none⟩ = some oa ∧ W.cell? ⟨w.heap.size + 1, 0, none⟩ = some (.int .i64 bt) ∧ W.cell? ⟨w.heap.size + 1, 1, none⟩ = some (.int .i64 bk) ∧ W.cell? ⟨w.heap.size + 1, 2, none⟩ = some (.string bkey) ∧ W.cell? ⟨w.heap.size + 1, 3, none⟩ = some (.string ben) ∧ W.cell? ⟨w.heap.size + 1, 4, none⟩ = some (.string bval) ∧ W.cell? ⟨w.heap.size + 1, 5, none⟩ = some (.int .i64 bex) ∧ W.cell? ⟨w.heap.size + 1, 6, none⟩ = some (.int .i64 bx) ∧ W.cell? ⟨w.heap.size + 1, 7, none⟩ = some (.int .i64 b_y) ∧ W.cell? ⟨w.heap.size + 1, 8, none⟩ = some (.int .i64 bz) ∧ W.cell? ⟨w.heap.size + 1, 9, none⟩ = some ob ∧ Hid (KR w oa ob ao bo W)) => (show Calls Try.prog 73 #[.string aen, .string ben] W fun e w' => e = .returned (.int .i64 (cmpT aen ben)) ∧ Below W.heap.size W w' from (ntext_any _ _ W).mono fun _ _ ⟨x, y⟩ => by subst y; exact ⟨x, Below.refl _ _⟩))
  have BC6 := Hid.mk' (fun (W : World) (hW : W.cell? ⟨w.heap.size, 0, none⟩ = some (.int .i64 at_) ∧ W.cell? ⟨w.heap.size, 1, none⟩ = some (.int .i64 ak) ∧ W.cell? ⟨w.heap.size, 2, none⟩ = some (.string akey) ∧ W.cell? ⟨w.heap.size, 3, none⟩ = some (.string aen) ∧ W.cell? ⟨w.heap.size, 4, none⟩ = some (.string aval) ∧ W.cell? ⟨w.heap.size, 5, none⟩ = some (.int .i64 aex) ∧ W.cell? ⟨w.heap.size, 6, none⟩ = some (.int .i64 ax) ∧ W.cell? ⟨w.heap.size, 7, none⟩ = some (.int .i64 ay) ∧ W.cell? ⟨w.heap.size, 8, none⟩ = some (.int .i64 az) ∧ W.cell? ⟨w.heap.size, 9, none⟩ = some oa ∧ W.cell? ⟨w.heap.size + 1, 0, none⟩ = some (.int .i64 bt) ∧ W.cell? ⟨w.heap.size + 1, 1, none⟩ = some (.int .i64 bk) ∧ W.cell? ⟨w.heap.size + 1, 2, none⟩ = some (.string bkey) ∧ W.cell? ⟨w.heap.size + 1, 3, none⟩ = some (.string ben) ∧ W.cell? ⟨w.heap.size + 1, 4, none⟩ = some (.string bval) ∧ W.cell? ⟨w.heap.size + 1, 5, none⟩ = some (.int .i64 bex) ∧ W.cell? ⟨w.heap.size + 1, 6, none⟩ = some (.int .i64 bx) ∧ W.cell? ⟨w.heap.size + 1, 7, none⟩ = some (.int .i64 b_y) ∧ W.cell? ⟨w.heap.size + 1, 8, none⟩ = some (.int .i64 bz) ∧ W.cell? ⟨w.heap.size + 1, 9, none⟩ = some ob ∧ Hid (KR w oa ob ao bo W)) => (show Calls Try.prog 73 #[.string aval, .string bval] W fun e w' => e = .returned (.int .i64 (cmpT aval bval)) ∧ Below W.heap.size W w' from (ntext_any _ _ W).mono fun _ _ ⟨x, y⟩ => by subst y; exact ⟨x, Below.refl _ _⟩))
  have BC7 := Hid.mk' (fun (W : World) (hW : W.cell? ⟨w.heap.size, 0, none⟩ = some (.int .i64 at_) ∧ W.cell? ⟨w.heap.size, 1, none⟩ = some (.int .i64 ak) ∧ W.cell? ⟨w.heap.size, 2, none⟩ = some (.string akey) ∧ W.cell? ⟨w.heap.size, 3, none⟩ = some (.string aen) ∧ W.cell? ⟨w.heap.size, 4, none⟩ = some (.string aval) ∧ W.cell? ⟨w.heap.size, 5, none⟩ = some (.int .i64 aex) ∧ W.cell? ⟨w.heap.size, 6, none⟩ = some (.int .i64 ax) ∧ W.cell? ⟨w.heap.size, 7, none⟩ = some (.int .i64 ay) ∧ W.cell? ⟨w.heap.size, 8, none⟩ = some (.int .i64 az) ∧ W.cell? ⟨w.heap.size, 9, none⟩ = some oa ∧ W.cell? ⟨w.heap.size + 1, 0, none⟩ = some (.int .i64 bt) ∧ W.cell? ⟨w.heap.size + 1, 1, none⟩ = some (.int .i64 bk) ∧ W.cell? ⟨w.heap.size + 1, 2, none⟩ = some (.string bkey) ∧ W.cell? ⟨w.heap.size + 1, 3, none⟩ = some (.string ben) ∧ W.cell? ⟨w.heap.size + 1, 4, none⟩ = some (.string bval) ∧ W.cell? ⟨w.heap.size + 1, 5, none⟩ = some (.int .i64 bex) ∧ W.cell? ⟨w.heap.size + 1, 6, none⟩ = some (.int .i64 bx) ∧ W.cell? ⟨w.heap.size + 1, 7, none⟩ = some (.int .i64 b_y) ∧ W.cell? ⟨w.heap.size + 1, 8, none⟩ = some (.int .i64 bz) ∧ W.cell? ⟨w.heap.size + 1, 9, none⟩ = some ob ∧ Hid (KR w oa ob ao bo W)) => (show Calls Try.prog 72 #[.int .i64 aex, .int .i64 bex] W fun e w' => e = .returned (.int .i64 (cmpI aex bex)) ∧ Below W.heap.size W w' from (number_any _ _ W).mono fun _ _ ⟨x, y⟩ => by subst y; exact ⟨x, Below.refl _ _⟩))
  have BC8 := Hid.mk' (fun (W : World) (hW : W.cell? ⟨w.heap.size, 0, none⟩ = some (.int .i64 at_) ∧ W.cell? ⟨w.heap.size, 1, none⟩ = some (.int .i64 ak) ∧ W.cell? ⟨w.heap.size, 2, none⟩ = some (.string akey) ∧ W.cell? ⟨w.heap.size, 3, none⟩ = some (.string aen) ∧ W.cell? ⟨w.heap.size, 4, none⟩ = some (.string aval) ∧ W.cell? ⟨w.heap.size, 5, none⟩ = some (.int .i64 aex) ∧ W.cell? ⟨w.heap.size, 6, none⟩ = some (.int .i64 ax) ∧ W.cell? ⟨w.heap.size, 7, none⟩ = some (.int .i64 ay) ∧ W.cell? ⟨w.heap.size, 8, none⟩ = some (.int .i64 az) ∧ W.cell? ⟨w.heap.size, 9, none⟩ = some oa ∧ W.cell? ⟨w.heap.size + 1, 0, none⟩ = some (.int .i64 bt) ∧ W.cell? ⟨w.heap.size + 1, 1, none⟩ = some (.int .i64 bk) ∧ W.cell? ⟨w.heap.size + 1, 2, none⟩ = some (.string bkey) ∧ W.cell? ⟨w.heap.size + 1, 3, none⟩ = some (.string ben) ∧ W.cell? ⟨w.heap.size + 1, 4, none⟩ = some (.string bval) ∧ W.cell? ⟨w.heap.size + 1, 5, none⟩ = some (.int .i64 bex) ∧ W.cell? ⟨w.heap.size + 1, 6, none⟩ = some (.int .i64 bx) ∧ W.cell? ⟨w.heap.size + 1, 7, none⟩ = some (.int .i64 b_y) ∧ W.cell? ⟨w.heap.size + 1, 8, none⟩ = some (.int .i64 bz) ∧ W.cell? ⟨w.heap.size + 1, 9, none⟩ = some ob ∧ Hid (KR w oa ob ao bo W)) => (show Calls Try.prog 74 #[oa, ob] W fun e w' => e = .returned (.int .i64 (rowsC ao bo)) ∧ Below W.heap.size W w' from rows_any oa ob ao bo HN.out.1 HN.out.2 W (hW.2.2.2.2.2.2.2.2.2.2.2.2.2.2.2.2.2.2.2.2.out.1.next hW.2.2.2.2.2.2.2.2.2.2.2.2.2.2.2.2.2.2.2.2.out.2.2) (hW.2.2.2.2.2.2.2.2.2.2.2.2.2.2.2.2.2.2.2.2.out.2.1.next hW.2.2.2.2.2.2.2.2.2.2.2.2.2.2.2.2.2.2.2.2.out.2.2)))
  generalize cmpS ⟨ax, ay, az⟩ ⟨bx, b_y, bz⟩ = z1 at *
  generalize cmpI at_ bt = z2 at *
  generalize cmpI ak bk = z3 at *
  generalize cmpT akey bkey = z4 at *
  generalize cmpT aen ben = z5 at *
  generalize cmpT aval bval = z6 at *
  generalize cmpI aex bex = z7 at *
  generalize rowsC ao bo = z8 at *
  have C1 := Hid.mk' (fun (W : World) (hW : W.cell? ⟨w.heap.size, 0, none⟩ = some (.int .i64 at_) ∧ W.cell? ⟨w.heap.size, 1, none⟩ = some (.int .i64 ak) ∧ W.cell? ⟨w.heap.size, 2, none⟩ = some (.string akey) ∧ W.cell? ⟨w.heap.size, 3, none⟩ = some (.string aen) ∧ W.cell? ⟨w.heap.size, 4, none⟩ = some (.string aval) ∧ W.cell? ⟨w.heap.size, 5, none⟩ = some (.int .i64 aex) ∧ W.cell? ⟨w.heap.size, 6, none⟩ = some (.int .i64 ax) ∧ W.cell? ⟨w.heap.size, 7, none⟩ = some (.int .i64 ay) ∧ W.cell? ⟨w.heap.size, 8, none⟩ = some (.int .i64 az) ∧ W.cell? ⟨w.heap.size, 9, none⟩ = some oa ∧ W.cell? ⟨w.heap.size + 1, 0, none⟩ = some (.int .i64 bt) ∧ W.cell? ⟨w.heap.size + 1, 1, none⟩ = some (.int .i64 bk) ∧ W.cell? ⟨w.heap.size + 1, 2, none⟩ = some (.string bkey) ∧ W.cell? ⟨w.heap.size + 1, 3, none⟩ = some (.string ben) ∧ W.cell? ⟨w.heap.size + 1, 4, none⟩ = some (.string bval) ∧ W.cell? ⟨w.heap.size + 1, 5, none⟩ = some (.int .i64 bex) ∧ W.cell? ⟨w.heap.size + 1, 6, none⟩ = some (.int .i64 bx) ∧ W.cell? ⟨w.heap.size + 1, 7, none⟩ = some (.int .i64 b_y) ∧ W.cell? ⟨w.heap.size + 1, 8, none⟩ = some (.int .i64 bz) ∧ W.cell? ⟨w.heap.size + 1, 9, none⟩ = some ob ∧ Hid (KR w oa ob ao bo W)) => (BC1.out W hW).mono (R' := fun e w' => e = .returned (.int .i64 z1) ∧ w'.cell? ⟨w.heap.size, 0, none⟩ = some (.int .i64 at_) ∧ w'.cell? ⟨w.heap.size, 1, none⟩ = some (.int .i64 ak) ∧ w'.cell? ⟨w.heap.size, 2, none⟩ = some (.string akey) ∧ w'.cell? ⟨w.heap.size, 3, none⟩ = some (.string aen) ∧ w'.cell? ⟨w.heap.size, 4, none⟩ = some (.string aval) ∧ w'.cell? ⟨w.heap.size, 5, none⟩ = some (.int .i64 aex) ∧ w'.cell? ⟨w.heap.size, 6, none⟩ = some (.int .i64 ax) ∧ w'.cell? ⟨w.heap.size, 7, none⟩ = some (.int .i64 ay) ∧ w'.cell? ⟨w.heap.size, 8, none⟩ = some (.int .i64 az) ∧ w'.cell? ⟨w.heap.size, 9, none⟩ = some oa ∧ w'.cell? ⟨w.heap.size + 1, 0, none⟩ = some (.int .i64 bt) ∧ w'.cell? ⟨w.heap.size + 1, 1, none⟩ = some (.int .i64 bk) ∧ w'.cell? ⟨w.heap.size + 1, 2, none⟩ = some (.string bkey) ∧ w'.cell? ⟨w.heap.size + 1, 3, none⟩ = some (.string ben) ∧ w'.cell? ⟨w.heap.size + 1, 4, none⟩ = some (.string bval) ∧ w'.cell? ⟨w.heap.size + 1, 5, none⟩ = some (.int .i64 bex) ∧ w'.cell? ⟨w.heap.size + 1, 6, none⟩ = some (.int .i64 bx) ∧ w'.cell? ⟨w.heap.size + 1, 7, none⟩ = some (.int .i64 b_y) ∧ w'.cell? ⟨w.heap.size + 1, 8, none⟩ = some (.int .i64 bz) ∧ w'.cell? ⟨w.heap.size + 1, 9, none⟩ = some ob ∧ Hid (KR w oa ob ao bo w')) (fun e w' ⟨a, b⟩ => ⟨a, MR_next hW b⟩))
  have DC1 := Hid.mk' (fun (W : World) (D : Nat) (hW : W.cell? ⟨w.heap.size, 0, none⟩ = some (.int .i64 at_) ∧ W.cell? ⟨w.heap.size, 1, none⟩ = some (.int .i64 ak) ∧ W.cell? ⟨w.heap.size, 2, none⟩ = some (.string akey) ∧ W.cell? ⟨w.heap.size, 3, none⟩ = some (.string aen) ∧ W.cell? ⟨w.heap.size, 4, none⟩ = some (.string aval) ∧ W.cell? ⟨w.heap.size, 5, none⟩ = some (.int .i64 aex) ∧ W.cell? ⟨w.heap.size, 6, none⟩ = some (.int .i64 ax) ∧ W.cell? ⟨w.heap.size, 7, none⟩ = some (.int .i64 ay) ∧ W.cell? ⟨w.heap.size, 8, none⟩ = some (.int .i64 az) ∧ W.cell? ⟨w.heap.size, 9, none⟩ = some oa ∧ W.cell? ⟨w.heap.size + 1, 0, none⟩ = some (.int .i64 bt) ∧ W.cell? ⟨w.heap.size + 1, 1, none⟩ = some (.int .i64 bk) ∧ W.cell? ⟨w.heap.size + 1, 2, none⟩ = some (.string bkey) ∧ W.cell? ⟨w.heap.size + 1, 3, none⟩ = some (.string ben) ∧ W.cell? ⟨w.heap.size + 1, 4, none⟩ = some (.string bval) ∧ W.cell? ⟨w.heap.size + 1, 5, none⟩ = some (.int .i64 bex) ∧ W.cell? ⟨w.heap.size + 1, 6, none⟩ = some (.int .i64 bx) ∧ W.cell? ⟨w.heap.size + 1, 7, none⟩ = some (.int .i64 b_y) ∧ W.cell? ⟨w.heap.size + 1, 8, none⟩ = some (.int .i64 bz) ∧ W.cell? ⟨w.heap.size + 1, 9, none⟩ = some ob ∧ Hid (KR w oa ob ao bo W)) (hx : Hid (AX w W D)) => (BC1.out W hW).mono (R' := fun e w' => e = .returned (.int .i64 z1) ∧ (w'.cell? ⟨w.heap.size, 0, none⟩ = some (.int .i64 at_) ∧ w'.cell? ⟨w.heap.size, 1, none⟩ = some (.int .i64 ak) ∧ w'.cell? ⟨w.heap.size, 2, none⟩ = some (.string akey) ∧ w'.cell? ⟨w.heap.size, 3, none⟩ = some (.string aen) ∧ w'.cell? ⟨w.heap.size, 4, none⟩ = some (.string aval) ∧ w'.cell? ⟨w.heap.size, 5, none⟩ = some (.int .i64 aex) ∧ w'.cell? ⟨w.heap.size, 6, none⟩ = some (.int .i64 ax) ∧ w'.cell? ⟨w.heap.size, 7, none⟩ = some (.int .i64 ay) ∧ w'.cell? ⟨w.heap.size, 8, none⟩ = some (.int .i64 az) ∧ w'.cell? ⟨w.heap.size, 9, none⟩ = some oa ∧ w'.cell? ⟨w.heap.size + 1, 0, none⟩ = some (.int .i64 bt) ∧ w'.cell? ⟨w.heap.size + 1, 1, none⟩ = some (.int .i64 bk) ∧ w'.cell? ⟨w.heap.size + 1, 2, none⟩ = some (.string bkey) ∧ w'.cell? ⟨w.heap.size + 1, 3, none⟩ = some (.string ben) ∧ w'.cell? ⟨w.heap.size + 1, 4, none⟩ = some (.string bval) ∧ w'.cell? ⟨w.heap.size + 1, 5, none⟩ = some (.int .i64 bex) ∧ w'.cell? ⟨w.heap.size + 1, 6, none⟩ = some (.int .i64 bx) ∧ w'.cell? ⟨w.heap.size + 1, 7, none⟩ = some (.int .i64 b_y) ∧ w'.cell? ⟨w.heap.size + 1, 8, none⟩ = some (.int .i64 bz) ∧ w'.cell? ⟨w.heap.size + 1, 9, none⟩ = some ob ∧ Hid (KR w oa ob ao bo w')) ∧ Hid (AX w w' D)) (fun e w' ⟨a, b⟩ => have h4 := hx.out.next b; ⟨a, MR_next hW b, Hid.mk' h4⟩))
  have EC1 := Hid.mk' (fun (W : World) (zz : Array Value) (hz : zz = #[.int .i64 0, .int .i64 0, .int .i64 0, .int .i64 0, .int .i64 0, .int .i64 0, .int .i64 0, .int .i64 0]) (hW : (W.alloc (.cells zz 93)).cell? ⟨w.heap.size, 0, none⟩ = some (.int .i64 at_) ∧ (W.alloc (.cells zz 93)).cell? ⟨w.heap.size, 1, none⟩ = some (.int .i64 ak) ∧ (W.alloc (.cells zz 93)).cell? ⟨w.heap.size, 2, none⟩ = some (.string akey) ∧ (W.alloc (.cells zz 93)).cell? ⟨w.heap.size, 3, none⟩ = some (.string aen) ∧ (W.alloc (.cells zz 93)).cell? ⟨w.heap.size, 4, none⟩ = some (.string aval) ∧ (W.alloc (.cells zz 93)).cell? ⟨w.heap.size, 5, none⟩ = some (.int .i64 aex) ∧ (W.alloc (.cells zz 93)).cell? ⟨w.heap.size, 6, none⟩ = some (.int .i64 ax) ∧ (W.alloc (.cells zz 93)).cell? ⟨w.heap.size, 7, none⟩ = some (.int .i64 ay) ∧ (W.alloc (.cells zz 93)).cell? ⟨w.heap.size, 8, none⟩ = some (.int .i64 az) ∧ (W.alloc (.cells zz 93)).cell? ⟨w.heap.size, 9, none⟩ = some oa ∧ (W.alloc (.cells zz 93)).cell? ⟨w.heap.size + 1, 0, none⟩ = some (.int .i64 bt) ∧ (W.alloc (.cells zz 93)).cell? ⟨w.heap.size + 1, 1, none⟩ = some (.int .i64 bk) ∧ (W.alloc (.cells zz 93)).cell? ⟨w.heap.size + 1, 2, none⟩ = some (.string bkey) ∧ (W.alloc (.cells zz 93)).cell? ⟨w.heap.size + 1, 3, none⟩ = some (.string ben) ∧ (W.alloc (.cells zz 93)).cell? ⟨w.heap.size + 1, 4, none⟩ = some (.string bval) ∧ (W.alloc (.cells zz 93)).cell? ⟨w.heap.size + 1, 5, none⟩ = some (.int .i64 bex) ∧ (W.alloc (.cells zz 93)).cell? ⟨w.heap.size + 1, 6, none⟩ = some (.int .i64 bx) ∧ (W.alloc (.cells zz 93)).cell? ⟨w.heap.size + 1, 7, none⟩ = some (.int .i64 b_y) ∧ (W.alloc (.cells zz 93)).cell? ⟨w.heap.size + 1, 8, none⟩ = some (.int .i64 bz) ∧ (W.alloc (.cells zz 93)).cell? ⟨w.heap.size + 1, 9, none⟩ = some ob ∧ Hid (KR w oa ob ao bo (W.alloc (.cells zz 93)))) => (BC1.out _ hW).mono (R' := fun e w' => e = .returned (.int .i64 z1) ∧ (w'.cell? ⟨w.heap.size, 0, none⟩ = some (.int .i64 at_) ∧ w'.cell? ⟨w.heap.size, 1, none⟩ = some (.int .i64 ak) ∧ w'.cell? ⟨w.heap.size, 2, none⟩ = some (.string akey) ∧ w'.cell? ⟨w.heap.size, 3, none⟩ = some (.string aen) ∧ w'.cell? ⟨w.heap.size, 4, none⟩ = some (.string aval) ∧ w'.cell? ⟨w.heap.size, 5, none⟩ = some (.int .i64 aex) ∧ w'.cell? ⟨w.heap.size, 6, none⟩ = some (.int .i64 ax) ∧ w'.cell? ⟨w.heap.size, 7, none⟩ = some (.int .i64 ay) ∧ w'.cell? ⟨w.heap.size, 8, none⟩ = some (.int .i64 az) ∧ w'.cell? ⟨w.heap.size, 9, none⟩ = some oa ∧ w'.cell? ⟨w.heap.size + 1, 0, none⟩ = some (.int .i64 bt) ∧ w'.cell? ⟨w.heap.size + 1, 1, none⟩ = some (.int .i64 bk) ∧ w'.cell? ⟨w.heap.size + 1, 2, none⟩ = some (.string bkey) ∧ w'.cell? ⟨w.heap.size + 1, 3, none⟩ = some (.string ben) ∧ w'.cell? ⟨w.heap.size + 1, 4, none⟩ = some (.string bval) ∧ w'.cell? ⟨w.heap.size + 1, 5, none⟩ = some (.int .i64 bex) ∧ w'.cell? ⟨w.heap.size + 1, 6, none⟩ = some (.int .i64 bx) ∧ w'.cell? ⟨w.heap.size + 1, 7, none⟩ = some (.int .i64 b_y) ∧ w'.cell? ⟨w.heap.size + 1, 8, none⟩ = some (.int .i64 bz) ∧ w'.cell? ⟨w.heap.size + 1, 9, none⟩ = some ob ∧ Hid (KR w oa ob ao bo w')) ∧ Hid (AX w w' W.heap.size)) (fun e w' ⟨a, b⟩ => have h4 := (show AX w (W.alloc (.cells zz 93)) W.heap.size from ⟨by rw [hz]; exact Bx.fresh _ _ _, MR_size (by rw [← hz]; exact hW)⟩).next b; ⟨a, MR_next hW b, Hid.mk' h4⟩))
  have C2 := Hid.mk' (fun (W : World) (hW : W.cell? ⟨w.heap.size, 0, none⟩ = some (.int .i64 at_) ∧ W.cell? ⟨w.heap.size, 1, none⟩ = some (.int .i64 ak) ∧ W.cell? ⟨w.heap.size, 2, none⟩ = some (.string akey) ∧ W.cell? ⟨w.heap.size, 3, none⟩ = some (.string aen) ∧ W.cell? ⟨w.heap.size, 4, none⟩ = some (.string aval) ∧ W.cell? ⟨w.heap.size, 5, none⟩ = some (.int .i64 aex) ∧ W.cell? ⟨w.heap.size, 6, none⟩ = some (.int .i64 ax) ∧ W.cell? ⟨w.heap.size, 7, none⟩ = some (.int .i64 ay) ∧ W.cell? ⟨w.heap.size, 8, none⟩ = some (.int .i64 az) ∧ W.cell? ⟨w.heap.size, 9, none⟩ = some oa ∧ W.cell? ⟨w.heap.size + 1, 0, none⟩ = some (.int .i64 bt) ∧ W.cell? ⟨w.heap.size + 1, 1, none⟩ = some (.int .i64 bk) ∧ W.cell? ⟨w.heap.size + 1, 2, none⟩ = some (.string bkey) ∧ W.cell? ⟨w.heap.size + 1, 3, none⟩ = some (.string ben) ∧ W.cell? ⟨w.heap.size + 1, 4, none⟩ = some (.string bval) ∧ W.cell? ⟨w.heap.size + 1, 5, none⟩ = some (.int .i64 bex) ∧ W.cell? ⟨w.heap.size + 1, 6, none⟩ = some (.int .i64 bx) ∧ W.cell? ⟨w.heap.size + 1, 7, none⟩ = some (.int .i64 b_y) ∧ W.cell? ⟨w.heap.size + 1, 8, none⟩ = some (.int .i64 bz) ∧ W.cell? ⟨w.heap.size + 1, 9, none⟩ = some ob ∧ Hid (KR w oa ob ao bo W)) => (BC2.out W hW).mono (R' := fun e w' => e = .returned (.int .i64 z2) ∧ w'.cell? ⟨w.heap.size, 0, none⟩ = some (.int .i64 at_) ∧ w'.cell? ⟨w.heap.size, 1, none⟩ = some (.int .i64 ak) ∧ w'.cell? ⟨w.heap.size, 2, none⟩ = some (.string akey) ∧ w'.cell? ⟨w.heap.size, 3, none⟩ = some (.string aen) ∧ w'.cell? ⟨w.heap.size, 4, none⟩ = some (.string aval) ∧ w'.cell? ⟨w.heap.size, 5, none⟩ = some (.int .i64 aex) ∧ w'.cell? ⟨w.heap.size, 6, none⟩ = some (.int .i64 ax) ∧ w'.cell? ⟨w.heap.size, 7, none⟩ = some (.int .i64 ay) ∧ w'.cell? ⟨w.heap.size, 8, none⟩ = some (.int .i64 az) ∧ w'.cell? ⟨w.heap.size, 9, none⟩ = some oa ∧ w'.cell? ⟨w.heap.size + 1, 0, none⟩ = some (.int .i64 bt) ∧ w'.cell? ⟨w.heap.size + 1, 1, none⟩ = some (.int .i64 bk) ∧ w'.cell? ⟨w.heap.size + 1, 2, none⟩ = some (.string bkey) ∧ w'.cell? ⟨w.heap.size + 1, 3, none⟩ = some (.string ben) ∧ w'.cell? ⟨w.heap.size + 1, 4, none⟩ = some (.string bval) ∧ w'.cell? ⟨w.heap.size + 1, 5, none⟩ = some (.int .i64 bex) ∧ w'.cell? ⟨w.heap.size + 1, 6, none⟩ = some (.int .i64 bx) ∧ w'.cell? ⟨w.heap.size + 1, 7, none⟩ = some (.int .i64 b_y) ∧ w'.cell? ⟨w.heap.size + 1, 8, none⟩ = some (.int .i64 bz) ∧ w'.cell? ⟨w.heap.size + 1, 9, none⟩ = some ob ∧ Hid (KR w oa ob ao bo w')) (fun e w' ⟨a, b⟩ => ⟨a, MR_next hW b⟩))
  have DC2 := Hid.mk' (fun (W : World) (D : Nat) (hW : W.cell? ⟨w.heap.size, 0, none⟩ = some (.int .i64 at_) ∧ W.cell? ⟨w.heap.size, 1, none⟩ = some (.int .i64 ak) ∧ W.cell? ⟨w.heap.size, 2, none⟩ = some (.string akey) ∧ W.cell? ⟨w.heap.size, 3, none⟩ = some (.string aen) ∧ W.cell? ⟨w.heap.size, 4, none⟩ = some (.string aval) ∧ W.cell? ⟨w.heap.size, 5, none⟩ = some (.int .i64 aex) ∧ W.cell? ⟨w.heap.size, 6, none⟩ = some (.int .i64 ax) ∧ W.cell? ⟨w.heap.size, 7, none⟩ = some (.int .i64 ay) ∧ W.cell? ⟨w.heap.size, 8, none⟩ = some (.int .i64 az) ∧ W.cell? ⟨w.heap.size, 9, none⟩ = some oa ∧ W.cell? ⟨w.heap.size + 1, 0, none⟩ = some (.int .i64 bt) ∧ W.cell? ⟨w.heap.size + 1, 1, none⟩ = some (.int .i64 bk) ∧ W.cell? ⟨w.heap.size + 1, 2, none⟩ = some (.string bkey) ∧ W.cell? ⟨w.heap.size + 1, 3, none⟩ = some (.string ben) ∧ W.cell? ⟨w.heap.size + 1, 4, none⟩ = some (.string bval) ∧ W.cell? ⟨w.heap.size + 1, 5, none⟩ = some (.int .i64 bex) ∧ W.cell? ⟨w.heap.size + 1, 6, none⟩ = some (.int .i64 bx) ∧ W.cell? ⟨w.heap.size + 1, 7, none⟩ = some (.int .i64 b_y) ∧ W.cell? ⟨w.heap.size + 1, 8, none⟩ = some (.int .i64 bz) ∧ W.cell? ⟨w.heap.size + 1, 9, none⟩ = some ob ∧ Hid (KR w oa ob ao bo W)) (hx : Hid (AX w W D)) => (BC2.out W hW).mono (R' := fun e w' => e = .returned (.int .i64 z2) ∧ (w'.cell? ⟨w.heap.size, 0, none⟩ = some (.int .i64 at_) ∧ w'.cell? ⟨w.heap.size, 1, none⟩ = some (.int .i64 ak) ∧ w'.cell? ⟨w.heap.size, 2, none⟩ = some (.string akey) ∧ w'.cell? ⟨w.heap.size, 3, none⟩ = some (.string aen) ∧ w'.cell? ⟨w.heap.size, 4, none⟩ = some (.string aval) ∧ w'.cell? ⟨w.heap.size, 5, none⟩ = some (.int .i64 aex) ∧ w'.cell? ⟨w.heap.size, 6, none⟩ = some (.int .i64 ax) ∧ w'.cell? ⟨w.heap.size, 7, none⟩ = some (.int .i64 ay) ∧ w'.cell? ⟨w.heap.size, 8, none⟩ = some (.int .i64 az) ∧ w'.cell? ⟨w.heap.size, 9, none⟩ = some oa ∧ w'.cell? ⟨w.heap.size + 1, 0, none⟩ = some (.int .i64 bt) ∧ w'.cell? ⟨w.heap.size + 1, 1, none⟩ = some (.int .i64 bk) ∧ w'.cell? ⟨w.heap.size + 1, 2, none⟩ = some (.string bkey) ∧ w'.cell? ⟨w.heap.size + 1, 3, none⟩ = some (.string ben) ∧ w'.cell? ⟨w.heap.size + 1, 4, none⟩ = some (.string bval) ∧ w'.cell? ⟨w.heap.size + 1, 5, none⟩ = some (.int .i64 bex) ∧ w'.cell? ⟨w.heap.size + 1, 6, none⟩ = some (.int .i64 bx) ∧ w'.cell? ⟨w.heap.size + 1, 7, none⟩ = some (.int .i64 b_y) ∧ w'.cell? ⟨w.heap.size + 1, 8, none⟩ = some (.int .i64 bz) ∧ w'.cell? ⟨w.heap.size + 1, 9, none⟩ = some ob ∧ Hid (KR w oa ob ao bo w')) ∧ Hid (AX w w' D)) (fun e w' ⟨a, b⟩ => have h4 := hx.out.next b; ⟨a, MR_next hW b, Hid.mk' h4⟩))
  have EC2 := Hid.mk' (fun (W : World) (zz : Array Value) (hz : zz = #[.int .i64 0, .int .i64 0, .int .i64 0, .int .i64 0, .int .i64 0, .int .i64 0, .int .i64 0, .int .i64 0]) (hW : (W.alloc (.cells zz 93)).cell? ⟨w.heap.size, 0, none⟩ = some (.int .i64 at_) ∧ (W.alloc (.cells zz 93)).cell? ⟨w.heap.size, 1, none⟩ = some (.int .i64 ak) ∧ (W.alloc (.cells zz 93)).cell? ⟨w.heap.size, 2, none⟩ = some (.string akey) ∧ (W.alloc (.cells zz 93)).cell? ⟨w.heap.size, 3, none⟩ = some (.string aen) ∧ (W.alloc (.cells zz 93)).cell? ⟨w.heap.size, 4, none⟩ = some (.string aval) ∧ (W.alloc (.cells zz 93)).cell? ⟨w.heap.size, 5, none⟩ = some (.int .i64 aex) ∧ (W.alloc (.cells zz 93)).cell? ⟨w.heap.size, 6, none⟩ = some (.int .i64 ax) ∧ (W.alloc (.cells zz 93)).cell? ⟨w.heap.size, 7, none⟩ = some (.int .i64 ay) ∧ (W.alloc (.cells zz 93)).cell? ⟨w.heap.size, 8, none⟩ = some (.int .i64 az) ∧ (W.alloc (.cells zz 93)).cell? ⟨w.heap.size, 9, none⟩ = some oa ∧ (W.alloc (.cells zz 93)).cell? ⟨w.heap.size + 1, 0, none⟩ = some (.int .i64 bt) ∧ (W.alloc (.cells zz 93)).cell? ⟨w.heap.size + 1, 1, none⟩ = some (.int .i64 bk) ∧ (W.alloc (.cells zz 93)).cell? ⟨w.heap.size + 1, 2, none⟩ = some (.string bkey) ∧ (W.alloc (.cells zz 93)).cell? ⟨w.heap.size + 1, 3, none⟩ = some (.string ben) ∧ (W.alloc (.cells zz 93)).cell? ⟨w.heap.size + 1, 4, none⟩ = some (.string bval) ∧ (W.alloc (.cells zz 93)).cell? ⟨w.heap.size + 1, 5, none⟩ = some (.int .i64 bex) ∧ (W.alloc (.cells zz 93)).cell? ⟨w.heap.size + 1, 6, none⟩ = some (.int .i64 bx) ∧ (W.alloc (.cells zz 93)).cell? ⟨w.heap.size + 1, 7, none⟩ = some (.int .i64 b_y) ∧ (W.alloc (.cells zz 93)).cell? ⟨w.heap.size + 1, 8, none⟩ = some (.int .i64 bz) ∧ (W.alloc (.cells zz 93)).cell? ⟨w.heap.size + 1, 9, none⟩ = some ob ∧ Hid (KR w oa ob ao bo (W.alloc (.cells zz 93)))) => (BC2.out _ hW).mono (R' := fun e w' => e = .returned (.int .i64 z2) ∧ (w'.cell? ⟨w.heap.size, 0, none⟩ = some (.int .i64 at_) ∧ w'.cell? ⟨w.heap.size, 1, none⟩ = some (.int .i64 ak) ∧ w'.cell? ⟨w.heap.size, 2, none⟩ = some (.string akey) ∧ w'.cell? ⟨w.heap.size, 3, none⟩ = some (.string aen) ∧ w'.cell? ⟨w.heap.size, 4, none⟩ = some (.string aval) ∧ w'.cell? ⟨w.heap.size, 5, none⟩ = some (.int .i64 aex) ∧ w'.cell? ⟨w.heap.size, 6, none⟩ = some (.int .i64 ax) ∧ w'.cell? ⟨w.heap.size, 7, none⟩ = some (.int .i64 ay) ∧ w'.cell? ⟨w.heap.size, 8, none⟩ = some (.int .i64 az) ∧ w'.cell? ⟨w.heap.size, 9, none⟩ = some oa ∧ w'.cell? ⟨w.heap.size + 1, 0, none⟩ = some (.int .i64 bt) ∧ w'.cell? ⟨w.heap.size + 1, 1, none⟩ = some (.int .i64 bk) ∧ w'.cell? ⟨w.heap.size + 1, 2, none⟩ = some (.string bkey) ∧ w'.cell? ⟨w.heap.size + 1, 3, none⟩ = some (.string ben) ∧ w'.cell? ⟨w.heap.size + 1, 4, none⟩ = some (.string bval) ∧ w'.cell? ⟨w.heap.size + 1, 5, none⟩ = some (.int .i64 bex) ∧ w'.cell? ⟨w.heap.size + 1, 6, none⟩ = some (.int .i64 bx) ∧ w'.cell? ⟨w.heap.size + 1, 7, none⟩ = some (.int .i64 b_y) ∧ w'.cell? ⟨w.heap.size + 1, 8, none⟩ = some (.int .i64 bz) ∧ w'.cell? ⟨w.heap.size + 1, 9, none⟩ = some ob ∧ Hid (KR w oa ob ao bo w')) ∧ Hid (AX w w' W.heap.size)) (fun e w' ⟨a, b⟩ => have h4 := (show AX w (W.alloc (.cells zz 93)) W.heap.size from ⟨by rw [hz]; exact Bx.fresh _ _ _, MR_size (by rw [← hz]; exact hW)⟩).next b; ⟨a, MR_next hW b, Hid.mk' h4⟩))
  have C3 := Hid.mk' (fun (W : World) (hW : W.cell? ⟨w.heap.size, 0, none⟩ = some (.int .i64 at_) ∧ W.cell? ⟨w.heap.size, 1, none⟩ = some (.int .i64 ak) ∧ W.cell? ⟨w.heap.size, 2, none⟩ = some (.string akey) ∧ W.cell? ⟨w.heap.size, 3, none⟩ = some (.string aen) ∧ W.cell? ⟨w.heap.size, 4, none⟩ = some (.string aval) ∧ W.cell? ⟨w.heap.size, 5, none⟩ = some (.int .i64 aex) ∧ W.cell? ⟨w.heap.size, 6, none⟩ = some (.int .i64 ax) ∧ W.cell? ⟨w.heap.size, 7, none⟩ = some (.int .i64 ay) ∧ W.cell? ⟨w.heap.size, 8, none⟩ = some (.int .i64 az) ∧ W.cell? ⟨w.heap.size, 9, none⟩ = some oa ∧ W.cell? ⟨w.heap.size + 1, 0, none⟩ = some (.int .i64 bt) ∧ W.cell? ⟨w.heap.size + 1, 1, none⟩ = some (.int .i64 bk) ∧ W.cell? ⟨w.heap.size + 1, 2, none⟩ = some (.string bkey) ∧ W.cell? ⟨w.heap.size + 1, 3, none⟩ = some (.string ben) ∧ W.cell? ⟨w.heap.size + 1, 4, none⟩ = some (.string bval) ∧ W.cell? ⟨w.heap.size + 1, 5, none⟩ = some (.int .i64 bex) ∧ W.cell? ⟨w.heap.size + 1, 6, none⟩ = some (.int .i64 bx) ∧ W.cell? ⟨w.heap.size + 1, 7, none⟩ = some (.int .i64 b_y) ∧ W.cell? ⟨w.heap.size + 1, 8, none⟩ = some (.int .i64 bz) ∧ W.cell? ⟨w.heap.size + 1, 9, none⟩ = some ob ∧ Hid (KR w oa ob ao bo W)) => (BC3.out W hW).mono (R' := fun e w' => e = .returned (.int .i64 z3) ∧ w'.cell? ⟨w.heap.size, 0, none⟩ = some (.int .i64 at_) ∧ w'.cell? ⟨w.heap.size, 1, none⟩ = some (.int .i64 ak) ∧ w'.cell? ⟨w.heap.size, 2, none⟩ = some (.string akey) ∧ w'.cell? ⟨w.heap.size, 3, none⟩ = some (.string aen) ∧ w'.cell? ⟨w.heap.size, 4, none⟩ = some (.string aval) ∧ w'.cell? ⟨w.heap.size, 5, none⟩ = some (.int .i64 aex) ∧ w'.cell? ⟨w.heap.size, 6, none⟩ = some (.int .i64 ax) ∧ w'.cell? ⟨w.heap.size, 7, none⟩ = some (.int .i64 ay) ∧ w'.cell? ⟨w.heap.size, 8, none⟩ = some (.int .i64 az) ∧ w'.cell? ⟨w.heap.size, 9, none⟩ = some oa ∧ w'.cell? ⟨w.heap.size + 1, 0, none⟩ = some (.int .i64 bt) ∧ w'.cell? ⟨w.heap.size + 1, 1, none⟩ = some (.int .i64 bk) ∧ w'.cell? ⟨w.heap.size + 1, 2, none⟩ = some (.string bkey) ∧ w'.cell? ⟨w.heap.size + 1, 3, none⟩ = some (.string ben) ∧ w'.cell? ⟨w.heap.size + 1, 4, none⟩ = some (.string bval) ∧ w'.cell? ⟨w.heap.size + 1, 5, none⟩ = some (.int .i64 bex) ∧ w'.cell? ⟨w.heap.size + 1, 6, none⟩ = some (.int .i64 bx) ∧ w'.cell? ⟨w.heap.size + 1, 7, none⟩ = some (.int .i64 b_y) ∧ w'.cell? ⟨w.heap.size + 1, 8, none⟩ = some (.int .i64 bz) ∧ w'.cell? ⟨w.heap.size + 1, 9, none⟩ = some ob ∧ Hid (KR w oa ob ao bo w')) (fun e w' ⟨a, b⟩ => ⟨a, MR_next hW b⟩))
  have DC3 := Hid.mk' (fun (W : World) (D : Nat) (hW : W.cell? ⟨w.heap.size, 0, none⟩ = some (.int .i64 at_) ∧ W.cell? ⟨w.heap.size, 1, none⟩ = some (.int .i64 ak) ∧ W.cell? ⟨w.heap.size, 2, none⟩ = some (.string akey) ∧ W.cell? ⟨w.heap.size, 3, none⟩ = some (.string aen) ∧ W.cell? ⟨w.heap.size, 4, none⟩ = some (.string aval) ∧ W.cell? ⟨w.heap.size, 5, none⟩ = some (.int .i64 aex) ∧ W.cell? ⟨w.heap.size, 6, none⟩ = some (.int .i64 ax) ∧ W.cell? ⟨w.heap.size, 7, none⟩ = some (.int .i64 ay) ∧ W.cell? ⟨w.heap.size, 8, none⟩ = some (.int .i64 az) ∧ W.cell? ⟨w.heap.size, 9, none⟩ = some oa ∧ W.cell? ⟨w.heap.size + 1, 0, none⟩ = some (.int .i64 bt) ∧ W.cell? ⟨w.heap.size + 1, 1, none⟩ = some (.int .i64 bk) ∧ W.cell? ⟨w.heap.size + 1, 2, none⟩ = some (.string bkey) ∧ W.cell? ⟨w.heap.size + 1, 3, none⟩ = some (.string ben) ∧ W.cell? ⟨w.heap.size + 1, 4, none⟩ = some (.string bval) ∧ W.cell? ⟨w.heap.size + 1, 5, none⟩ = some (.int .i64 bex) ∧ W.cell? ⟨w.heap.size + 1, 6, none⟩ = some (.int .i64 bx) ∧ W.cell? ⟨w.heap.size + 1, 7, none⟩ = some (.int .i64 b_y) ∧ W.cell? ⟨w.heap.size + 1, 8, none⟩ = some (.int .i64 bz) ∧ W.cell? ⟨w.heap.size + 1, 9, none⟩ = some ob ∧ Hid (KR w oa ob ao bo W)) (hx : Hid (AX w W D)) => (BC3.out W hW).mono (R' := fun e w' => e = .returned (.int .i64 z3) ∧ (w'.cell? ⟨w.heap.size, 0, none⟩ = some (.int .i64 at_) ∧ w'.cell? ⟨w.heap.size, 1, none⟩ = some (.int .i64 ak) ∧ w'.cell? ⟨w.heap.size, 2, none⟩ = some (.string akey) ∧ w'.cell? ⟨w.heap.size, 3, none⟩ = some (.string aen) ∧ w'.cell? ⟨w.heap.size, 4, none⟩ = some (.string aval) ∧ w'.cell? ⟨w.heap.size, 5, none⟩ = some (.int .i64 aex) ∧ w'.cell? ⟨w.heap.size, 6, none⟩ = some (.int .i64 ax) ∧ w'.cell? ⟨w.heap.size, 7, none⟩ = some (.int .i64 ay) ∧ w'.cell? ⟨w.heap.size, 8, none⟩ = some (.int .i64 az) ∧ w'.cell? ⟨w.heap.size, 9, none⟩ = some oa ∧ w'.cell? ⟨w.heap.size + 1, 0, none⟩ = some (.int .i64 bt) ∧ w'.cell? ⟨w.heap.size + 1, 1, none⟩ = some (.int .i64 bk) ∧ w'.cell? ⟨w.heap.size + 1, 2, none⟩ = some (.string bkey) ∧ w'.cell? ⟨w.heap.size + 1, 3, none⟩ = some (.string ben) ∧ w'.cell? ⟨w.heap.size + 1, 4, none⟩ = some (.string bval) ∧ w'.cell? ⟨w.heap.size + 1, 5, none⟩ = some (.int .i64 bex) ∧ w'.cell? ⟨w.heap.size + 1, 6, none⟩ = some (.int .i64 bx) ∧ w'.cell? ⟨w.heap.size + 1, 7, none⟩ = some (.int .i64 b_y) ∧ w'.cell? ⟨w.heap.size + 1, 8, none⟩ = some (.int .i64 bz) ∧ w'.cell? ⟨w.heap.size + 1, 9, none⟩ = some ob ∧ Hid (KR w oa ob ao bo w')) ∧ Hid (AX w w' D)) (fun e w' ⟨a, b⟩ => have h4 := hx.out.next b; ⟨a, MR_next hW b, Hid.mk' h4⟩))
  have EC3 := Hid.mk' (fun (W : World) (zz : Array Value) (hz : zz = #[.int .i64 0, .int .i64 0, .int .i64 0, .int .i64 0, .int .i64 0, .int .i64 0, .int .i64 0, .int .i64 0]) (hW : (W.alloc (.cells zz 93)).cell? ⟨w.heap.size, 0, none⟩ = some (.int .i64 at_) ∧ (W.alloc (.cells zz 93)).cell? ⟨w.heap.size, 1, none⟩ = some (.int .i64 ak) ∧ (W.alloc (.cells zz 93)).cell? ⟨w.heap.size, 2, none⟩ = some (.string akey) ∧ (W.alloc (.cells zz 93)).cell? ⟨w.heap.size, 3, none⟩ = some (.string aen) ∧ (W.alloc (.cells zz 93)).cell? ⟨w.heap.size, 4, none⟩ = some (.string aval) ∧ (W.alloc (.cells zz 93)).cell? ⟨w.heap.size, 5, none⟩ = some (.int .i64 aex) ∧ (W.alloc (.cells zz 93)).cell? ⟨w.heap.size, 6, none⟩ = some (.int .i64 ax) ∧ (W.alloc (.cells zz 93)).cell? ⟨w.heap.size, 7, none⟩ = some (.int .i64 ay) ∧ (W.alloc (.cells zz 93)).cell? ⟨w.heap.size, 8, none⟩ = some (.int .i64 az) ∧ (W.alloc (.cells zz 93)).cell? ⟨w.heap.size, 9, none⟩ = some oa ∧ (W.alloc (.cells zz 93)).cell? ⟨w.heap.size + 1, 0, none⟩ = some (.int .i64 bt) ∧ (W.alloc (.cells zz 93)).cell? ⟨w.heap.size + 1, 1, none⟩ = some (.int .i64 bk) ∧ (W.alloc (.cells zz 93)).cell? ⟨w.heap.size + 1, 2, none⟩ = some (.string bkey) ∧ (W.alloc (.cells zz 93)).cell? ⟨w.heap.size + 1, 3, none⟩ = some (.string ben) ∧ (W.alloc (.cells zz 93)).cell? ⟨w.heap.size + 1, 4, none⟩ = some (.string bval) ∧ (W.alloc (.cells zz 93)).cell? ⟨w.heap.size + 1, 5, none⟩ = some (.int .i64 bex) ∧ (W.alloc (.cells zz 93)).cell? ⟨w.heap.size + 1, 6, none⟩ = some (.int .i64 bx) ∧ (W.alloc (.cells zz 93)).cell? ⟨w.heap.size + 1, 7, none⟩ = some (.int .i64 b_y) ∧ (W.alloc (.cells zz 93)).cell? ⟨w.heap.size + 1, 8, none⟩ = some (.int .i64 bz) ∧ (W.alloc (.cells zz 93)).cell? ⟨w.heap.size + 1, 9, none⟩ = some ob ∧ Hid (KR w oa ob ao bo (W.alloc (.cells zz 93)))) => (BC3.out _ hW).mono (R' := fun e w' => e = .returned (.int .i64 z3) ∧ (w'.cell? ⟨w.heap.size, 0, none⟩ = some (.int .i64 at_) ∧ w'.cell? ⟨w.heap.size, 1, none⟩ = some (.int .i64 ak) ∧ w'.cell? ⟨w.heap.size, 2, none⟩ = some (.string akey) ∧ w'.cell? ⟨w.heap.size, 3, none⟩ = some (.string aen) ∧ w'.cell? ⟨w.heap.size, 4, none⟩ = some (.string aval) ∧ w'.cell? ⟨w.heap.size, 5, none⟩ = some (.int .i64 aex) ∧ w'.cell? ⟨w.heap.size, 6, none⟩ = some (.int .i64 ax) ∧ w'.cell? ⟨w.heap.size, 7, none⟩ = some (.int .i64 ay) ∧ w'.cell? ⟨w.heap.size, 8, none⟩ = some (.int .i64 az) ∧ w'.cell? ⟨w.heap.size, 9, none⟩ = some oa ∧ w'.cell? ⟨w.heap.size + 1, 0, none⟩ = some (.int .i64 bt) ∧ w'.cell? ⟨w.heap.size + 1, 1, none⟩ = some (.int .i64 bk) ∧ w'.cell? ⟨w.heap.size + 1, 2, none⟩ = some (.string bkey) ∧ w'.cell? ⟨w.heap.size + 1, 3, none⟩ = some (.string ben) ∧ w'.cell? ⟨w.heap.size + 1, 4, none⟩ = some (.string bval) ∧ w'.cell? ⟨w.heap.size + 1, 5, none⟩ = some (.int .i64 bex) ∧ w'.cell? ⟨w.heap.size + 1, 6, none⟩ = some (.int .i64 bx) ∧ w'.cell? ⟨w.heap.size + 1, 7, none⟩ = some (.int .i64 b_y) ∧ w'.cell? ⟨w.heap.size + 1, 8, none⟩ = some (.int .i64 bz) ∧ w'.cell? ⟨w.heap.size + 1, 9, none⟩ = some ob ∧ Hid (KR w oa ob ao bo w')) ∧ Hid (AX w w' W.heap.size)) (fun e w' ⟨a, b⟩ => have h4 := (show AX w (W.alloc (.cells zz 93)) W.heap.size from ⟨by rw [hz]; exact Bx.fresh _ _ _, MR_size (by rw [← hz]; exact hW)⟩).next b; ⟨a, MR_next hW b, Hid.mk' h4⟩))
  have C4 := Hid.mk' (fun (W : World) (hW : W.cell? ⟨w.heap.size, 0, none⟩ = some (.int .i64 at_) ∧ W.cell? ⟨w.heap.size, 1, none⟩ = some (.int .i64 ak) ∧ W.cell? ⟨w.heap.size, 2, none⟩ = some (.string akey) ∧ W.cell? ⟨w.heap.size, 3, none⟩ = some (.string aen) ∧ W.cell? ⟨w.heap.size, 4, none⟩ = some (.string aval) ∧ W.cell? ⟨w.heap.size, 5, none⟩ = some (.int .i64 aex) ∧ W.cell? ⟨w.heap.size, 6, none⟩ = some (.int .i64 ax) ∧ W.cell? ⟨w.heap.size, 7, none⟩ = some (.int .i64 ay) ∧ W.cell? ⟨w.heap.size, 8, none⟩ = some (.int .i64 az) ∧ W.cell? ⟨w.heap.size, 9, none⟩ = some oa ∧ W.cell? ⟨w.heap.size + 1, 0, none⟩ = some (.int .i64 bt) ∧ W.cell? ⟨w.heap.size + 1, 1, none⟩ = some (.int .i64 bk) ∧ W.cell? ⟨w.heap.size + 1, 2, none⟩ = some (.string bkey) ∧ W.cell? ⟨w.heap.size + 1, 3, none⟩ = some (.string ben) ∧ W.cell? ⟨w.heap.size + 1, 4, none⟩ = some (.string bval) ∧ W.cell? ⟨w.heap.size + 1, 5, none⟩ = some (.int .i64 bex) ∧ W.cell? ⟨w.heap.size + 1, 6, none⟩ = some (.int .i64 bx) ∧ W.cell? ⟨w.heap.size + 1, 7, none⟩ = some (.int .i64 b_y) ∧ W.cell? ⟨w.heap.size + 1, 8, none⟩ = some (.int .i64 bz) ∧ W.cell? ⟨w.heap.size + 1, 9, none⟩ = some ob ∧ Hid (KR w oa ob ao bo W)) => (BC4.out W hW).mono (R' := fun e w' => e = .returned (.int .i64 z4) ∧ w'.cell? ⟨w.heap.size, 0, none⟩ = some (.int .i64 at_) ∧ w'.cell? ⟨w.heap.size, 1, none⟩ = some (.int .i64 ak) ∧ w'.cell? ⟨w.heap.size, 2, none⟩ = some (.string akey) ∧ w'.cell? ⟨w.heap.size, 3, none⟩ = some (.string aen) ∧ w'.cell? ⟨w.heap.size, 4, none⟩ = some (.string aval) ∧ w'.cell? ⟨w.heap.size, 5, none⟩ = some (.int .i64 aex) ∧ w'.cell? ⟨w.heap.size, 6, none⟩ = some (.int .i64 ax) ∧ w'.cell? ⟨w.heap.size, 7, none⟩ = some (.int .i64 ay) ∧ w'.cell? ⟨w.heap.size, 8, none⟩ = some (.int .i64 az) ∧ w'.cell? ⟨w.heap.size, 9, none⟩ = some oa ∧ w'.cell? ⟨w.heap.size + 1, 0, none⟩ = some (.int .i64 bt) ∧ w'.cell? ⟨w.heap.size + 1, 1, none⟩ = some (.int .i64 bk) ∧ w'.cell? ⟨w.heap.size + 1, 2, none⟩ = some (.string bkey) ∧ w'.cell? ⟨w.heap.size + 1, 3, none⟩ = some (.string ben) ∧ w'.cell? ⟨w.heap.size + 1, 4, none⟩ = some (.string bval) ∧ w'.cell? ⟨w.heap.size + 1, 5, none⟩ = some (.int .i64 bex) ∧ w'.cell? ⟨w.heap.size + 1, 6, none⟩ = some (.int .i64 bx) ∧ w'.cell? ⟨w.heap.size + 1, 7, none⟩ = some (.int .i64 b_y) ∧ w'.cell? ⟨w.heap.size + 1, 8, none⟩ = some (.int .i64 bz) ∧ w'.cell? ⟨w.heap.size + 1, 9, none⟩ = some ob ∧ Hid (KR w oa ob ao bo w')) (fun e w' ⟨a, b⟩ => ⟨a, MR_next hW b⟩))
  have DC4 := Hid.mk' (fun (W : World) (D : Nat) (hW : W.cell? ⟨w.heap.size, 0, none⟩ = some (.int .i64 at_) ∧ W.cell? ⟨w.heap.size, 1, none⟩ = some (.int .i64 ak) ∧ W.cell? ⟨w.heap.size, 2, none⟩ = some (.string akey) ∧ W.cell? ⟨w.heap.size, 3, none⟩ = some (.string aen) ∧ W.cell? ⟨w.heap.size, 4, none⟩ = some (.string aval) ∧ W.cell? ⟨w.heap.size, 5, none⟩ = some (.int .i64 aex) ∧ W.cell? ⟨w.heap.size, 6, none⟩ = some (.int .i64 ax) ∧ W.cell? ⟨w.heap.size, 7, none⟩ = some (.int .i64 ay) ∧ W.cell? ⟨w.heap.size, 8, none⟩ = some (.int .i64 az) ∧ W.cell? ⟨w.heap.size, 9, none⟩ = some oa ∧ W.cell? ⟨w.heap.size + 1, 0, none⟩ = some (.int .i64 bt) ∧ W.cell? ⟨w.heap.size + 1, 1, none⟩ = some (.int .i64 bk) ∧ W.cell? ⟨w.heap.size + 1, 2, none⟩ = some (.string bkey) ∧ W.cell? ⟨w.heap.size + 1, 3, none⟩ = some (.string ben) ∧ W.cell? ⟨w.heap.size + 1, 4, none⟩ = some (.string bval) ∧ W.cell? ⟨w.heap.size + 1, 5, none⟩ = some (.int .i64 bex) ∧ W.cell? ⟨w.heap.size + 1, 6, none⟩ = some (.int .i64 bx) ∧ W.cell? ⟨w.heap.size + 1, 7, none⟩ = some (.int .i64 b_y) ∧ W.cell? ⟨w.heap.size + 1, 8, none⟩ = some (.int .i64 bz) ∧ W.cell? ⟨w.heap.size + 1, 9, none⟩ = some ob ∧ Hid (KR w oa ob ao bo W)) (hx : Hid (AX w W D)) => (BC4.out W hW).mono (R' := fun e w' => e = .returned (.int .i64 z4) ∧ (w'.cell? ⟨w.heap.size, 0, none⟩ = some (.int .i64 at_) ∧ w'.cell? ⟨w.heap.size, 1, none⟩ = some (.int .i64 ak) ∧ w'.cell? ⟨w.heap.size, 2, none⟩ = some (.string akey) ∧ w'.cell? ⟨w.heap.size, 3, none⟩ = some (.string aen) ∧ w'.cell? ⟨w.heap.size, 4, none⟩ = some (.string aval) ∧ w'.cell? ⟨w.heap.size, 5, none⟩ = some (.int .i64 aex) ∧ w'.cell? ⟨w.heap.size, 6, none⟩ = some (.int .i64 ax) ∧ w'.cell? ⟨w.heap.size, 7, none⟩ = some (.int .i64 ay) ∧ w'.cell? ⟨w.heap.size, 8, none⟩ = some (.int .i64 az) ∧ w'.cell? ⟨w.heap.size, 9, none⟩ = some oa ∧ w'.cell? ⟨w.heap.size + 1, 0, none⟩ = some (.int .i64 bt) ∧ w'.cell? ⟨w.heap.size + 1, 1, none⟩ = some (.int .i64 bk) ∧ w'.cell? ⟨w.heap.size + 1, 2, none⟩ = some (.string bkey) ∧ w'.cell? ⟨w.heap.size + 1, 3, none⟩ = some (.string ben) ∧ w'.cell? ⟨w.heap.size + 1, 4, none⟩ = some (.string bval) ∧ w'.cell? ⟨w.heap.size + 1, 5, none⟩ = some (.int .i64 bex) ∧ w'.cell? ⟨w.heap.size + 1, 6, none⟩ = some (.int .i64 bx) ∧ w'.cell? ⟨w.heap.size + 1, 7, none⟩ = some (.int .i64 b_y) ∧ w'.cell? ⟨w.heap.size + 1, 8, none⟩ = some (.int .i64 bz) ∧ w'.cell? ⟨w.heap.size + 1, 9, none⟩ = some ob ∧ Hid (KR w oa ob ao bo w')) ∧ Hid (AX w w' D)) (fun e w' ⟨a, b⟩ => have h4 := hx.out.next b; ⟨a, MR_next hW b, Hid.mk' h4⟩))
  have EC4 := Hid.mk' (fun (W : World) (zz : Array Value) (hz : zz = #[.int .i64 0, .int .i64 0, .int .i64 0, .int .i64 0, .int .i64 0, .int .i64 0, .int .i64 0, .int .i64 0]) (hW : (W.alloc (.cells zz 93)).cell? ⟨w.heap.size, 0, none⟩ = some (.int .i64 at_) ∧ (W.alloc (.cells zz 93)).cell? ⟨w.heap.size, 1, none⟩ = some (.int .i64 ak) ∧ (W.alloc (.cells zz 93)).cell? ⟨w.heap.size, 2, none⟩ = some (.string akey) ∧ (W.alloc (.cells zz 93)).cell? ⟨w.heap.size, 3, none⟩ = some (.string aen) ∧ (W.alloc (.cells zz 93)).cell? ⟨w.heap.size, 4, none⟩ = some (.string aval) ∧ (W.alloc (.cells zz 93)).cell? ⟨w.heap.size, 5, none⟩ = some (.int .i64 aex) ∧ (W.alloc (.cells zz 93)).cell? ⟨w.heap.size, 6, none⟩ = some (.int .i64 ax) ∧ (W.alloc (.cells zz 93)).cell? ⟨w.heap.size, 7, none⟩ = some (.int .i64 ay) ∧ (W.alloc (.cells zz 93)).cell? ⟨w.heap.size, 8, none⟩ = some (.int .i64 az) ∧ (W.alloc (.cells zz 93)).cell? ⟨w.heap.size, 9, none⟩ = some oa ∧ (W.alloc (.cells zz 93)).cell? ⟨w.heap.size + 1, 0, none⟩ = some (.int .i64 bt) ∧ (W.alloc (.cells zz 93)).cell? ⟨w.heap.size + 1, 1, none⟩ = some (.int .i64 bk) ∧ (W.alloc (.cells zz 93)).cell? ⟨w.heap.size + 1, 2, none⟩ = some (.string bkey) ∧ (W.alloc (.cells zz 93)).cell? ⟨w.heap.size + 1, 3, none⟩ = some (.string ben) ∧ (W.alloc (.cells zz 93)).cell? ⟨w.heap.size + 1, 4, none⟩ = some (.string bval) ∧ (W.alloc (.cells zz 93)).cell? ⟨w.heap.size + 1, 5, none⟩ = some (.int .i64 bex) ∧ (W.alloc (.cells zz 93)).cell? ⟨w.heap.size + 1, 6, none⟩ = some (.int .i64 bx) ∧ (W.alloc (.cells zz 93)).cell? ⟨w.heap.size + 1, 7, none⟩ = some (.int .i64 b_y) ∧ (W.alloc (.cells zz 93)).cell? ⟨w.heap.size + 1, 8, none⟩ = some (.int .i64 bz) ∧ (W.alloc (.cells zz 93)).cell? ⟨w.heap.size + 1, 9, none⟩ = some ob ∧ Hid (KR w oa ob ao bo (W.alloc (.cells zz 93)))) => (BC4.out _ hW).mono (R' := fun e w' => e = .returned (.int .i64 z4) ∧ (w'.cell? ⟨w.heap.size, 0, none⟩ = some (.int .i64 at_) ∧ w'.cell? ⟨w.heap.size, 1, none⟩ = some (.int .i64 ak) ∧ w'.cell? ⟨w.heap.size, 2, none⟩ = some (.string akey) ∧ w'.cell? ⟨w.heap.size, 3, none⟩ = some (.string aen) ∧ w'.cell? ⟨w.heap.size, 4, none⟩ = some (.string aval) ∧ w'.cell? ⟨w.heap.size, 5, none⟩ = some (.int .i64 aex) ∧ w'.cell? ⟨w.heap.size, 6, none⟩ = some (.int .i64 ax) ∧ w'.cell? ⟨w.heap.size, 7, none⟩ = some (.int .i64 ay) ∧ w'.cell? ⟨w.heap.size, 8, none⟩ = some (.int .i64 az) ∧ w'.cell? ⟨w.heap.size, 9, none⟩ = some oa ∧ w'.cell? ⟨w.heap.size + 1, 0, none⟩ = some (.int .i64 bt) ∧ w'.cell? ⟨w.heap.size + 1, 1, none⟩ = some (.int .i64 bk) ∧ w'.cell? ⟨w.heap.size + 1, 2, none⟩ = some (.string bkey) ∧ w'.cell? ⟨w.heap.size + 1, 3, none⟩ = some (.string ben) ∧ w'.cell? ⟨w.heap.size + 1, 4, none⟩ = some (.string bval) ∧ w'.cell? ⟨w.heap.size + 1, 5, none⟩ = some (.int .i64 bex) ∧ w'.cell? ⟨w.heap.size + 1, 6, none⟩ = some (.int .i64 bx) ∧ w'.cell? ⟨w.heap.size + 1, 7, none⟩ = some (.int .i64 b_y) ∧ w'.cell? ⟨w.heap.size + 1, 8, none⟩ = some (.int .i64 bz) ∧ w'.cell? ⟨w.heap.size + 1, 9, none⟩ = some ob ∧ Hid (KR w oa ob ao bo w')) ∧ Hid (AX w w' W.heap.size)) (fun e w' ⟨a, b⟩ => have h4 := (show AX w (W.alloc (.cells zz 93)) W.heap.size from ⟨by rw [hz]; exact Bx.fresh _ _ _, MR_size (by rw [← hz]; exact hW)⟩).next b; ⟨a, MR_next hW b, Hid.mk' h4⟩))
  have C5 := Hid.mk' (fun (W : World) (hW : W.cell? ⟨w.heap.size, 0, none⟩ = some (.int .i64 at_) ∧ W.cell? ⟨w.heap.size, 1, none⟩ = some (.int .i64 ak) ∧ W.cell? ⟨w.heap.size, 2, none⟩ = some (.string akey) ∧ W.cell? ⟨w.heap.size, 3, none⟩ = some (.string aen) ∧ W.cell? ⟨w.heap.size, 4, none⟩ = some (.string aval) ∧ W.cell? ⟨w.heap.size, 5, none⟩ = some (.int .i64 aex) ∧ W.cell? ⟨w.heap.size, 6, none⟩ = some (.int .i64 ax) ∧ W.cell? ⟨w.heap.size, 7, none⟩ = some (.int .i64 ay) ∧ W.cell? ⟨w.heap.size, 8, none⟩ = some (.int .i64 az) ∧ W.cell? ⟨w.heap.size, 9, none⟩ = some oa ∧ W.cell? ⟨w.heap.size + 1, 0, none⟩ = some (.int .i64 bt) ∧ W.cell? ⟨w.heap.size + 1, 1, none⟩ = some (.int .i64 bk) ∧ W.cell? ⟨w.heap.size + 1, 2, none⟩ = some (.string bkey) ∧ W.cell? ⟨w.heap.size + 1, 3, none⟩ = some (.string ben) ∧ W.cell? ⟨w.heap.size + 1, 4, none⟩ = some (.string bval) ∧ W.cell? ⟨w.heap.size + 1, 5, none⟩ = some (.int .i64 bex) ∧ W.cell? ⟨w.heap.size + 1, 6, none⟩ = some (.int .i64 bx) ∧ W.cell? ⟨w.heap.size + 1, 7, none⟩ = some (.int .i64 b_y) ∧ W.cell? ⟨w.heap.size + 1, 8, none⟩ = some (.int .i64 bz) ∧ W.cell? ⟨w.heap.size + 1, 9, none⟩ = some ob ∧ Hid (KR w oa ob ao bo W)) => (BC5.out W hW).mono (R' := fun e w' => e = .returned (.int .i64 z5) ∧ w'.cell? ⟨w.heap.size, 0, none⟩ = some (.int .i64 at_) ∧ w'.cell? ⟨w.heap.size, 1, none⟩ = some (.int .i64 ak) ∧ w'.cell? ⟨w.heap.size, 2, none⟩ = some (.string akey) ∧ w'.cell? ⟨w.heap.size, 3, none⟩ = some (.string aen) ∧ w'.cell? ⟨w.heap.size, 4, none⟩ = some (.string aval) ∧ w'.cell? ⟨w.heap.size, 5, none⟩ = some (.int .i64 aex) ∧ w'.cell? ⟨w.heap.size, 6, none⟩ = some (.int .i64 ax) ∧ w'.cell? ⟨w.heap.size, 7, none⟩ = some (.int .i64 ay) ∧ w'.cell? ⟨w.heap.size, 8, none⟩ = some (.int .i64 az) ∧ w'.cell? ⟨w.heap.size, 9, none⟩ = some oa ∧ w'.cell? ⟨w.heap.size + 1, 0, none⟩ = some (.int .i64 bt) ∧ w'.cell? ⟨w.heap.size + 1, 1, none⟩ = some (.int .i64 bk) ∧ w'.cell? ⟨w.heap.size + 1, 2, none⟩ = some (.string bkey) ∧ w'.cell? ⟨w.heap.size + 1, 3, none⟩ = some (.string ben) ∧ w'.cell? ⟨w.heap.size + 1, 4, none⟩ = some (.string bval) ∧ w'.cell? ⟨w.heap.size + 1, 5, none⟩ = some (.int .i64 bex) ∧ w'.cell? ⟨w.heap.size + 1, 6, none⟩ = some (.int .i64 bx) ∧ w'.cell? ⟨w.heap.size + 1, 7, none⟩ = some (.int .i64 b_y) ∧ w'.cell? ⟨w.heap.size + 1, 8, none⟩ = some (.int .i64 bz) ∧ w'.cell? ⟨w.heap.size + 1, 9, none⟩ = some ob ∧ Hid (KR w oa ob ao bo w')) (fun e w' ⟨a, b⟩ => ⟨a, MR_next hW b⟩))
  have DC5 := Hid.mk' (fun (W : World) (D : Nat) (hW : W.cell? ⟨w.heap.size, 0, none⟩ = some (.int .i64 at_) ∧ W.cell? ⟨w.heap.size, 1, none⟩ = some (.int .i64 ak) ∧ W.cell? ⟨w.heap.size, 2, none⟩ = some (.string akey) ∧ W.cell? ⟨w.heap.size, 3, none⟩ = some (.string aen) ∧ W.cell? ⟨w.heap.size, 4, none⟩ = some (.string aval) ∧ W.cell? ⟨w.heap.size, 5, none⟩ = some (.int .i64 aex) ∧ W.cell? ⟨w.heap.size, 6, none⟩ = some (.int .i64 ax) ∧ W.cell? ⟨w.heap.size, 7, none⟩ = some (.int .i64 ay) ∧ W.cell? ⟨w.heap.size, 8, none⟩ = some (.int .i64 az) ∧ W.cell? ⟨w.heap.size, 9, none⟩ = some oa ∧ W.cell? ⟨w.heap.size + 1, 0, none⟩ = some (.int .i64 bt) ∧ W.cell? ⟨w.heap.size + 1, 1, none⟩ = some (.int .i64 bk) ∧ W.cell? ⟨w.heap.size + 1, 2, none⟩ = some (.string bkey) ∧ W.cell? ⟨w.heap.size + 1, 3, none⟩ = some (.string ben) ∧ W.cell? ⟨w.heap.size + 1, 4, none⟩ = some (.string bval) ∧ W.cell? ⟨w.heap.size + 1, 5, none⟩ = some (.int .i64 bex) ∧ W.cell? ⟨w.heap.size + 1, 6, none⟩ = some (.int .i64 bx) ∧ W.cell? ⟨w.heap.size + 1, 7, none⟩ = some (.int .i64 b_y) ∧ W.cell? ⟨w.heap.size + 1, 8, none⟩ = some (.int .i64 bz) ∧ W.cell? ⟨w.heap.size + 1, 9, none⟩ = some ob ∧ Hid (KR w oa ob ao bo W)) (hx : Hid (AX w W D)) => (BC5.out W hW).mono (R' := fun e w' => e = .returned (.int .i64 z5) ∧ (w'.cell? ⟨w.heap.size, 0, none⟩ = some (.int .i64 at_) ∧ w'.cell? ⟨w.heap.size, 1, none⟩ = some (.int .i64 ak) ∧ w'.cell? ⟨w.heap.size, 2, none⟩ = some (.string akey) ∧ w'.cell? ⟨w.heap.size, 3, none⟩ = some (.string aen) ∧ w'.cell? ⟨w.heap.size, 4, none⟩ = some (.string aval) ∧ w'.cell? ⟨w.heap.size, 5, none⟩ = some (.int .i64 aex) ∧ w'.cell? ⟨w.heap.size, 6, none⟩ = some (.int .i64 ax) ∧ w'.cell? ⟨w.heap.size, 7, none⟩ = some (.int .i64 ay) ∧ w'.cell? ⟨w.heap.size, 8, none⟩ = some (.int .i64 az) ∧ w'.cell? ⟨w.heap.size, 9, none⟩ = some oa ∧ w'.cell? ⟨w.heap.size + 1, 0, none⟩ = some (.int .i64 bt) ∧ w'.cell? ⟨w.heap.size + 1, 1, none⟩ = some (.int .i64 bk) ∧ w'.cell? ⟨w.heap.size + 1, 2, none⟩ = some (.string bkey) ∧ w'.cell? ⟨w.heap.size + 1, 3, none⟩ = some (.string ben) ∧ w'.cell? ⟨w.heap.size + 1, 4, none⟩ = some (.string bval) ∧ w'.cell? ⟨w.heap.size + 1, 5, none⟩ = some (.int .i64 bex) ∧ w'.cell? ⟨w.heap.size + 1, 6, none⟩ = some (.int .i64 bx) ∧ w'.cell? ⟨w.heap.size + 1, 7, none⟩ = some (.int .i64 b_y) ∧ w'.cell? ⟨w.heap.size + 1, 8, none⟩ = some (.int .i64 bz) ∧ w'.cell? ⟨w.heap.size + 1, 9, none⟩ = some ob ∧ Hid (KR w oa ob ao bo w')) ∧ Hid (AX w w' D)) (fun e w' ⟨a, b⟩ => have h4 := hx.out.next b; ⟨a, MR_next hW b, Hid.mk' h4⟩))
  have EC5 := Hid.mk' (fun (W : World) (zz : Array Value) (hz : zz = #[.int .i64 0, .int .i64 0, .int .i64 0, .int .i64 0, .int .i64 0, .int .i64 0, .int .i64 0, .int .i64 0]) (hW : (W.alloc (.cells zz 93)).cell? ⟨w.heap.size, 0, none⟩ = some (.int .i64 at_) ∧ (W.alloc (.cells zz 93)).cell? ⟨w.heap.size, 1, none⟩ = some (.int .i64 ak) ∧ (W.alloc (.cells zz 93)).cell? ⟨w.heap.size, 2, none⟩ = some (.string akey) ∧ (W.alloc (.cells zz 93)).cell? ⟨w.heap.size, 3, none⟩ = some (.string aen) ∧ (W.alloc (.cells zz 93)).cell? ⟨w.heap.size, 4, none⟩ = some (.string aval) ∧ (W.alloc (.cells zz 93)).cell? ⟨w.heap.size, 5, none⟩ = some (.int .i64 aex) ∧ (W.alloc (.cells zz 93)).cell? ⟨w.heap.size, 6, none⟩ = some (.int .i64 ax) ∧ (W.alloc (.cells zz 93)).cell? ⟨w.heap.size, 7, none⟩ = some (.int .i64 ay) ∧ (W.alloc (.cells zz 93)).cell? ⟨w.heap.size, 8, none⟩ = some (.int .i64 az) ∧ (W.alloc (.cells zz 93)).cell? ⟨w.heap.size, 9, none⟩ = some oa ∧ (W.alloc (.cells zz 93)).cell? ⟨w.heap.size + 1, 0, none⟩ = some (.int .i64 bt) ∧ (W.alloc (.cells zz 93)).cell? ⟨w.heap.size + 1, 1, none⟩ = some (.int .i64 bk) ∧ (W.alloc (.cells zz 93)).cell? ⟨w.heap.size + 1, 2, none⟩ = some (.string bkey) ∧ (W.alloc (.cells zz 93)).cell? ⟨w.heap.size + 1, 3, none⟩ = some (.string ben) ∧ (W.alloc (.cells zz 93)).cell? ⟨w.heap.size + 1, 4, none⟩ = some (.string bval) ∧ (W.alloc (.cells zz 93)).cell? ⟨w.heap.size + 1, 5, none⟩ = some (.int .i64 bex) ∧ (W.alloc (.cells zz 93)).cell? ⟨w.heap.size + 1, 6, none⟩ = some (.int .i64 bx) ∧ (W.alloc (.cells zz 93)).cell? ⟨w.heap.size + 1, 7, none⟩ = some (.int .i64 b_y) ∧ (W.alloc (.cells zz 93)).cell? ⟨w.heap.size + 1, 8, none⟩ = some (.int .i64 bz) ∧ (W.alloc (.cells zz 93)).cell? ⟨w.heap.size + 1, 9, none⟩ = some ob ∧ Hid (KR w oa ob ao bo (W.alloc (.cells zz 93)))) => (BC5.out _ hW).mono (R' := fun e w' => e = .returned (.int .i64 z5) ∧ (w'.cell? ⟨w.heap.size, 0, none⟩ = some (.int .i64 at_) ∧ w'.cell? ⟨w.heap.size, 1, none⟩ = some (.int .i64 ak) ∧ w'.cell? ⟨w.heap.size, 2, none⟩ = some (.string akey) ∧ w'.cell? ⟨w.heap.size, 3, none⟩ = some (.string aen) ∧ w'.cell? ⟨w.heap.size, 4, none⟩ = some (.string aval) ∧ w'.cell? ⟨w.heap.size, 5, none⟩ = some (.int .i64 aex) ∧ w'.cell? ⟨w.heap.size, 6, none⟩ = some (.int .i64 ax) ∧ w'.cell? ⟨w.heap.size, 7, none⟩ = some (.int .i64 ay) ∧ w'.cell? ⟨w.heap.size, 8, none⟩ = some (.int .i64 az) ∧ w'.cell? ⟨w.heap.size, 9, none⟩ = some oa ∧ w'.cell? ⟨w.heap.size + 1, 0, none⟩ = some (.int .i64 bt) ∧ w'.cell? ⟨w.heap.size + 1, 1, none⟩ = some (.int .i64 bk) ∧ w'.cell? ⟨w.heap.size + 1, 2, none⟩ = some (.string bkey) ∧ w'.cell? ⟨w.heap.size + 1, 3, none⟩ = some (.string ben) ∧ w'.cell? ⟨w.heap.size + 1, 4, none⟩ = some (.string bval) ∧ w'.cell? ⟨w.heap.size + 1, 5, none⟩ = some (.int .i64 bex) ∧ w'.cell? ⟨w.heap.size + 1, 6, none⟩ = some (.int .i64 bx) ∧ w'.cell? ⟨w.heap.size + 1, 7, none⟩ = some (.int .i64 b_y) ∧ w'.cell? ⟨w.heap.size + 1, 8, none⟩ = some (.int .i64 bz) ∧ w'.cell? ⟨w.heap.size + 1, 9, none⟩ = some ob ∧ Hid (KR w oa ob ao bo w')) ∧ Hid (AX w w' W.heap.size)) (fun e w' ⟨a, b⟩ => have h4 := (show AX w (W.alloc (.cells zz 93)) W.heap.size from ⟨by rw [hz]; exact Bx.fresh _ _ _, MR_size (by rw [← hz]; exact hW)⟩).next b; ⟨a, MR_next hW b, Hid.mk' h4⟩))
  have C6 := Hid.mk' (fun (W : World) (hW : W.cell? ⟨w.heap.size, 0, none⟩ = some (.int .i64 at_) ∧ W.cell? ⟨w.heap.size, 1, none⟩ = some (.int .i64 ak) ∧ W.cell? ⟨w.heap.size, 2, none⟩ = some (.string akey) ∧ W.cell? ⟨w.heap.size, 3, none⟩ = some (.string aen) ∧ W.cell? ⟨w.heap.size, 4, none⟩ = some (.string aval) ∧ W.cell? ⟨w.heap.size, 5, none⟩ = some (.int .i64 aex) ∧ W.cell? ⟨w.heap.size, 6, none⟩ = some (.int .i64 ax) ∧ W.cell? ⟨w.heap.size, 7, none⟩ = some (.int .i64 ay) ∧ W.cell? ⟨w.heap.size, 8, none⟩ = some (.int .i64 az) ∧ W.cell? ⟨w.heap.size, 9, none⟩ = some oa ∧ W.cell? ⟨w.heap.size + 1, 0, none⟩ = some (.int .i64 bt) ∧ W.cell? ⟨w.heap.size + 1, 1, none⟩ = some (.int .i64 bk) ∧ W.cell? ⟨w.heap.size + 1, 2, none⟩ = some (.string bkey) ∧ W.cell? ⟨w.heap.size + 1, 3, none⟩ = some (.string ben) ∧ W.cell? ⟨w.heap.size + 1, 4, none⟩ = some (.string bval) ∧ W.cell? ⟨w.heap.size + 1, 5, none⟩ = some (.int .i64 bex) ∧ W.cell? ⟨w.heap.size + 1, 6, none⟩ = some (.int .i64 bx) ∧ W.cell? ⟨w.heap.size + 1, 7, none⟩ = some (.int .i64 b_y) ∧ W.cell? ⟨w.heap.size + 1, 8, none⟩ = some (.int .i64 bz) ∧ W.cell? ⟨w.heap.size + 1, 9, none⟩ = some ob ∧ Hid (KR w oa ob ao bo W)) => (BC6.out W hW).mono (R' := fun e w' => e = .returned (.int .i64 z6) ∧ w'.cell? ⟨w.heap.size, 0, none⟩ = some (.int .i64 at_) ∧ w'.cell? ⟨w.heap.size, 1, none⟩ = some (.int .i64 ak) ∧ w'.cell? ⟨w.heap.size, 2, none⟩ = some (.string akey) ∧ w'.cell? ⟨w.heap.size, 3, none⟩ = some (.string aen) ∧ w'.cell? ⟨w.heap.size, 4, none⟩ = some (.string aval) ∧ w'.cell? ⟨w.heap.size, 5, none⟩ = some (.int .i64 aex) ∧ w'.cell? ⟨w.heap.size, 6, none⟩ = some (.int .i64 ax) ∧ w'.cell? ⟨w.heap.size, 7, none⟩ = some (.int .i64 ay) ∧ w'.cell? ⟨w.heap.size, 8, none⟩ = some (.int .i64 az) ∧ w'.cell? ⟨w.heap.size, 9, none⟩ = some oa ∧ w'.cell? ⟨w.heap.size + 1, 0, none⟩ = some (.int .i64 bt) ∧ w'.cell? ⟨w.heap.size + 1, 1, none⟩ = some (.int .i64 bk) ∧ w'.cell? ⟨w.heap.size + 1, 2, none⟩ = some (.string bkey) ∧ w'.cell? ⟨w.heap.size + 1, 3, none⟩ = some (.string ben) ∧ w'.cell? ⟨w.heap.size + 1, 4, none⟩ = some (.string bval) ∧ w'.cell? ⟨w.heap.size + 1, 5, none⟩ = some (.int .i64 bex) ∧ w'.cell? ⟨w.heap.size + 1, 6, none⟩ = some (.int .i64 bx) ∧ w'.cell? ⟨w.heap.size + 1, 7, none⟩ = some (.int .i64 b_y) ∧ w'.cell? ⟨w.heap.size + 1, 8, none⟩ = some (.int .i64 bz) ∧ w'.cell? ⟨w.heap.size + 1, 9, none⟩ = some ob ∧ Hid (KR w oa ob ao bo w')) (fun e w' ⟨a, b⟩ => ⟨a, MR_next hW b⟩))
  have DC6 := Hid.mk' (fun (W : World) (D : Nat) (hW : W.cell? ⟨w.heap.size, 0, none⟩ = some (.int .i64 at_) ∧ W.cell? ⟨w.heap.size, 1, none⟩ = some (.int .i64 ak) ∧ W.cell? ⟨w.heap.size, 2, none⟩ = some (.string akey) ∧ W.cell? ⟨w.heap.size, 3, none⟩ = some (.string aen) ∧ W.cell? ⟨w.heap.size, 4, none⟩ = some (.string aval) ∧ W.cell? ⟨w.heap.size, 5, none⟩ = some (.int .i64 aex) ∧ W.cell? ⟨w.heap.size, 6, none⟩ = some (.int .i64 ax) ∧ W.cell? ⟨w.heap.size, 7, none⟩ = some (.int .i64 ay) ∧ W.cell? ⟨w.heap.size, 8, none⟩ = some (.int .i64 az) ∧ W.cell? ⟨w.heap.size, 9, none⟩ = some oa ∧ W.cell? ⟨w.heap.size + 1, 0, none⟩ = some (.int .i64 bt) ∧ W.cell? ⟨w.heap.size + 1, 1, none⟩ = some (.int .i64 bk) ∧ W.cell? ⟨w.heap.size + 1, 2, none⟩ = some (.string bkey) ∧ W.cell? ⟨w.heap.size + 1, 3, none⟩ = some (.string ben) ∧ W.cell? ⟨w.heap.size + 1, 4, none⟩ = some (.string bval) ∧ W.cell? ⟨w.heap.size + 1, 5, none⟩ = some (.int .i64 bex) ∧ W.cell? ⟨w.heap.size + 1, 6, none⟩ = some (.int .i64 bx) ∧ W.cell? ⟨w.heap.size + 1, 7, none⟩ = some (.int .i64 b_y) ∧ W.cell? ⟨w.heap.size + 1, 8, none⟩ = some (.int .i64 bz) ∧ W.cell? ⟨w.heap.size + 1, 9, none⟩ = some ob ∧ Hid (KR w oa ob ao bo W)) (hx : Hid (AX w W D)) => (BC6.out W hW).mono (R' := fun e w' => e = .returned (.int .i64 z6) ∧ (w'.cell? ⟨w.heap.size, 0, none⟩ = some (.int .i64 at_) ∧ w'.cell? ⟨w.heap.size, 1, none⟩ = some (.int .i64 ak) ∧ w'.cell? ⟨w.heap.size, 2, none⟩ = some (.string akey) ∧ w'.cell? ⟨w.heap.size, 3, none⟩ = some (.string aen) ∧ w'.cell? ⟨w.heap.size, 4, none⟩ = some (.string aval) ∧ w'.cell? ⟨w.heap.size, 5, none⟩ = some (.int .i64 aex) ∧ w'.cell? ⟨w.heap.size, 6, none⟩ = some (.int .i64 ax) ∧ w'.cell? ⟨w.heap.size, 7, none⟩ = some (.int .i64 ay) ∧ w'.cell? ⟨w.heap.size, 8, none⟩ = some (.int .i64 az) ∧ w'.cell? ⟨w.heap.size, 9, none⟩ = some oa ∧ w'.cell? ⟨w.heap.size + 1, 0, none⟩ = some (.int .i64 bt) ∧ w'.cell? ⟨w.heap.size + 1, 1, none⟩ = some (.int .i64 bk) ∧ w'.cell? ⟨w.heap.size + 1, 2, none⟩ = some (.string bkey) ∧ w'.cell? ⟨w.heap.size + 1, 3, none⟩ = some (.string ben) ∧ w'.cell? ⟨w.heap.size + 1, 4, none⟩ = some (.string bval) ∧ w'.cell? ⟨w.heap.size + 1, 5, none⟩ = some (.int .i64 bex) ∧ w'.cell? ⟨w.heap.size + 1, 6, none⟩ = some (.int .i64 bx) ∧ w'.cell? ⟨w.heap.size + 1, 7, none⟩ = some (.int .i64 b_y) ∧ w'.cell? ⟨w.heap.size + 1, 8, none⟩ = some (.int .i64 bz) ∧ w'.cell? ⟨w.heap.size + 1, 9, none⟩ = some ob ∧ Hid (KR w oa ob ao bo w')) ∧ Hid (AX w w' D)) (fun e w' ⟨a, b⟩ => have h4 := hx.out.next b; ⟨a, MR_next hW b, Hid.mk' h4⟩))
  have EC6 := Hid.mk' (fun (W : World) (zz : Array Value) (hz : zz = #[.int .i64 0, .int .i64 0, .int .i64 0, .int .i64 0, .int .i64 0, .int .i64 0, .int .i64 0, .int .i64 0]) (hW : (W.alloc (.cells zz 93)).cell? ⟨w.heap.size, 0, none⟩ = some (.int .i64 at_) ∧ (W.alloc (.cells zz 93)).cell? ⟨w.heap.size, 1, none⟩ = some (.int .i64 ak) ∧ (W.alloc (.cells zz 93)).cell? ⟨w.heap.size, 2, none⟩ = some (.string akey) ∧ (W.alloc (.cells zz 93)).cell? ⟨w.heap.size, 3, none⟩ = some (.string aen) ∧ (W.alloc (.cells zz 93)).cell? ⟨w.heap.size, 4, none⟩ = some (.string aval) ∧ (W.alloc (.cells zz 93)).cell? ⟨w.heap.size, 5, none⟩ = some (.int .i64 aex) ∧ (W.alloc (.cells zz 93)).cell? ⟨w.heap.size, 6, none⟩ = some (.int .i64 ax) ∧ (W.alloc (.cells zz 93)).cell? ⟨w.heap.size, 7, none⟩ = some (.int .i64 ay) ∧ (W.alloc (.cells zz 93)).cell? ⟨w.heap.size, 8, none⟩ = some (.int .i64 az) ∧ (W.alloc (.cells zz 93)).cell? ⟨w.heap.size, 9, none⟩ = some oa ∧ (W.alloc (.cells zz 93)).cell? ⟨w.heap.size + 1, 0, none⟩ = some (.int .i64 bt) ∧ (W.alloc (.cells zz 93)).cell? ⟨w.heap.size + 1, 1, none⟩ = some (.int .i64 bk) ∧ (W.alloc (.cells zz 93)).cell? ⟨w.heap.size + 1, 2, none⟩ = some (.string bkey) ∧ (W.alloc (.cells zz 93)).cell? ⟨w.heap.size + 1, 3, none⟩ = some (.string ben) ∧ (W.alloc (.cells zz 93)).cell? ⟨w.heap.size + 1, 4, none⟩ = some (.string bval) ∧ (W.alloc (.cells zz 93)).cell? ⟨w.heap.size + 1, 5, none⟩ = some (.int .i64 bex) ∧ (W.alloc (.cells zz 93)).cell? ⟨w.heap.size + 1, 6, none⟩ = some (.int .i64 bx) ∧ (W.alloc (.cells zz 93)).cell? ⟨w.heap.size + 1, 7, none⟩ = some (.int .i64 b_y) ∧ (W.alloc (.cells zz 93)).cell? ⟨w.heap.size + 1, 8, none⟩ = some (.int .i64 bz) ∧ (W.alloc (.cells zz 93)).cell? ⟨w.heap.size + 1, 9, none⟩ = some ob ∧ Hid (KR w oa ob ao bo (W.alloc (.cells zz 93)))) => (BC6.out _ hW).mono (R' := fun e w' => e = .returned (.int .i64 z6) ∧ (w'.cell? ⟨w.heap.size, 0, none⟩ = some (.int .i64 at_) ∧ w'.cell? ⟨w.heap.size, 1, none⟩ = some (.int .i64 ak) ∧ w'.cell? ⟨w.heap.size, 2, none⟩ = some (.string akey) ∧ w'.cell? ⟨w.heap.size, 3, none⟩ = some (.string aen) ∧ w'.cell? ⟨w.heap.size, 4, none⟩ = some (.string aval) ∧ w'.cell? ⟨w.heap.size, 5, none⟩ = some (.int .i64 aex) ∧ w'.cell? ⟨w.heap.size, 6, none⟩ = some (.int .i64 ax) ∧ w'.cell? ⟨w.heap.size, 7, none⟩ = some (.int .i64 ay) ∧ w'.cell? ⟨w.heap.size, 8, none⟩ = some (.int .i64 az) ∧ w'.cell? ⟨w.heap.size, 9, none⟩ = some oa ∧ w'.cell? ⟨w.heap.size + 1, 0, none⟩ = some (.int .i64 bt) ∧ w'.cell? ⟨w.heap.size + 1, 1, none⟩ = some (.int .i64 bk) ∧ w'.cell? ⟨w.heap.size + 1, 2, none⟩ = some (.string bkey) ∧ w'.cell? ⟨w.heap.size + 1, 3, none⟩ = some (.string ben) ∧ w'.cell? ⟨w.heap.size + 1, 4, none⟩ = some (.string bval) ∧ w'.cell? ⟨w.heap.size + 1, 5, none⟩ = some (.int .i64 bex) ∧ w'.cell? ⟨w.heap.size + 1, 6, none⟩ = some (.int .i64 bx) ∧ w'.cell? ⟨w.heap.size + 1, 7, none⟩ = some (.int .i64 b_y) ∧ w'.cell? ⟨w.heap.size + 1, 8, none⟩ = some (.int .i64 bz) ∧ w'.cell? ⟨w.heap.size + 1, 9, none⟩ = some ob ∧ Hid (KR w oa ob ao bo w')) ∧ Hid (AX w w' W.heap.size)) (fun e w' ⟨a, b⟩ => have h4 := (show AX w (W.alloc (.cells zz 93)) W.heap.size from ⟨by rw [hz]; exact Bx.fresh _ _ _, MR_size (by rw [← hz]; exact hW)⟩).next b; ⟨a, MR_next hW b, Hid.mk' h4⟩))
  have C7 := Hid.mk' (fun (W : World) (hW : W.cell? ⟨w.heap.size, 0, none⟩ = some (.int .i64 at_) ∧ W.cell? ⟨w.heap.size, 1, none⟩ = some (.int .i64 ak) ∧ W.cell? ⟨w.heap.size, 2, none⟩ = some (.string akey) ∧ W.cell? ⟨w.heap.size, 3, none⟩ = some (.string aen) ∧ W.cell? ⟨w.heap.size, 4, none⟩ = some (.string aval) ∧ W.cell? ⟨w.heap.size, 5, none⟩ = some (.int .i64 aex) ∧ W.cell? ⟨w.heap.size, 6, none⟩ = some (.int .i64 ax) ∧ W.cell? ⟨w.heap.size, 7, none⟩ = some (.int .i64 ay) ∧ W.cell? ⟨w.heap.size, 8, none⟩ = some (.int .i64 az) ∧ W.cell? ⟨w.heap.size, 9, none⟩ = some oa ∧ W.cell? ⟨w.heap.size + 1, 0, none⟩ = some (.int .i64 bt) ∧ W.cell? ⟨w.heap.size + 1, 1, none⟩ = some (.int .i64 bk) ∧ W.cell? ⟨w.heap.size + 1, 2, none⟩ = some (.string bkey) ∧ W.cell? ⟨w.heap.size + 1, 3, none⟩ = some (.string ben) ∧ W.cell? ⟨w.heap.size + 1, 4, none⟩ = some (.string bval) ∧ W.cell? ⟨w.heap.size + 1, 5, none⟩ = some (.int .i64 bex) ∧ W.cell? ⟨w.heap.size + 1, 6, none⟩ = some (.int .i64 bx) ∧ W.cell? ⟨w.heap.size + 1, 7, none⟩ = some (.int .i64 b_y) ∧ W.cell? ⟨w.heap.size + 1, 8, none⟩ = some (.int .i64 bz) ∧ W.cell? ⟨w.heap.size + 1, 9, none⟩ = some ob ∧ Hid (KR w oa ob ao bo W)) => (BC7.out W hW).mono (R' := fun e w' => e = .returned (.int .i64 z7) ∧ w'.cell? ⟨w.heap.size, 0, none⟩ = some (.int .i64 at_) ∧ w'.cell? ⟨w.heap.size, 1, none⟩ = some (.int .i64 ak) ∧ w'.cell? ⟨w.heap.size, 2, none⟩ = some (.string akey) ∧ w'.cell? ⟨w.heap.size, 3, none⟩ = some (.string aen) ∧ w'.cell? ⟨w.heap.size, 4, none⟩ = some (.string aval) ∧ w'.cell? ⟨w.heap.size, 5, none⟩ = some (.int .i64 aex) ∧ w'.cell? ⟨w.heap.size, 6, none⟩ = some (.int .i64 ax) ∧ w'.cell? ⟨w.heap.size, 7, none⟩ = some (.int .i64 ay) ∧ w'.cell? ⟨w.heap.size, 8, none⟩ = some (.int .i64 az) ∧ w'.cell? ⟨w.heap.size, 9, none⟩ = some oa ∧ w'.cell? ⟨w.heap.size + 1, 0, none⟩ = some (.int .i64 bt) ∧ w'.cell? ⟨w.heap.size + 1, 1, none⟩ = some (.int .i64 bk) ∧ w'.cell? ⟨w.heap.size + 1, 2, none⟩ = some (.string bkey) ∧ w'.cell? ⟨w.heap.size + 1, 3, none⟩ = some (.string ben) ∧ w'.cell? ⟨w.heap.size + 1, 4, none⟩ = some (.string bval) ∧ w'.cell? ⟨w.heap.size + 1, 5, none⟩ = some (.int .i64 bex) ∧ w'.cell? ⟨w.heap.size + 1, 6, none⟩ = some (.int .i64 bx) ∧ w'.cell? ⟨w.heap.size + 1, 7, none⟩ = some (.int .i64 b_y) ∧ w'.cell? ⟨w.heap.size + 1, 8, none⟩ = some (.int .i64 bz) ∧ w'.cell? ⟨w.heap.size + 1, 9, none⟩ = some ob ∧ Hid (KR w oa ob ao bo w')) (fun e w' ⟨a, b⟩ => ⟨a, MR_next hW b⟩))
  have DC7 := Hid.mk' (fun (W : World) (D : Nat) (hW : W.cell? ⟨w.heap.size, 0, none⟩ = some (.int .i64 at_) ∧ W.cell? ⟨w.heap.size, 1, none⟩ = some (.int .i64 ak) ∧ W.cell? ⟨w.heap.size, 2, none⟩ = some (.string akey) ∧ W.cell? ⟨w.heap.size, 3, none⟩ = some (.string aen) ∧ W.cell? ⟨w.heap.size, 4, none⟩ = some (.string aval) ∧ W.cell? ⟨w.heap.size, 5, none⟩ = some (.int .i64 aex) ∧ W.cell? ⟨w.heap.size, 6, none⟩ = some (.int .i64 ax) ∧ W.cell? ⟨w.heap.size, 7, none⟩ = some (.int .i64 ay) ∧ W.cell? ⟨w.heap.size, 8, none⟩ = some (.int .i64 az) ∧ W.cell? ⟨w.heap.size, 9, none⟩ = some oa ∧ W.cell? ⟨w.heap.size + 1, 0, none⟩ = some (.int .i64 bt) ∧ W.cell? ⟨w.heap.size + 1, 1, none⟩ = some (.int .i64 bk) ∧ W.cell? ⟨w.heap.size + 1, 2, none⟩ = some (.string bkey) ∧ W.cell? ⟨w.heap.size + 1, 3, none⟩ = some (.string ben) ∧ W.cell? ⟨w.heap.size + 1, 4, none⟩ = some (.string bval) ∧ W.cell? ⟨w.heap.size + 1, 5, none⟩ = some (.int .i64 bex) ∧ W.cell? ⟨w.heap.size + 1, 6, none⟩ = some (.int .i64 bx) ∧ W.cell? ⟨w.heap.size + 1, 7, none⟩ = some (.int .i64 b_y) ∧ W.cell? ⟨w.heap.size + 1, 8, none⟩ = some (.int .i64 bz) ∧ W.cell? ⟨w.heap.size + 1, 9, none⟩ = some ob ∧ Hid (KR w oa ob ao bo W)) (hx : Hid (AX w W D)) => (BC7.out W hW).mono (R' := fun e w' => e = .returned (.int .i64 z7) ∧ (w'.cell? ⟨w.heap.size, 0, none⟩ = some (.int .i64 at_) ∧ w'.cell? ⟨w.heap.size, 1, none⟩ = some (.int .i64 ak) ∧ w'.cell? ⟨w.heap.size, 2, none⟩ = some (.string akey) ∧ w'.cell? ⟨w.heap.size, 3, none⟩ = some (.string aen) ∧ w'.cell? ⟨w.heap.size, 4, none⟩ = some (.string aval) ∧ w'.cell? ⟨w.heap.size, 5, none⟩ = some (.int .i64 aex) ∧ w'.cell? ⟨w.heap.size, 6, none⟩ = some (.int .i64 ax) ∧ w'.cell? ⟨w.heap.size, 7, none⟩ = some (.int .i64 ay) ∧ w'.cell? ⟨w.heap.size, 8, none⟩ = some (.int .i64 az) ∧ w'.cell? ⟨w.heap.size, 9, none⟩ = some oa ∧ w'.cell? ⟨w.heap.size + 1, 0, none⟩ = some (.int .i64 bt) ∧ w'.cell? ⟨w.heap.size + 1, 1, none⟩ = some (.int .i64 bk) ∧ w'.cell? ⟨w.heap.size + 1, 2, none⟩ = some (.string bkey) ∧ w'.cell? ⟨w.heap.size + 1, 3, none⟩ = some (.string ben) ∧ w'.cell? ⟨w.heap.size + 1, 4, none⟩ = some (.string bval) ∧ w'.cell? ⟨w.heap.size + 1, 5, none⟩ = some (.int .i64 bex) ∧ w'.cell? ⟨w.heap.size + 1, 6, none⟩ = some (.int .i64 bx) ∧ w'.cell? ⟨w.heap.size + 1, 7, none⟩ = some (.int .i64 b_y) ∧ w'.cell? ⟨w.heap.size + 1, 8, none⟩ = some (.int .i64 bz) ∧ w'.cell? ⟨w.heap.size + 1, 9, none⟩ = some ob ∧ Hid (KR w oa ob ao bo w')) ∧ Hid (AX w w' D)) (fun e w' ⟨a, b⟩ => have h4 := hx.out.next b; ⟨a, MR_next hW b, Hid.mk' h4⟩))
  have EC7 := Hid.mk' (fun (W : World) (zz : Array Value) (hz : zz = #[.int .i64 0, .int .i64 0, .int .i64 0, .int .i64 0, .int .i64 0, .int .i64 0, .int .i64 0, .int .i64 0]) (hW : (W.alloc (.cells zz 93)).cell? ⟨w.heap.size, 0, none⟩ = some (.int .i64 at_) ∧ (W.alloc (.cells zz 93)).cell? ⟨w.heap.size, 1, none⟩ = some (.int .i64 ak) ∧ (W.alloc (.cells zz 93)).cell? ⟨w.heap.size, 2, none⟩ = some (.string akey) ∧ (W.alloc (.cells zz 93)).cell? ⟨w.heap.size, 3, none⟩ = some (.string aen) ∧ (W.alloc (.cells zz 93)).cell? ⟨w.heap.size, 4, none⟩ = some (.string aval) ∧ (W.alloc (.cells zz 93)).cell? ⟨w.heap.size, 5, none⟩ = some (.int .i64 aex) ∧ (W.alloc (.cells zz 93)).cell? ⟨w.heap.size, 6, none⟩ = some (.int .i64 ax) ∧ (W.alloc (.cells zz 93)).cell? ⟨w.heap.size, 7, none⟩ = some (.int .i64 ay) ∧ (W.alloc (.cells zz 93)).cell? ⟨w.heap.size, 8, none⟩ = some (.int .i64 az) ∧ (W.alloc (.cells zz 93)).cell? ⟨w.heap.size, 9, none⟩ = some oa ∧ (W.alloc (.cells zz 93)).cell? ⟨w.heap.size + 1, 0, none⟩ = some (.int .i64 bt) ∧ (W.alloc (.cells zz 93)).cell? ⟨w.heap.size + 1, 1, none⟩ = some (.int .i64 bk) ∧ (W.alloc (.cells zz 93)).cell? ⟨w.heap.size + 1, 2, none⟩ = some (.string bkey) ∧ (W.alloc (.cells zz 93)).cell? ⟨w.heap.size + 1, 3, none⟩ = some (.string ben) ∧ (W.alloc (.cells zz 93)).cell? ⟨w.heap.size + 1, 4, none⟩ = some (.string bval) ∧ (W.alloc (.cells zz 93)).cell? ⟨w.heap.size + 1, 5, none⟩ = some (.int .i64 bex) ∧ (W.alloc (.cells zz 93)).cell? ⟨w.heap.size + 1, 6, none⟩ = some (.int .i64 bx) ∧ (W.alloc (.cells zz 93)).cell? ⟨w.heap.size + 1, 7, none⟩ = some (.int .i64 b_y) ∧ (W.alloc (.cells zz 93)).cell? ⟨w.heap.size + 1, 8, none⟩ = some (.int .i64 bz) ∧ (W.alloc (.cells zz 93)).cell? ⟨w.heap.size + 1, 9, none⟩ = some ob ∧ Hid (KR w oa ob ao bo (W.alloc (.cells zz 93)))) => (BC7.out _ hW).mono (R' := fun e w' => e = .returned (.int .i64 z7) ∧ (w'.cell? ⟨w.heap.size, 0, none⟩ = some (.int .i64 at_) ∧ w'.cell? ⟨w.heap.size, 1, none⟩ = some (.int .i64 ak) ∧ w'.cell? ⟨w.heap.size, 2, none⟩ = some (.string akey) ∧ w'.cell? ⟨w.heap.size, 3, none⟩ = some (.string aen) ∧ w'.cell? ⟨w.heap.size, 4, none⟩ = some (.string aval) ∧ w'.cell? ⟨w.heap.size, 5, none⟩ = some (.int .i64 aex) ∧ w'.cell? ⟨w.heap.size, 6, none⟩ = some (.int .i64 ax) ∧ w'.cell? ⟨w.heap.size, 7, none⟩ = some (.int .i64 ay) ∧ w'.cell? ⟨w.heap.size, 8, none⟩ = some (.int .i64 az) ∧ w'.cell? ⟨w.heap.size, 9, none⟩ = some oa ∧ w'.cell? ⟨w.heap.size + 1, 0, none⟩ = some (.int .i64 bt) ∧ w'.cell? ⟨w.heap.size + 1, 1, none⟩ = some (.int .i64 bk) ∧ w'.cell? ⟨w.heap.size + 1, 2, none⟩ = some (.string bkey) ∧ w'.cell? ⟨w.heap.size + 1, 3, none⟩ = some (.string ben) ∧ w'.cell? ⟨w.heap.size + 1, 4, none⟩ = some (.string bval) ∧ w'.cell? ⟨w.heap.size + 1, 5, none⟩ = some (.int .i64 bex) ∧ w'.cell? ⟨w.heap.size + 1, 6, none⟩ = some (.int .i64 bx) ∧ w'.cell? ⟨w.heap.size + 1, 7, none⟩ = some (.int .i64 b_y) ∧ w'.cell? ⟨w.heap.size + 1, 8, none⟩ = some (.int .i64 bz) ∧ w'.cell? ⟨w.heap.size + 1, 9, none⟩ = some ob ∧ Hid (KR w oa ob ao bo w')) ∧ Hid (AX w w' W.heap.size)) (fun e w' ⟨a, b⟩ => have h4 := (show AX w (W.alloc (.cells zz 93)) W.heap.size from ⟨by rw [hz]; exact Bx.fresh _ _ _, MR_size (by rw [← hz]; exact hW)⟩).next b; ⟨a, MR_next hW b, Hid.mk' h4⟩))
  have C8 := Hid.mk' (fun (W : World) (hW : W.cell? ⟨w.heap.size, 0, none⟩ = some (.int .i64 at_) ∧ W.cell? ⟨w.heap.size, 1, none⟩ = some (.int .i64 ak) ∧ W.cell? ⟨w.heap.size, 2, none⟩ = some (.string akey) ∧ W.cell? ⟨w.heap.size, 3, none⟩ = some (.string aen) ∧ W.cell? ⟨w.heap.size, 4, none⟩ = some (.string aval) ∧ W.cell? ⟨w.heap.size, 5, none⟩ = some (.int .i64 aex) ∧ W.cell? ⟨w.heap.size, 6, none⟩ = some (.int .i64 ax) ∧ W.cell? ⟨w.heap.size, 7, none⟩ = some (.int .i64 ay) ∧ W.cell? ⟨w.heap.size, 8, none⟩ = some (.int .i64 az) ∧ W.cell? ⟨w.heap.size, 9, none⟩ = some oa ∧ W.cell? ⟨w.heap.size + 1, 0, none⟩ = some (.int .i64 bt) ∧ W.cell? ⟨w.heap.size + 1, 1, none⟩ = some (.int .i64 bk) ∧ W.cell? ⟨w.heap.size + 1, 2, none⟩ = some (.string bkey) ∧ W.cell? ⟨w.heap.size + 1, 3, none⟩ = some (.string ben) ∧ W.cell? ⟨w.heap.size + 1, 4, none⟩ = some (.string bval) ∧ W.cell? ⟨w.heap.size + 1, 5, none⟩ = some (.int .i64 bex) ∧ W.cell? ⟨w.heap.size + 1, 6, none⟩ = some (.int .i64 bx) ∧ W.cell? ⟨w.heap.size + 1, 7, none⟩ = some (.int .i64 b_y) ∧ W.cell? ⟨w.heap.size + 1, 8, none⟩ = some (.int .i64 bz) ∧ W.cell? ⟨w.heap.size + 1, 9, none⟩ = some ob ∧ Hid (KR w oa ob ao bo W)) => (BC8.out W hW).mono (R' := fun e w' => e = .returned (.int .i64 z8) ∧ w'.cell? ⟨w.heap.size, 0, none⟩ = some (.int .i64 at_) ∧ w'.cell? ⟨w.heap.size, 1, none⟩ = some (.int .i64 ak) ∧ w'.cell? ⟨w.heap.size, 2, none⟩ = some (.string akey) ∧ w'.cell? ⟨w.heap.size, 3, none⟩ = some (.string aen) ∧ w'.cell? ⟨w.heap.size, 4, none⟩ = some (.string aval) ∧ w'.cell? ⟨w.heap.size, 5, none⟩ = some (.int .i64 aex) ∧ w'.cell? ⟨w.heap.size, 6, none⟩ = some (.int .i64 ax) ∧ w'.cell? ⟨w.heap.size, 7, none⟩ = some (.int .i64 ay) ∧ w'.cell? ⟨w.heap.size, 8, none⟩ = some (.int .i64 az) ∧ w'.cell? ⟨w.heap.size, 9, none⟩ = some oa ∧ w'.cell? ⟨w.heap.size + 1, 0, none⟩ = some (.int .i64 bt) ∧ w'.cell? ⟨w.heap.size + 1, 1, none⟩ = some (.int .i64 bk) ∧ w'.cell? ⟨w.heap.size + 1, 2, none⟩ = some (.string bkey) ∧ w'.cell? ⟨w.heap.size + 1, 3, none⟩ = some (.string ben) ∧ w'.cell? ⟨w.heap.size + 1, 4, none⟩ = some (.string bval) ∧ w'.cell? ⟨w.heap.size + 1, 5, none⟩ = some (.int .i64 bex) ∧ w'.cell? ⟨w.heap.size + 1, 6, none⟩ = some (.int .i64 bx) ∧ w'.cell? ⟨w.heap.size + 1, 7, none⟩ = some (.int .i64 b_y) ∧ w'.cell? ⟨w.heap.size + 1, 8, none⟩ = some (.int .i64 bz) ∧ w'.cell? ⟨w.heap.size + 1, 9, none⟩ = some ob ∧ Hid (KR w oa ob ao bo w')) (fun e w' ⟨a, b⟩ => ⟨a, MR_next hW b⟩))
  have DC8 := Hid.mk' (fun (W : World) (D : Nat) (hW : W.cell? ⟨w.heap.size, 0, none⟩ = some (.int .i64 at_) ∧ W.cell? ⟨w.heap.size, 1, none⟩ = some (.int .i64 ak) ∧ W.cell? ⟨w.heap.size, 2, none⟩ = some (.string akey) ∧ W.cell? ⟨w.heap.size, 3, none⟩ = some (.string aen) ∧ W.cell? ⟨w.heap.size, 4, none⟩ = some (.string aval) ∧ W.cell? ⟨w.heap.size, 5, none⟩ = some (.int .i64 aex) ∧ W.cell? ⟨w.heap.size, 6, none⟩ = some (.int .i64 ax) ∧ W.cell? ⟨w.heap.size, 7, none⟩ = some (.int .i64 ay) ∧ W.cell? ⟨w.heap.size, 8, none⟩ = some (.int .i64 az) ∧ W.cell? ⟨w.heap.size, 9, none⟩ = some oa ∧ W.cell? ⟨w.heap.size + 1, 0, none⟩ = some (.int .i64 bt) ∧ W.cell? ⟨w.heap.size + 1, 1, none⟩ = some (.int .i64 bk) ∧ W.cell? ⟨w.heap.size + 1, 2, none⟩ = some (.string bkey) ∧ W.cell? ⟨w.heap.size + 1, 3, none⟩ = some (.string ben) ∧ W.cell? ⟨w.heap.size + 1, 4, none⟩ = some (.string bval) ∧ W.cell? ⟨w.heap.size + 1, 5, none⟩ = some (.int .i64 bex) ∧ W.cell? ⟨w.heap.size + 1, 6, none⟩ = some (.int .i64 bx) ∧ W.cell? ⟨w.heap.size + 1, 7, none⟩ = some (.int .i64 b_y) ∧ W.cell? ⟨w.heap.size + 1, 8, none⟩ = some (.int .i64 bz) ∧ W.cell? ⟨w.heap.size + 1, 9, none⟩ = some ob ∧ Hid (KR w oa ob ao bo W)) (hx : Hid (AX w W D)) => (BC8.out W hW).mono (R' := fun e w' => e = .returned (.int .i64 z8) ∧ (w'.cell? ⟨w.heap.size, 0, none⟩ = some (.int .i64 at_) ∧ w'.cell? ⟨w.heap.size, 1, none⟩ = some (.int .i64 ak) ∧ w'.cell? ⟨w.heap.size, 2, none⟩ = some (.string akey) ∧ w'.cell? ⟨w.heap.size, 3, none⟩ = some (.string aen) ∧ w'.cell? ⟨w.heap.size, 4, none⟩ = some (.string aval) ∧ w'.cell? ⟨w.heap.size, 5, none⟩ = some (.int .i64 aex) ∧ w'.cell? ⟨w.heap.size, 6, none⟩ = some (.int .i64 ax) ∧ w'.cell? ⟨w.heap.size, 7, none⟩ = some (.int .i64 ay) ∧ w'.cell? ⟨w.heap.size, 8, none⟩ = some (.int .i64 az) ∧ w'.cell? ⟨w.heap.size, 9, none⟩ = some oa ∧ w'.cell? ⟨w.heap.size + 1, 0, none⟩ = some (.int .i64 bt) ∧ w'.cell? ⟨w.heap.size + 1, 1, none⟩ = some (.int .i64 bk) ∧ w'.cell? ⟨w.heap.size + 1, 2, none⟩ = some (.string bkey) ∧ w'.cell? ⟨w.heap.size + 1, 3, none⟩ = some (.string ben) ∧ w'.cell? ⟨w.heap.size + 1, 4, none⟩ = some (.string bval) ∧ w'.cell? ⟨w.heap.size + 1, 5, none⟩ = some (.int .i64 bex) ∧ w'.cell? ⟨w.heap.size + 1, 6, none⟩ = some (.int .i64 bx) ∧ w'.cell? ⟨w.heap.size + 1, 7, none⟩ = some (.int .i64 b_y) ∧ w'.cell? ⟨w.heap.size + 1, 8, none⟩ = some (.int .i64 bz) ∧ w'.cell? ⟨w.heap.size + 1, 9, none⟩ = some ob ∧ Hid (KR w oa ob ao bo w')) ∧ Hid (AX w w' D) ∧ AXc w' D) (fun e w' ⟨a, b⟩ => have h4 := hx.out.next b; ⟨a, MR_next hW b, Hid.mk' h4, h4.cells⟩))
  have EC8 := Hid.mk' (fun (W : World) (zz : Array Value) (hz : zz = #[.int .i64 0, .int .i64 0, .int .i64 0, .int .i64 0, .int .i64 0, .int .i64 0, .int .i64 0, .int .i64 0]) (hW : (W.alloc (.cells zz 93)).cell? ⟨w.heap.size, 0, none⟩ = some (.int .i64 at_) ∧ (W.alloc (.cells zz 93)).cell? ⟨w.heap.size, 1, none⟩ = some (.int .i64 ak) ∧ (W.alloc (.cells zz 93)).cell? ⟨w.heap.size, 2, none⟩ = some (.string akey) ∧ (W.alloc (.cells zz 93)).cell? ⟨w.heap.size, 3, none⟩ = some (.string aen) ∧ (W.alloc (.cells zz 93)).cell? ⟨w.heap.size, 4, none⟩ = some (.string aval) ∧ (W.alloc (.cells zz 93)).cell? ⟨w.heap.size, 5, none⟩ = some (.int .i64 aex) ∧ (W.alloc (.cells zz 93)).cell? ⟨w.heap.size, 6, none⟩ = some (.int .i64 ax) ∧ (W.alloc (.cells zz 93)).cell? ⟨w.heap.size, 7, none⟩ = some (.int .i64 ay) ∧ (W.alloc (.cells zz 93)).cell? ⟨w.heap.size, 8, none⟩ = some (.int .i64 az) ∧ (W.alloc (.cells zz 93)).cell? ⟨w.heap.size, 9, none⟩ = some oa ∧ (W.alloc (.cells zz 93)).cell? ⟨w.heap.size + 1, 0, none⟩ = some (.int .i64 bt) ∧ (W.alloc (.cells zz 93)).cell? ⟨w.heap.size + 1, 1, none⟩ = some (.int .i64 bk) ∧ (W.alloc (.cells zz 93)).cell? ⟨w.heap.size + 1, 2, none⟩ = some (.string bkey) ∧ (W.alloc (.cells zz 93)).cell? ⟨w.heap.size + 1, 3, none⟩ = some (.string ben) ∧ (W.alloc (.cells zz 93)).cell? ⟨w.heap.size + 1, 4, none⟩ = some (.string bval) ∧ (W.alloc (.cells zz 93)).cell? ⟨w.heap.size + 1, 5, none⟩ = some (.int .i64 bex) ∧ (W.alloc (.cells zz 93)).cell? ⟨w.heap.size + 1, 6, none⟩ = some (.int .i64 bx) ∧ (W.alloc (.cells zz 93)).cell? ⟨w.heap.size + 1, 7, none⟩ = some (.int .i64 b_y) ∧ (W.alloc (.cells zz 93)).cell? ⟨w.heap.size + 1, 8, none⟩ = some (.int .i64 bz) ∧ (W.alloc (.cells zz 93)).cell? ⟨w.heap.size + 1, 9, none⟩ = some ob ∧ Hid (KR w oa ob ao bo (W.alloc (.cells zz 93)))) => (BC8.out _ hW).mono (R' := fun e w' => e = .returned (.int .i64 z8) ∧ (w'.cell? ⟨w.heap.size, 0, none⟩ = some (.int .i64 at_) ∧ w'.cell? ⟨w.heap.size, 1, none⟩ = some (.int .i64 ak) ∧ w'.cell? ⟨w.heap.size, 2, none⟩ = some (.string akey) ∧ w'.cell? ⟨w.heap.size, 3, none⟩ = some (.string aen) ∧ w'.cell? ⟨w.heap.size, 4, none⟩ = some (.string aval) ∧ w'.cell? ⟨w.heap.size, 5, none⟩ = some (.int .i64 aex) ∧ w'.cell? ⟨w.heap.size, 6, none⟩ = some (.int .i64 ax) ∧ w'.cell? ⟨w.heap.size, 7, none⟩ = some (.int .i64 ay) ∧ w'.cell? ⟨w.heap.size, 8, none⟩ = some (.int .i64 az) ∧ w'.cell? ⟨w.heap.size, 9, none⟩ = some oa ∧ w'.cell? ⟨w.heap.size + 1, 0, none⟩ = some (.int .i64 bt) ∧ w'.cell? ⟨w.heap.size + 1, 1, none⟩ = some (.int .i64 bk) ∧ w'.cell? ⟨w.heap.size + 1, 2, none⟩ = some (.string bkey) ∧ w'.cell? ⟨w.heap.size + 1, 3, none⟩ = some (.string ben) ∧ w'.cell? ⟨w.heap.size + 1, 4, none⟩ = some (.string bval) ∧ w'.cell? ⟨w.heap.size + 1, 5, none⟩ = some (.int .i64 bex) ∧ w'.cell? ⟨w.heap.size + 1, 6, none⟩ = some (.int .i64 bx) ∧ w'.cell? ⟨w.heap.size + 1, 7, none⟩ = some (.int .i64 b_y) ∧ w'.cell? ⟨w.heap.size + 1, 8, none⟩ = some (.int .i64 bz) ∧ w'.cell? ⟨w.heap.size + 1, 9, none⟩ = some ob ∧ Hid (KR w oa ob ao bo w')) ∧ Hid (AX w w' W.heap.size) ∧ AXc w' W.heap.size) (fun e w' ⟨a, b⟩ => have h4 := (show AX w (W.alloc (.cells zz 93)) W.heap.size from ⟨by rw [hz]; exact Bx.fresh _ _ _, MR_size (by rw [← hz]; exact hW)⟩).next b; ⟨a, MR_next hW b, Hid.mk' h4, h4.cells⟩))
  have FC1 := Hid.mk' (fun (zz : Array Value) (hz : zz = #[.int .i64 0, .int .i64 0, .int .i64 0, .int .i64 0, .int .i64 0, .int .i64 0, .int .i64 0, .int .i64 0]) (hW : ((((w.alloc (.cells #[.int .i64 at_, .int .i64 ak, .string akey, .string aen, .string aval, .int .i64 aex, .int .i64 ax, .int .i64 ay, .int .i64 az, oa] 40)).alloc (.cells #[.int .i64 bt, .int .i64 bk, .string bkey, .string ben, .string bval, .int .i64 bex, .int .i64 bx, .int .i64 b_y, .int .i64 bz, ob] 40)).alloc (.cells zz 93)).drew).cell? ⟨w.heap.size, 0, none⟩ = some (.int .i64 at_) ∧ ((((w.alloc (.cells #[.int .i64 at_, .int .i64 ak, .string akey, .string aen, .string aval, .int .i64 aex, .int .i64 ax, .int .i64 ay, .int .i64 az, oa] 40)).alloc (.cells #[.int .i64 bt, .int .i64 bk, .string bkey, .string ben, .string bval, .int .i64 bex, .int .i64 bx, .int .i64 b_y, .int .i64 bz, ob] 40)).alloc (.cells zz 93)).drew).cell? ⟨w.heap.size, 1, none⟩ = some (.int .i64 ak) ∧ ((((w.alloc (.cells #[.int .i64 at_, .int .i64 ak, .string akey, .string aen, .string aval, .int .i64 aex, .int .i64 ax, .int .i64 ay, .int .i64 az, oa] 40)).alloc (.cells #[.int .i64 bt, .int .i64 bk, .string bkey, .string ben, .string bval, .int .i64 bex, .int .i64 bx, .int .i64 b_y, .int .i64 bz, ob] 40)).alloc (.cells zz 93)).drew).cell? ⟨w.heap.size, 2, none⟩ = some (.string akey) ∧ ((((w.alloc (.cells #[.int .i64 at_, .int .i64 ak, .string akey, .string aen, .string aval, .int .i64 aex, .int .i64 ax, .int .i64 ay, .int .i64 az, oa] 40)).alloc (.cells #[.int .i64 bt, .int .i64 bk, .string bkey, .string ben, .string bval, .int .i64 bex, .int .i64 bx, .int .i64 b_y, .int .i64 bz, ob] 40)).alloc (.cells zz 93)).drew).cell? ⟨w.heap.size, 3, none⟩ = some (.string aen) ∧ ((((w.alloc (.cells #[.int .i64 at_, .int .i64 ak, .string akey, .string aen, .string aval, .int .i64 aex, .int .i64 ax, .int .i64 ay, .int .i64 az, oa] 40)).alloc (.cells #[.int .i64 bt, .int .i64 bk, .string bkey, .string ben, .string bval, .int .i64 bex, .int .i64 bx, .int .i64 b_y, .int .i64 bz, ob] 40)).alloc (.cells zz 93)).drew).cell? ⟨w.heap.size, 4, none⟩ = some (.string aval) ∧ ((((w.alloc (.cells #[.int .i64 at_, .int .i64 ak, .string akey, .string aen, .string aval, .int .i64 aex, .int .i64 ax, .int .i64 ay, .int .i64 az, oa] 40)).alloc (.cells #[.int .i64 bt, .int .i64 bk, .string bkey, .string ben, .string bval, .int .i64 bex, .int .i64 bx, .int .i64 b_y, .int .i64 bz, ob] 40)).alloc (.cells zz 93)).drew).cell? ⟨w.heap.size, 5, none⟩ = some (.int .i64 aex) ∧ ((((w.alloc (.cells #[.int .i64 at_, .int .i64 ak, .string akey, .string aen, .string aval, .int .i64 aex, .int .i64 ax, .int .i64 ay, .int .i64 az, oa] 40)).alloc (.cells #[.int .i64 bt, .int .i64 bk, .string bkey, .string ben, .string bval, .int .i64 bex, .int .i64 bx, .int .i64 b_y, .int .i64 bz, ob] 40)).alloc (.cells zz 93)).drew).cell? ⟨w.heap.size, 6, none⟩ = some (.int .i64 ax) ∧ ((((w.alloc (.cells #[.int .i64 at_, .int .i64 ak, .string akey, .string aen, .string aval, .int .i64 aex, .int .i64 ax, .int .i64 ay, .int .i64 az, oa] 40)).alloc (.cells #[.int .i64 bt, .int .i64 bk, .string bkey, .string ben, .string bval, .int .i64 bex, .int .i64 bx, .int .i64 b_y, .int .i64 bz, ob] 40)).alloc (.cells zz 93)).drew).cell? ⟨w.heap.size, 7, none⟩ = some (.int .i64 ay) ∧ ((((w.alloc (.cells #[.int .i64 at_, .int .i64 ak, .string akey, .string aen, .string aval, .int .i64 aex, .int .i64 ax, .int .i64 ay, .int .i64 az, oa] 40)).alloc (.cells #[.int .i64 bt, .int .i64 bk, .string bkey, .string ben, .string bval, .int .i64 bex, .int .i64 bx, .int .i64 b_y, .int .i64 bz, ob] 40)).alloc (.cells zz 93)).drew).cell? ⟨w.heap.size, 8, none⟩ = some (.int .i64 az) ∧ ((((w.alloc (.cells #[.int .i64 at_, .int .i64 ak, .string akey, .string aen, .string aval, .int .i64 aex, .int .i64 ax, .int .i64 ay, .int .i64 az, oa] 40)).alloc (.cells #[.int .i64 bt, .int .i64 bk, .string bkey, .string ben, .string bval, .int .i64 bex, .int .i64 bx, .int .i64 b_y, .int .i64 bz, ob] 40)).alloc (.cells zz 93)).drew).cell? ⟨w.heap.size, 9, none⟩ = some oa ∧ ((((w.alloc (.cells #[.int .i64 at_, .int .i64 ak, .string akey, .string aen, .string aval, .int .i64 aex, .int .i64 ax, .int .i64 ay, .int .i64 az, oa] 40)).alloc (.cells #[.int .i64 bt, .int .i64 bk, .string bkey, .string ben, .string bval, .int .i64 bex, .int .i64 bx, .int .i64 b_y, .int .i64 bz, ob] 40)).alloc (.cells zz 93)).drew).cell? ⟨w.heap.size + 1, 0, none⟩ = some (.int .i64 bt) ∧ ((((w.alloc (.cells #[.int .i64 at_, .int .i64 ak, .string akey, .string aen, .string aval, .int .i64 aex, .int .i64 ax, .int .i64 ay, .int .i64 az, oa] 40)).alloc (.cells #[.int .i64 bt, .int .i64 bk, .string bkey, .string ben, .string bval, .int .i64 bex, .int .i64 bx, .int .i64 b_y, .int .i64 bz, ob] 40)).alloc (.cells zz 93)).drew).cell? ⟨w.heap.size + 1, 1, none⟩ = some (.int .i64 bk) ∧ ((((w.alloc (.cells #[.int .i64 at_, .int .i64 ak, .string akey, .string aen, .string aval, .int .i64 aex, .int .i64 ax, .int .i64 ay, .int .i64 az, oa] 40)).alloc (.cells #[.int .i64 bt, .int .i64 bk, .string bkey, .string ben, .string bval, .int .i64 bex, .int .i64 bx, .int .i64 b_y, .int .i64 bz, ob] 40)).alloc (.cells zz 93)).drew).cell? ⟨w.heap.size + 1, 2, none⟩ = some (.string bkey) ∧ ((((w.alloc (.cells #[.int .i64 at_, .int .i64 ak, .string akey, .string aen, .string aval, .int .i64 aex, .int .i64 ax, .int .i64 ay, .int .i64 az, oa] 40)).alloc (.cells #[.int .i64 bt, .int .i64 bk, .string bkey, .string ben, .string bval, .int .i64 bex, .int .i64 bx, .int .i64 b_y, .int .i64 bz, ob] 40)).alloc (.cells zz 93)).drew).cell? ⟨w.heap.size + 1, 3, none⟩ = some (.string ben) ∧ ((((w.alloc (.cells #[.int .i64 at_, .int .i64 ak, .string akey, .string aen, .string aval, .int .i64 aex, .int .i64 ax, .int .i64 ay, .int .i64 az, oa] 40)).alloc (.cells #[.int .i64 bt, .int .i64 bk, .string bkey, .string ben, .string bval, .int .i64 bex, .int .i64 bx, .int .i64 b_y, .int .i64 bz, ob] 40)).alloc (.cells zz 93)).drew).cell? ⟨w.heap.size + 1, 4, none⟩ = some (.string bval) ∧ ((((w.alloc (.cells #[.int .i64 at_, .int .i64 ak, .string akey, .string aen, .string aval, .int .i64 aex, .int .i64 ax, .int .i64 ay, .int .i64 az, oa] 40)).alloc (.cells #[.int .i64 bt, .int .i64 bk, .string bkey, .string ben, .string bval, .int .i64 bex, .int .i64 bx, .int .i64 b_y, .int .i64 bz, ob] 40)).alloc (.cells zz 93)).drew).cell? ⟨w.heap.size + 1, 5, none⟩ = some (.int .i64 bex) ∧ ((((w.alloc (.cells #[.int .i64 at_, .int .i64 ak, .string akey, .string aen, .string aval, .int .i64 aex, .int .i64 ax, .int .i64 ay, .int .i64 az, oa] 40)).alloc (.cells #[.int .i64 bt, .int .i64 bk, .string bkey, .string ben, .string bval, .int .i64 bex, .int .i64 bx, .int .i64 b_y, .int .i64 bz, ob] 40)).alloc (.cells zz 93)).drew).cell? ⟨w.heap.size + 1, 6, none⟩ = some (.int .i64 bx) ∧ ((((w.alloc (.cells #[.int .i64 at_, .int .i64 ak, .string akey, .string aen, .string aval, .int .i64 aex, .int .i64 ax, .int .i64 ay, .int .i64 az, oa] 40)).alloc (.cells #[.int .i64 bt, .int .i64 bk, .string bkey, .string ben, .string bval, .int .i64 bex, .int .i64 bx, .int .i64 b_y, .int .i64 bz, ob] 40)).alloc (.cells zz 93)).drew).cell? ⟨w.heap.size + 1, 7, none⟩ = some (.int .i64 b_y) ∧ ((((w.alloc (.cells #[.int .i64 at_, .int .i64 ak, .string akey, .string aen, .string aval, .int .i64 aex, .int .i64 ax, .int .i64 ay, .int .i64 az, oa] 40)).alloc (.cells #[.int .i64 bt, .int .i64 bk, .string bkey, .string ben, .string bval, .int .i64 bex, .int .i64 bx, .int .i64 b_y, .int .i64 bz, ob] 40)).alloc (.cells zz 93)).drew).cell? ⟨w.heap.size + 1, 8, none⟩ = some (.int .i64 bz) ∧ ((((w.alloc (.cells #[.int .i64 at_, .int .i64 ak, .string akey, .string aen, .string aval, .int .i64 aex, .int .i64 ax, .int .i64 ay, .int .i64 az, oa] 40)).alloc (.cells #[.int .i64 bt, .int .i64 bk, .string bkey, .string ben, .string bval, .int .i64 bex, .int .i64 bx, .int .i64 b_y, .int .i64 bz, ob] 40)).alloc (.cells zz 93)).drew).cell? ⟨w.heap.size + 1, 9, none⟩ = some ob ∧ Hid (KR w oa ob ao bo ((((w.alloc (.cells #[.int .i64 at_, .int .i64 ak, .string akey, .string aen, .string aval, .int .i64 aex, .int .i64 ax, .int .i64 ay, .int .i64 az, oa] 40)).alloc (.cells #[.int .i64 bt, .int .i64 bk, .string bkey, .string ben, .string bval, .int .i64 bex, .int .i64 bx, .int .i64 b_y, .int .i64 bz, ob] 40)).alloc (.cells zz 93)).drew))) => (BC1.out _ hW).mono (R' := fun e w' => e = .returned (.int .i64 z1) ∧ (w'.cell? ⟨w.heap.size, 0, none⟩ = some (.int .i64 at_) ∧ w'.cell? ⟨w.heap.size, 1, none⟩ = some (.int .i64 ak) ∧ w'.cell? ⟨w.heap.size, 2, none⟩ = some (.string akey) ∧ w'.cell? ⟨w.heap.size, 3, none⟩ = some (.string aen) ∧ w'.cell? ⟨w.heap.size, 4, none⟩ = some (.string aval) ∧ w'.cell? ⟨w.heap.size, 5, none⟩ = some (.int .i64 aex) ∧ w'.cell? ⟨w.heap.size, 6, none⟩ = some (.int .i64 ax) ∧ w'.cell? ⟨w.heap.size, 7, none⟩ = some (.int .i64 ay) ∧ w'.cell? ⟨w.heap.size, 8, none⟩ = some (.int .i64 az) ∧ w'.cell? ⟨w.heap.size, 9, none⟩ = some oa ∧ w'.cell? ⟨w.heap.size + 1, 0, none⟩ = some (.int .i64 bt) ∧ w'.cell? ⟨w.heap.size + 1, 1, none⟩ = some (.int .i64 bk) ∧ w'.cell? ⟨w.heap.size + 1, 2, none⟩ = some (.string bkey) ∧ w'.cell? ⟨w.heap.size + 1, 3, none⟩ = some (.string ben) ∧ w'.cell? ⟨w.heap.size + 1, 4, none⟩ = some (.string bval) ∧ w'.cell? ⟨w.heap.size + 1, 5, none⟩ = some (.int .i64 bex) ∧ w'.cell? ⟨w.heap.size + 1, 6, none⟩ = some (.int .i64 bx) ∧ w'.cell? ⟨w.heap.size + 1, 7, none⟩ = some (.int .i64 b_y) ∧ w'.cell? ⟨w.heap.size + 1, 8, none⟩ = some (.int .i64 bz) ∧ w'.cell? ⟨w.heap.size + 1, 9, none⟩ = some ob ∧ Hid (KR w oa ob ao bo w')) ∧ Hid (AX w w' (w.heap.size + 1 + 1))) (fun e w' ⟨a, b⟩ => have h4 := (show AX w ((((w.alloc (.cells #[.int .i64 at_, .int .i64 ak, .string akey, .string aen, .string aval, .int .i64 aex, .int .i64 ax, .int .i64 ay, .int .i64 az, oa] 40)).alloc (.cells #[.int .i64 bt, .int .i64 bk, .string bkey, .string ben, .string bval, .int .i64 bex, .int .i64 bx, .int .i64 b_y, .int .i64 bz, ob] 40)).alloc (.cells zz 93)).drew) (w.heap.size + 1 + 1) from ⟨by rw [hz]; exact (Bx.fresh' ((w.alloc (.cells #[.int .i64 at_, .int .i64 ak, .string akey, .string aen, .string aval, .int .i64 aex, .int .i64 ax, .int .i64 ay, .int .i64 az, oa] 40)).alloc (.cells #[.int .i64 bt, .int .i64 bk, .string bkey, .string ben, .string bval, .int .i64 bex, .int .i64 bx, .int .i64 b_y, .int .i64 bz, ob] 40)) (by simp) _ _).drawn 1, Nat.le_refl _⟩).next b; ⟨a, MR_next hW b, Hid.mk' h4⟩))
  clear BC1 BC2 BC3 BC4 BC5 BC6 BC7 BC8
  have SK := Hid.mk' (fun (W : World) (o : Obj) (hW : W.cell? ⟨w.heap.size, 0, none⟩ = some (.int .i64 at_) ∧ W.cell? ⟨w.heap.size, 1, none⟩ = some (.int .i64 ak) ∧ W.cell? ⟨w.heap.size, 2, none⟩ = some (.string akey) ∧ W.cell? ⟨w.heap.size, 3, none⟩ = some (.string aen) ∧ W.cell? ⟨w.heap.size, 4, none⟩ = some (.string aval) ∧ W.cell? ⟨w.heap.size, 5, none⟩ = some (.int .i64 aex) ∧ W.cell? ⟨w.heap.size, 6, none⟩ = some (.int .i64 ax) ∧ W.cell? ⟨w.heap.size, 7, none⟩ = some (.int .i64 ay) ∧ W.cell? ⟨w.heap.size, 8, none⟩ = some (.int .i64 az) ∧ W.cell? ⟨w.heap.size, 9, none⟩ = some oa ∧ W.cell? ⟨w.heap.size + 1, 0, none⟩ = some (.int .i64 bt) ∧ W.cell? ⟨w.heap.size + 1, 1, none⟩ = some (.int .i64 bk) ∧ W.cell? ⟨w.heap.size + 1, 2, none⟩ = some (.string bkey) ∧ W.cell? ⟨w.heap.size + 1, 3, none⟩ = some (.string ben) ∧ W.cell? ⟨w.heap.size + 1, 4, none⟩ = some (.string bval) ∧ W.cell? ⟨w.heap.size + 1, 5, none⟩ = some (.int .i64 bex) ∧ W.cell? ⟨w.heap.size + 1, 6, none⟩ = some (.int .i64 bx) ∧ W.cell? ⟨w.heap.size + 1, 7, none⟩ = some (.int .i64 b_y) ∧ W.cell? ⟨w.heap.size + 1, 8, none⟩ = some (.int .i64 bz) ∧ W.cell? ⟨w.heap.size + 1, 9, none⟩ = some ob ∧ Hid (KR w oa ob ao bo W)) => (show (W.alloc o).cell? ⟨w.heap.size, 0, none⟩ = some (.int .i64 at_) ∧ (W.alloc o).cell? ⟨w.heap.size, 1, none⟩ = some (.int .i64 ak) ∧ (W.alloc o).cell? ⟨w.heap.size, 2, none⟩ = some (.string akey) ∧ (W.alloc o).cell? ⟨w.heap.size, 3, none⟩ = some (.string aen) ∧ (W.alloc o).cell? ⟨w.heap.size, 4, none⟩ = some (.string aval) ∧ (W.alloc o).cell? ⟨w.heap.size, 5, none⟩ = some (.int .i64 aex) ∧ (W.alloc o).cell? ⟨w.heap.size, 6, none⟩ = some (.int .i64 ax) ∧ (W.alloc o).cell? ⟨w.heap.size, 7, none⟩ = some (.int .i64 ay) ∧ (W.alloc o).cell? ⟨w.heap.size, 8, none⟩ = some (.int .i64 az) ∧ (W.alloc o).cell? ⟨w.heap.size, 9, none⟩ = some oa ∧ (W.alloc o).cell? ⟨w.heap.size + 1, 0, none⟩ = some (.int .i64 bt) ∧ (W.alloc o).cell? ⟨w.heap.size + 1, 1, none⟩ = some (.int .i64 bk) ∧ (W.alloc o).cell? ⟨w.heap.size + 1, 2, none⟩ = some (.string bkey) ∧ (W.alloc o).cell? ⟨w.heap.size + 1, 3, none⟩ = some (.string ben) ∧ (W.alloc o).cell? ⟨w.heap.size + 1, 4, none⟩ = some (.string bval) ∧ (W.alloc o).cell? ⟨w.heap.size + 1, 5, none⟩ = some (.int .i64 bex) ∧ (W.alloc o).cell? ⟨w.heap.size + 1, 6, none⟩ = some (.int .i64 bx) ∧ (W.alloc o).cell? ⟨w.heap.size + 1, 7, none⟩ = some (.int .i64 b_y) ∧ (W.alloc o).cell? ⟨w.heap.size + 1, 8, none⟩ = some (.int .i64 bz) ∧ (W.alloc o).cell? ⟨w.heap.size + 1, 9, none⟩ = some ob ∧ Hid (KR w oa ob ao bo (W.alloc o)) from MR_next hW ((Below.refl _ _).alloc (Nat.le_refl _) _)))
  clear HN
  go_enter Try.func21, Try.ntmps21
  go_wp2_with fail
  have hs := show ((w.alloc (.cells #[.int .i64 at_, .int .i64 ak, .string akey, .string aen, .string aval, .int .i64 aex, .int .i64 ax, .int .i64 ay, .int .i64 az, oa] 40)).alloc (.cells #[.int .i64 bt, .int .i64 bk, .string bkey, .string ben, .string bval, .int .i64 bex, .int .i64 bx, .int .i64 b_y, .int .i64 bz, ob] 40)).drew.cell? ⟨w.heap.size, 0, none⟩ = some (.int .i64 at_) ∧ ((w.alloc (.cells #[.int .i64 at_, .int .i64 ak, .string akey, .string aen, .string aval, .int .i64 aex, .int .i64 ax, .int .i64 ay, .int .i64 az, oa] 40)).alloc (.cells #[.int .i64 bt, .int .i64 bk, .string bkey, .string ben, .string bval, .int .i64 bex, .int .i64 bx, .int .i64 b_y, .int .i64 bz, ob] 40)).drew.cell? ⟨w.heap.size, 1, none⟩ = some (.int .i64 ak) ∧ ((w.alloc (.cells #[.int .i64 at_, .int .i64 ak, .string akey, .string aen, .string aval, .int .i64 aex, .int .i64 ax, .int .i64 ay, .int .i64 az, oa] 40)).alloc (.cells #[.int .i64 bt, .int .i64 bk, .string bkey, .string ben, .string bval, .int .i64 bex, .int .i64 bx, .int .i64 b_y, .int .i64 bz, ob] 40)).drew.cell? ⟨w.heap.size, 2, none⟩ = some (.string akey) ∧ ((w.alloc (.cells #[.int .i64 at_, .int .i64 ak, .string akey, .string aen, .string aval, .int .i64 aex, .int .i64 ax, .int .i64 ay, .int .i64 az, oa] 40)).alloc (.cells #[.int .i64 bt, .int .i64 bk, .string bkey, .string ben, .string bval, .int .i64 bex, .int .i64 bx, .int .i64 b_y, .int .i64 bz, ob] 40)).drew.cell? ⟨w.heap.size, 3, none⟩ = some (.string aen) ∧ ((w.alloc (.cells #[.int .i64 at_, .int .i64 ak, .string akey, .string aen, .string aval, .int .i64 aex, .int .i64 ax, .int .i64 ay, .int .i64 az, oa] 40)).alloc (.cells #[.int .i64 bt, .int .i64 bk, .string bkey, .string ben, .string bval, .int .i64 bex, .int .i64 bx, .int .i64 b_y, .int .i64 bz, ob] 40)).drew.cell? ⟨w.heap.size, 4, none⟩ = some (.string aval) ∧ ((w.alloc (.cells #[.int .i64 at_, .int .i64 ak, .string akey, .string aen, .string aval, .int .i64 aex, .int .i64 ax, .int .i64 ay, .int .i64 az, oa] 40)).alloc (.cells #[.int .i64 bt, .int .i64 bk, .string bkey, .string ben, .string bval, .int .i64 bex, .int .i64 bx, .int .i64 b_y, .int .i64 bz, ob] 40)).drew.cell? ⟨w.heap.size, 5, none⟩ = some (.int .i64 aex) ∧ ((w.alloc (.cells #[.int .i64 at_, .int .i64 ak, .string akey, .string aen, .string aval, .int .i64 aex, .int .i64 ax, .int .i64 ay, .int .i64 az, oa] 40)).alloc (.cells #[.int .i64 bt, .int .i64 bk, .string bkey, .string ben, .string bval, .int .i64 bex, .int .i64 bx, .int .i64 b_y, .int .i64 bz, ob] 40)).drew.cell? ⟨w.heap.size, 6, none⟩ = some (.int .i64 ax) ∧ ((w.alloc (.cells #[.int .i64 at_, .int .i64 ak, .string akey, .string aen, .string aval, .int .i64 aex, .int .i64 ax, .int .i64 ay, .int .i64 az, oa] 40)).alloc (.cells #[.int .i64 bt, .int .i64 bk, .string bkey, .string ben, .string bval, .int .i64 bex, .int .i64 bx, .int .i64 b_y, .int .i64 bz, ob] 40)).drew.cell? ⟨w.heap.size, 7, none⟩ = some (.int .i64 ay) ∧ ((w.alloc (.cells #[.int .i64 at_, .int .i64 ak, .string akey, .string aen, .string aval, .int .i64 aex, .int .i64 ax, .int .i64 ay, .int .i64 az, oa] 40)).alloc (.cells #[.int .i64 bt, .int .i64 bk, .string bkey, .string ben, .string bval, .int .i64 bex, .int .i64 bx, .int .i64 b_y, .int .i64 bz, ob] 40)).drew.cell? ⟨w.heap.size, 8, none⟩ = some (.int .i64 az) ∧ ((w.alloc (.cells #[.int .i64 at_, .int .i64 ak, .string akey, .string aen, .string aval, .int .i64 aex, .int .i64 ax, .int .i64 ay, .int .i64 az, oa] 40)).alloc (.cells #[.int .i64 bt, .int .i64 bk, .string bkey, .string ben, .string bval, .int .i64 bex, .int .i64 bx, .int .i64 b_y, .int .i64 bz, ob] 40)).drew.cell? ⟨w.heap.size, 9, none⟩ = some oa ∧ ((w.alloc (.cells #[.int .i64 at_, .int .i64 ak, .string akey, .string aen, .string aval, .int .i64 aex, .int .i64 ax, .int .i64 ay, .int .i64 az, oa] 40)).alloc (.cells #[.int .i64 bt, .int .i64 bk, .string bkey, .string ben, .string bval, .int .i64 bex, .int .i64 bx, .int .i64 b_y, .int .i64 bz, ob] 40)).drew.cell? ⟨w.heap.size + 1, 0, none⟩ = some (.int .i64 bt) ∧ ((w.alloc (.cells #[.int .i64 at_, .int .i64 ak, .string akey, .string aen, .string aval, .int .i64 aex, .int .i64 ax, .int .i64 ay, .int .i64 az, oa] 40)).alloc (.cells #[.int .i64 bt, .int .i64 bk, .string bkey, .string ben, .string bval, .int .i64 bex, .int .i64 bx, .int .i64 b_y, .int .i64 bz, ob] 40)).drew.cell? ⟨w.heap.size + 1, 1, none⟩ = some (.int .i64 bk) ∧ ((w.alloc (.cells #[.int .i64 at_, .int .i64 ak, .string akey, .string aen, .string aval, .int .i64 aex, .int .i64 ax, .int .i64 ay, .int .i64 az, oa] 40)).alloc (.cells #[.int .i64 bt, .int .i64 bk, .string bkey, .string ben, .string bval, .int .i64 bex, .int .i64 bx, .int .i64 b_y, .int .i64 bz, ob] 40)).drew.cell? ⟨w.heap.size + 1, 2, none⟩ = some (.string bkey) ∧ ((w.alloc (.cells #[.int .i64 at_, .int .i64 ak, .string akey, .string aen, .string aval, .int .i64 aex, .int .i64 ax, .int .i64 ay, .int .i64 az, oa] 40)).alloc (.cells #[.int .i64 bt, .int .i64 bk, .string bkey, .string ben, .string bval, .int .i64 bex, .int .i64 bx, .int .i64 b_y, .int .i64 bz, ob] 40)).drew.cell? ⟨w.heap.size + 1, 3, none⟩ = some (.string ben) ∧ ((w.alloc (.cells #[.int .i64 at_, .int .i64 ak, .string akey, .string aen, .string aval, .int .i64 aex, .int .i64 ax, .int .i64 ay, .int .i64 az, oa] 40)).alloc (.cells #[.int .i64 bt, .int .i64 bk, .string bkey, .string ben, .string bval, .int .i64 bex, .int .i64 bx, .int .i64 b_y, .int .i64 bz, ob] 40)).drew.cell? ⟨w.heap.size + 1, 4, none⟩ = some (.string bval) ∧ ((w.alloc (.cells #[.int .i64 at_, .int .i64 ak, .string akey, .string aen, .string aval, .int .i64 aex, .int .i64 ax, .int .i64 ay, .int .i64 az, oa] 40)).alloc (.cells #[.int .i64 bt, .int .i64 bk, .string bkey, .string ben, .string bval, .int .i64 bex, .int .i64 bx, .int .i64 b_y, .int .i64 bz, ob] 40)).drew.cell? ⟨w.heap.size + 1, 5, none⟩ = some (.int .i64 bex) ∧ ((w.alloc (.cells #[.int .i64 at_, .int .i64 ak, .string akey, .string aen, .string aval, .int .i64 aex, .int .i64 ax, .int .i64 ay, .int .i64 az, oa] 40)).alloc (.cells #[.int .i64 bt, .int .i64 bk, .string bkey, .string ben, .string bval, .int .i64 bex, .int .i64 bx, .int .i64 b_y, .int .i64 bz, ob] 40)).drew.cell? ⟨w.heap.size + 1, 6, none⟩ = some (.int .i64 bx) ∧ ((w.alloc (.cells #[.int .i64 at_, .int .i64 ak, .string akey, .string aen, .string aval, .int .i64 aex, .int .i64 ax, .int .i64 ay, .int .i64 az, oa] 40)).alloc (.cells #[.int .i64 bt, .int .i64 bk, .string bkey, .string ben, .string bval, .int .i64 bex, .int .i64 bx, .int .i64 b_y, .int .i64 bz, ob] 40)).drew.cell? ⟨w.heap.size + 1, 7, none⟩ = some (.int .i64 b_y) ∧ ((w.alloc (.cells #[.int .i64 at_, .int .i64 ak, .string akey, .string aen, .string aval, .int .i64 aex, .int .i64 ax, .int .i64 ay, .int .i64 az, oa] 40)).alloc (.cells #[.int .i64 bt, .int .i64 bk, .string bkey, .string ben, .string bval, .int .i64 bex, .int .i64 bx, .int .i64 b_y, .int .i64 bz, ob] 40)).drew.cell? ⟨w.heap.size + 1, 8, none⟩ = some (.int .i64 bz) ∧ ((w.alloc (.cells #[.int .i64 at_, .int .i64 ak, .string akey, .string aen, .string aval, .int .i64 aex, .int .i64 ax, .int .i64 ay, .int .i64 az, oa] 40)).alloc (.cells #[.int .i64 bt, .int .i64 bk, .string bkey, .string ben, .string bval, .int .i64 bex, .int .i64 bx, .int .i64 b_y, .int .i64 bz, ob] 40)).drew.cell? ⟨w.heap.size + 1, 9, none⟩ = some ob ∧ Hid (KR w oa ob ao bo ((w.alloc (.cells #[.int .i64 at_, .int .i64 ak, .string akey, .string aen, .string aval, .int .i64 aex, .int .i64 ax, .int .i64 ay, .int .i64 az, oa] 40)).alloc (.cells #[.int .i64 bt, .int .i64 bk, .string bkey, .string ben, .string bval, .int .i64 bex, .int .i64 bx, .int .i64 b_y, .int .i64 bz, ob] 40)).drew) from ⟨by simp, by simp, by simp, by simp, by simp, by simp, by simp, by simp, by simp, by simp, by simp, by simp, by simp, by simp, by simp, by simp, by simp, by simp, by simp, by simp, Hid.mk' (HK.out.next (Below.refl _ _).drew)⟩
  have HSD := Lib.hid (show ((((w.alloc (.cells #[.int .i64 at_, .int .i64 ak, .string akey, .string aen, .string aval, .int .i64 aex, .int .i64 ax, .int .i64 ay, .int .i64 az, oa] 40)).alloc (.cells #[.int .i64 bt, .int .i64 bk, .string bkey, .string ben, .string bval, .int .i64 bex, .int .i64 bx, .int .i64 b_y, .int .i64 bz, ob] 40)).alloc (.cells #[.int .i64 0, .int .i64 0, .int .i64 0, .int .i64 0, .int .i64 0, .int .i64 0, .int .i64 0, .int .i64 0] 93)).drew).cell? ⟨w.heap.size, 0, none⟩ = some (.int .i64 at_) ∧ ((((w.alloc (.cells #[.int .i64 at_, .int .i64 ak, .string akey, .string aen, .string aval, .int .i64 aex, .int .i64 ax, .int .i64 ay, .int .i64 az, oa] 40)).alloc (.cells #[.int .i64 bt, .int .i64 bk, .string bkey, .string ben, .string bval, .int .i64 bex, .int .i64 bx, .int .i64 b_y, .int .i64 bz, ob] 40)).alloc (.cells #[.int .i64 0, .int .i64 0, .int .i64 0, .int .i64 0, .int .i64 0, .int .i64 0, .int .i64 0, .int .i64 0] 93)).drew).cell? ⟨w.heap.size, 1, none⟩ = some (.int .i64 ak) ∧ ((((w.alloc (.cells #[.int .i64 at_, .int .i64 ak, .string akey, .string aen, .string aval, .int .i64 aex, .int .i64 ax, .int .i64 ay, .int .i64 az, oa] 40)).alloc (.cells #[.int .i64 bt, .int .i64 bk, .string bkey, .string ben, .string bval, .int .i64 bex, .int .i64 bx, .int .i64 b_y, .int .i64 bz, ob] 40)).alloc (.cells #[.int .i64 0, .int .i64 0, .int .i64 0, .int .i64 0, .int .i64 0, .int .i64 0, .int .i64 0, .int .i64 0] 93)).drew).cell? ⟨w.heap.size, 2, none⟩ = some (.string akey) ∧ ((((w.alloc (.cells #[.int .i64 at_, .int .i64 ak, .string akey, .string aen, .string aval, .int .i64 aex, .int .i64 ax, .int .i64 ay, .int .i64 az, oa] 40)).alloc (.cells #[.int .i64 bt, .int .i64 bk, .string bkey, .string ben, .string bval, .int .i64 bex, .int .i64 bx, .int .i64 b_y, .int .i64 bz, ob] 40)).alloc (.cells #[.int .i64 0, .int .i64 0, .int .i64 0, .int .i64 0, .int .i64 0, .int .i64 0, .int .i64 0, .int .i64 0] 93)).drew).cell? ⟨w.heap.size, 3, none⟩ = some (.string aen) ∧ ((((w.alloc (.cells #[.int .i64 at_, .int .i64 ak, .string akey, .string aen, .string aval, .int .i64 aex, .int .i64 ax, .int .i64 ay, .int .i64 az, oa] 40)).alloc (.cells #[.int .i64 bt, .int .i64 bk, .string bkey, .string ben, .string bval, .int .i64 bex, .int .i64 bx, .int .i64 b_y, .int .i64 bz, ob] 40)).alloc (.cells #[.int .i64 0, .int .i64 0, .int .i64 0, .int .i64 0, .int .i64 0, .int .i64 0, .int .i64 0, .int .i64 0] 93)).drew).cell? ⟨w.heap.size, 4, none⟩ = some (.string aval) ∧ ((((w.alloc (.cells #[.int .i64 at_, .int .i64 ak, .string akey, .string aen, .string aval, .int .i64 aex, .int .i64 ax, .int .i64 ay, .int .i64 az, oa] 40)).alloc (.cells #[.int .i64 bt, .int .i64 bk, .string bkey, .string ben, .string bval, .int .i64 bex, .int .i64 bx, .int .i64 b_y, .int .i64 bz, ob] 40)).alloc (.cells #[.int .i64 0, .int .i64 0, .int .i64 0, .int .i64 0, .int .i64 0, .int .i64 0, .int .i64 0, .int .i64 0] 93)).drew).cell? ⟨w.heap.size, 5, none⟩ = some (.int .i64 aex) ∧ ((((w.alloc (.cells #[.int .i64 at_, .int .i64 ak, .string akey, .string aen, .string aval, .int .i64 aex, .int .i64 ax, .int .i64 ay, .int .i64 az, oa] 40)).alloc (.cells #[.int .i64 bt, .int .i64 bk, .string bkey, .string ben, .string bval, .int .i64 bex, .int .i64 bx, .int .i64 b_y, .int .i64 bz, ob] 40)).alloc (.cells #[.int .i64 0, .int .i64 0, .int .i64 0, .int .i64 0, .int .i64 0, .int .i64 0, .int .i64 0, .int .i64 0] 93)).drew).cell? ⟨w.heap.size, 6, none⟩ = some (.int .i64 ax) ∧ ((((w.alloc (.cells #[.int .i64 at_, .int .i64 ak, .string akey, .string aen, .string aval, .int .i64 aex, .int .i64 ax, .int .i64 ay, .int .i64 az, oa] 40)).alloc (.cells #[.int .i64 bt, .int .i64 bk, .string bkey, .string ben, .string bval, .int .i64 bex, .int .i64 bx, .int .i64 b_y, .int .i64 bz, ob] 40)).alloc (.cells #[.int .i64 0, .int .i64 0, .int .i64 0, .int .i64 0, .int .i64 0, .int .i64 0, .int .i64 0, .int .i64 0] 93)).drew).cell? ⟨w.heap.size, 7, none⟩ = some (.int .i64 ay) ∧ ((((w.alloc (.cells #[.int .i64 at_, .int .i64 ak, .string akey, .string aen, .string aval, .int .i64 aex, .int .i64 ax, .int .i64 ay, .int .i64 az, oa] 40)).alloc (.cells #[.int .i64 bt, .int .i64 bk, .string bkey, .string ben, .string bval, .int .i64 bex, .int .i64 bx, .int .i64 b_y, .int .i64 bz, ob] 40)).alloc (.cells #[.int .i64 0, .int .i64 0, .int .i64 0, .int .i64 0, .int .i64 0, .int .i64 0, .int .i64 0, .int .i64 0] 93)).drew).cell? ⟨w.heap.size, 8, none⟩ = some (.int .i64 az) ∧ ((((w.alloc (.cells #[.int .i64 at_, .int .i64 ak, .string akey, .string aen, .string aval, .int .i64 aex, .int .i64 ax, .int .i64 ay, .int .i64 az, oa] 40)).alloc (.cells #[.int .i64 bt, .int .i64 bk, .string bkey, .string ben, .string bval, .int .i64 bex, .int .i64 bx, .int .i64 b_y, .int .i64 bz, ob] 40)).alloc (.cells #[.int .i64 0, .int .i64 0, .int .i64 0, .int .i64 0, .int .i64 0, .int .i64 0, .int .i64 0, .int .i64 0] 93)).drew).cell? ⟨w.heap.size, 9, none⟩ = some oa ∧ ((((w.alloc (.cells #[.int .i64 at_, .int .i64 ak, .string akey, .string aen, .string aval, .int .i64 aex, .int .i64 ax, .int .i64 ay, .int .i64 az, oa] 40)).alloc (.cells #[.int .i64 bt, .int .i64 bk, .string bkey, .string ben, .string bval, .int .i64 bex, .int .i64 bx, .int .i64 b_y, .int .i64 bz, ob] 40)).alloc (.cells #[.int .i64 0, .int .i64 0, .int .i64 0, .int .i64 0, .int .i64 0, .int .i64 0, .int .i64 0, .int .i64 0] 93)).drew).cell? ⟨w.heap.size + 1, 0, none⟩ = some (.int .i64 bt) ∧ ((((w.alloc (.cells #[.int .i64 at_, .int .i64 ak, .string akey, .string aen, .string aval, .int .i64 aex, .int .i64 ax, .int .i64 ay, .int .i64 az, oa] 40)).alloc (.cells #[.int .i64 bt, .int .i64 bk, .string bkey, .string ben, .string bval, .int .i64 bex, .int .i64 bx, .int .i64 b_y, .int .i64 bz, ob] 40)).alloc (.cells #[.int .i64 0, .int .i64 0, .int .i64 0, .int .i64 0, .int .i64 0, .int .i64 0, .int .i64 0, .int .i64 0] 93)).drew).cell? ⟨w.heap.size + 1, 1, none⟩ = some (.int .i64 bk) ∧ ((((w.alloc (.cells #[.int .i64 at_, .int .i64 ak, .string akey, .string aen, .string aval, .int .i64 aex, .int .i64 ax, .int .i64 ay, .int .i64 az, oa] 40)).alloc (.cells #[.int .i64 bt, .int .i64 bk, .string bkey, .string ben, .string bval, .int .i64 bex, .int .i64 bx, .int .i64 b_y, .int .i64 bz, ob] 40)).alloc (.cells #[.int .i64 0, .int .i64 0, .int .i64 0, .int .i64 0, .int .i64 0, .int .i64 0, .int .i64 0, .int .i64 0] 93)).drew).cell? ⟨w.heap.size + 1, 2, none⟩ = some (.string bkey) ∧ ((((w.alloc (.cells #[.int .i64 at_, .int .i64 ak, .string akey, .string aen, .string aval, .int .i64 aex, .int .i64 ax, .int .i64 ay, .int .i64 az, oa] 40)).alloc (.cells #[.int .i64 bt, .int .i64 bk, .string bkey, .string ben, .string bval, .int .i64 bex, .int .i64 bx, .int .i64 b_y, .int .i64 bz, ob] 40)).alloc (.cells #[.int .i64 0, .int .i64 0, .int .i64 0, .int .i64 0, .int .i64 0, .int .i64 0, .int .i64 0, .int .i64 0] 93)).drew).cell? ⟨w.heap.size + 1, 3, none⟩ = some (.string ben) ∧ ((((w.alloc (.cells #[.int .i64 at_, .int .i64 ak, .string akey, .string aen, .string aval, .int .i64 aex, .int .i64 ax, .int .i64 ay, .int .i64 az, oa] 40)).alloc (.cells #[.int .i64 bt, .int .i64 bk, .string bkey, .string ben, .string bval, .int .i64 bex, .int .i64 bx, .int .i64 b_y, .int .i64 bz, ob] 40)).alloc (.cells #[.int .i64 0, .int .i64 0, .int .i64 0, .int .i64 0, .int .i64 0, .int .i64 0, .int .i64 0, .int .i64 0] 93)).drew).cell? ⟨w.heap.size + 1, 4, none⟩ = some (.string bval) ∧ ((((w.alloc (.cells #[.int .i64 at_, .int .i64 ak, .string akey, .string aen, .string aval, .int .i64 aex, .int .i64 ax, .int .i64 ay, .int .i64 az, oa] 40)).alloc (.cells #[.int .i64 bt, .int .i64 bk, .string bkey, .string ben, .string bval, .int .i64 bex, .int .i64 bx, .int .i64 b_y, .int .i64 bz, ob] 40)).alloc (.cells #[.int .i64 0, .int .i64 0, .int .i64 0, .int .i64 0, .int .i64 0, .int .i64 0, .int .i64 0, .int .i64 0] 93)).drew).cell? ⟨w.heap.size + 1, 5, none⟩ = some (.int .i64 bex) ∧ ((((w.alloc (.cells #[.int .i64 at_, .int .i64 ak, .string akey, .string aen, .string aval, .int .i64 aex, .int .i64 ax, .int .i64 ay, .int .i64 az, oa] 40)).alloc (.cells #[.int .i64 bt, .int .i64 bk, .string bkey, .string ben, .string bval, .int .i64 bex, .int .i64 bx, .int .i64 b_y, .int .i64 bz, ob] 40)).alloc (.cells #[.int .i64 0, .int .i64 0, .int .i64 0, .int .i64 0, .int .i64 0, .int .i64 0, .int .i64 0, .int .i64 0] 93)).drew).cell? ⟨w.heap.size + 1, 6, none⟩ = some (.int .i64 bx) ∧ ((((w.alloc (.cells #[.int .i64 at_, .int .i64 ak, .string akey, .string aen, .string aval, .int .i64 aex, .int .i64 ax, .int .i64 ay, .int .i64 az, oa] 40)).alloc (.cells #[.int .i64 bt, .int .i64 bk, .string bkey, .string ben, .string bval, .int .i64 bex, .int .i64 bx, .int .i64 b_y, .int .i64 bz, ob] 40)).alloc (.cells #[.int .i64 0, .int .i64 0, .int .i64 0, .int .i64 0, .int .i64 0, .int .i64 0, .int .i64 0, .int .i64 0] 93)).drew).cell? ⟨w.heap.size + 1, 7, none⟩ = some (.int .i64 b_y) ∧ ((((w.alloc (.cells #[.int .i64 at_, .int .i64 ak, .string akey, .string aen, .string aval, .int .i64 aex, .int .i64 ax, .int .i64 ay, .int .i64 az, oa] 40)).alloc (.cells #[.int .i64 bt, .int .i64 bk, .string bkey, .string ben, .string bval, .int .i64 bex, .int .i64 bx, .int .i64 b_y, .int .i64 bz, ob] 40)).alloc (.cells #[.int .i64 0, .int .i64 0, .int .i64 0, .int .i64 0, .int .i64 0, .int .i64 0, .int .i64 0, .int .i64 0] 93)).drew).cell? ⟨w.heap.size + 1, 8, none⟩ = some (.int .i64 bz) ∧ ((((w.alloc (.cells #[.int .i64 at_, .int .i64 ak, .string akey, .string aen, .string aval, .int .i64 aex, .int .i64 ax, .int .i64 ay, .int .i64 az, oa] 40)).alloc (.cells #[.int .i64 bt, .int .i64 bk, .string bkey, .string ben, .string bval, .int .i64 bex, .int .i64 bx, .int .i64 b_y, .int .i64 bz, ob] 40)).alloc (.cells #[.int .i64 0, .int .i64 0, .int .i64 0, .int .i64 0, .int .i64 0, .int .i64 0, .int .i64 0, .int .i64 0] 93)).drew).cell? ⟨w.heap.size + 1, 9, none⟩ = some ob ∧ Hid (KR w oa ob ao bo ((((w.alloc (.cells #[.int .i64 at_, .int .i64 ak, .string akey, .string aen, .string aval, .int .i64 aex, .int .i64 ax, .int .i64 ay, .int .i64 az, oa] 40)).alloc (.cells #[.int .i64 bt, .int .i64 bk, .string bkey, .string ben, .string bval, .int .i64 bex, .int .i64 bx, .int .i64 b_y, .int .i64 bz, ob] 40)).alloc (.cells #[.int .i64 0, .int .i64 0, .int .i64 0, .int .i64 0, .int .i64 0, .int .i64 0, .int .i64 0, .int .i64 0] 93)).drew)) from MR_next hs (show Below (((w.alloc (.cells #[.int .i64 at_, .int .i64 ak, .string akey, .string aen, .string aval, .int .i64 aex, .int .i64 ax, .int .i64 ay, .int .i64 az, oa] 40)).alloc (.cells #[.int .i64 bt, .int .i64 bk, .string bkey, .string ben, .string bval, .int .i64 bex, .int .i64 bx, .int .i64 b_y, .int .i64 bz, ob] 40)).drew).heap.size (((w.alloc (.cells #[.int .i64 at_, .int .i64 ak, .string akey, .string aen, .string aval, .int .i64 aex, .int .i64 ax, .int .i64 ay, .int .i64 az, oa] 40)).alloc (.cells #[.int .i64 bt, .int .i64 bk, .string bkey, .string ben, .string bval, .int .i64 bex, .int .i64 bx, .int .i64 b_y, .int .i64 bz, ob] 40)).drew) ((((w.alloc (.cells #[.int .i64 at_, .int .i64 ak, .string akey, .string aen, .string aval, .int .i64 aex, .int .i64 ax, .int .i64 ay, .int .i64 az, oa] 40)).alloc (.cells #[.int .i64 bt, .int .i64 bk, .string bkey, .string ben, .string bval, .int .i64 bex, .int .i64 bx, .int .i64 b_y, .int .i64 bz, ob] 40)).alloc (.cells #[.int .i64 0, .int .i64 0, .int .i64 0, .int .i64 0, .int .i64 0, .int .i64 0, .int .i64 0, .int .i64 0] 93)).drew) from ⟨rfl, rfl, rfl, by rw [World.drew]; simp, fun k hk => ((Below.refl _ ((w.alloc (.cells #[.int .i64 at_, .int .i64 ak, .string akey, .string aen, .string aval, .int .i64 aex, .int .i64 ax, .int .i64 ay, .int .i64 az, oa] 40)).alloc (.cells #[.int .i64 bt, .int .i64 bk, .string bkey, .string ben, .string bval, .int .i64 bex, .int .i64 bx, .int .i64 b_y, .int .i64 bz, ob] 40))).alloc (Nat.le_refl _) _).block k hk⟩))
  obtain ⟨hs0, hs1, hs2, hs3, hs4, hs5, hs6, hs7, hs8, hs9, hs10, hs11, hs12, hs13, hs14, hs15, hs16, hs17, hs18, hs19, hs20⟩ := hs
  go_region_held3 (fun W => W.cell? ⟨w.heap.size, 0, none⟩ = some (.int .i64 at_) ∧ W.cell? ⟨w.heap.size, 1, none⟩ = some (.int .i64 ak) ∧ W.cell? ⟨w.heap.size, 2, none⟩ = some (.string akey) ∧ W.cell? ⟨w.heap.size, 3, none⟩ = some (.string aen) ∧ W.cell? ⟨w.heap.size, 4, none⟩ = some (.string aval) ∧ W.cell? ⟨w.heap.size, 5, none⟩ = some (.int .i64 aex) ∧ W.cell? ⟨w.heap.size, 6, none⟩ = some (.int .i64 ax) ∧ W.cell? ⟨w.heap.size, 7, none⟩ = some (.int .i64 ay) ∧ W.cell? ⟨w.heap.size, 8, none⟩ = some (.int .i64 az) ∧ W.cell? ⟨w.heap.size, 9, none⟩ = some oa ∧ W.cell? ⟨w.heap.size + 1, 0, none⟩ = some (.int .i64 bt) ∧ W.cell? ⟨w.heap.size + 1, 1, none⟩ = some (.int .i64 bk) ∧ W.cell? ⟨w.heap.size + 1, 2, none⟩ = some (.string bkey) ∧ W.cell? ⟨w.heap.size + 1, 3, none⟩ = some (.string ben) ∧ W.cell? ⟨w.heap.size + 1, 4, none⟩ = some (.string bval) ∧ W.cell? ⟨w.heap.size + 1, 5, none⟩ = some (.int .i64 bex) ∧ W.cell? ⟨w.heap.size + 1, 6, none⟩ = some (.int .i64 bx) ∧ W.cell? ⟨w.heap.size + 1, 7, none⟩ = some (.int .i64 b_y) ∧ W.cell? ⟨w.heap.size + 1, 8, none⟩ = some (.int .i64 bz) ∧ W.cell? ⟨w.heap.size + 1, 9, none⟩ = some ob ∧ Hid (KR w oa ob ao bo W))
    (first | with_reducible assumption | (with_reducible exact HSD.out) | (with_reducible exact ⟨hs0, hs1, hs2, hs3, hs4, hs5, hs6, hs7, hs8, hs9, hs10, hs11, hs12, hs13, hs14, hs15, hs16, hs17, hs18, hs19, hs20⟩) | (with_reducible refine ⟨?_, ?_, ?_, ?_, ?_, ?_, ?_, ?_, ?_, ?_, ?_, ?_, ?_, ?_, ?_, ?_, ?_, ?_, ?_, ?_, ?_⟩ <;> assumption) | (with_reducible exact SK.out _ _ (by assumption)) | (with_reducible exact MR_set8 ⟨by assumption, by assumption, by assumption, by assumption, by assumption, by assumption, by assumption, by assumption, by assumption, by assumption, by assumption, by assumption, by assumption, by assumption, by assumption, by assumption, by assumption, by assumption, by assumption, by assumption, by assumption⟩ (AX.lo hx.out)) | (with_reducible refine SK.out _ _ ⟨?_, ?_, ?_, ?_, ?_, ?_, ?_, ?_, ?_, ?_, ?_, ?_, ?_, ?_, ?_, ?_, ?_, ?_, ?_, ?_, ?_⟩ <;> assumption))
    (first
      | (go_at_call 71; with_reducible refine (FC1.out _ (by rfl) HSD.out).mono ?_; rintro e w61 ⟨rfl, hSS, hx⟩; obtain ⟨k0, k1, k2, k3, k4, k5, k6, k7, k8, k9, k10, k11, k12, k13, k14, k15, k16, k17, k18, k19, k20⟩ := hSS)
      | (go_at_call 71; with_reducible refine (DC1.out _ _ (by assumption) (by assumption)).mono ?_; rintro e w61 ⟨rfl, hSS, hx⟩; obtain ⟨k0, k1, k2, k3, k4, k5, k6, k7, k8, k9, k10, k11, k12, k13, k14, k15, k16, k17, k18, k19, k20⟩ := hSS)
      | (go_at_call 71; with_reducible refine (EC1.out _ _ (by rfl) (by assumption)).mono ?_; rintro e w61 ⟨rfl, hSS, hx⟩; obtain ⟨k0, k1, k2, k3, k4, k5, k6, k7, k8, k9, k10, k11, k12, k13, k14, k15, k16, k17, k18, k19, k20⟩ := hSS)
      | (go_at_call 71; with_reducible refine (C1.out _ (by assumption)).mono ?_; rintro e w61 ⟨rfl, k0, k1, k2, k3, k4, k5, k6, k7, k8, k9, k10, k11, k12, k13, k14, k15, k16, k17, k18, k19, k20⟩)
      | (go_at_call 72; with_reducible refine (DC2.out _ _ (by assumption) (by assumption)).mono ?_; rintro e w62 ⟨rfl, hSS, hx⟩; obtain ⟨k0, k1, k2, k3, k4, k5, k6, k7, k8, k9, k10, k11, k12, k13, k14, k15, k16, k17, k18, k19, k20⟩ := hSS)
      | (go_at_call 72; with_reducible refine (EC2.out _ _ (by rfl) (by assumption)).mono ?_; rintro e w62 ⟨rfl, hSS, hx⟩; obtain ⟨k0, k1, k2, k3, k4, k5, k6, k7, k8, k9, k10, k11, k12, k13, k14, k15, k16, k17, k18, k19, k20⟩ := hSS)
      | (go_at_call 72; with_reducible refine (C2.out _ (by assumption)).mono ?_; rintro e w62 ⟨rfl, k0, k1, k2, k3, k4, k5, k6, k7, k8, k9, k10, k11, k12, k13, k14, k15, k16, k17, k18, k19, k20⟩)
      | (go_at_call 72; with_reducible refine (DC3.out _ _ (by assumption) (by assumption)).mono ?_; rintro e w63 ⟨rfl, hSS, hx⟩; obtain ⟨k0, k1, k2, k3, k4, k5, k6, k7, k8, k9, k10, k11, k12, k13, k14, k15, k16, k17, k18, k19, k20⟩ := hSS)
      | (go_at_call 72; with_reducible refine (EC3.out _ _ (by rfl) (by assumption)).mono ?_; rintro e w63 ⟨rfl, hSS, hx⟩; obtain ⟨k0, k1, k2, k3, k4, k5, k6, k7, k8, k9, k10, k11, k12, k13, k14, k15, k16, k17, k18, k19, k20⟩ := hSS)
      | (go_at_call 72; with_reducible refine (C3.out _ (by assumption)).mono ?_; rintro e w63 ⟨rfl, k0, k1, k2, k3, k4, k5, k6, k7, k8, k9, k10, k11, k12, k13, k14, k15, k16, k17, k18, k19, k20⟩)
      | (go_at_call 73; with_reducible refine (DC4.out _ _ (by assumption) (by assumption)).mono ?_; rintro e w64 ⟨rfl, hSS, hx⟩; obtain ⟨k0, k1, k2, k3, k4, k5, k6, k7, k8, k9, k10, k11, k12, k13, k14, k15, k16, k17, k18, k19, k20⟩ := hSS)
      | (go_at_call 73; with_reducible refine (EC4.out _ _ (by rfl) (by assumption)).mono ?_; rintro e w64 ⟨rfl, hSS, hx⟩; obtain ⟨k0, k1, k2, k3, k4, k5, k6, k7, k8, k9, k10, k11, k12, k13, k14, k15, k16, k17, k18, k19, k20⟩ := hSS)
      | (go_at_call 73; with_reducible refine (C4.out _ (by assumption)).mono ?_; rintro e w64 ⟨rfl, k0, k1, k2, k3, k4, k5, k6, k7, k8, k9, k10, k11, k12, k13, k14, k15, k16, k17, k18, k19, k20⟩)
      | (go_at_call 73; with_reducible refine (DC5.out _ _ (by assumption) (by assumption)).mono ?_; rintro e w65 ⟨rfl, hSS, hx⟩; obtain ⟨k0, k1, k2, k3, k4, k5, k6, k7, k8, k9, k10, k11, k12, k13, k14, k15, k16, k17, k18, k19, k20⟩ := hSS)
      | (go_at_call 73; with_reducible refine (EC5.out _ _ (by rfl) (by assumption)).mono ?_; rintro e w65 ⟨rfl, hSS, hx⟩; obtain ⟨k0, k1, k2, k3, k4, k5, k6, k7, k8, k9, k10, k11, k12, k13, k14, k15, k16, k17, k18, k19, k20⟩ := hSS)
      | (go_at_call 73; with_reducible refine (C5.out _ (by assumption)).mono ?_; rintro e w65 ⟨rfl, k0, k1, k2, k3, k4, k5, k6, k7, k8, k9, k10, k11, k12, k13, k14, k15, k16, k17, k18, k19, k20⟩)
      | (go_at_call 73; with_reducible refine (DC6.out _ _ (by assumption) (by assumption)).mono ?_; rintro e w66 ⟨rfl, hSS, hx⟩; obtain ⟨k0, k1, k2, k3, k4, k5, k6, k7, k8, k9, k10, k11, k12, k13, k14, k15, k16, k17, k18, k19, k20⟩ := hSS)
      | (go_at_call 73; with_reducible refine (EC6.out _ _ (by rfl) (by assumption)).mono ?_; rintro e w66 ⟨rfl, hSS, hx⟩; obtain ⟨k0, k1, k2, k3, k4, k5, k6, k7, k8, k9, k10, k11, k12, k13, k14, k15, k16, k17, k18, k19, k20⟩ := hSS)
      | (go_at_call 73; with_reducible refine (C6.out _ (by assumption)).mono ?_; rintro e w66 ⟨rfl, k0, k1, k2, k3, k4, k5, k6, k7, k8, k9, k10, k11, k12, k13, k14, k15, k16, k17, k18, k19, k20⟩)
      | (go_at_call 72; with_reducible refine (DC7.out _ _ (by assumption) (by assumption)).mono ?_; rintro e w67 ⟨rfl, hSS, hx⟩; obtain ⟨k0, k1, k2, k3, k4, k5, k6, k7, k8, k9, k10, k11, k12, k13, k14, k15, k16, k17, k18, k19, k20⟩ := hSS)
      | (go_at_call 72; with_reducible refine (EC7.out _ _ (by rfl) (by assumption)).mono ?_; rintro e w67 ⟨rfl, hSS, hx⟩; obtain ⟨k0, k1, k2, k3, k4, k5, k6, k7, k8, k9, k10, k11, k12, k13, k14, k15, k16, k17, k18, k19, k20⟩ := hSS)
      | (go_at_call 72; with_reducible refine (C7.out _ (by assumption)).mono ?_; rintro e w67 ⟨rfl, k0, k1, k2, k3, k4, k5, k6, k7, k8, k9, k10, k11, k12, k13, k14, k15, k16, k17, k18, k19, k20⟩)
      | (go_at_call 74; with_reducible refine (DC8.out _ _ (by assumption) (by assumption)).mono ?_; rintro e w68 ⟨rfl, hSS, hx, hcc⟩; obtain ⟨k0, k1, k2, k3, k4, k5, k6, k7, k8, k9, k10, k11, k12, k13, k14, k15, k16, k17, k18, k19, k20⟩ := hSS; unfold AXc at hcc; obtain ⟨c0, c1, c2, c3, c4, c5, c6, c7, c8, c9, c10, c11, c12, c13, c14, c15⟩ := hcc)
      | (go_at_call 74; with_reducible refine (EC8.out _ _ (by rfl) (by assumption)).mono ?_; rintro e w68 ⟨rfl, hSS, hx⟩; obtain ⟨hx, hcc⟩ := hx; obtain ⟨k0, k1, k2, k3, k4, k5, k6, k7, k8, k9, k10, k11, k12, k13, k14, k15, k16, k17, k18, k19, k20⟩ := hSS; unfold AXc at hcc; obtain ⟨c0, c1, c2, c3, c4, c5, c6, c7, c8, c9, c10, c11, c12, c13, c14, c15⟩ := hcc)
      | (go_at_call 74; with_reducible refine (C8.out _ (by assumption)).mono ?_; rintro e w68 ⟨rfl, k0, k1, k2, k3, k4, k5, k6, k7, k8, k9, k10, k11, k12, k13, k14, k15, k16, k17, k18, k19, k20⟩)
      | fail)
  · have hx9 : Bx (w68.alloc (.cells #[.int .i64 z1, .int .i64 z2, .int .i64 z3, .int .i64 z4, .int .i64 z5, .int .i64 z6, .int .i64 z7, .int .i64 z8] 93)) w68.heap.size 93 #[.int .i64 z1, .int .i64 z2, .int .i64 z3, .int .i64 z4, .int .i64 z5, .int .i64 z6, .int .i64 z7, .int .i64 z8] := Bx.fresh _ _ _
    have hb9 : Below w.heap.size w (w68.alloc (.cells #[.int .i64 z1, .int .i64 z2, .int .i64 z3, .int .i64 z4, .int .i64 z5, .int .i64 z6, .int .i64 z7, .int .i64 z8] 93)) := k20.out.2.2.alloc k20.out.2.2.size _
    clear C1 DC1 EC1 C2 DC2 EC2 C3 DC3 EC3 C4 DC4 EC4 C5 DC5 EC5 C6 DC6 EC6 C7 DC7 EC7 C8 DC8 EC8 FC1 SK HSD HK hs0 hs1 hs2 hs3 hs4 hs5 hs6 hs7 hs8 hs9 hs10 hs11 hs12 hs13 hs14 hs15 hs16 hs17 hs18 hs19 hs20 k0 k1 k2 k3 k4 k5 k6 k7 k8 k9 k10 k11 k12 k13 k14 k15 k16 k17 k18 k19 k20
    generalize w68.alloc (.cells #[.int .i64 z1, .int .i64 z2, .int .i64 z3, .int .i64 z4, .int .i64 z5, .int .i64 z6, .int .i64 z7, .int .i64 z8] 93) = W9 at *
    generalize w68.heap.size = D9 at *
    have HB9 := Lib.hid hb9
    have HX9 := Lib.hid hx9
    clear hb9 hx9
    go_wp2_with fail
    go_loopw [6] (fun i wr => ∃ k : Nat, i = .int .i64 k ∧ k ≤ 8 ∧ wr = W9 ∧ Hid (fnz ([z1, z2, z3, z4, z5, z6, z7, z8].drop k) = fnz [z1, z2, z3, z4, z5, z6, z7, z8])) (fun i _ => 8 - (intOf i).toNat)
    case atStart => exact ⟨0, rfl, by omega, rfl, Lib.hid rfl⟩
    case round =>
      obtain ⟨k, rfl, hk, rfl, HF⟩ := hrel
      rcases (show k = 0 ∨ k = 1 ∨ k = 2 ∨ k = 3 ∨ k = 4 ∨ k = 5 ∨ k = 6 ∨ k = 7 ∨ k = 8 from by omega) with rfl | rfl | rfl | rfl | rfl | rfl | rfl | rfl | rfl
      · have x0 := HX9.out.read (i := 0) rfl
        have HF2 := Lib.hid (show fnz (z1 :: [z2, z3, z4, z5, z6, z7, z8]) = fnz [z1, z2, z3, z4, z5, z6, z7, z8] from HF.out)
        clear HF
        by_cases hz0 : z1 = 0
        · have HF3 := Lib.hid (show fnz [z2, z3, z4, z5, z6, z7, z8] = fnz [z1, z2, z3, z4, z5, z6, z7, z8] from (fnz_skip hz0).symm.trans HF2.out)
          have hzb : (z1 != 0) = false := by simp [hz0]
          clear HF2 hz0
          go_wp2_with fail
          go_roundw
          case rel => exact ⟨1, rfl, by omega, by first | rfl | trivial, HF3⟩
          case measure => simp [intOf]
        · have HF3 := Lib.hid (show z1 = z from (fnz_hit hz0).symm.trans (HF2.out.trans HV.out))
          have hzb : (z1 != 0) = true := by simp [hz0]
          clear HF2 hz0
          go_wp2_with fail
          go_ret
          exact ⟨ret_int HF3.out, HB9.out⟩
      · have x0 := HX9.out.read (i := 1) rfl
        have HF2 := Lib.hid (show fnz (z2 :: [z3, z4, z5, z6, z7, z8]) = fnz [z1, z2, z3, z4, z5, z6, z7, z8] from HF.out)
        clear HF
        by_cases hz0 : z2 = 0
        · have HF3 := Lib.hid (show fnz [z3, z4, z5, z6, z7, z8] = fnz [z1, z2, z3, z4, z5, z6, z7, z8] from (fnz_skip hz0).symm.trans HF2.out)
          have hzb : (z2 != 0) = false := by simp [hz0]
          clear HF2 hz0
          go_wp2_with fail
          go_roundw
          case rel => exact ⟨2, rfl, by omega, by first | rfl | trivial, HF3⟩
          case measure => simp [intOf]
        · have HF3 := Lib.hid (show z2 = z from (fnz_hit hz0).symm.trans (HF2.out.trans HV.out))
          have hzb : (z2 != 0) = true := by simp [hz0]
          clear HF2 hz0
          go_wp2_with fail
          go_ret
          exact ⟨ret_int HF3.out, HB9.out⟩
      · have x0 := HX9.out.read (i := 2) rfl
        have HF2 := Lib.hid (show fnz (z3 :: [z4, z5, z6, z7, z8]) = fnz [z1, z2, z3, z4, z5, z6, z7, z8] from HF.out)
        clear HF
        by_cases hz0 : z3 = 0
        · have HF3 := Lib.hid (show fnz [z4, z5, z6, z7, z8] = fnz [z1, z2, z3, z4, z5, z6, z7, z8] from (fnz_skip hz0).symm.trans HF2.out)
          have hzb : (z3 != 0) = false := by simp [hz0]
          clear HF2 hz0
          go_wp2_with fail
          go_roundw
          case rel => exact ⟨3, rfl, by omega, by first | rfl | trivial, HF3⟩
          case measure => simp [intOf]
        · have HF3 := Lib.hid (show z3 = z from (fnz_hit hz0).symm.trans (HF2.out.trans HV.out))
          have hzb : (z3 != 0) = true := by simp [hz0]
          clear HF2 hz0
          go_wp2_with fail
          go_ret
          exact ⟨ret_int HF3.out, HB9.out⟩
      · have x0 := HX9.out.read (i := 3) rfl
        have HF2 := Lib.hid (show fnz (z4 :: [z5, z6, z7, z8]) = fnz [z1, z2, z3, z4, z5, z6, z7, z8] from HF.out)
        clear HF
        by_cases hz0 : z4 = 0
        · have HF3 := Lib.hid (show fnz [z5, z6, z7, z8] = fnz [z1, z2, z3, z4, z5, z6, z7, z8] from (fnz_skip hz0).symm.trans HF2.out)
          have hzb : (z4 != 0) = false := by simp [hz0]
          clear HF2 hz0
          go_wp2_with fail
          go_roundw
          case rel => exact ⟨4, rfl, by omega, by first | rfl | trivial, HF3⟩
          case measure => simp [intOf]
        · have HF3 := Lib.hid (show z4 = z from (fnz_hit hz0).symm.trans (HF2.out.trans HV.out))
          have hzb : (z4 != 0) = true := by simp [hz0]
          clear HF2 hz0
          go_wp2_with fail
          go_ret
          exact ⟨ret_int HF3.out, HB9.out⟩
      · have x0 := HX9.out.read (i := 4) rfl
        have HF2 := Lib.hid (show fnz (z5 :: [z6, z7, z8]) = fnz [z1, z2, z3, z4, z5, z6, z7, z8] from HF.out)
        clear HF
        by_cases hz0 : z5 = 0
        · have HF3 := Lib.hid (show fnz [z6, z7, z8] = fnz [z1, z2, z3, z4, z5, z6, z7, z8] from (fnz_skip hz0).symm.trans HF2.out)
          have hzb : (z5 != 0) = false := by simp [hz0]
          clear HF2 hz0
          go_wp2_with fail
          go_roundw
          case rel => exact ⟨5, rfl, by omega, by first | rfl | trivial, HF3⟩
          case measure => simp [intOf]
        · have HF3 := Lib.hid (show z5 = z from (fnz_hit hz0).symm.trans (HF2.out.trans HV.out))
          have hzb : (z5 != 0) = true := by simp [hz0]
          clear HF2 hz0
          go_wp2_with fail
          go_ret
          exact ⟨ret_int HF3.out, HB9.out⟩
      · have x0 := HX9.out.read (i := 5) rfl
        have HF2 := Lib.hid (show fnz (z6 :: [z7, z8]) = fnz [z1, z2, z3, z4, z5, z6, z7, z8] from HF.out)
        clear HF
        by_cases hz0 : z6 = 0
        · have HF3 := Lib.hid (show fnz [z7, z8] = fnz [z1, z2, z3, z4, z5, z6, z7, z8] from (fnz_skip hz0).symm.trans HF2.out)
          have hzb : (z6 != 0) = false := by simp [hz0]
          clear HF2 hz0
          go_wp2_with fail
          go_roundw
          case rel => exact ⟨6, rfl, by omega, by first | rfl | trivial, HF3⟩
          case measure => simp [intOf]
        · have HF3 := Lib.hid (show z6 = z from (fnz_hit hz0).symm.trans (HF2.out.trans HV.out))
          have hzb : (z6 != 0) = true := by simp [hz0]
          clear HF2 hz0
          go_wp2_with fail
          go_ret
          exact ⟨ret_int HF3.out, HB9.out⟩
      · have x0 := HX9.out.read (i := 6) rfl
        have HF2 := Lib.hid (show fnz (z7 :: [z8]) = fnz [z1, z2, z3, z4, z5, z6, z7, z8] from HF.out)
        clear HF
        by_cases hz0 : z7 = 0
        · have HF3 := Lib.hid (show fnz [z8] = fnz [z1, z2, z3, z4, z5, z6, z7, z8] from (fnz_skip hz0).symm.trans HF2.out)
          have hzb : (z7 != 0) = false := by simp [hz0]
          clear HF2 hz0
          go_wp2_with fail
          go_roundw
          case rel => exact ⟨7, rfl, by omega, by first | rfl | trivial, HF3⟩
          case measure => simp [intOf]
        · have HF3 := Lib.hid (show z7 = z from (fnz_hit hz0).symm.trans (HF2.out.trans HV.out))
          have hzb : (z7 != 0) = true := by simp [hz0]
          clear HF2 hz0
          go_wp2_with fail
          go_ret
          exact ⟨ret_int HF3.out, HB9.out⟩
      · have x0 := HX9.out.read (i := 7) rfl
        have HF2 := Lib.hid (show fnz (z8 :: []) = fnz [z1, z2, z3, z4, z5, z6, z7, z8] from HF.out)
        clear HF
        by_cases hz0 : z8 = 0
        · have HF3 := Lib.hid (show fnz [] = fnz [z1, z2, z3, z4, z5, z6, z7, z8] from (fnz_skip hz0).symm.trans HF2.out)
          have hzb : (z8 != 0) = false := by simp [hz0]
          clear HF2 hz0
          go_wp2_with fail
          go_roundw
          case rel => exact ⟨8, rfl, by omega, by first | rfl | trivial, HF3⟩
          case measure => simp [intOf]
        · have HF3 := Lib.hid (show z8 = z from (fnz_hit hz0).symm.trans (HF2.out.trans HV.out))
          have hzb : (z8 != 0) = true := by simp [hz0]
          clear HF2 hz0
          go_wp2_with fail
          go_ret
          exact ⟨ret_int HF3.out, HB9.out⟩
      · have HF3 := Lib.hid (show (0 : Int) = z from HF.out.trans HV.out)
        clear HF
        go_wp2_with fail
        go_ret
        exact ⟨ret_int HF3.out, HB9.out⟩
  · have hx9 : Bx ((((((((w68.setCell ⟨w67.heap.size, 0, none⟩ (.int .i64 z1)).setCell ⟨w67.heap.size, 1, none⟩ (.int .i64 z2)).setCell ⟨w67.heap.size, 2, none⟩ (.int .i64 z3)).setCell ⟨w67.heap.size, 3, none⟩ (.int .i64 z4)).setCell ⟨w67.heap.size, 4, none⟩ (.int .i64 z5)).setCell ⟨w67.heap.size, 5, none⟩ (.int .i64 z6)).setCell ⟨w67.heap.size, 6, none⟩ (.int .i64 z7)).setCell ⟨w67.heap.size, 7, none⟩ (.int .i64 z8)) w67.heap.size 93 #[.int .i64 z1, .int .i64 z2, .int .i64 z3, .int .i64 z4, .int .i64 z5, .int .i64 z6, .int .i64 z7, .int .i64 z8] := (ax_fin hx.out k20.out).1
    have hb9 : Below w.heap.size w ((((((((w68.setCell ⟨w67.heap.size, 0, none⟩ (.int .i64 z1)).setCell ⟨w67.heap.size, 1, none⟩ (.int .i64 z2)).setCell ⟨w67.heap.size, 2, none⟩ (.int .i64 z3)).setCell ⟨w67.heap.size, 3, none⟩ (.int .i64 z4)).setCell ⟨w67.heap.size, 4, none⟩ (.int .i64 z5)).setCell ⟨w67.heap.size, 5, none⟩ (.int .i64 z6)).setCell ⟨w67.heap.size, 6, none⟩ (.int .i64 z7)).setCell ⟨w67.heap.size, 7, none⟩ (.int .i64 z8)) := (ax_fin hx.out k20.out).2
    clear C1 DC1 EC1 C2 DC2 EC2 C3 DC3 EC3 C4 DC4 EC4 C5 DC5 EC5 C6 DC6 EC6 C7 DC7 EC7 C8 DC8 EC8 FC1 SK HSD HK hs0 hs1 hs2 hs3 hs4 hs5 hs6 hs7 hs8 hs9 hs10 hs11 hs12 hs13 hs14 hs15 hs16 hs17 hs18 hs19 hs20 k0 k1 k2 k3 k4 k5 k6 k7 k8 k9 k10 k11 k12 k13 k14 k15 k16 k17 k18 k19 k20
    generalize ((((((((w68.setCell ⟨w67.heap.size, 0, none⟩ (.int .i64 z1)).setCell ⟨w67.heap.size, 1, none⟩ (.int .i64 z2)).setCell ⟨w67.heap.size, 2, none⟩ (.int .i64 z3)).setCell ⟨w67.heap.size, 3, none⟩ (.int .i64 z4)).setCell ⟨w67.heap.size, 4, none⟩ (.int .i64 z5)).setCell ⟨w67.heap.size, 5, none⟩ (.int .i64 z6)).setCell ⟨w67.heap.size, 6, none⟩ (.int .i64 z7)).setCell ⟨w67.heap.size, 7, none⟩ (.int .i64 z8)) = W9 at *
    generalize w67.heap.size = D9 at *
    have HB9 := Lib.hid hb9
    have HX9 := Lib.hid hx9
    clear hb9 hx9
    go_wp2_with fail
    go_loopw [6] (fun i wr => ∃ k : Nat, i = .int .i64 k ∧ k ≤ 8 ∧ wr = W9 ∧ Hid (fnz ([z1, z2, z3, z4, z5, z6, z7, z8].drop k) = fnz [z1, z2, z3, z4, z5, z6, z7, z8])) (fun i _ => 8 - (intOf i).toNat)
    case atStart => exact ⟨0, rfl, by omega, rfl, Lib.hid rfl⟩
    case round =>
      obtain ⟨k, rfl, hk, rfl, HF⟩ := hrel
      rcases (show k = 0 ∨ k = 1 ∨ k = 2 ∨ k = 3 ∨ k = 4 ∨ k = 5 ∨ k = 6 ∨ k = 7 ∨ k = 8 from by omega) with rfl | rfl | rfl | rfl | rfl | rfl | rfl | rfl | rfl
      · have x0 := HX9.out.read (i := 0) rfl
        have HF2 := Lib.hid (show fnz (z1 :: [z2, z3, z4, z5, z6, z7, z8]) = fnz [z1, z2, z3, z4, z5, z6, z7, z8] from HF.out)
        clear HF
        by_cases hz0 : z1 = 0
        · have HF3 := Lib.hid (show fnz [z2, z3, z4, z5, z6, z7, z8] = fnz [z1, z2, z3, z4, z5, z6, z7, z8] from (fnz_skip hz0).symm.trans HF2.out)
          have hzb : (z1 != 0) = false := by simp [hz0]
          clear HF2 hz0
          go_wp2_with fail
          go_roundw
          case rel => exact ⟨1, rfl, by omega, by first | rfl | trivial, HF3⟩
          case measure => simp [intOf]
        · have HF3 := Lib.hid (show z1 = z from (fnz_hit hz0).symm.trans (HF2.out.trans HV.out))
          have hzb : (z1 != 0) = true := by simp [hz0]
          clear HF2 hz0
          go_wp2_with fail
          go_ret
          exact ⟨ret_int HF3.out, HB9.out⟩
      · have x0 := HX9.out.read (i := 1) rfl
        have HF2 := Lib.hid (show fnz (z2 :: [z3, z4, z5, z6, z7, z8]) = fnz [z1, z2, z3, z4, z5, z6, z7, z8] from HF.out)
        clear HF
        by_cases hz0 : z2 = 0
        · have HF3 := Lib.hid (show fnz [z3, z4, z5, z6, z7, z8] = fnz [z1, z2, z3, z4, z5, z6, z7, z8] from (fnz_skip hz0).symm.trans HF2.out)
          have hzb : (z2 != 0) = false := by simp [hz0]
          clear HF2 hz0
          go_wp2_with fail
          go_roundw
          case rel => exact ⟨2, rfl, by omega, by first | rfl | trivial, HF3⟩
          case measure => simp [intOf]
        · have HF3 := Lib.hid (show z2 = z from (fnz_hit hz0).symm.trans (HF2.out.trans HV.out))
          have hzb : (z2 != 0) = true := by simp [hz0]
          clear HF2 hz0
          go_wp2_with fail
          go_ret
          exact ⟨ret_int HF3.out, HB9.out⟩
      · have x0 := HX9.out.read (i := 2) rfl
        have HF2 := Lib.hid (show fnz (z3 :: [z4, z5, z6, z7, z8]) = fnz [z1, z2, z3, z4, z5, z6, z7, z8] from HF.out)
        clear HF
        by_cases hz0 : z3 = 0
        · have HF3 := Lib.hid (show fnz [z4, z5, z6, z7, z8] = fnz [z1, z2, z3, z4, z5, z6, z7, z8] from (fnz_skip hz0).symm.trans HF2.out)
          have hzb : (z3 != 0) = false := by simp [hz0]
          clear HF2 hz0
          go_wp2_with fail
          go_roundw
          case rel => exact ⟨3, rfl, by omega, by first | rfl | trivial, HF3⟩
          case measure => simp [intOf]
        · have HF3 := Lib.hid (show z3 = z from (fnz_hit hz0).symm.trans (HF2.out.trans HV.out))
          have hzb : (z3 != 0) = true := by simp [hz0]
          clear HF2 hz0
          go_wp2_with fail
          go_ret
          exact ⟨ret_int HF3.out, HB9.out⟩
      · have x0 := HX9.out.read (i := 3) rfl
        have HF2 := Lib.hid (show fnz (z4 :: [z5, z6, z7, z8]) = fnz [z1, z2, z3, z4, z5, z6, z7, z8] from HF.out)
        clear HF
        by_cases hz0 : z4 = 0
        · have HF3 := Lib.hid (show fnz [z5, z6, z7, z8] = fnz [z1, z2, z3, z4, z5, z6, z7, z8] from (fnz_skip hz0).symm.trans HF2.out)
          have hzb : (z4 != 0) = false := by simp [hz0]
          clear HF2 hz0
          go_wp2_with fail
          go_roundw
          case rel => exact ⟨4, rfl, by omega, by first | rfl | trivial, HF3⟩
          case measure => simp [intOf]
        · have HF3 := Lib.hid (show z4 = z from (fnz_hit hz0).symm.trans (HF2.out.trans HV.out))
          have hzb : (z4 != 0) = true := by simp [hz0]
          clear HF2 hz0
          go_wp2_with fail
          go_ret
          exact ⟨ret_int HF3.out, HB9.out⟩
      · have x0 := HX9.out.read (i := 4) rfl
        have HF2 := Lib.hid (show fnz (z5 :: [z6, z7, z8]) = fnz [z1, z2, z3, z4, z5, z6, z7, z8] from HF.out)
        clear HF
        by_cases hz0 : z5 = 0
        · have HF3 := Lib.hid (show fnz [z6, z7, z8] = fnz [z1, z2, z3, z4, z5, z6, z7, z8] from (fnz_skip hz0).symm.trans HF2.out)
          have hzb : (z5 != 0) = false := by simp [hz0]
          clear HF2 hz0
          go_wp2_with fail
          go_roundw
          case rel => exact ⟨5, rfl, by omega, by first | rfl | trivial, HF3⟩
          case measure => simp [intOf]
        · have HF3 := Lib.hid (show z5 = z from (fnz_hit hz0).symm.trans (HF2.out.trans HV.out))
          have hzb : (z5 != 0) = true := by simp [hz0]
          clear HF2 hz0
          go_wp2_with fail
          go_ret
          exact ⟨ret_int HF3.out, HB9.out⟩
      · have x0 := HX9.out.read (i := 5) rfl
        have HF2 := Lib.hid (show fnz (z6 :: [z7, z8]) = fnz [z1, z2, z3, z4, z5, z6, z7, z8] from HF.out)
        clear HF
        by_cases hz0 : z6 = 0
        · have HF3 := Lib.hid (show fnz [z7, z8] = fnz [z1, z2, z3, z4, z5, z6, z7, z8] from (fnz_skip hz0).symm.trans HF2.out)
          have hzb : (z6 != 0) = false := by simp [hz0]
          clear HF2 hz0
          go_wp2_with fail
          go_roundw
          case rel => exact ⟨6, rfl, by omega, by first | rfl | trivial, HF3⟩
          case measure => simp [intOf]
        · have HF3 := Lib.hid (show z6 = z from (fnz_hit hz0).symm.trans (HF2.out.trans HV.out))
          have hzb : (z6 != 0) = true := by simp [hz0]
          clear HF2 hz0
          go_wp2_with fail
          go_ret
          exact ⟨ret_int HF3.out, HB9.out⟩
      · have x0 := HX9.out.read (i := 6) rfl
        have HF2 := Lib.hid (show fnz (z7 :: [z8]) = fnz [z1, z2, z3, z4, z5, z6, z7, z8] from HF.out)
        clear HF
        by_cases hz0 : z7 = 0
        · have HF3 := Lib.hid (show fnz [z8] = fnz [z1, z2, z3, z4, z5, z6, z7, z8] from (fnz_skip hz0).symm.trans HF2.out)
          have hzb : (z7 != 0) = false := by simp [hz0]
          clear HF2 hz0
          go_wp2_with fail
          go_roundw
          case rel => exact ⟨7, rfl, by omega, by first | rfl | trivial, HF3⟩
          case measure => simp [intOf]
        · have HF3 := Lib.hid (show z7 = z from (fnz_hit hz0).symm.trans (HF2.out.trans HV.out))
          have hzb : (z7 != 0) = true := by simp [hz0]
          clear HF2 hz0
          go_wp2_with fail
          go_ret
          exact ⟨ret_int HF3.out, HB9.out⟩
      · have x0 := HX9.out.read (i := 7) rfl
        have HF2 := Lib.hid (show fnz (z8 :: []) = fnz [z1, z2, z3, z4, z5, z6, z7, z8] from HF.out)
        clear HF
        by_cases hz0 : z8 = 0
        · have HF3 := Lib.hid (show fnz [] = fnz [z1, z2, z3, z4, z5, z6, z7, z8] from (fnz_skip hz0).symm.trans HF2.out)
          have hzb : (z8 != 0) = false := by simp [hz0]
          clear HF2 hz0
          go_wp2_with fail
          go_roundw
          case rel => exact ⟨8, rfl, by omega, by first | rfl | trivial, HF3⟩
          case measure => simp [intOf]
        · have HF3 := Lib.hid (show z8 = z from (fnz_hit hz0).symm.trans (HF2.out.trans HV.out))
          have hzb : (z8 != 0) = true := by simp [hz0]
          clear HF2 hz0
          go_wp2_with fail
          go_ret
          exact ⟨ret_int HF3.out, HB9.out⟩
      · have HF3 := Lib.hid (show (0 : Int) = z from HF.out.trans HV.out)
        clear HF
        go_wp2_with fail
        go_ret
        exact ⟨ret_int HF3.out, HB9.out⟩
  · have hx9 : Bx ((((((((w68.setCell ⟨w66.heap.size, 0, none⟩ (.int .i64 z1)).setCell ⟨w66.heap.size, 1, none⟩ (.int .i64 z2)).setCell ⟨w66.heap.size, 2, none⟩ (.int .i64 z3)).setCell ⟨w66.heap.size, 3, none⟩ (.int .i64 z4)).setCell ⟨w66.heap.size, 4, none⟩ (.int .i64 z5)).setCell ⟨w66.heap.size, 5, none⟩ (.int .i64 z6)).setCell ⟨w66.heap.size, 6, none⟩ (.int .i64 z7)).setCell ⟨w66.heap.size, 7, none⟩ (.int .i64 z8)) w66.heap.size 93 #[.int .i64 z1, .int .i64 z2, .int .i64 z3, .int .i64 z4, .int .i64 z5, .int .i64 z6, .int .i64 z7, .int .i64 z8] := (ax_fin hx.out k20.out).1
    have hb9 : Below w.heap.size w ((((((((w68.setCell ⟨w66.heap.size, 0, none⟩ (.int .i64 z1)).setCell ⟨w66.heap.size, 1, none⟩ (.int .i64 z2)).setCell ⟨w66.heap.size, 2, none⟩ (.int .i64 z3)).setCell ⟨w66.heap.size, 3, none⟩ (.int .i64 z4)).setCell ⟨w66.heap.size, 4, none⟩ (.int .i64 z5)).setCell ⟨w66.heap.size, 5, none⟩ (.int .i64 z6)).setCell ⟨w66.heap.size, 6, none⟩ (.int .i64 z7)).setCell ⟨w66.heap.size, 7, none⟩ (.int .i64 z8)) := (ax_fin hx.out k20.out).2
    clear C1 DC1 EC1 C2 DC2 EC2 C3 DC3 EC3 C4 DC4 EC4 C5 DC5 EC5 C6 DC6 EC6 C7 DC7 EC7 C8 DC8 EC8 FC1 SK HSD HK hs0 hs1 hs2 hs3 hs4 hs5 hs6 hs7 hs8 hs9 hs10 hs11 hs12 hs13 hs14 hs15 hs16 hs17 hs18 hs19 hs20 k0 k1 k2 k3 k4 k5 k6 k7 k8 k9 k10 k11 k12 k13 k14 k15 k16 k17 k18 k19 k20
    generalize ((((((((w68.setCell ⟨w66.heap.size, 0, none⟩ (.int .i64 z1)).setCell ⟨w66.heap.size, 1, none⟩ (.int .i64 z2)).setCell ⟨w66.heap.size, 2, none⟩ (.int .i64 z3)).setCell ⟨w66.heap.size, 3, none⟩ (.int .i64 z4)).setCell ⟨w66.heap.size, 4, none⟩ (.int .i64 z5)).setCell ⟨w66.heap.size, 5, none⟩ (.int .i64 z6)).setCell ⟨w66.heap.size, 6, none⟩ (.int .i64 z7)).setCell ⟨w66.heap.size, 7, none⟩ (.int .i64 z8)) = W9 at *
    generalize w66.heap.size = D9 at *
    have HB9 := Lib.hid hb9
    have HX9 := Lib.hid hx9
    clear hb9 hx9
    go_wp2_with fail
    go_loopw [6] (fun i wr => ∃ k : Nat, i = .int .i64 k ∧ k ≤ 8 ∧ wr = W9 ∧ Hid (fnz ([z1, z2, z3, z4, z5, z6, z7, z8].drop k) = fnz [z1, z2, z3, z4, z5, z6, z7, z8])) (fun i _ => 8 - (intOf i).toNat)
    case atStart => exact ⟨0, rfl, by omega, rfl, Lib.hid rfl⟩
    case round =>
      obtain ⟨k, rfl, hk, rfl, HF⟩ := hrel
      rcases (show k = 0 ∨ k = 1 ∨ k = 2 ∨ k = 3 ∨ k = 4 ∨ k = 5 ∨ k = 6 ∨ k = 7 ∨ k = 8 from by omega) with rfl | rfl | rfl | rfl | rfl | rfl | rfl | rfl | rfl
      · have x0 := HX9.out.read (i := 0) rfl
        have HF2 := Lib.hid (show fnz (z1 :: [z2, z3, z4, z5, z6, z7, z8]) = fnz [z1, z2, z3, z4, z5, z6, z7, z8] from HF.out)
        clear HF
        by_cases hz0 : z1 = 0
        · have HF3 := Lib.hid (show fnz [z2, z3, z4, z5, z6, z7, z8] = fnz [z1, z2, z3, z4, z5, z6, z7, z8] from (fnz_skip hz0).symm.trans HF2.out)
          have hzb : (z1 != 0) = false := by simp [hz0]
          clear HF2 hz0
          go_wp2_with fail
          go_roundw
          case rel => exact ⟨1, rfl, by omega, by first | rfl | trivial, HF3⟩
          case measure => simp [intOf]
        · have HF3 := Lib.hid (show z1 = z from (fnz_hit hz0).symm.trans (HF2.out.trans HV.out))
          have hzb : (z1 != 0) = true := by simp [hz0]
          clear HF2 hz0
          go_wp2_with fail
          go_ret
          exact ⟨ret_int HF3.out, HB9.out⟩
      · have x0 := HX9.out.read (i := 1) rfl
        have HF2 := Lib.hid (show fnz (z2 :: [z3, z4, z5, z6, z7, z8]) = fnz [z1, z2, z3, z4, z5, z6, z7, z8] from HF.out)
        clear HF
        by_cases hz0 : z2 = 0
        · have HF3 := Lib.hid (show fnz [z3, z4, z5, z6, z7, z8] = fnz [z1, z2, z3, z4, z5, z6, z7, z8] from (fnz_skip hz0).symm.trans HF2.out)
          have hzb : (z2 != 0) = false := by simp [hz0]
          clear HF2 hz0
          go_wp2_with fail
          go_roundw
          case rel => exact ⟨2, rfl, by omega, by first | rfl | trivial, HF3⟩
          case measure => simp [intOf]
        · have HF3 := Lib.hid (show z2 = z from (fnz_hit hz0).symm.trans (HF2.out.trans HV.out))
          have hzb : (z2 != 0) = true := by simp [hz0]
          clear HF2 hz0
          go_wp2_with fail
          go_ret
          exact ⟨ret_int HF3.out, HB9.out⟩
      · have x0 := HX9.out.read (i := 2) rfl
        have HF2 := Lib.hid (show fnz (z3 :: [z4, z5, z6, z7, z8]) = fnz [z1, z2, z3, z4, z5, z6, z7, z8] from HF.out)
        clear HF
        by_cases hz0 : z3 = 0
        · have HF3 := Lib.hid (show fnz [z4, z5, z6, z7, z8] = fnz [z1, z2, z3, z4, z5, z6, z7, z8] from (fnz_skip hz0).symm.trans HF2.out)
          have hzb : (z3 != 0) = false := by simp [hz0]
          clear HF2 hz0
          go_wp2_with fail
          go_roundw
          case rel => exact ⟨3, rfl, by omega, by first | rfl | trivial, HF3⟩
          case measure => simp [intOf]
        · have HF3 := Lib.hid (show z3 = z from (fnz_hit hz0).symm.trans (HF2.out.trans HV.out))
          have hzb : (z3 != 0) = true := by simp [hz0]
          clear HF2 hz0
          go_wp2_with fail
          go_ret
          exact ⟨ret_int HF3.out, HB9.out⟩
      · have x0 := HX9.out.read (i := 3) rfl
        have HF2 := Lib.hid (show fnz (z4 :: [z5, z6, z7, z8]) = fnz [z1, z2, z3, z4, z5, z6, z7, z8] from HF.out)
        clear HF
        by_cases hz0 : z4 = 0
        · have HF3 := Lib.hid (show fnz [z5, z6, z7, z8] = fnz [z1, z2, z3, z4, z5, z6, z7, z8] from (fnz_skip hz0).symm.trans HF2.out)
          have hzb : (z4 != 0) = false := by simp [hz0]
          clear HF2 hz0
          go_wp2_with fail
          go_roundw
          case rel => exact ⟨4, rfl, by omega, by first | rfl | trivial, HF3⟩
          case measure => simp [intOf]
        · have HF3 := Lib.hid (show z4 = z from (fnz_hit hz0).symm.trans (HF2.out.trans HV.out))
          have hzb : (z4 != 0) = true := by simp [hz0]
          clear HF2 hz0
          go_wp2_with fail
          go_ret
          exact ⟨ret_int HF3.out, HB9.out⟩
      · have x0 := HX9.out.read (i := 4) rfl
        have HF2 := Lib.hid (show fnz (z5 :: [z6, z7, z8]) = fnz [z1, z2, z3, z4, z5, z6, z7, z8] from HF.out)
        clear HF
        by_cases hz0 : z5 = 0
        · have HF3 := Lib.hid (show fnz [z6, z7, z8] = fnz [z1, z2, z3, z4, z5, z6, z7, z8] from (fnz_skip hz0).symm.trans HF2.out)
          have hzb : (z5 != 0) = false := by simp [hz0]
          clear HF2 hz0
          go_wp2_with fail
          go_roundw
          case rel => exact ⟨5, rfl, by omega, by first | rfl | trivial, HF3⟩
          case measure => simp [intOf]
        · have HF3 := Lib.hid (show z5 = z from (fnz_hit hz0).symm.trans (HF2.out.trans HV.out))
          have hzb : (z5 != 0) = true := by simp [hz0]
          clear HF2 hz0
          go_wp2_with fail
          go_ret
          exact ⟨ret_int HF3.out, HB9.out⟩
      · have x0 := HX9.out.read (i := 5) rfl
        have HF2 := Lib.hid (show fnz (z6 :: [z7, z8]) = fnz [z1, z2, z3, z4, z5, z6, z7, z8] from HF.out)
        clear HF
        by_cases hz0 : z6 = 0
        · have HF3 := Lib.hid (show fnz [z7, z8] = fnz [z1, z2, z3, z4, z5, z6, z7, z8] from (fnz_skip hz0).symm.trans HF2.out)
          have hzb : (z6 != 0) = false := by simp [hz0]
          clear HF2 hz0
          go_wp2_with fail
          go_roundw
          case rel => exact ⟨6, rfl, by omega, by first | rfl | trivial, HF3⟩
          case measure => simp [intOf]
        · have HF3 := Lib.hid (show z6 = z from (fnz_hit hz0).symm.trans (HF2.out.trans HV.out))
          have hzb : (z6 != 0) = true := by simp [hz0]
          clear HF2 hz0
          go_wp2_with fail
          go_ret
          exact ⟨ret_int HF3.out, HB9.out⟩
      · have x0 := HX9.out.read (i := 6) rfl
        have HF2 := Lib.hid (show fnz (z7 :: [z8]) = fnz [z1, z2, z3, z4, z5, z6, z7, z8] from HF.out)
        clear HF
        by_cases hz0 : z7 = 0
        · have HF3 := Lib.hid (show fnz [z8] = fnz [z1, z2, z3, z4, z5, z6, z7, z8] from (fnz_skip hz0).symm.trans HF2.out)
          have hzb : (z7 != 0) = false := by simp [hz0]
          clear HF2 hz0
          go_wp2_with fail
          go_roundw
          case rel => exact ⟨7, rfl, by omega, by first | rfl | trivial, HF3⟩
          case measure => simp [intOf]
        · have HF3 := Lib.hid (show z7 = z from (fnz_hit hz0).symm.trans (HF2.out.trans HV.out))
          have hzb : (z7 != 0) = true := by simp [hz0]
          clear HF2 hz0
          go_wp2_with fail
          go_ret
          exact ⟨ret_int HF3.out, HB9.out⟩
      · have x0 := HX9.out.read (i := 7) rfl
        have HF2 := Lib.hid (show fnz (z8 :: []) = fnz [z1, z2, z3, z4, z5, z6, z7, z8] from HF.out)
        clear HF
        by_cases hz0 : z8 = 0
        · have HF3 := Lib.hid (show fnz [] = fnz [z1, z2, z3, z4, z5, z6, z7, z8] from (fnz_skip hz0).symm.trans HF2.out)
          have hzb : (z8 != 0) = false := by simp [hz0]
          clear HF2 hz0
          go_wp2_with fail
          go_roundw
          case rel => exact ⟨8, rfl, by omega, by first | rfl | trivial, HF3⟩
          case measure => simp [intOf]
        · have HF3 := Lib.hid (show z8 = z from (fnz_hit hz0).symm.trans (HF2.out.trans HV.out))
          have hzb : (z8 != 0) = true := by simp [hz0]
          clear HF2 hz0
          go_wp2_with fail
          go_ret
          exact ⟨ret_int HF3.out, HB9.out⟩
      · have HF3 := Lib.hid (show (0 : Int) = z from HF.out.trans HV.out)
        clear HF
        go_wp2_with fail
        go_ret
        exact ⟨ret_int HF3.out, HB9.out⟩
  · have hx9 : Bx ((((((((w68.setCell ⟨w65.heap.size, 0, none⟩ (.int .i64 z1)).setCell ⟨w65.heap.size, 1, none⟩ (.int .i64 z2)).setCell ⟨w65.heap.size, 2, none⟩ (.int .i64 z3)).setCell ⟨w65.heap.size, 3, none⟩ (.int .i64 z4)).setCell ⟨w65.heap.size, 4, none⟩ (.int .i64 z5)).setCell ⟨w65.heap.size, 5, none⟩ (.int .i64 z6)).setCell ⟨w65.heap.size, 6, none⟩ (.int .i64 z7)).setCell ⟨w65.heap.size, 7, none⟩ (.int .i64 z8)) w65.heap.size 93 #[.int .i64 z1, .int .i64 z2, .int .i64 z3, .int .i64 z4, .int .i64 z5, .int .i64 z6, .int .i64 z7, .int .i64 z8] := (ax_fin hx.out k20.out).1
    have hb9 : Below w.heap.size w ((((((((w68.setCell ⟨w65.heap.size, 0, none⟩ (.int .i64 z1)).setCell ⟨w65.heap.size, 1, none⟩ (.int .i64 z2)).setCell ⟨w65.heap.size, 2, none⟩ (.int .i64 z3)).setCell ⟨w65.heap.size, 3, none⟩ (.int .i64 z4)).setCell ⟨w65.heap.size, 4, none⟩ (.int .i64 z5)).setCell ⟨w65.heap.size, 5, none⟩ (.int .i64 z6)).setCell ⟨w65.heap.size, 6, none⟩ (.int .i64 z7)).setCell ⟨w65.heap.size, 7, none⟩ (.int .i64 z8)) := (ax_fin hx.out k20.out).2
    clear C1 DC1 EC1 C2 DC2 EC2 C3 DC3 EC3 C4 DC4 EC4 C5 DC5 EC5 C6 DC6 EC6 C7 DC7 EC7 C8 DC8 EC8 FC1 SK HSD HK hs0 hs1 hs2 hs3 hs4 hs5 hs6 hs7 hs8 hs9 hs10 hs11 hs12 hs13 hs14 hs15 hs16 hs17 hs18 hs19 hs20 k0 k1 k2 k3 k4 k5 k6 k7 k8 k9 k10 k11 k12 k13 k14 k15 k16 k17 k18 k19 k20
    generalize ((((((((w68.setCell ⟨w65.heap.size, 0, none⟩ (.int .i64 z1)).setCell ⟨w65.heap.size, 1, none⟩ (.int .i64 z2)).setCell ⟨w65.heap.size, 2, none⟩ (.int .i64 z3)).setCell ⟨w65.heap.size, 3, none⟩ (.int .i64 z4)).setCell ⟨w65.heap.size, 4, none⟩ (.int .i64 z5)).setCell ⟨w65.heap.size, 5, none⟩ (.int .i64 z6)).setCell ⟨w65.heap.size, 6, none⟩ (.int .i64 z7)).setCell ⟨w65.heap.size, 7, none⟩ (.int .i64 z8)) = W9 at *
    generalize w65.heap.size = D9 at *
    have HB9 := Lib.hid hb9
    have HX9 := Lib.hid hx9
    clear hb9 hx9
    go_wp2_with fail
    go_loopw [6] (fun i wr => ∃ k : Nat, i = .int .i64 k ∧ k ≤ 8 ∧ wr = W9 ∧ Hid (fnz ([z1, z2, z3, z4, z5, z6, z7, z8].drop k) = fnz [z1, z2, z3, z4, z5, z6, z7, z8])) (fun i _ => 8 - (intOf i).toNat)
    case atStart => exact ⟨0, rfl, by omega, rfl, Lib.hid rfl⟩
    case round =>
      obtain ⟨k, rfl, hk, rfl, HF⟩ := hrel
      rcases (show k = 0 ∨ k = 1 ∨ k = 2 ∨ k = 3 ∨ k = 4 ∨ k = 5 ∨ k = 6 ∨ k = 7 ∨ k = 8 from by omega) with rfl | rfl | rfl | rfl | rfl | rfl | rfl | rfl | rfl
      · have x0 := HX9.out.read (i := 0) rfl
        have HF2 := Lib.hid (show fnz (z1 :: [z2, z3, z4, z5, z6, z7, z8]) = fnz [z1, z2, z3, z4, z5, z6, z7, z8] from HF.out)
        clear HF
        by_cases hz0 : z1 = 0
        · have HF3 := Lib.hid (show fnz [z2, z3, z4, z5, z6, z7, z8] = fnz [z1, z2, z3, z4, z5, z6, z7, z8] from (fnz_skip hz0).symm.trans HF2.out)
          have hzb : (z1 != 0) = false := by simp [hz0]
          clear HF2 hz0
          go_wp2_with fail
          go_roundw
          case rel => exact ⟨1, rfl, by omega, by first | rfl | trivial, HF3⟩
          case measure => simp [intOf]
        · have HF3 := Lib.hid (show z1 = z from (fnz_hit hz0).symm.trans (HF2.out.trans HV.out))
          have hzb : (z1 != 0) = true := by simp [hz0]
          clear HF2 hz0
          go_wp2_with fail
          go_ret
          exact ⟨ret_int HF3.out, HB9.out⟩
      · have x0 := HX9.out.read (i := 1) rfl
        have HF2 := Lib.hid (show fnz (z2 :: [z3, z4, z5, z6, z7, z8]) = fnz [z1, z2, z3, z4, z5, z6, z7, z8] from HF.out)
        clear HF
        by_cases hz0 : z2 = 0
        · have HF3 := Lib.hid (show fnz [z3, z4, z5, z6, z7, z8] = fnz [z1, z2, z3, z4, z5, z6, z7, z8] from (fnz_skip hz0).symm.trans HF2.out)
          have hzb : (z2 != 0) = false := by simp [hz0]
          clear HF2 hz0
          go_wp2_with fail
          go_roundw
          case rel => exact ⟨2, rfl, by omega, by first | rfl | trivial, HF3⟩
          case measure => simp [intOf]
        · have HF3 := Lib.hid (show z2 = z from (fnz_hit hz0).symm.trans (HF2.out.trans HV.out))
          have hzb : (z2 != 0) = true := by simp [hz0]
          clear HF2 hz0
          go_wp2_with fail
          go_ret
          exact ⟨ret_int HF3.out, HB9.out⟩
      · have x0 := HX9.out.read (i := 2) rfl
        have HF2 := Lib.hid (show fnz (z3 :: [z4, z5, z6, z7, z8]) = fnz [z1, z2, z3, z4, z5, z6, z7, z8] from HF.out)
        clear HF
        by_cases hz0 : z3 = 0
        · have HF3 := Lib.hid (show fnz [z4, z5, z6, z7, z8] = fnz [z1, z2, z3, z4, z5, z6, z7, z8] from (fnz_skip hz0).symm.trans HF2.out)
          have hzb : (z3 != 0) = false := by simp [hz0]
          clear HF2 hz0
          go_wp2_with fail
          go_roundw
          case rel => exact ⟨3, rfl, by omega, by first | rfl | trivial, HF3⟩
          case measure => simp [intOf]
        · have HF3 := Lib.hid (show z3 = z from (fnz_hit hz0).symm.trans (HF2.out.trans HV.out))
          have hzb : (z3 != 0) = true := by simp [hz0]
          clear HF2 hz0
          go_wp2_with fail
          go_ret
          exact ⟨ret_int HF3.out, HB9.out⟩
      · have x0 := HX9.out.read (i := 3) rfl
        have HF2 := Lib.hid (show fnz (z4 :: [z5, z6, z7, z8]) = fnz [z1, z2, z3, z4, z5, z6, z7, z8] from HF.out)
        clear HF
        by_cases hz0 : z4 = 0
        · have HF3 := Lib.hid (show fnz [z5, z6, z7, z8] = fnz [z1, z2, z3, z4, z5, z6, z7, z8] from (fnz_skip hz0).symm.trans HF2.out)
          have hzb : (z4 != 0) = false := by simp [hz0]
          clear HF2 hz0
          go_wp2_with fail
          go_roundw
          case rel => exact ⟨4, rfl, by omega, by first | rfl | trivial, HF3⟩
          case measure => simp [intOf]
        · have HF3 := Lib.hid (show z4 = z from (fnz_hit hz0).symm.trans (HF2.out.trans HV.out))
          have hzb : (z4 != 0) = true := by simp [hz0]
          clear HF2 hz0
          go_wp2_with fail
          go_ret
          exact ⟨ret_int HF3.out, HB9.out⟩
      · have x0 := HX9.out.read (i := 4) rfl
        have HF2 := Lib.hid (show fnz (z5 :: [z6, z7, z8]) = fnz [z1, z2, z3, z4, z5, z6, z7, z8] from HF.out)
        clear HF
        by_cases hz0 : z5 = 0
        · have HF3 := Lib.hid (show fnz [z6, z7, z8] = fnz [z1, z2, z3, z4, z5, z6, z7, z8] from (fnz_skip hz0).symm.trans HF2.out)
          have hzb : (z5 != 0) = false := by simp [hz0]
          clear HF2 hz0
          go_wp2_with fail
          go_roundw
          case rel => exact ⟨5, rfl, by omega, by first | rfl | trivial, HF3⟩
          case measure => simp [intOf]
        · have HF3 := Lib.hid (show z5 = z from (fnz_hit hz0).symm.trans (HF2.out.trans HV.out))
          have hzb : (z5 != 0) = true := by simp [hz0]
          clear HF2 hz0
          go_wp2_with fail
          go_ret
          exact ⟨ret_int HF3.out, HB9.out⟩
      · have x0 := HX9.out.read (i := 5) rfl
        have HF2 := Lib.hid (show fnz (z6 :: [z7, z8]) = fnz [z1, z2, z3, z4, z5, z6, z7, z8] from HF.out)
        clear HF
        by_cases hz0 : z6 = 0
        · have HF3 := Lib.hid (show fnz [z7, z8] = fnz [z1, z2, z3, z4, z5, z6, z7, z8] from (fnz_skip hz0).symm.trans HF2.out)
          have hzb : (z6 != 0) = false := by simp [hz0]
          clear HF2 hz0
          go_wp2_with fail
          go_roundw
          case rel => exact ⟨6, rfl, by omega, by first | rfl | trivial, HF3⟩
          case measure => simp [intOf]
        · have HF3 := Lib.hid (show z6 = z from (fnz_hit hz0).symm.trans (HF2.out.trans HV.out))
          have hzb : (z6 != 0) = true := by simp [hz0]
          clear HF2 hz0
          go_wp2_with fail
          go_ret
          exact ⟨ret_int HF3.out, HB9.out⟩
      · have x0 := HX9.out.read (i := 6) rfl
        have HF2 := Lib.hid (show fnz (z7 :: [z8]) = fnz [z1, z2, z3, z4, z5, z6, z7, z8] from HF.out)
        clear HF
        by_cases hz0 : z7 = 0
        · have HF3 := Lib.hid (show fnz [z8] = fnz [z1, z2, z3, z4, z5, z6, z7, z8] from (fnz_skip hz0).symm.trans HF2.out)
          have hzb : (z7 != 0) = false := by simp [hz0]
          clear HF2 hz0
          go_wp2_with fail
          go_roundw
          case rel => exact ⟨7, rfl, by omega, by first | rfl | trivial, HF3⟩
          case measure => simp [intOf]
        · have HF3 := Lib.hid (show z7 = z from (fnz_hit hz0).symm.trans (HF2.out.trans HV.out))
          have hzb : (z7 != 0) = true := by simp [hz0]
          clear HF2 hz0
          go_wp2_with fail
          go_ret
          exact ⟨ret_int HF3.out, HB9.out⟩
      · have x0 := HX9.out.read (i := 7) rfl
        have HF2 := Lib.hid (show fnz (z8 :: []) = fnz [z1, z2, z3, z4, z5, z6, z7, z8] from HF.out)
        clear HF
        by_cases hz0 : z8 = 0
        · have HF3 := Lib.hid (show fnz [] = fnz [z1, z2, z3, z4, z5, z6, z7, z8] from (fnz_skip hz0).symm.trans HF2.out)
          have hzb : (z8 != 0) = false := by simp [hz0]
          clear HF2 hz0
          go_wp2_with fail
          go_roundw
          case rel => exact ⟨8, rfl, by omega, by first | rfl | trivial, HF3⟩
          case measure => simp [intOf]
        · have HF3 := Lib.hid (show z8 = z from (fnz_hit hz0).symm.trans (HF2.out.trans HV.out))
          have hzb : (z8 != 0) = true := by simp [hz0]
          clear HF2 hz0
          go_wp2_with fail
          go_ret
          exact ⟨ret_int HF3.out, HB9.out⟩
      · have HF3 := Lib.hid (show (0 : Int) = z from HF.out.trans HV.out)
        clear HF
        go_wp2_with fail
        go_ret
        exact ⟨ret_int HF3.out, HB9.out⟩
  · have hx9 : Bx ((((((((w68.setCell ⟨w64.heap.size, 0, none⟩ (.int .i64 z1)).setCell ⟨w64.heap.size, 1, none⟩ (.int .i64 z2)).setCell ⟨w64.heap.size, 2, none⟩ (.int .i64 z3)).setCell ⟨w64.heap.size, 3, none⟩ (.int .i64 z4)).setCell ⟨w64.heap.size, 4, none⟩ (.int .i64 z5)).setCell ⟨w64.heap.size, 5, none⟩ (.int .i64 z6)).setCell ⟨w64.heap.size, 6, none⟩ (.int .i64 z7)).setCell ⟨w64.heap.size, 7, none⟩ (.int .i64 z8)) w64.heap.size 93 #[.int .i64 z1, .int .i64 z2, .int .i64 z3, .int .i64 z4, .int .i64 z5, .int .i64 z6, .int .i64 z7, .int .i64 z8] := (ax_fin hx.out k20.out).1
    have hb9 : Below w.heap.size w ((((((((w68.setCell ⟨w64.heap.size, 0, none⟩ (.int .i64 z1)).setCell ⟨w64.heap.size, 1, none⟩ (.int .i64 z2)).setCell ⟨w64.heap.size, 2, none⟩ (.int .i64 z3)).setCell ⟨w64.heap.size, 3, none⟩ (.int .i64 z4)).setCell ⟨w64.heap.size, 4, none⟩ (.int .i64 z5)).setCell ⟨w64.heap.size, 5, none⟩ (.int .i64 z6)).setCell ⟨w64.heap.size, 6, none⟩ (.int .i64 z7)).setCell ⟨w64.heap.size, 7, none⟩ (.int .i64 z8)) := (ax_fin hx.out k20.out).2
    clear C1 DC1 EC1 C2 DC2 EC2 C3 DC3 EC3 C4 DC4 EC4 C5 DC5 EC5 C6 DC6 EC6 C7 DC7 EC7 C8 DC8 EC8 FC1 SK HSD HK hs0 hs1 hs2 hs3 hs4 hs5 hs6 hs7 hs8 hs9 hs10 hs11 hs12 hs13 hs14 hs15 hs16 hs17 hs18 hs19 hs20 k0 k1 k2 k3 k4 k5 k6 k7 k8 k9 k10 k11 k12 k13 k14 k15 k16 k17 k18 k19 k20
    generalize ((((((((w68.setCell ⟨w64.heap.size, 0, none⟩ (.int .i64 z1)).setCell ⟨w64.heap.size, 1, none⟩ (.int .i64 z2)).setCell ⟨w64.heap.size, 2, none⟩ (.int .i64 z3)).setCell ⟨w64.heap.size, 3, none⟩ (.int .i64 z4)).setCell ⟨w64.heap.size, 4, none⟩ (.int .i64 z5)).setCell ⟨w64.heap.size, 5, none⟩ (.int .i64 z6)).setCell ⟨w64.heap.size, 6, none⟩ (.int .i64 z7)).setCell ⟨w64.heap.size, 7, none⟩ (.int .i64 z8)) = W9 at *
    generalize w64.heap.size = D9 at *
    have HB9 := Lib.hid hb9
    have HX9 := Lib.hid hx9
    clear hb9 hx9
    go_wp2_with fail
    go_loopw [6] (fun i wr => ∃ k : Nat, i = .int .i64 k ∧ k ≤ 8 ∧ wr = W9 ∧ Hid (fnz ([z1, z2, z3, z4, z5, z6, z7, z8].drop k) = fnz [z1, z2, z3, z4, z5, z6, z7, z8])) (fun i _ => 8 - (intOf i).toNat)
    case atStart => exact ⟨0, rfl, by omega, rfl, Lib.hid rfl⟩
    case round =>
      obtain ⟨k, rfl, hk, rfl, HF⟩ := hrel
      rcases (show k = 0 ∨ k = 1 ∨ k = 2 ∨ k = 3 ∨ k = 4 ∨ k = 5 ∨ k = 6 ∨ k = 7 ∨ k = 8 from by omega) with rfl | rfl | rfl | rfl | rfl | rfl | rfl | rfl | rfl
      · have x0 := HX9.out.read (i := 0) rfl
        have HF2 := Lib.hid (show fnz (z1 :: [z2, z3, z4, z5, z6, z7, z8]) = fnz [z1, z2, z3, z4, z5, z6, z7, z8] from HF.out)
        clear HF
        by_cases hz0 : z1 = 0
        · have HF3 := Lib.hid (show fnz [z2, z3, z4, z5, z6, z7, z8] = fnz [z1, z2, z3, z4, z5, z6, z7, z8] from (fnz_skip hz0).symm.trans HF2.out)
          have hzb : (z1 != 0) = false := by simp [hz0]
          clear HF2 hz0
          go_wp2_with fail
          go_roundw
          case rel => exact ⟨1, rfl, by omega, by first | rfl | trivial, HF3⟩
          case measure => simp [intOf]
        · have HF3 := Lib.hid (show z1 = z from (fnz_hit hz0).symm.trans (HF2.out.trans HV.out))
          have hzb : (z1 != 0) = true := by simp [hz0]
          clear HF2 hz0
          go_wp2_with fail
          go_ret
          exact ⟨ret_int HF3.out, HB9.out⟩
      · have x0 := HX9.out.read (i := 1) rfl
        have HF2 := Lib.hid (show fnz (z2 :: [z3, z4, z5, z6, z7, z8]) = fnz [z1, z2, z3, z4, z5, z6, z7, z8] from HF.out)
        clear HF
        by_cases hz0 : z2 = 0
        · have HF3 := Lib.hid (show fnz [z3, z4, z5, z6, z7, z8] = fnz [z1, z2, z3, z4, z5, z6, z7, z8] from (fnz_skip hz0).symm.trans HF2.out)
          have hzb : (z2 != 0) = false := by simp [hz0]
          clear HF2 hz0
          go_wp2_with fail
          go_roundw
          case rel => exact ⟨2, rfl, by omega, by first | rfl | trivial, HF3⟩
          case measure => simp [intOf]
        · have HF3 := Lib.hid (show z2 = z from (fnz_hit hz0).symm.trans (HF2.out.trans HV.out))
          have hzb : (z2 != 0) = true := by simp [hz0]
          clear HF2 hz0
          go_wp2_with fail
          go_ret
          exact ⟨ret_int HF3.out, HB9.out⟩
      · have x0 := HX9.out.read (i := 2) rfl
        have HF2 := Lib.hid (show fnz (z3 :: [z4, z5, z6, z7, z8]) = fnz [z1, z2, z3, z4, z5, z6, z7, z8] from HF.out)
        clear HF
        by_cases hz0 : z3 = 0
        · have HF3 := Lib.hid (show fnz [z4, z5, z6, z7, z8] = fnz [z1, z2, z3, z4, z5, z6, z7, z8] from (fnz_skip hz0).symm.trans HF2.out)
          have hzb : (z3 != 0) = false := by simp [hz0]
          clear HF2 hz0
          go_wp2_with fail
          go_roundw
          case rel => exact ⟨3, rfl, by omega, by first | rfl | trivial, HF3⟩
          case measure => simp [intOf]
        · have HF3 := Lib.hid (show z3 = z from (fnz_hit hz0).symm.trans (HF2.out.trans HV.out))
          have hzb : (z3 != 0) = true := by simp [hz0]
          clear HF2 hz0
          go_wp2_with fail
          go_ret
          exact ⟨ret_int HF3.out, HB9.out⟩
      · have x0 := HX9.out.read (i := 3) rfl
        have HF2 := Lib.hid (show fnz (z4 :: [z5, z6, z7, z8]) = fnz [z1, z2, z3, z4, z5, z6, z7, z8] from HF.out)
        clear HF
        by_cases hz0 : z4 = 0
        · have HF3 := Lib.hid (show fnz [z5, z6, z7, z8] = fnz [z1, z2, z3, z4, z5, z6, z7, z8] from (fnz_skip hz0).symm.trans HF2.out)
          have hzb : (z4 != 0) = false := by simp [hz0]
          clear HF2 hz0
          go_wp2_with fail
          go_roundw
          case rel => exact ⟨4, rfl, by omega, by first | rfl | trivial, HF3⟩
          case measure => simp [intOf]
        · have HF3 := Lib.hid (show z4 = z from (fnz_hit hz0).symm.trans (HF2.out.trans HV.out))
          have hzb : (z4 != 0) = true := by simp [hz0]
          clear HF2 hz0
          go_wp2_with fail
          go_ret
          exact ⟨ret_int HF3.out, HB9.out⟩
      · have x0 := HX9.out.read (i := 4) rfl
        have HF2 := Lib.hid (show fnz (z5 :: [z6, z7, z8]) = fnz [z1, z2, z3, z4, z5, z6, z7, z8] from HF.out)
        clear HF
        by_cases hz0 : z5 = 0
        · have HF3 := Lib.hid (show fnz [z6, z7, z8] = fnz [z1, z2, z3, z4, z5, z6, z7, z8] from (fnz_skip hz0).symm.trans HF2.out)
          have hzb : (z5 != 0) = false := by simp [hz0]
          clear HF2 hz0
          go_wp2_with fail
          go_roundw
          case rel => exact ⟨5, rfl, by omega, by first | rfl | trivial, HF3⟩
          case measure => simp [intOf]
        · have HF3 := Lib.hid (show z5 = z from (fnz_hit hz0).symm.trans (HF2.out.trans HV.out))
          have hzb : (z5 != 0) = true := by simp [hz0]
          clear HF2 hz0
          go_wp2_with fail
          go_ret
          exact ⟨ret_int HF3.out, HB9.out⟩
      · have x0 := HX9.out.read (i := 5) rfl
        have HF2 := Lib.hid (show fnz (z6 :: [z7, z8]) = fnz [z1, z2, z3, z4, z5, z6, z7, z8] from HF.out)
        clear HF
        by_cases hz0 : z6 = 0
        · have HF3 := Lib.hid (show fnz [z7, z8] = fnz [z1, z2, z3, z4, z5, z6, z7, z8] from (fnz_skip hz0).symm.trans HF2.out)
          have hzb : (z6 != 0) = false := by simp [hz0]
          clear HF2 hz0
          go_wp2_with fail
          go_roundw
          case rel => exact ⟨6, rfl, by omega, by first | rfl | trivial, HF3⟩
          case measure => simp [intOf]
        · have HF3 := Lib.hid (show z6 = z from (fnz_hit hz0).symm.trans (HF2.out.trans HV.out))
          have hzb : (z6 != 0) = true := by simp [hz0]
          clear HF2 hz0
          go_wp2_with fail
          go_ret
          exact ⟨ret_int HF3.out, HB9.out⟩
      · have x0 := HX9.out.read (i := 6) rfl
        have HF2 := Lib.hid (show fnz (z7 :: [z8]) = fnz [z1, z2, z3, z4, z5, z6, z7, z8] from HF.out)
        clear HF
        by_cases hz0 : z7 = 0
        · have HF3 := Lib.hid (show fnz [z8] = fnz [z1, z2, z3, z4, z5, z6, z7, z8] from (fnz_skip hz0).symm.trans HF2.out)
          have hzb : (z7 != 0) = false := by simp [hz0]
          clear HF2 hz0
          go_wp2_with fail
          go_roundw
          case rel => exact ⟨7, rfl, by omega, by first | rfl | trivial, HF3⟩
          case measure => simp [intOf]
        · have HF3 := Lib.hid (show z7 = z from (fnz_hit hz0).symm.trans (HF2.out.trans HV.out))
          have hzb : (z7 != 0) = true := by simp [hz0]
          clear HF2 hz0
          go_wp2_with fail
          go_ret
          exact ⟨ret_int HF3.out, HB9.out⟩
      · have x0 := HX9.out.read (i := 7) rfl
        have HF2 := Lib.hid (show fnz (z8 :: []) = fnz [z1, z2, z3, z4, z5, z6, z7, z8] from HF.out)
        clear HF
        by_cases hz0 : z8 = 0
        · have HF3 := Lib.hid (show fnz [] = fnz [z1, z2, z3, z4, z5, z6, z7, z8] from (fnz_skip hz0).symm.trans HF2.out)
          have hzb : (z8 != 0) = false := by simp [hz0]
          clear HF2 hz0
          go_wp2_with fail
          go_roundw
          case rel => exact ⟨8, rfl, by omega, by first | rfl | trivial, HF3⟩
          case measure => simp [intOf]
        · have HF3 := Lib.hid (show z8 = z from (fnz_hit hz0).symm.trans (HF2.out.trans HV.out))
          have hzb : (z8 != 0) = true := by simp [hz0]
          clear HF2 hz0
          go_wp2_with fail
          go_ret
          exact ⟨ret_int HF3.out, HB9.out⟩
      · have HF3 := Lib.hid (show (0 : Int) = z from HF.out.trans HV.out)
        clear HF
        go_wp2_with fail
        go_ret
        exact ⟨ret_int HF3.out, HB9.out⟩
  · have hx9 : Bx ((((((((w68.setCell ⟨w63.heap.size, 0, none⟩ (.int .i64 z1)).setCell ⟨w63.heap.size, 1, none⟩ (.int .i64 z2)).setCell ⟨w63.heap.size, 2, none⟩ (.int .i64 z3)).setCell ⟨w63.heap.size, 3, none⟩ (.int .i64 z4)).setCell ⟨w63.heap.size, 4, none⟩ (.int .i64 z5)).setCell ⟨w63.heap.size, 5, none⟩ (.int .i64 z6)).setCell ⟨w63.heap.size, 6, none⟩ (.int .i64 z7)).setCell ⟨w63.heap.size, 7, none⟩ (.int .i64 z8)) w63.heap.size 93 #[.int .i64 z1, .int .i64 z2, .int .i64 z3, .int .i64 z4, .int .i64 z5, .int .i64 z6, .int .i64 z7, .int .i64 z8] := (ax_fin hx.out k20.out).1
    have hb9 : Below w.heap.size w ((((((((w68.setCell ⟨w63.heap.size, 0, none⟩ (.int .i64 z1)).setCell ⟨w63.heap.size, 1, none⟩ (.int .i64 z2)).setCell ⟨w63.heap.size, 2, none⟩ (.int .i64 z3)).setCell ⟨w63.heap.size, 3, none⟩ (.int .i64 z4)).setCell ⟨w63.heap.size, 4, none⟩ (.int .i64 z5)).setCell ⟨w63.heap.size, 5, none⟩ (.int .i64 z6)).setCell ⟨w63.heap.size, 6, none⟩ (.int .i64 z7)).setCell ⟨w63.heap.size, 7, none⟩ (.int .i64 z8)) := (ax_fin hx.out k20.out).2
    clear C1 DC1 EC1 C2 DC2 EC2 C3 DC3 EC3 C4 DC4 EC4 C5 DC5 EC5 C6 DC6 EC6 C7 DC7 EC7 C8 DC8 EC8 FC1 SK HSD HK hs0 hs1 hs2 hs3 hs4 hs5 hs6 hs7 hs8 hs9 hs10 hs11 hs12 hs13 hs14 hs15 hs16 hs17 hs18 hs19 hs20 k0 k1 k2 k3 k4 k5 k6 k7 k8 k9 k10 k11 k12 k13 k14 k15 k16 k17 k18 k19 k20
    generalize ((((((((w68.setCell ⟨w63.heap.size, 0, none⟩ (.int .i64 z1)).setCell ⟨w63.heap.size, 1, none⟩ (.int .i64 z2)).setCell ⟨w63.heap.size, 2, none⟩ (.int .i64 z3)).setCell ⟨w63.heap.size, 3, none⟩ (.int .i64 z4)).setCell ⟨w63.heap.size, 4, none⟩ (.int .i64 z5)).setCell ⟨w63.heap.size, 5, none⟩ (.int .i64 z6)).setCell ⟨w63.heap.size, 6, none⟩ (.int .i64 z7)).setCell ⟨w63.heap.size, 7, none⟩ (.int .i64 z8)) = W9 at *
    generalize w63.heap.size = D9 at *
    have HB9 := Lib.hid hb9
    have HX9 := Lib.hid hx9
    clear hb9 hx9
    go_wp2_with fail
    go_loopw [6] (fun i wr => ∃ k : Nat, i = .int .i64 k ∧ k ≤ 8 ∧ wr = W9 ∧ Hid (fnz ([z1, z2, z3, z4, z5, z6, z7, z8].drop k) = fnz [z1, z2, z3, z4, z5, z6, z7, z8])) (fun i _ => 8 - (intOf i).toNat)
    case atStart => exact ⟨0, rfl, by omega, rfl, Lib.hid rfl⟩
    case round =>
      obtain ⟨k, rfl, hk, rfl, HF⟩ := hrel
      rcases (show k = 0 ∨ k = 1 ∨ k = 2 ∨ k = 3 ∨ k = 4 ∨ k = 5 ∨ k = 6 ∨ k = 7 ∨ k = 8 from by omega) with rfl | rfl | rfl | rfl | rfl | rfl | rfl | rfl | rfl
      · have x0 := HX9.out.read (i := 0) rfl
        have HF2 := Lib.hid (show fnz (z1 :: [z2, z3, z4, z5, z6, z7, z8]) = fnz [z1, z2, z3, z4, z5, z6, z7, z8] from HF.out)
        clear HF
        by_cases hz0 : z1 = 0
        · have HF3 := Lib.hid (show fnz [z2, z3, z4, z5, z6, z7, z8] = fnz [z1, z2, z3, z4, z5, z6, z7, z8] from (fnz_skip hz0).symm.trans HF2.out)
          have hzb : (z1 != 0) = false := by simp [hz0]
          clear HF2 hz0
          go_wp2_with fail
          go_roundw
          case rel => exact ⟨1, rfl, by omega, by first | rfl | trivial, HF3⟩
          case measure => simp [intOf]
        · have HF3 := Lib.hid (show z1 = z from (fnz_hit hz0).symm.trans (HF2.out.trans HV.out))
          have hzb : (z1 != 0) = true := by simp [hz0]
          clear HF2 hz0
          go_wp2_with fail
          go_ret
          exact ⟨ret_int HF3.out, HB9.out⟩
      · have x0 := HX9.out.read (i := 1) rfl
        have HF2 := Lib.hid (show fnz (z2 :: [z3, z4, z5, z6, z7, z8]) = fnz [z1, z2, z3, z4, z5, z6, z7, z8] from HF.out)
        clear HF
        by_cases hz0 : z2 = 0
        · have HF3 := Lib.hid (show fnz [z3, z4, z5, z6, z7, z8] = fnz [z1, z2, z3, z4, z5, z6, z7, z8] from (fnz_skip hz0).symm.trans HF2.out)
          have hzb : (z2 != 0) = false := by simp [hz0]
          clear HF2 hz0
          go_wp2_with fail
          go_roundw
          case rel => exact ⟨2, rfl, by omega, by first | rfl | trivial, HF3⟩
          case measure => simp [intOf]
        · have HF3 := Lib.hid (show z2 = z from (fnz_hit hz0).symm.trans (HF2.out.trans HV.out))
          have hzb : (z2 != 0) = true := by simp [hz0]
          clear HF2 hz0
          go_wp2_with fail
          go_ret
          exact ⟨ret_int HF3.out, HB9.out⟩
      · have x0 := HX9.out.read (i := 2) rfl
        have HF2 := Lib.hid (show fnz (z3 :: [z4, z5, z6, z7, z8]) = fnz [z1, z2, z3, z4, z5, z6, z7, z8] from HF.out)
        clear HF
        by_cases hz0 : z3 = 0
        · have HF3 := Lib.hid (show fnz [z4, z5, z6, z7, z8] = fnz [z1, z2, z3, z4, z5, z6, z7, z8] from (fnz_skip hz0).symm.trans HF2.out)
          have hzb : (z3 != 0) = false := by simp [hz0]
          clear HF2 hz0
          go_wp2_with fail
          go_roundw
          case rel => exact ⟨3, rfl, by omega, by first | rfl | trivial, HF3⟩
          case measure => simp [intOf]
        · have HF3 := Lib.hid (show z3 = z from (fnz_hit hz0).symm.trans (HF2.out.trans HV.out))
          have hzb : (z3 != 0) = true := by simp [hz0]
          clear HF2 hz0
          go_wp2_with fail
          go_ret
          exact ⟨ret_int HF3.out, HB9.out⟩
      · have x0 := HX9.out.read (i := 3) rfl
        have HF2 := Lib.hid (show fnz (z4 :: [z5, z6, z7, z8]) = fnz [z1, z2, z3, z4, z5, z6, z7, z8] from HF.out)
        clear HF
        by_cases hz0 : z4 = 0
        · have HF3 := Lib.hid (show fnz [z5, z6, z7, z8] = fnz [z1, z2, z3, z4, z5, z6, z7, z8] from (fnz_skip hz0).symm.trans HF2.out)
          have hzb : (z4 != 0) = false := by simp [hz0]
          clear HF2 hz0
          go_wp2_with fail
          go_roundw
          case rel => exact ⟨4, rfl, by omega, by first | rfl | trivial, HF3⟩
          case measure => simp [intOf]
        · have HF3 := Lib.hid (show z4 = z from (fnz_hit hz0).symm.trans (HF2.out.trans HV.out))
          have hzb : (z4 != 0) = true := by simp [hz0]
          clear HF2 hz0
          go_wp2_with fail
          go_ret
          exact ⟨ret_int HF3.out, HB9.out⟩
      · have x0 := HX9.out.read (i := 4) rfl
        have HF2 := Lib.hid (show fnz (z5 :: [z6, z7, z8]) = fnz [z1, z2, z3, z4, z5, z6, z7, z8] from HF.out)
        clear HF
        by_cases hz0 : z5 = 0
        · have HF3 := Lib.hid (show fnz [z6, z7, z8] = fnz [z1, z2, z3, z4, z5, z6, z7, z8] from (fnz_skip hz0).symm.trans HF2.out)
          have hzb : (z5 != 0) = false := by simp [hz0]
          clear HF2 hz0
          go_wp2_with fail
          go_roundw
          case rel => exact ⟨5, rfl, by omega, by first | rfl | trivial, HF3⟩
          case measure => simp [intOf]
        · have HF3 := Lib.hid (show z5 = z from (fnz_hit hz0).symm.trans (HF2.out.trans HV.out))
          have hzb : (z5 != 0) = true := by simp [hz0]
          clear HF2 hz0
          go_wp2_with fail
          go_ret
          exact ⟨ret_int HF3.out, HB9.out⟩
      · have x0 := HX9.out.read (i := 5) rfl
        have HF2 := Lib.hid (show fnz (z6 :: [z7, z8]) = fnz [z1, z2, z3, z4, z5, z6, z7, z8] from HF.out)
        clear HF
        by_cases hz0 : z6 = 0
        · have HF3 := Lib.hid (show fnz [z7, z8] = fnz [z1, z2, z3, z4, z5, z6, z7, z8] from (fnz_skip hz0).symm.trans HF2.out)
          have hzb : (z6 != 0) = false := by simp [hz0]
          clear HF2 hz0
          go_wp2_with fail
          go_roundw
          case rel => exact ⟨6, rfl, by omega, by first | rfl | trivial, HF3⟩
          case measure => simp [intOf]
        · have HF3 := Lib.hid (show z6 = z from (fnz_hit hz0).symm.trans (HF2.out.trans HV.out))
          have hzb : (z6 != 0) = true := by simp [hz0]
          clear HF2 hz0
          go_wp2_with fail
          go_ret
          exact ⟨ret_int HF3.out, HB9.out⟩
      · have x0 := HX9.out.read (i := 6) rfl
        have HF2 := Lib.hid (show fnz (z7 :: [z8]) = fnz [z1, z2, z3, z4, z5, z6, z7, z8] from HF.out)
        clear HF
        by_cases hz0 : z7 = 0
        · have HF3 := Lib.hid (show fnz [z8] = fnz [z1, z2, z3, z4, z5, z6, z7, z8] from (fnz_skip hz0).symm.trans HF2.out)
          have hzb : (z7 != 0) = false := by simp [hz0]
          clear HF2 hz0
          go_wp2_with fail
          go_roundw
          case rel => exact ⟨7, rfl, by omega, by first | rfl | trivial, HF3⟩
          case measure => simp [intOf]
        · have HF3 := Lib.hid (show z7 = z from (fnz_hit hz0).symm.trans (HF2.out.trans HV.out))
          have hzb : (z7 != 0) = true := by simp [hz0]
          clear HF2 hz0
          go_wp2_with fail
          go_ret
          exact ⟨ret_int HF3.out, HB9.out⟩
      · have x0 := HX9.out.read (i := 7) rfl
        have HF2 := Lib.hid (show fnz (z8 :: []) = fnz [z1, z2, z3, z4, z5, z6, z7, z8] from HF.out)
        clear HF
        by_cases hz0 : z8 = 0
        · have HF3 := Lib.hid (show fnz [] = fnz [z1, z2, z3, z4, z5, z6, z7, z8] from (fnz_skip hz0).symm.trans HF2.out)
          have hzb : (z8 != 0) = false := by simp [hz0]
          clear HF2 hz0
          go_wp2_with fail
          go_roundw
          case rel => exact ⟨8, rfl, by omega, by first | rfl | trivial, HF3⟩
          case measure => simp [intOf]
        · have HF3 := Lib.hid (show z8 = z from (fnz_hit hz0).symm.trans (HF2.out.trans HV.out))
          have hzb : (z8 != 0) = true := by simp [hz0]
          clear HF2 hz0
          go_wp2_with fail
          go_ret
          exact ⟨ret_int HF3.out, HB9.out⟩
      · have HF3 := Lib.hid (show (0 : Int) = z from HF.out.trans HV.out)
        clear HF
        go_wp2_with fail
        go_ret
        exact ⟨ret_int HF3.out, HB9.out⟩
  · have hx9 : Bx ((((((((w68.setCell ⟨w62.heap.size, 0, none⟩ (.int .i64 z1)).setCell ⟨w62.heap.size, 1, none⟩ (.int .i64 z2)).setCell ⟨w62.heap.size, 2, none⟩ (.int .i64 z3)).setCell ⟨w62.heap.size, 3, none⟩ (.int .i64 z4)).setCell ⟨w62.heap.size, 4, none⟩ (.int .i64 z5)).setCell ⟨w62.heap.size, 5, none⟩ (.int .i64 z6)).setCell ⟨w62.heap.size, 6, none⟩ (.int .i64 z7)).setCell ⟨w62.heap.size, 7, none⟩ (.int .i64 z8)) w62.heap.size 93 #[.int .i64 z1, .int .i64 z2, .int .i64 z3, .int .i64 z4, .int .i64 z5, .int .i64 z6, .int .i64 z7, .int .i64 z8] := (ax_fin hx.out k20.out).1
    have hb9 : Below w.heap.size w ((((((((w68.setCell ⟨w62.heap.size, 0, none⟩ (.int .i64 z1)).setCell ⟨w62.heap.size, 1, none⟩ (.int .i64 z2)).setCell ⟨w62.heap.size, 2, none⟩ (.int .i64 z3)).setCell ⟨w62.heap.size, 3, none⟩ (.int .i64 z4)).setCell ⟨w62.heap.size, 4, none⟩ (.int .i64 z5)).setCell ⟨w62.heap.size, 5, none⟩ (.int .i64 z6)).setCell ⟨w62.heap.size, 6, none⟩ (.int .i64 z7)).setCell ⟨w62.heap.size, 7, none⟩ (.int .i64 z8)) := (ax_fin hx.out k20.out).2
    clear C1 DC1 EC1 C2 DC2 EC2 C3 DC3 EC3 C4 DC4 EC4 C5 DC5 EC5 C6 DC6 EC6 C7 DC7 EC7 C8 DC8 EC8 FC1 SK HSD HK hs0 hs1 hs2 hs3 hs4 hs5 hs6 hs7 hs8 hs9 hs10 hs11 hs12 hs13 hs14 hs15 hs16 hs17 hs18 hs19 hs20 k0 k1 k2 k3 k4 k5 k6 k7 k8 k9 k10 k11 k12 k13 k14 k15 k16 k17 k18 k19 k20
    generalize ((((((((w68.setCell ⟨w62.heap.size, 0, none⟩ (.int .i64 z1)).setCell ⟨w62.heap.size, 1, none⟩ (.int .i64 z2)).setCell ⟨w62.heap.size, 2, none⟩ (.int .i64 z3)).setCell ⟨w62.heap.size, 3, none⟩ (.int .i64 z4)).setCell ⟨w62.heap.size, 4, none⟩ (.int .i64 z5)).setCell ⟨w62.heap.size, 5, none⟩ (.int .i64 z6)).setCell ⟨w62.heap.size, 6, none⟩ (.int .i64 z7)).setCell ⟨w62.heap.size, 7, none⟩ (.int .i64 z8)) = W9 at *
    generalize w62.heap.size = D9 at *
    have HB9 := Lib.hid hb9
    have HX9 := Lib.hid hx9
    clear hb9 hx9
    go_wp2_with fail
    go_loopw [6] (fun i wr => ∃ k : Nat, i = .int .i64 k ∧ k ≤ 8 ∧ wr = W9 ∧ Hid (fnz ([z1, z2, z3, z4, z5, z6, z7, z8].drop k) = fnz [z1, z2, z3, z4, z5, z6, z7, z8])) (fun i _ => 8 - (intOf i).toNat)
    case atStart => exact ⟨0, rfl, by omega, rfl, Lib.hid rfl⟩
    case round =>
      obtain ⟨k, rfl, hk, rfl, HF⟩ := hrel
      rcases (show k = 0 ∨ k = 1 ∨ k = 2 ∨ k = 3 ∨ k = 4 ∨ k = 5 ∨ k = 6 ∨ k = 7 ∨ k = 8 from by omega) with rfl | rfl | rfl | rfl | rfl | rfl | rfl | rfl | rfl
      · have x0 := HX9.out.read (i := 0) rfl
        have HF2 := Lib.hid (show fnz (z1 :: [z2, z3, z4, z5, z6, z7, z8]) = fnz [z1, z2, z3, z4, z5, z6, z7, z8] from HF.out)
        clear HF
        by_cases hz0 : z1 = 0
        · have HF3 := Lib.hid (show fnz [z2, z3, z4, z5, z6, z7, z8] = fnz [z1, z2, z3, z4, z5, z6, z7, z8] from (fnz_skip hz0).symm.trans HF2.out)
          have hzb : (z1 != 0) = false := by simp [hz0]
          clear HF2 hz0
          go_wp2_with fail
          go_roundw
          case rel => exact ⟨1, rfl, by omega, by first | rfl | trivial, HF3⟩
          case measure => simp [intOf]
        · have HF3 := Lib.hid (show z1 = z from (fnz_hit hz0).symm.trans (HF2.out.trans HV.out))
          have hzb : (z1 != 0) = true := by simp [hz0]
          clear HF2 hz0
          go_wp2_with fail
          go_ret
          exact ⟨ret_int HF3.out, HB9.out⟩
      · have x0 := HX9.out.read (i := 1) rfl
        have HF2 := Lib.hid (show fnz (z2 :: [z3, z4, z5, z6, z7, z8]) = fnz [z1, z2, z3, z4, z5, z6, z7, z8] from HF.out)
        clear HF
        by_cases hz0 : z2 = 0
        · have HF3 := Lib.hid (show fnz [z3, z4, z5, z6, z7, z8] = fnz [z1, z2, z3, z4, z5, z6, z7, z8] from (fnz_skip hz0).symm.trans HF2.out)
          have hzb : (z2 != 0) = false := by simp [hz0]
          clear HF2 hz0
          go_wp2_with fail
          go_roundw
          case rel => exact ⟨2, rfl, by omega, by first | rfl | trivial, HF3⟩
          case measure => simp [intOf]
        · have HF3 := Lib.hid (show z2 = z from (fnz_hit hz0).symm.trans (HF2.out.trans HV.out))
          have hzb : (z2 != 0) = true := by simp [hz0]
          clear HF2 hz0
          go_wp2_with fail
          go_ret
          exact ⟨ret_int HF3.out, HB9.out⟩
      · have x0 := HX9.out.read (i := 2) rfl
        have HF2 := Lib.hid (show fnz (z3 :: [z4, z5, z6, z7, z8]) = fnz [z1, z2, z3, z4, z5, z6, z7, z8] from HF.out)
        clear HF
        by_cases hz0 : z3 = 0
        · have HF3 := Lib.hid (show fnz [z4, z5, z6, z7, z8] = fnz [z1, z2, z3, z4, z5, z6, z7, z8] from (fnz_skip hz0).symm.trans HF2.out)
          have hzb : (z3 != 0) = false := by simp [hz0]
          clear HF2 hz0
          go_wp2_with fail
          go_roundw
          case rel => exact ⟨3, rfl, by omega, by first | rfl | trivial, HF3⟩
          case measure => simp [intOf]
        · have HF3 := Lib.hid (show z3 = z from (fnz_hit hz0).symm.trans (HF2.out.trans HV.out))
          have hzb : (z3 != 0) = true := by simp [hz0]
          clear HF2 hz0
          go_wp2_with fail
          go_ret
          exact ⟨ret_int HF3.out, HB9.out⟩
      · have x0 := HX9.out.read (i := 3) rfl
        have HF2 := Lib.hid (show fnz (z4 :: [z5, z6, z7, z8]) = fnz [z1, z2, z3, z4, z5, z6, z7, z8] from HF.out)
        clear HF
        by_cases hz0 : z4 = 0
        · have HF3 := Lib.hid (show fnz [z5, z6, z7, z8] = fnz [z1, z2, z3, z4, z5, z6, z7, z8] from (fnz_skip hz0).symm.trans HF2.out)
          have hzb : (z4 != 0) = false := by simp [hz0]
          clear HF2 hz0
          go_wp2_with fail
          go_roundw
          case rel => exact ⟨4, rfl, by omega, by first | rfl | trivial, HF3⟩
          case measure => simp [intOf]
        · have HF3 := Lib.hid (show z4 = z from (fnz_hit hz0).symm.trans (HF2.out.trans HV.out))
          have hzb : (z4 != 0) = true := by simp [hz0]
          clear HF2 hz0
          go_wp2_with fail
          go_ret
          exact ⟨ret_int HF3.out, HB9.out⟩
      · have x0 := HX9.out.read (i := 4) rfl
        have HF2 := Lib.hid (show fnz (z5 :: [z6, z7, z8]) = fnz [z1, z2, z3, z4, z5, z6, z7, z8] from HF.out)
        clear HF
        by_cases hz0 : z5 = 0
        · have HF3 := Lib.hid (show fnz [z6, z7, z8] = fnz [z1, z2, z3, z4, z5, z6, z7, z8] from (fnz_skip hz0).symm.trans HF2.out)
          have hzb : (z5 != 0) = false := by simp [hz0]
          clear HF2 hz0
          go_wp2_with fail
          go_roundw
          case rel => exact ⟨5, rfl, by omega, by first | rfl | trivial, HF3⟩
          case measure => simp [intOf]
        · have HF3 := Lib.hid (show z5 = z from (fnz_hit hz0).symm.trans (HF2.out.trans HV.out))
          have hzb : (z5 != 0) = true := by simp [hz0]
          clear HF2 hz0
          go_wp2_with fail
          go_ret
          exact ⟨ret_int HF3.out, HB9.out⟩
      · have x0 := HX9.out.read (i := 5) rfl
        have HF2 := Lib.hid (show fnz (z6 :: [z7, z8]) = fnz [z1, z2, z3, z4, z5, z6, z7, z8] from HF.out)
        clear HF
        by_cases hz0 : z6 = 0
        · have HF3 := Lib.hid (show fnz [z7, z8] = fnz [z1, z2, z3, z4, z5, z6, z7, z8] from (fnz_skip hz0).symm.trans HF2.out)
          have hzb : (z6 != 0) = false := by simp [hz0]
          clear HF2 hz0
          go_wp2_with fail
          go_roundw
          case rel => exact ⟨6, rfl, by omega, by first | rfl | trivial, HF3⟩
          case measure => simp [intOf]
        · have HF3 := Lib.hid (show z6 = z from (fnz_hit hz0).symm.trans (HF2.out.trans HV.out))
          have hzb : (z6 != 0) = true := by simp [hz0]
          clear HF2 hz0
          go_wp2_with fail
          go_ret
          exact ⟨ret_int HF3.out, HB9.out⟩
      · have x0 := HX9.out.read (i := 6) rfl
        have HF2 := Lib.hid (show fnz (z7 :: [z8]) = fnz [z1, z2, z3, z4, z5, z6, z7, z8] from HF.out)
        clear HF
        by_cases hz0 : z7 = 0
        · have HF3 := Lib.hid (show fnz [z8] = fnz [z1, z2, z3, z4, z5, z6, z7, z8] from (fnz_skip hz0).symm.trans HF2.out)
          have hzb : (z7 != 0) = false := by simp [hz0]
          clear HF2 hz0
          go_wp2_with fail
          go_roundw
          case rel => exact ⟨7, rfl, by omega, by first | rfl | trivial, HF3⟩
          case measure => simp [intOf]
        · have HF3 := Lib.hid (show z7 = z from (fnz_hit hz0).symm.trans (HF2.out.trans HV.out))
          have hzb : (z7 != 0) = true := by simp [hz0]
          clear HF2 hz0
          go_wp2_with fail
          go_ret
          exact ⟨ret_int HF3.out, HB9.out⟩
      · have x0 := HX9.out.read (i := 7) rfl
        have HF2 := Lib.hid (show fnz (z8 :: []) = fnz [z1, z2, z3, z4, z5, z6, z7, z8] from HF.out)
        clear HF
        by_cases hz0 : z8 = 0
        · have HF3 := Lib.hid (show fnz [] = fnz [z1, z2, z3, z4, z5, z6, z7, z8] from (fnz_skip hz0).symm.trans HF2.out)
          have hzb : (z8 != 0) = false := by simp [hz0]
          clear HF2 hz0
          go_wp2_with fail
          go_roundw
          case rel => exact ⟨8, rfl, by omega, by first | rfl | trivial, HF3⟩
          case measure => simp [intOf]
        · have HF3 := Lib.hid (show z8 = z from (fnz_hit hz0).symm.trans (HF2.out.trans HV.out))
          have hzb : (z8 != 0) = true := by simp [hz0]
          clear HF2 hz0
          go_wp2_with fail
          go_ret
          exact ⟨ret_int HF3.out, HB9.out⟩
      · have HF3 := Lib.hid (show (0 : Int) = z from HF.out.trans HV.out)
        clear HF
        go_wp2_with fail
        go_ret
        exact ⟨ret_int HF3.out, HB9.out⟩
  · have hx9 : Bx ((((((((w68.setCell ⟨w61.heap.size, 0, none⟩ (.int .i64 z1)).setCell ⟨w61.heap.size, 1, none⟩ (.int .i64 z2)).setCell ⟨w61.heap.size, 2, none⟩ (.int .i64 z3)).setCell ⟨w61.heap.size, 3, none⟩ (.int .i64 z4)).setCell ⟨w61.heap.size, 4, none⟩ (.int .i64 z5)).setCell ⟨w61.heap.size, 5, none⟩ (.int .i64 z6)).setCell ⟨w61.heap.size, 6, none⟩ (.int .i64 z7)).setCell ⟨w61.heap.size, 7, none⟩ (.int .i64 z8)) w61.heap.size 93 #[.int .i64 z1, .int .i64 z2, .int .i64 z3, .int .i64 z4, .int .i64 z5, .int .i64 z6, .int .i64 z7, .int .i64 z8] := (ax_fin hx.out k20.out).1
    have hb9 : Below w.heap.size w ((((((((w68.setCell ⟨w61.heap.size, 0, none⟩ (.int .i64 z1)).setCell ⟨w61.heap.size, 1, none⟩ (.int .i64 z2)).setCell ⟨w61.heap.size, 2, none⟩ (.int .i64 z3)).setCell ⟨w61.heap.size, 3, none⟩ (.int .i64 z4)).setCell ⟨w61.heap.size, 4, none⟩ (.int .i64 z5)).setCell ⟨w61.heap.size, 5, none⟩ (.int .i64 z6)).setCell ⟨w61.heap.size, 6, none⟩ (.int .i64 z7)).setCell ⟨w61.heap.size, 7, none⟩ (.int .i64 z8)) := (ax_fin hx.out k20.out).2
    clear C1 DC1 EC1 C2 DC2 EC2 C3 DC3 EC3 C4 DC4 EC4 C5 DC5 EC5 C6 DC6 EC6 C7 DC7 EC7 C8 DC8 EC8 FC1 SK HSD HK hs0 hs1 hs2 hs3 hs4 hs5 hs6 hs7 hs8 hs9 hs10 hs11 hs12 hs13 hs14 hs15 hs16 hs17 hs18 hs19 hs20 k0 k1 k2 k3 k4 k5 k6 k7 k8 k9 k10 k11 k12 k13 k14 k15 k16 k17 k18 k19 k20
    generalize ((((((((w68.setCell ⟨w61.heap.size, 0, none⟩ (.int .i64 z1)).setCell ⟨w61.heap.size, 1, none⟩ (.int .i64 z2)).setCell ⟨w61.heap.size, 2, none⟩ (.int .i64 z3)).setCell ⟨w61.heap.size, 3, none⟩ (.int .i64 z4)).setCell ⟨w61.heap.size, 4, none⟩ (.int .i64 z5)).setCell ⟨w61.heap.size, 5, none⟩ (.int .i64 z6)).setCell ⟨w61.heap.size, 6, none⟩ (.int .i64 z7)).setCell ⟨w61.heap.size, 7, none⟩ (.int .i64 z8)) = W9 at *
    generalize w61.heap.size = D9 at *
    have HB9 := Lib.hid hb9
    have HX9 := Lib.hid hx9
    clear hb9 hx9
    go_wp2_with fail
    go_loopw [6] (fun i wr => ∃ k : Nat, i = .int .i64 k ∧ k ≤ 8 ∧ wr = W9 ∧ Hid (fnz ([z1, z2, z3, z4, z5, z6, z7, z8].drop k) = fnz [z1, z2, z3, z4, z5, z6, z7, z8])) (fun i _ => 8 - (intOf i).toNat)
    case atStart => exact ⟨0, rfl, by omega, rfl, Lib.hid rfl⟩
    case round =>
      obtain ⟨k, rfl, hk, rfl, HF⟩ := hrel
      rcases (show k = 0 ∨ k = 1 ∨ k = 2 ∨ k = 3 ∨ k = 4 ∨ k = 5 ∨ k = 6 ∨ k = 7 ∨ k = 8 from by omega) with rfl | rfl | rfl | rfl | rfl | rfl | rfl | rfl | rfl
      · have x0 := HX9.out.read (i := 0) rfl
        have HF2 := Lib.hid (show fnz (z1 :: [z2, z3, z4, z5, z6, z7, z8]) = fnz [z1, z2, z3, z4, z5, z6, z7, z8] from HF.out)
        clear HF
        by_cases hz0 : z1 = 0
        · have HF3 := Lib.hid (show fnz [z2, z3, z4, z5, z6, z7, z8] = fnz [z1, z2, z3, z4, z5, z6, z7, z8] from (fnz_skip hz0).symm.trans HF2.out)
          have hzb : (z1 != 0) = false := by simp [hz0]
          clear HF2 hz0
          go_wp2_with fail
          go_roundw
          case rel => exact ⟨1, rfl, by omega, by first | rfl | trivial, HF3⟩
          case measure => simp [intOf]
        · have HF3 := Lib.hid (show z1 = z from (fnz_hit hz0).symm.trans (HF2.out.trans HV.out))
          have hzb : (z1 != 0) = true := by simp [hz0]
          clear HF2 hz0
          go_wp2_with fail
          go_ret
          exact ⟨ret_int HF3.out, HB9.out⟩
      · have x0 := HX9.out.read (i := 1) rfl
        have HF2 := Lib.hid (show fnz (z2 :: [z3, z4, z5, z6, z7, z8]) = fnz [z1, z2, z3, z4, z5, z6, z7, z8] from HF.out)
        clear HF
        by_cases hz0 : z2 = 0
        · have HF3 := Lib.hid (show fnz [z3, z4, z5, z6, z7, z8] = fnz [z1, z2, z3, z4, z5, z6, z7, z8] from (fnz_skip hz0).symm.trans HF2.out)
          have hzb : (z2 != 0) = false := by simp [hz0]
          clear HF2 hz0
          go_wp2_with fail
          go_roundw
          case rel => exact ⟨2, rfl, by omega, by first | rfl | trivial, HF3⟩
          case measure => simp [intOf]
        · have HF3 := Lib.hid (show z2 = z from (fnz_hit hz0).symm.trans (HF2.out.trans HV.out))
          have hzb : (z2 != 0) = true := by simp [hz0]
          clear HF2 hz0
          go_wp2_with fail
          go_ret
          exact ⟨ret_int HF3.out, HB9.out⟩
      · have x0 := HX9.out.read (i := 2) rfl
        have HF2 := Lib.hid (show fnz (z3 :: [z4, z5, z6, z7, z8]) = fnz [z1, z2, z3, z4, z5, z6, z7, z8] from HF.out)
        clear HF
        by_cases hz0 : z3 = 0
        · have HF3 := Lib.hid (show fnz [z4, z5, z6, z7, z8] = fnz [z1, z2, z3, z4, z5, z6, z7, z8] from (fnz_skip hz0).symm.trans HF2.out)
          have hzb : (z3 != 0) = false := by simp [hz0]
          clear HF2 hz0
          go_wp2_with fail
          go_roundw
          case rel => exact ⟨3, rfl, by omega, by first | rfl | trivial, HF3⟩
          case measure => simp [intOf]
        · have HF3 := Lib.hid (show z3 = z from (fnz_hit hz0).symm.trans (HF2.out.trans HV.out))
          have hzb : (z3 != 0) = true := by simp [hz0]
          clear HF2 hz0
          go_wp2_with fail
          go_ret
          exact ⟨ret_int HF3.out, HB9.out⟩
      · have x0 := HX9.out.read (i := 3) rfl
        have HF2 := Lib.hid (show fnz (z4 :: [z5, z6, z7, z8]) = fnz [z1, z2, z3, z4, z5, z6, z7, z8] from HF.out)
        clear HF
        by_cases hz0 : z4 = 0
        · have HF3 := Lib.hid (show fnz [z5, z6, z7, z8] = fnz [z1, z2, z3, z4, z5, z6, z7, z8] from (fnz_skip hz0).symm.trans HF2.out)
          have hzb : (z4 != 0) = false := by simp [hz0]
          clear HF2 hz0
          go_wp2_with fail
          go_roundw
          case rel => exact ⟨4, rfl, by omega, by first | rfl | trivial, HF3⟩
          case measure => simp [intOf]
        · have HF3 := Lib.hid (show z4 = z from (fnz_hit hz0).symm.trans (HF2.out.trans HV.out))
          have hzb : (z4 != 0) = true := by simp [hz0]
          clear HF2 hz0
          go_wp2_with fail
          go_ret
          exact ⟨ret_int HF3.out, HB9.out⟩
      · have x0 := HX9.out.read (i := 4) rfl
        have HF2 := Lib.hid (show fnz (z5 :: [z6, z7, z8]) = fnz [z1, z2, z3, z4, z5, z6, z7, z8] from HF.out)
        clear HF
        by_cases hz0 : z5 = 0
        · have HF3 := Lib.hid (show fnz [z6, z7, z8] = fnz [z1, z2, z3, z4, z5, z6, z7, z8] from (fnz_skip hz0).symm.trans HF2.out)
          have hzb : (z5 != 0) = false := by simp [hz0]
          clear HF2 hz0
          go_wp2_with fail
          go_roundw
          case rel => exact ⟨5, rfl, by omega, by first | rfl | trivial, HF3⟩
          case measure => simp [intOf]
        · have HF3 := Lib.hid (show z5 = z from (fnz_hit hz0).symm.trans (HF2.out.trans HV.out))
          have hzb : (z5 != 0) = true := by simp [hz0]
          clear HF2 hz0
          go_wp2_with fail
          go_ret
          exact ⟨ret_int HF3.out, HB9.out⟩
      · have x0 := HX9.out.read (i := 5) rfl
        have HF2 := Lib.hid (show fnz (z6 :: [z7, z8]) = fnz [z1, z2, z3, z4, z5, z6, z7, z8] from HF.out)
        clear HF
        by_cases hz0 : z6 = 0
        · have HF3 := Lib.hid (show fnz [z7, z8] = fnz [z1, z2, z3, z4, z5, z6, z7, z8] from (fnz_skip hz0).symm.trans HF2.out)
          have hzb : (z6 != 0) = false := by simp [hz0]
          clear HF2 hz0
          go_wp2_with fail
          go_roundw
          case rel => exact ⟨6, rfl, by omega, by first | rfl | trivial, HF3⟩
          case measure => simp [intOf]
        · have HF3 := Lib.hid (show z6 = z from (fnz_hit hz0).symm.trans (HF2.out.trans HV.out))
          have hzb : (z6 != 0) = true := by simp [hz0]
          clear HF2 hz0
          go_wp2_with fail
          go_ret
          exact ⟨ret_int HF3.out, HB9.out⟩
      · have x0 := HX9.out.read (i := 6) rfl
        have HF2 := Lib.hid (show fnz (z7 :: [z8]) = fnz [z1, z2, z3, z4, z5, z6, z7, z8] from HF.out)
        clear HF
        by_cases hz0 : z7 = 0
        · have HF3 := Lib.hid (show fnz [z8] = fnz [z1, z2, z3, z4, z5, z6, z7, z8] from (fnz_skip hz0).symm.trans HF2.out)
          have hzb : (z7 != 0) = false := by simp [hz0]
          clear HF2 hz0
          go_wp2_with fail
          go_roundw
          case rel => exact ⟨7, rfl, by omega, by first | rfl | trivial, HF3⟩
          case measure => simp [intOf]
        · have HF3 := Lib.hid (show z7 = z from (fnz_hit hz0).symm.trans (HF2.out.trans HV.out))
          have hzb : (z7 != 0) = true := by simp [hz0]
          clear HF2 hz0
          go_wp2_with fail
          go_ret
          exact ⟨ret_int HF3.out, HB9.out⟩
      · have x0 := HX9.out.read (i := 7) rfl
        have HF2 := Lib.hid (show fnz (z8 :: []) = fnz [z1, z2, z3, z4, z5, z6, z7, z8] from HF.out)
        clear HF
        by_cases hz0 : z8 = 0
        · have HF3 := Lib.hid (show fnz [] = fnz [z1, z2, z3, z4, z5, z6, z7, z8] from (fnz_skip hz0).symm.trans HF2.out)
          have hzb : (z8 != 0) = false := by simp [hz0]
          clear HF2 hz0
          go_wp2_with fail
          go_roundw
          case rel => exact ⟨8, rfl, by omega, by first | rfl | trivial, HF3⟩
          case measure => simp [intOf]
        · have HF3 := Lib.hid (show z8 = z from (fnz_hit hz0).symm.trans (HF2.out.trans HV.out))
          have hzb : (z8 != 0) = true := by simp [hz0]
          clear HF2 hz0
          go_wp2_with fail
          go_ret
          exact ⟨ret_int HF3.out, HB9.out⟩
      · have HF3 := Lib.hid (show (0 : Int) = z from HF.out.trans HV.out)
        clear HF
        go_wp2_with fail
        go_ret
        exact ⟨ret_int HF3.out, HB9.out⟩
  · have hx9 : Bx ((((((((w68.setCell ⟨(w.heap.size + 1 + 1), 0, none⟩ (.int .i64 z1)).setCell ⟨(w.heap.size + 1 + 1), 1, none⟩ (.int .i64 z2)).setCell ⟨(w.heap.size + 1 + 1), 2, none⟩ (.int .i64 z3)).setCell ⟨(w.heap.size + 1 + 1), 3, none⟩ (.int .i64 z4)).setCell ⟨(w.heap.size + 1 + 1), 4, none⟩ (.int .i64 z5)).setCell ⟨(w.heap.size + 1 + 1), 5, none⟩ (.int .i64 z6)).setCell ⟨(w.heap.size + 1 + 1), 6, none⟩ (.int .i64 z7)).setCell ⟨(w.heap.size + 1 + 1), 7, none⟩ (.int .i64 z8)) (w.heap.size + 1 + 1) 93 #[.int .i64 z1, .int .i64 z2, .int .i64 z3, .int .i64 z4, .int .i64 z5, .int .i64 z6, .int .i64 z7, .int .i64 z8] := (ax_fin hx.out k20.out).1
    have hb9 : Below w.heap.size w ((((((((w68.setCell ⟨(w.heap.size + 1 + 1), 0, none⟩ (.int .i64 z1)).setCell ⟨(w.heap.size + 1 + 1), 1, none⟩ (.int .i64 z2)).setCell ⟨(w.heap.size + 1 + 1), 2, none⟩ (.int .i64 z3)).setCell ⟨(w.heap.size + 1 + 1), 3, none⟩ (.int .i64 z4)).setCell ⟨(w.heap.size + 1 + 1), 4, none⟩ (.int .i64 z5)).setCell ⟨(w.heap.size + 1 + 1), 5, none⟩ (.int .i64 z6)).setCell ⟨(w.heap.size + 1 + 1), 6, none⟩ (.int .i64 z7)).setCell ⟨(w.heap.size + 1 + 1), 7, none⟩ (.int .i64 z8)) := (ax_fin hx.out k20.out).2
    clear C1 DC1 EC1 C2 DC2 EC2 C3 DC3 EC3 C4 DC4 EC4 C5 DC5 EC5 C6 DC6 EC6 C7 DC7 EC7 C8 DC8 EC8 FC1 SK HSD HK hs0 hs1 hs2 hs3 hs4 hs5 hs6 hs7 hs8 hs9 hs10 hs11 hs12 hs13 hs14 hs15 hs16 hs17 hs18 hs19 hs20 k0 k1 k2 k3 k4 k5 k6 k7 k8 k9 k10 k11 k12 k13 k14 k15 k16 k17 k18 k19 k20
    generalize ((((((((w68.setCell ⟨(w.heap.size + 1 + 1), 0, none⟩ (.int .i64 z1)).setCell ⟨(w.heap.size + 1 + 1), 1, none⟩ (.int .i64 z2)).setCell ⟨(w.heap.size + 1 + 1), 2, none⟩ (.int .i64 z3)).setCell ⟨(w.heap.size + 1 + 1), 3, none⟩ (.int .i64 z4)).setCell ⟨(w.heap.size + 1 + 1), 4, none⟩ (.int .i64 z5)).setCell ⟨(w.heap.size + 1 + 1), 5, none⟩ (.int .i64 z6)).setCell ⟨(w.heap.size + 1 + 1), 6, none⟩ (.int .i64 z7)).setCell ⟨(w.heap.size + 1 + 1), 7, none⟩ (.int .i64 z8)) = W9 at *
    generalize (w.heap.size + 1 + 1) = D9 at *
    have HB9 := Lib.hid hb9
    have HX9 := Lib.hid hx9
    clear hb9 hx9
    go_wp2_with fail
    go_loopw [6] (fun i wr => ∃ k : Nat, i = .int .i64 k ∧ k ≤ 8 ∧ wr = W9 ∧ Hid (fnz ([z1, z2, z3, z4, z5, z6, z7, z8].drop k) = fnz [z1, z2, z3, z4, z5, z6, z7, z8])) (fun i _ => 8 - (intOf i).toNat)
    case atStart => exact ⟨0, rfl, by omega, rfl, Lib.hid rfl⟩
    case round =>
      obtain ⟨k, rfl, hk, rfl, HF⟩ := hrel
      rcases (show k = 0 ∨ k = 1 ∨ k = 2 ∨ k = 3 ∨ k = 4 ∨ k = 5 ∨ k = 6 ∨ k = 7 ∨ k = 8 from by omega) with rfl | rfl | rfl | rfl | rfl | rfl | rfl | rfl | rfl
      · have x0 := HX9.out.read (i := 0) rfl
        have HF2 := Lib.hid (show fnz (z1 :: [z2, z3, z4, z5, z6, z7, z8]) = fnz [z1, z2, z3, z4, z5, z6, z7, z8] from HF.out)
        clear HF
        by_cases hz0 : z1 = 0
        · have HF3 := Lib.hid (show fnz [z2, z3, z4, z5, z6, z7, z8] = fnz [z1, z2, z3, z4, z5, z6, z7, z8] from (fnz_skip hz0).symm.trans HF2.out)
          have hzb : (z1 != 0) = false := by simp [hz0]
          clear HF2 hz0
          go_wp2_with fail
          go_roundw
          case rel => exact ⟨1, rfl, by omega, by first | rfl | trivial, HF3⟩
          case measure => simp [intOf]
        · have HF3 := Lib.hid (show z1 = z from (fnz_hit hz0).symm.trans (HF2.out.trans HV.out))
          have hzb : (z1 != 0) = true := by simp [hz0]
          clear HF2 hz0
          go_wp2_with fail
          go_ret
          exact ⟨ret_int HF3.out, HB9.out⟩
      · have x0 := HX9.out.read (i := 1) rfl
        have HF2 := Lib.hid (show fnz (z2 :: [z3, z4, z5, z6, z7, z8]) = fnz [z1, z2, z3, z4, z5, z6, z7, z8] from HF.out)
        clear HF
        by_cases hz0 : z2 = 0
        · have HF3 := Lib.hid (show fnz [z3, z4, z5, z6, z7, z8] = fnz [z1, z2, z3, z4, z5, z6, z7, z8] from (fnz_skip hz0).symm.trans HF2.out)
          have hzb : (z2 != 0) = false := by simp [hz0]
          clear HF2 hz0
          go_wp2_with fail
          go_roundw
          case rel => exact ⟨2, rfl, by omega, by first | rfl | trivial, HF3⟩
          case measure => simp [intOf]
        · have HF3 := Lib.hid (show z2 = z from (fnz_hit hz0).symm.trans (HF2.out.trans HV.out))
          have hzb : (z2 != 0) = true := by simp [hz0]
          clear HF2 hz0
          go_wp2_with fail
          go_ret
          exact ⟨ret_int HF3.out, HB9.out⟩
      · have x0 := HX9.out.read (i := 2) rfl
        have HF2 := Lib.hid (show fnz (z3 :: [z4, z5, z6, z7, z8]) = fnz [z1, z2, z3, z4, z5, z6, z7, z8] from HF.out)
        clear HF
        by_cases hz0 : z3 = 0
        · have HF3 := Lib.hid (show fnz [z4, z5, z6, z7, z8] = fnz [z1, z2, z3, z4, z5, z6, z7, z8] from (fnz_skip hz0).symm.trans HF2.out)
          have hzb : (z3 != 0) = false := by simp [hz0]
          clear HF2 hz0
          go_wp2_with fail
          go_roundw
          case rel => exact ⟨3, rfl, by omega, by first | rfl | trivial, HF3⟩
          case measure => simp [intOf]
        · have HF3 := Lib.hid (show z3 = z from (fnz_hit hz0).symm.trans (HF2.out.trans HV.out))
          have hzb : (z3 != 0) = true := by simp [hz0]
          clear HF2 hz0
          go_wp2_with fail
          go_ret
          exact ⟨ret_int HF3.out, HB9.out⟩
      · have x0 := HX9.out.read (i := 3) rfl
        have HF2 := Lib.hid (show fnz (z4 :: [z5, z6, z7, z8]) = fnz [z1, z2, z3, z4, z5, z6, z7, z8] from HF.out)
        clear HF
        by_cases hz0 : z4 = 0
        · have HF3 := Lib.hid (show fnz [z5, z6, z7, z8] = fnz [z1, z2, z3, z4, z5, z6, z7, z8] from (fnz_skip hz0).symm.trans HF2.out)
          have hzb : (z4 != 0) = false := by simp [hz0]
          clear HF2 hz0
          go_wp2_with fail
          go_roundw
          case rel => exact ⟨4, rfl, by omega, by first | rfl | trivial, HF3⟩
          case measure => simp [intOf]
        · have HF3 := Lib.hid (show z4 = z from (fnz_hit hz0).symm.trans (HF2.out.trans HV.out))
          have hzb : (z4 != 0) = true := by simp [hz0]
          clear HF2 hz0
          go_wp2_with fail
          go_ret
          exact ⟨ret_int HF3.out, HB9.out⟩
      · have x0 := HX9.out.read (i := 4) rfl
        have HF2 := Lib.hid (show fnz (z5 :: [z6, z7, z8]) = fnz [z1, z2, z3, z4, z5, z6, z7, z8] from HF.out)
        clear HF
        by_cases hz0 : z5 = 0
        · have HF3 := Lib.hid (show fnz [z6, z7, z8] = fnz [z1, z2, z3, z4, z5, z6, z7, z8] from (fnz_skip hz0).symm.trans HF2.out)
          have hzb : (z5 != 0) = false := by simp [hz0]
          clear HF2 hz0
          go_wp2_with fail
          go_roundw
          case rel => exact ⟨5, rfl, by omega, by first | rfl | trivial, HF3⟩
          case measure => simp [intOf]
        · have HF3 := Lib.hid (show z5 = z from (fnz_hit hz0).symm.trans (HF2.out.trans HV.out))
          have hzb : (z5 != 0) = true := by simp [hz0]
          clear HF2 hz0
          go_wp2_with fail
          go_ret
          exact ⟨ret_int HF3.out, HB9.out⟩
      · have x0 := HX9.out.read (i := 5) rfl
        have HF2 := Lib.hid (show fnz (z6 :: [z7, z8]) = fnz [z1, z2, z3, z4, z5, z6, z7, z8] from HF.out)
        clear HF
        by_cases hz0 : z6 = 0
        · have HF3 := Lib.hid (show fnz [z7, z8] = fnz [z1, z2, z3, z4, z5, z6, z7, z8] from (fnz_skip hz0).symm.trans HF2.out)
          have hzb : (z6 != 0) = false := by simp [hz0]
          clear HF2 hz0
          go_wp2_with fail
          go_roundw
          case rel => exact ⟨6, rfl, by omega, by first | rfl | trivial, HF3⟩
          case measure => simp [intOf]
        · have HF3 := Lib.hid (show z6 = z from (fnz_hit hz0).symm.trans (HF2.out.trans HV.out))
          have hzb : (z6 != 0) = true := by simp [hz0]
          clear HF2 hz0
          go_wp2_with fail
          go_ret
          exact ⟨ret_int HF3.out, HB9.out⟩
      · have x0 := HX9.out.read (i := 6) rfl
        have HF2 := Lib.hid (show fnz (z7 :: [z8]) = fnz [z1, z2, z3, z4, z5, z6, z7, z8] from HF.out)
        clear HF
        by_cases hz0 : z7 = 0
        · have HF3 := Lib.hid (show fnz [z8] = fnz [z1, z2, z3, z4, z5, z6, z7, z8] from (fnz_skip hz0).symm.trans HF2.out)
          have hzb : (z7 != 0) = false := by simp [hz0]
          clear HF2 hz0
          go_wp2_with fail
          go_roundw
          case rel => exact ⟨7, rfl, by omega, by first | rfl | trivial, HF3⟩
          case measure => simp [intOf]
        · have HF3 := Lib.hid (show z7 = z from (fnz_hit hz0).symm.trans (HF2.out.trans HV.out))
          have hzb : (z7 != 0) = true := by simp [hz0]
          clear HF2 hz0
          go_wp2_with fail
          go_ret
          exact ⟨ret_int HF3.out, HB9.out⟩
      · have x0 := HX9.out.read (i := 7) rfl
        have HF2 := Lib.hid (show fnz (z8 :: []) = fnz [z1, z2, z3, z4, z5, z6, z7, z8] from HF.out)
        clear HF
        by_cases hz0 : z8 = 0
        · have HF3 := Lib.hid (show fnz [] = fnz [z1, z2, z3, z4, z5, z6, z7, z8] from (fnz_skip hz0).symm.trans HF2.out)
          have hzb : (z8 != 0) = false := by simp [hz0]
          clear HF2 hz0
          go_wp2_with fail
          go_roundw
          case rel => exact ⟨8, rfl, by omega, by first | rfl | trivial, HF3⟩
          case measure => simp [intOf]
        · have HF3 := Lib.hid (show z8 = z from (fnz_hit hz0).symm.trans (HF2.out.trans HV.out))
          have hzb : (z8 != 0) = true := by simp [hz0]
          clear HF2 hz0
          go_wp2_with fail
          go_ret
          exact ⟨ret_int HF3.out, HB9.out⟩
      · have HF3 := Lib.hid (show (0 : Int) = z from HF.out.trans HV.out)
        clear HF
        go_wp2_with fail
        go_ret
        exact ⟨ret_int HF3.out, HB9.out⟩
end Go.Proofs.Ytljhnkcoknikgaa
