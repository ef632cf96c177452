/- Layer 7 (mut): Copy; a mutation appended to a row; Copies. -/
import Derived.Test.YtljhnkcoknikgaaX7
import Derived.Laws.MakeOwn
namespace Go.Proofs.Ytljhnkcoknikgaa
open Go.RowKit

theorem SO.base {w : World} {B C : Nat} {v : Value} {L : List St} (h : SO w B v L) (hC : C ≤ B) : SO w C v L := by
  refine ⟨h.1, ?_⟩
  rcases h.2 with h2 | ⟨g, cap, cur, hv, hB, h3⟩
  · exact .inl h2
  · exact .inr ⟨g, cap, cur, hv, Nat.le_trans hC hB, h3⟩
theorem SI.one {w : World} {v : Value} {L : List St} (h : SI w v L) : v.oneCell' = true := by
  obtain ⟨a, c, rfl⟩ := h.form
  rfl
theorem mut_size {t k ex x y z : Int} {mk en val : ByteArray} {ov : Value} : (Try.prog.info? 40).map (·.size) = some (#[.int .i64 t, .int .i64 k, .string mk, .string en, .string val, .int .i64 ex, .int .i64 x, .int .i64 y, .int .i64 z, ov] : Array Value).size := by
  show (Try.prog.info? 40).map (·.size) = some 10
  kernel_rfl
theorem below_setRow {B g : Nat} {w w' : World} (h : Below B w w') (hg : B ≤ g) (cs : Array Value) : Below B w (w'.setRow g cs) :=
  ⟨h.os, h.tape, h.output, by simpa [World.setRow] using h.size, fun k hk => by
    rw [← h.block k hk]
    simp only [World.setRow, Array.getElem?_modify]
    rw [if_neg (by omega)]⟩
theorem own_set {w : World} {B n : Nat} {e : TypeId} {size : Nat} {v : Value} {xs : List Value} (h : w.ownsRow B e size v n xs) {p : Addr} (hp : p.block < B) (u : Value) : (w.setCell p u).ownsRow B e size v n xs := by
  refine ⟨h.1, ?_⟩
  rcases h.2 with h2 | ⟨g, cap, cur, hv, hB, hg, h3⟩
  · exact .inl h2
  · refine .inr ⟨g, cap, cur, hv, hB, ?_, h3⟩
    rw [← hg]
    simp only [World.setCell, Array.getElem?_modify]
    rw [if_neg (by omega)]
theorem own_row {w : World} {B n : Nat} {e : TypeId} {size : Nat} {v : Value} {xs : List Value} (h : w.ownsRow B e size v n xs) {g : Nat} (hp : g < B) (cs : Array Value) : (w.setRow g cs).ownsRow B e size v n xs := by
  refine ⟨h.1, ?_⟩
  rcases h.2 with h2 | ⟨g', cap, cur, hv, hB, hg, h3⟩
  · exact .inl h2
  · refine .inr ⟨g', cap, cur, hv, hB, ?_, h3⟩
    rw [← hg]
    simp only [World.setRow, Array.getElem?_modify]
    rw [if_neg (by omega)]
set_option maxRecDepth 100000 in
set_option maxHeartbeats 4000000 in
theorem copy_any (m : Mu) (ov : Value) (hn : m.over.length ≤ 100000) (w : World) (h : SI w ov m.over) :
    Calls Try.prog 19 #[.agg (m.cells ov)] w fun e w' => ∃ ov', e = .returned (.agg (m.cells ov')) ∧ SO w' w.heap.size ov' m.over ∧ Below w.heap.size w w' := by
  obtain ⟨t, k, mk, en, val, ex, ⟨x, y, z⟩, over⟩ := m
  unfold Mu.cells
  dsimp only at *
  have hb0 : Below w.heap.size w ((w.alloc (.cells #[.int .i64 t, .int .i64 k, .string mk, .string en, .string val, .int .i64 ex, .int .i64 x, .int .i64 y, .int .i64 z, ov] 40)).alloc (.cells #[.int .i64 0, .int .i64 0, .string ⟨#[]⟩, .string ⟨#[]⟩, .string ⟨#[]⟩, .int .i64 0, .int .i64 0, .int .i64 0, .int .i64 0, .slice none 0 0] 40)) := ((Below.refl _ _).alloc (Nat.le_refl _) _).alloc (by simp) _
  have CC := Lib.hid (stclone_any ov over hn _ (h.next hb0))
  have HB := Lib.hid (show Below w.heap.size w ((w.alloc (.cells #[.int .i64 t, .int .i64 k, .string mk, .string en, .string val, .int .i64 ex, .int .i64 x, .int .i64 y, .int .i64 z, ov] 40)).alloc (.cells #[.int .i64 0, .int .i64 0, .string ⟨#[]⟩, .string ⟨#[]⟩, .string ⟨#[]⟩, .int .i64 0, .int .i64 0, .int .i64 0, .int .i64 0, .slice none 0 0] 40)) ∧ Bx ((w.alloc (.cells #[.int .i64 t, .int .i64 k, .string mk, .string en, .string val, .int .i64 ex, .int .i64 x, .int .i64 y, .int .i64 z, ov] 40)).alloc (.cells #[.int .i64 0, .int .i64 0, .string ⟨#[]⟩, .string ⟨#[]⟩, .string ⟨#[]⟩, .int .i64 0, .int .i64 0, .int .i64 0, .int .i64 0, .slice none 0 0] 40)) w.heap.size 40 #[.int .i64 t, .int .i64 k, .string mk, .string en, .string val, .int .i64 ex, .int .i64 x, .int .i64 y, .int .i64 z, ov] ∧ Bx ((w.alloc (.cells #[.int .i64 t, .int .i64 k, .string mk, .string en, .string val, .int .i64 ex, .int .i64 x, .int .i64 y, .int .i64 z, ov] 40)).alloc (.cells #[.int .i64 0, .int .i64 0, .string ⟨#[]⟩, .string ⟨#[]⟩, .string ⟨#[]⟩, .int .i64 0, .int .i64 0, .int .i64 0, .int .i64 0, .slice none 0 0] 40)) (w.heap.size + 1) 40 #[.int .i64 0, .int .i64 0, .string ⟨#[]⟩, .string ⟨#[]⟩, .string ⟨#[]⟩, .int .i64 0, .int .i64 0, .int .i64 0, .int .i64 0, .slice none 0 0] from ⟨hb0, (Bx.fresh w _ _).past _, Bx.fresh' (w.alloc _) (by simp) _ _⟩)
  clear hb0 h
  go_enter Try.func19, Try.ntmps19
  go_wp2_with fail
  refine (CC.out).mono ?_; rintro e w1 ⟨v1, rfl, hO, hb1⟩
  obtain ⟨aq, cq, rfl⟩ := hO.form
  have H1 := Lib.hid (show Below w.heap.size w w1 ∧ SO w1 (w.heap.size + 1 + 1) (.slice aq over.length cq) over from ⟨bnext HB.out.1 hb1, by
    have := hO
    simp only [World.size_alloc] at this
    exact this⟩)
  have x0 := HB.out.2.1.next hb1
  have y0 := HB.out.2.2.next hb1
  have f9 := x0.open_ 9
  have a9 := x0.read (i := 9) rfl
  have x1 : Bx (w1.setCell ⟨w.heap.size, 9, none⟩ (.slice aq over.length cq)) w.heap.size 40 #[.int .i64 t, .int .i64 k, .string mk, .string en, .string val, .int .i64 ex, .int .i64 x, .int .i64 y, .int .i64 z, .slice aq over.length cq] := x0.put 9 _
  have y1 : Bx (w1.setCell ⟨w.heap.size, 9, none⟩ (.slice aq over.length cq)) (w.heap.size + 1) 40 #[.int .i64 0, .int .i64 0, .string ⟨#[]⟩, .string ⟨#[]⟩, .string ⟨#[]⟩, .int .i64 0, .int .i64 0, .int .i64 0, .int .i64 0, .slice none 0 0] := y0.beside (p := ⟨w.heap.size, 9, none⟩) (by show w.heap.size ≠ w.heap.size + 1; omega) _
  have bl1 : Below w.heap.size w (w1.setCell ⟨w.heap.size, 9, none⟩ (.slice aq over.length cq)) := H1.out.1.setCell (p := ⟨w.heap.size, 9, none⟩) (Nat.le_refl _) _
  have s1 : SO (w1.setCell ⟨w.heap.size, 9, none⟩ (.slice aq over.length cq)) (w.heap.size + 1 + 1) (.slice aq over.length cq) over := own_set H1.out.2 (p := ⟨w.heap.size, 9, none⟩) (by show w.heap.size < w.heap.size + 1 + 1; omega) _
  have X1 := Lib.hid (And.intro x1 (And.intro y1 (And.intro bl1 s1)))
  have b0 := y0.read (i := 0) rfl
  have f0y := y0.open_ 0
  have a0 := x0.read (i := 0) rfl
  have b1 := y0.read (i := 1) rfl
  have f1y := y0.open_ 1
  have a1 := x0.read (i := 1) rfl
  have b2 := y0.read (i := 2) rfl
  have f2y := y0.open_ 2
  have a2 := x0.read (i := 2) rfl
  have b3 := y0.read (i := 3) rfl
  have f3y := y0.open_ 3
  have a3 := x0.read (i := 3) rfl
  have b4 := y0.read (i := 4) rfl
  have f4y := y0.open_ 4
  have a4 := x0.read (i := 4) rfl
  have b5 := y0.read (i := 5) rfl
  have f5y := y0.open_ 5
  have a5 := x0.read (i := 5) rfl
  have b6 := y0.read (i := 6) rfl
  have f6y := y0.open_ 6
  have a6 := x0.read (i := 6) rfl
  have b7 := y0.read (i := 7) rfl
  have f7y := y0.open_ 7
  have a7 := x0.read (i := 7) rfl
  have b8 := y0.read (i := 8) rfl
  have f8y := y0.open_ 8
  have a8 := x0.read (i := 8) rfl
  have b9 := y0.read (i := 9) rfl
  have f9y := y0.open_ 9
  clear hb1 CC hO x0 x1 bl1 s1 y0 y1
  go_wp2_with fail
  have u0 : Bx _ (w.heap.size + 1) 40 #[.int .i64 t, .int .i64 0, .string ⟨#[]⟩, .string ⟨#[]⟩, .string ⟨#[]⟩, .int .i64 0, .int .i64 0, .int .i64 0, .int .i64 0, .slice none 0 0] := Bx.put X1.out.2.1 0 (.int .i64 t)
  have l0 := Below.setCell X1.out.2.2.1 (p := ⟨w.heap.size + 1, 0, none⟩) (by show w.heap.size ≤ w.heap.size + 1; omega) (.int .i64 t)
  have o0 := own_set X1.out.2.2.2 (p := ⟨w.heap.size + 1, 0, none⟩) (by show w.heap.size + 1 < w.heap.size + 1 + 1; omega) (.int .i64 t)
  have u1 : Bx _ (w.heap.size + 1) 40 #[.int .i64 t, .int .i64 k, .string ⟨#[]⟩, .string ⟨#[]⟩, .string ⟨#[]⟩, .int .i64 0, .int .i64 0, .int .i64 0, .int .i64 0, .slice none 0 0] := Bx.put u0 1 (.int .i64 k)
  have l1 := Below.setCell l0 (p := ⟨w.heap.size + 1, 1, none⟩) (by show w.heap.size ≤ w.heap.size + 1; omega) (.int .i64 k)
  have o1 := own_set o0 (p := ⟨w.heap.size + 1, 1, none⟩) (by show w.heap.size + 1 < w.heap.size + 1 + 1; omega) (.int .i64 k)
  have u2 : Bx _ (w.heap.size + 1) 40 #[.int .i64 t, .int .i64 k, .string mk, .string ⟨#[]⟩, .string ⟨#[]⟩, .int .i64 0, .int .i64 0, .int .i64 0, .int .i64 0, .slice none 0 0] := Bx.put u1 2 (.string mk)
  have l2 := Below.setCell l1 (p := ⟨w.heap.size + 1, 2, none⟩) (by show w.heap.size ≤ w.heap.size + 1; omega) (.string mk)
  have o2 := own_set o1 (p := ⟨w.heap.size + 1, 2, none⟩) (by show w.heap.size + 1 < w.heap.size + 1 + 1; omega) (.string mk)
  have u3 : Bx _ (w.heap.size + 1) 40 #[.int .i64 t, .int .i64 k, .string mk, .string en, .string ⟨#[]⟩, .int .i64 0, .int .i64 0, .int .i64 0, .int .i64 0, .slice none 0 0] := Bx.put u2 3 (.string en)
  have l3 := Below.setCell l2 (p := ⟨w.heap.size + 1, 3, none⟩) (by show w.heap.size ≤ w.heap.size + 1; omega) (.string en)
  have o3 := own_set o2 (p := ⟨w.heap.size + 1, 3, none⟩) (by show w.heap.size + 1 < w.heap.size + 1 + 1; omega) (.string en)
  have u4 : Bx _ (w.heap.size + 1) 40 #[.int .i64 t, .int .i64 k, .string mk, .string en, .string val, .int .i64 0, .int .i64 0, .int .i64 0, .int .i64 0, .slice none 0 0] := Bx.put u3 4 (.string val)
  have l4 := Below.setCell l3 (p := ⟨w.heap.size + 1, 4, none⟩) (by show w.heap.size ≤ w.heap.size + 1; omega) (.string val)
  have o4 := own_set o3 (p := ⟨w.heap.size + 1, 4, none⟩) (by show w.heap.size + 1 < w.heap.size + 1 + 1; omega) (.string val)
  have u5 : Bx _ (w.heap.size + 1) 40 #[.int .i64 t, .int .i64 k, .string mk, .string en, .string val, .int .i64 ex, .int .i64 0, .int .i64 0, .int .i64 0, .slice none 0 0] := Bx.put u4 5 (.int .i64 ex)
  have l5 := Below.setCell l4 (p := ⟨w.heap.size + 1, 5, none⟩) (by show w.heap.size ≤ w.heap.size + 1; omega) (.int .i64 ex)
  have o5 := own_set o4 (p := ⟨w.heap.size + 1, 5, none⟩) (by show w.heap.size + 1 < w.heap.size + 1 + 1; omega) (.int .i64 ex)
  have u6 : Bx _ (w.heap.size + 1) 40 #[.int .i64 t, .int .i64 k, .string mk, .string en, .string val, .int .i64 ex, .int .i64 x, .int .i64 0, .int .i64 0, .slice none 0 0] := Bx.put u5 6 (.int .i64 x)
  have l6 := Below.setCell l5 (p := ⟨w.heap.size + 1, 6, none⟩) (by show w.heap.size ≤ w.heap.size + 1; omega) (.int .i64 x)
  have o6 := own_set o5 (p := ⟨w.heap.size + 1, 6, none⟩) (by show w.heap.size + 1 < w.heap.size + 1 + 1; omega) (.int .i64 x)
  have u7 : Bx _ (w.heap.size + 1) 40 #[.int .i64 t, .int .i64 k, .string mk, .string en, .string val, .int .i64 ex, .int .i64 x, .int .i64 y, .int .i64 0, .slice none 0 0] := Bx.put u6 7 (.int .i64 y)
  have l7 := Below.setCell l6 (p := ⟨w.heap.size + 1, 7, none⟩) (by show w.heap.size ≤ w.heap.size + 1; omega) (.int .i64 y)
  have o7 := own_set o6 (p := ⟨w.heap.size + 1, 7, none⟩) (by show w.heap.size + 1 < w.heap.size + 1 + 1; omega) (.int .i64 y)
  have u8 : Bx _ (w.heap.size + 1) 40 #[.int .i64 t, .int .i64 k, .string mk, .string en, .string val, .int .i64 ex, .int .i64 x, .int .i64 y, .int .i64 z, .slice none 0 0] := Bx.put u7 8 (.int .i64 z)
  have l8 := Below.setCell l7 (p := ⟨w.heap.size + 1, 8, none⟩) (by show w.heap.size ≤ w.heap.size + 1; omega) (.int .i64 z)
  have o8 := own_set o7 (p := ⟨w.heap.size + 1, 8, none⟩) (by show w.heap.size + 1 < w.heap.size + 1 + 1; omega) (.int .i64 z)
  have u9 : Bx _ (w.heap.size + 1) 40 #[.int .i64 t, .int .i64 k, .string mk, .string en, .string val, .int .i64 ex, .int .i64 x, .int .i64 y, .int .i64 z, .slice aq over.length cq] := Bx.put u8 9 (.slice aq over.length cq)
  have l9 := Below.setCell l8 (p := ⟨w.heap.size + 1, 9, none⟩) (by show w.heap.size ≤ w.heap.size + 1; omega) (.slice aq over.length cq)
  have o9 := own_set o8 (p := ⟨w.heap.size + 1, 9, none⟩) (by show w.heap.size + 1 < w.heap.size + 1 + 1; omega) (.slice aq over.length cq)
  have h6 := u9
  have h7 := l9
  have h8 : SO _ _ _ over := o9
  clear u0 l0 o0 u1 l1 o1 u2 l2 o2 u3 l3 o3 u4 l4 o4 u5 l5 o5 u6 l6 o6 u7 l7 o7 u8 l8 o8 u9 l9 o9
  (try simp only [Exit.inBlock, Exit.then])
  refine bodyPost_ret (results_cell_row rfl _ _ (w.heap.size + 1) 40 #[.int .i64 t, .int .i64 k, .string mk, .string en, .string val, .int .i64 ex, .int .i64 x, .int .i64 y, .int .i64 z, .slice aq over.length cq] (0, 0) _ rfl h6 Try.underlying40 rfl mut_size) rfl ?_
  exact ⟨_, rfl, SO.base h8 (by omega), h7⟩
end Go.Proofs.Ytljhnkcoknikgaa
