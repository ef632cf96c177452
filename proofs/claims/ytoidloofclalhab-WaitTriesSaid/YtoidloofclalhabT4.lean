/- Layer 48 (wait): the statement WaitBounds' walk. -/
import Derived.Test.YtoidloofclalhabT3
import Derived.Deep.RegionHeld3
namespace Go.Proofs.Ytoidloofclalhab
open Go.RowKit

/-- A wait's box in a world later than another one. -/
def WB (B : Nat) (w : World) (F M s : Int) (W : World) : Prop := Bx W B 66 #[.int .i64 F, .int .i64 M, .int .u32 s] ∧ Below w.heap.size w W
theorem WB.next {B : Nat} {w W W' : World} {F M s : Int} (h : WB B w F M s W) (hb : Below W.heap.size W W') : WB B w F M s W' := ⟨h.1.next hb, bnext h.2 hb⟩
theorem WB.drew {B : Nat} {w W : World} {F M s : Int} (h : WB B w F M s W) : WB B w F M s W.drew := ⟨h.1.drawn 1, h.2.drew⟩
set_option maxHeartbeats 4000000 in
theorem boundslaw (F M s t : Int) (hs : 0 ≤ s ∧ s < 4294967296) (w : World) :
    Calls Try.prog 10 #[wv F M s, .int .i64 t] w fun e w' => e = .returned (.bool true) ∧ Below w.heap.size w w' := by
  have hO := ofI_bd F M s t
  have hB := bdI_bd F M t
  have HW0 := Lib.hid (show WB w.heap.size w F M s (w.alloc (.cells #[.int .i64 F, .int .i64 M, .int .u32 s] 66)) from ⟨Bx.fresh _ _ _, (Below.refl _ _).alloc (Nat.le_refl _) _⟩)
  have C1 := Lib.hid (fun W => bound_any F M s t W)
  have C2 := Lib.hid (fun W => of_any F M s t hs W)
  have C3 := Lib.hid (fun W => lbound_any F M s t W)
  have C4 := Lib.hid (fun W => lof_any F M s t hs W)
  generalize bdI F M t = b at *
  generalize ofI F M s t = n at *
  obtain ⟨hO1, hO2, hO3⟩ := hO
  obtain ⟨hB1, hB2⟩ := hB
  clear hs
  unfold wv at *
  go_enter Try.func10, Try.ntmps10
  go_wp2_with fail
  have D1 : Hid (∀ W, (W.cell? ⟨w.heap.size, 0, none⟩ = some (.int .i64 F) ∧ W.cell? ⟨w.heap.size, 1, none⟩ = some (.int .i64 M) ∧ W.cell? ⟨w.heap.size, 2, none⟩ = some (.int .u32 s) ∧ Hid (WB w.heap.size w F M s W)) → Calls Try.prog 36 #[.agg #[.int .i64 F, .int .i64 M, .int .u32 s], .int .i64 t] W fun e w' => e = .returned (.int .i64 b) ∧ (w'.cell? ⟨w.heap.size, 0, none⟩ = some (.int .i64 F) ∧ w'.cell? ⟨w.heap.size, 1, none⟩ = some (.int .i64 M) ∧ w'.cell? ⟨w.heap.size, 2, none⟩ = some (.int .u32 s) ∧ Hid (WB w.heap.size w F M s w'))) := Lib.hid (fun W hW => (C1.out W).mono fun e w' ⟨h, h2⟩ => ⟨h, by
    have h3 := hW.2.2.2.out.next h2
    obtain ⟨a, b, c⟩ := h3.1.reads3
    exact ⟨a, b, c, Lib.hid h3⟩⟩)
  have D2 : Hid (∀ W, (W.cell? ⟨w.heap.size, 0, none⟩ = some (.int .i64 F) ∧ W.cell? ⟨w.heap.size, 1, none⟩ = some (.int .i64 M) ∧ W.cell? ⟨w.heap.size, 2, none⟩ = some (.int .u32 s) ∧ Hid (WB w.heap.size w F M s W)) → Calls Try.prog 37 #[.agg #[.int .i64 F, .int .i64 M, .int .u32 s], .int .i64 t] W fun e w' => e = .returned (.int .i64 n) ∧ (w'.cell? ⟨w.heap.size, 0, none⟩ = some (.int .i64 F) ∧ w'.cell? ⟨w.heap.size, 1, none⟩ = some (.int .i64 M) ∧ w'.cell? ⟨w.heap.size, 2, none⟩ = some (.int .u32 s) ∧ Hid (WB w.heap.size w F M s w'))) := Lib.hid (fun W hW => (C2.out W).mono fun e w' ⟨h, h2⟩ => ⟨h, by
    have h3 := hW.2.2.2.out.next h2
    obtain ⟨a, b, c⟩ := h3.1.reads3
    exact ⟨a, b, c, Lib.hid h3⟩⟩)
  have S0 : (w.alloc (.cells #[.int .i64 F, .int .i64 M, .int .u32 s] 66)).drew.cell? ⟨w.heap.size, 0, none⟩ = some (.int .i64 F) ∧ (w.alloc (.cells #[.int .i64 F, .int .i64 M, .int .u32 s] 66)).drew.cell? ⟨w.heap.size, 1, none⟩ = some (.int .i64 M) ∧ (w.alloc (.cells #[.int .i64 F, .int .i64 M, .int .u32 s] 66)).drew.cell? ⟨w.heap.size, 2, none⟩ = some (.int .u32 s) ∧ Hid (WB w.heap.size w F M s (w.alloc (.cells #[.int .i64 F, .int .i64 M, .int .u32 s] 66)).drew) := by
    have h3 := HW0.out.drew
    obtain ⟨a, b, c⟩ := h3.1.reads3
    exact ⟨a, b, c, Lib.hid h3⟩
  have HS0 := Lib.hid S0
  clear S0
  go_region_held3 (fun W => W.cell? ⟨w.heap.size, 0, none⟩ = some (.int .i64 F) ∧ W.cell? ⟨w.heap.size, 1, none⟩ = some (.int .i64 M) ∧ W.cell? ⟨w.heap.size, 2, none⟩ = some (.int .u32 s) ∧ Hid (WB w.heap.size w F M s W)) (first | assumption | exact HS0.out)
    ((first | (go_at_call 36; refine (D1.out _ (by assumption)).mono ?_; rintro e w6 ⟨rfl, k6⟩) | (go_at_call 37; refine (D2.out _ (by assumption)).mono ?_; rintro e w7 ⟨rfl, k7⟩)))
  all_goals
    obtain ⟨x0, x1, x2, HB7⟩ := k7
    try clear k6
    clear D1 D2 HS0 HW0 C1 C2
    go_wp2_with fail
    refine (C3.out _).mono ?_; rintro e w8 ⟨rfl, hb8⟩
    have HB8 := Lib.hid (HB7.out.next hb8)
    obtain ⟨c0, c1, c2⟩ := HB8.out.1.reads3
    clear x0 x1 x2 hb8
    go_wp2_with fail
    refine (C4.out _).mono ?_; rintro e w9 ⟨rfl, hb9⟩
    have HB9 := Lib.hid (HB8.out.next hb9)
    clear c0 c1 c2 hb9
    go_wp2_with fail
    refine (alive48_any _).mono ?_; rintro e w10 ⟨rfl, hb10⟩
    have HB10 := Lib.hid (HB9.out.next hb10)
    clear hb10
    go_wp2_with fail
    go_ret
    exact ⟨rfl, HB10.out.2⟩
end Go.Proofs.Ytoidloofclalhab
