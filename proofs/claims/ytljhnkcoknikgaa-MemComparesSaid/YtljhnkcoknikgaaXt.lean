/- Layer 13 (mem): the law's example. -/
import Derived.Test.YtljhnkcoknikgaaXs
namespace Go.Proofs.Ytljhnkcoknikgaa
open Go.RowKit

set_option maxRecDepth 100000 in
set_option maxHeartbeats 8000000 in
theorem alive_any : Al13 := by
  intro w
  have h0 : Bx (w.alloc (.cells #[.pointer none, .int .i64 0] 98)) w.heap.size 98 #[.pointer none, .int .i64 0] := Bx.fresh _ _ _
  have C1 := Lib.hid (put_b w.heap.size _ h0)
  have C2 := Lib.hid (fun g W => put_a w.heap.size g W)
  have C3 := Lib.hid (fun g gA W => lfrom_any w.heap.size g gA W)
  have HB := Lib.hid ((Below.refl w.heap.size w).alloc (Nat.le_refl _) (.cells #[.pointer none, .int .i64 0] 98))
  clear h0
  go_enter Try.func31, Try.ntmps31
  go_wp2_with fail
  refine C1.out.mono ?_
  rintro e w1 ⟨g1, rfl, ht1, hn1, hb1⟩
  have hb1' : Below w.heap.size w w1 := HB.out.trans hb1
  clear C1
  go_wp2_with fail
  refine (C2.out g1 w1 ht1 hn1).mono ?_
  rintro e w2 ⟨g, gA, rfl, ht2, ⟨hg2, hA2⟩, hb2⟩
  have hb2' : Below w.heap.size w w2 := hb1'.trans hb2
  clear C2 ht1 hn1 hb1 hb1' HB hb2
  go_wp2_with fail
  refine (C3.out g gA w2 ht2 hg2 hA2).mono ?_
  rintro e w3 ⟨v, base, rfl, ho3, hb3⟩
  have hb3' : Below w.heap.size w w3 := bnext hb2' hb3
  have ht3 := ht2.next hb3
  clear C3 hg2 hA2 hb2' hb3 ht2
  rcases ho3.2 with ⟨rfl, hz⟩ | ⟨gl, cap, cur, rfl, _⟩
  · cases hz
  have k2 : w3.cell? ⟨gl, 2, none⟩ = some (.string ⟨#[97]⟩) := by
    have := World.ownsRow.cellAt ho3 2 (by simp)
    simpa [abF, abC] using this
  have CT := Lib.hid (fun W (h : Bx W w.heap.size 98 #[.pointer (some ⟨g, 0, none⟩), .int .i64 2]) => tlen w.heap.size _ 2 W h)
  have HF := Lib.hid (And.intro hb3' ht3)
  clear ho3 hb3' ht3
  go_wp2_with fail
  refine (CT.out w3 HF.out.2).mono ?_
  rintro e w4 ⟨rfl, rfl⟩
  go_wp2_with fail
  go_ret
  exact ⟨rfl, HF.out.1⟩
theorem memcompares_any (RC : RCmp) (a b : Mu) (oa ob : Value) (w : World) (ha : SI w oa a.over) (hb : SI w ob b.over) :
    Calls Try.prog 6 #[.agg (a.cells oa), .agg (b.cells ob)] w fun e w' => e = .returned (.bool true) ∧ Below w.heap.size w w' := memcompares RC alive_any a b oa ob w ha hb
end Go.Proofs.Ytljhnkcoknikgaa
