/- Layer 38 (glob): a class, by definition. -/
import Derived.Test.YtfnjmboflegaaaaDoorGm
import Derived.Deep.RegionLaw
namespace Go.Proofs.YtfnjmboflegaaaaDoor
open Go.RowKit

/-- What the document's class answers. -/
def RClsPost (w : World) (l : List Int) (e : Ending) (w' : World) : Prop :=
  ∃ (kd : Int) (sa : Option Addr) (sn sc : Nat) (m : Int) (b : Bool), e = .returned (.tuple #[.agg #[.int .i64 kd, .slice sa sn sc], .int .i64 m, .bool b]) ∧ Below w.heap.size w w' ∧
    ((b = false ∧ (idxB l = none ∨ ∃ n, idxB l = some n ∧ clsS (l.take n) = none)) ∨ ∃ n p, idxB l = some n ∧ clsS (l.take n) = some p ∧ b = true ∧ m = (n : Int) + 1 ∧ kd = kdI p ∧ SpR w' (.slice sa sn sc) p.sp)
theorem rspan_info : (Tryd.prog.info? 54).map (fun i => (i.zero, i.size, i.bytes)) = some (some (.agg #[.int .i32 0, .int .i32 0]), 2, 8) := by kernel_rfl
theorem Bx.reads2 {w : World} {g : Nat} {t : TypeId} {a b : Value} (h : Bx w g t #[a, b]) : w.cell? ⟨g, 0, none⟩ = some a ∧ w.cell? ⟨g, 1, none⟩ = some b := ⟨h.read rfl, h.read rfl⟩
theorem Bx.opens2 {w : World} {g : Nat} {t : TypeId} {cs : Array Value} (h : Bx w g t cs) : w.frozen? ⟨g, 0, none⟩ = false ∧ w.frozen? ⟨g, 1, none⟩ = false := ⟨h.open_ 0, h.open_ 1⟩
/-- What the walk along the document's class knows. -/
structure RI (w : World) (j : Nat) (b : List Int) (k : Nat) (done : List (Int × Int)) (sa : Option Addr) (sc : Nat) (wr : World) : Prop where
  k_le : k ≤ b.length
  len : done.length + (b.length - k) ≤ 200
  zero : Bx wr w.heap.size 51 #[.int .i64 0, .slice none 0 0]
  part : Bx wr (w.heap.size + 1) 51 #[.int .i64 j, .slice sa done.length sc]
  own : wr.ownsRow w.heap.size 54 2 (.slice sa done.length sc) done.length (flatS done)
  bel : Below w.heap.size w wr
  eq : spF (b.drop j) = (spF (b.drop k)).map (done ++ ·)
theorem RI.drawn {w wr : World} {j k : Nat} {b : List Int} {done : List (Int × Int)} {sa : Option Addr} {sc : Nat} (H : RI w j b k done sa sc wr) (n : Nat) : RI w j b k done sa sc (wr.drewN n) :=
  ⟨H.k_le, H.len, H.zero.drawn n, H.part.drawn n, own_next H.own ⟨rfl, rfl, rfl, Nat.le_refl _, fun _ _ => rfl⟩, below_gb H.bel (gb_drawn wr n (some w.heap.size)) (Nat.le_refl _), H.eq⟩
theorem RI.after {w wr w2 : World} {j k : Nat} {b : List Int} {done : List (Int × Int)} {sa : Option Addr} {sc : Nat} (H : RI w j b k done sa sc wr) (cs : Array Value) (hgr : ((wr.alloc (.cells cs 54)).drew).grownBy w2 (Value.slice sa done.length sc).ownBlock) :
    Bx w2 w.heap.size 51 #[.int .i64 0, .slice none 0 0] ∧ Bx w2 (w.heap.size + 1) 51 #[.int .i64 j, .slice sa done.length sc] :=
  ⟨((H.zero.past _).drawn 1).grown hgr (bx_apart H.zero H.own (by decide)), ((H.part.past _).drawn 1).grown hgr (bx_apart H.part H.own (by decide))⟩
theorem RI.add {w wr w2 : World} {j k : Nat} {b : List Int} {done : List (Int × Int)} {sa : Option Addr} {sc : Nat} (H : RI w j b k done sa sc wr) (a c : Int) (k' gg cap : Nat) (hgr : ((wr.alloc (.cells #[.int .i32 a, .int .i32 c] 54)).drew).grownBy w2 (Value.slice sa done.length sc).ownBlock)
    (hown : w2.ownsRow w.heap.size 54 2 (.slice (some ⟨gg, 0, none⟩) (done.length + 1) cap) (done.length + 1) (flatS done ++ [.int .i32 a, .int .i32 c])) (hk : k < k') (hk' : k' ≤ b.length) (he : spF (b.drop k) = (spF (b.drop k')).map ((a, c) :: ·)) :
    RI w j b k' (done ++ [(a, c)]) (some ⟨gg, 0, none⟩) cap (w2.setCell ⟨w.heap.size + 1, 1, none⟩ (.slice (some ⟨gg, 0, none⟩) (done.length + 1) cap)) := by
  obtain ⟨h0, h1⟩ := H.after _ hgr
  have hs := H.bel.size
  refine ⟨hk', by have := H.len; simp; omega, h0.beside (p := ⟨w.heap.size + 1, 1, none⟩) (by simp) _, ?_, ?_, ?_, by rw [H.eq, he, map_app]⟩
  · rw [List.length_append]; exact h1.put 1 _
  · rw [List.length_append, flatS_snoc]
    exact hown.kept (gb_set _ _ _ _) (.inr (bx_apart h1 hown (by decide)))
  · refine below_gb ((((H.bel.alloc hs _).drew).grown hgr (by show w.heap.size ≤ (wr.alloc _).heap.size; simp; omega) (fun i hi => (H.own.lt i hi).1))) (gb_set _ _ _ _) (Nat.le_succ _)
theorem spF_ne : ∀ (l : List Int), spF l = some [] → l = []
  | [], _ => rfl
  | [a], h => by simp [spF] at h
  | [a, b], h => by simp [spF] at h
  | a :: b :: c :: l, h => by
    rw [spF] at h
    split at h
    · split at h
      · simp at h
      · cases h2 : spF l <;> rw [h2] at h <;> simp at h
    · cases h2 : spF (b :: c :: l) <;> rw [h2] at h <;> simp at h

end Go.Proofs.YtfnjmboflegaaaaDoor
