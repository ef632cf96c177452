/- Layer 5 (vector): a row of dots sorted by who wrote them. -/
import Derived.Test.YtaeflfgkdjfnfaaYb
namespace Go.Proofs.Ytaeflfgkdjfnfaa
open Go.RowKit

theorem ltWho (x y : Int × Int) : ltOf (fun x y : Int × Int => cmpZ x.1 y.1) x y = decide (x.1 < y.1) := by
  unfold ltOf cmpZ
  rw [decide_eq_decide]
  dsimp only
  split
  · omega
  · split <;> omega
theorem swoWho : Go.Sort.SWO (ltOf fun x y : Int × Int => cmpZ x.1 y.1) where
  irrefl x := by rw [ltWho]; simp
  trans x y z h1 h2 := by rw [ltWho] at *; simp at *; omega
  ntrans x y z h1 h2 := by rw [ltWho] at *; simp at *; omega
/-- Dots that rise by who wrote them. -/
def Up (L : List (Int × Int)) : Prop := L.Pairwise fun a b => a.1 ≤ b.1
set_option maxHeartbeats 1000000 in
theorem sortdots_any (B g cap : Nat) (L : List (Int × Int)) (hn : L.length ≤ 1000000) (w : World) (h : DO w B (.slice (some ⟨g, 0, none⟩) L.length cap) L) :
    Calls Try.prog 197 #[.slice (some ⟨g, 0, none⟩) L.length cap, .func (.func 198) #[] #[]] w fun e w' => e = .returned (.tuple #[]) ∧ ∃ T, T.Perm L ∧ Up T ∧ DO w' B (.slice (some ⟨g, 0, none⟩) L.length cap) T ∧ w.grownBy w' (some g) := by
  have eg : ∀ args w, (callFunc 198 args).run Try.prog w = .ok (.enter 198 args) w := enters_of Try.func198 (by kernel_rfl) rfl
  have hblk : g < w.heap.size := by
    rcases h.2 with ⟨hv, _⟩ | ⟨g', cap', cur, hv, _, hb, _⟩
    · cases hv
    · cases hv; exact (Array.getElem?_eq_some_iff.1 hb).1
  have hcon := AnyQ.slices_SortFunc Try.sortDot 2 Try.isAgg123 Try.sizeOf123 encD (fun _ => rfl) (fun x v hv => by simp [encD] at hv; rcases hv with rfl | rfl <;> rfl) (fun x y => cmpZ x.1 y.1) swoWho 198 #[] g 0 cap L.toArray w eg (fun _ _ _ _ x y => byWho_any x y _) h.holds hblk (by simp; omega)
  change Calls Try.prog 197 _ _ _ at hcon
  rw [List.size_toArray] at hcon
  refine hcon.mono ?_
  rintro e w' ⟨rfl, d', n, os, hp, hs, rfl⟩
  obtain ⟨hp1, _, hp3⟩ := hp
  have hp4 : d'.toList.Perm L := by
    have e1 : d'.extract 0 L.length = d' := by
      rw [← show d'.size = L.length from by rw [hp1]; simp]
      simp
    have e2 : L.toArray.extract 0 L.length = L.toArray := by
      simp
    rw [e1, e2] at hp3
    simpa using hp3
  have hlen : d'.toList.length = L.length := hp4.length_eq
  have hd := DO.sorted (n := n) (os := os) (T := d'.toList) h hlen
  refine ⟨rfl, d'.toList, hp4, ?_, ?_, ?_⟩
  · unfold Up
    rw [List.pairwise_iff_getElem]
    intro i j hi hj hij
    have h1 := hs i j (Nat.zero_le _) hij (by omega)
    rw [ltWho, decide_eq_false_iff_not] at h1
    have hi2 : i < d'.size := by simpa using hi
    have hj2 : j < d'.size := by simpa using hj
    simp [hi2, hj2] at h1
    simpa using h1
  · simpa using hd.1
  · simpa using hd.2
end Go.Proofs.Ytaeflfgkdjfnfaa
