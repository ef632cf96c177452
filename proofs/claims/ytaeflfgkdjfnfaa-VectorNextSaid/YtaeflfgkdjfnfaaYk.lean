/- Layer 5 (vector): the chapter's example. -/
import Derived.Test.YtaeflfgkdjfnfaaYj
namespace Go.Proofs.Ytaeflfgkdjfnfaa
open Go.RowKit

theorem one_of {D : DataW Unit} {ys : List (Int × Int)} {a : Int} (h : Lists D ys) (hk : ∀ k : Int, Maps.has D (.int .i64 k) = true ↔ k = a) : ys = [(a, gI D a)] := by
  have key : ∀ x ∈ ys, x = (a, gI D a) := fun x hx => by
    obtain ⟨p, q⟩ := x
    have h1 := (hk p).1 ((h.1 p).2 ⟨q, hx⟩)
    have h2 := (h.2.1 _ hx).1
    dsimp only at h2
    subst h1
    rw [h2]
  match ys, h, key with
  | [], h, _ =>
    obtain ⟨n, hn⟩ := (h.1 a).1 ((hk a).2 rfl)
    cases hn
  | [x], _, key => rw [key x (by simp)]
  | x :: y :: r, h, key =>
    exfalso
    have h1 := key x (by simp)
    have h2 := key y (by simp)
    have hn := h.2.2
    rw [h1, h2] at hn
    simp at hn
theorem two_of {D : DataW Unit} {ys : List (Int × Int)} {a b : Int} (h : Lists D ys) (hu : Up ys) (hab : a < b) (hk : ∀ k : Int, Maps.has D (.int .i64 k) = true ↔ k = a ∨ k = b) : ys = [(a, gI D a), (b, gI D b)] := by
  have key : ∀ x ∈ ys, x = (a, gI D a) ∨ x = (b, gI D b) := fun x hx => by
    obtain ⟨p, q⟩ := x
    have h1 := (hk p).1 ((h.1 p).2 ⟨q, hx⟩)
    have h2 := (h.2.1 _ hx).1
    dsimp only at h2
    rcases h1 with rfl | rfl
    · left; rw [h2]
    · right; rw [h2]
  have ha : (a, gI D a) ∈ ys := by
    obtain ⟨n, hn⟩ := (h.1 a).1 ((hk a).2 (.inl rfl))
    have := (h.2.1 _ hn).1
    dsimp only at this
    rw [this]; exact hn
  have hb : (b, gI D b) ∈ ys := by
    obtain ⟨n, hn⟩ := (h.1 b).1 ((hk b).2 (.inr rfl))
    have := (h.2.1 _ hn).1
    dsimp only at this
    rw [this]; exact hn
  have hne : (a, gI D a) ≠ (b, gI D b) := fun e => by injection e with e _; omega
  match ys, h, hu, key, ha, hb with
  | [], _, _, _, ha, _ => cases ha
  | [x], _, _, _, ha, hb =>
    simp at ha hb
    exact absurd (ha.trans hb.symm) hne
  | [x, y], h, hu, key, ha, hb =>
    rcases key x (by simp) with h1 | h1 <;> rcases key y (by simp) with h2 | h2
    · have hn := h.2.2; rw [h1, h2] at hn; simp at hn
    · rw [h1, h2]
    · have hp := hu; unfold Up at hp; rw [h1, h2] at hp; simp at hp; omega
    · have hn := h.2.2; rw [h1, h2] at hn; simp at hn
  | x :: y :: z :: r, h, _, key, _, _ =>
    exfalso
    have hn := h.2.2
    rcases key x (by simp) with h1 | h1 <;> rcases key y (by simp) with h2 | h2 <;> rcases key z (by simp) with h3 | h3 <;> (rw [h1, h2, h3] at hn; simp at hn)
theorem dr_lit (w : World) (l : List (Int × Int)) (n : Nat) (hn : l.length = n) (cs : Array Value) (hc : cs = (flatD l).toArray) (hw : ∀ x ∈ l, IW x.1 ∧ IW x.2) : DR (w.alloc (.cells cs 123)) (.slice (some ⟨w.heap.size, 0, none⟩) n n) l := by
  subst hc
  subst hn
  have hb : Bx (w.alloc (.cells (flatD l).toArray 123)) w.heap.size 123 (flatD l).toArray := Bx.fresh w _ _
  refine ⟨_, _, rfl, hw, fun _ => ⟨_, _, rfl, fun i hi => ?_⟩⟩
  obtain ⟨f0, f1⟩ := flatD_at l i hi
  rw [Nat.zero_add]
  exact ⟨hb.read (by rw [List.getElem?_toArray]; exact f0), hb.read (by rw [List.getElem?_toArray]; exact f1)⟩
theorem has_of1 (k : Int) : Maps.has (ofD [(0, 2)]) (.int .i64 k) = true ↔ k = 0 := by
  have := has_lr (D := .map []) (by simp [Maps.IsMap]) (0, 2) k
  rw [show ofD [(0, 2)] = lrD (.map []) (0, 2) from rfl, this]
  simp [Maps.has, rgt]
  omega
theorem has_of2 (k : Int) : Maps.has (ofD [(0, 1), (3, 4)]) (.int .i64 k) = true ↔ k = 0 ∨ k = 3 := by
  have h1 := has_lr (D := .map []) (by simp [Maps.IsMap]) (0, 1) k
  have h2 := has_lr (D := lrD (.map []) (0, 1)) (lrD_map (by simp [Maps.IsMap]) _) (3, 4) k
  rw [show ofD [(0, 1), (3, 4)] = lrD (lrD (.map []) (0, 1)) (3, 4) from rfl, h2, h1]
  simp [Maps.has, rgt]
  omega
set_option maxRecDepth 100000 in
set_option maxHeartbeats 4000000 in
theorem alive05_any (w : World) : Calls Try.prog 71 #[] w fun e w' => e = .returned (.bool true) ∧ Below w.heap.size w w' := by
  have C1 := Hid.mk' (fun W => of_any _ [(0, 2)] (by decide) _ (dr_lit W [(0, 2)] 1 rfl #[.int .i64 0, .int .i64 2] rfl (fun x hx => by simp at hx; subst hx; exact ⟨by unfold IW; decide, by unfold IW; decide⟩)))
  have C2 := Hid.mk' (fun W => of_any _ [(0, 1), (3, 4)] (by decide) _ (dr_lit W [(0, 1), (3, 4)] 2 rfl #[.int .i64 0, .int .i64 1, .int .i64 3, .int .i64 4] rfl (fun x hx => by simp at hx; rcases hx with rfl | rfl <;> exact ⟨by unfold IW; decide, by unfold IW; decide⟩)))
  go_enter Try.func71, Try.ntmps71
  go_wp2_with fail
  refine (C1.out _).mono ?_; rintro e w1 ⟨M1, n1, rfl, hv1, _, hn1, hb1⟩
  have H1 := Hid.mk' (And.intro hv1 (And.intro hn1 (bnext ((Below.refl w.heap.size w).alloc (Nat.le_refl _) (.cells #[.int .i64 0, .int .i64 2] 123)) hb1)))
  clear hv1 hn1 hb1 C1
  go_wp2_with fail
  refine (C2.out _).mono ?_; rintro e w2 ⟨M2, n2, rfl, hv2, _, hn2, hb2⟩
  have e2 := bnext ((Below.refl w1.heap.size w1).alloc (Nat.le_refl _) (.cells #[.int .i64 0, .int .i64 1, .int .i64 3, .int .i64 4] 123)) hb2
  have hv1 : VM w2 M1 n1 (ofD [(0, 2)]) := World.ownsMap.kept H1.out.1 (gb_below e2 none) (by simp)
  have H2 := Hid.mk' (And.intro hv1 (And.intro hv2 (bnext H1.out.2.2 e2)))
  have C3 := Hid.mk' (join_any M1 M2 n1 n2 _ _ (by have := H1.out.2.1; simp at this; omega) (by simp at hn2; omega) w2 hv1 hv2)
  have hnn : n1 ≤ 100000 ∧ n2 ≤ 100000 := ⟨by have := H1.out.2.1; simp at this; omega, by simp at hn2; omega⟩
  have HN := Hid.mk' hnn
  clear hv1 hv2 hn2 hb2 e2 C2 hnn
  go_wp2_with fail
  refine C3.out.mono ?_; rintro e w3 ⟨M3, n3, ys, zs, rfl, ⟨ly, _⟩, ⟨lz, uz⟩, hv3, _, _, hb3⟩
  have ey := one_of ly has_of1
  have ez := two_of lz uz (by decide) has_of2
  rw [show gI (ofD [(0, 2)]) 0 = 2 from rfl] at ey
  rw [show gI (ofD [(0, 1), (3, 4)]) 0 = 1 from rfl, show gI (ofD [(0, 1), (3, 4)]) 3 = 4 from rfl] at ez
  rw [ey, ez] at hv3
  have hlen := World.ownsMap.len hv3 Try.underlying116 3
  rw [show Maps.size (foD (foD (.map []) [(0, 2)]) [(0, 1), (3, 4)]) = 2 from by decide +kernel] at hlen
  have hk0 := (look_vm hv3 0 (by unfold IW; decide)).1
  have hk3 := (look_vm hv3 3 (by unfold IW; decide)).1
  rw [show gI (foD (foD (.map []) [(0, 2)]) [(0, 1), (3, 4)]) 0 = 2 from by decide +kernel] at hk0
  rw [show gI (foD (foD (.map []) [(0, 2)]) [(0, 1), (3, 4)]) 3 = 4 from by decide +kernel] at hk3
  have q1 : VM w3 M1 n1 (ofD [(0, 2)]) := World.ownsMap.kept H2.out.1 (gb_below hb3 none) (by simp)
  have q2 : VM w3 M2 n2 (ofD [(0, 1), (3, 4)]) := World.ownsMap.kept H2.out.2.1 (gb_below hb3 none) (by simp)
  have C4 := Hid.mk' (compare_any M1 M2 n1 n2 _ _ HN.out.1 HN.out.2 (Good.of _) (Good.of _) w3 q1 q2)
  have H3 := Hid.mk' (bnext H2.out.2.2 hb3)
  clear hv3 q1 q2 hb3 ly lz uz ey ez C3
  go_wp2_with fail
  refine C4.out.mono ?_; rintro e w4 ⟨o, rfl, _, _, _, h3, hb4⟩
  have ho : o = 3 := h3.2 ⟨fun h => by have := h 3; revert this; decide +kernel, fun h => by have := h 0; revert this; decide +kernel⟩
  subst ho
  have H4 := Hid.mk' (bnext H3.out hb4)
  clear h3 hb4 C4
  go_wp2_with fail
  go_ret
  exact ⟨rfl, H4.out⟩
end Go.Proofs.Ytaeflfgkdjfnfaa
