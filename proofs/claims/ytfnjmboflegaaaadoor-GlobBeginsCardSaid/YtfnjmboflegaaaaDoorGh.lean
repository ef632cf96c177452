/- Layer 38 (glob): does a part tell a rune? -/
import Derived.Test.YtfnjmboflegaaaaDoorGf
import Derived.Test.YtfnjmboflegaaaaDoorGg
namespace Go.Proofs.YtfnjmboflegaaaaDoor
open Go.RowKit

theorem SpO.at {w : World} {v : Value} {L : List (Int × Int)} (h : SpO w v L) (k : Nat) (hk : k < L.length) : ∃ g cap, v = .slice (some ⟨g, 0, none⟩) L.length cap ∧ L.length ≤ cap ∧ w.cell? ⟨g, k * 2, none⟩ = some (.int .i32 L[k].1) ∧ w.cell? ⟨g, k * 2 + 1, none⟩ = some (.int .i32 L[k].2) := by
  have hc := @World.ownsRow.cells
  rcases h.2 with ⟨_, h0⟩ | ⟨g, cap, cur, rfl, _, _, hle, _⟩
  · omega
  · have c := World.ownsRow.cells h (g := g) rfl
    obtain ⟨a1, a2⟩ := flatS_at L k hk
    have e1 := c _ _ a1
    have e2 := c _ _ a2
    rw [gaddp, Nat.zero_add] at e1 e2
    exact ⟨g, cap, rfl, hle, e1, e2⟩
theorem PtO.at {w : World} {v : Value} {q : List (Prt × Value)} (h : PtO w v q) (k : Nat) (hk : k < q.length) : ∃ g cap, v = .slice (some ⟨g, 0, none⟩) q.length cap ∧ q.length ≤ cap ∧ w.cell? ⟨g, k * 3, none⟩ = some (.bool q[k].1.row) ∧ w.cell? ⟨g, k * 3 + 1, none⟩ = some (.bool q[k].1.nt) ∧ w.cell? ⟨g, k * 3 + 2, none⟩ = some q[k].2 := by
  rcases h.1.2 with ⟨_, h0⟩ | ⟨g, cap, cur, rfl, _, _, hle, _⟩
  · omega
  · have c := World.ownsRow.cells h.1 (g := g) rfl
    obtain ⟨a1, a2, a3⟩ := flatP_at q k hk
    have e1 := c _ _ a1
    have e2 := c _ _ a2
    have e3 := c _ _ a3
    rw [gaddp, Nat.zero_add] at e1 e2 e3
    exact ⟨g, cap, rfl, hle, e1, e2, e3⟩
theorem ret_bool {a b : Bool} (h : a = b) : Ending.returned (.bool a) = .returned (.bool b) := by rw [h]
def inS (r : Int) (s : Int × Int) : Bool := decide (s.1 ≤ r ∧ r ≤ s.2)
theorem tells_eq (p : Prt) (r : Int) : p.tells r = if p.sp.any (inS r) then !p.nt else p.nt := rfl
set_option maxHeartbeats 2000000 in
theorem tells_any (p : Prt) (sv : Value) (r : Int) (hl : p.sp.length ≤ 200) (w : World) (h : SpO w sv p.sp) :
    Calls Tryd.prog 28 #[.agg #[.bool p.row, .bool p.nt, sv], .int .i32 r] w fun e w' => e = .returned (.bool (p.tells r)) ∧ Below w.heap.size w w' := by
  rw [tells_eq]
  obtain ⟨row, nt, sp⟩ := p
  dsimp only at *
  obtain ⟨b, hb⟩ : ∃ b : Bool, (if sp.any (inS r) = true then !nt else nt) = b := ⟨_, rfl⟩
  rw [hb]
  have HBB := Hid.mk' hb
  clear hb
  obtain ⟨sa, sc, rfl⟩ := own_form h
  have e0 : Below w.heap.size w (w.alloc (.cells #[.bool row, .bool nt, .slice sa sp.length sc] 57)) := (Below.refl _ _).alloc (Nat.le_refl _) _
  have HH := Hid.mk' h
  have START := Hid.mk' (And.intro e0 (Bx.fresh w 57 #[.bool row, .bool nt, .slice sa sp.length sc]))
  clear e0 h
  go_enter Tryd.func28, Tryd.ntmps28
  go_wp2_with fail
  go_loopw [10] (fun iv wr => ∃ k : Nat, iv = .int .i64 k ∧ k ≤ sp.length ∧ Below w.heap.size w wr ∧ Bx wr w.heap.size 57 #[.bool row, .bool nt, .slice sa sp.length sc] ∧ Hid (sp.any (inS r) = (sp.drop k).any (inS r))) (fun iv _ => sp.length - (intOf iv).toNat)
  case atStart => exact ⟨0, rfl, Nat.zero_le _, START.out.1, START.out.2, rfl⟩
  case round =>
    clear START
    obtain ⟨k, rfl, hk, hbel, hbx, HE⟩ := hrel
    by_cases hlt : k < sp.length
    · have hr := HH.out.next hbel
      obtain ⟨g, cap, hv, hle, c0, c1⟩ := hr.at k hlt
      cases hv
      have hi : (k : Int) < (sp.length : Int) := by omega
      have hE := HE.out
      rw [List.drop_eq_getElem_cons hlt, List.any_cons] at hE
      generalize sp[k] = s at *
      obtain ⟨x, y⟩ := s
      have HE2 := Hid.mk' hE
      have b1 := hbx.past (.cells #[.int .i32 x, .int .i32 y] 70)
      have e1 := hbel.alloc hbel.size (.cells #[.int .i32 x, .int .i32 y] 70)
      obtain ⟨o0, o1, o2⟩ := b1.reads3
      have HB := Hid.mk' (And.intro e1 b1)
      clear hbel hbx b1 e1 hr hE HE
      by_cases hx : x ≤ r
      · by_cases hy : r ≤ y
        · have HA := Hid.mk' (show sp.any (inS r) = true by rw [HE2.out]; unfold inS; simp [hx, hy])
          go_wp2_with fail
          go_ret
          exact ⟨ret_bool (by rw [← HBB.out, HA.out]; rfl), HB.out.1⟩
        · have HA := Hid.mk' (show sp.any (inS r) = (sp.drop (k + 1)).any (inS r) by rw [HE2.out]; unfold inS; simp [hy])
          go_wp2_with fail
          go_roundw
          case rel => exact ⟨k + 1, by go_num, by omega, HB.out.1, HB.out.2, HA⟩
          case measure => simp [intOf]; omega
      · have HA := Hid.mk' (show sp.any (inS r) = (sp.drop (k + 1)).any (inS r) by rw [HE2.out]; unfold inS; simp [hx])
        go_wp2_with fail
        go_roundw
        case rel => exact ⟨k + 1, by go_num, by omega, HB.out.1, HB.out.2, HA⟩
        case measure => simp [intOf]; omega
    · have HA := Hid.mk' (show sp.any (inS r) = false by rw [HE.out, List.drop_of_length_le (by omega)]; rfl)
      have hi : ¬ (k : Int) < (sp.length : Int) := by omega
      obtain ⟨o0, o1, o2⟩ := hbx.reads3
      have HB := Hid.mk' hbel
      clear hbel HE hbx
      go_wp2_with fail
      go_ret
      exact ⟨ret_bool (by rw [← HBB.out, HA.out]; rfl), HB.out⟩
end Go.Proofs.YtfnjmboflegaaaaDoor
