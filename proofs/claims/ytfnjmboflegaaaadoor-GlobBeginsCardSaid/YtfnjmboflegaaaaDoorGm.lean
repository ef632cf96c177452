/- Layer 38 (glob): the document's parts; has; the code's Text and alone. -/
import Derived.Test.YtfnjmboflegaaaaDoorGl
namespace Go.Proofs.YtfnjmboflegaaaaDoor
open Go.RowKit

/-- The document's kind of a part. -/
def kdI (p : Prt) : Int := if p.row = true then 3 else if p.nt = true then (if p.sp = [] then 2 else 1) else 0
/-- Spans in a row of the document's. -/
def SpR (w : World) (v : Value) (L : List (Int × Int)) : Prop := w.ownsRow 0 54 2 v L.length (flatS L)
theorem SpR.next {w w' : World} {v : Value} {L : List (Int × Int)} (h : SpR w v L) (hb : Below w.heap.size w w') : SpR w' v L := own_next h hb
theorem SpR.nil (w : World) : SpR w (.slice none 0 0) [] := World.ownsRow_nil _ _ _ _
theorem SpR.at {w : World} {v : Value} {L : List (Int × Int)} (h : SpR w v L) (k : Nat) (hk : k < L.length) : ∃ g cap, v = .slice (some ⟨g, 0, none⟩) L.length cap ∧ L.length ≤ cap ∧ w.cell? ⟨g, k * 2, none⟩ = some (.int .i32 L[k].1) ∧ w.cell? ⟨g, k * 2 + 1, none⟩ = some (.int .i32 L[k].2) := by
  rcases h.2 with ⟨_, h0⟩ | ⟨g, cap, cur, rfl, _, _, hle, _⟩
  · omega
  · have c := World.ownsRow.cells h (g := g) rfl
    obtain ⟨a1, a2⟩ := flatS_at L k hk
    have e1 := c _ _ a1
    have e2 := c _ _ a2
    rw [gaddp, Nat.zero_add] at e1 e2
    exact ⟨g, cap, rfl, hle, e1, e2⟩
set_option maxHeartbeats 4000000 in
theorem has_any (p : Prt) (hrow : p.row = false) (sv : Value) (r : Int) (hl : p.sp.length ≤ 200) (w : World) (h : SpR w sv p.sp) :
    Calls Tryd.prog 21 #[.agg #[.int .i64 (kdI p), sv], .int .i32 r] w fun e w' => e = .returned (.bool (p.tells r)) ∧ Below w.heap.size w w' := by
  rw [tells_eq]
  obtain ⟨row, nt, sp⟩ := p
  dsimp only at *
  subst hrow
  obtain ⟨b, hb⟩ : ∃ b : Bool, (if sp.any (inS r) = true then !nt else nt) = b := ⟨_, rfl⟩
  rw [hb]
  obtain ⟨kd, hkd⟩ : ∃ kd, kdI ⟨false, nt, sp⟩ = kd := ⟨_, rfl⟩
  rw [hkd]
  have HBB := Hid.mk' (And.intro hb hkd)
  clear hb hkd
  obtain ⟨sa, sc, rfl⟩ := own_form h
  have e0 : Below w.heap.size w (w.alloc (.cells #[.int .i64 kd, .slice sa sp.length sc] 51)) := (Below.refl _ _).alloc (Nat.le_refl _) _
  have b0 : Bx (w.alloc (.cells #[.int .i64 kd, .slice sa sp.length sc] 51)) w.heap.size 51 #[.int .i64 kd, .slice sa sp.length sc] := Bx.fresh w _ _
  have HH := Hid.mk' (And.intro (h.next e0) (And.intro e0 b0))
  have START : Hid (sp.any (inS r) = (false || (sp.drop 0).any (inS r))) := Hid.mk' (by simp)
  clear e0 h b0
  go_enter Tryd.func21, Tryd.ntmps21
  go_wp2_with fail
  go_loopw [5, 6] (fun bv iv wr => ∃ (k : Nat) (sm : Bool), iv = .int .i64 k ∧ bv = .bool sm ∧ k ≤ sp.length ∧ wr = w.alloc (.cells #[.int .i64 kd, .slice sa sp.length sc] 51) ∧ Hid (sp.any (inS r) = (sm || (sp.drop k).any (inS r)))) (fun _ iv _ => sp.length - (intOf iv).toNat)
  case atStart => exact ⟨0, false, rfl, rfl, Nat.zero_le _, rfl, START⟩
  case round =>
    clear START
    obtain ⟨k, sm, rfl, rfl, hk, rfl, HE⟩ := hrel
    have o0 := HH.out.2.2.read (i := 0) rfl
    have o1 := HH.out.2.2.read (i := 1) rfl
    by_cases hlt : k < sp.length
    · obtain ⟨g, cap, hv, hle, c0, c1⟩ := HH.out.1.at k hlt
      cases hv
      have hi : (k : Int) < (sp.length : Int) := by omega
      have hE := HE.out
      rw [List.drop_eq_getElem_cons hlt, List.any_cons] at hE
      generalize sp[k] = s at *
      obtain ⟨x, y⟩ := s
      have HE2 := Hid.mk' hE
      clear hE HE
      cases sm with
      | true =>
        have HA := Hid.mk' (show sp.any (inS r) = (true || (sp.drop (k + 1)).any (inS r)) by rw [HE2.out]; simp)
        go_wp2_with fail
        go_roundw
        case rel => exact ⟨k + 1, true, by go_num, (by first | rfl | trivial), by omega, (by first | rfl | trivial), HA⟩
        case measure => simp [intOf]; omega
      | false =>
        by_cases hx : x ≤ r
        · by_cases hy : r ≤ y
          · have HA := Hid.mk' (show sp.any (inS r) = (true || (sp.drop (k + 1)).any (inS r)) by rw [HE2.out]; unfold inS; simp [hx, hy])
            go_wp2_with fail
            go_roundw
            case rel => exact ⟨k + 1, true, by go_num, (by first | rfl | trivial), by omega, (by first | rfl | trivial), HA⟩
            case measure => simp [intOf]; omega
          · have HA := Hid.mk' (show sp.any (inS r) = (false || (sp.drop (k + 1)).any (inS r)) by rw [HE2.out]; unfold inS; simp [hy])
            go_wp2_with fail
            go_roundw
            case rel => exact ⟨k + 1, false, by go_num, (by first | rfl | trivial), by omega, (by first | rfl | trivial), HA⟩
            case measure => simp [intOf]; omega
        · have HA := Hid.mk' (show sp.any (inS r) = (false || (sp.drop (k + 1)).any (inS r)) by rw [HE2.out]; unfold inS; simp [hx])
          go_wp2_with fail
          go_roundw
          case rel => exact ⟨k + 1, false, by go_num, (by first | rfl | trivial), by omega, (by first | rfl | trivial), HA⟩
          case measure => simp [intOf]; omega
    · have HA := Hid.mk' (show sp.any (inS r) = sm by rw [HE.out, List.drop_of_length_le (by omega)]; simp)
      have hi : ¬ (k : Int) < (sp.length : Int) := by omega
      have hcase : (kd = 2 ∧ b = true) ∨ (kd = 0 ∧ b = sm) ∨ (kd = 1 ∧ b = !sm) := by
        obtain ⟨h1, h2⟩ := HBB.out
        unfold kdI at h2
        rw [HA.out] at h1
        cases nt with
        | false => right; left; simp at h1 h2; exact ⟨h2.symm, h1.symm⟩
        | true =>
          by_cases hs : sp = []
          · left
            have : sm = false := by rw [← HA.out, hs]; rfl
            simp [hs] at h2
            rw [this] at h1
            exact ⟨h2.symm, h1.symm⟩
          · right; right
            simp [hs] at h1 h2
            refine ⟨h2.symm, ?_⟩
            cases sm <;> simp_all
      have HB := Hid.mk' HH.out.2.1
      clear HE HA HH HBB
      rcases hcase with ⟨rfl, rfl⟩ | ⟨rfl, rfl⟩ | ⟨rfl, rfl⟩
      · go_wp2_with fail
        go_ret
        exact ⟨rfl, HB.out⟩
      · cases b
        · go_wp2_with fail
          go_ret
          exact ⟨rfl, HB.out⟩
        · go_wp2_with fail
          go_ret
          exact ⟨rfl, HB.out⟩
      · cases sm
        · go_wp2_with fail
          go_ret
          exact ⟨rfl, HB.out⟩
        · go_wp2_with fail
          go_ret
          exact ⟨rfl, HB.out⟩
theorem ptext_any (s : ByteArray) (pv : Value) (w : World) : Calls Tryd.prog 8 #[.agg #[.string s, pv]] w fun e w' => e = .returned (.string s) ∧ Below w.heap.size w w' := by
  go_enter Tryd.func8, Tryd.ntmps8
  go_wp2_with fail
  go_ret
  exact ⟨rfl, (Below.refl _ _).alloc (Nat.le_refl _) _⟩
end Go.Proofs.YtfnjmboflegaaaaDoor
