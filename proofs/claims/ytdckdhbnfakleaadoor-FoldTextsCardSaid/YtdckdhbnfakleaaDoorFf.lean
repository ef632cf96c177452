/- Layer 39 (fold): texts weighed, by the code; Natural. -/
import Derived.Test.YtdckdhbnfakleaaDoorFe
namespace Go.Proofs.YtdckdhbnfakleaaDoor
open Go.RowKit

theorem cell_nx {w w' : World} {p : Addr} {v : Value} (hb : Below w.heap.size w w') (h : w.cell? p = some v) : w'.cell? p = some v := by rw [hb.cell (World.block_lt_of_cell? _ _ h)]; exact h
theorem CkO.base {w : World} {B C : Nat} {v : Value} {L : List (ByteArray × Bool)} (h : CkO w B v L) (hC : C ≤ B) : CkO w C v L := by
  refine ⟨h.1, ?_⟩
  rcases h.2 with h2 | ⟨g, cap, cur, a, b, c, d⟩
  · exact .inl h2
  · exact .inr ⟨g, cap, cur, a, by omega, c, d⟩
set_option maxRecDepth 100000 in
set_option maxHeartbeats 8000000 in
theorem weigh_any (s : ByteArray) (hs : s.size ≤ 1000) (w : World) : Calls Tryd.prog 22 #[.string s] w fun e w' => ∃ v, e = .returned (.agg #[.string s, v]) ∧ CkO w' w.heap.size v (weighS s).2 ∧ Below w.heap.size w w' := by
  have C := Hid.mk' (chunks_any s hs (w.alloc (.cells #[.string ⟨#[]⟩, .slice none 0 0] 46)))
  have hsz : ∀ x ∈ chunkS s, x.1.size ≤ 4000 := fun x hx => by have := chunk_sz (rsB s) _ _ _ _ x hx; have := rsB_len s; omega
  have hln : (chunkS s).length ≤ 4001 := by have := chunk_len (rsB s) (rsB s).size 0 0 false; have := rsB_len s; unfold chunkS; omega
  have HV := Hid.mk' (show (weighS s).2 = (chunkS s).map wgt from rfl)
  generalize chunkS s = L at *
  generalize (weighS s).2 = WL at *
  have HZ := Hid.mk' hsz
  clear hsz
  go_enter Tryd.func22, Tryd.ntmps22
  go_wp2_with fail
  refine C.out.mono ?_; rintro e w1 ⟨v1, rfl, hck, hb1⟩
  obtain ⟨a1, c1, rfl⟩ := hck.form
  have hz0 : (w.alloc (.cells #[.string ⟨#[]⟩, .slice none 0 0] 46)).heap.size = w.heap.size + 1 := by simp
  have hbx1 := (Bx.fresh w 46 #[.string ⟨#[]⟩, .slice none 0 0]).next hb1
  have hbel1 : Below w.heap.size w w1 := bnext ((Below.refl _ _).alloc (Nat.le_refl _) _) hb1
  have hsz1 : w.heap.size + 1 ≤ w1.heap.size := by have := hb1.size; omega
  rw [hz0] at hck
  have START := Hid.mk' (show CkO w1 (w.heap.size + 1) (.slice a1 L.length c1) (wPart L 0) ∧ Bx w1 w.heap.size 46 #[.string ⟨#[]⟩, .slice none 0 0] ∧ Below w.heap.size w w1 ∧ w.heap.size + 1 ≤ w1.heap.size from ⟨by unfold wPart; simpa using hck, hbx1, hbel1, hsz1⟩)
  clear hck hbx1 hbel1 hsz1 hz0 hb1 C
  go_wp2_with fail
  go_loopw [10] (fun i wr => ∃ k : Nat, i = .int .i64 k ∧ k ≤ L.length ∧ Hid (CkO wr (w.heap.size + 1) (.slice a1 L.length c1) (wPart L k) ∧ Bx wr w.heap.size 46 #[.string ⟨#[]⟩, .slice none 0 0] ∧ Below w.heap.size w wr ∧ w.heap.size + 1 ≤ wr.heap.size)) (fun i _ => L.length - (intOf i).toNat)
  case atStart => exact ⟨0, rfl, by omega, START⟩
  case round =>
    clear START
    obtain ⟨k, rfl, hk, HP⟩ := hrel
    by_cases h1 : k < L.length
    · obtain ⟨g, rfl, hg, r0, r1⟩ := HP.out.1.cell k (by rw [wPart_len L k hk]; exact h1)
      obtain ⟨_, hat⟩ := wPart_at L k h1
      rw [hat] at r0 r1
      have HST := Hid.mk' (wPart_step L k h1)
      have hzk := HZ.out L[k] (List.getElem_mem h1)
      have hi1 : (k : Int) < (L.length : Int) := by omega
      have CT := Hid.mk' (trimleft_any L[k].1 (by omega))
      have CF := Hid.mk' (fold_any L[k].1 (by omega))
      clear hat hzk
      generalize L[k] = p at *
      obtain ⟨pt, pn⟩ := p
      dsimp only at *
      have hA : ∀ w4, Below (wr.alloc (.cells #[.string pt, .bool pn] 27)).heap.size (wr.alloc (.cells #[.string pt, .bool pn] 27)) w4 → CkO w4 (w.heap.size + 1) (.slice (some ⟨g, 0, none⟩) L.length c1) (wPart L k) ∧ Bx w4 w.heap.size 46 #[.string ⟨#[]⟩, .slice none 0 0] ∧ Below w.heap.size w w4 ∧ w.heap.size + 1 ≤ w4.heap.size := fun w4 hb4 => by
        have e1 : Below wr.heap.size wr (wr.alloc (.cells #[.string pt, .bool pn] 27)) := (Below.refl _ _).alloc (Nat.le_refl _) _
        have e2 := bnext e1 hb4
        exact ⟨HP.out.1.next e2, HP.out.2.1.next e2, bnext HP.out.2.2.1 e2, Nat.le_trans HP.out.2.2.2 e2.size⟩
      have HA := Hid.mk' hA
      have hS : ∀ w4 (u : ByteArray), (CkO w4 (w.heap.size + 1) (.slice (some ⟨g, 0, none⟩) L.length c1) (wPart L k) ∧ Bx w4 w.heap.size 46 #[.string ⟨#[]⟩, .slice none 0 0] ∧ Below w.heap.size w w4 ∧ w.heap.size + 1 ≤ w4.heap.size) → u = (wgt (pt, pn)).1 → (CkO (w4.setCell ⟨g, k * 2, none⟩ (.string u)) (w.heap.size + 1) (.slice (some ⟨g, 0, none⟩) L.length c1) (wPart L (k + 1)) ∧ Bx (w4.setCell ⟨g, k * 2, none⟩ (.string u)) w.heap.size 46 #[.string ⟨#[]⟩, .slice none 0 0] ∧ Below w.heap.size w (w4.setCell ⟨g, k * 2, none⟩ (.string u)) ∧ w.heap.size + 1 ≤ (w4.setCell ⟨g, k * 2, none⟩ (.string u)).heap.size) := fun w4 u ⟨q1, q2, q3, q4⟩ hu => by
        subst hu
        have hn : (wPart L k).length = L.length := wPart_len L k hk
        have hn2 : (wPart L (k + 1)).length = L.length := wPart_len L (k + 1) h1
        have q1' := q1
        unfold CkO at q1'
        rw [hn] at q1'
        have st := (World.ownsRow.stored q1' (k * 2) (.string (wgt (pt, pn)).1)).1
        rw [HST.out] at st
        refine ⟨by unfold CkO; rw [hn2]; exact st, q2.beside (by show g ≠ w.heap.size; omega) _, q3.setCell (p := ⟨g, k * 2, none⟩) (by show w.heap.size ≤ g; omega) _, by simpa using q4⟩
      have HS := Hid.mk' hS
      clear hA hS
      have hfz : ∀ w4, CkO w4 (w.heap.size + 1) (.slice (some ⟨g, 0, none⟩) L.length c1) (wPart L k) → w4.frozen? ⟨g, k * 2, none⟩ = false := fun w4 h => by
        unfold CkO at h
        rw [wPart_len L k hk] at h
        exact World.ownsRow.frozenAt h (k * 2)
      have HF := Hid.mk' hfz
      clear hfz
      cases pn with
      | true =>
        have h4 := HA.out _ (Below.refl _ _)
        have f0 := HF.out _ h4.1
        have r0' := cell_al (.cells #[.string pt, .bool true] 27) r0
        have H5 := Hid.mk' (HS.out _ (trimB pt) h4 rfl)
        clear h4
        go_wp2_with fail
        refine (CT.out _).mono ?_; rintro e w4 ⟨rfl, rfl⟩
        go_wp2_with fail
        go_roundw
        case rel => exact ⟨k + 1, by go_num, by omega, H5⟩
        case measure => simp [intOf]; omega
      | false =>
        go_wp2_with fail
        refine (CF.out _).mono ?_; rintro e w4 ⟨rfl, hb4⟩
        have h4 := HA.out _ hb4
        have f0 := HF.out _ h4.1
        have r0' := cell_nx hb4 (cell_al (.cells #[.string pt, .bool false] 27) r0)
        have H5 := Hid.mk' (HS.out _ (foldB pt) h4 rfl)
        clear h4 hb4
        go_wp2_with fail
        go_roundw
        case rel => exact ⟨k + 1, by go_num, by omega, H5⟩
        case measure => simp [intOf]; omega
    · have hi1 : ¬ (k : Int) < (L.length : Int) := by omega
      have hkk : k = L.length := by omega
      have hfin : wPart L k = WL := by rw [HV.out, hkk]; unfold wPart; simp
      have HFN := Hid.mk' (show CkO wr (w.heap.size + 1) (.slice a1 L.length c1) WL by rw [← hfin]; exact HP.out.1)
      have hbx := HP.out.2.1
      have hlt := hbx.inside
      obtain ⟨f0, f1⟩ := And.intro (hbx.open_ 0) (hbx.open_ 1)
      obtain ⟨y0, y1⟩ := And.intro (hbx.read (i := 0) rfl) (hbx.read (i := 1) rfl)
      have hbx2 := (hbx.put 0 (.string s)).put 1 (.slice a1 L.length c1)
      obtain ⟨z0, z1⟩ := And.intro (hbx2.read (i := 0) rfl) (hbx2.read (i := 1) rfl)
      have HE := Hid.mk' (show CkO ((wr.setCell ⟨w.heap.size, 0, none⟩ (.string s)).setCell ⟨w.heap.size, 1, none⟩ (.slice a1 L.length c1)) w.heap.size (.slice a1 L.length c1) WL ∧ Below w.heap.size w ((wr.setCell ⟨w.heap.size, 0, none⟩ (.string s)).setCell ⟨w.heap.size, 1, none⟩ (.slice a1 L.length c1)) from
        ⟨CkO.base (ownsRow_setCell_below (ownsRow_setCell_below HFN.out (by show w.heap.size < w.heap.size + 1; omega) _) (by show w.heap.size < w.heap.size + 1; omega) _) (Nat.le_succ _), (HP.out.2.2.1.setCell (p := ⟨w.heap.size, 0, none⟩) (Nat.le_refl _) _).setCell (p := ⟨w.heap.size, 1, none⟩) (Nat.le_refl _) _⟩)
      clear hbx hbx2 hfin hkk
      go_wp2_with fail
      exact bodyPost_ret (v := .agg #[.string s, .slice a1 L.length c1]) (by simp [results, Tryd.results22, go_sem, z0, z1]) rfl ⟨_, rfl, HE.out⟩
theorem weighS_len (s : ByteArray) (hs : s.size ≤ 1000) : (weighS s).2.length ≤ 4001 := by
  have h1 := chunk_len (rsB s) (rsB s).size 0 0 false
  have h2 := rsB_len s
  unfold weighS chunkS
  simp only [List.length_map]
  omega
theorem weighS_sz (s : ByteArray) (hs : s.size ≤ 1000) : SzC (weighS s).2 := by
  intro k hk
  have hk2 : k < (chunkS s).length := by unfold weighS at hk; simpa using hk
  have e : (weighS s).2[k] = wgt (chunkS s)[k] := List.getElem_map ..
  rw [e]
  have h1 := chunk_sz (rsB s) _ _ _ _ (chunkS s)[k] (List.getElem_mem hk2)
  have h2 := rsB_len s
  have h3 := trimB_len (chunkS s)[k].1
  have h4 := foldB_len (chunkS s)[k].1
  unfold wgt maxLen
  dsimp only
  split <;> omega
/-- How two texts stand. -/
def natS (a b : ByteArray) : Int := cmpW (weighS a) (weighS b)
set_option maxRecDepth 100000 in
set_option maxHeartbeats 4000000 in
theorem natural_any (a b : ByteArray) (ha : a.size ≤ 1000) (hb : b.size ≤ 1000) (w : World) : Calls Tryd.prog 13 #[.string a, .string b] w fun e w' => e = .returned (.int .i64 (natS a b)) ∧ Below w.heap.size w w' := by
  have C1 := Hid.mk' (weigh_any a ha)
  have C2 := Hid.mk' (weigh_any b hb)
  have C3 := Hid.mk' (fun v1 v2 W h1 h2 => compare_any (weighS a) (weighS b) v1 v2 (by have := weighS_len a ha; omega) (by have := weighS_len b hb; omega) (weighS_sz a ha) (weighS_sz b hb) W h1 h2)
  have HV := Hid.mk' (show cmpW (weighS a) (weighS b) = natS a b from rfl)
  have ea : (weighS a).1 = a := rfl
  have eb : (weighS b).1 = b := rfl
  rw [ea, eb] at C3
  clear ea eb ha hb
  go_enter Tryd.func13, Tryd.ntmps13
  go_wp2_with fail
  refine (C1.out _).mono ?_; rintro e w1 ⟨v1, rfl, h1, hb1⟩
  have H1 := Hid.mk' (And.intro (h1.base (Nat.zero_le _)) hb1)
  clear h1 hb1
  go_wp2_with fail
  refine (C2.out _).mono ?_; rintro e w2 ⟨v2, rfl, h2, hb2⟩
  have H2 := Hid.mk' (And.intro (H1.out.1.next hb2) (And.intro (h2.base (Nat.zero_le _)) (bnext H1.out.2 hb2)))
  have C4 := Hid.mk' (C3.out v1 v2 w2 H2.out.1 H2.out.2.1)
  clear h2 hb2
  go_wp2_with fail
  refine C4.out.mono ?_; rintro e w3 ⟨rfl, hb3⟩
  have H3 := Hid.mk' (bnext H2.out.2.2 hb3)
  clear hb3
  go_wp2_with fail
  go_ret
  exact ⟨ret_i HV.out, H3.out⟩
theorem to_nat : TO natS := to_w.on weighS
theorem nat_same (a b : ByteArray) : natS a b = 0 ↔ a = b := by
  constructor
  · intro h
    have h2 : a.toList = b.toList := cmpW_same h
    rw [ByteArray.toList_eq, ByteArray.toList_eq] at h2
    exact bytes_inj' h2
  · rintro rfl
    exact to_nat.zero a
end Go.Proofs.YtdckdhbnfakleaaDoor
