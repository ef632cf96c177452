/- Layer 38 (glob): what a pattern begins with, by definition. -/
import Derived.Test.YtfnjmboflegaaaaDoorGw
import Derived.Test.YtfnjmboflegaaaaDoorGy
import Derived.Test.YtfnjmboflegaaaaDoorGu
import Derived.Laws.Runes
namespace Go.Proofs.YtfnjmboflegaaaaDoor
open Go.RowKit

theorem PtR.at {w : World} {v : Value} {q : List (Prt × Value)} (h : PtR w v q) (k : Nat) (hk : k < q.length) : ∃ g cap, v = .slice (some ⟨g, 0, none⟩) q.length cap ∧ q.length ≤ cap ∧ w.cell? ⟨g, k * 2, none⟩ = some (.int .i64 (kdI q[k].1)) ∧ w.cell? ⟨g, k * 2 + 1, none⟩ = some q[k].2 := by
  have flat_at : ∀ (L : List (Prt × Value)) (j : Nat) (h : j < L.length), (flatR L)[j * 2]? = some (.int .i64 (kdI L[j].1)) ∧ (flatR L)[j * 2 + 1]? = some L[j].2 := by
    intro L
    induction L with
    | nil => intro j h; simp at h
    | cons s L ih =>
      intro j h
      have e : flatR (s :: L) = .int .i64 (kdI s.1) :: s.2 :: flatR L := by simp [flatR]
      rw [e]
      cases j with
      | zero => exact ⟨rfl, rfl⟩
      | succ j =>
        have := ih j (by simpa using h)
        rw [show (j + 1) * 2 = j * 2 + 1 + 1 from by omega]
        simp only [List.getElem?_cons_succ, List.getElem_cons_succ]
        exact this
  rcases h.1.2 with ⟨_, h0⟩ | ⟨g, cap, cur, rfl, _, _, hle, _⟩
  · omega
  · have c := World.ownsRow.cells h.1 (g := g) rfl
    obtain ⟨a1, a2⟩ := flat_at q k hk
    have e1 := c _ _ a1
    have e2 := c _ _ a2
    rw [gaddp, Nat.zero_add] at e1 e2
    exact ⟨g, cap, rfl, hle, e1, e2⟩
theorem PtR.next {w w' : World} {v : Value} {q : List (Prt × Value)} (h : PtR w v q) (hb : Below w.heap.size w w') : PtR w' v q := ⟨own_next h.1 hb, fun x hx => (h.2 x hx).next hb⟩
theorem alone_one {p : Prt} {r : Int} (h : aloneS p = some r) : p.sp = [(r, r)] := by
  unfold aloneS at h
  split at h
  · simp at h
  · split at h
    · split at h
      · rename_i a b hsp hab
        simp at h
        subst hab h
        exact hsp
      · simp at h
    · simp at h
theorem rb_snoc (l : List Int) (r : Int) : runesBytes (l ++ [r]) = runesBytes l ++ Utf8.encode r := by simp [runesBytes]
/-- What Ahead by definition answers. -/
def RAheadPost (w : World) (ps : List Prt) (e : Ending) (w' : World) : Prop := e = .returned (.tuple #[.string (runesBytes (aheadS ps)), .bool (plainS ps)]) ∧ Below w.heap.size w w'
structure BI (w : World) (q : List (Prt × Value)) (k : Nat) (l : List Int) (wr : World) : Prop where
  k_le : k ≤ q.length
  l_le : l.length ≤ k
  bel : Below w.heap.size w wr
  eq : aheadS (psq q) = l ++ aheadS (psq (q.drop k))
  all : plainS (psq q) = plainS (psq (q.drop k))
set_option maxHeartbeats 4000000 in
theorem rahead_any (s : ByteArray) (hs : s.size ≤ maxLen) (ps : List Prt) (hps : patS s = some ps) (w0 : World) (hT : Tb w0) :
    Calls Tryd.prog 12 #[.string s] w0 (RAheadPost w0 ps) := by
  have hwf0 : Wf ps ∧ (∀ p ∈ ps, p.sp.length ≤ 200) ∧ ps.length ≤ 100 := by
    unfold patS at hps
    split at hps
    · split at hps
      · have h1 := runesG_len s
        refine ⟨prs_wf hps, fun p hp => ?_, ?_⟩
        · have := prs_sp hps p hp; omega
        · have := prs_len hps; omega
      · simp at hps
    · simp at hps
  have C0 := Hid.mk' (rparts_any s hs w0 hT)
  rw [hps] at C0
  have HWF := Hid.mk' hwf0
  clear hps hwf0 hT hs
  go_enter Tryd.func12, Tryd.ntmps12
  go_wp2_with fail
  refine C0.out.mono ?_; rintro e w ⟨pv, b, rfl, hb1, hres⟩
  rcases hres with ⟨hn, _⟩ | ⟨q, hq, rfl, hpt⟩
  · cases hn
  injection hq with hq
  have hpsq : ps = psq q := hq
  subst hpsq
  obtain ⟨pa, pc, rfl⟩ := own_form hpt.1
  have HH := Hid.mk' (And.intro hpt hb1)
  have hq100 : q.length ≤ 100 := by have := HWF.out.2.2; rw [psq_len] at this; exact this
  have START := Hid.mk' (show BI w q 0 [] w from ⟨Nat.zero_le _, Nat.le_refl _, Below.refl _ _, by simp, by simp⟩)
  clear hpt hb1 hq C0
  go_wp2_with fail
  go_loopw [6, 7] (fun sv iv wr => ∃ (k : Nat) (l : List Int), iv = .int .i64 k ∧ sv = .string (runesBytes l) ∧ Hid (BI w q k l wr)) (fun _ iv _ => q.length - (intOf iv).toNat)
  case atStart => exact ⟨0, [], rfl, rfl, START⟩
  case round =>
    clear START
    obtain ⟨k, l, rfl, rfl, HM⟩ := hrel
    have hk := HM.out.k_le
    have hlk := HM.out.l_le
    by_cases hlt : k < q.length
    · have hpt := HH.out.1.next HM.out.bel
      obtain ⟨g, cap, hv, hle, c0, c1⟩ := hpt.at k hlt
      cases hv
      have hmem : q[k].1 ∈ psq q := by unfold psq; exact List.mem_map.2 ⟨_, List.getElem_mem hlt, rfl⟩
      obtain ⟨xa, xc, hx⟩ := own_form (hpt.2 _ (List.getElem_mem hlt))
      have hdr : q.drop k = q[k] :: q.drop (k + 1) := List.drop_eq_getElem_cons hlt
      have hsr := hpt.2 _ (List.getElem_mem hlt)
      have hC := rplain_any q[k].1 (fun h => by rw [HWF.out.1 _ hmem h]; rfl) q[k].2 (HWF.out.2.1 _ hmem) wr hsr
      have hi : (k : Int) < (q.length : Int) := by omega
      rw [hx] at c1 hC hsr
      have heq := HM.out.eq
      have hal := HM.out.all
      rw [hdr] at heq hal
      generalize q[k] = x at *
      obtain ⟨p, xv⟩ := x
      dsimp only at *
      have C := Hid.mk' hC
      clear hC hpt hx hdr hmem
      cases ho : aloneS p with
      | none =>
        have HA := Hid.mk' (show aheadS (psq q) = l ∧ plainS (psq q) = false from ⟨by rw [heq]; simp [psq, aheadS, ho], by rw [hal]; simp [psq, plainS, ho]⟩)
        rw [ho] at C
        have HB := Hid.mk' (bnext HH.out.2 HM.out.bel)
        clear ho heq hal HM hsr
        go_wp2_with fail
        refine C.out.mono ?_; rintro e w2 ⟨rfl, hb2⟩
        have HB2 := Hid.mk' (bnext HB.out hb2)
        clear hb2 C
        go_wp2_with fail
        exact bodyPost_ret (v := .tuple #[.string (runesBytes l), .bool false]) (by simp [results, Tryd.results12, go_sem]) rfl ⟨by rw [HA.out.1, HA.out.2], HB2.out⟩
      | some r =>
        have hone := alone_one ho
        obtain ⟨row, nt, sp⟩ := p
        dsimp only at hone
        subst hone
        obtain ⟨g2, cap2, hv2, hle2, e0, e1⟩ := hsr.at 0 (by simp)
        simp only [List.getElem_cons_zero, Nat.zero_mul, Nat.zero_add, List.length_singleton] at e0 e1 hv2 hle2 c1
        cases hv2
        have HE := Hid.mk' (show aheadS (psq q) = (l ++ [r]) ++ aheadS (psq (q.drop (k + 1))) ∧ plainS (psq q) = plainS (psq (q.drop (k + 1))) from ⟨by rw [heq]; simp [psq, aheadS, ho], by rw [hal]; simp [psq, plainS, ho]⟩)
        rw [ho] at C
        have hcv : ∀ w, (convert 21 9 (.int .i32 r)).run Tryd.prog w = .ok (.string (Utf8.encode r)) w := fun w => run_convert_int_string (P := Tryd.prog) w 21 9 .i32 r (by rw [Tryd.underlying21]; rfl) Tryd.underlying9
        have hsz := runesBytes_size_le l
        have hsz2 := encode_size_le r
        have HSN := Hid.mk' (rb_snoc l r)
        clear ho heq hal
        go_wp2_with fail
        refine C.out.mono ?_; rintro e w2 ⟨rfl, hb2⟩
        have c1' := (hb2.cell (World.block_lt_of_cell? wr _ c1)).trans c1
        have e0' := (hb2.cell (World.block_lt_of_cell? wr _ e0)).trans e0
        have E := Hid.mk' (show BI w q (k + 1) (l ++ [r]) w2 from ⟨by omega, by simp; omega, bnext HM.out.bel hb2, HE.out.1, HE.out.2⟩)
        clear hb2 C c0 c1 e0 e1 HM hsr
        go_wp2_with fail
        go_roundw
        case rel => exact ⟨k + 1, l ++ [r], by go_num, by rw [HSN.out], E⟩
        case measure => simp [intOf]; omega
    · have HA := Hid.mk' (show aheadS (psq q) = l ∧ plainS (psq q) = true from ⟨by rw [HM.out.eq, List.drop_of_length_le (by omega)]; simp [psq, aheadS], by rw [HM.out.all, List.drop_of_length_le (by omega)]; rfl⟩)
      have hi : ¬ (k : Int) < (q.length : Int) := by omega
      have HB := Hid.mk' (bnext HH.out.2 HM.out.bel)
      clear HM
      go_wp2_with fail
      exact bodyPost_ret (v := .tuple #[.string (runesBytes l), .bool true]) (by simp [results, Tryd.results12, go_sem]) rfl ⟨by rw [HA.out.1, HA.out.2], HB.out⟩
end Go.Proofs.YtfnjmboflegaaaaDoor
