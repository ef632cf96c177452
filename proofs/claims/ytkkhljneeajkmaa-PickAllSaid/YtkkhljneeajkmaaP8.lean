/- Layer 43 (pick): alive; needs handed in; the statement PickPlans' walk. -/
import Derived.Test.YtkkhljneeajkmaaP7
import Derived.ProofKit
import Derived.OpenShut
import Derived.ChangeOld
import Derived.Deep.Slices
import Derived.Lib.SmallJoins
namespace Go.Proofs.Ytkkhljneeajkmaa
open Go.RowKit Go.ChangeShapes Go.WideShapes Go.Deep

set_option maxRecDepth 100000 in
theorem open_needs {H : Type} {enc : TypeId × Value → H} {w : World} {r : Reach} {base : Nat} {spare : Nat → Bool} {held : Bool} {v : Value} {d : DataW H} {p : List MemPlace} (hv : Value.okWide Try.prog w r base 40 v)
    (h : DataW.Trod enc Try.prog w 0 spare held 40 v d p) : ∃ L : List Nd, NI w v L ∧ L.length ≤ maxLen := by
  obtain ⟨a0, len, cap, rfl⟩ := okWide_slice Try.underlying40 hv
  obtain ⟨fuel, hf⟩ := h
  rcases open_slice Try.underlying40 hf with ⟨hcs, _⟩ | ⟨a, len', cap', m, n, D, Pl, hcs, _, hl, hcm, hm, _, hi⟩
  · simp [Value.cells] at hcs
    obtain ⟨rfl, rfl, rfl⟩ := hcs
    exact ⟨[], ⟨none, 0, rfl, Nat.le_refl _, fun _ => rfl, fun h => absurd rfl h⟩, by simp⟩
  · simp [Value.cells] at hcs
    obtain ⟨rfl, rfl, rfl⟩ := hcs
    have hlm : len ≤ m := by rw [hm]; split <;> omega
    have hC : Try.prog.cellsOf 45 = 3 := by kernel_rfl
    have key : ∀ i, i < len → ∃ o : Nd, w.cell? (a.add (i * 3)) = some (.int .i64 o.last) ∧ w.cell? (a.add (i * 3 + 1)) = some (.int .i64 o.waste) ∧ w.cell? (a.add (i * 3 + 2)) = some (.int .i64 o.waiting) := by
      intro i hil
      obtain ⟨cs, hcs, ht⟩ := hi i (by omega)
      rw [hC] at hcs
      obtain ⟨_, hlen, hat⟩ := World.cells?_some hcs
      match cs, hlen with
      | [c0, c1, c2], _ =>
        obtain ⟨xs, n1, _, _, _, hxl, hg⟩ := DataW.trod_struct Try.underlying45 ht
        have k1 : Try.prog.cellsOf 3 = 1 := by kernel_rfl
        match xs, hxl with
        | [y0, y1, y2], _ =>
          have g0 := hg 0 _ rfl
          have g1 := hg 1 _ rfl
          have g2 := hg 2 _ rfl
          simp [k1] at g0 g1 g2
          obtain ⟨a0, e0, _, _⟩ := DataW.trod_int Try.underlying3 g0
          obtain ⟨a1, e1, _, _⟩ := DataW.trod_int Try.underlying3 g1
          obtain ⟨a2, e2, _, _⟩ := DataW.trod_int Try.underlying3 g2
          simp at e0 e1 e2
          subst e0 e1 e2
          have q0 := hat 0 (by omega)
          have q1 := hat 1 (by omega)
          have q2 := hat 2 (by omega)
          rw [add_add] at q0 q1 q2
          exact ⟨⟨a0, a1, a2⟩, q0, q1, q2⟩
    have : Inhabited Nd := ⟨⟨0, 0, 0⟩⟩
    obtain ⟨f, hf2⟩ := choose_lt key
    have hlen : ((List.range len).map f).length = len := by simp
    refine ⟨(List.range len).map f, ⟨some a, cap, by rw [hlen], by rw [hlen]; exact hl, fun h => (by cases h), fun h0 => ?_⟩, by rw [hlen]; omega⟩
    have hpos : 0 < len := by
      rcases Nat.eq_zero_or_pos len with h | h
      · subst h; simp at h0
      · exact h
    obtain ⟨b, off, spot⟩ := a
    have hspot : spot = none := by simpa [Addr.add] using World.cell?_spot (hf2 0 hpos).1
    subst hspot
    refine ⟨b, off, rfl, fun i hil => ?_⟩
    rw [hlen] at hil
    have := hf2 i hil
    simp only [add_plain, ← Nat.add_assoc] at this
    simp only [List.getElem_map, List.getElem_range]
    exact this
theorem ni_two (w : World) (a b c d e f : Int) : NI (w.alloc (.cells #[.int .i64 a, .int .i64 b, .int .i64 c, .int .i64 d, .int .i64 e, .int .i64 f] 45)) (.slice (some ⟨w.heap.size, 0, none⟩) 2 2) [⟨a, b, c⟩, ⟨d, e, f⟩] := by
  have hb := Bx.fresh w 45 #[.int .i64 a, .int .i64 b, .int .i64 c, .int .i64 d, .int .i64 e, .int .i64 f]
  refine ⟨_, 2, rfl, Nat.le_refl _, fun h => (by cases h), fun _ => ⟨_, 0, rfl, fun i hi => ?_⟩⟩
  simp only [List.length_cons, List.length_nil] at hi
  rcases (show i = 0 ∨ i = 1 from by omega) with rfl | rfl
  · exact ⟨hb.read rfl, hb.read rfl, hb.read rfl⟩
  · exact ⟨hb.read rfl, hb.read rfl, hb.read rfl⟩
theorem alive43_any (w : World) : Calls Try.prog 25 #[] w fun r w' => r = .returned (.bool true) ∧ Below w.heap.size w w' := by
  have HB := Lib.hid (show Below w.heap.size w (w.alloc (.cells #[.int .i64 8, .int .i64 0, .int .i64 0, .int .i64 1, .int .i64 0, .int .i64 0] 45)) from (Below.refl _ _).alloc (Nat.le_refl _) _)
  have CN := Lib.hid (next_any 9 _ [⟨8, 0, 0⟩, ⟨1, 0, 0⟩] (by simp) _ (ni_two w 8 0 0 1 0 0))
  go_enter Try.func25, Try.ntmps25
  go_wp2_with fail
  refine CN.out.mono ?_; rintro e w3 ⟨⟨x, s, rfl, hx⟩, hb3⟩
  rw [show nxL 9 [⟨8, 0, 0⟩, ⟨1, 0, 0⟩] = some 1 from by decide +kernel] at hx
  rcases hx with ⟨hn, _, _⟩ | ⟨j, hn, rfl, rfl⟩
  · cases hn
  · cases hn
    go_wp2_with fail
    go_ret
    exact ⟨rfl, bnext HB.out hb3⟩
/-- An ask in a box. -/
def AskB (W : World) (g : Nat) (a0 a1 a2 a3 : Int) : Prop := Bx W g 39 #[.int .i64 a0, .int .i64 a1, .int .i64 a2, .int .i64 a3]
theorem AskB.reads {W : World} {g : Nat} {a0 a1 a2 a3 : Int} (h : AskB W g a0 a1 a2 a3) : W.cell? ⟨g, 0, none⟩ = some (.int .i64 a0) ∧ W.cell? ⟨g, 1, none⟩ = some (.int .i64 a1) ∧ W.cell? ⟨g, 2, none⟩ = some (.int .i64 a2) ∧ W.cell? ⟨g, 3, none⟩ = some (.int .i64 a3) := ⟨Bx.read h rfl, Bx.read h rfl, Bx.read h rfl, Bx.read h rfl⟩
theorem plans_great (a0 a1 a2 a3 : Int) (a : Option Addr) (n cap : Nat) (hn : 10 < n) (hm : n ≤ 9223372036854775807) (w : World) :
    Calls Try.prog 6 #[.agg #[.int .i64 a0, .int .i64 a1, .int .i64 a2, .int .i64 a3], .slice a n cap] w fun e w' => e = .returned (.bool true) ∧ Below w.heap.size w w' := by
  have HB := Lib.hid (show Below w.heap.size w (w.alloc (.cells #[.int .i64 a0, .int .i64 a1, .int .i64 a2, .int .i64 a3] 39)) from (Below.refl _ _).alloc (Nat.le_refl _) _)
  go_enter Try.func6, Try.ntmps6
  go_wp2_with fail
  go_ret
  exact ⟨rfl, HB.out⟩
set_option maxRecDepth 100000 in
set_option maxHeartbeats 16000000 in
theorem plans_some (a0 a1 a2 a3 : Int) (v : Value) (L : List Nd) (hl : L.length ≤ 10) (w : World) (h : NI w v L) :
    Calls Try.prog 6 #[.agg #[.int .i64 a0, .int .i64 a1, .int .i64 a2, .int .i64 a3], v] w fun e w' => e = .returned (.bool true) ∧ Below w.heap.size w w' := by
  have b1 := tk_bd a0
  have b2 := tk_bd a1
  have b3 := bd_bd a2 1 1099511627776 (by omega)
  have CP := Lib.hid (fun W (hW : NI W v L) => plan_any a0 a1 a2 a3 v L (by omega) W hW)
  have T1 := Lib.hid (fun W => tcut_any a0 W)
  have T2 := Lib.hid (fun W => tcut_any a1 W)
  have T3 := Lib.hid (fun W => cut_any a2 1 1099511627776 W)
  have HR := Lib.hid h
  obtain ⟨av, cv, rfl⟩ := h.form
  have hst : max (tkI a2) 1 = bdI a2 1 1099511627776 := by unfold tkI bdI; omega
  unfold planI at CP
  rw [hst] at CP
  clear hst h
  generalize tkI a0 = t0 at *
  generalize tkI a1 = fin at *
  generalize bdI a2 1 1099511627776 = step at *
  generalize hq : planS step fin a3 L.length 1000 (nd L) t0 [] = R at *
  have HQ := Lib.hid hq
  clear hq
  have HA1 := Lib.hid (show Below w.heap.size w ((w.alloc (.cells #[.int .i64 a0, .int .i64 a1, .int .i64 a2, .int .i64 a3] 39)).alloc (.cells #[] 45)) from ((Below.refl _ _).alloc (Nat.le_refl _) _).alloc (by simp) _)
  have HA2 := Lib.hid (show AskB ((w.alloc (.cells #[.int .i64 a0, .int .i64 a1, .int .i64 a2, .int .i64 a3] 39)).alloc (.cells #[] 45)) w.heap.size a0 a1 a2 a3 from (Bx.fresh w _ _).past _)
  have HA3 := Lib.hid (show NO ((w.alloc (.cells #[.int .i64 a0, .int .i64 a1, .int .i64 a2, .int .i64 a3] 39)).alloc (.cells #[] 45)) (w.heap.size + 1) (.slice (some ⟨w.heap.size + 1, 0, none⟩) 0 0) [] from by have := no_made (w.alloc (.cells #[.int .i64 a0, .int .i64 a1, .int .i64 a2, .int .i64 a3] 39)); rwa [World.size_alloc] at this)
  go_enter Try.func6, Try.ntmps6
  go_wp2_with (at_builtin; refine wpList_app0 rfl (.tmp 15) (.tmp 16) rfl (w.heap.size + 1) _ _ L rfl rfl HA3.out (HR.out.next HA1.out) (by omega) (by simp) ?_)
  intro vn w1 hN1 hg1
  have HB1 := Lib.hid (HA1.out.grown hg1 HA1.out.size (fun k hk => by have := (World.ownsRow.lt HA3.out k hk).1; omega))
  have HK1 := Lib.hid (show AskB w1 w.heap.size a0 a1 a2 a3 from Bx.grown HA2.out hg1 (fun e => by have := (World.ownsRow.lt HA3.out _ e).1; omega))
  obtain ⟨an, cn, rfl⟩ := hN1.form
  have HP := Lib.hid (show PS w (w.heap.size + 1) step fin a3 L.length R w1 (.slice an L.length cn) (.slice none 0 0) 0 t0 L [] from ⟨hN1, io_nil _ _, HB1.out, Nat.le_succ _, rfl, by simp, by omega, by omega, by omega, HQ.out⟩)
  clear hN1 hg1 HA1 HA2 HA3 HB1
  obtain ⟨k0, k1, k2, k3⟩ := HK1.out.reads
  go_wp2_with fail
  go_quiet ((first | (with_reducible exact Calls.quiet_of_same (T1.out _)) | (with_reducible exact Calls.quiet_of_same (T2.out _)) | (with_reducible exact Calls.quiet_of_same (T3.out _))))
  clear k0 k1 k2 k3
  go_wp2_with fail
  have HP2 := Lib.hid (HP.out.next (below_drewN (Below.refl _ w1) nq))
  have HK2 := Lib.hid (show AskB (w1.drewN nq) w.heap.size a0 a1 a2 a3 from Bx.next HK1.out (below_drewN (Below.refl _ w1) nq))
  clear HP HK1 T1 T2 T3
  go_loopg [5, 7, 10] 1000 (fun g v5 v7 v10 wr => ∃ (k : Nat) (vp : Value) (t : Int) (L' : List Nd) (acc : List Nat), v10 = .int .i64 k ∧ v7 = .int .i64 t ∧ v5 = vp ∧ k ≤ 1000 ∧ Hid (g = 1000 - k) ∧ Hid (PS w (w.heap.size + 1) step fin a3 L.length R wr (.slice an L.length cn) vp k t L' acc) ∧ Hid (AskB wr w.heap.size a0 a1 a2 a3))
  case atStart => exact ⟨0, _, _, L, [], rfl, rfl, rfl, by omega, Lib.hid rfl, HP2, HK2⟩
  case round =>
    obtain ⟨k, vp, t, L', acc, rfl, rfl, rfl, hk, HG, HS, HK⟩ := hrel
    clear HP2 HK2
    obtain ⟨ap, cp, rfl⟩ := HS.out.row.form
    obtain ⟨k0, k1, k2, k3⟩ := HK.out.reads
    clear k0 k1 k2
    have FIN : acc = R → ∀ W vp, IO W (w.heap.size + 1) vp (zz acc) → Below w.heap.size w W → True := fun _ _ _ _ _ => trivial
    clear FIN
    by_cases hgo : k < 1000 ∧ t < fin ∧ ((zz acc).length : Int) < a3
    · obtain ⟨hlt, hg1, hg2⟩ := hgo
      have hi1 : (k : Int) < 1000 := by omega
      have HNS := Lib.hid (show ¬ (fin ≤ t ∨ a3 ≤ (acc.length : Int)) from fun h => by rw [zz_len] at hg2; omega)
      have HL' := Lib.hid HS.out.len
      have CO := Lib.hid (order_any t (.slice an L.length cn) L' (by rw [HL'.out]; omega) wr HS.out.own.in_)
      have htl := HS.out.tl
      have hth := HS.out.th
      have hsw : IntKind.i64.wrap (t + step) = t + step := IntWalk.i64_in _ (by omega)
      have HB := Lib.hid (show fin ≤ 1099511627776 ∧ (1 ≤ step ∧ step ≤ 1099511627776) from ⟨b2.2, b3⟩)
      clear b1 b2 b3
      go_wp2_with fail
      refine CO.out.mono ?_; rintro e w3 ⟨⟨vo, out, rfl, hO3, hx⟩, hb3⟩
      have HS3 := Lib.hid (HS.out.next hb3)
      have HK3 := Lib.hid (show AskB w3 w.heap.size a0 a1 a2 a3 from Bx.next HK.out hb3)
      have HWR := Lib.hid (World.ownsRow.lt HS.out.row)
      clear hb3 CO HS HK k3
      obtain ⟨ao, co, rfl⟩ := hO3.form
      rcases hx with ⟨rfl, hn⟩ | ⟨j, rest, rfl, hn⟩
      · have HS4 := Lib.hid (HS3.out.wait hlt hn HNS.out HB.out.1 HB.out.2)
        clear hn hO3
        go_wp2_with fail
        go_roundg (1000 - (k + 1))
        case measure => have := HG.out; omega
        case rel => exact ⟨k + 1, _, t + step, L', acc, by go_num, by go_num, rfl, by omega, Lib.hid rfl, HS4, HK3⟩
      · have hj : j < L'.length := nxt_lt _ _ _ _ hn
        have HN := Lib.hid hn
        clear hn
        have hj2 : (j : Int) < (L.length : Int) := by rw [HL'.out] at hj; omega
        obtain ⟨a', c', hv', hc'⟩ := hO3.in_
        obtain ⟨bo, oo, rfl, hco⟩ := hc' (by simp)
        cases hv'
        have o0 := hco 0 (by simp)
        rw [List.getElem_cons_zero, Nat.add_zero] at o0
        have HO3 := Lib.hid hO3
        clear hO3 hc' hco
        have hol : (0 : Int) < ((List.length ((j : Int) :: rest) : Nat) : Int) := by simp <;> omega
        generalize hze : ((List.length ((j : Int) :: rest) : Nat) : Int) = ol at *
        go_wp2_with (at_builtin; refine wpList_appI rfl (.tmp 49) (.tmp 53) rfl (w.heap.size + 1) _ (zz acc) (j : Int) rfl rfl HS3.out.row ?c1 ?c2 ?_)
        case c1 => rw [zz_len]; have := HS3.out.cnt; omega
        case c2 => have := Bx.inside HK3.out; omega
        intro v5 w5 hO5 hg5
        have HO5 := Lib.hid hO5
        have HB5 := Lib.hid (below_own HS3.out.bel HS3.out.row (Nat.le_succ _) hg5)
        have HN5 := Lib.hid (World.ownsRow.kept HS3.out.own hg5 (own_apart HS3.out.own HS3.out.row (by decide)))
        have HK5 := Lib.hid (show AskB w5 w.heap.size a0 a1 a2 a3 from Bx.grown HK3.out hg5 (fun e => by have := (World.ownsRow.lt HS3.out.row _ e).1; omega))
        have o5 : w5.cell? ⟨bo, oo, none⟩ = some (.int .i64 j) := by
          refine hg5.cell o0 (fun e => ?_)
          have h1 := (HWR.out _ e.symm).2
          have h2 := (World.ownsRow.lt HO3.out _ rfl).1
          omega
        obtain ⟨gn, hgn, hBg, hgh, ⟨u0, u1, u2, c0, c1, c2⟩, hfz⟩ := NO.at_ (show NO w5 (w.heap.size + 1) (.slice an L.length cn) L' from HN5.out) j hj
        subst hgn
        have f0 := hfz (j * 3)
        have f1 := hfz (j * 3 + 1)
        have f2 := hfz (j * 3 + 2)
        have HW := Lib.hid (NO.wrote (show NO w5 (w.heap.size + 1) (.slice (some ⟨gn, 0, none⟩) L.length cn) L' from HN5.out) HB5.out (by omega) HO5.out (j * 3) (j * 3 + 1) (j * 3 + 2) (.int .i64 t) (.int .i64 0) (.int .i64 0))
        have HO := Lib.hid (NO.put (show NO w5 (w.heap.size + 1) (.slice (some ⟨gn, 0, none⟩) L.length cn) L' from HN5.out) j hj t 0 0)
        have HK6 := Lib.hid (show AskB (((w5.setCell ⟨gn, j * 3, none⟩ (.int .i64 t)).setCell ⟨gn, j * 3 + 1, none⟩ (.int .i64 0)).setCell ⟨gn, j * 3 + 2, none⟩ (.int .i64 0)) w.heap.size a0 a1 a2 a3 from ((Bx.beside HK5.out (by dsimp only; omega) _).beside (by dsimp only; omega) _).beside (by dsimp only; omega) _)
        clear hfz hj hBg hgh hO5 hg5 o0
        go_wp2_with fail
        clear c0 c1 c2 f0 f1 f2 o5
        generalize (((w5.setCell ⟨gn, j * 3, none⟩ (.int .i64 t)).setCell ⟨gn, j * 3 + 1, none⟩ (.int .i64 0)).setCell ⟨gn, j * 3 + 2, none⟩ (.int .i64 0)) = w6 at *
        have HS5 := Lib.hid (HS3.out.step hlt HN.out HNS.out HB.out.1 HB.out.2 HO.out HW.out.2 HW.out.1)
        go_roundg (1000 - (k + 1))
        case measure => have := HG.out; omega
        case rel => exact ⟨k + 1, _, t + step, _, _, by go_num, by go_num, rfl, by omega, Lib.hid rfl, HS5, HK6⟩
    · have HRR := Lib.hid (HS.out.done (by rw [zz_len] at hgo; omega))
      have CP2 := Lib.hid (CP.out wr (HR.out.next HS.out.bel))
      have hcond : (k < 1000 ∧ t < fin ∧ ¬ ((zz acc).length : Int) < a3) ∨ (k < 1000 ∧ ¬ t < fin) ∨ ¬ k < 1000 := by omega
      obtain ⟨k0, k1, k2, k3'⟩ := HK.out.reads
      clear k3' hgo
      have HB0 := Lib.hid HS.out.bel
      have HI0 := Lib.hid HS.out.row
      have HZ : (zz acc).length ≤ 1000000 := by rw [zz_len]; have := HS.out.cnt; omega
      rcases hcond with ⟨e1, e2, e3⟩ | ⟨e1, e2⟩ | e1
      · have hi1 : (k : Int) < 1000 := by omega
        go_wp2_with fail
        refine CP2.out.mono ?_; rintro e w3 ⟨⟨v3, rfl, hO3⟩, hb3⟩
        have HB3 := Lib.hid (bnext HB0.out hb3)
        have CE := Lib.hid (iequal_yes v3 _ (zz acc) HZ w3 (by rw [HRR.out]; exact hO3.in_) (HI0.out.next hb3).in_)
        clear hb3 hO3
        go_wp2_with fail
        refine CE.out.mono ?_; rintro e w4 ⟨rfl, hb4⟩
        have HB4 := Lib.hid (bnext HB3.out hb4)
        go_wp2_with fail
        refine (alive43_any _).mono ?_; rintro e w5 ⟨rfl, hb5⟩
        go_wp2_with fail
        go_ret
        exact ⟨rfl, bnext HB4.out hb5⟩
      · have hi1 : (k : Int) < 1000 := by omega
        go_wp2_with fail
        refine CP2.out.mono ?_; rintro e w3 ⟨⟨v3, rfl, hO3⟩, hb3⟩
        have HB3 := Lib.hid (bnext HB0.out hb3)
        have CE := Lib.hid (iequal_yes v3 _ (zz acc) HZ w3 (by rw [HRR.out]; exact hO3.in_) (HI0.out.next hb3).in_)
        clear hb3 hO3
        go_wp2_with fail
        refine CE.out.mono ?_; rintro e w4 ⟨rfl, hb4⟩
        have HB4 := Lib.hid (bnext HB3.out hb4)
        go_wp2_with fail
        refine (alive43_any _).mono ?_; rintro e w5 ⟨rfl, hb5⟩
        go_wp2_with fail
        go_ret
        exact ⟨rfl, bnext HB4.out hb5⟩
      · have hi1 : ¬ (k : Int) < 1000 := by omega
        go_wp2_with fail
        refine CP2.out.mono ?_; rintro e w3 ⟨⟨v3, rfl, hO3⟩, hb3⟩
        have HB3 := Lib.hid (bnext HB0.out hb3)
        have CE := Lib.hid (iequal_yes v3 _ (zz acc) HZ w3 (by rw [HRR.out]; exact hO3.in_) (HI0.out.next hb3).in_)
        clear hb3 hO3
        go_wp2_with fail
        refine CE.out.mono ?_; rintro e w4 ⟨rfl, hb4⟩
        have HB4 := Lib.hid (bnext HB3.out hb4)
        go_wp2_with fail
        refine (alive43_any _).mono ?_; rintro e w5 ⟨rfl, hb5⟩
        go_wp2_with fail
        go_ret
        exact ⟨rfl, bnext HB4.out hb5⟩
theorem planslaw (a0 a1 a2 a3 : Int) (v : Value) (w : World) (h : ∃ L : List Nd, NI w v L ∧ L.length ≤ maxLen) :
    Calls Try.prog 6 #[.agg #[.int .i64 a0, .int .i64 a1, .int .i64 a2, .int .i64 a3], v] w fun e w' => e = .returned (.bool true) ∧ Below w.heap.size w w' := by
  obtain ⟨L, h, hm⟩ := h
  by_cases hl : L.length ≤ 10
  · exact plans_some a0 a1 a2 a3 v L hl w h
  · obtain ⟨a, cap, rfl⟩ := h.form
    exact plans_great a0 a1 a2 a3 a L.length cap (by omega) (by unfold maxLen at hm; omega) w
end Go.Proofs.Ytkkhljneeajkmaa
