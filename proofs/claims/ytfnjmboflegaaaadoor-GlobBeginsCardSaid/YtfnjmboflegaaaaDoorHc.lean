/- Layer 38 (glob): Match, by definition: row by row. -/
import Derived.Test.YtfnjmboflegaaaaDoorGz
import Derived.Test.YtfnjmboflegaaaaDoorGm
import Derived.Deep.RegionHeld3
import Derived.Deep.OwnRows
import Derived.IntWalk
import Derived.BigRegion
import Derived.RegionTactic
import Derived.StillTailTactics
namespace Go.Proofs.YtfnjmboflegaaaaDoor
open Go.RowKit

/-- A row of bools in memory. -/
def rowB (n : Nat) (f : Nat → Bool) : Array Value := ((List.range n).map fun i => Value.bool (f i)).toArray
theorem rowB_at (n : Nat) (f : Nat → Bool) (i : Nat) (h : i < n) : (rowB n f)[i]? = some (.bool (f i)) := by simp [rowB, h]
theorem rowB_size (n : Nat) (f : Nat → Bool) : (rowB n f).size = n := by simp [rowB]
theorem rowB_congr (n : Nat) (f g : Nat → Bool) (h : ∀ i, i < n → f i = g i) : rowB n f = rowB n g := by
  unfold rowB
  congr 1
  apply List.map_congr_left
  intro i hi
  rw [h i (List.mem_range.1 hi)]
theorem rowB_set (n : Nat) (f : Nat → Bool) (i : Nat) (b : Bool) : (rowB n f).setIfInBounds i (.bool b) = rowB n (fun k => if k = i then b else f k) := by
  unfold rowB
  apply Array.ext_getElem?
  intro k
  simp only [List.setIfInBounds_toArray, List.getElem?_toArray, List.getElem?_set, List.getElem?_map, List.getElem?_range, List.length_map, List.length_range]
  by_cases h : i = k
  · subst h
    by_cases h2 : i < n
    · simp [h2]
    · simp [h2]
  · rw [if_neg h]
    by_cases h2 : k < n
    · simp [h2, Ne.symm h]
    · simp [h2]
theorem rowB_made (n : Nat) : madeCells #[.bool false] n = rowB n (fun _ => false) := by
  apply Array.ext_getElem?
  intro k
  by_cases h : k < n
  · rw [rowB_at _ _ _ h]
    simp [madeCells, h, Nat.mod_one]
  · rw [Array.getElem?_eq_none (by rw [size_madeCells]; omega), Array.getElem?_eq_none (by rw [rowB_size]; omega)]
/-- A row is whole. -/
structure RowI (w : World) (ps : List Prt) (t : Nat → Int) (n i g : Nat) (wr : World) : Prop where
  row : Bx wr g 4 (rowB (n + 1) (Rr ps t i))
  bel : Below w.heap.size w wr
  new : w.heap.size ≤ g
/-- The next one is being made. -/
structure NxtI (w : World) (ps : List Prt) (t : Nat → Int) (n i g g2 k : Nat) (W : World) : Prop where
  nxt : Bx W g2 4 (rowB (n + 1) (fun j => decide (j < k) && Rr ps t (i + 1) j))
  row : Bx W g 4 (rowB (n + 1) (Rr ps t i))
  bel : Below w.heap.size w W
  new : w.heap.size ≤ g2
  ne : g ≠ g2
section
variable {w W W' : World} {ps : List Prt} {t : Nat → Int} {n i g g2 k : Nat}
theorem NxtI.later (h : NxtI w ps t n i g g2 k W) (hb : Below W.heap.size W W') : NxtI w ps t n i g g2 k W' := ⟨h.nxt.next hb, h.row.next hb, bnext h.bel hb, h.new, h.ne⟩
theorem NxtI.put (h : NxtI w ps t n i g g2 k W) (b : Bool) (hb : b = Rr ps t (i + 1) k) : NxtI w ps t n i g g2 (k + 1) (W.setCell ⟨g2, k, none⟩ (.bool b)) := by
  refine ⟨?_, h.row.beside (p := ⟨g2, k, none⟩) (fun e => h.ne e.symm) _, below_gb h.bel (gb_set W g2 k (.bool b)) h.new, h.new, h.ne⟩
  have h1 := h.nxt.put k (.bool b)
  rw [rowB_set] at h1
  have e : (fun j => if j = k then b else decide (j < k) && Rr ps t (i + 1) j) = fun j => decide (j < k + 1) && Rr ps t (i + 1) j := by
    funext j
    by_cases h2 : j = k
    · subst h2; rw [if_pos rfl, hb]; simp
    · rw [if_neg h2]
      by_cases h3 : j < k
      · rw [decide_eq_true h3, decide_eq_true (by omega : j < k + 1)]
      · rw [decide_eq_false h3, decide_eq_false (by omega : ¬ j < k + 1)]
  rw [e] at h1
  exact h1
theorem NxtI.skip (h : NxtI w ps t n i g g2 0 W) (hr : rowAt ps i = false) : NxtI w ps t n i g g2 1 W := by
  refine ⟨?_, h.row, h.bel, h.new, h.ne⟩
  have h1 := h.nxt
  rw [rowB_congr (n + 1) _ (fun j => decide (j < 1) && Rr ps t (i + 1) j) (fun j _ => by
    by_cases h2 : j = 0
    · subst h2; rw [Rr_one0 ps t i hr]; simp
    · rw [decide_eq_false (by omega : ¬ j < 0), decide_eq_false (by omega : ¬ j < 1)])] at h1
  exact h1
theorem NxtI.end_ (h : NxtI w ps t n i g g2 (n + 1) W) : RowI w ps t n (i + 1) g2 W := by
  refine ⟨?_, h.bel, h.new⟩
  have h1 := h.nxt
  rw [rowB_congr (n + 1) _ (Rr ps t (i + 1)) (fun j hj => by rw [decide_eq_true hj]; rfl)] at h1
  exact h1
end
/-- The next one is being made, and what stands at k is left open. -/
def NK (w : World) (ps : List Prt) (t : Nat → Int) (n i g g2 k : Nat) (W : World) : Prop :=
  ∃ f : Nat → Bool, (∀ j, j ≠ k → f j = (decide (j < k) && Rr ps t (i + 1) j)) ∧ Bx W g2 4 (rowB (n + 1) f) ∧ Bx W g 4 (rowB (n + 1) (Rr ps t i)) ∧ Below w.heap.size w W ∧ w.heap.size ≤ g2 ∧ g ≠ g2
section
variable {w W W' : World} {ps : List Prt} {t : Nat → Int} {n i g g2 k : Nat}
theorem NxtI.open_ (h : NxtI w ps t n i g g2 k W) : NK w ps t n i g g2 k W := ⟨_, fun _ _ => rfl, h.nxt, h.row, h.bel, h.new, h.ne⟩
theorem NK.later (h : NK w ps t n i g g2 k W) (hb : Below W.heap.size W W') : NK w ps t n i g g2 k W' := by
  obtain ⟨f, h1, h2, h3, h4, h5, h6⟩ := h
  exact ⟨f, h1, h2.next hb, h3.next hb, bnext h4 hb, h5, h6⟩
theorem NK.store (h : NK w ps t n i g g2 k W) (b : Bool) : NK w ps t n i g g2 k (W.setCell ⟨g2, k, none⟩ (.bool b)) := by
  obtain ⟨f, h1, h2, h3, h4, h5, h6⟩ := h
  have h7 := h2.put k (.bool b)
  rw [rowB_set] at h7
  exact ⟨_, fun j hj => by rw [if_neg hj]; exact h1 j hj, h7, h3.beside (p := ⟨g2, k, none⟩) (fun e => h6 e.symm) _, below_gb h4 (gb_set W g2 k (.bool b)) h5, h5, h6⟩
theorem NK.put (h : NK w ps t n i g g2 k W) (b : Bool) (hb : b = Rr ps t (i + 1) k) : NxtI w ps t n i g g2 (k + 1) (W.setCell ⟨g2, k, none⟩ (.bool b)) := by
  obtain ⟨f, h1, h2, h3, h4, h5, h6⟩ := h
  have h7 := h2.put k (.bool b)
  rw [rowB_set] at h7
  have e : (fun j => if j = k then b else f j) = fun j => decide (j < k + 1) && Rr ps t (i + 1) j := by
    funext j
    by_cases h8 : j = k
    · subst h8; rw [if_pos rfl, hb]; simp
    · rw [if_neg h8, h1 j h8]
      by_cases h9 : j < k
      · rw [decide_eq_true h9, decide_eq_true (by omega : j < k + 1)]
      · rw [decide_eq_false h9, decide_eq_false (by omega : ¬ j < k + 1)]
  rw [e] at h7
  exact ⟨h7, h3.beside (p := ⟨g2, k, none⟩) (fun e => h6 e.symm) _, below_gb h4 (gb_set W g2 k (.bool b)) h5, h5, h6⟩
theorem NK.bel (h : NK w ps t n i g g2 k W) : Below w.heap.size w W := by
  obtain ⟨f, h1, h2, h3, h4, h5, h6⟩ := h
  exact h4
theorem NK.free (h : NK w ps t n i g g2 k W) : W.frozen? ⟨g2, k, none⟩ = false := by
  obtain ⟨f, h1, h2, h3, h4, h5, h6⟩ := h
  exact h2.open_ k
end
def KPm (w w' : World) : Prop := Below w.heap.size w w'
theorem KPm.start (w : World) : KPm w w.drew := (Below.refl _ _).drew

theorem region_tail {P : Program} {id : Nat} {Q : Exit → Act → World → Prop} {a : Act} {w : World} {l : List Oper} (n : Nat) (hm : P.follows .mixedOrders = true) (hB : Region.lexTailB .any l.toArray n = true)
    (h : wpStill P l.toArray w.drew (fun a' => wpList P l.toArray Q (l.drop n) a' w.drew) (l.take n) a) : (Code.region id l.toArray true).wp P Q a w := wp_region_still_tail n hm hB h
set_option maxRecDepth 100000 in
set_option maxHeartbeats 16000000 in
theorem rmatch_any (s : ByteArray) (hs : s.size ≤ maxLen) (ps : List Prt) (hps : patS s = some ps) (t : ByteArray) (ht : t.size ≤ 1000) (w0 : World) (hT : Tb w0) :
    Calls Tryd.prog 11 #[.string s, .string t] w0 fun e w' => e = .returned (.bool (matS ps (runesG t))) ∧ Below w0.heap.size w0 w' := by
  have hwf0 : (∀ p ∈ ps, p.sp.length ≤ 200) ∧ ps.length ≤ 100 := by
    unfold patS at hps
    split at hps
    · split at hps
      · have h1 := runesG_len s
        refine ⟨fun p hp => ?_, ?_⟩
        · have := prs_sp hps p hp; omega
        · have := prs_len hps; omega
      · simp at hps
    · simp at hps
  have C0 := Hid.mk' (rparts_any s hs w0 hT)
  rw [hps] at C0
  have HWF := Hid.mk' hwf0
  have hrc := rconv t ht
  have hl1 : (runesG t).length ≤ 1000 := by have := runesG_len t; omega
  generalize runesG t = l at *
  have HRC := Hid.mk' hrc
  clear hps hwf0 hT hs hrc
  go_enter Tryd.func11, Tryd.ntmps11
  go_wp2_with fail
  refine C0.out.mono ?_; rintro e w1 ⟨pv, b, rfl, hb1, hres⟩
  rcases hres with ⟨hn, _⟩ | ⟨q, hq, rfl, hpt⟩
  · cases hn
  injection hq with hq
  have hpsq : ps = psq q := hq
  subst hpsq
  obtain ⟨pa, pc, rfl⟩ := own_form hpt.1
  obtain ⟨v, w2, hcv, hr, hb2⟩ := HRC.out w1
  have hlen := fun w' => hr.len w'
  obtain ⟨R0, hR0⟩ : ∃ R, R = rowB (l.length + 1) (fun _ => false) := ⟨_, rfl⟩
  obtain ⟨R1, hR1⟩ : ∃ R, R = rowB (l.length + 1) (fun k => if k = 0 then true else false) := ⟨_, rfl⟩
  have hmk : ∀ W : World, (Instr.makeSlice 48 (.int .i64 ((l.length : Int) + 1)) (.int .i64 ((l.length : Int) + 1))).run Tryd.prog W = .ok (.slice (some ⟨W.heap.size, 0, none⟩) (l.length + 1) (l.length + 1)) (W.alloc (.cells R0 4)) := by
    intro W
    have := run_make_row' (P := Tryd.prog) 48 4 (.bool false) 1 Tryd.underlying48 (by kernel_rfl) rfl .i64 .i64 (l.length + 1) (by omega) (by omega) W
    rw [rowB_made, show ((l.length + 1 : Nat) : Int) = (l.length : Int) + 1 from by omega, ← hR0] at this
    exact this
  have hz0 : R0[0]? = some (.bool false) := by rw [hR0]; exact rowB_at _ _ _ (by omega)
  have hz1 : R0.setIfInBounds 0 (.bool true) = R1 := by rw [hR0, hR1, rowB_set]
  have hz2 : R0.size = l.length + 1 := by rw [hR0]; exact rowB_size _ _
  have HB0 := Hid.mk' (bnext hb1 hb2)
  have HH := Hid.mk' (And.intro (hpt.next hb2) hr)
  have HR := Hid.mk' (And.intro hR0 hR1)
  have hq100 : q.length ≤ 100 := by have := HWF.out.2; rw [psq_len] at this; exact this
  have hnn : (0 : Int) ≤ (l.length : Int) := by omega
  have START := Hid.mk' (show RowI w2 (psq q) (fun j => l.getD j 0) l.length 0 w2.heap.size (w2.alloc (.cells R1 4)) from ⟨by
    rw [hR1, rowB_congr _ _ (Rr (psq q) (fun j => l.getD j 0) 0) (fun i _ => by rw [Rr_zero]; by_cases h : i = 0 <;> simp [h])]
    exact Bx.fresh w2 _ _, (Below.refl _ _).alloc (Nat.le_refl _) _, Nat.le_refl _⟩)
  clear hpt hr hb1 hb2 hR0 hR1 hq C0
  go_wp2_with fail
  go_loopw [8, 9] (fun rv iv wr => ∃ (i g : Nat), iv = .int .i64 i ∧ rv = .slice (some ⟨g, 0, none⟩) (l.length + 1) (l.length + 1) ∧ i ≤ q.length ∧ Hid (RowI w2 (psq q) (fun j => l.getD j 0) l.length i g wr)) (fun _ iv _ => q.length - (intOf iv).toNat)
  case atStart => exact ⟨0, _, rfl, rfl, Nat.zero_le _, START⟩
  case round =>
    clear START
    obtain ⟨i, g, rfl, rfl, hi, HM⟩ := hrel
    by_cases hlt : i < q.length
    · have hlti : (i : Int) < (q.length : Int) := by omega
      obtain ⟨wo, rfl⟩ : ∃ wo : World, wo = wr := ⟨_, rfl⟩
      have hgw := HM.out.row.inside
      have START2 := Hid.mk' (show NxtI w2 (psq q) (fun j => l.getD j 0) l.length i g wo.heap.size 0 (wo.alloc (.cells R0 4)) from ⟨by
        rw [HR.out.1, rowB_congr _ _ (fun j => decide (j < 0) && Rr (psq q) (fun j => l.getD j 0) (i + 1) j) (fun j _ => by simp)]
        exact Bx.fresh wo _ _, HM.out.row.past _, HM.out.bel.alloc HM.out.bel.size _, HM.out.bel.size, by omega⟩)
      have hgne : g ≠ wo.heap.size := by omega
      have HROW := Hid.mk' (row_at q i hlt)
      have HTELL := Hid.mk' (fun r => tell_at q i r hlt)
      clear HM hgw
      go_wp2_with fail
      go_loopw [11] (fun kv W => ∃ k : Nat, kv = .int .i64 k ∧ k ≤ l.length + 1 ∧ Hid (NxtI w2 (psq q) (fun j => l.getD j 0) l.length i g wo.heap.size k W)) (fun kv _ => l.length + 1 - (intOf kv).toNat)
      case atStart => exact ⟨0, rfl, Nat.zero_le _, START2⟩
      case round =>
        clear START2
        obtain ⟨k, rfl, hk, HN⟩ := hrel
        by_cases hkl : k ≤ l.length
        · have hki : (k : Int) ≤ (l.length : Int) := by omega
          have hki2 : (k : Int) < (l.length : Int) + 1 := by omega
          have hkn : k < l.length + 1 := by omega
          have hpt := HH.out.1.next HN.out.bel
          obtain ⟨g', cap, hv, hle, d0, d1⟩ := HH.out.1.at i hlt
          cases hv
          have c0 : wr.cell? ⟨g', i * 2, none⟩ = _ := (HN.out.bel.cell (World.block_lt_of_cell? w2 _ d0)).trans d0
          have c1 : wr.cell? ⟨g', i * 2 + 1, none⟩ = _ := (HN.out.bel.cell (World.block_lt_of_cell? w2 _ d1)).trans d1
          have HGB := Hid.mk' (show g' < w2.heap.size from World.block_lt_of_cell? w2 _ d0)
          clear d0 d1
          have hmem : q[i].1 ∈ psq q := by unfold psq; exact List.mem_map.2 ⟨_, List.getElem_mem hlt, rfl⟩
          have hsp := HWF.out.1 _ hmem
          have hsr := hpt.2 _ (List.getElem_mem hlt)
          have hmem2 : q[i] ∈ q := List.getElem_mem hlt
          have hrow := HROW.out
          have htell := HTELL.out
          generalize q[i] = x at *
          obtain ⟨p, xv⟩ := x
          dsimp only at *
          have HP := Hid.mk' (And.intro hsp hsr)
          have HRW := Hid.mk' hrow
          have HTL := Hid.mk' htell
          clear hsp hsr hrow htell hpt hmem
          have n0 := HN.out.row.read (rowB_at _ _ k hkn)
          have n1 := HN.out.nxt.read (rowB_at _ _ k hkn)
          rw [decide_eq_false (by omega : ¬ k < k), Bool.false_and] at n1
          have n2 := HN.out.nxt.open_ k
          cases hpr : p.row with
          | true =>
            have hk3 : kdI p = 3 := by unfold kdI; rw [if_pos hpr]
            rw [hk3] at c0
            have HRT := Hid.mk' (show rowAt (psq q) i = true by rw [HRW.out, hpr])
            clear hk3 hpr
            cases hb : Rr (psq q) (fun j => l.getD j 0) i k with
            | true =>
              rw [hb] at n0
              have E := Hid.mk' (HN.out.put true (Rr_up _ _ _ _ HRT.out hb).symm)
              clear hb HN
              go_wp2_with fail
              go_roundw
              case rel => exact ⟨k + 1, by go_num, by omega, E⟩
              case measure => simp [intOf]; omega
            | false =>
              rw [hb] at n0
              by_cases hk0 : k = 0
              · subst hk0
                have E := Hid.mk' (HN.out.put false (by rw [Rr_row0 _ _ _ HRT.out, hb]))
                clear hb HN
                go_wp2_with fail
                go_roundw
                case rel => exact ⟨1, by go_num, by omega, E⟩
                case measure => first | (simp [intOf]; done) | (simp [intOf]; omega)
              · have hk1 : (0 : Int) < (k : Int) := by omega
                obtain ⟨k', hk'⟩ : ∃ k', k = k' + 1 := ⟨k - 1, by omega⟩
                have n3 := HN.out.nxt.read (rowB_at _ _ (k - 1) (by omega))
                rw [decide_eq_true (by omega : k - 1 < k), Bool.true_and] at n3
                obtain ⟨b2, hb2⟩ : ∃ b2, b2 = Rr (psq q) (fun j => l.getD j 0) (i + 1) (k - 1) := ⟨_, rfl⟩
                have E := Hid.mk' (HN.out.put b2 (by rw [hb2, hk', Rr_row _ _ _ _ HRT.out, ← hk', hb, Bool.false_or]; congr 1; omega))
                rw [← hb2] at n3
                clear hb HN hb2 hk' hk0
                go_wp2_with fail
                go_roundw
                case rel => exact ⟨k + 1, by go_num, by omega, E⟩
                case measure => simp [intOf]; omega
          | false =>
            have hk3 : (kdI p == 3) = false := by
              unfold kdI; rw [hpr]
              cases p.nt with
              | false => rfl
              | true => by_cases h : p.sp = [] <;> simp [h]
            have HRF := Hid.mk' (show rowAt (psq q) i = false by rw [HRW.out, hpr])
            have HPR := Hid.mk' hpr
            obtain ⟨kd, hkd⟩ : ∃ kd, kd = kdI p := ⟨_, rfl⟩
            rw [← hkd] at c0 hk3
            have HKD := Hid.mk' hkd
            clear hpr hkd
            by_cases hk0 : k = 0
            · subst hk0
              have E := Hid.mk' (HN.out.skip HRF.out)
              clear HN n0 n1 n2
              go_wp2_with fail
              go_roundw
              case rel => exact ⟨1, by go_num, by omega, E⟩
              case measure => first | (simp [intOf]; done) | (simp [intOf]; omega)
            · have hk1 : (0 : Int) < (k : Int) := by omega
              obtain ⟨k', hk'⟩ : ∃ k', k = k' + 1 := ⟨k - 1, by omega⟩
              have n3 := HN.out.row.read (rowB_at _ _ (k - 1) (by omega))
              have HE := Hid.mk' (show Rr (psq q) (fun j => l.getD j 0) (i + 1) k = (p.tells (l.getD (k - 1) 0) && Rr (psq q) (fun j => l.getD j 0) i (k - 1)) by
                rw [hk', Rr_one _ _ _ _ HRF.out, HTL.out, Nat.add_sub_cancel])
              have hw1 : IntKind.i64.wrap ((k : Int) - 1) = (k : Int) - 1 := IntWalk.i64_in _ (by omega)
              have hk1' : (1 : Int) ≤ (k : Int) := by omega
              have hk2 : (k : Int) - 1 < (l.length : Int) + 1 := by omega
              have hk3' : (k : Int) - 1 < (l.length : Int) := by omega
              have hk4 : ((k : Int) - 1).toNat = k - 1 := by omega
              clear hk' hk0
              have hgf := HN.out.nxt.inside
              cases hb : Rr (psq q) (fun j => l.getD j 0) i (k - 1) with
              | false =>
                rw [hb] at n3
                have E := Hid.mk' (HN.out.put false (by rw [HE.out, hb]; simp))
                have NK0 := Hid.mk' HN.out.open_
                have hs0 : wr.drew.cell? ⟨g, k - 1, none⟩ = some (.bool false) ∧ wr.drew.cell? ⟨wo.heap.size, k, none⟩ = some (.bool false) ∧ wr.drew.frozen? ⟨wo.heap.size, k, none⟩ = false ∧ Hid (NK w2 (psq q) (fun j => l.getD j 0) l.length i g wo.heap.size k wr.drew) := ⟨n3, n1, n2, Hid.mk' (NK0.out.later (Below.refl _ _).drew)⟩
                have HS0 := Hid.mk' hs0
                have HV := Hid.mk' (show false = Rr (psq q) (fun j => l.getD j 0) (i + 1) k by rw [HE.out, hb]; simp)
                clear hb hs0 HN E
                go_wp2_with fail
                go_region
                go_wp2_with fail
                have E := Hid.mk' (HS0.out.2.2.2.out.put false HV.out)
                go_roundw
                case rel => exact ⟨k + 1, by go_num, by omega, E⟩
                case measure => simp [intOf]; omega
              | true =>
                rw [hb] at n3
                obtain ⟨xa, xc, hx⟩ := own_form HP.out.2
                subst hx
                obtain ⟨p1, hx1, hd1, hp1⟩ := HH.out.2.at (k - 1) (by omega)
                have hc1 := (HN.out.bel.cell hp1).trans hd1
                have HP1 := Hid.mk' hp1
                rw [show ((k - 1 : Nat) : Int) = (k : Int) - 1 from by omega] at hx1
                have HE2 := Hid.mk' (show Rr (psq q) (fun j => l.getD j 0) (i + 1) k = p.tells l[k - 1] by
                  rw [HE.out, hb, Bool.and_true, List.getD_eq_getElem?_getD, List.getElem?_eq_getElem (by omega)]; rfl)
                clear hb HE hd1 hp1
                generalize l[k - 1] = c at *
                have HS2 := Hid.mk' (HH.out.1.2 _ hmem2)
                have hwo := HN.out.new
                obtain ⟨SS, hSS⟩ : ∃ SS : World → Prop, ∀ W, SS W ↔ (W.cell? ⟨g, k - 1, none⟩ = some (.bool true) ∧ W.cell? ⟨g', i * 2, none⟩ = some (.int .i64 kd) ∧ W.cell? ⟨g', i * 2 + 1, none⟩ = some (.slice xa p.sp.length xc) ∧ W.cell? p1 = some (.int .i32 c) ∧ (∃ b0, W.cell? ⟨wo.heap.size, k, none⟩ = some (.bool b0)) ∧ NK w2 (psq q) (fun j => l.getD j 0) l.length i g wo.heap.size k W) := ⟨_, fun W => Iff.rfl⟩
                have HSS := Hid.mk' hSS
                have HST := Hid.mk' (fun (W : World) (b : Bool) (hW : SS W) => (show SS (W.setCell ⟨wo.heap.size, k, none⟩ (.bool b)) by
                  obtain ⟨k0, k1, k2, k3, ⟨b0, k4⟩, k6⟩ := (HSS.out W).1 hW
                  have gg := gb_set W wo.heap.size k (.bool b)
                  refine (HSS.out _).2 ⟨gg.cell k0 (by simp; omega), gg.cell k1 (by have := HGB.out; simp; omega), gg.cell k2 (by have := HGB.out; simp; omega), gg.cell k3 (by have := HP1.out; simp; omega), ⟨b, World.cell?_setCell_same' _ _ _ (by rw [k4]; rfl)⟩, k6.store b⟩))
                have C := Hid.mk' (fun (W2 : World) (hS : SS W2) => (has_any p HPR.out (.slice xa p.sp.length xc) c HP.out.1 W2 (HS2.out.next ((HSS.out W2).1 hS).2.2.2.2.2.bel)).mono (R' := fun e w' => e = .returned (.bool (p.tells c)) ∧ w'.cell? ⟨g, k - 1, none⟩ = some (.bool true) ∧ w'.cell? ⟨g', i * 2, none⟩ = some (.int .i64 kd) ∧ w'.cell? ⟨g', i * 2 + 1, none⟩ = some (.slice xa p.sp.length xc) ∧ w'.cell? p1 = some (.int .i32 c) ∧ (∃ b0, w'.cell? ⟨wo.heap.size, k, none⟩ = some (.bool b0)) ∧ w'.frozen? ⟨wo.heap.size, k, none⟩ = false ∧ SS w') (fun e w' ⟨a, b⟩ => by
                  obtain ⟨k0, k1, k2, k3, ⟨b0, k4⟩, k6⟩ := (HSS.out W2).1 hS
                  have cc : ∀ {q v}, W2.cell? q = some v → w'.cell? q = some v := fun h1 => by rw [b.cell (World.block_lt_of_cell? W2 _ h1)]; exact h1
                  have hk3 := k6.later b
                  exact ⟨a, cc k0, cc k1, cc k2, cc k3, ⟨b0, cc k4⟩, hk3.free, (HSS.out w').2 ⟨cc k0, cc k1, cc k2, cc k3, ⟨b0, cc k4⟩, hk3⟩⟩))
                rw [← HKD.out] at C
                have hs0 : SS wr.drew := (HSS.out _).2 ⟨n3, c0, c1, hc1, ⟨_, n1⟩, HN.out.open_.later (Below.refl _ _).drew⟩
                clear HN hSS
                have HSX := Hid.mk' (fun (W : World) (b : Bool) (hW : SS W) => (show (W.setCell ⟨wo.heap.size, k, none⟩ (.bool b)).cell? ⟨g, k - 1, none⟩ = some (.bool true) ∧ (W.setCell ⟨wo.heap.size, k, none⟩ (.bool b)).cell? ⟨g', i * 2, none⟩ = some (.int .i64 kd) ∧ (W.setCell ⟨wo.heap.size, k, none⟩ (.bool b)).cell? ⟨g', i * 2 + 1, none⟩ = some (.slice xa p.sp.length xc) ∧ (W.setCell ⟨wo.heap.size, k, none⟩ (.bool b)).cell? p1 = some (.int .i32 c) ∧ SS (W.setCell ⟨wo.heap.size, k, none⟩ (.bool b)) from
                  have h1 := (HSS.out _).1 (HST.out W b hW)
                  ⟨h1.1, h1.2.1, h1.2.2.1, h1.2.2.2.1, HST.out W b hW⟩))
                go_wp2_with fail
                go_region_held3 (fun W => W.cell? ⟨g, k - 1, none⟩ = some (.bool true) ∧ W.cell? ⟨g', i * 2, none⟩ = some (.int .i64 kd) ∧ W.cell? ⟨g', i * 2 + 1, none⟩ = some (.slice xa p.sp.length xc) ∧ W.cell? p1 = some (.int .i32 c) ∧ SS W) (first | assumption | exact ⟨n3, c0, c1, hc1, hs0⟩ | exact ⟨k0, k1, k2, k3, k7⟩ | exact HSX.out _ _ k7) ((first | (go_at_call 21; refine (C.out _ (by assumption)).mono ?_; rintro e w6 ⟨rfl, k0, k1, k2, k3, ⟨b0, k4⟩, k5, k7⟩)))
                go_wp2_with fail
                have E := Hid.mk' (((HSS.out w6).1 k7).2.2.2.2.2.put (p.tells c) HE2.out.symm)
                go_roundw
                case rel => exact ⟨k + 1, by go_num, by omega, E⟩
                case measure => simp [intOf]; omega
        · have hki : ¬ (k : Int) ≤ (l.length : Int) := by omega
          have hkl2 : k = l.length + 1 := by omega
          have E := Hid.mk' (show RowI w2 (psq q) (fun j => l.getD j 0) l.length (i + 1) wo.heap.size wr by have := HN.out; rw [hkl2] at this; exact this.end_)
          clear hkl2 HN
          go_wp2_with fail
          go_roundw
          case rel => exact ⟨i + 1, _, by go_num, rfl, by omega, E⟩
          case measure => simp [intOf]; omega
    · have hlti : ¬ (i : Int) < (q.length : Int) := by omega
      have hiq : i = q.length := by omega
      have n0 := HM.out.row.read (rowB_at _ _ l.length (by omega))
      have hbb : Rr (psq q) (fun j => l.getD j 0) i l.length = matS (psq q) l := by unfold matS; rw [hiq, psq_len]
      rw [hbb] at n0
      have HB := Hid.mk' (bnext HB0.out HM.out.bel)
      clear HM hbb hiq
      go_wp2_with fail
      go_ret
      exact ⟨rfl, HB.out⟩
end Go.Proofs.YtfnjmboflegaaaaDoor
