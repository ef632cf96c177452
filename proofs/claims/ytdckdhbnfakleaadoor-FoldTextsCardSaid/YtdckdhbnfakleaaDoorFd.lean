/- Layer 39 (fold): rows of chunks compared, by the code. -/
import Derived.Test.YtdckdhbnfakleaaDoorFc
namespace Go.Proofs.YtdckdhbnfakleaaDoor
open Go.RowKit

theorem flatC_at (L : List (ByteArray × Bool)) : ∀ (j : Nat) (h : j < L.length), (flatC L)[j * 2]? = some (.string L[j].1) ∧ (flatC L)[j * 2 + 1]? = some (.bool L[j].2) := by
  induction L with
  | nil => intro j h; simp at h
  | cons s L ih =>
    intro j h
    have e : flatC (s :: L) = .string s.1 :: .bool s.2 :: flatC L := by simp [flatC]
    rw [e]
    cases j with
    | zero => exact ⟨rfl, rfl⟩
    | succ j =>
      have := ih j (by simpa using h)
      rw [show (j + 1) * 2 = j * 2 + 1 + 1 from by omega]
      simp only [List.getElem?_cons_succ, List.getElem_cons_succ]
      exact this
theorem flatC_len (L : List (ByteArray × Bool)) : (flatC L).length = L.length * 2 := by
  induction L with
  | nil => rfl
  | cons s L ih => simp only [flatC, List.flatMap_cons, List.length_append, List.length_cons] at *; rw [ih]; simp; omega
theorem CkO.next {w w' : World} {B : Nat} {v : Value} {L : List (ByteArray × Bool)} (h : CkO w B v L) (hb : Below w.heap.size w w') : CkO w' B v L := own_next h hb
theorem CkO.form {w : World} {B : Nat} {v : Value} {L : List (ByteArray × Bool)} (h : CkO w B v L) : ∃ a c, v = .slice a L.length c := by
  rcases h.2 with ⟨rfl, hl⟩ | ⟨g, cap, cur, rfl, _⟩
  · exact ⟨none, 0, by rw [hl]⟩
  · exact ⟨_, _, rfl⟩
theorem CkO.cell {w : World} {B n c : Nat} {a : Option Addr} {L : List (ByteArray × Bool)} (h : CkO w B (.slice a n c) L) (k : Nat) (hk : k < L.length) : ∃ g, a = some ⟨g, 0, none⟩ ∧ B ≤ g ∧ w.cell? ⟨g, k * 2, none⟩ = some (.string L[k].1) ∧ w.cell? ⟨g, k * 2 + 1, none⟩ = some (.bool L[k].2) := by
  rcases h.2 with ⟨hv, hl⟩ | ⟨g, cap, cur, hv, hg, _⟩
  · omega
  · have h2 := h
    obtain ⟨f0, f1⟩ := flatC_at L k hk
    cases hv
    have hc := World.ownsRow.cells h (g := g) rfl
    have add : ∀ j, (⟨g, 0, none⟩ : Addr).add j = ⟨g, j, none⟩ := fun j => by unfold Addr.add; split <;> simp_all
    have r0 := hc _ _ f0
    have r1 := hc _ _ f1
    rw [add] at r0 r1
    exact ⟨g, rfl, hg, r0, r1⟩
/-- How two rows of chunks stand. -/
def lexK : List (ByteArray × Bool) → List (ByteArray × Bool) → Int
  | [], [] => 0
  | [], _ :: _ => -1
  | _ :: _, [] => 1
  | a :: x, b :: y => if cmpK a b ≠ 0 then cmpK a b else lexK x y
def SzC (L : List (ByteArray × Bool)) : Prop := ∀ (k : Nat) (h : k < L.length), L[k].1.size ≤ maxLen
set_option maxRecDepth 100000 in
set_option maxHeartbeats 4000000 in
theorem cmpfunc_any (v1 v2 : Value) (L1 L2 : List (ByteArray × Bool)) (hn1 : L1.length ≤ 100000) (hn2 : L2.length ≤ 100000) (hz1 : SzC L1) (hz2 : SzC L2) (w : World) (h1 : CkO w 0 v1 L1) (h2 : CkO w 0 v2 L2) :
    Calls Tryd.prog 29 #[v1, v2, .func (.func 30) #[] #[]] w fun e w' => e = .returned (.int .i64 (lexK L1 L2)) ∧ Below w.heap.size w w' := by
  obtain ⟨a1, c1, rfl⟩ := h1.form
  obtain ⟨a2, c2, rfl⟩ := h2.form
  have H1 := Hid.mk' (And.intro h1 h2)
  have HZ := Hid.mk' (And.intro hz1 hz2)
  clear h1 h2 hz1 hz2
  go_enter Tryd.func29, Tryd.ntmps29
  go_wp2_with fail
  go_loopw [13] (fun i wr => ∃ k : Nat, i = .int .i64 k ∧ k ≤ L1.length ∧ k ≤ L2.length ∧ Hid (Below w.heap.size w wr) ∧ Hid (lexK (L1.drop k) (L2.drop k) = lexK L1 L2)) (fun i _ => L1.length - (intOf i).toNat)
  case atStart => exact ⟨0, rfl, by omega, by omega, Hid.mk' (Below.refl _ _), Hid.mk' (by simp)⟩
  case round =>
    obtain ⟨k, rfl, hk1, hk2, HB, HR⟩ := hrel
    by_cases h1 : k < L1.length
    · obtain ⟨g1, rfl, _, r0, r1⟩ := (H1.out.1.next HB.out).cell k h1
      by_cases h2 : k < L2.length
      · obtain ⟨g2, rfl, _, s0, s1⟩ := (H1.out.2.next HB.out).cell k h2
        have C := Hid.mk' (fun W => cmpk_any L1[k] L2[k] (HZ.out.1 k h1) (HZ.out.2 k h2) W)
        have HR2 := Hid.mk' (show lexK (L1[k] :: L1.drop (k + 1)) (L2[k] :: L2.drop (k + 1)) = lexK L1 L2 by rw [← List.drop_eq_getElem_cons h1, ← List.drop_eq_getElem_cons h2]; exact HR.out)
        clear HR
        have hi1 : (k : Int) < (L1.length : Int) := by omega
        have hi2 : (k : Int) < (L2.length : Int) := by omega
        generalize L1[k] = p at *
        generalize L2[k] = q at *
        obtain ⟨p1, p2⟩ := p
        obtain ⟨q1, q2⟩ := q
        dsimp only at *
        have s0' := cell_al (.cells #[.string p1, .bool p2] 27) s0
        have s1' := cell_al (.cells #[.string p1, .bool p2] 27) s1
        have HA := Hid.mk' (show Below w.heap.size w ((wr.alloc (.cells #[.string p1, .bool p2] 27)).alloc (.cells #[.string q1, .bool q2] 27)) from (HB.out.alloc HB.out.size _).alloc (by have := HB.out.size; simp; omega) _)
        clear s0 s1
        go_wp2_with fail
        refine (C.out _).mono ?_; rintro e w4 ⟨rfl, hb4⟩
        have HB4 := Hid.mk' (bnext HA.out hb4)
        by_cases hz : cmpK (p1, p2) (q1, q2) = 0
        · have HR3 := Hid.mk' (show lexK (L1.drop (k + 1)) (L2.drop (k + 1)) = lexK L1 L2 by have h := HR2.out; rw [lexK, if_neg (by simpa using hz)] at h; exact h)
          clear hb4 C HR2 r0 r1 s0' s1' HA
          rw [hz]
          go_wp2_with fail
          go_roundw
          case rel => exact ⟨k + 1, by go_num, by omega, by omega, HB4, HR3⟩
          case measure => simp [intOf]; omega
        · have HR3 := Hid.mk' (show cmpK (p1, p2) (q1, q2) = lexK L1 L2 by have h := HR2.out; rw [lexK, if_pos (by simpa using hz)] at h; exact h)
          clear hb4 C HR2 r0 r1 s0' s1' HA
          generalize cmpK (p1, p2) (q1, q2) = z at *
          have hz2 : (z != 0) = true := by simp [hz]
          clear hz
          go_wp2_with fail
          go_ret
          exact ⟨ret_i HR3.out, HB4.out⟩
      · have HR3 := Hid.mk' (show (1 : Int) = lexK L1 L2 by
          have h := HR.out
          rw [List.drop_eq_getElem_cons h1, List.drop_of_length_le (by omega : L2.length ≤ k), lexK] at h
          exact h)
        have hi1 : (k : Int) < (L1.length : Int) := by omega
        have hi2 : ¬ (k : Int) < (L2.length : Int) := by omega
        have HA := Hid.mk' (show Below w.heap.size w (wr.alloc (.cells #[.string L1[k].1, .bool L1[k].2] 27)) from (HB.out.alloc HB.out.size _))
        generalize L1[k] = p at *
        obtain ⟨p1, p2⟩ := p
        dsimp only at *
        clear HR
        go_wp2_with fail
        go_ret
        exact ⟨ret_i HR3.out, HA.out⟩
    · by_cases h2 : k < L2.length
      · have HR3 := Hid.mk' (show (-1 : Int) = lexK L1 L2 by
          have h := HR.out
          rw [List.drop_eq_getElem_cons h2, List.drop_of_length_le (by omega : L1.length ≤ k), lexK] at h
          exact h)
        have hi1 : ¬ (k : Int) < (L1.length : Int) := by omega
        have hi2 : (L1.length : Int) < (L2.length : Int) := by omega
        clear HR
        go_wp2_with fail
        go_ret
        exact ⟨ret_i HR3.out, HB.out⟩
      · have HR3 := Hid.mk' (show (0 : Int) = lexK L1 L2 by
          have h := HR.out
          rw [List.drop_of_length_le (by omega : L1.length ≤ k), List.drop_of_length_le (by omega : L2.length ≤ k), lexK] at h
          exact h)
        have hi1 : ¬ (k : Int) < (L1.length : Int) := by omega
        have hi2 : ¬ (L1.length : Int) < (L2.length : Int) := by omega
        clear HR
        go_wp2_with fail
        go_ret
        exact ⟨ret_i HR3.out, HB.out⟩
/-- How two weighed texts stand. -/
def cmpW (a b : ByteArray × List (ByteArray × Bool)) : Int := orI (lexK a.2 b.2) (cmpS a.1 b.1)
set_option maxRecDepth 100000 in
set_option maxHeartbeats 4000000 in
theorem compare_any (a b : ByteArray × List (ByteArray × Bool)) (v1 v2 : Value) (hn1 : a.2.length ≤ 100000) (hn2 : b.2.length ≤ 100000) (hz1 : SzC a.2) (hz2 : SzC b.2) (w : World) (h1 : CkO w 0 v1 a.2) (h2 : CkO w 0 v2 b.2) :
    Calls Tryd.prog 21 #[.agg #[.string a.1, v1], .agg #[.string b.1, v2]] w fun e w' => e = .returned (.int .i64 (cmpW a b)) ∧ Below w.heap.size w w' := by
  obtain ⟨sa, la⟩ := a
  obtain ⟨sb, lb⟩ := b
  dsimp only at *
  obtain ⟨a1, c1, hv1⟩ := h1.form
  obtain ⟨a2, c2, hv2⟩ := h2.form
  have hbel : Below w.heap.size w ((w.alloc (.cells #[.string sa, v1] 46)).alloc (.cells #[.string sb, v2] 46)) := ((Below.refl _ _).alloc (Nat.le_refl _) _).alloc (by simp) _
  have HB := Hid.mk' hbel
  have HV := Hid.mk' (show orI (lexK la lb) (cmpS sa sb) = cmpW (sa, la) (sb, lb) from rfl)
  have c := (cmps_any sa sb)
  have c1 := fun W hW1 hW2 => (cmpfunc_any v1 v2 la lb hn1 hn2 hz1 hz2 W hW1 hW2)
  generalize cmpS sa sb = y at *
  generalize lexK la lb = x at *
  have co := (fun g => or_any g x y)
  generalize orI x y = z at *
  have C := Hid.mk' (fun (W : World) (hW : W.cell? ⟨w.heap.size, 0, none⟩ = some (.string sa) ∧ W.cell? ⟨w.heap.size, 1, none⟩ = some v1 ∧ W.cell? ⟨w.heap.size + 1, 0, none⟩ = some (.string sb) ∧ W.cell? ⟨w.heap.size + 1, 1, none⟩ = some v2 ∧ Hid (Below w.heap.size w W)) => (c W).mono (R' := fun e w' => e = .returned (.int .i64 y) ∧ w'.cell? ⟨w.heap.size, 0, none⟩ = some (.string sa) ∧ w'.cell? ⟨w.heap.size, 1, none⟩ = some v1 ∧ w'.cell? ⟨w.heap.size + 1, 0, none⟩ = some (.string sb) ∧ w'.cell? ⟨w.heap.size + 1, 1, none⟩ = some v2 ∧ Hid (Below w.heap.size w w')) (fun _ _ ⟨a, b⟩ => by subst b; exact ⟨a, hW⟩))
  have cellb : ∀ {W W' : World} {p : Addr} {v : Value}, Below W.heap.size W W' → W.cell? p = some v → W'.cell? p = some v := fun hb h => by rw [hb.cell (World.block_lt_of_cell? _ _ h)]; exact h
  have C1 := Hid.mk' (fun (W : World) (hW : W.cell? ⟨w.heap.size, 0, none⟩ = some (.string sa) ∧ W.cell? ⟨w.heap.size, 1, none⟩ = some v1 ∧ W.cell? ⟨w.heap.size + 1, 0, none⟩ = some (.string sb) ∧ W.cell? ⟨w.heap.size + 1, 1, none⟩ = some v2 ∧ Hid (Below w.heap.size w W)) => (c1 W (h1.next hW.2.2.2.2.out) (h2.next hW.2.2.2.2.out)).mono (R' := fun e w' => e = .returned (.int .i64 x) ∧ w'.cell? ⟨w.heap.size, 0, none⟩ = some (.string sa) ∧ w'.cell? ⟨w.heap.size, 1, none⟩ = some v1 ∧ w'.cell? ⟨w.heap.size + 1, 0, none⟩ = some (.string sb) ∧ w'.cell? ⟨w.heap.size + 1, 1, none⟩ = some v2 ∧ Hid (Below w.heap.size w w')) (fun _ _ ⟨a, b⟩ => ⟨a, cellb b hW.1, cellb b hW.2.1, cellb b hW.2.2.1, cellb b hW.2.2.2.1, Hid.mk' (bnext hW.2.2.2.2.out b)⟩))
  have CO := Hid.mk' co
  have SK := Hid.mk' (fun (W : World) (o : Obj) (hW : W.cell? ⟨w.heap.size, 0, none⟩ = some (.string sa) ∧ W.cell? ⟨w.heap.size, 1, none⟩ = some v1 ∧ W.cell? ⟨w.heap.size + 1, 0, none⟩ = some (.string sb) ∧ W.cell? ⟨w.heap.size + 1, 1, none⟩ = some v2 ∧ Hid (Below w.heap.size w W)) => (show (W.alloc o).cell? ⟨w.heap.size, 0, none⟩ = some (.string sa) ∧ (W.alloc o).cell? ⟨w.heap.size, 1, none⟩ = some v1 ∧ (W.alloc o).cell? ⟨w.heap.size + 1, 0, none⟩ = some (.string sb) ∧ (W.alloc o).cell? ⟨w.heap.size + 1, 1, none⟩ = some v2 ∧ Hid (Below w.heap.size w (W.alloc o)) from ⟨cell_al _ hW.1, cell_al _ hW.2.1, cell_al _ hW.2.2.1, cell_al _ hW.2.2.2.1, Hid.mk' (hW.2.2.2.2.out.alloc hW.2.2.2.2.out.size _)⟩))
  clear c c1 co h1 h2 cellb hz1 hz2 hbel
  generalize la.length = n1 at *
  generalize lb.length = n2 at *
  subst hv1
  subst hv2
  go_enter Tryd.func21, Tryd.ntmps21
  go_wp2_with fail
  have hs : ((w.alloc (.cells #[.string sa, .slice a1 n1 c1] 46)).alloc (.cells #[.string sb, .slice a2 n2 c2] 46)).cell? ⟨w.heap.size, 0, none⟩ = some (.string sa) ∧ ((w.alloc (.cells #[.string sa, .slice a1 n1 c1] 46)).alloc (.cells #[.string sb, .slice a2 n2 c2] 46)).cell? ⟨w.heap.size, 1, none⟩ = some (.slice a1 n1 c1) ∧ ((w.alloc (.cells #[.string sa, .slice a1 n1 c1] 46)).alloc (.cells #[.string sb, .slice a2 n2 c2] 46)).cell? ⟨w.heap.size + 1, 0, none⟩ = some (.string sb) ∧ ((w.alloc (.cells #[.string sa, .slice a1 n1 c1] 46)).alloc (.cells #[.string sb, .slice a2 n2 c2] 46)).cell? ⟨w.heap.size + 1, 1, none⟩ = some (.slice a2 n2 c2) := by simp
  obtain ⟨hs0, hs1, hs2, hs3⟩ := hs
  go_region_held3 (fun W => W.cell? ⟨w.heap.size, 0, none⟩ = some (.string sa) ∧ W.cell? ⟨w.heap.size, 1, none⟩ = some (.slice a1 n1 c1) ∧ W.cell? ⟨w.heap.size + 1, 0, none⟩ = some (.string sb) ∧ W.cell? ⟨w.heap.size + 1, 1, none⟩ = some (.slice a2 n2 c2) ∧ Hid (Below w.heap.size w W))
    (first | assumption | exact ⟨hs0, hs1, hs2, hs3, Hid.mk' HB.out.drew⟩ | (refine ⟨?_, ?_, ?_, ?_, ?_⟩ <;> assumption) | exact SK.out _ _ (by assumption))
    ((first | (go_at_call 29; with_reducible refine (C1.out _ (by assumption)).mono ?_; rintro e w6 ⟨rfl, k0, k1, k2, k3, k4⟩) | (go_at_call 31; with_reducible refine (C.out _ (by assumption)).mono ?_; rintro e w7 ⟨rfl, k0, k1, k2, k3, k4⟩) | (go_at_call 28; refine (CO.out _ _ (by simp) (by simp)).mono ?_; rintro e w8 ⟨rfl, rfl⟩)))
  all_goals
    clear hs0 hs1 hs2 hs3
    go_wp2_with fail
    go_ret
    exact ⟨ret_i HV.out, by have := k4.out; first | exact this.alloc this.size _ | exact this.drew.alloc this.size _ | exact (this.alloc this.size _).drew | exact this⟩
end Go.Proofs.YtdckdhbnfakleaaDoor
