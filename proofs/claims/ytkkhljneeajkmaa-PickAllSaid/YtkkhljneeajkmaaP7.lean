/- Layer 43 (pick): Plan. -/
import Derived.Test.YtkkhljneeajkmaaP6
namespace Go.Proofs.Ytkkhljneeajkmaa
open Go.RowKit

/-- The places of a plan as ints. -/
def zz (l : List Nat) : List Int := l.map (fun (n : Nat) => (n : Int))
theorem zz_len (l : List Nat) : (zz l).length = l.length := by simp [zz]
theorem zz_snoc (l : List Nat) (j : Nat) : zz (l ++ [j]) = zz l ++ [(j : Int)] := by simp [zz]
/-- The whole plan. -/
def planI (frm to each most : Int) (L : List Nd) : List Nat := planS (max (tkI each) 1) (tkI to) most L.length 1000 (nd L) (tkI frm) []
theorem plan_stop (step fin most : Int) (n k : Nat) (f : Nat → Nd) (t : Int) (acc : List Nat) (h : fin ≤ t ∨ most ≤ acc.length) : planS step fin most n k f t acc = acc := by
  cases k with
  | zero => rfl
  | succ k => unfold planS; rw [if_pos h]
theorem plan_go (step fin most : Int) (n k : Nat) (f : Nat → Nd) (t : Int) (acc : List Nat) (j : Nat) (h : ¬ (fin ≤ t ∨ most ≤ acc.length)) (hn : nxt t f n = some j) : planS step fin most n (k + 1) f t acc = planS step fin most n k (upd f j ⟨t, 0, 0⟩) (t + step) (acc ++ [j]) := by
  conv => lhs; unfold planS
  rw [if_neg h, hn]
theorem plan_wait (step fin most : Int) (n k : Nat) (f : Nat → Nd) (t : Int) (acc : List Nat) (h : ¬ (fin ≤ t ∨ most ≤ acc.length)) (hn : nxt t f n = none) : planS step fin most n (k + 1) f t acc = planS step fin most n k f (t + step) acc := by
  conv => lhs; unfold planS
  rw [if_neg h, hn]
/-- What holds while a plan is made: k rounds are done. -/
structure PS (w : World) (B : Nat) (step fin most : Int) (n : Nat) (R : List Nat) (W : World) (vn vp : Value) (k : Nat) (t : Int) (L : List Nd) (acc : List Nat) : Prop where
  own : NO W B vn L
  row : IO W B vp (zz acc)
  bel : Below w.heap.size w W
  lo : w.heap.size ≤ B
  len : L.length = n
  cnt : acc.length ≤ k
  few : k ≤ 1000
  tl : 0 ≤ t
  th : t ≤ 2199023255552
  eq : planS step fin most n (1000 - k) (nd L) t acc = R
theorem PS.next {w W W' : World} {B n k : Nat} {step fin most t : Int} {R acc : List Nat} {vn vp : Value} {L : List Nd} (h : PS w B step fin most n R W vn vp k t L acc) (hb : Below W.heap.size W W') : PS w B step fin most n R W' vn vp k t L acc :=
  ⟨h.own.next hb, h.row.next hb, bnext h.bel hb, h.lo, h.len, h.cnt, h.few, h.tl, h.th, h.eq⟩
theorem PS.done {w W : World} {B n k : Nat} {step fin most t : Int} {R acc : List Nat} {vn vp : Value} {L : List Nd} (h : PS w B step fin most n R W vn vp k t L acc) (hs : k = 1000 ∨ fin ≤ t ∨ most ≤ acc.length) : acc = R := by
  rw [← h.eq]
  rcases hs with hs | hs
  · subst hs; rfl
  · rw [plan_stop _ _ _ _ _ _ _ _ hs]
theorem PS.wait {w W : World} {B n k : Nat} {step fin most t : Int} {R acc : List Nat} {vn vp : Value} {L : List Nd} (h : PS w B step fin most n R W vn vp k t L acc) (hk : k < 1000) (hn : nxL t L = none) (hs : ¬ (fin ≤ t ∨ most ≤ acc.length)) (hf : fin ≤ 1099511627776) (hst : 1 ≤ step ∧ step ≤ 1099511627776) : PS w B step fin most n R W vn vp (k + 1) (t + step) L acc := by
  refine ⟨h.own, h.row, h.bel, h.lo, h.len, by have := h.cnt; omega, by omega, by have := h.tl; omega, by omega, ?_⟩
  rw [← h.eq, show 1000 - k = (1000 - (k + 1)) + 1 from by omega]
  unfold nxL at hn
  rw [h.len] at hn
  exact (plan_wait _ _ _ _ _ _ _ _ hs hn).symm
/-- One is repaired: its need is written, its place is told. -/
theorem PS.step {w W W' : World} {B n k : Nat} {step fin most t : Int} {R acc : List Nat} {vn vp vp' : Value} {L : List Nd} {j : Nat} (h : PS w B step fin most n R W vn vp k t L acc) (hk : k < 1000) (hn : nxL t L = some j) (hs : ¬ (fin ≤ t ∨ most ≤ acc.length)) (hf : fin ≤ 1099511627776) (hst : 1 ≤ step ∧ step ≤ 1099511627776)
    (ho : NO W' B vn (L.set j ⟨t, 0, 0⟩)) (hr : IO W' B vp' (zz acc ++ [(j : Int)])) (hb : Below w.heap.size w W') : PS w B step fin most n R W' vn vp' (k + 1) (t + step) (L.set j ⟨t, 0, 0⟩) (acc ++ [j]) := by
  refine ⟨ho, by rw [zz_snoc]; exact hr, hb, h.lo, by rw [List.length_set]; exact h.len, by have := h.cnt; simp; omega, by omega, by have := h.tl; omega, by omega, ?_⟩
  have hj : j < L.length := nxt_lt _ _ _ _ hn
  rw [← h.eq, show 1000 - k = (1000 - (k + 1)) + 1 from by omega, nd_set L j _ hj]
  unfold nxL at hn
  rw [h.len] at hn
  exact (plan_go _ _ _ _ _ _ _ _ _ hs hn).symm
theorem below_own {w0 W W' : World} {B : Nat} {v : Value} {l : List Int} (h : Below w0.heap.size w0 W) (hO : IO W B v l) (hB : w0.heap.size ≤ B) (hg : W.grownBy W' v.ownBlock) : Below w0.heap.size w0 W' :=
  h.grown hg h.size (fun k hk => Nat.le_trans hB (World.ownsRow.lt hO k hk).1)
theorem wpList_appG {X : World} {ops : Array Oper} {rest : List Oper} {o : Oper} {a : Act} {Q : Exit → Act → World → Prop} (hgd : o.guard = none) (s x : Operand)
    (ho : o.op = .call { callee := .builtin .append, args := #[s, x], argTypes := #[41, 41] }) (g : Nat) (hgs : X.heap.size = g)
    (base : Nat) (v : Value) (L : List Int) (p : Int) (hs : a.eval s = v) (hx : a.eval x = .slice (some ⟨g, 0, none⟩) 1 1) (hown : IO X base v L) (hm : L.length ≤ 100000) (hbase : base ≤ X.heap.size)
    (h : ∀ v' w', IO w' base v' (L ++ [p]) → X.grownBy w' v.ownBlock → wpList Try.prog ops Q rest (a.put o.dst v') w') : wpList Try.prog ops Q (o :: rest) a (X.alloc (.cells #[.int .i64 p] 3)) := by
  subst hgs
  exact wpList_appI hgd s x ho base v L p hs hx hown hm hbase h
/-- Three cells of a need's row are written. -/
theorem NO.wrote {W : World} {B g cap n : Nat} {L : List Nd} (h : NO W B (.slice (some ⟨g, 0, none⟩) n cap) L) {w0 : World} (hb : Below w0.heap.size w0 W) (hB : w0.heap.size ≤ g) {Bp : Nat} {vp : Value} {l : List Int} (hp : IO W Bp vp l) (i1 i2 i3 : Nat) (u1 u2 u3 : Value) :
    Below w0.heap.size w0 (((W.setCell ⟨g, i1, none⟩ u1).setCell ⟨g, i2, none⟩ u2).setCell ⟨g, i3, none⟩ u3) ∧ IO (((W.setCell ⟨g, i1, none⟩ u1).setCell ⟨g, i2, none⟩ u2).setCell ⟨g, i3, none⟩ u3) Bp vp l := by
  refine ⟨((hb.setCell hB _).setCell hB _).setCell hB _, ?_⟩
  have hg : W.grownBy (((W.setCell ⟨g, i1, none⟩ u1).setCell ⟨g, i2, none⟩ u2).setCell ⟨g, i3, none⟩ u3) (some g) := gb_trans (gb_trans (gb_set _ _ _ _) (gb_set _ _ _ _)) (gb_set _ _ _ _)
  exact World.ownsRow.kept hp hg (own_apart hp h (by decide))
/-- What Plan answers. -/
def PlnR (R : List Nat) (B : Nat) (e : Ending) (w' : World) : Prop := ∃ v', e = .returned v' ∧ IO w' B v' (zz R)
set_option maxRecDepth 100000 in
set_option maxHeartbeats 16000000 in
theorem plan_any (frm to each most : Int) (v : Value) (L : List Nd) (hl : L.length ≤ 1000) (w : World) (h : NI w v L) :
    Calls Try.prog 24 #[.int .i64 frm, .int .i64 to, .int .i64 each, .int .i64 most, v] w fun e w' => PlnR (planI frm to each most L) w.heap.size e w' ∧ Below w.heap.size w w' := by
  have b1 := tk_bd frm
  have b2 := tk_bd to
  have b3 := tk_bd each
  have CL := Lib.hid (nclone_any v L (by omega) w h)
  have T1 := Lib.hid (fun W => tick_any frm W)
  have T2 := Lib.hid (fun W => tick_any to W)
  have T3 := Lib.hid (fun W => tick_any each W)
  unfold planI
  clear h
  generalize tkI frm = t0 at *
  generalize tkI to = fin at *
  generalize tkI each = ea at *
  have hst : 1 ≤ max ea 1 ∧ max ea 1 ≤ 1099511627776 := by omega
  generalize hq : planS (max ea 1) fin most L.length 1000 (nd L) t0 [] = R
  have HQ := Lib.hid hq
  clear hq
  go_enter Try.func24, Try.ntmps24
  go_wp2_with fail
  refine CL.out.mono ?_; rintro e w1 ⟨vn, rfl, hN1, hb1⟩
  obtain ⟨an, cn, rfl⟩ := hN1.form
  have HP := Lib.hid (show PS w w.heap.size (max ea 1) fin most L.length R w1 (.slice an L.length cn) (.slice none 0 0) 0 t0 L [] from ⟨hN1, io_nil _ _, hb1, Nat.le_refl _, rfl, by simp, by omega, by omega, by omega, HQ.out⟩)
  clear hN1 hb1 CL
  go_wp2_with fail
  refine (T1.out _).mono ?_; rintro e w2 ⟨rfl, rfl⟩
  go_wp2_with fail
  refine (T2.out _).mono ?_; rintro e w2 ⟨rfl, rfl⟩
  go_wp2_with fail
  refine (T3.out _).mono ?_; rintro e w2 ⟨rfl, rfl⟩
  go_wp2_with fail
  generalize hse : max ea 1 = step at *
  have HSE := Lib.hid hse
  clear hse
  go_loopg [12, 13, 27] 1000 (fun g v12 v13 v27 wr => ∃ (k : Nat) (vp : Value) (t : Int) (L' : List Nd) (acc : List Nat), v27 = .int .i64 k ∧ v13 = .int .i64 t ∧ v12 = vp ∧ k ≤ 1000 ∧ Hid (g = 1000 - k) ∧ Hid (PS w w.heap.size step fin most L.length R wr (.slice an L.length cn) vp k t L' acc))
  case atStart => exact ⟨0, _, _, L, [], rfl, by first | rfl | (congr 1), rfl, by omega, Lib.hid rfl, HP⟩
  case round =>
    obtain ⟨k, vp, t, L', acc, rfl, rfl, rfl, hk, HG, HS⟩ := hrel
    clear HP
    obtain ⟨ap, cp, rfl⟩ := HS.out.row.form
    by_cases hlt : k < 1000
    · have hi1 : (k : Int) < 1000 := by omega
      by_cases hst1 : fin ≤ t
      · have HR := Lib.hid (HS.out.done (.inr (.inl hst1)))
        go_wp2_with fail
        go_ret
        exact ⟨show PlnR R _ _ _ from ⟨_, rfl, by rw [← HR.out]; exact HS.out.row⟩, HS.out.bel⟩
      · have d1 : decide (fin ≤ t) = false := decide_eq_false hst1
        by_cases hst2 : most ≤ ((zz acc).length : Int)
        · have HR := Lib.hid (HS.out.done (.inr (.inr (by rw [zz_len] at hst2; exact hst2))))
          go_wp2_with fail
          go_ret
          exact ⟨show PlnR R _ _ _ from ⟨_, rfl, by rw [← HR.out]; exact HS.out.row⟩, HS.out.bel⟩
        · have d2 : decide (most ≤ ((zz acc).length : Int)) = false := decide_eq_false hst2
          have HNS := Lib.hid (show ¬ (fin ≤ t ∨ most ≤ (acc.length : Int)) from fun h => h.elim hst1 (fun h2 => hst2 (by rw [zz_len]; exact h2)))
          have HL' := Lib.hid HS.out.len
          have CN := Lib.hid (next_any t (.slice an L.length cn) L' (by rw [HL'.out]; omega) wr HS.out.own.in_)
          have htl := HS.out.tl
          have hth := HS.out.th
          have hsw : IntKind.i64.wrap (t + step) = t + step := IntWalk.i64_in _ (by omega)
          have HB := Lib.hid (And.intro b2.2 hst)
          clear b1 b2 b3
          go_wp2_with fail
          refine CN.out.mono ?_; rintro e w3 ⟨⟨x, s, rfl, hx⟩, hb3⟩
          have HS3 := Lib.hid (HS.out.next hb3)
          clear hb3 CN HS d1 d2
          rcases hx with ⟨hn, rfl, rfl⟩ | ⟨j, hn, rfl, rfl⟩
          · have HS4 := Lib.hid (HS3.out.wait hlt hn HNS.out HB.out.1 HB.out.2)
            clear hn
            go_wp2_with fail
            go_roundg (1000 - (k + 1))
            case measure => have := HG.out; omega
            case rel => exact ⟨k + 1, _, t + step, L', acc, by go_num, by go_num, rfl, by omega, Lib.hid rfl, HS4⟩
          · have hj : j < L'.length := nxt_lt _ _ _ _ hn
            have HN := Lib.hid hn
            clear hn
            have hj2 : (j : Int) < (L.length : Int) := by rw [HL'.out] at hj; omega
            obtain ⟨gn, hgn, hBg, hgh, ⟨u0, u1, u2, c0, c1, c2⟩, hfz⟩ := HS3.out.own.at_ j hj
            subst hgn
            have f0 := hfz (j * 3)
            have f1 := hfz (j * 3 + 1)
            have f2 := hfz (j * 3 + 2)
            have HW := Lib.hid (HS3.out.own.wrote HS3.out.bel hBg HS3.out.row (j * 3) (j * 3 + 1) (j * 3 + 2) (.int .i64 t) (.int .i64 0) (.int .i64 0))
            have HO := Lib.hid (HS3.out.own.put j hj t 0 0)
            have HJ := Lib.hid hj
            clear hfz hj hBg hgh
            go_wp2_with (at_builtin; refine wpList_appG rfl (.tmp 50) (.tmp 52) rfl w3.heap.size (by simp) w.heap.size _ (zz acc) (j : Int) rfl rfl HW.out.2 ?c1 ?c2 ?_)
            case c1 => rw [zz_len]; have := HS3.out.cnt; omega
            case c2 => exact HW.out.1.size
            intro v5 w5 hO5 hg5
            have HS5 := Lib.hid (HS3.out.step hlt HN.out HNS.out HB.out.1 HB.out.2 (World.ownsRow.kept HO.out hg5 (own_apart HO.out HW.out.2 (by decide))) hO5 (below_own HW.out.1 HW.out.2 (Nat.le_refl _) hg5))
            clear hO5 hg5 c0 c1 c2 f0 f1 f2
            go_wp2_with fail
            go_roundg (1000 - (k + 1))
            case measure => have := HG.out; omega
            case rel => exact ⟨k + 1, _, t + step, _, _, by go_num, by go_num, rfl, by omega, Lib.hid rfl, HS5⟩
    · have hi1 : ¬ (k : Int) < 1000 := by omega
      have HR := Lib.hid (HS.out.done (.inl (by omega)))
      go_wp2_with fail
      go_ret
      exact ⟨show PlnR R _ _ _ from ⟨_, rfl, by rw [← HR.out]; exact HS.out.row⟩, HS.out.bel⟩
end Go.Proofs.Ytkkhljneeajkmaa
