/- Layer 43 (pick): needs cloned; Plan. -/
import Derived.Test.YtkkhljneeajkmaaP5
import Derived.Laws.AppendOwnNone
namespace Go.Proofs.Ytkkhljneeajkmaa
open Go.RowKit

theorem addn (b off j : Nat) : (⟨b, off, none⟩ : Addr).add j = ⟨b, off + j, none⟩ := by unfold Addr.add; split <;> simp_all
theorem flatN_one (L : List Nd) : ∀ u ∈ flatN L, u.oneCell' = true := by
  intro u hu
  simp only [flatN, List.mem_flatMap] at hu
  obtain ⟨x, _, hx⟩ := hu
  simp at hx
  rcases hx with rfl | rfl | rfl <;> rfl
theorem flatN_snoc (L : List Nd) (x : Nd) : flatN (L ++ [x]) = flatN L ++ [.int .i64 x.last, .int .i64 x.waste, .int .i64 x.waiting] := by simp [flatN]
/-- append of what reads as needs onto a new row. -/
theorem wpList_app0 {w : World} {ops : Array Oper} {rest : List Oper} {o : Oper} {a : Act} {Q : Exit → Act → World → Prop} (hgd : o.guard = none) (s x : Operand)
    (ho : o.op = .call { callee := .builtin .append, args := #[s, x], argTypes := #[40, 40] })
    (base : Nat) (v vx : Value) (L : List Nd) (hs : a.eval s = v) (hx : a.eval x = vx) (hown : NO w base v []) (hbs : NI w vx L) (hm : L.length ≤ 100000) (hbase : base ≤ w.heap.size)
    (h : ∀ v' w', NO w' base v' L → w.grownBy w' v.ownBlock → wpList Try.prog ops Q rest (a.put o.dst v') w') : wpList Try.prog ops Q (o :: rest) a w := by
  obtain ⟨i0, hi, hz0, hz1, hz2⟩ := info_parts n_info
  obtain ⟨ax, cap, rfl, hle, hn, hc⟩ := hbs
  cases ax with
  | none =>
    have hc0 := hn rfl
    have hl : L = [] := by apply List.eq_nil_of_length_eq_zero; omega
    subst hl
    subst hc0
    refine wpList_append_own_none hgd s x 40 ho base 45 i0 3 Try.underlying40 hi v 0 [] hs hown hx ?_
    exact h v w hown ⟨rfl, rfl, rfl, Nat.le_refl _, fun _ _ _ => rfl⟩
  | some ad =>
    refine wpList_append_own _ hgd s x 40 ho base 45 i0 _ 3 24 Try.underlying40 hi hz0 hz1 hz2 rfl (by decide) v 0 [] hs hown ad L.length cap (flatN L) hx (by rw [flatN_len]) ?_ (flatN_one L) (by unfold maxLen; omega) (by omega) hbase ?_
    · intro j u hu
      have hj : j < L.length * 3 := by have := (List.getElem?_eq_some_iff.1 hu).1; rwa [flatN_len] at this
      obtain ⟨b, off, hab, hcell⟩ := hc (fun e => by rw [e] at hj; simp at hj)
      cases hab
      have hi3 : j / 3 < L.length := by omega
      obtain ⟨f0, f1, f2⟩ := flatN_at L (j / 3) hi3
      obtain ⟨g0, g1, g2⟩ := hcell (j / 3) hi3
      rw [addn]
      rcases (show j = j / 3 * 3 ∨ j = j / 3 * 3 + 1 ∨ j = j / 3 * 3 + 2 from by omega) with e | e | e
      · rw [← e] at f0 g0
        rw [f0] at hu; cases hu; exact g0
      · rw [← e] at f1
        rw [Nat.add_assoc, ← e] at g1
        rw [f1] at hu; cases hu; exact g1
      · rw [← e] at f2
        rw [Nat.add_assoc, ← e] at g2
        rw [f2] at hu; cases hu; exact g2
    · intro v' w' hown' hgr' _
      refine h v' w' ?_ hgr'
      unfold NO
      simpa using hown'
theorem NI.form {w : World} {v : Value} {L : List Nd} (h : NI w v L) : ∃ a cap, v = .slice a L.length cap := by
  obtain ⟨a, cap, hv, _⟩ := h
  exact ⟨a, cap, hv⟩
theorem NO.form {w : World} {B : Nat} {v : Value} {L : List Nd} (h : NO w B v L) : ∃ a cap, v = .slice a L.length cap := h.in_.form
theorem no_made (w : World) : NO (w.alloc (.cells #[] 45)) w.heap.size (.slice (some ⟨w.heap.size, 0, none⟩) 0 0) [] := World.ownsRow_made w #[] 0 (Nat.le_refl _) (by unfold maxLen; omega) rfl
set_option maxRecDepth 100000 in
theorem nclone_any (v : Value) (L : List Nd) (hm : L.length ≤ 100000) (w : World) (h : NI w v L) :
    Calls Try.prog 62 #[v] w fun e w' => ∃ v, e = .returned v ∧ NO w' w.heap.size v L ∧ Below w.heap.size w w' := by
  have HN := Lib.hid h
  obtain ⟨a, cap, rfl, hle, hn, hc⟩ := h
  clear hc
  cases a with
  | none =>
    have hc0 := hn rfl
    have hl : L = [] := by apply List.eq_nil_of_length_eq_zero; omega
    subst hl
    subst hc0
    have hnil : ∀ w, (binOp .eql 40 (.slice none 0 0) (.slice none 0 0)).run Try.prog w = .ok (.bool true) w := fun w : World => Lib.run_eql_slice_nil (P := Try.prog) w 40 45 none 0 0 0 0 Try.underlying40
    rw [show ([] : List Nd).length = 0 from rfl]
    clear hm HN hle hn
    go_enter Try.func62, Try.ntmps62
    go_wp2_with fail
    go_ret
    exact ⟨_, rfl, ⟨rfl, .inl ⟨rfl, rfl⟩⟩, Below.refl _ _⟩
  | some ad =>
    have hnil : ∀ w, (binOp .eql 40 (.slice (some ad) L.length cap) (.slice none 0 0)).run Try.prog w = .ok (.bool false) w := fun w : World => Lib.run_eql_slice_nil (P := Try.prog) w 40 45 (some ad) _ cap 0 0 Try.underlying40
    go_enter Try.func62, Try.ntmps62
    go_wp2_with (at_builtin; refine wpList_app0 rfl (.tmp 5) (.tmp 6) rfl w.heap.size _ _ L rfl rfl (no_made w) (HN.out.next ((Below.refl _ _).alloc (Nat.le_refl _) _)) hm (by rw [World.size_alloc]; omega) ?_)
    intro v1 w1 hown1 hgr1
    have hb1 : Below w.heap.size w w1 := ((Below.refl _ w).alloc (Nat.le_refl _) _).grown hgr1 (by simp) (fun k hk => by cases hk; exact Nat.le_refl _)
    have hO := Lib.hid hown1
    clear hown1 hgr1 hnil hn
    go_wp2_with fail
    go_ret
    exact ⟨_, rfl, hO.out, hb1⟩
theorem flatN_set (L : List Nd) : ∀ (j : Nat) (d : Nd) (_ : j < L.length), (((flatN L).set (j * 3) (.int .i64 d.last)).set (j * 3 + 1) (.int .i64 d.waste)).set (j * 3 + 2) (.int .i64 d.waiting) = flatN (L.set j d) := by
  induction L with
  | nil => intro j d h; simp at h
  | cons s L ih =>
    intro j d h
    have e : flatN (s :: L) = .int .i64 s.last :: .int .i64 s.waste :: .int .i64 s.waiting :: flatN L := by simp [flatN]
    cases j with
    | zero => simp [flatN]
    | succ j =>
      have := ih j d (by simpa using h)
      rw [e, show (j + 1) * 3 = j * 3 + 1 + 1 + 1 from by omega]
      simp only [List.set_cons_succ]
      rw [this]
      simp [flatN]
/-- A need is written into its place. -/
theorem NO.put {w : World} {B g cap n : Nat} {L : List Nd} (h : NO w B (.slice (some ⟨g, 0, none⟩) n cap) L) (j : Nat) (hj : j < L.length) (x y z : Int) :
    NO (((w.setCell ⟨g, j * 3, none⟩ (.int .i64 x)).setCell ⟨g, j * 3 + 1, none⟩ (.int .i64 y)).setCell ⟨g, j * 3 + 2, none⟩ (.int .i64 z)) B (.slice (some ⟨g, 0, none⟩) n cap) (L.set j ⟨x, y, z⟩) := by
  have hn : n = L.length := by
    rcases h.2 with ⟨hv, _⟩ | ⟨g', cap', cur, hv, _⟩
    · cases hv
    · cases hv; rfl
  subst hn
  have := (World.ownsRow.stored (World.ownsRow.stored (World.ownsRow.stored h (j * 3) (.int .i64 x)).1 (j * 3 + 1) (.int .i64 y)).1 (j * 3 + 2) (.int .i64 z)).1
  unfold NO
  rw [List.length_set, ← flatN_set L j ⟨x, y, z⟩ hj]
  exact this
theorem NO.at_ {w : World} {B n cap : Nat} {a : Option Addr} {L : List Nd} (h : NO w B (.slice a n cap) L) (j : Nat) (hj : j < L.length) :
    ∃ g, a = some ⟨g, 0, none⟩ ∧ B ≤ g ∧ g < w.heap.size ∧ (∃ u0 u1 u2, w.cell? ⟨g, j * 3, none⟩ = some u0 ∧ w.cell? ⟨g, j * 3 + 1, none⟩ = some u1 ∧ w.cell? ⟨g, j * 3 + 2, none⟩ = some u2) ∧ (∀ i, w.frozen? ⟨g, i, none⟩ = false) := by
  rcases h.2 with ⟨hv, h0⟩ | ⟨g, cap', cur, hv, hB, hg, hc, hm, hs, ht⟩
  · omega
  · cases hv
    obtain ⟨f0, f1, f2⟩ := flatN_at L j hj
    have r0 := World.ownsRow.cellAt h (j * 3) (by omega)
    have r1 := World.ownsRow.cellAt h (j * 3 + 1) (by omega)
    have r2 := World.ownsRow.cellAt h (j * 3 + 2) (by omega)
    rw [f0] at r0
    rw [f1] at r1
    rw [f2] at r2
    exact ⟨g, rfl, hB, (Array.getElem?_eq_some_iff.1 hg).1, ⟨_, _, _, r0, r1, r2⟩, fun i => World.ownsRow.frozenAt h i⟩
end Go.Proofs.Ytkkhljneeajkmaa
