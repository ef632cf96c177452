/- Layer 3 (wire): slices.Equal, slices.Grow, slices.Concat at bytes. -/
import Derived.Test.YtljhnkcoknikgaaK2
import Derived.Deep.QuietTactic
import Derived.BigQuiet
import Derived.WalkSmall
namespace Go.Proofs.Ytljhnkcoknikgaa
open Go.RowKit

set_option maxHeartbeats 1000000 in
theorem equal_yes (v1 v2 : Value) (l : List UInt8) (hn : l.length ≤ 1000000) (w : World) (h1 : BS w v1 l) (h2 : BS w v2 l) :
    Calls Try.prog 43 #[v1, v2] w fun e w' => e = .returned (.bool true) ∧ Below w.heap.size w w' := by
  obtain ⟨a1, p1, rfl, q1, _, r1⟩ := h1
  obtain ⟨a2, p2, rfl, q2, _, r2⟩ := h2
  have hb : ((l.length : Int) != (l.length : Int)) = false := by simp
  go_enter Try.func43, Try.ntmps43
  go_wp2_with fail
  go_loopw [13] (fun i wr => ∃ k m : Nat, i = .int .i64 k ∧ k ≤ l.length ∧ wr = w.drewN m) (fun i _ => l.length - (intOf i).toNat)
  case atStart => exact ⟨0, 0, rfl, by omega, rfl⟩
  case round =>
    obtain ⟨k, m, rfl, hk, rfl⟩ := hrel
    by_cases hlt : k < l.length
    · have hne : l ≠ [] := fun e => by rw [e] at hlt; simp at hlt
      obtain ⟨b1, o1, rfl, c1⟩ := r1 hne
      obtain ⟨b2, o2, rfl, c2⟩ := r2 hne
      have e1 := c1 k hlt
      have e2 := c2 k hlt
      generalize (l[k].toNat : Int) = x at e1 e2
      have hx : (x != x) = false := by simp
      clear r1 r2 c1 c2 hne
      generalize l.length = n at *
      have hi : (k : Int) < (n : Int) := by omega
      go_wp2_with fail
      go_quiet (fail)
      go_wp2_with fail
      go_roundw
      case rel => exact ⟨k + 1, m + nq, by go_num, by omega, rfl⟩
      case measure => simp [intOf]; omega
    · go_wp2_with fail
      go_ret
      exact ⟨rfl, below_drewN (Below.refl _ _) _⟩

set_option maxRecDepth 100000 in
/-- slices.Grow of nil: an empty row of the call's own. -/
theorem grow_any (n : Nat) (hn : n ≤ 100000) (w : World) :
    Calls Try.prog 182 #[.slice none 0 0, .int .i64 n] w (Made w []) := by
  obtain ⟨i0, hi, hz0, hz1, hz2⟩ := info_parts b_info
  by_cases h0 : n = 0
  · subst h0
    go_enter Try.func182, Try.ntmps182
    go_wp2_with fail
    go_ret
    exact ⟨_, rfl, BO.nil _ _, Below.refl _ _⟩
  · have happ := Lib.run_append_nil_zeros (P := Try.prog) w 59 3 59 5 i0 (.int .u8 0) .i64 .i64 Try.underlying59 Try.underlying3 hi hz0 n (by omega) (by omega) (by omega) (by rw [hz2]; omega)
    have HA := Hid.mk' happ
    have hcg := grownCap_ge w n 0 5
    have hcm := grownCap_le_maxLen w n 0 5 (by unfold maxLen; omega)
    clear happ hi hz0 hz1 hz2
    have hpos : (0 : Int) < (n : Int) := by omega
    go_enter Try.func182, Try.ntmps182
    go_wp2_with (at_builtin; refine Lib.wpList_append_run _ rfl (.tmp 20) (.tmp 21) 59 3 rfl _ _ rfl rfl _ _ HA.out ?_)
    go_ret
    refine ⟨_, rfl, ?_, ((Below.refl _ _).alloc (Nat.le_refl _) _).drew⟩
    exact World.ownsRow.drew (World.ownsRow_made w _ _ (Nat.le_refl _) hcm (by simp [size_zeroCells]; omega))

/-- append of what reads as bytes onto a row of the call's own. -/
theorem wpList_append_bs {w : World} {ops : Array Oper} {rest : List Oper} {o : Oper} {a : Act} {Q : Exit → Act → World → Prop} (hgd : o.guard = none) (s x : Operand)
    (ho : o.op = .call { callee := .builtin .append, args := #[s, x], argTypes := #[59, 59] })
    (base : Nat) (v vx : Value) (l0 l : List UInt8) (hs : a.eval s = v) (hx : a.eval x = vx) (hown : BO w base v l0) (hbs : BS w vx l) (hm : l0.length + l.length ≤ 100000) (hbase : base ≤ w.heap.size)
    (h : ∀ v' w', BO w' base v' (l0 ++ l) → w.grownBy w' v.ownBlock → wpList Try.prog ops Q rest (a.put o.dst v') w') : wpList Try.prog ops Q (o :: rest) a w := by
  obtain ⟨i0, hi, hz0, hz1, hz2⟩ := info_parts b_info
  obtain ⟨ax, cap, rfl, hle, hn, hc⟩ := hbs
  cases ax with
  | none =>
    have hc0 := hn rfl
    have hl : l = [] := by apply List.eq_nil_of_length_eq_zero; omega
    subst hl
    subst hc0
    refine wpList_append_own_none hgd s x 59 ho base 5 i0 1 Try.underlying59 hi v l0.length (bv l0) hs hown hx ?_
    refine h v w ?_ ⟨rfl, rfl, rfl, Nat.le_refl _, fun _ _ _ => rfl⟩
    rw [List.append_nil]; exact hown
  | some ad =>
    refine wpList_append_own _ hgd s x 59 ho base 5 i0 _ 1 1 Try.underlying59 hi hz0 hz1 hz2 rfl (by decide) v l0.length (bv l0) hs hown ad l.length cap (bv l) hx (by rw [bv_len]; omega) ?_ (bv_one l) (by unfold maxLen; omega) (by omega) hbase ?_
    · intro j u hu
      have hj : j < l.length := by have := (List.getElem?_eq_some_iff.1 hu).1; rwa [bv_len] at this
      obtain ⟨b, off, hab, hcell⟩ := hc (fun e => by rw [e] at hj; simp at hj)
      cases hab
      rw [bv_at l j hj] at hu
      cases hu
      rw [addp]
      exact hcell j hj
    · intro v' w' hown' hgr' _
      refine h v' w' ?_ hgr'
      unfold BO
      rw [bv_app, List.length_append]
      exact hown'

theorem BS.form {w : World} {v : Value} {l : List UInt8} (h : BS w v l) : ∃ a cap, v = .slice a l.length cap := by
  obtain ⟨a, cap, hv, _⟩ := h
  exact ⟨a, cap, hv⟩
theorem BS.grown {w w' : World} {v : Value} {l : List UInt8} {B : Nat} {row : Option Nat} (h : BS w v l) (hg : w.grownBy w' row) (hr : ∀ k, row = some k → B ≤ k) (hB : ∀ a n c, v = .slice (some a) n c → a.block < B) : BS w' v l := by
  obtain ⟨a, cap, rfl, hl, hn, hc⟩ := h
  refine ⟨a, cap, rfl, hl, hn, fun h0 => ?_⟩
  obtain ⟨b, off, rfl, hcell⟩ := hc h0
  refine ⟨b, off, rfl, fun i hi => hg.cell (hcell i hi) ?_⟩
  intro e
  have h1 := hr b e.symm
  have h2 := hB _ _ _ rfl
  dsimp only at h2
  omega

set_option maxHeartbeats 1000000 in
theorem concat_any (g : Nat) (v1 v2 : Value) (l1 l2 : List UInt8) (hm : l1.length + l2.length ≤ 100000) (w : World) (hg : Bx w g 59 #[v1, v2]) (h1 : BS w v1 l1) (h2 : BS w v2 l2) :
    Calls Try.prog 161 #[.slice (some ⟨g, 0, none⟩) 2 2] w (Made w (l1 ++ l2)) := by
  have c0 := hg.read (i := 0) rfl
  have c1 := hg.read (i := 1) rfl
  have HG := Hid.mk' (And.intro hg (And.intro h1 h2))
  obtain ⟨a1, p1, rfl⟩ := h1.form
  obtain ⟨a2, p2, rfl⟩ := h2.form
  clear hg h1 h2
  have hz : (0 : Int) ≤ (l1.length : Int) := by omega
  have hz2 : (0 : Int) ≤ (l2.length : Int) := by omega
  have CG := Hid.mk' (grow_any (l1.length + l2.length) hm)
  rw [Int.natCast_add] at CG
  go_enter Try.func161, Try.ntmps161
  go_wp2_with fail
  refine wp_loop_rounds 3 ?_
  rw [rounds_succ]
  go_wp2_with fail
  rw [rounds_succ]
  go_wp2_with fail
  rw [rounds_succ]
  go_wp2_with fail
  refine (CG.out _).mono ?_; rintro e w1 ⟨v0, rfl, hO, hb1⟩
  have c0' := (HG.out.1.next hb1).read (i := 0) rfl
  have H1 := Hid.mk' (And.intro hO (And.intro hb1 (HG.out.2.1.next hb1)))
  clear c0 c1 hO hb1 hz hz2
  go_wp2_with fail
  refine wp_loop_rounds 3 ?_
  rw [rounds_succ]
  go_wp2_with (at_builtin; refine wpList_append_bs rfl (.tmp 31) (.tmp 32) rfl w.heap.size v0 _ [] l1 rfl rfl H1.out.1 H1.out.2.2 (by simp; omega) H1.out.2.1.size ?_; intro v2 w2 hO2 hgr2)
  have hb2 : Below w.heap.size w w2 := H1.out.2.1.grown hgr2 H1.out.2.1.size (fun k hk => (H1.out.1.lt k hk).1)
  have c1' := (HG.out.1.next hb2).read (i := 1) rfl
  rw [List.nil_append] at hO2
  have H2 := Hid.mk' (And.intro hO2 (And.intro hb2 (HG.out.2.2.next hb2)))
  clear c0' hO2 hgr2 hb2 H1
  go_wp2_with fail
  rw [rounds_succ]
  go_wp2_with (at_builtin; refine wpList_append_bs rfl (.tmp 31) (.tmp 32) rfl w.heap.size v2 _ l1 l2 rfl rfl H2.out.1 H2.out.2.2 (by omega) H2.out.2.1.size ?_; intro v3 w3 hO3 hgr3)
  have hb3 : Below w.heap.size w w3 := H2.out.2.1.grown hgr3 H2.out.2.1.size (fun k hk => (H2.out.1.lt k hk).1)
  have H3 := Hid.mk' (And.intro hO3 hb3)
  clear c1' hO3 hgr3 hb3 H2
  go_wp2_with fail
  rw [rounds_succ]
  go_wp2_with fail
  go_ret
  exact ⟨_, rfl, H3.out.1, H3.out.2⟩
end Go.Proofs.Ytljhnkcoknikgaa
