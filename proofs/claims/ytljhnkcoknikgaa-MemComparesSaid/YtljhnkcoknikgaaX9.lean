/- Layer 7 (mut): a mutation appended to a row of the call's own; Copies. -/
import Derived.Test.YtljhnkcoknikgaaX8
namespace Go.Proofs.Ytljhnkcoknikgaa
open Go.RowKit

theorem own_apart {w : World} {B B' : Nat} {e e' : TypeId} {sz sz' n n' : Nat} {v v' : Value} {xs xs' : List Value} (h : w.ownsRow B e sz v n xs) (h' : w.ownsRow B' e' sz' v' n' xs') (hne : e ≠ e') : v.ownBlock = none ∨ v.ownBlock ≠ v'.ownBlock := by
  rcases h.2 with ⟨rfl, _⟩ | ⟨g, cap, cur, rfl, _, hg, _⟩
  · exact .inl rfl
  · right
    rcases h'.2 with ⟨rfl, _⟩ | ⟨g', cap', cur', rfl, _, hg', _⟩
    · simp [Value.ownBlock]
    · intro e1
      simp [Value.ownBlock] at e1
      subst e1
      rw [hg] at hg'
      cases hg'
      exact hne rfl
/-- Each one's stamps lie in a row of the call's own. -/
def OS (w : World) (B : Nat) (L : List MP) : Prop := ∀ p ∈ L, SO w B p.2 p.1.over ∧ p.1.over.length ≤ 100000
theorem OS.next {w w' : World} {B : Nat} {L : List MP} (h : OS w B L) (hb : Below w.heap.size w w') : OS w' B L := fun p hp => ⟨(h p hp).1.next hb, (h p hp).2⟩
theorem OS.ov {w : World} {B : Nat} {L : List MP} (h : OS w B L) : OV w L := fun p hp => ⟨(h p hp).1.in_, (h p hp).2⟩
theorem OS.kept {w w' : World} {B C : Nat} {v : Value} {L M : List MP} (h : OS w B L) (hv : MO w C v M) (hg : w.grownBy w' v.ownBlock) : OS w' B L :=
  fun p hp => ⟨World.ownsRow.kept (h p hp).1 hg (own_apart (h p hp).1 hv (by decide)), (h p hp).2⟩
theorem OS.snoc {w : World} {B : Nat} {L : List MP} {p : MP} (h : OS w B L) (hp : SO w B p.2 p.1.over ∧ p.1.over.length ≤ 100000) : OS w B (L ++ [p]) := fun q hq => by
  rcases List.mem_append.1 hq with h1 | h1
  · exact h q h1
  · simp at h1; subst h1; exact hp
theorem mcl_one (p : MP) (h : p.2.oneCell' = true) : ∀ u ∈ mcl p, u.oneCell' = true := by
  intro u hu
  simp only [mcl, List.mem_cons, List.not_mem_nil, or_false] at hu
  rcases hu with rfl | rfl | rfl | rfl | rfl | rfl | rfl | rfl | rfl | rfl
  all_goals first | rfl | exact h
/-- One mutation is appended to a row of the call's own. -/
theorem wpList_appM {X : World} {ops : Array Oper} {rest : List Oper} {o : Oper} {a : Act} {Q : Exit → Act → World → Prop} (hgd : o.guard = none) (s x : Operand)
    (ho : o.op = .call { callee := .builtin .append, args := #[s, x], argTypes := #[47, 47] })
    (base : Nat) (v : Value) (L : List MP) (t k ex sx sy sz : Int) (key en val : ByteArray) (over : List St) (ov : Value) (h1 : ov.oneCell' = true) (hs : a.eval s = v) (hx : a.eval x = .slice (some ⟨X.heap.size, 0, none⟩) 1 1) (hown : MO X base v L) (hm : L.length ≤ 100000) (hbase : base ≤ X.heap.size)
    (h : ∀ v' w', MO w' base v' (L ++ [(⟨t, k, key, en, val, ex, ⟨sx, sy, sz⟩, over⟩, ov)]) → X.grownBy w' v.ownBlock → wpList Try.prog ops Q rest (a.put o.dst v') w') : wpList Try.prog ops Q (o :: rest) a (X.alloc (.cells #[.int .i64 t, .int .i64 k, .string key, .string en, .string val, .int .i64 ex, .int .i64 sx, .int .i64 sy, .int .i64 sz, ov] 40)) := by
  obtain ⟨i0, hi, hz0, hz1, hz2⟩ := info_parts m_info
  refine wpList_append_own _ hgd s x 47 ho base 40 i0 _ 10 120 Try.underlying47 hi hz0 hz1 hz2 rfl (by decide) v L.length (flatM L) hs (hown.alloc _) ⟨X.heap.size, 0, none⟩ 1 1 (mcl (⟨t, k, key, en, val, ex, ⟨sx, sy, sz⟩, over⟩, ov)) hx rfl ?_ (mcl_one _ h1) ?_ ?_ (by rw [World.size_alloc]; omega) ?_
  · exact World.news_of_block (cs := #[.int .i64 t, .int .i64 k, .string key, .string en, .string val, .int .i64 ex, .int .i64 sx, .int .i64 sy, .int .i64 sz, ov]) (t := 40) (fr := (0, 0)) (heap_alloc_new _ _)
  · simp only [maxLen]; omega
  · omega
  · intro v' w' ho' hg' _
    refine h v' w' ?_ (gb_trans (gb_alloc _ _ _) hg')
    unfold MO
    rw [List.length_append, flatM_app]
    simpa [flatM] using ho'
/-- What Copies holds. -/
structure CI (w W : World) (v : Value) (L : List MP) (k : Nat) (L' : List MP) : Prop where
  own : MO W w.heap.size v L'
  os : OS W w.heap.size L'
  same : L'.map (·.1) = (L.take k).map (·.1)
  bel : Below w.heap.size w W
theorem CI.next {w W W' : World} {v : Value} {L L' : List MP} {k : Nat} (h : CI w W v L k L') (hb : Below W.heap.size W W') : CI w W' v L k L' := ⟨h.own.next hb, h.os.next hb, h.same, bnext h.bel hb⟩
set_option maxRecDepth 100000 in
set_option maxHeartbeats 4000000 in
theorem copies_any (v : Value) (L : List MP) (hL : L.length ≤ 10000) (w : World) (h : MI w v L) (ho : OV w L) :
    Calls Try.prog 26 #[v] w fun e w' => ∃ v' L', e = .returned v' ∧ CI w w' v' L L.length L' := by
  obtain ⟨i0, hi, hz0, hz1, hz2⟩ := info_parts m_info
  obtain ⟨w1, HM, hown, hgr⟩ := run_make_own (P := Try.prog) (w := w) w.heap.size 47 40 i0 _ 10 Try.underlying47 hi hz0 hz1 .i64 .i64 L.length (by rw [hz2]; omega) (by unfold maxLen; omega) (Nat.le_refl _)
  have hb1 : Below w.heap.size w w1 := (Below.refl w.heap.size w).grown hgr (Nat.le_refl _) (fun k hk => by cases hk)
  have H0 : Hid (CI w w1 (.slice (some ⟨w.heap.size, 0, none⟩) 0 L.length) L 0 []) := Lib.hid ⟨hown, (fun p hp => by cases hp), rfl, hb1⟩
  have HI := Lib.hid (And.intro h ho)
  obtain ⟨a0, c0, rfl⟩ := h.form
  clear hown hgr hb1 h ho hi hz0 hz1 hz2
  go_enter Try.func26, Try.ntmps26
  go_wp2_with fail
  go_loopw [11, 3, 5] (fun i v _ wr => ∃ (k : Nat) (L' : List MP), i = .int .i64 k ∧ k ≤ L.length ∧ Hid (CI w wr v L k L')) (fun i _ _ _ => L.length - (intOf i).toNat)
  case atStart => exact ⟨0, [], rfl, by omega, H0⟩
  case round =>
    clear H0 HM
    obtain ⟨k, L', rfl, hk, HC⟩ := hrel
    by_cases hlt : k < L.length
    · have hi1 : (k : Int) < (L.length : Int) := by omega
      obtain ⟨b, off, rfl, hc⟩ := (HI.out.1.next HC.out.bel).at_ k hlt
      have hov := HI.out.2 L[k] (List.getElem_mem hlt)
      have hsame : ∀ ov : Value, ((L' ++ [(L[k].1, ov)]).map (·.1)) = (L.take (k + 1)).map (·.1) := fun ov => by
        rw [List.map_append, HC.out.same, List.take_succ_eq_append_getElem hlt, List.map_append]; rfl
      have hlen : L'.length ≤ 100000 := by
        have := congrArg List.length HC.out.same
        simp at this
        omega
      obtain ⟨av, cv, hvf⟩ := HC.out.own.form
      have HS := Lib.hid hsame
      have HV := Lib.hid hov
      clear hsame hov
      generalize L[k] = q at *
      obtain ⟨⟨t, kd, mk, en, val, ex, ⟨x, y, z⟩, over⟩, ov⟩ := q
      dsimp only at *
      obtain ⟨m0, m1, m2, m3, m4, m5, m6, m7, m8, m9⟩ := hc.cells
      clear hc
      subst hvf
      have hone := HV.out.1.one
      obtain ⟨ao, co, hovf⟩ := HV.out.1.form
      subst hovf
      have CY := Lib.hid (fun W hW => copy_any ⟨t, kd, mk, en, val, ex, ⟨x, y, z⟩, over⟩ (.slice ao over.length co) HV.out.2 W hW)
      unfold Mu.cells at CY
      dsimp only at CY
      go_wp2_with fail
      have hbA : Below wr.heap.size wr (wr.alloc (.cells #[.int .i64 t, .int .i64 kd, .string mk, .string en, .string val, .int .i64 ex, .int .i64 x, .int .i64 y, .int .i64 z, .slice ao over.length co] 40)) := (Below.refl _ _).alloc (Nat.le_refl _) _
      refine (CY.out _ (HV.out.1.next (hbA.mono (Nat.le_refl _) |> fun h => bnext HC.out.bel h))).mono ?_; rintro e w2 ⟨ov', rfl, hO, hb2⟩
      obtain ⟨a2, c2, rfl⟩ := hO.form
      have hone2 := hO.in_.one
      have hsz : w.heap.size ≤ wr.heap.size := HC.out.bel.size
      have H2 := Lib.hid (show CI w w2 (.slice av L'.length cv) L k L' ∧ SO w2 w.heap.size (.slice a2 over.length c2) over from ⟨(HC.out.next hbA).next hb2, hO.base (by rw [World.size_alloc]; omega)⟩)
      have hbase : w.heap.size ≤ w2.heap.size := H2.out.1.bel.size
      clear hO hb2 hbA m0 m1 m2 m3 m4 m5 m6 m7 m8 m9 CY HC
      go_wp2_with (at_builtin; refine wpList_appM rfl (.tmp 15) (.tmp 18) rfl w.heap.size _ L' t kd ex x y z mk en val over (.slice a2 over.length c2) hone2 rfl rfl H2.out.1.own hlen hbase ?_)
      intro v3 w3 hown3 hgr3
      have H3 : Hid (CI w w3 v3 L (k + 1) (L' ++ [(⟨t, kd, mk, en, val, ex, ⟨x, y, z⟩, over⟩, .slice a2 over.length c2)])) := Lib.hid ⟨hown3, (OS.snoc H2.out.1.os ⟨H2.out.2, HV.out.2⟩).kept H2.out.1.own hgr3, HS.out _, H2.out.1.bel.grown hgr3 hbase (fun j hj => (World.ownsRow.lt H2.out.1.own j hj).1)⟩
      obtain ⟨a3, c3, rfl⟩ := hown3.form
      clear hown3 hgr3 H2
      go_wp2_with fail
      go_roundw
      case rel => exact ⟨k + 1, _, by go_num, by omega, H3⟩
      case measure => simp [intOf]; omega
    · have e : k = L.length := by omega
      subst e
      have hi1 : ¬ (L.length : Int) < (L.length : Int) := by omega
      go_wp2_with fail
      go_ret
      exact ⟨_, rfl, L', HC.out⟩
end Go.Proofs.Ytljhnkcoknikgaa
