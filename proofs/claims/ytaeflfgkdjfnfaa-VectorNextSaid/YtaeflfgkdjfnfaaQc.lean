/- Layer 5 (vector): the document's Set, in memory. -/
import Derived.Test.YtaeflfgkdjfnfaaQb
namespace Go.Proofs.Ytaeflfgkdjfnfaa
open Go.RowKit

theorem below_dn (W : World) (n : Nat) : Below W.heap.size W (W.drewN n) := ⟨rfl, rfl, rfl, Nat.le_refl _, fun _ _ => rfl⟩
/-- What holds while Set makes its row. -/
structure SI (w : World) (d1 d2 : Int) (W : World) (v : Value) (L : List (Int × Int)) : Prop where
  own : DD W (w.heap.size + 1) v L
  bel : Below w.heap.size w W
  bx : Bx W w.heap.size 122 #[.int .i64 d1, .int .i64 d2]
theorem SI.next {w W W' : World} {d1 d2 : Int} {v : Value} {L : List (Int × Int)} (h : SI w d1 d2 W v L) (hb : Below W.heap.size W W') : SI w d1 d2 W' v L :=
  ⟨h.own.next hb, bnext h.bel hb, h.bx.next hb⟩
theorem SI.dn {w W : World} {d1 d2 : Int} {v : Value} {L : List (Int × Int)} {n : Nat} (h : SI w d1 d2 W v L) : SI w d1 d2 (W.drewN n) v L := h.next (below_dn W n)
theorem SI.al {w W : World} {d1 d2 : Int} {v : Value} {L : List (Int × Int)} {o : Obj} (h : SI w d1 d2 W v L) : SI w d1 d2 (W.alloc o) v L := h.next ((Below.refl _ _).alloc (Nat.le_refl _) _)
theorem SI.app {w W W' : World} {d1 d2 : Int} {v v' : Value} {L L' : List (Int × Int)} (h : SI w d1 d2 W v L) (hO : DD W' (w.heap.size + 1) v' L') (hg : W.grownBy W' v.ownBlock) : SI w d1 d2 W' v' L' :=
  ⟨hO, h.bel.grown hg h.bel.size (fun k hk => Nat.le_trans (Nat.le_succ _) (World.ownsRow.lt h.own k hk).1), h.bx.grown hg (fun e => by have := (World.ownsRow.lt h.own _ e).1; omega)⟩
theorem goS_take (d : Int × Int) (l : List (Int × Int)) (k : Nat) (hk : k < l.length) : goS d (l.take (k + 1)) = stS d (goS d (l.take k)) l[k] := by
  rw [List.take_succ_eq_append_getElem hk, goS_snoc]
theorem goS_len (d : Int × Int) (l : List (Int × Int)) : (goS d l).1.length ≤ 2 * l.length := by
  suffices ∀ (l : List (Int × Int)) (s : List (Int × Int) × Bool), (l.foldl (stS d) s).1.length ≤ s.1.length + 2 * l.length by
    have := this l ([], false)
    simpa [goS] using this
  intro l
  induction l with
  | nil => intro s; simp
  | cons x l ih =>
    intro s
    rw [List.foldl_cons]
    have h1 := ih (stS d s x)
    have h2 : (stS d s x).1.length ≤ s.1.length + 2 := by
      unfold stS
      dsimp only
      repeat' split
      all_goals simp
    simp only [List.length_cons]
    omega
theorem wpList_appS {w X : World} {ops : Array Oper} {rest : List Oper} {o : Oper} {a : Act} {Q : Exit → Act → World → Prop} (hgd : o.guard = none) (s x : Operand)
    (ho : o.op = .call { callee := .builtin .append, args := #[s, x], argTypes := #[117, 117] })
    (d1 d2 : Int) (v : Value) (L : List (Int × Int)) (p1 p2 : Int) (hs : a.eval s = v) (hx : a.eval x = .slice (some ⟨X.heap.size, 0, none⟩) 1 1) (hS : SI w d1 d2 X v L) (hm : L.length ≤ 100000)
    (h : ∀ v' w', SI w d1 d2 w' v' (L ++ [(p1, p2)]) → wpList Try.prog ops Q rest (a.put o.dst v') w') : wpList Try.prog ops Q (o :: rest) a (X.alloc (.cells #[.int .i64 p1, .int .i64 p2] 122)) := by
  have hin := Bx.inside hS.bx
  refine wpList_app1 hgd s x ho (w.heap.size + 1) v X.heap.size L p1 p2 hs hx hS.al.own (heap_alloc_new _ _) hm (by rw [World.size_alloc]; omega) ?_
  intro v' w' hO hg
  exact h v' w' (hS.al.app hO hg)
set_option maxRecDepth 100000 in
set_option maxHeartbeats 8000000 in
theorem set05_any (vl : Value) (l : List (Int × Int)) (d1 d2 : Int) (hn : l.length ≤ 10000) (w : World) (h : DR w vl l) : Calls Try.prog 73 #[vl, .agg #[.int .i64 d1, .int .i64 d2]] w fun e w' => ∃ v, e = .returned v ∧ DD w' w.heap.size v (setL l (d1, d2)) ∧ Below w.heap.size w w' := by
  have HR := Lib.hid h
  obtain ⟨a, cap, rfl, hx, hc⟩ := h
  clear hx hc
  have H0 := Lib.hid (show SI w d1 d2 (w.alloc (.cells #[.int .i64 d1, .int .i64 d2] 122)) (.slice none 0 0) (goS (d1, d2) (l.take 0)).1 from ⟨DD.nil _ _, (Below.refl _ _).alloc (Nat.le_refl _) _, Bx.fresh w _ _⟩)
  go_enter Try.func73, Try.ntmps73
  go_wp2_with fail
  go_loopw [5, 6, 7] (fun r s i wr => ∃ (k : Nat) (v5 : Value), i = .int .i64 k ∧ v5 = r ∧ s = .bool (goS (d1, d2) (l.take k)).2 ∧ k ≤ l.length ∧ Hid (SI w d1 d2 wr v5 (goS (d1, d2) (l.take k)).1)) (fun _ _ i _ => l.length - (intOf i).toNat)
  case atStart => exact ⟨0, _, rfl, rfl, rfl, Nat.zero_le _, H0⟩
  case round =>
    clear H0
    obtain ⟨k, v5, rfl, rfl, rfl, hk, HS⟩ := hrel
    have HLEN := Lib.hid (show (goS (d1, d2) (l.take k)).1.length ≤ 20000 by have := goS_len (d1, d2) (l.take k); rw [List.length_take] at this; omega)
    by_cases hlt : k < l.length
    · obtain ⟨a', cap', hv, _, hc⟩ := id HR.out
      obtain ⟨b, off, ha, hcell⟩ := hc (fun e => by rw [e] at hlt; simp at hlt)
      subst ha
      cases hv
      have hcellW : ∀ W', Below w.heap.size w W' → W'.cell? ⟨b, off + k * 2, none⟩ = some (.int .i64 l[k].1) ∧ W'.cell? ⟨b, off + k * 2 + 1, none⟩ = some (.int .i64 l[k].2) := fun W' hW => ⟨cell_nxd hW (hcell k hlt).1, cell_nxd hW (hcell k hlt).2⟩
      obtain ⟨x0, x1⟩ := hcellW _ HS.out.bel
      obtain ⟨y0, y1⟩ := And.intro (HS.out.bx.read (i := 0) rfl) (HS.out.bx.read (i := 1) rfl)
      have hi1 : (k : Int) < (l.length : Int) := by omega
      have HN := Lib.hid (goS_take (d1, d2) l k hlt)
      have HX := Lib.hid (fun W' (hW : Below w.heap.size w W') => hcellW W' hW)
      clear hcell hc hcellW
      generalize l[k] = p at *
      generalize goS (d1, d2) (l.take k) = st at *
      obtain ⟨out, inn⟩ := st
      obtain ⟨pw, pn⟩ := p
      dsimp only at *
      cases inn with
      | true =>
        by_cases hq : pw = d1
        · have e1 : (pw != d1) = false := by simp [hq]
          have HE := Lib.hid hq
          clear hq
          go_wp2_with fail
          go_quiet (fail)
          go_wp2_with fail
          go_quiet (fail)
          go_wp2_with fail
          go_roundw
          case rel => exact ⟨k + 1, _, by go_num, rfl, by rw [HN.out]; (try simp [stS, HE.out]), by omega, Lib.hid (by rw [HN.out]; simpa [stS, HE.out] using (show SI w d1 d2 _ _ _ by repeat (first | exact HS.out | refine SI.dn ?_)))⟩
          case measure => simp [intOf]; omega
        · have e1 : (pw != d1) = true := by simp [hq]
          have HE := Lib.hid hq
          clear hq
          go_wp2_with fail
          go_quiet (fail)
          go_wp2_with fail
          go_quiet (fail)
          go_wp2_with (at_builtin; refine wpList_appS (w := w) rfl (.tmp 38) (.tmp 43) rfl d1 d2 v5 (out) pw pn rfl rfl ?a1 ?b1 ?_)
          try case a1 => first | exact HS.out | exact HS.out.dn
          try case b1 => (have := HLEN.out; (try simp); omega)
          intro v' w' hS
          have HG := Lib.hid hS
          clear hS
          go_wp2_with fail
          go_roundw
          case rel => exact ⟨k + 1, _, by go_num, rfl, by rw [HN.out]; (try simp [stS, HE.out]), by omega, Lib.hid (by rw [HN.out]; simpa [stS, HE.out] using HG.out)⟩
          case measure => simp [intOf]; omega
      | false =>
        by_cases hle : d1 ≤ pw
        · have l1 : decide (d1 ≤ pw) = true := by simp [hle]
          go_wp2_with fail
          go_quiet (fail)
          go_wp2_with (at_builtin; refine wpList_appS (w := w) rfl (.tmp 26) (.tmp 28) rfl d1 d2 v5 (out) d1 d2 rfl rfl ?a2 ?b2 ?_)
          try case a2 => first | exact HS.out | exact HS.out.dn
          try case b2 => (have := HLEN.out; (try simp); omega)
          intro v' w' hS
          have HG := Lib.hid hS
          clear hS
          clear x0 x1 y0 y1
          obtain ⟨y0, y1⟩ := And.intro (HG.out.bx.read (i := 0) rfl) (HG.out.bx.read (i := 1) rfl)
          obtain ⟨x0, x1⟩ := HX.out _ HG.out.bel
          by_cases hq : pw = d1
          · have e1 : (pw != d1) = false := by simp [hq]
            have HE := Lib.hid (And.intro hq hle)
            clear hq
            go_wp2_with fail
            go_quiet (fail)
            go_wp2_with fail
            go_roundw
            case rel => exact ⟨k + 1, _, by go_num, rfl, by rw [HN.out]; (try simp [stS, HE.out.1]), by omega, Lib.hid (by rw [HN.out]; simpa [stS, HE.out.1] using (show SI w d1 d2 _ _ _ by repeat (first | exact HG.out | refine SI.dn ?_)))⟩
            case measure => simp [intOf]; omega
          · have e1 : (pw != d1) = true := by simp [hq]
            have HE := Lib.hid (And.intro hq hle)
            clear hq
            go_wp2_with fail
            go_quiet (fail)
            go_wp2_with (at_builtin; refine wpList_appS (w := w) rfl (.tmp 38) (.tmp 43) rfl d1 d2 v' (out ++ [(d1, d2)]) pw pn rfl rfl ?a3 ?b3 ?_)
            try case a3 => first | exact HG.out | exact HG.out.dn
            try case b3 => (have := HLEN.out; (try simp); omega)
            intro v2 w2 hS
            have HG2 := Lib.hid hS
            clear hS
            go_wp2_with fail
            go_roundw
            case rel => exact ⟨k + 1, _, by go_num, rfl, by rw [HN.out]; (try simp [stS, HE.out.1, HE.out.2]), by omega, Lib.hid (by rw [HN.out]; simpa [stS, HE.out.1, HE.out.2] using HG2.out)⟩
            case measure => simp [intOf]; omega
        · have l1 : decide (d1 ≤ pw) = false := by rw [decide_eq_false_iff_not]; exact hle
          have hq : ¬ pw = d1 := by omega
          have e1 : (pw != d1) = true := by simp [hq]
          have HE := Lib.hid (And.intro hq hle)
          clear hq
          go_wp2_with fail
          go_quiet (fail)
          go_wp2_with fail
          go_quiet (fail)
          go_wp2_with (at_builtin; refine wpList_appS (w := w) rfl (.tmp 38) (.tmp 43) rfl d1 d2 v5 (out) pw pn rfl rfl ?a4 ?b4 ?_)
          try case a4 => first | exact HS.out | exact HS.out.dn
          try case b4 => (have := HLEN.out; (try simp); omega)
          intro v' w' hS
          have HG := Lib.hid hS
          clear hS
          go_wp2_with fail
          go_roundw
          case rel => exact ⟨k + 1, _, by go_num, rfl, by rw [HN.out]; (try simp [stS, HE.out.1, eq_false (show ¬ d1 ≤ pw by have := HE.out.2; omega)]), by omega, Lib.hid (by rw [HN.out]; simpa [stS, HE.out.1, eq_false (show ¬ d1 ≤ pw by have := HE.out.2; omega)] using HG.out)⟩
          case measure => simp [intOf]; omega
    · obtain rfl : k = l.length := by omega
      have hi1 : ¬ (l.length : Int) < (l.length : Int) := by omega
      have HV : Hid (setL l (d1, d2) = finS (d1, d2) (goS (d1, d2) (l.take l.length))) := Lib.hid (by rw [List.take_length]; rfl)
      obtain ⟨y0, y1⟩ := And.intro (HS.out.bx.read (i := 0) rfl) (HS.out.bx.read (i := 1) rfl)
      generalize goS (d1, d2) (l.take l.length) = st at *
      obtain ⟨out, inn⟩ := st
      dsimp only at *
      cases inn with
      | true =>
        have HF := Lib.hid (show DD wr w.heap.size v5 (setL l (d1, d2)) ∧ Below w.heap.size w wr from ⟨by rw [HV.out]; simp only [finS, if_true]; exact HS.out.own.base (Nat.le_succ _), HS.out.bel⟩)
        go_wp2_with fail
        go_ret
        exact ⟨_, rfl, HF.out⟩
      | false =>
        have HF := Lib.hid (show setL l (d1, d2) = out ++ [(d1, d2)] by rw [HV.out]; simp [finS])
        have hsz := HS.out.bel.size
        go_wp2_with (at_builtin; refine wpList_appS (w := w) rfl (.tmp 47) (.tmp 49) rfl d1 d2 v5 (out) d1 d2 rfl rfl ?a5 ?b5 ?_)
        try case a5 => first | exact HS.out | exact HS.out.dn
        try case b5 => (have := HLEN.out; (try simp); omega)
        intro v' w' hS
        have HG := Lib.hid hS
        clear hS
        go_wp2_with fail
        go_ret
        exact ⟨_, rfl, (by rw [HF.out]; exact HG.out.own.base (Nat.le_succ _)), HG.out.bel⟩
end Go.Proofs.Ytaeflfgkdjfnfaa
