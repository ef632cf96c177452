/- Layer 38 (glob): a pattern's parts, by definition. -/
import Derived.Test.YtfnjmboflegaaaaDoorGt
import Derived.Test.YtfnjmboflegaaaaDoorGp
import Derived.RegionTactic
import Derived.BigRegion
import Derived.Deep.RegionLaw
namespace Go.Proofs.YtfnjmboflegaaaaDoor
open Go.RowKit

/-- Parts in a row of the document's. -/
def flatR (q : List (Prt × Value)) : List Value := q.flatMap fun x => [.int .i64 (kdI x.1), x.2]
theorem flatR_len (q : List (Prt × Value)) : (flatR q).length = q.length * 2 := by
  induction q with
  | nil => rfl
  | cons s L ih => simp only [flatR, List.flatMap_cons, List.length_append, List.length_cons] at *; rw [ih]; simp; omega
theorem flatR_snoc (q : List (Prt × Value)) (x : Prt × Value) : flatR (q ++ [x]) = flatR q ++ [.int .i64 (kdI x.1), x.2] := by simp [flatR]
def PtR (w : World) (v : Value) (q : List (Prt × Value)) : Prop := w.ownsRow 0 51 2 v q.length (flatR q) ∧ ∀ x ∈ q, SpR w x.2 x.1.sp
theorem SpR.kept {w w' : World} {v u : Value} {L : List (Int × Int)} {B n : Nat} {xs : List Value} (h : SpR w v L) (hu : w.ownsRow B 51 2 u n xs) (hg : w.grownBy w' u.ownBlock) : SpR w' v L :=
  World.ownsRow.kept h hg (own_apart h hu (by decide))
theorem rpart_info : (Tryd.prog.info? 51).map (fun i => (i.zero, i.size, i.bytes)) = some (some (.agg #[.int .i64 0, .slice none 0 0]), 2, 32) := by kernel_rfl
/-- What the walk along a pattern knows. -/
structure QI (w : World) (l : List Int) (pv : Value) (i : Nat) (q : List (Prt × Value)) (wr : World) : Prop where
  i_le : i ≤ l.length
  q_le : q.length ≤ i
  own : wr.ownsRow w.heap.size 51 2 pv q.length (flatR q)
  sp : ∀ x ∈ q, SpR wr x.2 x.1.sp
  bel : Below w.heap.size w wr
  eq : prs l = (prs (l.drop i)).map (q.map Prod.fst ++ ·)
theorem QI.add {w wr Wa W4 : World} {l : List Int} {pv v4 : Value} {i i' : Nat} {q : List (Prt × Value)} (H : QI w l pv i q wr) (x : Prt × Value) (hx : SpR Wa x.2 x.1.sp) (hb : Below wr.heap.size wr Wa) (hgr : Wa.grownBy W4 pv.ownBlock)
    (hown : W4.ownsRow w.heap.size 51 2 v4 (q.length + 1) (flatR q ++ [.int .i64 (kdI x.1), x.2])) (hi : i < i') (hi' : i' ≤ l.length) (he : prs (l.drop i) = (prs (l.drop i')).map (x.1 :: ·)) : QI w l v4 i' (q ++ [x]) W4 := by
  have hOa := own_next H.own hb
  have hba := bnext H.bel hb
  refine ⟨hi', by have := H.q_le; simp; omega, by rw [List.length_append, flatR_snoc]; exact hown, fun y hy => ?_, hba.grown hgr hba.size (fun j hj => (H.own.lt j hj).1), ?_⟩
  · rcases List.mem_append.1 hy with h1 | h1
    · exact ((H.sp y h1).next hb).kept hOa hgr
    · simp at h1; subst h1; exact hx.kept hOa hgr
  · rw [H.eq, he]
    cases prs (l.drop i') <;> simp
theorem rspan_made (w : World) (c : Int) (o : Obj) : SpR ((w.alloc (.cells #[.int .i32 c, .int .i32 c] 54)).alloc o).drew (.slice (some ⟨w.heap.size, 0, none⟩) 1 1) [(c, c)] := by
  refine ⟨rfl, .inr ⟨w.heap.size, 1, #[.int .i32 c, .int .i32 c], rfl, Nat.zero_le _, ?_, Nat.le_refl _, by decide, rfl, rfl⟩⟩
  exact (Bx.fresh w _ _).past _
/-- What parts answers. -/
def RPrsPost (w : World) (r : Option (List Prt)) (e : Ending) (w' : World) : Prop :=
  ∃ pv b, e = .returned (.tuple #[pv, .bool b]) ∧ Below w.heap.size w w' ∧ ((r = none ∧ b = false) ∨ ∃ q : List (Prt × Value), r = some (q.map Prod.fst) ∧ b = true ∧ PtR w' pv q)
theorem QI.done {w w0 wr : World} {l : List Int} {pv : Value} {i : Nat} {q : List (Prt × Value)} (H : QI w l pv i q wr) (h0 : Below w0.heap.size w0 w) (hi : ¬ i < l.length) : RPrsPost w0 (prs l) (.returned (.tuple #[pv, .bool true])) wr := by
  refine ⟨pv, true, rfl, bnext h0 H.bel, .inr ⟨q, ?_, rfl, ?_, H.sp⟩⟩
  · rw [H.eq, List.drop_of_length_le (by omega)]; simp [prs, prsF]
  · exact own_down H.own
theorem QI.none_ {w w0 wr W : World} {l : List Int} {pv : Value} {i : Nat} {q : List (Prt × Value)} (H : QI w l pv i q wr) (h0 : Below w0.heap.size w0 w) (hb : Below wr.heap.size wr W) (h : prs (l.drop i) = none) : RPrsPost w0 (prs l) (.returned (.tuple #[.slice none 0 0, .bool false])) W :=
  ⟨_, _, rfl, bnext (bnext h0 H.bel) hb, .inl ⟨by rw [H.eq, h]; rfl, rfl⟩⟩

set_option maxRecDepth 100000 in
set_option maxHeartbeats 8000000 in
theorem rparts_any (s : ByteArray) (hs : s.size ≤ maxLen) (w0 : World) (hT : Tb w0) :
    Calls Tryd.prog 18 #[.string s] w0 (RPrsPost w0 (patS s)) := by
  obtain ⟨i0, hi, hz0, hz1, hz2⟩ := info_parts rpart_info
  have HI := Hid.mk' (And.intro hi (And.intro hz0 (And.intro hz1 hz2)))
  clear hi hz0 hz1 hz2
  have hs' := hs
  unfold maxLen at hs'
  by_cases h100 : s.size ≤ 100
  case neg =>
    have HP := Hid.mk' (show patS s = none by unfold patS; rw [if_neg h100])
    have h100' : (100 : Int) < (s.size : Int) := by omega
    clear hT h100 hs
    go_enter Tryd.func18, Tryd.ntmps18
    go_wp2_with fail
    have E := Hid.mk' (show RPrsPost w0 (patS s) (.returned (.tuple #[.slice none 0 0, .bool false])) w0 from ⟨_, _, rfl, Below.refl _ _, .inl ⟨HP.out, rfl⟩⟩)
    exact bodyPost_ret (v := .tuple #[.slice none 0 0, .bool false]) (by simp [results, Tryd.results18, go_sem]) rfl E.out
  have C := Hid.mk' (validstring_any s (by omega) w0 hT)
  have h100' : ¬ (100 : Int) < (s.size : Int) := by omega
  cases hv : vB s with
  | false =>
    rw [hv] at C
    have HP := Hid.mk' (show patS s = none by unfold patS; rw [if_pos h100, hv]; rfl)
    clear hT hv h100 hs
    go_enter Tryd.func18, Tryd.ntmps18
    go_wp2_with fail
    refine C.out.mono ?_; rintro e w1 ⟨rfl, hb1⟩
    go_wp2_with fail
    have E := Hid.mk' (show RPrsPost w0 (patS s) (.returned (.tuple #[.slice none 0 0, .bool false])) w1 from ⟨_, _, rfl, hb1, .inl ⟨HP.out, rfl⟩⟩)
    exact bodyPost_ret (v := .tuple #[.slice none 0 0, .bool false]) (by simp [results, Tryd.results18, go_sem]) rfl E.out
  | true =>
  rw [hv] at C
  have hpat : patS s = prs (runesG s) := by unfold patS; rw [if_pos h100, hv]; rfl
  rw [hpat]
  have HL := Hid.mk' (show s.size ≤ 100 from h100)
  clear hT hv h100 hs hpat
  go_enter Tryd.func18, Tryd.ntmps18
  go_wp2_with fail
  refine C.out.mono ?_; rintro e w1 ⟨rfl, hb1⟩
  obtain ⟨v, w, hcv, h, hb2⟩ := rconv s (by have := HL.out; omega) w1
  have hl : (runesG s).length ≤ 200 := by have := runesG_len s; have := HL.out; omega
  have HB0 := Hid.mk' (bnext hb1 hb2)
  clear hb1 hb2 C
  generalize runesG s = l at *
  have hlen := fun w' => h.len w'
  have HR := Hid.mk' h
  have START := Hid.mk' (show QI w l (.slice none 0 0) 0 [] w from ⟨Nat.zero_le _, Nat.le_refl _, World.ownsRow_nil _ _ _ _, (fun x hx => by cases hx), Below.refl _ _, by simp⟩)
  clear h
  go_wp2_with fail
  go_loopw [4, 6] (fun pv iv wr => ∃ (i : Nat) (q : List (Prt × Value)), iv = .int .i64 i ∧ Hid (QI w l pv i q wr)) (fun _ iv _ => l.length - (intOf iv).toNat)
  case atStart => exact ⟨0, [], rfl, START⟩
  case round =>
    clear START
    obtain ⟨i, q, rfl, HP⟩ := hrel
    have hil := HP.out.i_le
    have hql := HP.out.q_le
    have hbb := HP.out.bel.size
    by_cases hlt : i < l.length
    · have hr := HR.out.next HP.out.bel
      obtain ⟨p1, hx1, hc1, hp1⟩ := hr.at i hlt
      have hd : l.drop i = l[i] :: l.drop (i + 1) := List.drop_eq_getElem_cons hlt
      generalize l[i] = c at *
      have HD := Hid.mk' hd
      have HRR := Hid.mk' hr
      have hlti : (i : Int) < (l.length : Int) := by omega
      have hli : (l.length : Int) ≤ 200 := by omega
      clear hd hr
      by_cases h42 : c = 42
      · subst h42
        have HE := Hid.mk' (show prs (l.drop i) = (prs (l.drop (i + 1))).map (starP :: ·) by rw [HD.out, prs_star])
        have HO := Hid.mk' (HP.out.own.alloc (.cells #[.int .i64 3, .slice none 0 0] 51))
        clear hp1
        go_wp2_with (at_builtin; refine wpList_append_own _ rfl (.tmp 46) (.tmp 48) 40 rfl w.heap.size 51 i0 _ 2 32 Tryd.underlying40 HI.out.1 HI.out.2.1 HI.out.2.2.1 HI.out.2.2.2 rfl (by decide) _ q.length (flatR q) rfl (HO.out) ⟨wr.heap.size, 0, none⟩ 1 1 [.int .i64 3, .slice none 0 0] rfl rfl ?c1 ?c2 ?c3 ?c4 ?c5 ?_)
        try case c1 => exact World.news_of_block (cs := #[.int .i64 3, .slice none 0 0]) (t := 51) (fr := (0, 0)) (heap_alloc_new wr _)
        case c2 => simp [Value.oneCell']
        case c3 => simp only [maxLen]; omega
        case c4 => omega
        case c5 => simp; omega
        intro v4 W4 hown4 hgr4 _
        have E := Hid.mk' (HP.out.add (i' := i + 1) (starP, .slice none 0 0) (SpR.nil _) ((Below.refl _ _).alloc (Nat.le_refl _) _) hgr4 hown4 (Nat.lt_succ_self _) hlt HE.out)
        clear hown4 hgr4 HO HE HP
        go_wp2_with fail
        go_roundw
        case rel => exact ⟨i + 1, _, by go_num, E⟩
        case measure => simp [intOf]; omega
      · have t42 : (c == 42) = false := by simp [h42]
        by_cases h63 : c = 63
        · subst h63
          clear t42
          have HE := Hid.mk' (show prs (l.drop i) = (prs (l.drop (i + 1))).map (anyP :: ·) by rw [HD.out, prs_any])
          have HO := Hid.mk' (HP.out.own.alloc (.cells #[.int .i64 2, .slice none 0 0] 51))
          clear hp1
          go_wp2_with (at_builtin; refine wpList_append_own _ rfl (.tmp 52) (.tmp 54) 40 rfl w.heap.size 51 i0 _ 2 32 Tryd.underlying40 HI.out.1 HI.out.2.1 HI.out.2.2.1 HI.out.2.2.2 rfl (by decide) _ q.length (flatR q) rfl (HO.out) ⟨wr.heap.size, 0, none⟩ 1 1 [.int .i64 2, .slice none 0 0] rfl rfl ?c1 ?c2 ?c3 ?c4 ?c5 ?_)
          try case c1 => exact World.news_of_block (cs := #[.int .i64 2, .slice none 0 0]) (t := 51) (fr := (0, 0)) (heap_alloc_new wr _)
          case c2 => simp [Value.oneCell']
          case c3 => simp only [maxLen]; omega
          case c4 => omega
          case c5 => simp; omega
          intro v4 W4 hown4 hgr4 _
          have E := Hid.mk' (HP.out.add (i' := i + 1) (anyP, .slice none 0 0) (SpR.nil _) ((Below.refl _ _).alloc (Nat.le_refl _) _) hgr4 hown4 (Nat.lt_succ_self _) hlt HE.out)
          clear hown4 hgr4 HO HE HP
          go_wp2_with fail
          go_roundw
          case rel => exact ⟨i + 1, _, by go_num, E⟩
          case measure => simp [intOf]; omega
        · have t63 : (c == 63) = false := by simp [h63]
          by_cases h91 : c = 91
          · subst h91
            obtain ⟨v1, hcut1, hr1⟩ := HRR.out.from (i + 1) hlt
            rw [show ((i + 1 : Nat) : Int) = (i : Int) + 1 from by omega] at hcut1
            have CC := Hid.mk' (rclass_any v1 _ (by simp; omega) wr hr1)
            clear hr1 t42 t63 h42 h63
            go_wp2_with fail
            refine CC.out.mono ?_; rintro e W2 ⟨kd, sa, sn, sc, m, b, rfl, hb2, hres⟩
            rcases hres with ⟨rfl, hno⟩ | ⟨n, p, hidx, hsome, rfl, rfl, rfl, hsv⟩
            · have E := Hid.mk' (HP.out.none_ HB0.out (hb2.alloc hb2.size (.cells #[.int .i64 kd, .slice sa sn sc] 51)) (by
                rw [HD.out]
                rcases hno with h1 | ⟨n, h1, h2⟩
                · exact prs_none _ h1
                · exact prs_bad _ n h1 h2))
              clear hno HP hb2
              go_wp2_with fail
              exact bodyPost_ret (v := .tuple #[.slice none 0 0, .bool false]) (by simp [results, Tryd.results18, go_sem]) rfl E.out
            · have hn := idxB_lt _ _ hidx
              simp only [List.length_drop] at hn
              have HE := Hid.mk' (show prs (l.drop i) = (prs (l.drop (i + 1 + n + 1))).map (p :: ·) by rw [HD.out, prs_cls _ n p hidx hsome, List.drop_drop]; rfl)
              have hb3 := hb2.size
              have HB := Hid.mk' (And.intro (show Below wr.heap.size wr ((W2.alloc (.cells #[.int .i64 (kdI p), .slice sa sn sc] 51)).alloc (.cells #[.int .i64 (kdI p), .slice sa sn sc] 51)) from (hb2.alloc hb2.size _).alloc (by simp; omega) _) (hsv.next (((Below.refl W2.heap.size W2).alloc (Nat.le_refl _) (.cells #[.int .i64 (kdI p), .slice sa sn sc] 51)).alloc (by simp) (.cells #[.int .i64 (kdI p), .slice sa sn sc] 51))))
              have HN := Hid.mk' (show Bx ((W2.alloc (.cells #[.int .i64 (kdI p), .slice sa sn sc] 51)).alloc (.cells #[.int .i64 (kdI p), .slice sa sn sc] 51)) (W2.heap.size + 1) 51 #[.int .i64 (kdI p), .slice sa sn sc] from Bx.fresh' (W2.alloc _) (by simp) _ _)
              have hnl : (i : Int) + 1 + (n : Int) < (l.length : Int) := by omega
              have hn0 : (0 : Int) ≤ (n : Int) := by omega
              have HX := Hid.mk' (And.intro hidx hsome)
              clear hidx hsome hsv hb2
              obtain ⟨kp, hkp⟩ : ∃ kp, kp = kdI p := ⟨_, rfl⟩
              go_wp2_with (at_builtin; refine wpList_append_own _ rfl (.tmp 69) (.tmp 71) 40 rfl w.heap.size 51 i0 _ 2 32 Tryd.underlying40 HI.out.1 HI.out.2.1 HI.out.2.2.1 HI.out.2.2.2 rfl (by decide) _ q.length (flatR q) rfl (own_next HP.out.own HB.out.1) ⟨W2.heap.size + 1, 0, none⟩ 1 1 [.int .i64 (kdI p), .slice sa sn sc] rfl rfl ?c1 ?c2 ?c3 ?c4 ?c5 ?_)
              try case c1 => exact World.news_of_block (cs := #[.int .i64 (kdI p), .slice sa sn sc]) (t := 51) (fr := (0, 0)) HN.out
              case c2 => simp [Value.oneCell']
              case c3 => simp only [maxLen]; omega
              case c4 => omega
              case c5 => simp; omega
              intro v4 W4 hown4 hgr4 _
              have E := Hid.mk' (HP.out.add (i' := i + 1 + n + 1) (p, .slice sa sn sc) HB.out.2 HB.out.1 hgr4 hown4 (by omega) (by omega) HE.out)
              clear hown4 hgr4 HB HN HE HP
              go_wp2_with fail
              go_roundw
              case rel => exact ⟨i + 1 + n + 1, _, by go_num, E⟩
              case measure => simp [intOf]; omega
          · have t91 : (c == 91) = false := by simp [h91]
            have HE := Hid.mk' (show prs (l.drop i) = (prs (l.drop (i + 1))).map (oneP c :: ·) by rw [HD.out, prs_one c _ h42 h63 h91])
            clear h42 h63 h91
            have HO := Hid.mk' (show ((wr.alloc (.cells #[.int .i32 c, .int .i32 c] 54)).alloc (.cells #[.int .i64 0, .slice (some ⟨wr.heap.size, 0, none⟩) 1 1] 51)).ownsRow w.heap.size 51 2 u4 q.length (flatR q) from (HP.out.own.alloc _).alloc _)
            have HB := Hid.mk' (show Bx ((wr.alloc (.cells #[.int .i32 c, .int .i32 c] 54)).alloc (.cells #[.int .i64 0, .slice (some ⟨wr.heap.size, 0, none⟩) 1 1] 51)).drew (wr.heap.size + 1) 51 #[.int .i64 0, .slice (some ⟨wr.heap.size, 0, none⟩) 1 1] from (Bx.fresh' (wr.alloc _) (by simp) _ _).drawn 1)
            have HSX := Hid.mk' (show SpR ((wr.alloc (.cells #[.int .i32 c, .int .i32 c] 54)).alloc (.cells #[.int .i64 0, .slice (some ⟨wr.heap.size, 0, none⟩) 1 1] 51)).drew (.slice (some ⟨wr.heap.size, 0, none⟩) 1 1) [(c, c)] from rspan_made wr c _)
            go_wp2_with fail
            go_region_law (refine step_append_lies _ (by rfl) (.tmp 30) (.tmp 42) 40 (by rfl) w.heap.size 51 i0 _ 2 32 Tryd.underlying40 HI.out.1 HI.out.2.1 HI.out.2.2.1 HI.out.2.2.2 rfl (by decide) u4 q.length (flatR q) (by rfl) (HO.out.drew) ⟨wr.heap.size + 1, 0, none⟩ 1 1 [.int .i64 0, .slice (some ⟨wr.heap.size, 0, none⟩) 1 1] (by rfl) (by rfl) (World.news_of_block (cs := #[.int .i64 0, .slice (some ⟨wr.heap.size, 0, none⟩) 1 1]) (t := 51) (fr := (0, 0)) HB.out) (by simp [Value.oneCell']) (by omega) (by simp only [maxLen]; omega) (by omega) (by simp; omega) (wr.heap.size + 1 + 1) (by simp) ?_; intro gg cap w2 hown2 hgr2 hat hlt2)
            all_goals
              have E := Hid.mk' (HP.out.add (i' := i + 1) (oneP c, .slice (some ⟨wr.heap.size, 0, none⟩) 1 1) HSX.out (((Below.refl _ _).alloc (Nat.le_refl _) _).alloc (by simp) _).drew hgr2 hown2 (Nat.lt_succ_self _) hlt HE.out)
              clear hown2 hgr2 hat hlt2 HO HE HP HSX HB
              go_wp2_with fail
              go_roundw
              case rel => first | exact ⟨i + 1, _, by go_num, E⟩ | ((repeat apply Exists.intro); exact ⟨i + 1, _, by go_num, E⟩)
              case measure => simp [intOf]; omega
    · have E := Hid.mk' (HP.out.done HB0.out hlt)
      have hlti : ¬ (i : Int) < (l.length : Int) := by omega
      clear HP hlt
      go_wp2_with fail
      exact bodyPost_ret (v := .tuple #[u4, .bool true]) (by simp [results, Tryd.results18, go_sem]) rfl E.out
end Go.Proofs.YtfnjmboflegaaaaDoor
