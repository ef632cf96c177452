/- Layer 38 (glob): a pattern's parts, by the code. -/
import Derived.Test.YtfnjmboflegaaaaDoorGd
import Derived.RegionTactic
import Derived.BigRegion
import Derived.Deep.RegionLaw
namespace Go.Proofs.YtfnjmboflegaaaaDoor
open Go.RowKit

theorem prs_star (l : List Int) : prs (42 :: l) = (prs l).map (starP :: ·) := by show prsF (l.length + 1) _ = _; rw [prsF, if_pos rfl]; rfl
theorem prs_any (l : List Int) : prs (63 :: l) = (prs l).map (anyP :: ·) := by show prsF (l.length + 1) _ = _; rw [prsF, if_neg (by decide), if_pos rfl]; rfl
theorem prs_one (c : Int) (l : List Int) (h1 : c ≠ 42) (h2 : c ≠ 63) (h3 : c ≠ 91) : prs (c :: l) = (prs l).map (oneP c :: ·) := by show prsF (l.length + 1) _ = _; rw [prsF, if_neg h1, if_neg h2, if_neg h3]; rfl
theorem prs_none (l : List Int) (h : idxB l = none) : prs (91 :: l) = none := by show prsF (l.length + 1) _ = _; rw [prsF, if_neg (by decide), if_neg (by decide), if_pos rfl, h]
theorem prs_bad (l : List Int) (n : Nat) (h : idxB l = some n) (h2 : clsS (l.take n) = none) : prs (91 :: l) = none := by show prsF (l.length + 1) _ = _; rw [prsF, if_neg (by decide), if_neg (by decide), if_pos rfl, h]; simp only [h2]
theorem prs_cls (l : List Int) (n : Nat) (p : Prt) (h : idxB l = some n) (h2 : clsS (l.take n) = some p) : prs (91 :: l) = (prs (l.drop (n + 1))).map (p :: ·) := by
  show prsF (l.length + 1) _ = _; rw [prsF, if_neg (by decide), if_neg (by decide), if_pos rfl, h]
  simp only [h2]
  rw [prsF_more l.length (l.drop (n + 1)).length _ (by simp) (Nat.le_refl _)]; rfl
/-- What the walk along a pattern knows. -/
structure PI (w : World) (l : List Int) (pv : Value) (i : Nat) (q : List (Prt × Value)) (wr : World) : Prop where
  i_le : i ≤ l.length
  q_le : q.length ≤ i
  own : wr.ownsRow w.heap.size 57 3 pv q.length (flatP q)
  sp : ∀ x ∈ q, SpO wr x.2 x.1.sp
  bel : Below w.heap.size w wr
  eq : prs l = (prs (l.drop i)).map (q.map Prod.fst ++ ·)
theorem PI.add {w wr Wa W4 : World} {l : List Int} {pv v4 : Value} {i i' : Nat} {q : List (Prt × Value)} (H : PI w l pv i q wr) (x : Prt × Value) (hx : SpO Wa x.2 x.1.sp) (hb : Below wr.heap.size wr Wa) (hgr : Wa.grownBy W4 pv.ownBlock)
    (hown : W4.ownsRow w.heap.size 57 3 v4 (q.length + 1) (flatP q ++ [.bool x.1.row, .bool x.1.nt, x.2])) (hi : i < i') (hi' : i' ≤ l.length) (he : prs (l.drop i) = (prs (l.drop i')).map (x.1 :: ·)) : PI w l v4 i' (q ++ [x]) W4 := by
  have hOa := own_next H.own hb
  have hba := bnext H.bel hb
  refine ⟨hi', by have := H.q_le; simp; omega, by rw [List.length_append, flatP_snoc]; exact hown, fun y hy => ?_, hba.grown hgr hba.size (fun j hj => (H.own.lt j hj).1), ?_⟩
  · rcases List.mem_append.1 hy with h1 | h1
    · exact ((H.sp y h1).next hb).kept hOa hgr
    · simp at h1; subst h1; exact hx.kept hOa hgr
  · rw [H.eq, he]
    cases prs (l.drop i') <;> simp
theorem span_made (w : World) (c : Int) (o : Obj) : SpO ((w.alloc (.cells #[.int .i32 c, .int .i32 c] 70)).alloc o).drew (.slice (some ⟨w.heap.size, 0, none⟩) 1 1) [(c, c)] := by
  refine ⟨rfl, .inr ⟨w.heap.size, 1, #[.int .i32 c, .int .i32 c], rfl, Nat.zero_le _, ?_, Nat.le_refl _, by decide, rfl, rfl⟩⟩
  exact (Bx.fresh w _ _).past _
/-- What parse answers. -/
def PrsPost (w : World) (l : List Int) (e : Ending) (w' : World) : Prop :=
  ∃ pv b, e = .returned (.tuple #[pv, .bool b]) ∧ Below w.heap.size w w' ∧ ((prs l = none ∧ b = false) ∨ ∃ q : List (Prt × Value), prs l = some (q.map Prod.fst) ∧ b = true ∧ PtO w' pv q)
theorem PI.done {w wr : World} {l : List Int} {pv : Value} {i : Nat} {q : List (Prt × Value)} (H : PI w l pv i q wr) (hi : ¬ i < l.length) : PrsPost w l (.returned (.tuple #[pv, .bool true])) wr := by
  refine ⟨pv, true, rfl, H.bel, .inr ⟨q, ?_, rfl, ?_, H.sp⟩⟩
  · rw [H.eq, List.drop_of_length_le (by omega)]; simp [prs, prsF]
  · exact own_down H.own
theorem PI.none_ {w wr W : World} {l : List Int} {pv : Value} {i : Nat} {q : List (Prt × Value)} (H : PI w l pv i q wr) (hb : Below wr.heap.size wr W) (h : prs (l.drop i) = none) : PrsPost w l (.returned (.tuple #[.slice none 0 0, .bool false])) W :=
  ⟨_, _, rfl, bnext H.bel hb, .inl ⟨by rw [H.eq, h]; rfl, rfl⟩⟩

set_option maxRecDepth 100000 in
set_option maxHeartbeats 8000000 in
theorem parse_any (v : Value) (l : List Int) (hl : l.length ≤ 200) (w : World) (h : RS w v l) :
    Calls Tryd.prog 17 #[v] w (PrsPost w l) := by
  obtain ⟨i0, hi, hz0, hz1, hz2⟩ := info_parts part_info
  have HI := Hid.mk' (And.intro hi (And.intro hz0 (And.intro hz1 hz2)))
  obtain ⟨j0, hi', hz0', hz1', hz2'⟩ := info_parts span_info
  clear hi hz0 hz1 hz2 hi' hz0' hz1' hz2'
  have hlen := fun w' => h.len w'
  have HR := Hid.mk' h
  have START := Hid.mk' (show PI w l (.slice none 0 0) 0 [] w from ⟨Nat.zero_le _, Nat.le_refl _, World.ownsRow_nil _ _ _ _, (fun x hx => by cases hx), Below.refl _ _, by simp⟩)
  clear h
  go_enter Tryd.func17, Tryd.ntmps17
  go_wp2_with fail
  go_loopw [4, 5] (fun pv iv wr => ∃ (i : Nat) (q : List (Prt × Value)), iv = .int .i64 i ∧ Hid (PI w l pv i q wr)) (fun _ iv _ => l.length - (intOf iv).toNat)
  case atStart => exact ⟨0, [], rfl, START⟩
  case round =>
    clear START
    obtain ⟨i, q, rfl, HP⟩ := hrel
    have hil := HP.out.i_le
    have hql := HP.out.q_le
    have hbb := HP.out.bel.size
    by_cases hlt : i < l.length
    · have hr := HR.out.next HP.out.bel
      obtain ⟨p1, hx1, hc1, hp1⟩ := hr.at i hlt
      have hd : l.drop i = l[i] :: l.drop (i + 1) := List.drop_eq_getElem_cons hlt
      generalize l[i] = c at *
      have HD := Hid.mk' hd
      have HRR := Hid.mk' hr
      have hlti : (i : Int) < (l.length : Int) := by omega
      have hli : (l.length : Int) ≤ 200 := by omega
      clear hd hr
      by_cases h42 : c = 42
      · subst h42
        have HE := Hid.mk' (show prs (l.drop i) = (prs (l.drop (i + 1))).map (starP :: ·) by rw [HD.out, prs_star])
        have HO := Hid.mk' (HP.out.own.alloc (.cells #[.bool true, .bool true, .slice none 0 0] 57))
        clear hp1
        go_wp2_with (at_builtin; refine wpList_append_own _ rfl (.tmp 35) (.tmp 37) 22 rfl w.heap.size 57 i0 _ 3 32 Tryd.underlying22 HI.out.1 HI.out.2.1 HI.out.2.2.1 HI.out.2.2.2 rfl (by decide) _ q.length (flatP q) rfl (HO.out) ⟨wr.heap.size, 0, none⟩ 1 1 [.bool true, .bool true, .slice none 0 0] rfl rfl ?c1 ?c2 ?c3 ?c4 ?c5 ?_)
        try case c1 => exact World.news_of_block (cs := #[.bool true, .bool true, .slice none 0 0]) (t := 57) (fr := (0, 0)) (heap_alloc_new wr _)
        case c2 => simp [Value.oneCell']
        case c3 => simp only [maxLen]; omega
        case c4 => omega
        case c5 => simp; omega
        intro v4 W4 hown4 hgr4 _
        have E := Hid.mk' (HP.out.add (i' := i + 1) (starP, .slice none 0 0) (SpO.nil _) ((Below.refl _ _).alloc (Nat.le_refl _) _) hgr4 hown4 (Nat.lt_succ_self _) hlt HE.out)
        clear hown4 hgr4 HO HE HP
        go_wp2_with fail
        go_roundw
        case rel => exact ⟨i + 1, _, by go_num, E⟩
        case measure => simp [intOf]; omega
      · have t42 : (c == 42) = false := by simp [h42]
        by_cases h63 : c = 63
        · subst h63
          clear t42
          have HE := Hid.mk' (show prs (l.drop i) = (prs (l.drop (i + 1))).map (anyP :: ·) by rw [HD.out, prs_any])
          have HO := Hid.mk' (HP.out.own.alloc (.cells #[.bool false, .bool true, .slice none 0 0] 57))
          clear hp1
          go_wp2_with (at_builtin; refine wpList_append_own _ rfl (.tmp 41) (.tmp 43) 22 rfl w.heap.size 57 i0 _ 3 32 Tryd.underlying22 HI.out.1 HI.out.2.1 HI.out.2.2.1 HI.out.2.2.2 rfl (by decide) _ q.length (flatP q) rfl (HO.out) ⟨wr.heap.size, 0, none⟩ 1 1 [.bool false, .bool true, .slice none 0 0] rfl rfl ?c1 ?c2 ?c3 ?c4 ?c5 ?_)
          try case c1 => exact World.news_of_block (cs := #[.bool false, .bool true, .slice none 0 0]) (t := 57) (fr := (0, 0)) (heap_alloc_new wr _)
          case c2 => simp [Value.oneCell']
          case c3 => simp only [maxLen]; omega
          case c4 => omega
          case c5 => simp; omega
          intro v4 W4 hown4 hgr4 _
          have E := Hid.mk' (HP.out.add (i' := i + 1) (anyP, .slice none 0 0) (SpO.nil _) ((Below.refl _ _).alloc (Nat.le_refl _) _) hgr4 hown4 (Nat.lt_succ_self _) hlt HE.out)
          clear hown4 hgr4 HO HE HP
          go_wp2_with fail
          go_roundw
          case rel => exact ⟨i + 1, _, by go_num, E⟩
          case measure => simp [intOf]; omega
        · have t63 : (c == 63) = false := by simp [h63]
          by_cases h91 : c = 91
          · subst h91
            obtain ⟨v1, hcut1, hr1⟩ := HRR.out.from (i + 1) hlt
            rw [show ((i + 1 : Nat) : Int) = (i : Int) + 1 from by omega] at hcut1
            have ci := index_any v1 _ (by simp; omega) wr hr1
            clear hr1 t42 t63 h42 h63
            cases hidx : idxB (l.drop (i + 1)) with
            | none =>
              have hI : idxI (l.drop (i + 1)) = -1 := by unfold idxI; rw [hidx]
              rw [hI] at ci
              have CI := Hid.mk' ci
              have E := Hid.mk' (HP.out.none_ (Below.refl _ _) (by rw [HD.out]; exact prs_none _ hidx))
              clear ci hI hidx HP
              go_wp2_with fail
              refine CI.out.mono ?_; rintro e W2 ⟨rfl, rfl⟩
              go_wp2_with fail
              exact bodyPost_ret (v := .tuple #[.slice none 0 0, .bool false]) (by simp [results, Tryd.results17, go_sem]) rfl E.out
            | some n =>
              have hn := idxB_lt _ _ hidx
              simp only [List.length_drop] at hn
              have hI : idxI (l.drop (i + 1)) = (n : Int) := by unfold idxI; rw [hidx]
              rw [hI] at ci
              have CI := Hid.mk' ci
              obtain ⟨v2, hcut2, hr2⟩ := HRR.out.cut (i + 1) (i + 1 + n) (by omega) (by omega)
              rw [show i + 1 + n - (i + 1) = n from by omega] at hr2
              rw [show ((i + 1 : Nat) : Int) = (i : Int) + 1 from by omega, show ((i + 1 + n : Nat) : Int) = (i : Int) + 1 + (n : Int) from by omega] at hcut2
              have CC := Hid.mk' (class_any v2 _ (by simp; omega) wr hr2)
              have HX := Hid.mk' hidx
              have hnl : (i : Int) + 1 + (n : Int) < (l.length : Int) := by omega
              have hn0 : ¬ (n : Int) < 0 := by omega
              clear ci hI hidx hr2
              go_wp2_with fail
              refine CI.out.mono ?_; rintro e W2 ⟨rfl, rfl⟩
              go_wp2_with fail
              refine CC.out.mono ?_; rintro e W2 ⟨r, nt, sv, b, rfl, hb2, hres⟩
              rcases hres with ⟨hnone, rfl, sa, sn, sc, rfl⟩ | ⟨p, hsome, rfl, rfl, rfl, hsv⟩
              · have E := Hid.mk' (HP.out.none_ (hb2.alloc hb2.size (.cells #[.bool r, .bool nt, .slice sa sn sc] 57)) (by rw [HD.out]; exact prs_bad _ n HX.out hnone))
                clear hnone HP hb2
                go_wp2_with fail
                exact bodyPost_ret (v := .tuple #[.slice none 0 0, .bool false]) (by simp [results, Tryd.results17, go_sem]) rfl E.out
              · obtain ⟨sa, sc, rfl⟩ := own_form hsv
                have HE := Hid.mk' (show prs (l.drop i) = (prs (l.drop (i + 1 + n + 1))).map (p :: ·) by rw [HD.out, prs_cls _ n p HX.out hsome, List.drop_drop]; rfl)
                have hb3 := hb2.size
                have hba : Below wr.heap.size wr ((W2.alloc (.cells #[.bool p.row, .bool p.nt, .slice sa p.sp.length sc] 57)).alloc (.cells #[.bool p.row, .bool p.nt, .slice sa p.sp.length sc] 57)) := (hb2.alloc hb2.size _).alloc (by simp; omega) _
                have HB := Hid.mk' (And.intro hba (hsv.next (((Below.refl W2.heap.size W2).alloc (Nat.le_refl _) (.cells #[.bool p.row, .bool p.nt, .slice sa p.sp.length sc] 57)).alloc (by simp) (.cells #[.bool p.row, .bool p.nt, .slice sa p.sp.length sc] 57))))
                have HN := Hid.mk' (show Bx ((W2.alloc (.cells #[.bool p.row, .bool p.nt, .slice sa p.sp.length sc] 57)).alloc (.cells #[.bool p.row, .bool p.nt, .slice sa p.sp.length sc] 57)) (W2.heap.size + 1) 57 #[.bool p.row, .bool p.nt, .slice sa p.sp.length sc] from Bx.fresh' (W2.alloc _) (by simp) _ _)
                have hi1 : IntKind.i64.wrap (1 + (n : Int)) = 1 + (n : Int) := IntWalk.i64_in _ (by omega)
                have hi2 : IntKind.i64.wrap ((i : Int) + (1 + (n : Int))) = (i : Int) + (1 + (n : Int)) := IntWalk.i64_in _ (by omega)
                clear hsome hsv hb2 hba
                go_wp2_with (at_builtin; refine wpList_append_own _ rfl (.tmp 68) (.tmp 70) 22 rfl w.heap.size 57 i0 _ 3 32 Tryd.underlying22 HI.out.1 HI.out.2.1 HI.out.2.2.1 HI.out.2.2.2 rfl (by decide) _ q.length (flatP q) rfl (own_next HP.out.own HB.out.1) ⟨W2.heap.size + 1, 0, none⟩ 1 1 [.bool p.row, .bool p.nt, .slice sa p.sp.length sc] rfl rfl ?c1 ?c2 ?c3 ?c4 ?c5 ?_)
                try case c1 => exact World.news_of_block (cs := #[.bool p.row, .bool p.nt, .slice sa p.sp.length sc]) (t := 57) (fr := (0, 0)) HN.out
                case c2 => simp [Value.oneCell']
                case c3 => simp only [maxLen]; omega
                case c4 => omega
                case c5 => simp; omega
                intro v4 W4 hown4 hgr4 _
                have E := Hid.mk' (HP.out.add (i' := i + 1 + n + 1) (p, .slice sa p.sp.length sc) HB.out.2 HB.out.1 hgr4 hown4 (by omega) (by omega) HE.out)
                clear hown4 hgr4 HB HN HE HP
                go_wp2_with fail
                go_roundw
                case rel => exact ⟨i + 1 + n + 1, _, by go_num, E⟩
                case measure => simp [intOf]; omega
          · have t91 : (c == 91) = false := by simp [h91]
            have HE := Hid.mk' (show prs (l.drop i) = (prs (l.drop (i + 1))).map (oneP c :: ·) by rw [HD.out, prs_one c _ h42 h63 h91])
            clear h42 h63 h91
            have hown1 : ((wr.alloc (.cells #[.int .i32 c, .int .i32 c] 70)).alloc (.cells #[.bool false, .bool false, .slice (some ⟨wr.heap.size, 0, none⟩) 1 1] 57)).ownsRow w.heap.size 57 3 u4 q.length (flatP q) := (HP.out.own.alloc _).alloc _
            have HO := Hid.mk' hown1
            clear hown1
            have HB := Hid.mk' (show Bx ((wr.alloc (.cells #[.int .i32 c, .int .i32 c] 70)).alloc (.cells #[.bool false, .bool false, .slice (some ⟨wr.heap.size, 0, none⟩) 1 1] 57)).drew (wr.heap.size + 1) 57 #[.bool false, .bool false, .slice (some ⟨wr.heap.size, 0, none⟩) 1 1] from (Bx.fresh' (wr.alloc _) (by simp) _ _).drawn 1)
            have HSX := Hid.mk' (show SpO ((wr.alloc (.cells #[.int .i32 c, .int .i32 c] 70)).alloc (.cells #[.bool false, .bool false, .slice (some ⟨wr.heap.size, 0, none⟩) 1 1] 57)).drew (.slice (some ⟨wr.heap.size, 0, none⟩) 1 1) [(c, c)] from span_made wr c _)
            go_wp2_with fail
            go_region_law (refine step_append_lies _ (by rfl) (.tmp 19) (.tmp 31) 22 (by rfl) w.heap.size 57 i0 _ 3 32 Tryd.underlying22 HI.out.1 HI.out.2.1 HI.out.2.2.1 HI.out.2.2.2 rfl (by decide) u4 q.length (flatP q) (by rfl) (HO.out.drew) ⟨wr.heap.size + 1, 0, none⟩ 1 1 [.bool false, .bool false, .slice (some ⟨wr.heap.size, 0, none⟩) 1 1] (by rfl) (by rfl) (World.news_of_block (cs := #[.bool false, .bool false, .slice (some ⟨wr.heap.size, 0, none⟩) 1 1]) (t := 57) (fr := (0, 0)) HB.out) (by simp [Value.oneCell']) (by omega) (by simp only [maxLen]; omega) (by omega) (by simp; omega) (wr.heap.size + 1 + 1) (by simp) ?_; intro gg cap w2 hown2 hgr2 hat hlt2)
            all_goals
              have E := Hid.mk' (HP.out.add (i' := i + 1) (oneP c, .slice (some ⟨wr.heap.size, 0, none⟩) 1 1) HSX.out (((Below.refl _ _).alloc (Nat.le_refl _) _).alloc (by simp) _).drew hgr2 hown2 (Nat.lt_succ_self _) hlt HE.out)
              clear hown2 hgr2 hat hlt2 HO HE HP HSX HB
              go_wp2_with fail
              go_roundw
              case rel => first | exact ⟨i + 1, _, by go_num, E⟩ | ((repeat apply Exists.intro); exact ⟨i + 1, _, by go_num, E⟩)
              case measure => simp [intOf]; omega
    · have E := Hid.mk' (HP.out.done hlt)
      have hlti : ¬ (i : Int) < (l.length : Int) := by omega
      clear HP hlt
      go_wp2_with fail
      exact bodyPost_ret (v := .tuple #[u4, .bool true]) (by simp [results, Tryd.results17, go_sem]) rfl E.out
end Go.Proofs.YtfnjmboflegaaaaDoor
