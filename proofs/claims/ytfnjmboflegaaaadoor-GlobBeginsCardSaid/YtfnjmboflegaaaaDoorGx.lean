/- Layer 38 (glob): what a pattern begins with, by the code. -/
import Derived.Test.YtfnjmboflegaaaaDoorGv
import Derived.Laws.Cover4
namespace Go.Proofs.YtfnjmboflegaaaaDoor
open Go.RowKit

def aheadS : List Prt → List Int
  | [] => []
  | p :: ps => match aloneS p with | none => [] | some r => r :: aheadS ps
def r32 (l : List Int) : List Value := l.map (Value.int .i32)
theorem conv_str {w : World} {B : Nat} {v : Value} {l : List Int} (h : w.ownsRow B 21 1 v l.length (r32 l)) : (convert 36 9 v).run Tryd.prog w = .ok (.string (runesBytes l)) w := by
  obtain ⟨a, c, rfl⟩ := own_form h
  rw [run_convert_runes_string w 36 9 21 a l.length c Tryd.underlying36 Tryd.underlying21 Tryd.underlying9]
  rcases h.2 with ⟨hv, hl⟩ | ⟨g, cap, cur, hv, _⟩
  · have : l = [] := List.eq_nil_of_length_eq_zero hl
    subst this
    cases hv
    rfl
  · cases hv
    have hc := World.ownsRow.cells h (g := g) rfl
    have := run_loadCells_list (P := Tryd.prog) w ⟨g, 0, none⟩ (r32 l) hc
    rw [show (r32 l).length = l.length from by simp [r32]] at this
    exact run_runesToString w _ _ _ l this
theorem rune_info : (Tryd.prog.info? 21).map (fun i => (i.zero, i.size, i.bytes)) = some (some (.int .i32 0), 1, 4) := by kernel_rfl
/-- What the walk along the parts knows. -/
structure AI (w : World) (q : List (Prt × Value)) (v : Value) (k : Nat) (l : List Int) (wr : World) : Prop where
  k_le : k ≤ q.length
  l_le : l.length ≤ k
  own : wr.ownsRow w.heap.size 21 1 v l.length (r32 l)
  bel : Below w.heap.size w wr
  eq : aheadS (psq q) = l ++ aheadS (psq (q.drop k))
set_option maxHeartbeats 4000000 in
theorem ahead_any (s : ByteArray) (pv : Value) (q : List (Prt × Value)) (hq : q.length ≤ 100) (hsp : ∀ x ∈ q, x.1.sp.length ≤ 200) (w : World) (h : PtO w pv q) :
    Calls Tryd.prog 14 #[.agg #[.string s, pv]] w fun e w' => e = .returned (.string (runesBytes (aheadS (psq q)))) ∧ Below w.heap.size w w' := by
  obtain ⟨i0, hi, hz0, hz1, hz2⟩ := info_parts rune_info
  have HI := Hid.mk' (And.intro hi (And.intro hz0 (And.intro hz1 hz2)))
  clear hi hz0 hz1 hz2
  obtain ⟨pa, pc, rfl⟩ := own_form h.1
  have START := Hid.mk' (show AI w q (.slice none 0 0) 0 [] (w.alloc (.cells #[.string s, .slice pa q.length pc] 24)) from ⟨Nat.zero_le _, Nat.le_refl _, World.ownsRow_nil _ _ _ _, (Below.refl _ _).alloc (Nat.le_refl _) _, by simp⟩)
  have HH := Hid.mk' h
  have HSP := Hid.mk' hsp
  clear h hsp
  go_enter Tryd.func14, Tryd.ntmps14
  go_wp2_with fail
  go_loopw [3, 11] (fun v iv wr => ∃ (k : Nat) (l : List Int), iv = .int .i64 k ∧ Hid (AI w q v k l wr)) (fun _ iv _ => q.length - (intOf iv).toNat)
  case atStart => exact ⟨0, [], rfl, START⟩
  case round =>
    clear START
    obtain ⟨k, l, rfl, HM⟩ := hrel
    have hk := HM.out.k_le
    have hlk := HM.out.l_le
    have hbb := HM.out.bel.size
    by_cases hlt : k < q.length
    · have hpt := HH.out.next HM.out.bel
      obtain ⟨g, cap, hv, hle, c0, c1, c2⟩ := hpt.at k hlt
      cases hv
      obtain ⟨xa, xc, hx⟩ := own_form (hpt.2 _ (List.getElem_mem hlt))
      have hdr : q.drop k = q[k] :: q.drop (k + 1) := List.drop_eq_getElem_cons hlt
      have hC := fun (o : Obj) => alone_any q[k].1 q[k].2 (HSP.out _ (List.getElem_mem hlt)) (wr.alloc o) ((hpt.2 _ (List.getElem_mem hlt)).next ((Below.refl wr.heap.size wr).alloc (Nat.le_refl _) o))
      have hi : (k : Int) < (q.length : Int) := by omega
      rw [hx] at c2 hC
      have heq := HM.out.eq
      rw [hdr] at heq
      generalize q[k] = x at *
      obtain ⟨⟨row, nt, sp⟩, xv⟩ := x
      dsimp only at *
      have C := Hid.mk' (hC (.cells #[.bool row, .bool nt, .slice xa sp.length xc] 57))
      have bel1 := HM.out.bel.alloc hbb (.cells #[.bool row, .bool nt, .slice xa sp.length xc] 57)
      have own1 := HM.out.own.alloc (.cells #[.bool row, .bool nt, .slice xa sp.length xc] 57)
      have HB := Hid.mk' (And.intro bel1 own1)
      clear hC hpt hx hdr bel1 own1
      cases ho : aloneS ⟨row, nt, sp⟩ with
      | none =>
        have HA := Hid.mk' (show aheadS (psq q) = l by rw [heq]; simp [psq, aheadS, ho])
        rw [ho] at C
        clear ho heq
        go_wp2_with fail
        refine C.out.mono ?_; rintro e w2 ⟨rfl, hb2⟩
        have hcv := conv_str (own_next HB.out.2 hb2)
        have HB2 := Hid.mk' (bnext HB.out.1 hb2)
        clear hb2 C
        go_wp2_with fail
        go_ret
        exact ⟨by rw [HA.out]; rfl, HB2.out⟩
      | some r =>
        have HA := Hid.mk' (show aheadS (psq q) = (l ++ [r]) ++ aheadS (psq (q.drop (k + 1))) by rw [heq]; simp [psq, aheadS, ho])
        rw [ho] at C
        clear ho heq
        go_wp2_with fail
        refine C.out.mono ?_; rintro e w2 ⟨rfl, hb2⟩
        have own2 := own_next HB.out.2 hb2
        have bel2 := bnext HB.out.1 hb2
        have hs2 := bel2.size
        have H2 := Hid.mk' (And.intro own2 bel2)
        clear own2 bel2 hb2 C c0 c1 c2
        go_wp2_with (at_builtin; refine wpList_append_own _ rfl (.tmp 22) (.tmp 24) 36 rfl w.heap.size 21 i0 _ 1 4 Tryd.underlying36 HI.out.1 HI.out.2.1 HI.out.2.2.1 HI.out.2.2.2 rfl (by decide) _ l.length (r32 l) rfl (H2.out.1.alloc _) ⟨w2.heap.size, 0, none⟩ 1 1 [.int .i32 r] rfl rfl ?c1 ?c2 ?c3 ?c4 ?c5 ?_)
        try case c1 => exact World.news_of_block (cs := #[.int .i32 r]) (t := 21) (fr := (0, 0)) (heap_alloc_new w2 _)
        case c2 => simp [Value.oneCell']
        case c3 => simp only [maxLen]; omega
        case c4 => omega
        case c5 => simp; omega
        intro v4 W4 hown4 hgr4 _
        have E := Hid.mk' (show AI w q v4 (k + 1) (l ++ [r]) W4 from ⟨by omega, by simp; omega, by rw [List.length_append, show r32 (l ++ [r]) = r32 l ++ [.int .i32 r] from by simp [r32]]; exact hown4, (H2.out.2.alloc hs2 _).grown hgr4 (by simp; omega) (fun j hj => (H2.out.1.lt j hj).1), HA.out⟩)
        clear hown4 hgr4 H2 HB HM
        go_wp2_with fail
        go_roundw
        case rel => exact ⟨k + 1, _, by go_num, E⟩
        case measure => simp [intOf]; omega
    · have HA := Hid.mk' (show aheadS (psq q) = l by rw [HM.out.eq, List.drop_of_length_le (by omega)]; simp [psq, aheadS])
      have hcv := conv_str HM.out.own
      have hi : ¬ (k : Int) < (q.length : Int) := by omega
      have HB := Hid.mk' HM.out.bel
      clear HM
      go_wp2_with fail
      go_ret
      exact ⟨by rw [HA.out]; rfl, HB.out⟩
end Go.Proofs.YtfnjmboflegaaaaDoor
