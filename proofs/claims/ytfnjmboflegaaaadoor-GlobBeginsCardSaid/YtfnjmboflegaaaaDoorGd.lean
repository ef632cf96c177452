/- Layer 38 (glob): a class. -/
import Derived.Test.YtfnjmboflegaaaaDoorGc
namespace Go.Proofs.YtfnjmboflegaaaaDoor
open Go.RowKit

theorem RS.at {w : World} {v : Value} {l : List Int} (h : RS w v l) (i : Nat) (hi : i < l.length) :
    ∃ p : Addr, (∀ w', (Instr.indexAt 36 v (.int .i64 (i : Int))).run Tryd.prog w' = .ok (.pointer (some p)) w') ∧ w.cell? p = some (.int .i32 l[i]) ∧ p.block < w.heap.size := by
  obtain ⟨a, cap, rfl, hle, hn, hc⟩ := h
  obtain ⟨b, off, rfl, hcell⟩ := hc (fun e => by rw [e] at hi; simp at hi)
  have hel : Tryd.prog.elem 36 = 21 := by kernel_rfl
  have hu : Tryd.prog.underlying 36 = some (.slice (Tryd.prog.elem 36)) := by kernel_rfl
  have hs := Tryd.sizeOf21
  refine ⟨⟨b, off + i, none⟩, fun w' => ?_, hcell i hi, World.block_lt_of_cell? w _ (hcell i hi)⟩
  rw [run_indexAt_slice w' _ _ _ _ .i64 (i : Int) hu, if_pos (by omega), hel, hs]
  simp [Result.andThen, gaddp]
def lenOf (v : Value) : Nat := match v with | .slice _ n _ => n | _ => 0
theorem RS.lenOf {w : World} {v : Value} {l : List Int} (h : RS w v l) : lenOf v = l.length := by
  obtain ⟨a, cap, rfl, _⟩ := h
  rfl
theorem own_down {w : World} {B n : Nat} {e : TypeId} {sz : Nat} {v : Value} {xs : List Value} (h : w.ownsRow B e sz v n xs) : w.ownsRow 0 e sz v n xs := by
  refine ⟨h.1, ?_⟩
  rcases h.2 with h2 | ⟨g, cap, cur, a, b, c⟩
  · exact .inl h2
  · exact .inr ⟨g, cap, cur, a, Nat.zero_le _, c⟩
theorem own_form {w : World} {B n : Nat} {e : TypeId} {sz : Nat} {v : Value} {xs : List Value} (h : w.ownsRow B e sz v n xs) : ∃ a cap, v = .slice a n cap := by
  rcases h.2 with ⟨rfl, rfl⟩ | ⟨g, cap, cur, rfl, _⟩
  · exact ⟨_, _, rfl⟩
  · exact ⟨_, _, rfl⟩
theorem cls_end {w w' : World} {l l0 : List Int} {nt : Bool} {done : List (Int × Int)} {sv : Value} (h1 : clsS l = match spF l0 with | none => none | some sp => if sp = [] then none else some ⟨false, nt, sp⟩) (h2 : spF l0 = some done) (ho : SpO w' sv done) (hb : Below w.heap.size w w') :
    ClsPost w l (.returned (.tuple #[.agg #[.bool false, .bool nt, sv], .bool (decide (0 < done.length))])) w' := by
  refine ⟨false, nt, sv, _, rfl, hb, ?_⟩
  rw [h2] at h1
  dsimp only at h1
  cases done with
  | nil => left; obtain ⟨a, c, hv⟩ := own_form ho; exact ⟨h1, by simp, a, _, c, hv⟩
  | cons s d => right; exact ⟨_, h1, by simp, rfl, rfl, ho⟩
/-- What the walk along a class knows. -/
def ClsInv (w : World) (nt : Bool) (l0 : List Int) (lv : Value) (wr : World) : Prop :=
  ∃ (rem : List Int) (done : List (Int × Int)) (sa : Option Addr) (sc : Nat), RS w lv rem ∧ done.length + rem.length ≤ 200 ∧ Bx wr w.heap.size 57 #[.bool false, .bool false, .slice none 0 0] ∧ Bx wr (w.heap.size + 1) 57 #[.bool false, .bool nt, .slice sa done.length sc] ∧
    wr.ownsRow w.heap.size 70 2 (.slice sa done.length sc) done.length (flatS done) ∧ Below w.heap.size w wr ∧ spF l0 = (spF rem).map (done ++ ·)

set_option maxRecDepth 100000 in
set_option maxHeartbeats 8000000 in
theorem class_nil (v : Value)  (hl : ([] : List Int).length ≤ 200) (w : World) (h : RS w v ([] : List Int)) :
    Calls Tryd.prog 26 #[v] w (ClsPost w ([] : List Int)) := by
  obtain ⟨i0, hi, hz0, hz1, hz2⟩ := info_parts span_info
  have HI := Hid.mk' (And.intro hi (And.intro hz0 (And.intro hz1 hz2)))
  clear hi hz0 hz1 hz2
  have hcls : clsS ([] : List Int) = match spF ([] : List Int) with | none => none | some sp => if sp = [] then none else some ⟨false, false, sp⟩ := by
    first | rfl | (unfold clsS; rw [show decide (List.head? ([] : List Int) = some 94) = false from by simpa using hh]; rfl)
  have HCLS := Hid.mk' hcls
  clear hcls
  have e0 : Below w.heap.size w ((w.alloc (.cells #[.bool false, .bool false, .slice none 0 0] 57)).alloc (.cells #[.bool false, .bool false, .slice none 0 0] 57)) := ((Below.refl _ _).alloc (Nat.le_refl _) _).alloc (by simp) _
  have hb0 : Bx ((w.alloc (.cells #[.bool false, .bool false, .slice none 0 0] 57)).alloc (.cells #[.bool false, .bool false, .slice none 0 0] 57)) w.heap.size 57 #[.bool false, .bool false, .slice none 0 0] := (Bx.fresh w _ _).past _
  have hb1 : Bx ((w.alloc (.cells #[.bool false, .bool false, .slice none 0 0] 57)).alloc (.cells #[.bool false, .bool false, .slice none 0 0] 57)) (w.heap.size + 1) 57 #[.bool false, .bool false, .slice none 0 0] := Bx.fresh' (w.alloc _) (by simp) _ _
  have hr0 := h.next e0
  have hlen := fun w' => h.len w'
  simp only [List.length_nil] at hlen
  have START := Hid.mk' (show ClsInv w false [] v ((w.alloc (.cells #[.bool false, .bool false, .slice none 0 0] 57)).alloc (.cells #[.bool false, .bool false, .slice none 0 0] 57)) from ⟨[], [], none, 0, h, by simp, hb0, hb1, World.ownsRow_nil _ _ _ _, e0, by simp [spF]⟩)
  clear hb0 hb1 h hr0 e0 hl
  go_enter Tryd.func26, Tryd.ntmps26
  go_wp2_with fail
  go_loopw [0] (fun lv wr => Hid (ClsInv w false ([] : List Int) lv wr)) (fun lv _ => lenOf lv)
  case atStart => exact START.out
  case round =>
    clear START
    obtain ⟨rem, done, sa, sc, hrw, hdl, hb0, hb1, ho, hbel, hsp⟩ := hrel.out
    have hr := hrw.next hbel
    have hlenr := fun w' => hr.len w'
    have hmes := hr.lenOf
    clear hrel
    cases rem with
    | nil =>
      clear hr hrw
      have hdl' : done.length ≤ 200 := by simpa using hdl
      have HS := Hid.mk' (And.intro hb0 (And.intro hb1 (And.intro ho (And.intro hbel (And.intro hsp hdl')))))
      obtain ⟨o0, o1, o2⟩ := hb1.reads3
      obtain ⟨y0, y1, y2⟩ := Bx.opens3 hb0
      obtain ⟨z0, z1, z2⟩ := hb0.reads3
      simp only [List.length_nil, Int.natCast_zero] at hlenr hmes
      clear hb0 hb1 ho hbel hdl hsp hdl' hmes
      go_wp2_with fail
      go_region
      obtain ⟨hb0, hb1, ho, hbel, hsp, hdl⟩ := HS.out
      have bR : Bx (((wr.setCell ⟨w.heap.size, 0, none⟩ (.bool false)).setCell ⟨w.heap.size, 1, none⟩ (.bool false)).setCell ⟨w.heap.size, 2, none⟩ (.slice sa done.length sc)).drew w.heap.size 57 #[.bool false, .bool false, .slice sa done.length sc] := Bx.drawn (hb0.put3 (x := .bool false) (y := .bool false) (z := .slice sa done.length sc)) 1
      have hB : Below w.heap.size w (((wr.setCell ⟨w.heap.size, 0, none⟩ (.bool false)).setCell ⟨w.heap.size, 1, none⟩ (.bool false)).setCell ⟨w.heap.size, 2, none⟩ (.slice sa done.length sc)).drew := below_gb hbel (gb_trans (gb_trans (gb_trans (gb_set wr w.heap.size 0 _) (gb_set _ w.heap.size 1 _)) (gb_set _ w.heap.size 2 _)) (gb_drew _ _)) (Nat.le_refl _)
      have hO : SpO (((wr.setCell ⟨w.heap.size, 0, none⟩ (.bool false)).setCell ⟨w.heap.size, 1, none⟩ (.bool false)).setCell ⟨w.heap.size, 2, none⟩ (.slice sa done.length sc)).drew (.slice sa done.length sc) done := World.ownsRow.kept (own_down ho) (gb_trans (gb_trans (gb_trans (gb_set wr w.heap.size 0 _) (gb_set _ w.heap.size 1 _)) (gb_set _ w.heap.size 2 _)) (gb_drew _ _)) (.inr (bx_apart hb0 ho (by decide)))
      have E := Hid.mk' (cls_end HCLS.out (show spF ([] : List Int) = some done by simpa [spF] using hsp) hO hB)
      clear hb0 hb1 ho hbel hsp hdl HS hB hO
      generalize (((wr.setCell ⟨w.heap.size, 0, none⟩ (.bool false)).setCell ⟨w.heap.size, 1, none⟩ (.bool false)).setCell ⟨w.heap.size, 2, none⟩ (.slice sa done.length sc)).drew = W2 at *
      obtain ⟨q0, q1, q2⟩ := bR.reads3
      go_wp2_with fail
      exact bodyPost_ret (v := .tuple #[.agg #[.bool false, .bool false, .slice sa done.length sc], .bool (decide (0 < done.length))]) (by simp [results, Tryd.results26, go_sem, q0, q1, q2]) rfl E.out
    | cons a rest =>
      obtain ⟨p1, hx1, hc1, hp1⟩ := hr.at 0 (by simp)
      simp only [List.getElem_cons_zero] at hc1
      rw [show ((0 : Nat) : Int) = 0 from rfl] at hx1
      obtain ⟨nr, hnr⟩ : ∃ n : Nat, n = (a :: rest).length := ⟨_, rfl⟩
      have hpos1 : (0 : Int) < (nr : Int) := by rw [hnr]; simp
      rw [← hnr] at hlenr hmes
      by_cases h3 : 2 < (a :: rest).length ∧ rest.head? = some 45
      · obtain ⟨c, t, rfl⟩ : ∃ c t, rest = 45 :: c :: t := by
          obtain ⟨ha, hb⟩ := h3
          match rest, ha, hb with
          | [b], ha, hb => simp at ha
          | b :: c :: t, ha, hb => simp at hb; subst hb; exact ⟨c, t, rfl⟩
        rw [spF_span] at hsp
        obtain ⟨p2, hx2, hc2, hp2⟩ := hr.at 1 (by simp)
        obtain ⟨p3, hx3, hc3, hp3⟩ := hr.at 2 (by simp)
        simp only [List.getElem_cons_succ, List.getElem_cons_zero] at hc2 hc3
        rw [show ((1 : Nat) : Int) = 1 from rfl] at hx2
        rw [show ((2 : Nat) : Int) = 2 from rfl] at hx3
        have h2' : (2 : Int) < (nr : Int) := by simp only [List.length_cons] at hnr; omega
        by_cases hca : c < a
        · rw [if_pos hca] at hsp
          have HS := Hid.mk' (And.intro hb0 (And.intro hb1 (And.intro ho (And.intro hbel hsp))))
          clear hsp hdl h3 hnr hr hrw
          clear hb0 hb1 ho hbel
          go_wp2_with fail
          go_region
          clear hx1 hc1 hp1
          obtain ⟨hb0, hb1, ho, hbel, hsp⟩ := HS.out
          have hN2 := hbel.size
          have hN3 := hb1.inside
          have bS : Bx (wr.alloc (.cells #[.int .i32 a, .int .i32 a] 70)).drew wr.heap.size 70 #[.int .i32 a, .int .i32 a] := (Bx.fresh wr _ _).drawn 1
          have bW : Below wr.heap.size wr (wr.alloc (.cells #[.int .i32 a, .int .i32 a] 70)).drew := ((Below.refl _ _).alloc (Nat.le_refl _) _).drew
          have bP := hb1.next bW
          have bZ := hb0.next bW
          have oW := own_next ho bW
          have below1 := bnext hbel bW
          rw [← bW.cell hp2] at hc2
          have hpn2 : p2.block ≠ wr.heap.size := Nat.ne_of_lt hp2
          rw [← bW.cell hp3] at hc3
          have hpn3 : p3.block ≠ wr.heap.size := Nat.ne_of_lt hp3
          have hNP : wr.heap.size ≠ w.heap.size + 1 := by omega
          have hNZ : wr.heap.size ≠ w.heap.size := by omega
          have hoN : (Value.slice sa done.length sc).ownBlock ≠ some wr.heap.size := fun e => by have := (ho.lt _ e).2; omega
          have hSZ : wr.heap.size < ((wr.alloc (.cells #[.int .i32 a, .int .i32 a] 70)).drew).heap.size := by simp
          clear hb0 hb1 ho bW HS hbel
          generalize (wr.alloc (.cells #[.int .i32 a, .int .i32 a] 70)).drew = W1 at *
          generalize hNN : wr.heap.size = N1 at *
          have HNN := Hid.mk' (And.intro hN2 (And.intro hN3 hSZ))
          clear hNN hN2 hN3 hSZ
          have bS2 := bS.put 1 (.int .i32 c)
          simp only [List.setIfInBounds_toArray, List.set_cons_succ, List.set_cons_zero] at bS2
          have bP2 := bP.beside (p := ⟨N1, 1, none⟩) hNP (.int .i32 c)
          have bZ2 := bZ.beside (p := ⟨N1, 1, none⟩) hNZ (.int .i32 c)
          have below2 := below_gb below1 (gb_set W1 N1 1 (.int .i32 c)) HNN.out.1
          have s0 : W1.cell? ⟨N1, 0, none⟩ = some (.int .i32 a) := bS.read (i := 0) rfl
          have s1 : W1.cell? ⟨N1, 1, none⟩ = some (.int .i32 a) := bS.read (i := 1) rfl
          obtain ⟨f0, f1⟩ := And.intro (bS.open_ 0) (bS.open_ 1)
          obtain ⟨z0, z1, z2⟩ := bZ.reads3
          obtain ⟨y0, y1, y2⟩ := Bx.opens3 bZ
          have HS := Hid.mk' (And.intro bZ2 below2)
          clear bS bP bZ oW below1 bS2 bP2 bZ2 below2 hoN
          go_wp2_with fail
          have bR : Bx ((((W1.setCell ⟨N1, 1, none⟩ (.int .i32 c)).setCell ⟨w.heap.size, 0, none⟩ (.bool false)).setCell ⟨w.heap.size, 1, none⟩ (.bool false)).setCell ⟨w.heap.size, 2, none⟩ (.slice none 0 0)) w.heap.size 57 #[.bool false, .bool false, .slice none 0 0] := HS.out.1.put3
          have hB : Below w.heap.size w ((((W1.setCell ⟨N1, 1, none⟩ (.int .i32 c)).setCell ⟨w.heap.size, 0, none⟩ (.bool false)).setCell ⟨w.heap.size, 1, none⟩ (.bool false)).setCell ⟨w.heap.size, 2, none⟩ (.slice none 0 0)) := below_gb HS.out.2 (gb_trans (gb_trans (gb_set _ w.heap.size 0 _) (gb_set _ w.heap.size 1 _)) (gb_set _ w.heap.size 2 _)) (Nat.le_refl _)
          obtain ⟨q0, q1, q2⟩ := bR.reads3
          have hnone : clsS ([] : List Int) = none := by rw [HCLS.out, hsp]; rfl
          exact bodyPost_ret (v := .tuple #[.agg #[.bool false, .bool false, .slice none 0 0], .bool false]) (by simp [results, Tryd.results26, go_sem, q0, q1, q2]) rfl ⟨_, _, _, _, rfl, hB, .inl ⟨hnone, rfl, _, _, _, rfl⟩⟩
        · rw [if_neg hca] at hsp
          obtain ⟨v2, hcut2, hr2⟩ := hrw.from 3 (by simp)
          simp only [List.drop_succ_cons, List.drop_zero] at hr2
          rw [show ((3 : Nat) : Int) = 3 from rfl] at hcut2
          have HQ := Hid.mk' (And.intro hsp (And.intro hdl (And.intro hr2 hnr)))
          have HS := Hid.mk' (And.intro hb0 (And.intro hb1 (And.intro ho hbel)))
          clear hsp hdl hr2 hnr hr hrw h3
          clear hb0 hb1 ho hbel
          go_wp2_with fail
          go_region
          clear hx1 hc1 hp1
          obtain ⟨hb0, hb1, ho, hbel⟩ := HS.out
          have hN2 := hbel.size
          have hN3 := hb1.inside
          have bS : Bx (wr.alloc (.cells #[.int .i32 a, .int .i32 a] 70)).drew wr.heap.size 70 #[.int .i32 a, .int .i32 a] := (Bx.fresh wr _ _).drawn 1
          have bW : Below wr.heap.size wr (wr.alloc (.cells #[.int .i32 a, .int .i32 a] 70)).drew := ((Below.refl _ _).alloc (Nat.le_refl _) _).drew
          have bP := hb1.next bW
          have bZ := hb0.next bW
          have oW := own_next ho bW
          have below1 := bnext hbel bW
          rw [← bW.cell hp2] at hc2
          have hpn2 : p2.block ≠ wr.heap.size := Nat.ne_of_lt hp2
          rw [← bW.cell hp3] at hc3
          have hpn3 : p3.block ≠ wr.heap.size := Nat.ne_of_lt hp3
          have hNP : wr.heap.size ≠ w.heap.size + 1 := by omega
          have hNZ : wr.heap.size ≠ w.heap.size := by omega
          have hoN : (Value.slice sa done.length sc).ownBlock ≠ some wr.heap.size := fun e => by have := (ho.lt _ e).2; omega
          have hSZ : wr.heap.size < ((wr.alloc (.cells #[.int .i32 a, .int .i32 a] 70)).drew).heap.size := by simp
          clear hb0 hb1 ho bW HS hbel
          generalize (wr.alloc (.cells #[.int .i32 a, .int .i32 a] 70)).drew = W1 at *
          generalize hNN : wr.heap.size = N1 at *
          have HNN := Hid.mk' (And.intro hN2 (And.intro hN3 hSZ))
          clear hNN hN2 hN3 hSZ
          have bS2 := bS.put 1 (.int .i32 c)
          simp only [List.setIfInBounds_toArray, List.set_cons_succ, List.set_cons_zero] at bS2
          have bP2 := bP.beside (p := ⟨N1, 1, none⟩) hNP (.int .i32 c)
          have bZ2 := bZ.beside (p := ⟨N1, 1, none⟩) hNZ (.int .i32 c)
          have below2 := below_gb below1 (gb_set W1 N1 1 (.int .i32 c)) HNN.out.1
          have oW2 := oW.kept (gb_set W1 N1 1 (.int .i32 c)) (.inr hoN)
          have s0 : W1.cell? ⟨N1, 0, none⟩ = some (.int .i32 a) := bS.read (i := 0) rfl
          have s1 : W1.cell? ⟨N1, 1, none⟩ = some (.int .i32 a) := bS.read (i := 1) rfl
          obtain ⟨f0, f1⟩ := And.intro (bS.open_ 0) (bS.open_ 1)
          obtain ⟨o0, o1, o2⟩ := bP.reads3
          obtain ⟨x0, x1, x2⟩ := bP.opens3
          have hSZ2 : w.heap.size ≤ (W1.setCell ⟨N1, 1, none⟩ (.int .i32 c)).heap.size := by have := HNN.out; simp; omega
          have HS := Hid.mk' (And.intro bZ2 (And.intro bP2 (And.intro oW2 (And.intro below2 hSZ2))))
          have hdl : done.length ≤ 200 := by have := HQ.out.2.1; omega
          clear bS bP bZ oW below1 hoN hSZ2 bS2 bP2 bZ2 oW2 below2
          go_wp2_with (at_builtin; refine wpList_append_own _ rfl (.tmp 49) (.tmp 51) 55 rfl w.heap.size 70 i0 _ 2 8 Tryd.underlying55 HI.out.1 HI.out.2.1 HI.out.2.2.1 HI.out.2.2.2 rfl (by decide) (.slice sa done.length sc) done.length _ rfl (World.ownsRow.alloc HS.out.2.2.1 _) ⟨W1.heap.size, 0, none⟩ 1 1 [.int .i32 a, .int .i32 c] rfl rfl ?c1 ?c2 ?c3 ?c4 ?c5 ?_)
          try case c1 => (have hh := World.news_of_block (cs := #[.int .i32 a, .int .i32 c]) (t := 70) (fr := (0, 0)) (heap_alloc_new (W1.setCell ⟨N1, 1, none⟩ (.int .i32 c)) (.cells #[.int .i32 a, .int .i32 c] 70)); rw [show (W1.setCell ⟨N1, 1, none⟩ (.int .i32 c)).heap.size = W1.heap.size from by simp] at hh; exact hh)
          case c2 => simp [Value.oneCell']
          case c3 => simp only [maxLen]; omega
          case c4 => omega
          case c5 => have := HS.out.2.2.2.2; simp; (try simp at this); omega
          intro v4 W4 hown4 hgr4 _
          obtain ⟨bZ, bP, oW, below1, hSZ⟩ := HS.out
          have bZ4 := (bZ.past (.cells #[.int .i32 a, .int .i32 c] 70)).grown hgr4 (bx_apart bZ oW (by decide))
          have bP4 := (bP.past (.cells #[.int .i32 a, .int .i32 c] 70)).grown hgr4 (bx_apart bP oW (by decide))
          have hap := bx_apart bP4 hown4 (by decide)
          have below4 : Below w.heap.size w W4 := (below1.alloc below1.size _).grown hgr4 (by have := below1.size; simp; (try simp at this); omega) (fun j hj => (oW.lt j hj).1)
          obtain ⟨sa4, sc4, rfl⟩ := own_form hown4
          obtain ⟨o0, o1, o2⟩ := bP4.reads3
          obtain ⟨x0, x1, x2⟩ := bP4.opens3
          have bP5 : Bx (W4.setCell ⟨w.heap.size + 1, 2, none⟩ (.slice sa4 (done.length + 1) sc4)) (w.heap.size + 1) 57 #[.bool false, .bool false, .slice sa4 (done.length + 1) sc4] := bP4.put 2 _
          have bZ5 := bZ4.beside (p := ⟨w.heap.size + 1, 2, none⟩) (by simp) (.slice sa4 (done.length + 1) sc4)
          have oW5 := hown4.kept (gb_set W4 (w.heap.size + 1) 2 (.slice sa4 (done.length + 1) sc4)) (.inr hap)
          have below5 := below_gb below4 (gb_set W4 (w.heap.size + 1) 2 (.slice sa4 (done.length + 1) sc4)) (Nat.le_succ _)
          have HE : ClsInv w false ([] : List Int) v2 (W4.setCell ⟨w.heap.size + 1, 2, none⟩ (.slice sa4 (done.length + 1) sc4)) := by
            refine ⟨t, done ++ [(a, c)], sa4, sc4, HQ.out.2.2.1, ?_, bZ5, ?_, ?_, below5, ?_⟩
            · have := HQ.out.2.1; simp at this; simp; omega
            · rw [List.length_append]; exact bP5
            · rw [List.length_append, flatS_snoc]; exact oW5
            · rw [HQ.out.1, map_app]
          have HE' := Hid.mk' HE
          have hm2 := HQ.out.2.2.1.lenOf
          have hm3 := HQ.out.2.2.2
          have HM := Hid.mk' (And.intro hm2 hm3)
          clear hm2 hm3
          clear HE HS bZ bP oW below1 hSZ bZ4 bP4 hap below4 bP5 bZ5 oW5 below5 hown4 hgr4 s0 s1 f0 f1
          go_wp2_with fail
          go_roundw
          case rel => exact HE'
          case measure => have hm3 := HM.out.2; have hm2 := HM.out.1; simp only [List.length_cons] at hm3 hm2; show lenOf v2 < lenOf u0; rw [hm2, hmes]; omega
      · rw [spF_one _ _ h3] at hsp
        obtain ⟨v2, hcut2, hr2⟩ := hrw.from 1 (by simp)
        simp only [List.drop_succ_cons, List.drop_zero] at hr2
        rw [show ((1 : Nat) : Int) = 1 from rfl] at hcut2
        by_cases h2 : 2 < nr
        · have h2' : (2 : Int) < (nr : Int) := by omega
          obtain ⟨b, t, rfl⟩ : ∃ b t, rest = b :: t := by
            cases rest with
            | nil => simp at hnr; omega
            | cons b t => exact ⟨b, t, rfl⟩
          obtain ⟨p2, hx2, hc2, hp2⟩ := hr.at 1 (by simp)
          simp only [List.getElem_cons_succ, List.getElem_cons_zero] at hc2
          rw [show ((1 : Nat) : Int) = 1 from rfl] at hx2
          have t2 : (b == 45) = false := by
            rw [beq_eq_false_iff_ne]
            intro e
            exact h3 ⟨by rw [← hnr]; exact h2, by rw [e]; rfl⟩
          have HQ := Hid.mk' (And.intro hsp (And.intro hdl (And.intro hr2 hnr)))
          have HS := Hid.mk' (And.intro hb0 (And.intro hb1 (And.intro ho hbel)))
          clear hsp hdl hr2 hnr hr hrw h3 h2
          clear hb0 hb1 ho hbel
          go_wp2_with fail
          go_region
          clear hx1 hc1 hp1
          obtain ⟨hb0, hb1, ho, hbel⟩ := HS.out
          have hN2 := hbel.size
          have hN3 := hb1.inside
          have bS : Bx (wr.alloc (.cells #[.int .i32 a, .int .i32 a] 70)).drew wr.heap.size 70 #[.int .i32 a, .int .i32 a] := (Bx.fresh wr _ _).drawn 1
          have bW : Below wr.heap.size wr (wr.alloc (.cells #[.int .i32 a, .int .i32 a] 70)).drew := ((Below.refl _ _).alloc (Nat.le_refl _) _).drew
          have bP := hb1.next bW
          have bZ := hb0.next bW
          have oW := own_next ho bW
          have below1 := bnext hbel bW
          rw [← bW.cell hp2] at hc2
          have hpn2 : p2.block ≠ wr.heap.size := Nat.ne_of_lt hp2
          have hNP : wr.heap.size ≠ w.heap.size + 1 := by omega
          have hNZ : wr.heap.size ≠ w.heap.size := by omega
          have hoN : (Value.slice sa done.length sc).ownBlock ≠ some wr.heap.size := fun e => by have := (ho.lt _ e).2; omega
          have hSZ : wr.heap.size < ((wr.alloc (.cells #[.int .i32 a, .int .i32 a] 70)).drew).heap.size := by simp
          clear hb0 hb1 ho bW HS hbel
          generalize (wr.alloc (.cells #[.int .i32 a, .int .i32 a] 70)).drew = W1 at *
          generalize hNN : wr.heap.size = N1 at *
          have HNN := Hid.mk' (And.intro hN2 (And.intro hN3 hSZ))
          clear hNN hN2 hN3 hSZ
          have s0 : W1.cell? ⟨N1, 0, none⟩ = some (.int .i32 a) := bS.read (i := 0) rfl
          have s1 : W1.cell? ⟨N1, 1, none⟩ = some (.int .i32 a) := bS.read (i := 1) rfl
          obtain ⟨o0, o1, o2⟩ := bP.reads3
          obtain ⟨x0, x1, x2⟩ := bP.opens3
          have hSZ2 : w.heap.size ≤ W1.heap.size := by have := HNN.out; simp; omega
          have HS := Hid.mk' (And.intro bZ (And.intro bP (And.intro oW (And.intro below1 hSZ2))))
          have hdl : done.length ≤ 200 := by have := HQ.out.2.1; omega
          clear bS bP bZ oW below1 hoN hSZ2
          go_wp2_with (at_builtin; refine wpList_append_own _ rfl (.tmp 49) (.tmp 51) 55 rfl w.heap.size 70 i0 _ 2 8 Tryd.underlying55 HI.out.1 HI.out.2.1 HI.out.2.2.1 HI.out.2.2.2 rfl (by decide) (.slice sa done.length sc) done.length _ rfl (World.ownsRow.alloc HS.out.2.2.1 _) ⟨W1.heap.size, 0, none⟩ 1 1 [.int .i32 a, .int .i32 a] rfl rfl ?c1 ?c2 ?c3 ?c4 ?c5 ?_)
          try case c1 => exact World.news_of_block (cs := #[.int .i32 a, .int .i32 a]) (t := 70) (fr := (0, 0)) (heap_alloc_new W1 (.cells #[.int .i32 a, .int .i32 a] 70))
          case c2 => simp [Value.oneCell']
          case c3 => simp only [maxLen]; omega
          case c4 => omega
          case c5 => have := HS.out.2.2.2.2; simp; (try simp at this); omega
          intro v4 W4 hown4 hgr4 _
          obtain ⟨bZ, bP, oW, below1, hSZ⟩ := HS.out
          have bZ4 := (bZ.past (.cells #[.int .i32 a, .int .i32 a] 70)).grown hgr4 (bx_apart bZ oW (by decide))
          have bP4 := (bP.past (.cells #[.int .i32 a, .int .i32 a] 70)).grown hgr4 (bx_apart bP oW (by decide))
          have hap := bx_apart bP4 hown4 (by decide)
          have below4 : Below w.heap.size w W4 := (below1.alloc below1.size _).grown hgr4 (by have := below1.size; simp; (try simp at this); omega) (fun j hj => (oW.lt j hj).1)
          obtain ⟨sa4, sc4, rfl⟩ := own_form hown4
          obtain ⟨o0, o1, o2⟩ := bP4.reads3
          obtain ⟨x0, x1, x2⟩ := bP4.opens3
          have bP5 : Bx (W4.setCell ⟨w.heap.size + 1, 2, none⟩ (.slice sa4 (done.length + 1) sc4)) (w.heap.size + 1) 57 #[.bool false, .bool false, .slice sa4 (done.length + 1) sc4] := bP4.put 2 _
          have bZ5 := bZ4.beside (p := ⟨w.heap.size + 1, 2, none⟩) (by simp) (.slice sa4 (done.length + 1) sc4)
          have oW5 := hown4.kept (gb_set W4 (w.heap.size + 1) 2 (.slice sa4 (done.length + 1) sc4)) (.inr hap)
          have below5 := below_gb below4 (gb_set W4 (w.heap.size + 1) 2 (.slice sa4 (done.length + 1) sc4)) (Nat.le_succ _)
          have HE : ClsInv w false ([] : List Int) v2 (W4.setCell ⟨w.heap.size + 1, 2, none⟩ (.slice sa4 (done.length + 1) sc4)) := by
            refine ⟨(b :: t), done ++ [(a, a)], sa4, sc4, HQ.out.2.2.1, ?_, bZ5, ?_, ?_, below5, ?_⟩
            · have := HQ.out.2.1; simp at this; simp; omega
            · rw [List.length_append]; exact bP5
            · rw [List.length_append, flatS_snoc]; exact oW5
            · rw [HQ.out.1, map_app]
          have HE' := Hid.mk' HE
          have hm2 := HQ.out.2.2.1.lenOf
          have hm3 := HQ.out.2.2.2
          have HM := Hid.mk' (And.intro hm2 hm3)
          clear hm2 hm3
          clear HE HS bZ bP oW below1 hSZ bZ4 bP4 hap below4 bP5 bZ5 oW5 below5 hown4 hgr4 s0 s1
          go_wp2_with fail
          go_roundw
          case rel => exact HE'
          case measure => have hm3 := HM.out.2; have hm2 := HM.out.1; simp only [List.length_cons] at hm3 hm2; show lenOf v2 < lenOf u0; rw [hm2, hmes]; omega
        · have h2' : ¬ (2 : Int) < (nr : Int) := by omega
          have HQ := Hid.mk' (And.intro hsp (And.intro hdl (And.intro hr2 hnr)))
          have HS := Hid.mk' (And.intro hb0 (And.intro hb1 (And.intro ho hbel)))
          clear hsp hdl hr2 hnr hr hrw h3 h2
          clear hb0 hb1 ho hbel
          go_wp2_with fail
          go_region
          clear hx1 hc1 hp1
          obtain ⟨hb0, hb1, ho, hbel⟩ := HS.out
          have hN2 := hbel.size
          have hN3 := hb1.inside
          have bS : Bx (wr.alloc (.cells #[.int .i32 a, .int .i32 a] 70)).drew wr.heap.size 70 #[.int .i32 a, .int .i32 a] := (Bx.fresh wr _ _).drawn 1
          have bW : Below wr.heap.size wr (wr.alloc (.cells #[.int .i32 a, .int .i32 a] 70)).drew := ((Below.refl _ _).alloc (Nat.le_refl _) _).drew
          have bP := hb1.next bW
          have bZ := hb0.next bW
          have oW := own_next ho bW
          have below1 := bnext hbel bW
          have hNP : wr.heap.size ≠ w.heap.size + 1 := by omega
          have hNZ : wr.heap.size ≠ w.heap.size := by omega
          have hoN : (Value.slice sa done.length sc).ownBlock ≠ some wr.heap.size := fun e => by have := (ho.lt _ e).2; omega
          have hSZ : wr.heap.size < ((wr.alloc (.cells #[.int .i32 a, .int .i32 a] 70)).drew).heap.size := by simp
          clear hb0 hb1 ho bW HS hbel
          generalize (wr.alloc (.cells #[.int .i32 a, .int .i32 a] 70)).drew = W1 at *
          generalize hNN : wr.heap.size = N1 at *
          have HNN := Hid.mk' (And.intro hN2 (And.intro hN3 hSZ))
          clear hNN hN2 hN3 hSZ
          have s0 : W1.cell? ⟨N1, 0, none⟩ = some (.int .i32 a) := bS.read (i := 0) rfl
          have s1 : W1.cell? ⟨N1, 1, none⟩ = some (.int .i32 a) := bS.read (i := 1) rfl
          obtain ⟨o0, o1, o2⟩ := bP.reads3
          obtain ⟨x0, x1, x2⟩ := bP.opens3
          have hSZ2 : w.heap.size ≤ W1.heap.size := by have := HNN.out; simp; omega
          have HS := Hid.mk' (And.intro bZ (And.intro bP (And.intro oW (And.intro below1 hSZ2))))
          have hdl : done.length ≤ 200 := by have := HQ.out.2.1; omega
          clear bS bP bZ oW below1 hoN hSZ2
          go_wp2_with (at_builtin; refine wpList_append_own _ rfl (.tmp 49) (.tmp 51) 55 rfl w.heap.size 70 i0 _ 2 8 Tryd.underlying55 HI.out.1 HI.out.2.1 HI.out.2.2.1 HI.out.2.2.2 rfl (by decide) (.slice sa done.length sc) done.length _ rfl (World.ownsRow.alloc HS.out.2.2.1 _) ⟨W1.heap.size, 0, none⟩ 1 1 [.int .i32 a, .int .i32 a] rfl rfl ?c1 ?c2 ?c3 ?c4 ?c5 ?_)
          try case c1 => exact World.news_of_block (cs := #[.int .i32 a, .int .i32 a]) (t := 70) (fr := (0, 0)) (heap_alloc_new W1 (.cells #[.int .i32 a, .int .i32 a] 70))
          case c2 => simp [Value.oneCell']
          case c3 => simp only [maxLen]; omega
          case c4 => omega
          case c5 => have := HS.out.2.2.2.2; simp; (try simp at this); omega
          intro v4 W4 hown4 hgr4 _
          obtain ⟨bZ, bP, oW, below1, hSZ⟩ := HS.out
          have bZ4 := (bZ.past (.cells #[.int .i32 a, .int .i32 a] 70)).grown hgr4 (bx_apart bZ oW (by decide))
          have bP4 := (bP.past (.cells #[.int .i32 a, .int .i32 a] 70)).grown hgr4 (bx_apart bP oW (by decide))
          have hap := bx_apart bP4 hown4 (by decide)
          have below4 : Below w.heap.size w W4 := (below1.alloc below1.size _).grown hgr4 (by have := below1.size; simp; (try simp at this); omega) (fun j hj => (oW.lt j hj).1)
          obtain ⟨sa4, sc4, rfl⟩ := own_form hown4
          obtain ⟨o0, o1, o2⟩ := bP4.reads3
          obtain ⟨x0, x1, x2⟩ := bP4.opens3
          have bP5 : Bx (W4.setCell ⟨w.heap.size + 1, 2, none⟩ (.slice sa4 (done.length + 1) sc4)) (w.heap.size + 1) 57 #[.bool false, .bool false, .slice sa4 (done.length + 1) sc4] := bP4.put 2 _
          have bZ5 := bZ4.beside (p := ⟨w.heap.size + 1, 2, none⟩) (by simp) (.slice sa4 (done.length + 1) sc4)
          have oW5 := hown4.kept (gb_set W4 (w.heap.size + 1) 2 (.slice sa4 (done.length + 1) sc4)) (.inr hap)
          have below5 := below_gb below4 (gb_set W4 (w.heap.size + 1) 2 (.slice sa4 (done.length + 1) sc4)) (Nat.le_succ _)
          have HE : ClsInv w false ([] : List Int) v2 (W4.setCell ⟨w.heap.size + 1, 2, none⟩ (.slice sa4 (done.length + 1) sc4)) := by
            refine ⟨rest, done ++ [(a, a)], sa4, sc4, HQ.out.2.2.1, ?_, bZ5, ?_, ?_, below5, ?_⟩
            · have := HQ.out.2.1; simp at this; simp; omega
            · rw [List.length_append]; exact bP5
            · rw [List.length_append, flatS_snoc]; exact oW5
            · rw [HQ.out.1, map_app]
          have HE' := Hid.mk' HE
          have hm2 := HQ.out.2.2.1.lenOf
          have hm3 := HQ.out.2.2.2
          have HM := Hid.mk' (And.intro hm2 hm3)
          clear hm2 hm3
          clear HE HS bZ bP oW below1 hSZ bZ4 bP4 hap below4 bP5 bZ5 oW5 below5 hown4 hgr4 s0 s1
          go_wp2_with fail
          go_roundw
          case rel => exact HE'
          case measure => have hm3 := HM.out.2; have hm2 := HM.out.1; simp only [List.length_cons] at hm3 hm2; show lenOf v2 < lenOf u0; rw [hm2, hmes]; omega
set_option maxRecDepth 100000 in
set_option maxHeartbeats 8000000 in
theorem class_plain (v : Value) (a0 : Int) (t0 : List Int) (hh : a0 ≠ 94) (hl : (a0 :: t0).length ≤ 200) (w : World) (h : RS w v (a0 :: t0)) :
    Calls Tryd.prog 26 #[v] w (ClsPost w (a0 :: t0)) := by
  obtain ⟨i0, hi, hz0, hz1, hz2⟩ := info_parts span_info
  have HI := Hid.mk' (And.intro hi (And.intro hz0 (And.intro hz1 hz2)))
  clear hi hz0 hz1 hz2
  have hcls : clsS (a0 :: t0) = match spF (a0 :: t0) with | none => none | some sp => if sp = [] then none else some ⟨false, false, sp⟩ := by
    first | rfl | (unfold clsS; rw [show decide (List.head? (a0 :: t0) = some 94) = false from by simpa using hh]; rfl)
  have HCLS := Hid.mk' hcls
  clear hcls
  have e0 : Below w.heap.size w ((w.alloc (.cells #[.bool false, .bool false, .slice none 0 0] 57)).alloc (.cells #[.bool false, .bool false, .slice none 0 0] 57)) := ((Below.refl _ _).alloc (Nat.le_refl _) _).alloc (by simp) _
  have hb0 : Bx ((w.alloc (.cells #[.bool false, .bool false, .slice none 0 0] 57)).alloc (.cells #[.bool false, .bool false, .slice none 0 0] 57)) w.heap.size 57 #[.bool false, .bool false, .slice none 0 0] := (Bx.fresh w _ _).past _
  have hb1 : Bx ((w.alloc (.cells #[.bool false, .bool false, .slice none 0 0] 57)).alloc (.cells #[.bool false, .bool false, .slice none 0 0] 57)) (w.heap.size + 1) 57 #[.bool false, .bool false, .slice none 0 0] := Bx.fresh' (w.alloc _) (by simp) _ _
  have hr0 := h.next e0
  have hlen := fun w' => h.len w'
  obtain ⟨p0, hx0, hc0, _⟩ := hr0.at 0 (by simp)
  simp only [List.getElem_cons_zero] at hc0
  rw [show ((0 : Nat) : Int) = 0 from rfl] at hx0
  have t1 : (a0 == 94) = false := by simp [hh]
  clear hh
  obtain ⟨n0, hn0⟩ : ∃ n0 : Nat, n0 = (a0 :: t0).length := ⟨_, rfl⟩
  have hpos : (0 : Int) < (n0 : Int) := by rw [hn0]; simp
  rw [← hn0] at hlen
  have START := Hid.mk' (show ClsInv w false (a0 :: t0) v ((w.alloc (.cells #[.bool false, .bool false, .slice none 0 0] 57)).alloc (.cells #[.bool false, .bool false, .slice none 0 0] 57)) from ⟨_, [], none, 0, h, by simpa using hl, hb0, hb1, World.ownsRow_nil _ _ _ _, e0, by simp⟩)
  clear hb0 hb1 h hr0 e0 hl hn0
  go_enter Tryd.func26, Tryd.ntmps26
  go_wp2_with fail
  go_loopw [0] (fun lv wr => Hid (ClsInv w false (a0 :: t0) lv wr)) (fun lv _ => lenOf lv)
  case atStart => exact START.out
  case round =>
    clear START
    obtain ⟨rem, done, sa, sc, hrw, hdl, hb0, hb1, ho, hbel, hsp⟩ := hrel.out
    have hr := hrw.next hbel
    have hlenr := fun w' => hr.len w'
    have hmes := hr.lenOf
    clear hrel
    cases rem with
    | nil =>
      clear hr hrw
      have hdl' : done.length ≤ 200 := by simpa using hdl
      have HS := Hid.mk' (And.intro hb0 (And.intro hb1 (And.intro ho (And.intro hbel (And.intro hsp hdl')))))
      obtain ⟨o0, o1, o2⟩ := hb1.reads3
      obtain ⟨y0, y1, y2⟩ := Bx.opens3 hb0
      obtain ⟨z0, z1, z2⟩ := hb0.reads3
      simp only [List.length_nil, Int.natCast_zero] at hlenr hmes
      clear hb0 hb1 ho hbel hdl hsp hdl' hmes
      go_wp2_with fail
      go_region
      obtain ⟨hb0, hb1, ho, hbel, hsp, hdl⟩ := HS.out
      have bR : Bx (((wr.setCell ⟨w.heap.size, 0, none⟩ (.bool false)).setCell ⟨w.heap.size, 1, none⟩ (.bool false)).setCell ⟨w.heap.size, 2, none⟩ (.slice sa done.length sc)).drew w.heap.size 57 #[.bool false, .bool false, .slice sa done.length sc] := Bx.drawn (hb0.put3 (x := .bool false) (y := .bool false) (z := .slice sa done.length sc)) 1
      have hB : Below w.heap.size w (((wr.setCell ⟨w.heap.size, 0, none⟩ (.bool false)).setCell ⟨w.heap.size, 1, none⟩ (.bool false)).setCell ⟨w.heap.size, 2, none⟩ (.slice sa done.length sc)).drew := below_gb hbel (gb_trans (gb_trans (gb_trans (gb_set wr w.heap.size 0 _) (gb_set _ w.heap.size 1 _)) (gb_set _ w.heap.size 2 _)) (gb_drew _ _)) (Nat.le_refl _)
      have hO : SpO (((wr.setCell ⟨w.heap.size, 0, none⟩ (.bool false)).setCell ⟨w.heap.size, 1, none⟩ (.bool false)).setCell ⟨w.heap.size, 2, none⟩ (.slice sa done.length sc)).drew (.slice sa done.length sc) done := World.ownsRow.kept (own_down ho) (gb_trans (gb_trans (gb_trans (gb_set wr w.heap.size 0 _) (gb_set _ w.heap.size 1 _)) (gb_set _ w.heap.size 2 _)) (gb_drew _ _)) (.inr (bx_apart hb0 ho (by decide)))
      have E := Hid.mk' (cls_end HCLS.out (show spF (a0 :: t0) = some done by simpa [spF] using hsp) hO hB)
      clear hb0 hb1 ho hbel hsp hdl HS hB hO
      generalize (((wr.setCell ⟨w.heap.size, 0, none⟩ (.bool false)).setCell ⟨w.heap.size, 1, none⟩ (.bool false)).setCell ⟨w.heap.size, 2, none⟩ (.slice sa done.length sc)).drew = W2 at *
      obtain ⟨q0, q1, q2⟩ := bR.reads3
      go_wp2_with fail
      exact bodyPost_ret (v := .tuple #[.agg #[.bool false, .bool false, .slice sa done.length sc], .bool (decide (0 < done.length))]) (by simp [results, Tryd.results26, go_sem, q0, q1, q2]) rfl E.out
    | cons a rest =>
      obtain ⟨p1, hx1, hc1, hp1⟩ := hr.at 0 (by simp)
      simp only [List.getElem_cons_zero] at hc1
      rw [show ((0 : Nat) : Int) = 0 from rfl] at hx1
      obtain ⟨nr, hnr⟩ : ∃ n : Nat, n = (a :: rest).length := ⟨_, rfl⟩
      have hpos1 : (0 : Int) < (nr : Int) := by rw [hnr]; simp
      rw [← hnr] at hlenr hmes
      by_cases h3 : 2 < (a :: rest).length ∧ rest.head? = some 45
      · obtain ⟨c, t, rfl⟩ : ∃ c t, rest = 45 :: c :: t := by
          obtain ⟨ha, hb⟩ := h3
          match rest, ha, hb with
          | [b], ha, hb => simp at ha
          | b :: c :: t, ha, hb => simp at hb; subst hb; exact ⟨c, t, rfl⟩
        rw [spF_span] at hsp
        obtain ⟨p2, hx2, hc2, hp2⟩ := hr.at 1 (by simp)
        obtain ⟨p3, hx3, hc3, hp3⟩ := hr.at 2 (by simp)
        simp only [List.getElem_cons_succ, List.getElem_cons_zero] at hc2 hc3
        rw [show ((1 : Nat) : Int) = 1 from rfl] at hx2
        rw [show ((2 : Nat) : Int) = 2 from rfl] at hx3
        have h2' : (2 : Int) < (nr : Int) := by simp only [List.length_cons] at hnr; omega
        by_cases hca : c < a
        · rw [if_pos hca] at hsp
          have HS := Hid.mk' (And.intro hb0 (And.intro hb1 (And.intro ho (And.intro hbel hsp))))
          clear hsp hdl h3 hnr hr hrw
          clear hb0 hb1 ho hbel
          go_wp2_with fail
          go_region
          clear hx1 hc1 hp1
          obtain ⟨hb0, hb1, ho, hbel, hsp⟩ := HS.out
          have hN2 := hbel.size
          have hN3 := hb1.inside
          have bS : Bx (wr.alloc (.cells #[.int .i32 a, .int .i32 a] 70)).drew wr.heap.size 70 #[.int .i32 a, .int .i32 a] := (Bx.fresh wr _ _).drawn 1
          have bW : Below wr.heap.size wr (wr.alloc (.cells #[.int .i32 a, .int .i32 a] 70)).drew := ((Below.refl _ _).alloc (Nat.le_refl _) _).drew
          have bP := hb1.next bW
          have bZ := hb0.next bW
          have oW := own_next ho bW
          have below1 := bnext hbel bW
          rw [← bW.cell hp2] at hc2
          have hpn2 : p2.block ≠ wr.heap.size := Nat.ne_of_lt hp2
          rw [← bW.cell hp3] at hc3
          have hpn3 : p3.block ≠ wr.heap.size := Nat.ne_of_lt hp3
          have hNP : wr.heap.size ≠ w.heap.size + 1 := by omega
          have hNZ : wr.heap.size ≠ w.heap.size := by omega
          have hoN : (Value.slice sa done.length sc).ownBlock ≠ some wr.heap.size := fun e => by have := (ho.lt _ e).2; omega
          have hSZ : wr.heap.size < ((wr.alloc (.cells #[.int .i32 a, .int .i32 a] 70)).drew).heap.size := by simp
          clear hb0 hb1 ho bW HS hbel
          generalize (wr.alloc (.cells #[.int .i32 a, .int .i32 a] 70)).drew = W1 at *
          generalize hNN : wr.heap.size = N1 at *
          have HNN := Hid.mk' (And.intro hN2 (And.intro hN3 hSZ))
          clear hNN hN2 hN3 hSZ
          have bS2 := bS.put 1 (.int .i32 c)
          simp only [List.setIfInBounds_toArray, List.set_cons_succ, List.set_cons_zero] at bS2
          have bP2 := bP.beside (p := ⟨N1, 1, none⟩) hNP (.int .i32 c)
          have bZ2 := bZ.beside (p := ⟨N1, 1, none⟩) hNZ (.int .i32 c)
          have below2 := below_gb below1 (gb_set W1 N1 1 (.int .i32 c)) HNN.out.1
          have s0 : W1.cell? ⟨N1, 0, none⟩ = some (.int .i32 a) := bS.read (i := 0) rfl
          have s1 : W1.cell? ⟨N1, 1, none⟩ = some (.int .i32 a) := bS.read (i := 1) rfl
          obtain ⟨f0, f1⟩ := And.intro (bS.open_ 0) (bS.open_ 1)
          obtain ⟨z0, z1, z2⟩ := bZ.reads3
          obtain ⟨y0, y1, y2⟩ := Bx.opens3 bZ
          have HS := Hid.mk' (And.intro bZ2 below2)
          clear bS bP bZ oW below1 bS2 bP2 bZ2 below2 hoN
          go_wp2_with fail
          have bR : Bx ((((W1.setCell ⟨N1, 1, none⟩ (.int .i32 c)).setCell ⟨w.heap.size, 0, none⟩ (.bool false)).setCell ⟨w.heap.size, 1, none⟩ (.bool false)).setCell ⟨w.heap.size, 2, none⟩ (.slice none 0 0)) w.heap.size 57 #[.bool false, .bool false, .slice none 0 0] := HS.out.1.put3
          have hB : Below w.heap.size w ((((W1.setCell ⟨N1, 1, none⟩ (.int .i32 c)).setCell ⟨w.heap.size, 0, none⟩ (.bool false)).setCell ⟨w.heap.size, 1, none⟩ (.bool false)).setCell ⟨w.heap.size, 2, none⟩ (.slice none 0 0)) := below_gb HS.out.2 (gb_trans (gb_trans (gb_set _ w.heap.size 0 _) (gb_set _ w.heap.size 1 _)) (gb_set _ w.heap.size 2 _)) (Nat.le_refl _)
          obtain ⟨q0, q1, q2⟩ := bR.reads3
          have hnone : clsS (a0 :: t0) = none := by rw [HCLS.out, hsp]; rfl
          exact bodyPost_ret (v := .tuple #[.agg #[.bool false, .bool false, .slice none 0 0], .bool false]) (by simp [results, Tryd.results26, go_sem, q0, q1, q2]) rfl ⟨_, _, _, _, rfl, hB, .inl ⟨hnone, rfl, _, _, _, rfl⟩⟩
        · rw [if_neg hca] at hsp
          obtain ⟨v2, hcut2, hr2⟩ := hrw.from 3 (by simp)
          simp only [List.drop_succ_cons, List.drop_zero] at hr2
          rw [show ((3 : Nat) : Int) = 3 from rfl] at hcut2
          have HQ := Hid.mk' (And.intro hsp (And.intro hdl (And.intro hr2 hnr)))
          have HS := Hid.mk' (And.intro hb0 (And.intro hb1 (And.intro ho hbel)))
          clear hsp hdl hr2 hnr hr hrw h3
          clear hb0 hb1 ho hbel
          go_wp2_with fail
          go_region
          clear hx1 hc1 hp1
          obtain ⟨hb0, hb1, ho, hbel⟩ := HS.out
          have hN2 := hbel.size
          have hN3 := hb1.inside
          have bS : Bx (wr.alloc (.cells #[.int .i32 a, .int .i32 a] 70)).drew wr.heap.size 70 #[.int .i32 a, .int .i32 a] := (Bx.fresh wr _ _).drawn 1
          have bW : Below wr.heap.size wr (wr.alloc (.cells #[.int .i32 a, .int .i32 a] 70)).drew := ((Below.refl _ _).alloc (Nat.le_refl _) _).drew
          have bP := hb1.next bW
          have bZ := hb0.next bW
          have oW := own_next ho bW
          have below1 := bnext hbel bW
          rw [← bW.cell hp2] at hc2
          have hpn2 : p2.block ≠ wr.heap.size := Nat.ne_of_lt hp2
          rw [← bW.cell hp3] at hc3
          have hpn3 : p3.block ≠ wr.heap.size := Nat.ne_of_lt hp3
          have hNP : wr.heap.size ≠ w.heap.size + 1 := by omega
          have hNZ : wr.heap.size ≠ w.heap.size := by omega
          have hoN : (Value.slice sa done.length sc).ownBlock ≠ some wr.heap.size := fun e => by have := (ho.lt _ e).2; omega
          have hSZ : wr.heap.size < ((wr.alloc (.cells #[.int .i32 a, .int .i32 a] 70)).drew).heap.size := by simp
          clear hb0 hb1 ho bW HS hbel
          generalize (wr.alloc (.cells #[.int .i32 a, .int .i32 a] 70)).drew = W1 at *
          generalize hNN : wr.heap.size = N1 at *
          have HNN := Hid.mk' (And.intro hN2 (And.intro hN3 hSZ))
          clear hNN hN2 hN3 hSZ
          have bS2 := bS.put 1 (.int .i32 c)
          simp only [List.setIfInBounds_toArray, List.set_cons_succ, List.set_cons_zero] at bS2
          have bP2 := bP.beside (p := ⟨N1, 1, none⟩) hNP (.int .i32 c)
          have bZ2 := bZ.beside (p := ⟨N1, 1, none⟩) hNZ (.int .i32 c)
          have below2 := below_gb below1 (gb_set W1 N1 1 (.int .i32 c)) HNN.out.1
          have oW2 := oW.kept (gb_set W1 N1 1 (.int .i32 c)) (.inr hoN)
          have s0 : W1.cell? ⟨N1, 0, none⟩ = some (.int .i32 a) := bS.read (i := 0) rfl
          have s1 : W1.cell? ⟨N1, 1, none⟩ = some (.int .i32 a) := bS.read (i := 1) rfl
          obtain ⟨f0, f1⟩ := And.intro (bS.open_ 0) (bS.open_ 1)
          obtain ⟨o0, o1, o2⟩ := bP.reads3
          obtain ⟨x0, x1, x2⟩ := bP.opens3
          have hSZ2 : w.heap.size ≤ (W1.setCell ⟨N1, 1, none⟩ (.int .i32 c)).heap.size := by have := HNN.out; simp; omega
          have HS := Hid.mk' (And.intro bZ2 (And.intro bP2 (And.intro oW2 (And.intro below2 hSZ2))))
          have hdl : done.length ≤ 200 := by have := HQ.out.2.1; omega
          clear bS bP bZ oW below1 hoN hSZ2 bS2 bP2 bZ2 oW2 below2
          go_wp2_with (at_builtin; refine wpList_append_own _ rfl (.tmp 49) (.tmp 51) 55 rfl w.heap.size 70 i0 _ 2 8 Tryd.underlying55 HI.out.1 HI.out.2.1 HI.out.2.2.1 HI.out.2.2.2 rfl (by decide) (.slice sa done.length sc) done.length _ rfl (World.ownsRow.alloc HS.out.2.2.1 _) ⟨W1.heap.size, 0, none⟩ 1 1 [.int .i32 a, .int .i32 c] rfl rfl ?c1 ?c2 ?c3 ?c4 ?c5 ?_)
          try case c1 => (have hh := World.news_of_block (cs := #[.int .i32 a, .int .i32 c]) (t := 70) (fr := (0, 0)) (heap_alloc_new (W1.setCell ⟨N1, 1, none⟩ (.int .i32 c)) (.cells #[.int .i32 a, .int .i32 c] 70)); rw [show (W1.setCell ⟨N1, 1, none⟩ (.int .i32 c)).heap.size = W1.heap.size from by simp] at hh; exact hh)
          case c2 => simp [Value.oneCell']
          case c3 => simp only [maxLen]; omega
          case c4 => omega
          case c5 => have := HS.out.2.2.2.2; simp; (try simp at this); omega
          intro v4 W4 hown4 hgr4 _
          obtain ⟨bZ, bP, oW, below1, hSZ⟩ := HS.out
          have bZ4 := (bZ.past (.cells #[.int .i32 a, .int .i32 c] 70)).grown hgr4 (bx_apart bZ oW (by decide))
          have bP4 := (bP.past (.cells #[.int .i32 a, .int .i32 c] 70)).grown hgr4 (bx_apart bP oW (by decide))
          have hap := bx_apart bP4 hown4 (by decide)
          have below4 : Below w.heap.size w W4 := (below1.alloc below1.size _).grown hgr4 (by have := below1.size; simp; (try simp at this); omega) (fun j hj => (oW.lt j hj).1)
          obtain ⟨sa4, sc4, rfl⟩ := own_form hown4
          obtain ⟨o0, o1, o2⟩ := bP4.reads3
          obtain ⟨x0, x1, x2⟩ := bP4.opens3
          have bP5 : Bx (W4.setCell ⟨w.heap.size + 1, 2, none⟩ (.slice sa4 (done.length + 1) sc4)) (w.heap.size + 1) 57 #[.bool false, .bool false, .slice sa4 (done.length + 1) sc4] := bP4.put 2 _
          have bZ5 := bZ4.beside (p := ⟨w.heap.size + 1, 2, none⟩) (by simp) (.slice sa4 (done.length + 1) sc4)
          have oW5 := hown4.kept (gb_set W4 (w.heap.size + 1) 2 (.slice sa4 (done.length + 1) sc4)) (.inr hap)
          have below5 := below_gb below4 (gb_set W4 (w.heap.size + 1) 2 (.slice sa4 (done.length + 1) sc4)) (Nat.le_succ _)
          have HE : ClsInv w false (a0 :: t0) v2 (W4.setCell ⟨w.heap.size + 1, 2, none⟩ (.slice sa4 (done.length + 1) sc4)) := by
            refine ⟨t, done ++ [(a, c)], sa4, sc4, HQ.out.2.2.1, ?_, bZ5, ?_, ?_, below5, ?_⟩
            · have := HQ.out.2.1; simp at this; simp; omega
            · rw [List.length_append]; exact bP5
            · rw [List.length_append, flatS_snoc]; exact oW5
            · rw [HQ.out.1, map_app]
          have HE' := Hid.mk' HE
          have hm2 := HQ.out.2.2.1.lenOf
          have hm3 := HQ.out.2.2.2
          have HM := Hid.mk' (And.intro hm2 hm3)
          clear hm2 hm3
          clear HE HS bZ bP oW below1 hSZ bZ4 bP4 hap below4 bP5 bZ5 oW5 below5 hown4 hgr4 s0 s1 f0 f1
          go_wp2_with fail
          go_roundw
          case rel => exact HE'
          case measure => have hm3 := HM.out.2; have hm2 := HM.out.1; simp only [List.length_cons] at hm3 hm2; show lenOf v2 < lenOf u0; rw [hm2, hmes]; omega
      · rw [spF_one _ _ h3] at hsp
        obtain ⟨v2, hcut2, hr2⟩ := hrw.from 1 (by simp)
        simp only [List.drop_succ_cons, List.drop_zero] at hr2
        rw [show ((1 : Nat) : Int) = 1 from rfl] at hcut2
        by_cases h2 : 2 < nr
        · have h2' : (2 : Int) < (nr : Int) := by omega
          obtain ⟨b, t, rfl⟩ : ∃ b t, rest = b :: t := by
            cases rest with
            | nil => simp at hnr; omega
            | cons b t => exact ⟨b, t, rfl⟩
          obtain ⟨p2, hx2, hc2, hp2⟩ := hr.at 1 (by simp)
          simp only [List.getElem_cons_succ, List.getElem_cons_zero] at hc2
          rw [show ((1 : Nat) : Int) = 1 from rfl] at hx2
          have t2 : (b == 45) = false := by
            rw [beq_eq_false_iff_ne]
            intro e
            exact h3 ⟨by rw [← hnr]; exact h2, by rw [e]; rfl⟩
          have HQ := Hid.mk' (And.intro hsp (And.intro hdl (And.intro hr2 hnr)))
          have HS := Hid.mk' (And.intro hb0 (And.intro hb1 (And.intro ho hbel)))
          clear hsp hdl hr2 hnr hr hrw h3 h2
          clear hb0 hb1 ho hbel
          go_wp2_with fail
          go_region
          clear hx1 hc1 hp1
          obtain ⟨hb0, hb1, ho, hbel⟩ := HS.out
          have hN2 := hbel.size
          have hN3 := hb1.inside
          have bS : Bx (wr.alloc (.cells #[.int .i32 a, .int .i32 a] 70)).drew wr.heap.size 70 #[.int .i32 a, .int .i32 a] := (Bx.fresh wr _ _).drawn 1
          have bW : Below wr.heap.size wr (wr.alloc (.cells #[.int .i32 a, .int .i32 a] 70)).drew := ((Below.refl _ _).alloc (Nat.le_refl _) _).drew
          have bP := hb1.next bW
          have bZ := hb0.next bW
          have oW := own_next ho bW
          have below1 := bnext hbel bW
          rw [← bW.cell hp2] at hc2
          have hpn2 : p2.block ≠ wr.heap.size := Nat.ne_of_lt hp2
          have hNP : wr.heap.size ≠ w.heap.size + 1 := by omega
          have hNZ : wr.heap.size ≠ w.heap.size := by omega
          have hoN : (Value.slice sa done.length sc).ownBlock ≠ some wr.heap.size := fun e => by have := (ho.lt _ e).2; omega
          have hSZ : wr.heap.size < ((wr.alloc (.cells #[.int .i32 a, .int .i32 a] 70)).drew).heap.size := by simp
          clear hb0 hb1 ho bW HS hbel
          generalize (wr.alloc (.cells #[.int .i32 a, .int .i32 a] 70)).drew = W1 at *
          generalize hNN : wr.heap.size = N1 at *
          have HNN := Hid.mk' (And.intro hN2 (And.intro hN3 hSZ))
          clear hNN hN2 hN3 hSZ
          have s0 : W1.cell? ⟨N1, 0, none⟩ = some (.int .i32 a) := bS.read (i := 0) rfl
          have s1 : W1.cell? ⟨N1, 1, none⟩ = some (.int .i32 a) := bS.read (i := 1) rfl
          obtain ⟨o0, o1, o2⟩ := bP.reads3
          obtain ⟨x0, x1, x2⟩ := bP.opens3
          have hSZ2 : w.heap.size ≤ W1.heap.size := by have := HNN.out; simp; omega
          have HS := Hid.mk' (And.intro bZ (And.intro bP (And.intro oW (And.intro below1 hSZ2))))
          have hdl : done.length ≤ 200 := by have := HQ.out.2.1; omega
          clear bS bP bZ oW below1 hoN hSZ2
          go_wp2_with (at_builtin; refine wpList_append_own _ rfl (.tmp 49) (.tmp 51) 55 rfl w.heap.size 70 i0 _ 2 8 Tryd.underlying55 HI.out.1 HI.out.2.1 HI.out.2.2.1 HI.out.2.2.2 rfl (by decide) (.slice sa done.length sc) done.length _ rfl (World.ownsRow.alloc HS.out.2.2.1 _) ⟨W1.heap.size, 0, none⟩ 1 1 [.int .i32 a, .int .i32 a] rfl rfl ?c1 ?c2 ?c3 ?c4 ?c5 ?_)
          try case c1 => exact World.news_of_block (cs := #[.int .i32 a, .int .i32 a]) (t := 70) (fr := (0, 0)) (heap_alloc_new W1 (.cells #[.int .i32 a, .int .i32 a] 70))
          case c2 => simp [Value.oneCell']
          case c3 => simp only [maxLen]; omega
          case c4 => omega
          case c5 => have := HS.out.2.2.2.2; simp; (try simp at this); omega
          intro v4 W4 hown4 hgr4 _
          obtain ⟨bZ, bP, oW, below1, hSZ⟩ := HS.out
          have bZ4 := (bZ.past (.cells #[.int .i32 a, .int .i32 a] 70)).grown hgr4 (bx_apart bZ oW (by decide))
          have bP4 := (bP.past (.cells #[.int .i32 a, .int .i32 a] 70)).grown hgr4 (bx_apart bP oW (by decide))
          have hap := bx_apart bP4 hown4 (by decide)
          have below4 : Below w.heap.size w W4 := (below1.alloc below1.size _).grown hgr4 (by have := below1.size; simp; (try simp at this); omega) (fun j hj => (oW.lt j hj).1)
          obtain ⟨sa4, sc4, rfl⟩ := own_form hown4
          obtain ⟨o0, o1, o2⟩ := bP4.reads3
          obtain ⟨x0, x1, x2⟩ := bP4.opens3
          have bP5 : Bx (W4.setCell ⟨w.heap.size + 1, 2, none⟩ (.slice sa4 (done.length + 1) sc4)) (w.heap.size + 1) 57 #[.bool false, .bool false, .slice sa4 (done.length + 1) sc4] := bP4.put 2 _
          have bZ5 := bZ4.beside (p := ⟨w.heap.size + 1, 2, none⟩) (by simp) (.slice sa4 (done.length + 1) sc4)
          have oW5 := hown4.kept (gb_set W4 (w.heap.size + 1) 2 (.slice sa4 (done.length + 1) sc4)) (.inr hap)
          have below5 := below_gb below4 (gb_set W4 (w.heap.size + 1) 2 (.slice sa4 (done.length + 1) sc4)) (Nat.le_succ _)
          have HE : ClsInv w false (a0 :: t0) v2 (W4.setCell ⟨w.heap.size + 1, 2, none⟩ (.slice sa4 (done.length + 1) sc4)) := by
            refine ⟨(b :: t), done ++ [(a, a)], sa4, sc4, HQ.out.2.2.1, ?_, bZ5, ?_, ?_, below5, ?_⟩
            · have := HQ.out.2.1; simp at this; simp; omega
            · rw [List.length_append]; exact bP5
            · rw [List.length_append, flatS_snoc]; exact oW5
            · rw [HQ.out.1, map_app]
          have HE' := Hid.mk' HE
          have hm2 := HQ.out.2.2.1.lenOf
          have hm3 := HQ.out.2.2.2
          have HM := Hid.mk' (And.intro hm2 hm3)
          clear hm2 hm3
          clear HE HS bZ bP oW below1 hSZ bZ4 bP4 hap below4 bP5 bZ5 oW5 below5 hown4 hgr4 s0 s1
          go_wp2_with fail
          go_roundw
          case rel => exact HE'
          case measure => have hm3 := HM.out.2; have hm2 := HM.out.1; simp only [List.length_cons] at hm3 hm2; show lenOf v2 < lenOf u0; rw [hm2, hmes]; omega
        · have h2' : ¬ (2 : Int) < (nr : Int) := by omega
          have HQ := Hid.mk' (And.intro hsp (And.intro hdl (And.intro hr2 hnr)))
          have HS := Hid.mk' (And.intro hb0 (And.intro hb1 (And.intro ho hbel)))
          clear hsp hdl hr2 hnr hr hrw h3 h2
          clear hb0 hb1 ho hbel
          go_wp2_with fail
          go_region
          clear hx1 hc1 hp1
          obtain ⟨hb0, hb1, ho, hbel⟩ := HS.out
          have hN2 := hbel.size
          have hN3 := hb1.inside
          have bS : Bx (wr.alloc (.cells #[.int .i32 a, .int .i32 a] 70)).drew wr.heap.size 70 #[.int .i32 a, .int .i32 a] := (Bx.fresh wr _ _).drawn 1
          have bW : Below wr.heap.size wr (wr.alloc (.cells #[.int .i32 a, .int .i32 a] 70)).drew := ((Below.refl _ _).alloc (Nat.le_refl _) _).drew
          have bP := hb1.next bW
          have bZ := hb0.next bW
          have oW := own_next ho bW
          have below1 := bnext hbel bW
          have hNP : wr.heap.size ≠ w.heap.size + 1 := by omega
          have hNZ : wr.heap.size ≠ w.heap.size := by omega
          have hoN : (Value.slice sa done.length sc).ownBlock ≠ some wr.heap.size := fun e => by have := (ho.lt _ e).2; omega
          have hSZ : wr.heap.size < ((wr.alloc (.cells #[.int .i32 a, .int .i32 a] 70)).drew).heap.size := by simp
          clear hb0 hb1 ho bW HS hbel
          generalize (wr.alloc (.cells #[.int .i32 a, .int .i32 a] 70)).drew = W1 at *
          generalize hNN : wr.heap.size = N1 at *
          have HNN := Hid.mk' (And.intro hN2 (And.intro hN3 hSZ))
          clear hNN hN2 hN3 hSZ
          have s0 : W1.cell? ⟨N1, 0, none⟩ = some (.int .i32 a) := bS.read (i := 0) rfl
          have s1 : W1.cell? ⟨N1, 1, none⟩ = some (.int .i32 a) := bS.read (i := 1) rfl
          obtain ⟨o0, o1, o2⟩ := bP.reads3
          obtain ⟨x0, x1, x2⟩ := bP.opens3
          have hSZ2 : w.heap.size ≤ W1.heap.size := by have := HNN.out; simp; omega
          have HS := Hid.mk' (And.intro bZ (And.intro bP (And.intro oW (And.intro below1 hSZ2))))
          have hdl : done.length ≤ 200 := by have := HQ.out.2.1; omega
          clear bS bP bZ oW below1 hoN hSZ2
          go_wp2_with (at_builtin; refine wpList_append_own _ rfl (.tmp 49) (.tmp 51) 55 rfl w.heap.size 70 i0 _ 2 8 Tryd.underlying55 HI.out.1 HI.out.2.1 HI.out.2.2.1 HI.out.2.2.2 rfl (by decide) (.slice sa done.length sc) done.length _ rfl (World.ownsRow.alloc HS.out.2.2.1 _) ⟨W1.heap.size, 0, none⟩ 1 1 [.int .i32 a, .int .i32 a] rfl rfl ?c1 ?c2 ?c3 ?c4 ?c5 ?_)
          try case c1 => exact World.news_of_block (cs := #[.int .i32 a, .int .i32 a]) (t := 70) (fr := (0, 0)) (heap_alloc_new W1 (.cells #[.int .i32 a, .int .i32 a] 70))
          case c2 => simp [Value.oneCell']
          case c3 => simp only [maxLen]; omega
          case c4 => omega
          case c5 => have := HS.out.2.2.2.2; simp; (try simp at this); omega
          intro v4 W4 hown4 hgr4 _
          obtain ⟨bZ, bP, oW, below1, hSZ⟩ := HS.out
          have bZ4 := (bZ.past (.cells #[.int .i32 a, .int .i32 a] 70)).grown hgr4 (bx_apart bZ oW (by decide))
          have bP4 := (bP.past (.cells #[.int .i32 a, .int .i32 a] 70)).grown hgr4 (bx_apart bP oW (by decide))
          have hap := bx_apart bP4 hown4 (by decide)
          have below4 : Below w.heap.size w W4 := (below1.alloc below1.size _).grown hgr4 (by have := below1.size; simp; (try simp at this); omega) (fun j hj => (oW.lt j hj).1)
          obtain ⟨sa4, sc4, rfl⟩ := own_form hown4
          obtain ⟨o0, o1, o2⟩ := bP4.reads3
          obtain ⟨x0, x1, x2⟩ := bP4.opens3
          have bP5 : Bx (W4.setCell ⟨w.heap.size + 1, 2, none⟩ (.slice sa4 (done.length + 1) sc4)) (w.heap.size + 1) 57 #[.bool false, .bool false, .slice sa4 (done.length + 1) sc4] := bP4.put 2 _
          have bZ5 := bZ4.beside (p := ⟨w.heap.size + 1, 2, none⟩) (by simp) (.slice sa4 (done.length + 1) sc4)
          have oW5 := hown4.kept (gb_set W4 (w.heap.size + 1) 2 (.slice sa4 (done.length + 1) sc4)) (.inr hap)
          have below5 := below_gb below4 (gb_set W4 (w.heap.size + 1) 2 (.slice sa4 (done.length + 1) sc4)) (Nat.le_succ _)
          have HE : ClsInv w false (a0 :: t0) v2 (W4.setCell ⟨w.heap.size + 1, 2, none⟩ (.slice sa4 (done.length + 1) sc4)) := by
            refine ⟨rest, done ++ [(a, a)], sa4, sc4, HQ.out.2.2.1, ?_, bZ5, ?_, ?_, below5, ?_⟩
            · have := HQ.out.2.1; simp at this; simp; omega
            · rw [List.length_append]; exact bP5
            · rw [List.length_append, flatS_snoc]; exact oW5
            · rw [HQ.out.1, map_app]
          have HE' := Hid.mk' HE
          have hm2 := HQ.out.2.2.1.lenOf
          have hm3 := HQ.out.2.2.2
          have HM := Hid.mk' (And.intro hm2 hm3)
          clear hm2 hm3
          clear HE HS bZ bP oW below1 hSZ bZ4 bP4 hap below4 bP5 bZ5 oW5 below5 hown4 hgr4 s0 s1
          go_wp2_with fail
          go_roundw
          case rel => exact HE'
          case measure => have hm3 := HM.out.2; have hm2 := HM.out.1; simp only [List.length_cons] at hm3 hm2; show lenOf v2 < lenOf u0; rw [hm2, hmes]; omega
set_option maxRecDepth 100000 in
set_option maxHeartbeats 8000000 in
theorem class_hat (v : Value) (t0 : List Int) (hl : (94 :: t0).length ≤ 200) (w : World) (h : RS w v (94 :: t0)) :
    Calls Tryd.prog 26 #[v] w (ClsPost w (94 :: t0)) := by
  obtain ⟨i0, hi, hz0, hz1, hz2⟩ := info_parts span_info
  have HI := Hid.mk' (And.intro hi (And.intro hz0 (And.intro hz1 hz2)))
  clear hi hz0 hz1 hz2
  have hcls : clsS (94 :: t0) = match spF t0 with | none => none | some sp => if sp = [] then none else some ⟨false, true, sp⟩ := by
    first | rfl | (unfold clsS; rw [show decide (List.head? (94 :: t0) = some 94) = false from by simpa using hh]; rfl)
  have HCLS := Hid.mk' hcls
  clear hcls
  have e0 : Below w.heap.size w ((w.alloc (.cells #[.bool false, .bool false, .slice none 0 0] 57)).alloc (.cells #[.bool false, .bool false, .slice none 0 0] 57)) := ((Below.refl _ _).alloc (Nat.le_refl _) _).alloc (by simp) _
  have hb0 : Bx ((w.alloc (.cells #[.bool false, .bool false, .slice none 0 0] 57)).alloc (.cells #[.bool false, .bool false, .slice none 0 0] 57)) w.heap.size 57 #[.bool false, .bool false, .slice none 0 0] := (Bx.fresh w _ _).past _
  have hb1 : Bx ((w.alloc (.cells #[.bool false, .bool false, .slice none 0 0] 57)).alloc (.cells #[.bool false, .bool false, .slice none 0 0] 57)) (w.heap.size + 1) 57 #[.bool false, .bool false, .slice none 0 0] := Bx.fresh' (w.alloc _) (by simp) _ _
  have hr0 := h.next e0
  have hlen := fun w' => h.len w'
  obtain ⟨p0, hx0, hc0, _⟩ := hr0.at 0 (by simp)
  simp only [List.getElem_cons_zero] at hc0
  rw [show ((0 : Nat) : Int) = 0 from rfl] at hx0
  obtain ⟨n0, hn0⟩ : ∃ n0 : Nat, n0 = (94 :: t0).length := ⟨_, rfl⟩
  have hpos : (0 : Int) < (n0 : Int) := by rw [hn0]; simp
  rw [← hn0] at hlen
  obtain ⟨v1, hcut, hr1⟩ := h.from 1 (by simp)
  simp only [List.drop_succ_cons, List.drop_zero] at hr1
  rw [show ((1 : Nat) : Int) = 1 from rfl] at hcut
  have e1 : Below w.heap.size w ((w.alloc (.cells #[.bool false, .bool false, .slice none 0 0] 57)).alloc (.cells #[.bool false, .bool true, .slice none 0 0] 57)) := ((Below.refl _ _).alloc (Nat.le_refl _) _).alloc (by simp) _
  have START := Hid.mk' (show ClsInv w true t0 v1 ((w.alloc (.cells #[.bool false, .bool false, .slice none 0 0] 57)).alloc (.cells #[.bool false, .bool true, .slice none 0 0] 57)) from ⟨_, [], none, 0, hr1, by simp at hl; simp; omega, (Bx.fresh w _ _).past _, Bx.fresh' (w.alloc _) (by simp) _ _, World.ownsRow_nil _ _ _ _, e1, by simp⟩)
  clear hb0 hb1 h hr0 e0 e1 hl hr1 hn0
  go_enter Tryd.func26, Tryd.ntmps26
  go_wp2_with fail
  go_loopw [0] (fun lv wr => Hid (ClsInv w true t0 lv wr)) (fun lv _ => lenOf lv)
  case atStart => exact START.out
  case round =>
    clear START
    obtain ⟨rem, done, sa, sc, hrw, hdl, hb0, hb1, ho, hbel, hsp⟩ := hrel.out
    have hr := hrw.next hbel
    have hlenr := fun w' => hr.len w'
    have hmes := hr.lenOf
    clear hrel
    cases rem with
    | nil =>
      clear hr hrw
      have hdl' : done.length ≤ 200 := by simpa using hdl
      have HS := Hid.mk' (And.intro hb0 (And.intro hb1 (And.intro ho (And.intro hbel (And.intro hsp hdl')))))
      obtain ⟨o0, o1, o2⟩ := hb1.reads3
      obtain ⟨y0, y1, y2⟩ := Bx.opens3 hb0
      obtain ⟨z0, z1, z2⟩ := hb0.reads3
      simp only [List.length_nil, Int.natCast_zero] at hlenr hmes
      clear hb0 hb1 ho hbel hdl hsp hdl' hmes
      go_wp2_with fail
      go_region
      obtain ⟨hb0, hb1, ho, hbel, hsp, hdl⟩ := HS.out
      have bR : Bx (((wr.setCell ⟨w.heap.size, 0, none⟩ (.bool false)).setCell ⟨w.heap.size, 1, none⟩ (.bool true)).setCell ⟨w.heap.size, 2, none⟩ (.slice sa done.length sc)).drew w.heap.size 57 #[.bool false, .bool true, .slice sa done.length sc] := Bx.drawn (hb0.put3 (x := .bool false) (y := .bool true) (z := .slice sa done.length sc)) 1
      have hB : Below w.heap.size w (((wr.setCell ⟨w.heap.size, 0, none⟩ (.bool false)).setCell ⟨w.heap.size, 1, none⟩ (.bool true)).setCell ⟨w.heap.size, 2, none⟩ (.slice sa done.length sc)).drew := below_gb hbel (gb_trans (gb_trans (gb_trans (gb_set wr w.heap.size 0 _) (gb_set _ w.heap.size 1 _)) (gb_set _ w.heap.size 2 _)) (gb_drew _ _)) (Nat.le_refl _)
      have hO : SpO (((wr.setCell ⟨w.heap.size, 0, none⟩ (.bool false)).setCell ⟨w.heap.size, 1, none⟩ (.bool true)).setCell ⟨w.heap.size, 2, none⟩ (.slice sa done.length sc)).drew (.slice sa done.length sc) done := World.ownsRow.kept (own_down ho) (gb_trans (gb_trans (gb_trans (gb_set wr w.heap.size 0 _) (gb_set _ w.heap.size 1 _)) (gb_set _ w.heap.size 2 _)) (gb_drew _ _)) (.inr (bx_apart hb0 ho (by decide)))
      have E := Hid.mk' (cls_end HCLS.out (show spF t0 = some done by simpa [spF] using hsp) hO hB)
      clear hb0 hb1 ho hbel hsp hdl HS hB hO
      generalize (((wr.setCell ⟨w.heap.size, 0, none⟩ (.bool false)).setCell ⟨w.heap.size, 1, none⟩ (.bool true)).setCell ⟨w.heap.size, 2, none⟩ (.slice sa done.length sc)).drew = W2 at *
      obtain ⟨q0, q1, q2⟩ := bR.reads3
      go_wp2_with fail
      exact bodyPost_ret (v := .tuple #[.agg #[.bool false, .bool true, .slice sa done.length sc], .bool (decide (0 < done.length))]) (by simp [results, Tryd.results26, go_sem, q0, q1, q2]) rfl E.out
    | cons a rest =>
      obtain ⟨p1, hx1, hc1, hp1⟩ := hr.at 0 (by simp)
      simp only [List.getElem_cons_zero] at hc1
      rw [show ((0 : Nat) : Int) = 0 from rfl] at hx1
      obtain ⟨nr, hnr⟩ : ∃ n : Nat, n = (a :: rest).length := ⟨_, rfl⟩
      have hpos1 : (0 : Int) < (nr : Int) := by rw [hnr]; simp
      rw [← hnr] at hlenr hmes
      by_cases h3 : 2 < (a :: rest).length ∧ rest.head? = some 45
      · obtain ⟨c, t, rfl⟩ : ∃ c t, rest = 45 :: c :: t := by
          obtain ⟨ha, hb⟩ := h3
          match rest, ha, hb with
          | [b], ha, hb => simp at ha
          | b :: c :: t, ha, hb => simp at hb; subst hb; exact ⟨c, t, rfl⟩
        rw [spF_span] at hsp
        obtain ⟨p2, hx2, hc2, hp2⟩ := hr.at 1 (by simp)
        obtain ⟨p3, hx3, hc3, hp3⟩ := hr.at 2 (by simp)
        simp only [List.getElem_cons_succ, List.getElem_cons_zero] at hc2 hc3
        rw [show ((1 : Nat) : Int) = 1 from rfl] at hx2
        rw [show ((2 : Nat) : Int) = 2 from rfl] at hx3
        have h2' : (2 : Int) < (nr : Int) := by simp only [List.length_cons] at hnr; omega
        by_cases hca : c < a
        · rw [if_pos hca] at hsp
          have HS := Hid.mk' (And.intro hb0 (And.intro hb1 (And.intro ho (And.intro hbel hsp))))
          clear hsp hdl h3 hnr hr hrw
          clear hb0 hb1 ho hbel
          go_wp2_with fail
          go_region
          clear hx1 hc1 hp1
          obtain ⟨hb0, hb1, ho, hbel, hsp⟩ := HS.out
          have hN2 := hbel.size
          have hN3 := hb1.inside
          have bS : Bx (wr.alloc (.cells #[.int .i32 a, .int .i32 a] 70)).drew wr.heap.size 70 #[.int .i32 a, .int .i32 a] := (Bx.fresh wr _ _).drawn 1
          have bW : Below wr.heap.size wr (wr.alloc (.cells #[.int .i32 a, .int .i32 a] 70)).drew := ((Below.refl _ _).alloc (Nat.le_refl _) _).drew
          have bP := hb1.next bW
          have bZ := hb0.next bW
          have oW := own_next ho bW
          have below1 := bnext hbel bW
          rw [← bW.cell hp2] at hc2
          have hpn2 : p2.block ≠ wr.heap.size := Nat.ne_of_lt hp2
          rw [← bW.cell hp3] at hc3
          have hpn3 : p3.block ≠ wr.heap.size := Nat.ne_of_lt hp3
          have hNP : wr.heap.size ≠ w.heap.size + 1 := by omega
          have hNZ : wr.heap.size ≠ w.heap.size := by omega
          have hoN : (Value.slice sa done.length sc).ownBlock ≠ some wr.heap.size := fun e => by have := (ho.lt _ e).2; omega
          have hSZ : wr.heap.size < ((wr.alloc (.cells #[.int .i32 a, .int .i32 a] 70)).drew).heap.size := by simp
          clear hb0 hb1 ho bW HS hbel
          generalize (wr.alloc (.cells #[.int .i32 a, .int .i32 a] 70)).drew = W1 at *
          generalize hNN : wr.heap.size = N1 at *
          have HNN := Hid.mk' (And.intro hN2 (And.intro hN3 hSZ))
          clear hNN hN2 hN3 hSZ
          have bS2 := bS.put 1 (.int .i32 c)
          simp only [List.setIfInBounds_toArray, List.set_cons_succ, List.set_cons_zero] at bS2
          have bP2 := bP.beside (p := ⟨N1, 1, none⟩) hNP (.int .i32 c)
          have bZ2 := bZ.beside (p := ⟨N1, 1, none⟩) hNZ (.int .i32 c)
          have below2 := below_gb below1 (gb_set W1 N1 1 (.int .i32 c)) HNN.out.1
          have s0 : W1.cell? ⟨N1, 0, none⟩ = some (.int .i32 a) := bS.read (i := 0) rfl
          have s1 : W1.cell? ⟨N1, 1, none⟩ = some (.int .i32 a) := bS.read (i := 1) rfl
          obtain ⟨f0, f1⟩ := And.intro (bS.open_ 0) (bS.open_ 1)
          obtain ⟨z0, z1, z2⟩ := bZ.reads3
          obtain ⟨y0, y1, y2⟩ := Bx.opens3 bZ
          have HS := Hid.mk' (And.intro bZ2 below2)
          clear bS bP bZ oW below1 bS2 bP2 bZ2 below2 hoN
          go_wp2_with fail
          have bR : Bx ((((W1.setCell ⟨N1, 1, none⟩ (.int .i32 c)).setCell ⟨w.heap.size, 0, none⟩ (.bool false)).setCell ⟨w.heap.size, 1, none⟩ (.bool false)).setCell ⟨w.heap.size, 2, none⟩ (.slice none 0 0)) w.heap.size 57 #[.bool false, .bool false, .slice none 0 0] := HS.out.1.put3
          have hB : Below w.heap.size w ((((W1.setCell ⟨N1, 1, none⟩ (.int .i32 c)).setCell ⟨w.heap.size, 0, none⟩ (.bool false)).setCell ⟨w.heap.size, 1, none⟩ (.bool false)).setCell ⟨w.heap.size, 2, none⟩ (.slice none 0 0)) := below_gb HS.out.2 (gb_trans (gb_trans (gb_set _ w.heap.size 0 _) (gb_set _ w.heap.size 1 _)) (gb_set _ w.heap.size 2 _)) (Nat.le_refl _)
          obtain ⟨q0, q1, q2⟩ := bR.reads3
          have hnone : clsS (94 :: t0) = none := by rw [HCLS.out, hsp]; rfl
          exact bodyPost_ret (v := .tuple #[.agg #[.bool false, .bool false, .slice none 0 0], .bool false]) (by simp [results, Tryd.results26, go_sem, q0, q1, q2]) rfl ⟨_, _, _, _, rfl, hB, .inl ⟨hnone, rfl, _, _, _, rfl⟩⟩
        · rw [if_neg hca] at hsp
          obtain ⟨v2, hcut2, hr2⟩ := hrw.from 3 (by simp)
          simp only [List.drop_succ_cons, List.drop_zero] at hr2
          rw [show ((3 : Nat) : Int) = 3 from rfl] at hcut2
          have HQ := Hid.mk' (And.intro hsp (And.intro hdl (And.intro hr2 hnr)))
          have HS := Hid.mk' (And.intro hb0 (And.intro hb1 (And.intro ho hbel)))
          clear hsp hdl hr2 hnr hr hrw h3
          clear hb0 hb1 ho hbel
          go_wp2_with fail
          go_region
          clear hx1 hc1 hp1
          obtain ⟨hb0, hb1, ho, hbel⟩ := HS.out
          have hN2 := hbel.size
          have hN3 := hb1.inside
          have bS : Bx (wr.alloc (.cells #[.int .i32 a, .int .i32 a] 70)).drew wr.heap.size 70 #[.int .i32 a, .int .i32 a] := (Bx.fresh wr _ _).drawn 1
          have bW : Below wr.heap.size wr (wr.alloc (.cells #[.int .i32 a, .int .i32 a] 70)).drew := ((Below.refl _ _).alloc (Nat.le_refl _) _).drew
          have bP := hb1.next bW
          have bZ := hb0.next bW
          have oW := own_next ho bW
          have below1 := bnext hbel bW
          rw [← bW.cell hp2] at hc2
          have hpn2 : p2.block ≠ wr.heap.size := Nat.ne_of_lt hp2
          rw [← bW.cell hp3] at hc3
          have hpn3 : p3.block ≠ wr.heap.size := Nat.ne_of_lt hp3
          have hNP : wr.heap.size ≠ w.heap.size + 1 := by omega
          have hNZ : wr.heap.size ≠ w.heap.size := by omega
          have hoN : (Value.slice sa done.length sc).ownBlock ≠ some wr.heap.size := fun e => by have := (ho.lt _ e).2; omega
          have hSZ : wr.heap.size < ((wr.alloc (.cells #[.int .i32 a, .int .i32 a] 70)).drew).heap.size := by simp
          clear hb0 hb1 ho bW HS hbel
          generalize (wr.alloc (.cells #[.int .i32 a, .int .i32 a] 70)).drew = W1 at *
          generalize hNN : wr.heap.size = N1 at *
          have HNN := Hid.mk' (And.intro hN2 (And.intro hN3 hSZ))
          clear hNN hN2 hN3 hSZ
          have bS2 := bS.put 1 (.int .i32 c)
          simp only [List.setIfInBounds_toArray, List.set_cons_succ, List.set_cons_zero] at bS2
          have bP2 := bP.beside (p := ⟨N1, 1, none⟩) hNP (.int .i32 c)
          have bZ2 := bZ.beside (p := ⟨N1, 1, none⟩) hNZ (.int .i32 c)
          have below2 := below_gb below1 (gb_set W1 N1 1 (.int .i32 c)) HNN.out.1
          have oW2 := oW.kept (gb_set W1 N1 1 (.int .i32 c)) (.inr hoN)
          have s0 : W1.cell? ⟨N1, 0, none⟩ = some (.int .i32 a) := bS.read (i := 0) rfl
          have s1 : W1.cell? ⟨N1, 1, none⟩ = some (.int .i32 a) := bS.read (i := 1) rfl
          obtain ⟨f0, f1⟩ := And.intro (bS.open_ 0) (bS.open_ 1)
          obtain ⟨o0, o1, o2⟩ := bP.reads3
          obtain ⟨x0, x1, x2⟩ := bP.opens3
          have hSZ2 : w.heap.size ≤ (W1.setCell ⟨N1, 1, none⟩ (.int .i32 c)).heap.size := by have := HNN.out; simp; omega
          have HS := Hid.mk' (And.intro bZ2 (And.intro bP2 (And.intro oW2 (And.intro below2 hSZ2))))
          have hdl : done.length ≤ 200 := by have := HQ.out.2.1; omega
          clear bS bP bZ oW below1 hoN hSZ2 bS2 bP2 bZ2 oW2 below2
          go_wp2_with (at_builtin; refine wpList_append_own _ rfl (.tmp 49) (.tmp 51) 55 rfl w.heap.size 70 i0 _ 2 8 Tryd.underlying55 HI.out.1 HI.out.2.1 HI.out.2.2.1 HI.out.2.2.2 rfl (by decide) (.slice sa done.length sc) done.length _ rfl (World.ownsRow.alloc HS.out.2.2.1 _) ⟨W1.heap.size, 0, none⟩ 1 1 [.int .i32 a, .int .i32 c] rfl rfl ?c1 ?c2 ?c3 ?c4 ?c5 ?_)
          try case c1 => (have hh := World.news_of_block (cs := #[.int .i32 a, .int .i32 c]) (t := 70) (fr := (0, 0)) (heap_alloc_new (W1.setCell ⟨N1, 1, none⟩ (.int .i32 c)) (.cells #[.int .i32 a, .int .i32 c] 70)); rw [show (W1.setCell ⟨N1, 1, none⟩ (.int .i32 c)).heap.size = W1.heap.size from by simp] at hh; exact hh)
          case c2 => simp [Value.oneCell']
          case c3 => simp only [maxLen]; omega
          case c4 => omega
          case c5 => have := HS.out.2.2.2.2; simp; (try simp at this); omega
          intro v4 W4 hown4 hgr4 _
          obtain ⟨bZ, bP, oW, below1, hSZ⟩ := HS.out
          have bZ4 := (bZ.past (.cells #[.int .i32 a, .int .i32 c] 70)).grown hgr4 (bx_apart bZ oW (by decide))
          have bP4 := (bP.past (.cells #[.int .i32 a, .int .i32 c] 70)).grown hgr4 (bx_apart bP oW (by decide))
          have hap := bx_apart bP4 hown4 (by decide)
          have below4 : Below w.heap.size w W4 := (below1.alloc below1.size _).grown hgr4 (by have := below1.size; simp; (try simp at this); omega) (fun j hj => (oW.lt j hj).1)
          obtain ⟨sa4, sc4, rfl⟩ := own_form hown4
          obtain ⟨o0, o1, o2⟩ := bP4.reads3
          obtain ⟨x0, x1, x2⟩ := bP4.opens3
          have bP5 : Bx (W4.setCell ⟨w.heap.size + 1, 2, none⟩ (.slice sa4 (done.length + 1) sc4)) (w.heap.size + 1) 57 #[.bool false, .bool true, .slice sa4 (done.length + 1) sc4] := bP4.put 2 _
          have bZ5 := bZ4.beside (p := ⟨w.heap.size + 1, 2, none⟩) (by simp) (.slice sa4 (done.length + 1) sc4)
          have oW5 := hown4.kept (gb_set W4 (w.heap.size + 1) 2 (.slice sa4 (done.length + 1) sc4)) (.inr hap)
          have below5 := below_gb below4 (gb_set W4 (w.heap.size + 1) 2 (.slice sa4 (done.length + 1) sc4)) (Nat.le_succ _)
          have HE : ClsInv w true t0 v2 (W4.setCell ⟨w.heap.size + 1, 2, none⟩ (.slice sa4 (done.length + 1) sc4)) := by
            refine ⟨t, done ++ [(a, c)], sa4, sc4, HQ.out.2.2.1, ?_, bZ5, ?_, ?_, below5, ?_⟩
            · have := HQ.out.2.1; simp at this; simp; omega
            · rw [List.length_append]; exact bP5
            · rw [List.length_append, flatS_snoc]; exact oW5
            · rw [HQ.out.1, map_app]
          have HE' := Hid.mk' HE
          have hm2 := HQ.out.2.2.1.lenOf
          have hm3 := HQ.out.2.2.2
          have HM := Hid.mk' (And.intro hm2 hm3)
          clear hm2 hm3
          clear HE HS bZ bP oW below1 hSZ bZ4 bP4 hap below4 bP5 bZ5 oW5 below5 hown4 hgr4 s0 s1 f0 f1
          go_wp2_with fail
          go_roundw
          case rel => exact HE'
          case measure => have hm3 := HM.out.2; have hm2 := HM.out.1; simp only [List.length_cons] at hm3 hm2; show lenOf v2 < lenOf u0; rw [hm2, hmes]; omega
      · rw [spF_one _ _ h3] at hsp
        obtain ⟨v2, hcut2, hr2⟩ := hrw.from 1 (by simp)
        simp only [List.drop_succ_cons, List.drop_zero] at hr2
        rw [show ((1 : Nat) : Int) = 1 from rfl] at hcut2
        by_cases h2 : 2 < nr
        · have h2' : (2 : Int) < (nr : Int) := by omega
          obtain ⟨b, t, rfl⟩ : ∃ b t, rest = b :: t := by
            cases rest with
            | nil => simp at hnr; omega
            | cons b t => exact ⟨b, t, rfl⟩
          obtain ⟨p2, hx2, hc2, hp2⟩ := hr.at 1 (by simp)
          simp only [List.getElem_cons_succ, List.getElem_cons_zero] at hc2
          rw [show ((1 : Nat) : Int) = 1 from rfl] at hx2
          have t2 : (b == 45) = false := by
            rw [beq_eq_false_iff_ne]
            intro e
            exact h3 ⟨by rw [← hnr]; exact h2, by rw [e]; rfl⟩
          have HQ := Hid.mk' (And.intro hsp (And.intro hdl (And.intro hr2 hnr)))
          have HS := Hid.mk' (And.intro hb0 (And.intro hb1 (And.intro ho hbel)))
          clear hsp hdl hr2 hnr hr hrw h3 h2
          clear hb0 hb1 ho hbel
          go_wp2_with fail
          go_region
          clear hx1 hc1 hp1
          obtain ⟨hb0, hb1, ho, hbel⟩ := HS.out
          have hN2 := hbel.size
          have hN3 := hb1.inside
          have bS : Bx (wr.alloc (.cells #[.int .i32 a, .int .i32 a] 70)).drew wr.heap.size 70 #[.int .i32 a, .int .i32 a] := (Bx.fresh wr _ _).drawn 1
          have bW : Below wr.heap.size wr (wr.alloc (.cells #[.int .i32 a, .int .i32 a] 70)).drew := ((Below.refl _ _).alloc (Nat.le_refl _) _).drew
          have bP := hb1.next bW
          have bZ := hb0.next bW
          have oW := own_next ho bW
          have below1 := bnext hbel bW
          rw [← bW.cell hp2] at hc2
          have hpn2 : p2.block ≠ wr.heap.size := Nat.ne_of_lt hp2
          have hNP : wr.heap.size ≠ w.heap.size + 1 := by omega
          have hNZ : wr.heap.size ≠ w.heap.size := by omega
          have hoN : (Value.slice sa done.length sc).ownBlock ≠ some wr.heap.size := fun e => by have := (ho.lt _ e).2; omega
          have hSZ : wr.heap.size < ((wr.alloc (.cells #[.int .i32 a, .int .i32 a] 70)).drew).heap.size := by simp
          clear hb0 hb1 ho bW HS hbel
          generalize (wr.alloc (.cells #[.int .i32 a, .int .i32 a] 70)).drew = W1 at *
          generalize hNN : wr.heap.size = N1 at *
          have HNN := Hid.mk' (And.intro hN2 (And.intro hN3 hSZ))
          clear hNN hN2 hN3 hSZ
          have s0 : W1.cell? ⟨N1, 0, none⟩ = some (.int .i32 a) := bS.read (i := 0) rfl
          have s1 : W1.cell? ⟨N1, 1, none⟩ = some (.int .i32 a) := bS.read (i := 1) rfl
          obtain ⟨o0, o1, o2⟩ := bP.reads3
          obtain ⟨x0, x1, x2⟩ := bP.opens3
          have hSZ2 : w.heap.size ≤ W1.heap.size := by have := HNN.out; simp; omega
          have HS := Hid.mk' (And.intro bZ (And.intro bP (And.intro oW (And.intro below1 hSZ2))))
          have hdl : done.length ≤ 200 := by have := HQ.out.2.1; omega
          clear bS bP bZ oW below1 hoN hSZ2
          go_wp2_with (at_builtin; refine wpList_append_own _ rfl (.tmp 49) (.tmp 51) 55 rfl w.heap.size 70 i0 _ 2 8 Tryd.underlying55 HI.out.1 HI.out.2.1 HI.out.2.2.1 HI.out.2.2.2 rfl (by decide) (.slice sa done.length sc) done.length _ rfl (World.ownsRow.alloc HS.out.2.2.1 _) ⟨W1.heap.size, 0, none⟩ 1 1 [.int .i32 a, .int .i32 a] rfl rfl ?c1 ?c2 ?c3 ?c4 ?c5 ?_)
          try case c1 => exact World.news_of_block (cs := #[.int .i32 a, .int .i32 a]) (t := 70) (fr := (0, 0)) (heap_alloc_new W1 (.cells #[.int .i32 a, .int .i32 a] 70))
          case c2 => simp [Value.oneCell']
          case c3 => simp only [maxLen]; omega
          case c4 => omega
          case c5 => have := HS.out.2.2.2.2; simp; (try simp at this); omega
          intro v4 W4 hown4 hgr4 _
          obtain ⟨bZ, bP, oW, below1, hSZ⟩ := HS.out
          have bZ4 := (bZ.past (.cells #[.int .i32 a, .int .i32 a] 70)).grown hgr4 (bx_apart bZ oW (by decide))
          have bP4 := (bP.past (.cells #[.int .i32 a, .int .i32 a] 70)).grown hgr4 (bx_apart bP oW (by decide))
          have hap := bx_apart bP4 hown4 (by decide)
          have below4 : Below w.heap.size w W4 := (below1.alloc below1.size _).grown hgr4 (by have := below1.size; simp; (try simp at this); omega) (fun j hj => (oW.lt j hj).1)
          obtain ⟨sa4, sc4, rfl⟩ := own_form hown4
          obtain ⟨o0, o1, o2⟩ := bP4.reads3
          obtain ⟨x0, x1, x2⟩ := bP4.opens3
          have bP5 : Bx (W4.setCell ⟨w.heap.size + 1, 2, none⟩ (.slice sa4 (done.length + 1) sc4)) (w.heap.size + 1) 57 #[.bool false, .bool true, .slice sa4 (done.length + 1) sc4] := bP4.put 2 _
          have bZ5 := bZ4.beside (p := ⟨w.heap.size + 1, 2, none⟩) (by simp) (.slice sa4 (done.length + 1) sc4)
          have oW5 := hown4.kept (gb_set W4 (w.heap.size + 1) 2 (.slice sa4 (done.length + 1) sc4)) (.inr hap)
          have below5 := below_gb below4 (gb_set W4 (w.heap.size + 1) 2 (.slice sa4 (done.length + 1) sc4)) (Nat.le_succ _)
          have HE : ClsInv w true t0 v2 (W4.setCell ⟨w.heap.size + 1, 2, none⟩ (.slice sa4 (done.length + 1) sc4)) := by
            refine ⟨(b :: t), done ++ [(a, a)], sa4, sc4, HQ.out.2.2.1, ?_, bZ5, ?_, ?_, below5, ?_⟩
            · have := HQ.out.2.1; simp at this; simp; omega
            · rw [List.length_append]; exact bP5
            · rw [List.length_append, flatS_snoc]; exact oW5
            · rw [HQ.out.1, map_app]
          have HE' := Hid.mk' HE
          have hm2 := HQ.out.2.2.1.lenOf
          have hm3 := HQ.out.2.2.2
          have HM := Hid.mk' (And.intro hm2 hm3)
          clear hm2 hm3
          clear HE HS bZ bP oW below1 hSZ bZ4 bP4 hap below4 bP5 bZ5 oW5 below5 hown4 hgr4 s0 s1
          go_wp2_with fail
          go_roundw
          case rel => exact HE'
          case measure => have hm3 := HM.out.2; have hm2 := HM.out.1; simp only [List.length_cons] at hm3 hm2; show lenOf v2 < lenOf u0; rw [hm2, hmes]; omega
        · have h2' : ¬ (2 : Int) < (nr : Int) := by omega
          have HQ := Hid.mk' (And.intro hsp (And.intro hdl (And.intro hr2 hnr)))
          have HS := Hid.mk' (And.intro hb0 (And.intro hb1 (And.intro ho hbel)))
          clear hsp hdl hr2 hnr hr hrw h3 h2
          clear hb0 hb1 ho hbel
          go_wp2_with fail
          go_region
          clear hx1 hc1 hp1
          obtain ⟨hb0, hb1, ho, hbel⟩ := HS.out
          have hN2 := hbel.size
          have hN3 := hb1.inside
          have bS : Bx (wr.alloc (.cells #[.int .i32 a, .int .i32 a] 70)).drew wr.heap.size 70 #[.int .i32 a, .int .i32 a] := (Bx.fresh wr _ _).drawn 1
          have bW : Below wr.heap.size wr (wr.alloc (.cells #[.int .i32 a, .int .i32 a] 70)).drew := ((Below.refl _ _).alloc (Nat.le_refl _) _).drew
          have bP := hb1.next bW
          have bZ := hb0.next bW
          have oW := own_next ho bW
          have below1 := bnext hbel bW
          have hNP : wr.heap.size ≠ w.heap.size + 1 := by omega
          have hNZ : wr.heap.size ≠ w.heap.size := by omega
          have hoN : (Value.slice sa done.length sc).ownBlock ≠ some wr.heap.size := fun e => by have := (ho.lt _ e).2; omega
          have hSZ : wr.heap.size < ((wr.alloc (.cells #[.int .i32 a, .int .i32 a] 70)).drew).heap.size := by simp
          clear hb0 hb1 ho bW HS hbel
          generalize (wr.alloc (.cells #[.int .i32 a, .int .i32 a] 70)).drew = W1 at *
          generalize hNN : wr.heap.size = N1 at *
          have HNN := Hid.mk' (And.intro hN2 (And.intro hN3 hSZ))
          clear hNN hN2 hN3 hSZ
          have s0 : W1.cell? ⟨N1, 0, none⟩ = some (.int .i32 a) := bS.read (i := 0) rfl
          have s1 : W1.cell? ⟨N1, 1, none⟩ = some (.int .i32 a) := bS.read (i := 1) rfl
          obtain ⟨o0, o1, o2⟩ := bP.reads3
          obtain ⟨x0, x1, x2⟩ := bP.opens3
          have hSZ2 : w.heap.size ≤ W1.heap.size := by have := HNN.out; simp; omega
          have HS := Hid.mk' (And.intro bZ (And.intro bP (And.intro oW (And.intro below1 hSZ2))))
          have hdl : done.length ≤ 200 := by have := HQ.out.2.1; omega
          clear bS bP bZ oW below1 hoN hSZ2
          go_wp2_with (at_builtin; refine wpList_append_own _ rfl (.tmp 49) (.tmp 51) 55 rfl w.heap.size 70 i0 _ 2 8 Tryd.underlying55 HI.out.1 HI.out.2.1 HI.out.2.2.1 HI.out.2.2.2 rfl (by decide) (.slice sa done.length sc) done.length _ rfl (World.ownsRow.alloc HS.out.2.2.1 _) ⟨W1.heap.size, 0, none⟩ 1 1 [.int .i32 a, .int .i32 a] rfl rfl ?c1 ?c2 ?c3 ?c4 ?c5 ?_)
          try case c1 => exact World.news_of_block (cs := #[.int .i32 a, .int .i32 a]) (t := 70) (fr := (0, 0)) (heap_alloc_new W1 (.cells #[.int .i32 a, .int .i32 a] 70))
          case c2 => simp [Value.oneCell']
          case c3 => simp only [maxLen]; omega
          case c4 => omega
          case c5 => have := HS.out.2.2.2.2; simp; (try simp at this); omega
          intro v4 W4 hown4 hgr4 _
          obtain ⟨bZ, bP, oW, below1, hSZ⟩ := HS.out
          have bZ4 := (bZ.past (.cells #[.int .i32 a, .int .i32 a] 70)).grown hgr4 (bx_apart bZ oW (by decide))
          have bP4 := (bP.past (.cells #[.int .i32 a, .int .i32 a] 70)).grown hgr4 (bx_apart bP oW (by decide))
          have hap := bx_apart bP4 hown4 (by decide)
          have below4 : Below w.heap.size w W4 := (below1.alloc below1.size _).grown hgr4 (by have := below1.size; simp; (try simp at this); omega) (fun j hj => (oW.lt j hj).1)
          obtain ⟨sa4, sc4, rfl⟩ := own_form hown4
          obtain ⟨o0, o1, o2⟩ := bP4.reads3
          obtain ⟨x0, x1, x2⟩ := bP4.opens3
          have bP5 : Bx (W4.setCell ⟨w.heap.size + 1, 2, none⟩ (.slice sa4 (done.length + 1) sc4)) (w.heap.size + 1) 57 #[.bool false, .bool true, .slice sa4 (done.length + 1) sc4] := bP4.put 2 _
          have bZ5 := bZ4.beside (p := ⟨w.heap.size + 1, 2, none⟩) (by simp) (.slice sa4 (done.length + 1) sc4)
          have oW5 := hown4.kept (gb_set W4 (w.heap.size + 1) 2 (.slice sa4 (done.length + 1) sc4)) (.inr hap)
          have below5 := below_gb below4 (gb_set W4 (w.heap.size + 1) 2 (.slice sa4 (done.length + 1) sc4)) (Nat.le_succ _)
          have HE : ClsInv w true t0 v2 (W4.setCell ⟨w.heap.size + 1, 2, none⟩ (.slice sa4 (done.length + 1) sc4)) := by
            refine ⟨rest, done ++ [(a, a)], sa4, sc4, HQ.out.2.2.1, ?_, bZ5, ?_, ?_, below5, ?_⟩
            · have := HQ.out.2.1; simp at this; simp; omega
            · rw [List.length_append]; exact bP5
            · rw [List.length_append, flatS_snoc]; exact oW5
            · rw [HQ.out.1, map_app]
          have HE' := Hid.mk' HE
          have hm2 := HQ.out.2.2.1.lenOf
          have hm3 := HQ.out.2.2.2
          have HM := Hid.mk' (And.intro hm2 hm3)
          clear hm2 hm3
          clear HE HS bZ bP oW below1 hSZ bZ4 bP4 hap below4 bP5 bZ5 oW5 below5 hown4 hgr4 s0 s1
          go_wp2_with fail
          go_roundw
          case rel => exact HE'
          case measure => have hm3 := HM.out.2; have hm2 := HM.out.1; simp only [List.length_cons] at hm3 hm2; show lenOf v2 < lenOf u0; rw [hm2, hmes]; omega
theorem class_any (v : Value) (l : List Int) (hl : l.length ≤ 200) (w : World) (h : RS w v l) : Calls Tryd.prog 26 #[v] w (ClsPost w l) := by
  cases l with
  | nil => exact class_nil v hl w h
  | cons a t =>
    by_cases ha : a = 94
    · subst ha; exact class_hat v t hl w h
    · exact class_plain v a t ha hl w h
end Go.Proofs.YtfnjmboflegaaaaDoor
