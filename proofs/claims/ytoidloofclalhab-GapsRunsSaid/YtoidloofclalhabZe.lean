/- Layer 47 (gaps): Runs, by the code. -/
import Derived.Test.YtoidloofclalhabZb
import Derived.Test.YtoidloofclalhabZd
namespace Go.Proofs.Ytoidloofclalhab
open Go.RowKit

def flatR (L : List (Int × Int)) : List Value := L.flatMap fun x => [.int .i64 x.1, .int .i64 x.2]
theorem flatR_len (L : List (Int × Int)) : (flatR L).length = L.length * 2 := by
  induction L with
  | nil => rfl
  | cons s L ih => simp only [flatR, List.flatMap_cons, List.length_append, List.length_cons] at *; rw [ih]; simp; omega
theorem flatR_snoc (L : List (Int × Int)) (x : Int × Int) : flatR (L ++ [x]) = flatR L ++ [.int .i64 x.1, .int .i64 x.2] := by simp [flatR]
theorem flatR_at (L : List (Int × Int)) : ∀ (j : Nat) (h : j < L.length), (flatR L)[j * 2]? = some (.int .i64 L[j].1) ∧ (flatR L)[j * 2 + 1]? = some (.int .i64 L[j].2) := by
  induction L with
  | nil => intro j h; simp at h
  | cons s L ih =>
    intro j h
    have e : flatR (s :: L) = .int .i64 s.1 :: .int .i64 s.2 :: flatR L := by simp [flatR]
    rw [e]
    cases j with
    | zero => exact ⟨rfl, rfl⟩
    | succ j =>
      have := ih j (by simpa using h)
      rw [show (j + 1) * 2 = j * 2 + 1 + 1 from by omega]
      simp only [List.getElem?_cons_succ, List.getElem_cons_succ]
      exact this
theorem r_info : (Try.prog.info? 61).map (fun i => (i.zero, i.size, i.bytes)) = some (some (.agg #[.int .i64 0, .int .i64 0]), 2, 16) := by kernel_rfl
/-- A row of runs that the call owns. -/
def RO (w : World) (B : Nat) (v : Value) (L : List (Int × Int)) : Prop := w.ownsRow B 61 2 v L.length (flatR L)
theorem RO.form {w : World} {B : Nat} {v : Value} {L : List (Int × Int)} (h : RO w B v L) : ∃ a c, v = .slice a L.length c := by
  rcases h.2 with ⟨rfl, hl⟩ | ⟨g, cap, cur, rfl, _⟩
  · exact ⟨none, 0, by rw [hl]⟩
  · exact ⟨_, _, rfl⟩
theorem RO.cell {w : World} {B n c : Nat} {a : Option Addr} {L : List (Int × Int)} (h : RO w B (.slice a n c) L) (k : Nat) (hk : k < L.length) : ∃ g, a = some ⟨g, 0, none⟩ ∧ B ≤ g ∧ w.cell? ⟨g, k * 2, none⟩ = some (.int .i64 L[k].1) ∧ w.cell? ⟨g, k * 2 + 1, none⟩ = some (.int .i64 L[k].2) ∧ (∀ i, w.frozen? ⟨g, i, none⟩ = false) := by
  have h2 := h
  obtain ⟨g, cap, hv, hB, _⟩ := World.ownsRow.form h (by omega)
  cases hv
  obtain ⟨f0, f1⟩ := flatR_at L k hk
  refine ⟨g, rfl, hB, ?_, ?_, fun i => World.ownsRow.frozenAt h2 i⟩
  · rw [World.ownsRow.cellAt h2 _ (by omega)]; exact f0
  · rw [World.ownsRow.cellAt h2 _ (by omega)]; exact f1
theorem flatR_set (S : List (Int × Int)) (f c d : Int) : (flatR (S ++ [(f, c)])).set (S.length * 2 + 1) (.int .i64 d) = flatR (S ++ [(f, d)]) := by
  rw [flatR_snoc, flatR_snoc, List.set_append_right _ _ (by rw [flatR_len]; omega), flatR_len]
  rw [show S.length * 2 + 1 - S.length * 2 = 1 from by omega]
  rfl
theorem gfollows_any (a n : Int) (ha : IZ a) (hn : IZ n) (w : World) : Calls Try.prog 53 #[.int .i64 a, .int .i64 n] w fun e w' => e = .returned (.bool (fol a n)) ∧ w = w' := by
  obtain ⟨ha0, ha1⟩ := ha
  obtain ⟨hn0, hn1⟩ := hn
  have hf : fol a n = decide (a < n ∧ a + 1 = n) := rfl
  generalize fol a n = r at *
  by_cases h1 : a < n
  · have hr : r = (a + 1 == n) := by
      rw [hf, Bool.eq_iff_iff]
      simp [h1]
    have HR := Lib.hid hr
    clear hf hr
    go_enter Try.func53, Try.ntmps53
    go_wp2_with fail
    go_ret
    exact ⟨by rw [HR.out]; rfl, rfl⟩
  · have hr : r = false := by rw [hf]; simp; omega
    have HR := Lib.hid hr
    clear hf hr
    go_enter Try.func53, Try.ntmps53
    go_wp2_with fail
    go_ret
    exact ⟨by rw [HR.out]; rfl, rfl⟩
def RR (w : World) (l : List Int) (k : Nat) (v : Value) (wr : World) : Prop := RO wr w.heap.size v (rsT l k) ∧ Below w.heap.size w wr ∧ RunsUp l k (rsT l k) ∧ (rsT l k).length ≤ k
def RunsE (l : List Int) (w : World) (e : Ending) (w' : World) : Prop := ∃ v, e = .returned v ∧ RR w l l.length v w'
theorem rsT_new {l : List Int} {k : Nat} (hk : k < l.length) (h : (decide (0 < k) && folB l k) = false) : rsT l (k + 1) = rsT l k ++ [(l[k], 1)] := by
  show (if (decide (0 < k) && folB l k) = true then _ else _) = _
  rw [if_neg (by rw [h]; simp), List.getD_eq_getElem?_getD, List.getElem?_eq_getElem hk]; rfl
theorem rsT_bump {l : List Int} {k : Nat} (h : (decide (0 < k) && folB l k) = true) : rsT l (k + 1) = bumpL (rsT l k) := by
  show (if (decide (0 < k) && folB l k) = true then _ else _) = _
  rw [if_pos h]
theorem folB_of {l : List Int} {k : Nat} (hk : k < l.length) : folB l k = fol (l[k - 1]'(by omega)) l[k] := by
  unfold folB
  rw [List.getD_eq_getElem?_getD, List.getD_eq_getElem?_getD, List.getElem?_eq_getElem hk, List.getElem?_eq_getElem (by omega : k - 1 < l.length)]; rfl
theorem RR.new {w wr W : World} {l : List Int} {k : Nat} {v v' : Value} (h : RR w l k v wr) (hk : k < l.length) (hf : (decide (0 < k) && folB l k) = false) (hb : Below w.heap.size w W)
    (ho : W.ownsRow w.heap.size 61 2 v' ((rsT l k).length + 1) (flatR (rsT l k) ++ [.int .i64 l[k], .int .i64 1])) : RR w l (k + 1) v' W := by
  obtain ⟨h1, h2, h3, h4⟩ := h
  refine ⟨?_, hb, ?_, ?_⟩
  · rw [rsT_new hk hf]
    unfold RO
    rw [List.length_append, flatR_snoc]
    exact ho
  · rw [rsT_new hk hf]
    refine h3.snoc hk (fun h0 hfo => ?_) (fun h0 => by subst h0; rfl)
    rw [folAt_of (a := l[k - 1]'(by omega)) (n := l[k]) (List.getElem?_eq_getElem _) (List.getElem?_eq_getElem _), ← folB_of hk] at hfo
    rw [hfo, decide_eq_true h0] at hf
    simp at hf
  · rw [rsT_new hk hf, List.length_append]
    simp only [List.length_cons, List.length_nil]
    omega
theorem RR.bump {w wr W : World} {l : List Int} {k m : Nat} {S : List (Int × Int)} {f c : Int} {v v' : Value} (h : RR w l k v wr) (hS : rsT l k = S ++ [(f, c)]) (hk : k < l.length) (hf : (decide (0 < k) && folB l k) = true) (hb : Below w.heap.size w W) (hm : m = S.length)
    (ho : W.ownsRow w.heap.size 61 2 v' (m + 1) ((flatR (S ++ [(f, c)])).set (m * 2 + 1) (.int .i64 (c + 1)))) : RR w l (k + 1) v' W := by
  subst hm
  obtain ⟨h1, h2, h3, h4⟩ := h
  have hf2 := hf
  rw [Bool.and_eq_true, decide_eq_true_iff] at hf2
  have e : rsT l (k + 1) = S ++ [(f, c + 1)] := by rw [rsT_bump hf, hS, bumpL_snoc]
  have h3' : RunsUp l k (S ++ [(f, c)]) := hS ▸ h3
  refine ⟨?_, hb, ?_, ?_⟩
  · rw [e]
    unfold RO
    rw [List.length_append, ← flatR_set S f c (c + 1)]
    exact ho
  · rw [e]
    refine h3'.bump hk hf2.1 ?_
    rw [folAt_of (a := l[k - 1]'(by omega)) (n := l[k]) (List.getElem?_eq_getElem _) (List.getElem?_eq_getElem _), ← folB_of hk]
    exact hf2.2
  · rw [e]
    rw [hS] at h4
    simp at h4 ⊢
    omega
set_option maxHeartbeats 4000000 in
theorem runs_any (vl : Value) (l : List Int) (hll : l.length ≤ 10000) (w : World) (hL : IR w vl l) :
    Calls Try.prog 34 #[vl] w (RunsE l w) := by
  obtain ⟨i0, hi, hz0, hz1, hz2⟩ := info_parts r_info
  have HI := Hid.mk' (And.intro hi (And.intro hz0 (And.intro hz1 hz2)))
  clear hi hz0 hz1 hz2
  obtain ⟨a, cap, rfl, hm, hz, hc⟩ := hL
  clear hm
  have HC := Lib.hid hc
  have HZ := Lib.hid hz
  clear hc hz
  have H0 := Lib.hid (show RR w l 0 (.slice none 0 0) w from ⟨World.ownsRow_nil _ _ _ _, Below.refl _ _, RunsUp.none l, Nat.le_refl _⟩)
  go_enter Try.func34, Try.ntmps34
  go_wp2_with fail
  go_loopw [3, 8] (fun r i wr => ∃ (k : Nat) (v3 : Value), i = .int .i64 k ∧ v3 = r ∧ k ≤ l.length ∧ Hid (RR w l k v3 wr)) (fun _ i _ => l.length - (intOf i).toNat)
  case atStart => exact ⟨0, _, rfl, rfl, Nat.zero_le _, H0⟩
  case round =>
    obtain ⟨k, v3, rfl, rfl, hk, HR⟩ := hrel
    clear H0
    by_cases hlt : k < l.length
    · obtain ⟨b, off, rfl, hcell⟩ := HC.out (fun e => by rw [e] at hlt; simp at hlt)
      have hx := hcell k hlt
      have x0 : wr.cell? ⟨b, off + k, none⟩ = some (.int .i64 l[k]) := by rw [HR.out.2.1.cell (World.block_lt_of_cell? _ _ hx)]; exact hx
      have hy := hcell (k - 1) (by omega)
      have y0 : wr.cell? ⟨b, off + (k - 1), none⟩ = some (.int .i64 (l[k - 1]'(by omega))) := by rw [HR.out.2.1.cell (World.block_lt_of_cell? _ _ hy)]; exact hy
      have hiz := HZ.out l[k] (List.getElem_mem hlt)
      have hiy := HZ.out (l[k - 1]'(by omega)) (List.getElem_mem _)
      have HFO := Lib.hid (folB_of hlt)
      have HNEW := Lib.hid (fun (v' : Value) (W : World) hf hb ho => RR.new (W := W) (v' := v') HR.out hlt hf hb ho)
      have HBMP := Lib.hid (fun (v' : Value) (W : World) S f c m hS hf hb hm ho => RR.bump (W := W) (v' := v') (S := S) (f := f) (c := c) (m := m) HR.out hS hlt hf hb hm ho)
      clear hcell hx hy
      generalize l[k - 1]'(by omega) = y at *
      generalize l[k] = n at *
      have CF := Lib.hid (fun W => gfollows_any y n hiy hiz W)
      by_cases hnew : (decide (0 < k) && folB l k) = false
      · have HNF := Lib.hid hnew
        obtain ⟨p, q, hv3⟩ := HR.out.1.form
        have HO := Lib.hid HR.out.1
        have hlen : (rsT l k).length ≤ 10000 := by have := HR.out.2.2.2; omega
        have hbs := HR.out.2.1.size
        have HBL := Lib.hid HR.out.2.1
        have hcase : Hid (k = 0 ∨ (0 < k ∧ fol y n = false)) := Lib.hid (by
          rcases Nat.eq_zero_or_pos k with h0 | h0
          · exact .inl h0
          · refine .inr ⟨h0, ?_⟩
            rw [decide_eq_true h0, Bool.true_and, HFO.out] at hnew
            exact hnew)
        clear hnew
        subst hv3
        rcases hcase.out with h0 | ⟨h0, hfn⟩
        · have hk0 : ¬ 0 < k := by omega
          clear hcase h0
          go_wp2_with (at_builtin; refine wpList_append_own _ rfl (.tmp 34) (.tmp 37) 59 rfl w.heap.size 61 i0 _ 2 16 Try.underlying59 HI.out.1 HI.out.2.1 HI.out.2.2.1 HI.out.2.2.2 rfl (by decide) _ (rsT l k).length (flatR (rsT l k)) rfl (World.ownsRow.alloc HO.out _) ⟨wr.heap.size, 0, none⟩ 1 1 [.int .i64 n, .int .i64 1] rfl rfl ?c1_0 ?c2_0 ?c3_0 ?c4_0 ?c5_0 ?_)
          case c1_0 => exact World.news_of_block (cs := #[.int .i64 n, .int .i64 1]) (t := 61) (fr := (0, 0)) (heap_alloc_new wr _)
          case c2_0 => simp [Value.oneCell']
          case c3_0 => simp only [maxLen]; omega
          case c4_0 => omega
          case c5_0 => simp; omega
          intro v4 W4 hown4 hgr4 _
          have HN4 := Lib.hid (HNEW.out v4 W4 HNF.out ((HBL.out.alloc hbs (.cells #[.int .i64 n, .int .i64 1] 61)).grown hgr4 (by simp; omega) (fun j hj => (World.ownsRow.lt HO.out j hj).1)) hown4)
          clear hown4 hgr4
          go_wp2_with fail
          go_roundw
          case rel => exact ⟨k + 1, v4, by go_num, rfl, by omega, HN4⟩
          case measure => simp [intOf]; omega
        · rw [hfn] at CF
          clear hcase hfn
          go_wp2_with fail
          refine (CF.out _).mono ?_; rintro e w2 ⟨rfl, rfl⟩
          go_wp2_with (at_builtin; refine wpList_append_own _ rfl (.tmp 34) (.tmp 37) 59 rfl w.heap.size 61 i0 _ 2 16 Try.underlying59 HI.out.1 HI.out.2.1 HI.out.2.2.1 HI.out.2.2.2 rfl (by decide) _ (rsT l k).length (flatR (rsT l k)) rfl (World.ownsRow.alloc HO.out _) ⟨wr.heap.size, 0, none⟩ 1 1 [.int .i64 n, .int .i64 1] rfl rfl ?c1_1 ?c2_1 ?c3_1 ?c4_1 ?c5_1 ?_)
          case c1_1 => exact World.news_of_block (cs := #[.int .i64 n, .int .i64 1]) (t := 61) (fr := (0, 0)) (heap_alloc_new wr _)
          case c2_1 => simp [Value.oneCell']
          case c3_1 => simp only [maxLen]; omega
          case c4_1 => omega
          case c5_1 => simp; omega
          intro v4 W4 hown4 hgr4 _
          have HN4 := Lib.hid (HNEW.out v4 W4 HNF.out ((HBL.out.alloc hbs (.cells #[.int .i64 n, .int .i64 1] 61)).grown hgr4 (by simp; omega) (fun j hj => (World.ownsRow.lt HO.out j hj).1)) hown4)
          clear hown4 hgr4
          go_wp2_with fail
          go_roundw
          case rel => exact ⟨k + 1, v4, by go_num, rfl, by omega, HN4⟩
          case measure => simp [intOf]; omega
      · have hyes : (decide (0 < k) && folB l k) = true := by simpa using hnew
        have HNF := Lib.hid hyes
        rw [Bool.and_eq_true, decide_eq_true_iff] at hyes
        obtain ⟨h0, hfn⟩ := hyes
        rw [HFO.out] at hfn
        rw [hfn] at CF
        clear hnew hfn
        obtain ⟨S, f, c, hS, hc1, hst⟩ := HR.out.2.2.1.last h0
        have hclen : c ≤ 10000 := by omega
        obtain ⟨p, q, hv3⟩ := HR.out.1.form
        obtain ⟨m, hm⟩ : ∃ m, m = S.length := ⟨_, rfl⟩
        have hml : (rsT l k).length = m + 1 := by rw [hS, hm]; simp
        have hml2 : m ≤ 10000 := by have := HR.out.2.2.2; omega
        have hO := HR.out.1
        rw [hv3, hS] at hO
        obtain ⟨g, rfl, hg, z0, z1, zf⟩ := RO.cell hO m (by rw [hm]; simp)
        have hgc : (S ++ [(f, c)])[m]'(by rw [hm]; simp) = (f, c) := by simp [hm]
        rw [hgc] at z1
        dsimp only at z1
        have zf1 := zf (m * 2 + 1)
        have hO2 := hO
        unfold RO at hO2
        rw [show (S ++ [(f, c)]).length = m + 1 from by rw [hm]; simp] at hO2
        rw [hml] at hv3
        subst hv3
        have hi0 : (0 : Int) ≤ (m : Int) := by omega
        have HN4 := Lib.hid (HBMP.out _ ((wr.setCell ⟨g, m * 2 + 1, none⟩ (.int .i64 (c + 1))).drew) S f c m hS HNF.out (HR.out.2.1.setCell (p := ⟨g, m * 2 + 1, none⟩) hg _).drew hm (World.ownsRow.drew (World.ownsRow.stored hO2 (m * 2 + 1) (.int .i64 (c + 1))).1))
        have HM := Lib.hid hml
        clear hO hO2 hS hst hgc z0 zf hml hm hg
        go_wp2_with fail
        refine (CF.out _).mono ?_; rintro e w2 ⟨rfl, rfl⟩
        go_wp2_with fail
        go_region
        all_goals
          go_wp2_with fail
          go_roundw
          case rel => exact ⟨k + 1, _, by go_num, rfl, by omega, HN4⟩
          case measure => simp [intOf]; omega
    · obtain rfl : k = l.length := by omega
      go_wp2_with fail
      go_ret
      exact ⟨v3, rfl, HR.out⟩
end Go.Proofs.Ytoidloofclalhab
