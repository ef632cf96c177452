/- Layer 21 (conf): Members: slices.DeleteFunc at ints by the code's own closure. -/
import Derived.Test.YtaeflfgkdjfnfaaM6
import Derived.Laws.IdiomCopy
namespace Go.Proofs.Ytaeflfgkdjfnfaa
open Go.RowKit

theorem run_sliceI_l (g n cap i : Nat) (hi : i ≤ n) (hc : i < cap) (w : World) : (Instr.slice 71 (.slice (some ⟨g, 0, none⟩) n cap) (some (.int .i64 (i : Int))) none none).run Try.prog w = .ok (.slice (some ⟨g, i, none⟩) (n - i) (cap - i)) w := by
  have hel : Try.prog.elem 71 = 3 := by kernel_rfl
  have hu : Try.prog.underlying 71 = some (.slice (Try.prog.elem 71)) := by kernel_rfl
  have hs := Try.sizeOf3
  rw [run_slice_l w _ (some ⟨g, 0, none⟩) n cap hu .i64 (i : Int) (by omega) (by omega), hel, hs]
  simp [sliced, addi]
  intro e
  omega
theorem run_sliceI_h (g n cap i : Nat) (hi : i ≤ cap) (w : World) : (Instr.slice 71 (.slice (some ⟨g, 0, none⟩) n cap) none (some (.int .i64 (i : Int))) none).run Try.prog w = .ok (.slice (some ⟨g, 0, none⟩) i cap) w := by
  have hel : Try.prog.elem 71 = 3 := by kernel_rfl
  have hu : Try.prog.underlying 71 = some (.slice (Try.prog.elem 71)) := by kernel_rfl
  have hs := Try.sizeOf3
  rw [run_slice_h w _ (some ⟨g, 0, none⟩) n cap hu .i64 (i : Int) (by omega) (by omega), hel, hs]
  simp [sliced, addi]
set_option maxHeartbeats 2000000 in
theorem members1_any (gb : Nat) (c : Cf) (x : Int) (w : World) (h : Bx w gb 39 c.cells) : Calls Try.prog 95 #[.int .i64 x, .pointer (some ⟨gb, 0, none⟩)] w fun e w' => e = .returned (.bool (c.out x)) ∧ Below w.heap.size w w' := by
  have C := Lib.hid (cf_is c x w)
  have H := Lib.hid h
  have HN := Lib.hid (show c.is x = !c.out x from rfl)
  clear h
  generalize c.is x = q at *
  generalize c.out x = p at *
  obtain ⟨e, o0, o1, o2, o3, o4, j0, j1, j2, j3, j4⟩ := c
  unfold Cf.cells at *
  dsimp only at *
  obtain ⟨x0, x1, x2, x3, x4, x5, x6, x7, x8, x9, x10⟩ := (show w.cell? ⟨gb, 0, none⟩ = some (.int .i64 e) ∧ w.cell? ⟨gb, 1, none⟩ = some (.bool o0) ∧ w.cell? ⟨gb, 2, none⟩ = some (.bool o1) ∧ w.cell? ⟨gb, 3, none⟩ = some (.bool o2) ∧ w.cell? ⟨gb, 4, none⟩ = some (.bool o3) ∧ w.cell? ⟨gb, 5, none⟩ = some (.bool o4) ∧ w.cell? ⟨gb, 6, none⟩ = some (.int .i64 j0) ∧ w.cell? ⟨gb, 7, none⟩ = some (.int .i64 j1) ∧ w.cell? ⟨gb, 8, none⟩ = some (.int .i64 j2) ∧ w.cell? ⟨gb, 9, none⟩ = some (.int .i64 j3) ∧ w.cell? ⟨gb, 10, none⟩ = some (.int .i64 j4) from ⟨H.out.read rfl, H.out.read rfl, H.out.read rfl, H.out.read rfl, H.out.read rfl, H.out.read rfl, H.out.read rfl, H.out.read rfl, H.out.read rfl, H.out.read rfl, H.out.read rfl⟩)
  go_enter Try.func95, Try.ntmps95
  go_wp2_with fail
  refine (C.out).mono ?_; rintro _ w1 ⟨rfl, hb1⟩
  have HB := Lib.hid hb1
  clear hb1
  go_wp2_with fail
  go_ret
  exact ⟨cret_b (by rw [HN.out]; simp), HB.out⟩
def kept (p : Int → Bool) (l : List Int) : List Int := l.filter fun x => !p x
theorem kept_take (p : Int → Bool) (l : List Int) (j : Nat) (h : j < l.length) : kept p (l.take (j + 1)) = kept p (l.take j) ++ (if p l[j] = true then [] else [l[j]]) := by
  unfold kept
  rw [List.take_succ_eq_append_getElem h, List.filter_append]
  congr 1
  cases hp : p l[j] <;> simp [hp]
theorem kept_le (p : Int → Bool) (l : List Int) : (kept p l).length ≤ l.length := List.length_filter_le _ _
/-- What DeleteFunc's loop holds. -/
structure DI (w0 : World) (g n cap gb : Nat) (cs : Array Value) (l K : List Int) (i j : Nat) (W : World) : Prop where
  bx : Bx W gb 39 cs
  row : ∃ cur : Array Value, Bx W g 3 cur ∧ n ≤ cur.size ∧ (∀ q (h : q < K.length), cur[q]? = some (.int .i64 K[q])) ∧ (∀ q, j ≤ q → (h : q < l.length) → cur[q]? = some (.int .i64 l[q]))
  bel : Below w0.heap.size w0 W
  ik : K.length = i
  base : w0.heap.size ≤ g
  ne : gb ≠ g
theorem DI.next {w0 : World} {g n cap gb : Nat} {cs : Array Value} {l K : List Int} {i j : Nat} {W W' : World} (h : DI w0 g n cap gb cs l K i j W) (hb : Below W.heap.size W W') : DI w0 g n cap gb cs l K i j W' := by
  obtain ⟨cur, h1, h2⟩ := h.row
  exact ⟨h.bx.next hb, ⟨cur, h1.next hb, h2⟩, bnext h.bel (hb.mono (Nat.le_refl _)), h.ik, h.base, h.ne⟩
theorem DI.skip {w0 : World} {g n cap gb : Nat} {cs : Array Value} {l K : List Int} {i j : Nat} {W : World} (h : DI w0 g n cap gb cs l K i j W) : DI w0 g n cap gb cs l K i (j + 1) W := by
  obtain ⟨cur, h1, h2, h3, h4⟩ := h.row
  exact ⟨h.bx, ⟨cur, h1, h2, h3, fun q hq hl => h4 q (by omega) hl⟩, h.bel, h.ik, h.base, h.ne⟩
theorem DI.put {w0 : World} {g n cap gb : Nat} {cs : Array Value} {l K : List Int} {i j : Nat} {W : World} (h : DI w0 g n cap gb cs l K i j W) (hij : i < j) (hj : j < l.length) (hn : l.length ≤ n) : DI w0 g n cap gb cs l (K ++ [l[j]]) (i + 1) (j + 1) (W.setCell ⟨g, i, none⟩ (.int .i64 l[j])) := by
  obtain ⟨cur, h1, h2, h3, h4⟩ := h.row
  have hik := h.ik
  refine ⟨h.bx.beside (p := ⟨g, i, none⟩) (fun e => h.ne e.symm) _, ⟨_, h1.put i _, by simpa using h2, fun q hq => ?_, fun q hq hl => ?_⟩, h.bel.setCell (p := ⟨g, i, none⟩) h.base _, by rw [List.length_append, hik]; rfl, h.base, h.ne⟩
  · rw [List.length_append, List.length_singleton] at hq
    by_cases hqi : q = i
    · subst hqi
      rw [Array.getElem?_setIfInBounds_self_of_lt (by omega)]
      rw [List.getElem_append_right (by omega)]
      simp
    · rw [Array.getElem?_setIfInBounds_ne (by omega), h3 q (by omega), List.getElem_append_left (by omega)]
  · rw [Array.getElem?_setIfInBounds_ne (by omega)]
    exact h4 q (by omega) hl
theorem DI.at_ {w0 : World} {g n cap gb : Nat} {cs : Array Value} {l K : List Int} {i j : Nat} {W : World} (h : DI w0 g n cap gb cs l K i j W) (hj : j < l.length) : W.cell? ⟨g, j, none⟩ = some (.int .i64 l[j]) := by
  obtain ⟨cur, h1, h2, h3, h4⟩ := h.row
  exact h1.read (h4 j (Nat.le_refl _) hj)
theorem DI.there {w0 : World} {g n cap gb : Nat} {cs : Array Value} {l K : List Int} {i j : Nat} {W : World} (h : DI w0 g n cap gb cs l K i j W) (q : Nat) (hq : q < n) : (∃ v, W.cell? ⟨g, q, none⟩ = some v) ∧ W.frozen? ⟨g, q, none⟩ = false := by
  obtain ⟨cur, h1, h2, h3, h4⟩ := h.row
  exact ⟨⟨cur[q], h1.read (by rw [Array.getElem?_eq_getElem (by omega)])⟩, h1.open_ q⟩
theorem zero_int (w : World) : (zeroValue 3).run Try.prog w = .ok (.int .i64 0) w := by kernel_rfl
theorem DI.in_ {w0 : World} {g n cap gb : Nat} {cs : Array Value} {l K : List Int} {i j : Nat} {W : World} (h : DI w0 g n cap gb cs l K i j W) (hin : i ≤ n) : IN (W.setCells g i (List.replicate (n - i) (.int .i64 0))) (.slice (some ⟨g, 0, none⟩) i cap) K := by
  obtain ⟨cur, h1, h2, h3, h4⟩ := h.row
  refine ⟨_, _, by rw [h.ik], fun _ => ⟨g, 0, rfl, fun q hq => ?_⟩⟩
  have hik := h.ik
  rw [Nat.zero_add, World.cell?_setCells_out g _ i W _ (fun _ _ => Or.inl (by show q < i; omega))]
  exact h1.read (h3 q hq)
theorem below_setCells {B : Nat} {w0 : World} (g : Nat) (hg : B ≤ g) : ∀ (vs : List Value) (o : Nat) (W : World), Below B w0 W → Below B w0 (W.setCells g o vs)
  | [], _, _, h => h
  | v :: r, o, W, h => below_setCells g hg r (o + 1) _ (h.setCell (p := ⟨g, o, none⟩) hg v)
set_option maxRecDepth 100000 in
set_option maxHeartbeats 8000000 in
theorem del_any (w0 : World) (gb : Nat) (c : Cf) (v : Value) (l : List Int) (hl : l.length ≤ 10000) (w : World) (hO : IO w (gb + 1) v l) (hx : Bx w gb 39 c.cells) (hb : Below w0.heap.size w0 w) (hg0 : w0.heap.size ≤ gb) :
    Calls Try.prog 93 #[v, .func (.func 95) #[] #[.pointer (some ⟨gb, 0, none⟩)]] w fun e w' => ∃ v', e = .returned v' ∧ IN w' v' (kept c.out l) ∧ Below w0.heap.size w0 w' := by
  have CI := Lib.hid (indexf_c1 95 (.pointer (some ⟨gb, 0, none⟩)) c.out v l (by omega) w hO.in_ (fun xs W => by go_simp) (fun W hW x _ => members1_any gb c x W (hx.next hW)))
  have hcf : ∀ (xs : Array Value) (W : World), (callFunc 95 xs).run Try.prog W = .ok (.enter 95 xs) W := fun xs W => by go_simp
  have HIN := Lib.hid hO.in_
  have HX := Lib.hid (And.intro hx (And.intro hb hg0))
  by_cases hany : l.any c.out = true
  · -- one goes
    obtain ⟨k, hk, hpk, hno⟩ : ∃ k, ∃ hk : k < l.length, c.out l[k] = true ∧ ∀ i (h : i < k), c.out (l[i]'(by omega)) = false := by
      refine ⟨l.findIdx c.out, List.findIdx_lt_length_of_exists (by rw [List.any_eq_true] at hany; exact hany), List.findIdx_getElem, fun i hi => ?_⟩
      have := List.not_of_lt_findIdx hi
      simpa using this
    have hix : ixF c.out l = (k : Int) := ixF_hit hk hpk (fun i hi => hno i hi)
    have hkeep : kept c.out (l.take (k + 1)) = l.take k := by
      rw [kept_take _ _ _ hk, if_pos hpk, List.append_nil]
      unfold kept
      rw [List.filter_eq_self]
      intro x hx
      obtain ⟨i, hi, rfl⟩ := List.mem_iff_getElem.1 hx
      rw [List.length_take] at hi
      rw [List.getElem_take, hno i (by omega)]
      rfl
    rcases hO.2 with ⟨_, h0⟩ | ⟨g, cap, cur, rfl, hB, hg, hnc, hmx, hcs, htk⟩
    · exfalso; omega
    have hcells : ∀ q (h : q < l.length), cur[q]? = some (.int .i64 l[q]) := fun q hq => by
      have h1 := iv_at l q hq
      rw [← htk] at h1
      rw [List.getElem?_take, if_pos (by omega)] at h1
      rw [← Array.getElem?_toList]
      exact h1
    have HDI := Lib.hid (show DI w0 g l.length cap gb c.cells l (kept c.out (l.take (k + 1))) k (k + 1) w from ⟨hx, ⟨cur, hg, by omega, fun q hq => by
      rw [hkeep] at hq
      rw [List.length_take] at hq
      simp only [hkeep]
      rw [hcells q (by omega), List.getElem_take], fun q _ hq => hcells q hq⟩, hb, by rw [hkeep, List.length_take]; omega, by omega, by omega⟩)
    have HP := Lib.hid (kept_take c.out l)
    have HKE := Lib.hid (show kept c.out l = kept c.out (l.take l.length) by rw [List.take_length])
    have HCM := Lib.hid (fun W (hW : Bx W gb 39 c.cells) x => members1_any gb c x W hW)
    have HCAP := Lib.hid (show l.length ≤ cap from hnc)
    have hi0 : ((k : Int) == -1) = false := by rw [beq_eq_false_iff_ne]; omega
    rw [hix] at CI
    have HK := Lib.hid hk
    clear hcells htk hcs hmx hg hB hix hkeep hno hpk hany hb hx hg0 HX HIN hO
    generalize c.cells = cs at *
    generalize c.out = p at *
    go_enter Try.func93, Try.ntmps93
    go_wp2_with fail
    refine (CI.out).mono ?_; rintro _ w1 ⟨rfl, hb1⟩
    have HD1 := Lib.hid (HDI.out.next hb1)
    clear hb1 CI HDI
    go_wp2_with fail
    go_loopw [5, 6] (fun iv jv W => ∃ (i j : Nat), iv = .int .i64 i ∧ jv = .int .i64 j ∧ j ≤ l.length ∧ i < j ∧ Hid (DI w0 g l.length cap gb cs l (kept p (l.take j)) i j W)) (fun _ jv _ => l.length - (intOf jv).toNat)
    case atStart => exact ⟨k, k + 1, rfl, by go_num, by have := HK.out; omega, by omega, HD1⟩
    case round =>
      clear HD1
      obtain ⟨i, j, rfl, rfl, hj, hij, HS⟩ := hrel
      by_cases hlt : j < l.length
      · have hi1 : (j : Int) < (l.length : Int) := by omega
        have x0 := HS.out.at_ hlt
        have HN := Lib.hid (HP.out j hlt)
        have C1 := Lib.hid (HCM.out wr HS.out.bx l[j])
        have HPU := Lib.hid (fun W (hW : Below wr.heap.size wr W) => (HS.out.next hW).put hij hlt (Nat.le_refl _))
        generalize l[j] = y at *
        cases hpy : p y with
        | true =>
          rw [hpy] at C1 HN
          have HN2 : Hid (kept p (l.take (j + 1)) = kept p (l.take j)) := Lib.hid (by rw [HN.out, if_pos rfl, List.append_nil])
          clear hpy HPU HN
          go_wp2_with fail
          refine (C1.out).mono ?_; rintro _ w2 ⟨rfl, hb2⟩
          have HF := Lib.hid (show DI w0 g l.length cap gb cs l (kept p (l.take (j + 1))) i (j + 1) w2 from by rw [HN2.out]; exact (HS.out.next hb2).skip)
          clear hb2
          go_wp2_with fail
          go_roundw
          case rel => exact ⟨i, j + 1, rfl, by go_num, by omega, by omega, HF⟩
          case measure => simp [intOf]; omega
        | false =>
          rw [hpy] at C1 HN
          have HN2 : Hid (kept p (l.take (j + 1)) = kept p (l.take j) ++ [y]) := Lib.hid (by rw [HN.out, if_neg (by simp)])
          have hil : (i : Int) < (l.length : Int) := by omega
          clear hpy HN
          go_wp2_with fail
          refine (C1.out).mono ?_; rintro _ w2 ⟨rfl, hb2⟩
          obtain ⟨⟨u, hu⟩, hfz⟩ := (HS.out.next hb2).there i (by omega)
          have HF := Lib.hid (show DI w0 g l.length cap gb cs l (kept p (l.take (j + 1))) (i + 1) (j + 1) (w2.setCell ⟨g, i, none⟩ (.int .i64 y)) from by rw [HN2.out]; exact HPU.out w2 hb2)
          clear hb2 HPU
          go_wp2_with fail
          go_roundw
          case rel => exact ⟨i + 1, j + 1, by go_num, by go_num, by omega, by omega, HF⟩
          case measure => simp [intOf]; omega
      · obtain rfl : j = l.length := by omega
        have hi1 : ¬ (l.length : Int) < (l.length : Int) := by omega
        have hsl := run_sliceI_l g l.length cap i (by omega) (by have := HCAP.out; omega)
        have hsh := run_sliceI_h g l.length cap i (by have := HCAP.out; omega)
        have hclr : ∀ ty, (Builtin.clear_ #[71] ty #[.slice (some ⟨g, i, none⟩) (l.length - i) (cap - i)]).run Try.prog wr = .ok (.tuple #[]) (wr.setCells g i (List.replicate (l.length - i) (.int .i64 0))) := fun ty =>
          Lib.run_clear_slice wr 71 3 ty (.int .i64 0) Try.underlying71 zero_int rfl rfl g i (l.length - i) (cap - i) (by omega) (fun q hq => by obtain ⟨⟨u, hu⟩, _⟩ := HS.out.there (i + q) (by omega); rw [hu]; rfl) (fun q hq => (HS.out.there (i + q) (by omega)).2)
        have HF := Lib.hid (show IN (wr.setCells g i (List.replicate (l.length - i) (.int .i64 0))) (.slice (some ⟨g, 0, none⟩) i cap) (kept p l) ∧ Below w0.heap.size w0 (wr.setCells g i (List.replicate (l.length - i) (.int .i64 0))) from ⟨by rw [HKE.out]; exact HS.out.in_ (by omega), below_setCells g HS.out.base _ _ _ HS.out.bel⟩)
        clear hij hj
        go_wp2_with fail
        go_ret
        exact ⟨_, rfl, HF.out⟩
  · have hno : ∀ i (h : i < l.length), c.out l[i] = false := fun i hi => by
      cases hq : c.out l[i] with
      | false => rfl
      | true => exact absurd (List.any_eq_true.2 ⟨l[i], List.getElem_mem hi, hq⟩) hany
    have hix : ixF c.out l = -1 := ixF_none hno
    have HKE := Lib.hid (show kept c.out l = l by
      unfold kept
      rw [List.filter_eq_self]
      intro x hx
      obtain ⟨i, hi, rfl⟩ := List.mem_iff_getElem.1 hx
      rw [hno i hi]; rfl)
    rw [hix] at CI
    clear hix hno hany hO hx hb hg0
    obtain ⟨a, cp, rfl, _⟩ := id HIN.out
    go_enter Try.func93, Try.ntmps93
    go_wp2_with fail
    refine (CI.out).mono ?_; rintro _ w1 ⟨rfl, hb1⟩
    have HF := Lib.hid (And.intro (HIN.out.next hb1) (bnext HX.out.2.1 (hb1.mono (Nat.le_refl _))))
    clear hb1 CI
    go_wp2_with fail
    go_ret
    exact ⟨_, rfl, by rw [HKE.out]; exact HF.out.1, HF.out.2⟩
set_option maxRecDepth 100000 in
set_option maxHeartbeats 4000000 in
theorem cf_members (c : Cf) (v : Value) (l : List Int) (hl : l.length ≤ 10000) (w : World) (h : IN w v l) :
    Calls Try.prog 31 #[.agg c.cells, v] w fun e w' => ∃ v', e = .returned v' ∧ IN w' v' (kept c.out l) ∧ Below w.heap.size w w' := by
  have hb : Below w.heap.size w (w.alloc (.cells c.cells 39)) := (Below.refl _ _).alloc (Nat.le_refl _) _
  have CC := Lib.hid (iclone_any v l (by omega) _ (h.next hb))
  have HB := Lib.hid (And.intro hb (Bx.fresh w 39 c.cells))
  clear hb h
  go_enter Try.func31, Try.ntmps31
  go_wp2_with fail
  refine (CC.out).mono ?_; rintro _ w1 ⟨v1, rfl, hO1, hb1⟩
  have CD := Lib.hid (del_any w w.heap.size c v1 l hl w1 (by rw [World.size_alloc] at hO1; exact hO1) (HB.out.2.next hb1) (bnext HB.out.1 hb1) (Nat.le_refl _))
  clear hO1 hb1 CC HB
  go_wp2_with fail
  refine (CD.out).mono ?_; rintro _ w2 ⟨v2, rfl, hI2, hb2⟩
  have HF := Lib.hid (And.intro hI2 hb2)
  clear hI2 hb2 CD
  go_wp2_with fail
  go_ret
  exact ⟨_, rfl, HF.out⟩
end Go.Proofs.Ytaeflfgkdjfnfaa
