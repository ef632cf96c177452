/- Layer 5 (vector): Next, by the code. -/
import Derived.Test.YtaeflfgkdjfnfaaQo
import Derived.Deep.RegionHeld3
namespace Go.Proofs.Ytaeflfgkdjfnfaa
open Go.RowKit

theorem VW.nn {w : World} {M b : Nat} {F : Int → Int} (h : VW w M b F) (k : Int) : 0 ≤ F k ∧ F k ≤ 1099511627776 := by
  obtain ⟨n, D, _, _, h3, h4⟩ := h
  have hp := h3.2.1.pos k
  rw [h4] at hp
  refine ⟨hp, ?_⟩
  rw [← h4 k]
  cases hh : Maps.has D (.int .i64 k) with
  | true => have := (rgt_iff _ _).1 ((h3.2.1.2 k).1 hh); omega
  | false => have := (h3.2.1.2 k).2 hh; omega
theorem VW.look {w : World} {M b : Nat} {F : Int → Int} (h : VW w M b F) (k : Int) (hk : IW k) : ∃ n D, VM w M n D ∧ gI D k = F k := by
  obtain ⟨n, D, _, h2, _, h4⟩ := h
  exact ⟨n, D, h2, h4 k⟩
theorem dr_one {w : World} {b : Nat} {p q : Int} (hp : IW p) (hq : IW q) (x0 : w.cell? ⟨b, 0, none⟩ = some (.int .i64 p)) (x1 : w.cell? ⟨b, 1, none⟩ = some (.int .i64 q)) : DR w (.slice (some ⟨b, 0, none⟩) 1 1) [(p, q)] := by
  refine ⟨_, _, rfl, fun x hx => ?_, fun _ => ⟨b, 0, rfl, fun i hi => ?_⟩⟩
  · simp at hx; subst hx; exact ⟨hp, hq⟩
  · have : i = 0 := by simp at hi; omega
    subst this
    exact ⟨x0, x1⟩
theorem ofw (v : Value) (p q : Int) (hr : rgt p q = true) (w : World) (h : DR w v [(p, q)]) : Calls Try.prog 134 #[v] w fun e w' => ∃ M, e = .returned (.map (some M)) ∧ VW w' M 1 (fun k => if k = p then q else 0) ∧ w.heap.size ≤ M ∧ Below w.heap.size w w' := by
  refine (of_any v [(p, q)] (by simp) w h).mono ?_
  rintro e w' ⟨M, n, rfl, hv, hge, hn, hb⟩
  refine ⟨M, rfl, ⟨n, _, by simpa using hn, hv, Szd.of _, fun k => ?_⟩, hge, hb⟩
  rw [gI_of]
  have h2 := (rgt_iff _ _).1 hr
  by_cases hk : k = p
  · subst hk
    simp [ofF, hr]
    omega
  · have hk2 : ¬ p = k := fun e => hk e.symm
    simp [ofF, hk, hk2]
theorem VW.al {w : World} {M b : Nat} {F : Int → Int} (h : VW w M b F) (o : Obj) : VW (w.alloc o) M b F := h.next ((Below.refl _ _).alloc (Nat.le_refl _) _)
theorem VW.dr {w : World} {M b : Nat} {F : Int → Int} (h : VW w M b F) : VW w.drew M b F := h.next (Below.refl _ _).drew
theorem VW.st {w : World} {M b : Nat} {F : Int → Int} (h : VW w M b F) {g i : Nat} (hne : M ≠ g) (u : Value) : VW (w.setCell ⟨g, i, none⟩ u) M b F := by
  obtain ⟨n, D, h1, h2, h3⟩ := h
  exact ⟨n, D, h1, World.ownsMap.kept h2 (gb_set w g i u) (fun e => hne (Option.some.inj e)), h3⟩
theorem VW.lt {w : World} {M b : Nat} {F : Int → Int} (h : VW w M b F) : M < w.heap.size := by
  obtain ⟨n, D, h1, h2, h3⟩ := h
  exact World.ownsMap.lt h2
theorem jnwf {Ma Mb a b : Nat} {F G : Int → Int} (ha : a ≤ 10000) (hb : b ≤ 10000) (w : World) (h1 : VW w Ma a F) (h2 : VW w Mb b G) : Calls Try.prog 75 #[.map (some Ma), .map (some Mb)] w fun e w' => ∃ M, e = .returned (.map (some M)) ∧ VW w' M (a + b) (fun k => max (F k) (G k)) ∧ w.heap.size ≤ M ∧ Below w.heap.size w w' := by
  obtain ⟨n1, A, b1, v1, g1, e1⟩ := h1
  obtain ⟨n2, B, b2, v2, g2, e2⟩ := h2
  refine (join_any Ma Mb n1 n2 A B (by omega) (by omega) w v1 v2).mono ?_
  rintro e w' ⟨M, n, ys, zs, rfl, ⟨ly, _⟩, ⟨lz, _⟩, hv, hge, hn, hbl⟩
  exact ⟨M, rfl, ⟨n, _, by omega, hv, (Szd.nil.fo ys).fo zs, fun k => by rw [gI_join g1.2.1 g2.2.1 ly lz, e1, e2]⟩, hge, hbl⟩
/-- What held ahead of a call holds behind it, if it is of old memory. -/
theorem Calls.keptv {P : Program} {f : FuncId} {args : Array Value} {W : World} {v : Value} {S : World → Prop} (h : Calls P f args W fun e w' => e = .returned v ∧ Below W.heap.size W w') (hS : S W) (hk : ∀ w', Below W.heap.size W w' → S W → S w') : Calls P f args W fun e w' => e = .returned v ∧ S w' :=
  h.mono fun _ _ ⟨he, hb⟩ => ⟨he, hk _ hb hS⟩
set_option maxRecDepth 100000 in
set_option maxHeartbeats 8000000 in
theorem next_no {M b : Nat} {F : Int → Int} (who : Int) (hk : IW who) (hr : rgt who (F who + 1) = false) (w : World) (h : VW w M b F) : Calls Try.prog 69 #[.map (some M), .int .i64 who] w fun e w' => e = .returned (.tuple #[.agg #[.int .i64 0, .int .i64 0], .map none, .bool false]) ∧ Below w.heap.size w w' := by
  have hn := h.nn who
  have hw : IntKind.i64.wrap (F who + 1) = F who + 1 := IntWalk.i64_in _ (by omega)
  have hb1 : Below w.heap.size w (w.alloc (.cells #[.int .i64 0, .int .i64 0] 123)) := (Below.refl _ _).alloc (Nat.le_refl _) _
  obtain ⟨n, D, hv, hg⟩ := (h.next hb1).look who hk
  have hl := (look_vm hv who hk).1
  rw [hg] at hl
  have CR := Lib.hid (fun W => right_any who (F who + 1) W)
  rw [hr] at CR
  have HB := Lib.hid hb1
  clear hb1 h hv hg hn hr
  generalize F who = f at *
  go_enter Try.func69, Try.ntmps69
  go_wp2_with fail
  refine (Calls.keptv (S := fun W => Below w.heap.size w W ∧ Bx W w.heap.size 123 #[.int .i64 0, .int .i64 0] ∧ Bx W (w.heap.size + 1) 123 #[.int .i64 who, .int .i64 (f + 1)]) (CR.out _) ⟨(HB.out).alloc (by simp) _, (Bx.fresh w _ _).past _, Bx.fresh' (w.alloc _) (by simp) _ _⟩ (fun w' hb hS => ⟨bnext hS.1 (hb.mono (Nat.le_refl _)), hS.2.1.next hb, hS.2.2.next hb⟩)).mono ?_; rintro _ w1 ⟨rfl, hb, hx, hy⟩
  have H1 := Lib.hid hb
  have x0 := hx.read (i := 0) rfl
  have x1 := hx.read (i := 1) rfl
  have f0 := hx.open_ 0
  have f1 := hx.open_ 1
  clear hb hx hy CR hl
  go_wp2_with fail
  (try simp only [Exit.inBlock, Exit.then])
  refine bodyPost_ret (v := .tuple #[.agg #[.int .i64 0, .int .i64 0], .map none, .bool false]) (by simp [results, Try.results69, go_sem, *]) rfl ⟨rfl, ?_⟩
  exact ((H1.out).setCell (Nat.le_refl _) _).setCell (Nat.le_refl _) _
set_option maxRecDepth 100000 in
set_option maxHeartbeats 8000000 in
theorem next_yes {M b : Nat} {F : Int → Int} (hb0 : b ≤ 1000) (who : Int) (hk : IW who) (hr : rgt who (F who + 1) = true) (w : World) (h : VW w M b F) : Calls Try.prog 69 #[.map (some M), .int .i64 who] w fun e w' => ∃ M', e = .returned (.tuple #[.agg #[.int .i64 who, .int .i64 (F who + 1)], .map (some M'), .bool true]) ∧ VW w' M' (b + 1) (fun k => if k = who then F who + 1 else F k) ∧ Below w.heap.size w w' := by
  have hn := h.nn who
  have hnn := Lib.hid (fun k => h.nn k)
  have hw : IntKind.i64.wrap (F who + 1) = F who + 1 := IntWalk.i64_in _ (by omega)
  have hiw : IW (F who + 1) := rgt_iw hk hr
  have hb1 : Below w.heap.size w (w.alloc (.cells #[.int .i64 0, .int .i64 0] 123)) := (Below.refl _ _).alloc (Nat.le_refl _) _
  obtain ⟨n, D, hv, hg⟩ := (h.next hb1).look who hk
  have hl := (look_vm hv who hk).1
  rw [hg] at hl
  have CR := Lib.hid (fun W => right_any who (F who + 1) W)
  have CO := Lib.hid (fun v W (hD : DR W v [(who, F who + 1)]) => ofw v who (F who + 1) hr W hD)
  have CJ := Lib.hid (fun Mo W (h1 : VW W M b F) (h2 : VW W Mo 1 (fun k => if k = who then F who + 1 else 0)) => (jnwf (by omega) (by omega) W h1 h2).mono (fun e w' (hh : ∃ _, _) => show ∃ M', e = .returned (.map (some M')) ∧ VW w' M' (b + 1) (fun k => if k = who then F who + 1 else F k) ∧ W.heap.size ≤ M' ∧ Below W.heap.size W w' from by
    obtain ⟨M', he, hV, hge, hbl⟩ := hh
    refine ⟨M', he, ?_, hge, hbl⟩
    have hfun : (fun k => max (F k) (if k = who then F who + 1 else 0)) = (fun k => if k = who then F who + 1 else F k) := by
      funext k
      have := hnn.out k
      by_cases hk : k = who
      · subst hk; rw [if_pos rfl, if_pos rfl]; omega
      · rw [if_neg hk, if_neg hk]; omega
    rw [hfun] at hV
    exact hV))
  have HV := Lib.hid h
  have HVO := Lib.hid h
  rw [hr] at CR
  have HB := Lib.hid hb1
  have HI := Lib.hid (And.intro hk hiw)
  clear hb1 h hv hg hn hr hiw hnn hk
  generalize hFF : (fun k => if k = who then F who + 1 else F k) = F2 at *
  generalize hF0 : (fun k => if k = who then F who + 1 else (0 : Int)) = F0 at *
  generalize F who = f at *
  clear hFF hF0
  go_enter Try.func69, Try.ntmps69
  go_wp2_with fail
  refine (Calls.keptv (S := fun W => Below w.heap.size w W ∧ Bx W w.heap.size 123 #[.int .i64 0, .int .i64 0] ∧ Bx W (w.heap.size + 1) 123 #[.int .i64 who, .int .i64 (f + 1)]) (CR.out _) ⟨(HB.out).alloc (by simp) _, (Bx.fresh w _ _).past _, Bx.fresh' (w.alloc _) (by simp) _ _⟩ (fun w' hb hS => ⟨bnext hS.1 (hb.mono (Nat.le_refl _)), hS.2.1.next hb, hS.2.2.next hb⟩)).mono ?_; rintro _ w1 ⟨rfl, hb, hx, hy⟩
  have H1 := Lib.hid (And.intro hb (And.intro hx hy))
  have HV1 := Lib.hid (HV.out.next hb)
  have x0 := hx.read (i := 0) rfl
  have x1 := hx.read (i := 1) rfl
  have f0 := hx.open_ 0
  have f1 := hx.open_ 1
  have y0 := hy.read (i := 0) rfl
  have y1 := hy.read (i := 1) rfl
  clear hb hx hy CR hl HV
  have HM := Lib.hid (show M ≠ w.heap.size from fun e => by have := HVO.out.lt; omega)
  go_wp2_with fail
  have SKA := Lib.hid (fun (W : World) (o : Obj) (h : (fun W : World => W.cell? ⟨w.heap.size + 1, 0, none⟩ = some (.int .i64 who) ∧ W.cell? ⟨w.heap.size + 1, 1, none⟩ = some (.int .i64 (f + 1))) W) => show (fun W : World => W.cell? ⟨w.heap.size + 1, 0, none⟩ = some (.int .i64 who) ∧ W.cell? ⟨w.heap.size + 1, 1, none⟩ = some (.int .i64 (f + 1))) (W.alloc o) from ⟨cell_nxd ((Below.refl W.heap.size W).alloc (Nat.le_refl _) o) h.1, cell_nxd ((Below.refl W.heap.size W).alloc (Nat.le_refl _) o) h.2⟩)
  have SKS := Lib.hid (fun (W : World) (i : Nat) (u : Value) (h : (fun W : World => W.cell? ⟨w.heap.size + 1, 0, none⟩ = some (.int .i64 who) ∧ W.cell? ⟨w.heap.size + 1, 1, none⟩ = some (.int .i64 (f + 1))) W) => show (fun W : World => W.cell? ⟨w.heap.size + 1, 0, none⟩ = some (.int .i64 who) ∧ W.cell? ⟨w.heap.size + 1, 1, none⟩ = some (.int .i64 (f + 1))) (W.setCell ⟨w.heap.size, i, none⟩ u) from ⟨by rw [World.cell?_setCell_far _ _ _ _ (by show w.heap.size ≠ w.heap.size + 1; omega)]; exact h.1, by rw [World.cell?_setCell_far _ _ _ _ (by show w.heap.size ≠ w.heap.size + 1; omega)]; exact h.2⟩)
  have hS0 : (fun W : World => W.cell? ⟨w.heap.size + 1, 0, none⟩ = some (.int .i64 who) ∧ W.cell? ⟨w.heap.size + 1, 1, none⟩ = some (.int .i64 (f + 1))) w1.drew := ⟨(H1.out.2.2.drawn 1).read rfl, (H1.out.2.2.drawn 1).read rfl⟩
  go_region_held3 (fun W => W.cell? ⟨w.heap.size + 1, 0, none⟩ = some (.int .i64 who) ∧ W.cell? ⟨w.heap.size + 1, 1, none⟩ = some (.int .i64 (f + 1)))
    (first | assumption | exact hS0 | exact ⟨yz0, yz1⟩ | exact ⟨yy0, yy1⟩ | exact SKA.out _ _ (by first | assumption | exact hS0) | exact SKS.out _ _ _ (SKS.out _ _ _ (by first | assumption | exact hS0 | exact ⟨yz0, yz1⟩ | exact ⟨yy0, yy1⟩ | exact SKA.out _ _ (by first | assumption | exact hS0))) | exact SKA.out _ _ (SKS.out _ _ _ (SKS.out _ _ _ (by first | assumption | exact hS0))))
    (first | (go_at_call 134; refine (CO.out _ _ (dr_one HI.out.1 HI.out.2 (by simp [go_sem, *]) (by simp [go_sem, *]))).mono ?_; rintro e w2 ⟨Mo, rfl, hVo, hge, hb2⟩; have hMo := Lib.hid (show Mo ≠ w.heap.size from (by have h9 := H1.out.2.2.inside; (try simp at hge); omega)); clear hge; have hV2 : VW w2 M b F := (by refine VW.next ?_ hb2; (repeat' (first | exact HV1.out | refine VW.al ?_ _ | refine VW.dr ?_ | refine VW.st ?_ HM.out _))); have hY2 : Bx w2 (w.heap.size + 1) 123 #[.int .i64 who, .int .i64 (f + 1)] := (by refine Bx.next ?_ hb2; (repeat' (first | exact H1.out.2.2 | refine Bx.past ?_ _ | refine Bx.drawn ?_ 1 | refine Bx.beside ?_ (p := ⟨w.heap.size, _, none⟩) (by show w.heap.size ≠ w.heap.size + 1; omega) _))); have HY2 := Lib.hid hY2; have yy0 := hY2.read (i := 0) rfl; have yy1 := hY2.read (i := 1) rfl; clear hY2; have hB2 : Below w.heap.size w w2 := (by refine bnext ?_ hb2; (repeat' (first | exact H1.out.1 | refine Below.setCell ?_ (Nat.le_refl _) _ | refine Below.drew ?_ | (refine Below.alloc ?_ (by have := H1.out.1.size; simp; omega) _)))); first | (have hX2 : Bx w2 w.heap.size 123 #[.int .i64 0, .int .i64 0] := (by refine Bx.next ?_ hb2; (repeat' (first | exact H1.out.2.1 | refine Bx.past ?_ _ | refine Bx.drawn ?_ 1))); have z0 := hX2.read (i := 0) rfl; have z1 := hX2.read (i := 1) rfl; have q0 := hX2.open_ 0; have q1 := hX2.open_ 1; have HW := Lib.hid (And.intro hV2 (And.intro hVo (And.intro hB2 hX2))); clear hV2 hVo hB2 hX2 hb2) | (have hX2 : Bx w2 w.heap.size 123 #[.int .i64 who, .int .i64 (f + 1)] := (by refine Bx.next ?_ hb2; (first | exact Bx.put (Bx.put (by (repeat' (first | exact H1.out.2.1 | refine Bx.past ?_ _ | refine Bx.drawn ?_ 1))) 0 _) 1 _ | exact Bx.past (Bx.put (Bx.put (by (repeat' (first | exact H1.out.2.1 | refine Bx.past ?_ _ | refine Bx.drawn ?_ 1))) 0 _) 1 _) _)); have z0 := hX2.read (i := 0) rfl; have z1 := hX2.read (i := 1) rfl; have HW := Lib.hid (And.intro hV2 (And.intro hVo (And.intro hB2 hX2))); clear hV2 hVo hB2 hX2 hb2)) | (go_at_call 75; refine (CJ.out Mo _ (by (repeat' (first | exact HW.out.1 | exact HW.out.2.1 | refine VW.al ?_ _ | refine VW.dr ?_ | refine VW.st ?_ HM.out _ | refine VW.st ?_ hMo.out _))) (by (repeat' (first | exact HW.out.1 | exact HW.out.2.1 | refine VW.al ?_ _ | refine VW.dr ?_ | refine VW.st ?_ HM.out _ | refine VW.st ?_ hMo.out _)))).mono ?_; rintro e w3 ⟨M3, rfl, hV3, hge3, hb3⟩; have hM3 := Lib.hid (show M3 ≠ w.heap.size from (by have h9 := HY2.out.inside; (try simp at hge3); omega)); clear hge3; have hY3 : Bx w3 (w.heap.size + 1) 123 #[.int .i64 who, .int .i64 (f + 1)] := (by refine Bx.next ?_ hb3; (repeat' (first | exact HY2.out | refine Bx.beside ?_ (p := ⟨w.heap.size, _, none⟩) (by show w.heap.size ≠ w.heap.size + 1; omega) _))); have yz0 := hY3.read (i := 0) rfl; have yz1 := hY3.read (i := 1) rfl; clear hY3; have hB3 : Below w.heap.size w w3 := (by refine bnext ?_ hb3; (repeat' (first | exact HW.out.2.2.1 | refine Below.setCell ?_ (Nat.le_refl _) _))); first | (have hX3 : Bx w3 w.heap.size 123 #[.int .i64 0, .int .i64 0] := (by refine Bx.next ?_ hb3; exact HW.out.2.2.2); have p0 := hX3.read (i := 0) rfl; have p1 := hX3.read (i := 1) rfl; have r0 := hX3.open_ 0; have r1 := hX3.open_ 1; have HZ := Lib.hid (And.intro hV3 hB3); clear hV3 hB3 hX3 hb3) | (have hX3 : Bx w3 w.heap.size 123 #[.int .i64 who, .int .i64 (f + 1)] := (by refine Bx.next ?_ hb3; (first | exact HW.out.2.2.2 | exact Bx.put (Bx.put HW.out.2.2.2 0 _) 1 _)); have p0 := hX3.read (i := 0) rfl; have p1 := hX3.read (i := 1) rfl; have HZ := Lib.hid (And.intro hV3 hB3); clear hV3 hB3 hX3 hb3)))
  all_goals
    go_wp2_with fail
    (try simp only [Exit.inBlock, Exit.then])
    refine bodyPost_ret (v := .tuple #[.agg #[.int .i64 who, .int .i64 (f + 1)], .map (some M3), .bool true]) (by simp [results, Try.results69, go_sem, *]) rfl ⟨M3, rfl, ?_, ?_⟩
    · first | exact HZ.out.1 | exact (HZ.out.1.st hM3.out _).st hM3.out _
    · first | exact HZ.out.2 | exact ((HZ.out.2).setCell (Nat.le_refl _) _).setCell (Nat.le_refl _) _
end Go.Proofs.Ytaeflfgkdjfnfaa
