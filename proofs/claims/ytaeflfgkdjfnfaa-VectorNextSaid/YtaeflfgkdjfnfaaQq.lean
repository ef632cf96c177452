/- Layer 5 (vector): the statement VectorNext's walk. -/
import Derived.Test.YtaeflfgkdjfnfaaQp
import Derived.Test.YtaeflfgkdjfnfaaYk
import Derived.Laws.StructEq
namespace Go.Proofs.Ytaeflfgkdjfnfaa
open Go.RowKit

/-- What the law holds of its vector. -/
def NS (w W : World) (Mx : Nat) (v1 : Value) (m : List (Int × Int)) : Prop := VW W Mx 100 (getL m) ∧ DR W v1 m ∧ Below w.heap.size w W
theorem NS.next {w W W' : World} {Mx : Nat} {v1 : Value} {m : List (Int × Int)} (h : NS w W Mx v1 m) (hb : Below W.heap.size W W') : NS w W' Mx v1 m :=
  ⟨h.1.next hb, h.2.1.next hb, bnext h.2.2 hb⟩
theorem dot_guard : Try.prog.eqGuardType Try.prog.depth 123 = false := by kernel_rfl
theorem set_iw {m : List (Int × Int)} (hm : ∀ x ∈ m, IW x.1 ∧ IW x.2) (hs : SR m) {d : Int × Int} (h1 : IW d.1) (h2 : IW d.2) : ∀ x ∈ setL m d, IW x.1 ∧ IW x.2 := by
  intro x hx
  rw [setL_ins hs.1] at hx
  rcases mem_ins hx with rfl | hx
  · exact ⟨h1, h2⟩
  · exact hm x hx
theorem setL_len {m : List (Int × Int)} (hs : SR m) (d : Int × Int) : (setL m d).length ≤ m.length + 1 := by
  rw [setL_ins hs.1]; exact ins_len d m
set_option maxRecDepth 100000 in
set_option maxHeartbeats 16000000 in
theorem nextlaw (va : Value) (la : List (Int × Int)) (who : Int) (hk : IW who) (w : World) (ha : DR w va la) : Calls Try.prog 13 #[va, .int .i64 who] w fun e w' => e = .returned (.bool true) ∧ Below w.heap.size w w' := by
  by_cases hbig : 100 < la.length
  · obtain ⟨a1, p1, rfl, _, _⟩ := ha
    have hb2 : (100 : Int) < (la.length : Int) := by omega
    go_enter Try.func13, Try.ntmps13
    go_wp2_with fail
    go_ret
    exact ⟨rfl, Below.refl _ _⟩
  · have HM := Lib.hid (show (ofL la).length ≤ 100 from by have := ofL_len la; omega)
    have HS := Lib.hid (ofL_SR la)
    have C1 := Lib.hid (lawofw va la (by omega) w ha)
    have HI := Lib.hid (show ∀ x ∈ ofL la, IW x.1 ∧ IW x.2 from fun x hx => by obtain ⟨_, _, _, hi, _⟩ := ha; exact hi x (mem_ofL hx))
    have HK := Lib.hid hk
    obtain ⟨a1, p1, rfl, _, _⟩ := ha
    have hb2 : ¬ (100 : Int) < (la.length : Int) := by omega
    have hgd := fun (x y : Operand) (xs ys : Array Value) (W : World) => run_eqGuard_agg (P := Try.prog) W .eql 123 x y xs ys dot_guard
    have heq0 : ∀ W, (binOp .eql 123 (.agg #[.int .i64 0, .int .i64 0]) (.agg #[.int .i64 0, .int .i64 0])).run Try.prog W = .ok (.bool true) W := fun _ => by kernel_rfl
    go_enter Try.func13, Try.ntmps13
    go_wp2_with fail
    refine (C1.out).mono ?_; rintro e w1 ⟨Mx, v1, rfl, hv1, hd1, hb1⟩
    have N1 : Hid (NS w w1 Mx v1 (ofL la)) := Lib.hid ⟨hv1, hd1, hb1⟩
    have CG := Lib.hid (get05_any v1 (ofL la) who (by have := HM.out; omega) w1 hd1)
    have HNN := Lib.hid (hv1.nn who)
    clear hv1 hd1 hb1 C1
    generalize ofL la = m at *
    generalize hgg : getL m who = g at *
    have hw : IntKind.i64.wrap (g + 1) = g + 1 := IntWalk.i64_in _ (by have := HNN.out; omega)
    have HG := Lib.hid hgg
    clear hgg
    go_wp2_with fail
    refine (CG.out).mono ?_; rintro e w2 ⟨rfl, rfl⟩
    clear CG
    have CR := Lib.hid (fun W => right05_any who (g + 1) W)
    cases hr : rgt who (g + 1) with
    | false =>
      have CN := Lib.hid (fun W (h : NS w W Mx v1 m) => next_no (M := Mx) (b := 100) (F := getL m) who HK.out (by rw [HG.out]; exact hr) W h.1)
      rw [hr] at CR
      clear hr
      go_wp2_with fail
      refine (Calls.keptv (S := fun W => NS w W Mx v1 m ∧ Bx W w2.heap.size 122 #[.int .i64 who, .int .i64 (g + 1)]) (CN.out _ (N1.out.next ((Below.refl _ _).alloc (Nat.le_refl _) _))) ⟨N1.out.next ((Below.refl _ _).alloc (Nat.le_refl _) _), Bx.fresh w2 _ _⟩ (fun w' hb hS => ⟨hS.1.next hb, hS.2.next hb⟩)).mono ?_; rintro _ w3 ⟨rfl, hN3, hx3⟩
      have N3 := Lib.hid hN3
      have x0 := hx3.read (i := 0) rfl
      have x1 := hx3.read (i := 1) rfl
      have hlt := hx3.inside
      clear hN3 CN N1
      go_wp2_with fail
      refine (Calls.keptv (S := fun W => NS w W Mx v1 m ∧ Bx W w3.heap.size 123 #[.int .i64 0, .int .i64 0]) (CR.out _) ⟨N3.out.next ((Below.refl _ _).alloc (Nat.le_refl _) _), Bx.fresh w3 _ _⟩ (fun w' hb hS => ⟨hS.1.next hb, hS.2.next hb⟩)).mono ?_; rintro _ w4 ⟨rfl, hN4, hx4⟩
      have N4 := Lib.hid hN4
      clear x0 x1 hlt hx3
      have x0 := hx4.read (i := 0) rfl
      have x1 := hx4.read (i := 1) rfl
      clear hN4 CR N3 hx4
      have AL := Lib.hid (alive05_any w4)
      go_wp2_with fail
      refine (AL.out).mono ?_; rintro e w5 ⟨rfl, hb5⟩
      have N5 := Lib.hid (N4.out.next hb5)
      clear hb5
      go_wp2_with fail
      go_ret
      exact ⟨rfl, N5.out.2.2⟩
    | true =>
      have CN := Lib.hid (fun W (h : NS w W Mx v1 m) => next_yes (M := Mx) (b := 100) (F := getL m) (by omega) who HK.out (by rw [HG.out]; exact hr) W h.1)
      have HIW := Lib.hid (rgt_iw HK.out hr)
      have HR := Lib.hid hr
      rw [hr] at CR
      rw [HG.out] at CN
      clear hr
      go_wp2_with fail
      refine (CN.out _ (N1.out.next ((Below.refl _ _).alloc (Nat.le_refl _) _))).mono ?_; rintro _ w3 ⟨M3, rfl, hV3, hb3⟩
      have hx3 : Bx w3 w2.heap.size 122 #[.int .i64 who, .int .i64 (g + 1)] := (Bx.fresh w2 _ _).next hb3
      have N3 := Lib.hid ((N1.out.next ((Below.refl w2.heap.size w2).alloc (Nat.le_refl _) (.cells #[.int .i64 who, .int .i64 (g + 1)] 122))).next hb3)
      have V3 := Lib.hid hV3
      have X3 := Lib.hid hx3
      have x0 := hx3.read (i := 0) rfl
      have x1 := hx3.read (i := 1) rfl
      have hlt := hx3.inside
      clear hV3 hb3 CN N1 hx3
      go_wp2_with fail
      refine (Calls.keptv (S := fun W => (NS w W Mx v1 m ∧ VW W M3 101 (fun k => if k = who then g + 1 else getL m k)) ∧ Bx W w2.heap.size 122 #[.int .i64 who, .int .i64 (g + 1)] ∧ Bx W w3.heap.size 123 #[.int .i64 who, .int .i64 (g + 1)]) (CR.out _) ⟨⟨N3.out.next ((Below.refl _ _).alloc (Nat.le_refl _) _), V3.out.next ((Below.refl _ _).alloc (Nat.le_refl _) _)⟩, X3.out.past _, Bx.fresh w3 _ _⟩ (fun w' hb hS => ⟨⟨hS.1.1.next hb, hS.1.2.next hb⟩, hS.2.1.next hb, hS.2.2.next hb⟩)).mono ?_; rintro _ w4 ⟨rfl, ⟨hN4, hV4⟩, hx4, hy4⟩
      have N4 := Lib.hid (And.intro hN4 hV4)
      clear x0 x1 hlt
      have x0 := hx4.read (i := 0) rfl
      have x1 := hx4.read (i := 1) rfl
      have y0 := hy4.read (i := 0) rfl
      have y1 := hy4.read (i := 1) rfl
      clear hN4 hV4 CR N3 V3 hx4 hy4 X3
      have CS := Lib.hid (set05_any v1 m who (g + 1) (by have := HM.out; omega) w4 N4.out.1.2.1)
      go_wp2_with fail
      refine (CS.out).mono ?_; rintro e w5 ⟨v5, rfl, hd5, hb5⟩
      have N5 := Lib.hid (And.intro (N4.out.1.next hb5) (N4.out.2.next hb5))
      have CI := Lib.hid (isw v5 (setL m (who, g + 1)) (by have := setL_len HS.out (who, g + 1); have := HM.out; omega) (by omega) w5 N5.out.2 (hd5.dr (set_iw HI.out HS.out HK.out HIW.out)) (HS.out.set HR.out) (fun k => (HS.out.get (who, g + 1) k).symm))
      clear hd5 hb5 N4 CS x0 x1 y0 y1
      go_wp2_with fail
      refine (CI.out).mono ?_; rintro e w6 ⟨rfl, hb6⟩
      have N6 := Lib.hid (N5.out.1.next hb6)
      clear hb6 N5 CI
      have CI2 := Lib.hid (isw v1 m (by have := HM.out; omega) (by omega) w6 N6.out.1 N6.out.2.1 HS.out (fun _ => rfl))
      go_wp2_with fail
      refine (CI2.out).mono ?_; rintro e w7 ⟨rfl, hb7⟩
      have N7 := Lib.hid (N6.out.next hb7)
      clear hb7 N6 CI2
      have AL := Lib.hid (alive05_any w7)
      go_wp2_with fail
      refine (AL.out).mono ?_; rintro e w8 ⟨rfl, hb8⟩
      have N8 := Lib.hid (N7.out.next hb8)
      clear hb8
      go_wp2_with fail
      go_ret
      exact ⟨rfl, N8.out.2.2⟩
theorem nextlaw' (va : Value) (who : Int) (hk : IW who) (w : World) (ha : ∃ l, DR w va l) : Calls Try.prog 13 #[va, .int .i64 who] w fun e w' => e = .returned (.bool true) ∧ Below w.heap.size w w' := by
  obtain ⟨la, ha⟩ := ha
  exact nextlaw va la who hk w ha
end Go.Proofs.Ytaeflfgkdjfnfaa
