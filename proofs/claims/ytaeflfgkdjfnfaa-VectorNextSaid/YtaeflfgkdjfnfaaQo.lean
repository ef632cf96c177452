/- Layer 5 (vector): the statement VectorJoins' walk. -/
import Derived.Test.YtaeflfgkdjfnfaaQn
import Derived.Test.YtaeflfgkdjfnfaaYk
namespace Go.Proofs.Ytaeflfgkdjfnfaa
open Go.RowKit

/-- What the law holds of its two vectors. -/
def JS (w W : World) (Mx My : Nat) (v1 v2 : Value) (m n : List (Int × Int)) : Prop := (VW W Mx 100 (getL m) ∧ VW W My 100 (getL n)) ∧ (DR W v1 m ∧ DR W v2 n) ∧ Below w.heap.size w W
theorem JS.next {w W W' : World} {Mx My : Nat} {v1 v2 : Value} {m n : List (Int × Int)} (h : JS w W Mx My v1 v2 m n) (hb : Below W.heap.size W W') : JS w W' Mx My v1 v2 m n :=
  ⟨⟨h.1.1.next hb, h.1.2.next hb⟩, ⟨h.2.1.1.next hb, h.2.1.2.next hb⟩, bnext h.2.2 hb⟩
theorem join05_n (va vl : Value) (la l : List (Int × Int)) (hna : la.length ≤ 100) (hn : l.length ≤ 100) (sa : SR la) (sl : SR l) (w : World) (h0 : DR w va la) (h : DR w vl l) :
    Calls Try.prog 76 #[va, vl] w fun e w' => ∃ v, e = .returned v ∧ DR w' v (joinL la l) ∧ Below w.heap.size w w' := by
  refine join05_any va vl la l (by omega) (by omega) sa sl (fun k y hy => ?_) w h0 h
  obtain ⟨_, _, _, ia, _⟩ := h0
  obtain ⟨_, _, _, il, _⟩ := h
  rcases mem_joinL sa (sl.take k) hy with h1 | h1
  · exact ia y h1
  · exact il y (List.mem_of_mem_take h1)
theorem meet05_n (vl vb : Value) (l lb : List (Int × Int)) (hn : l.length ≤ 100) (hnb : lb.length ≤ 100) (w : World) (h : DR w vl l) (h0 : DR w vb lb) :
    Calls Try.prog 78 #[vl, vb] w fun e w' => ∃ v, e = .returned v ∧ DR w' v (meetL l lb) ∧ Below w.heap.size w w' := by
  refine (meet05_any vl vb l lb (by omega) (by omega) w h h0).mono ?_
  rintro e w' ⟨v, rfl, hd, hb⟩
  obtain ⟨_, _, _, il, _⟩ := h
  exact ⟨v, rfl, hd.dr (meet_iw il), hb⟩
set_option maxRecDepth 100000 in
set_option maxHeartbeats 4000000 in
theorem joins_big (va vb : Value) (la lb : List (Int × Int)) (w : World) (ha : DR w va la) (hb : DR w vb lb) (h : 100 < la.length ∨ 100 < lb.length) : Calls Try.prog 14 #[va, vb] w fun e w' => e = .returned (.bool true) ∧ Below w.heap.size w w' := by
  obtain ⟨a1, p1, rfl, _, _⟩ := ha
  obtain ⟨a2, p2, rfl, _, _⟩ := hb
  have hd : (100 : Int) < (la.length : Int) ∨ (¬ (100 : Int) < (la.length : Int) ∧ (100 : Int) < (lb.length : Int)) := by omega
  clear h
  rcases hd with h1 | ⟨h1, h2⟩
  all_goals
    go_enter Try.func14, Try.ntmps14
    go_wp2_with fail
    go_ret
    exact ⟨rfl, Below.refl _ _⟩
set_option maxRecDepth 100000 in
set_option maxHeartbeats 16000000 in
theorem joins_main (va vb : Value) (la lb : List (Int × Int)) (w : World) (ha : DR w va la) (hb : DR w vb lb) (ha1 : la.length ≤ 100) (hb1 : lb.length ≤ 100) : Calls Try.prog 14 #[va, vb] w fun e w' => e = .returned (.bool true) ∧ Below w.heap.size w w' := by
  have HD := Lib.hid (And.intro ha hb)
  have HL := Lib.hid (And.intro ha1 hb1)
  have HM := Lib.hid (show (ofL la).length ≤ 100 ∧ (ofL lb).length ≤ 100 from ⟨by have := ofL_len la; omega, by have := ofL_len lb; omega⟩)
  have HS := Lib.hid (And.intro (ofL_SR la) (ofL_SR lb))
  have C1 := Lib.hid (lawofw va la ha1 w ha)
  have C2 := Lib.hid (fun W (hW : Below w.heap.size w W) => lawofw vb lb hb1 W (hb.next hW))
  obtain ⟨a1, p1, rfl, _, _⟩ := ha
  obtain ⟨a2, p2, rfl, _, _⟩ := hb
  have y1 : ¬ (100 : Int) < (la.length : Int) := by omega
  have y2 : ¬ (100 : Int) < (lb.length : Int) := by omega
  clear ha1 hb1 HD
  go_enter Try.func14, Try.ntmps14
  go_wp2_with fail
  refine (C1.out).mono ?_; rintro e w1 ⟨Mx, v1, rfl, hv1, hd1, hb1⟩
  have H1 := Lib.hid (And.intro hv1 (And.intro hd1 hb1))
  have C2' := Lib.hid (C2.out w1 hb1)
  clear hv1 hd1 hb1 C1 C2
  go_wp2_with fail
  refine (C2'.out).mono ?_; rintro e w2 ⟨My, v2, rfl, hv2, hd2, hb2⟩
  have J2 : Hid (JS w w2 Mx My v1 v2 (ofL la) (ofL lb)) := Lib.hid ⟨⟨H1.out.1.next hb2, hv2⟩, ⟨H1.out.2.1.next hb2, hd2⟩, bnext H1.out.2.2 hb2⟩
  clear hv2 hd2 hb2 H1 C2' y1 y2 HL
  generalize ofL la = m at *
  generalize ofL lb = n at *
  have CC1 := Lib.hid (fun W (hJ : JS w W Mx My v1 v2 m n) => covers05_any v1 v2 m n (by have := HM.out.1; omega) (by have := HM.out.2; omega) W hJ.2.1.1 hJ.2.1.2)
  have CC2 := Lib.hid (fun W (hJ : JS w W Mx My v1 v2 m n) => covers05_any v2 v1 n m (by have := HM.out.2; omega) (by have := HM.out.1; omega) W hJ.2.1.2 hJ.2.1.1)
  have CV := Lib.hid (fun W (hJ : JS w W Mx My v1 v2 m n) => cvw (by omega) HS.out.1 HS.out.2 W hJ.1.1 hJ.1.2)
  have CP := Lib.hid (fun W (hJ : JS w W Mx My v1 v2 m n) => cmw (by omega) (by omega) HS.out.1 HS.out.2 W hJ.1.1 hJ.1.2)
  cases hp : covL m n <;> cases hq : covL n m <;> rw [hp, hq] at CP <;> rw [hp] at CC1 CV <;> rw [hq] at CC2
  · clear hp hq
    go_wp2_with fail
    refine (CC1.out w2 J2.out).mono ?_; rintro e w3 ⟨rfl, hb3⟩
    have J3 := Lib.hid (J2.out.next hb3)
    clear hb3 J2
    go_wp2_with fail
    refine (CC2.out w3 J3.out).mono ?_; rintro e w4 ⟨rfl, hb4⟩
    have J4 := Lib.hid (J3.out.next hb4)
    clear hb4 J3
    go_wp2_with fail
    refine (jnw (by omega) (by omega) w4 J4.out.1.1 J4.out.1.2).mono ?_; rintro e w5 ⟨Mj, rfl, hvj, hb5⟩
    have J5 := Lib.hid (J4.out.next hb5)
    have Hj5 := Lib.hid hvj
    clear hb5 hvj J4
    go_wp2_with fail
    refine (join05_n v1 v2 m n HM.out.1 HM.out.2 HS.out.1 HS.out.2 w5 J5.out.2.1.1 J5.out.2.1.2).mono ?_; rintro e w6 ⟨vj, rfl, hdj, hb6⟩
    have J6 := Lib.hid (J5.out.next hb6)
    have CIJ := Lib.hid (isw vj (joinL m n) (by have := joinL_len HS.out.1 HS.out.2; have := HM.out.1; have := HM.out.2; omega) (by omega) w6 (Hj5.out.next hb6) hdj (joinL_SR HS.out.1 HS.out.2) (fun k => (getL_join HS.out.1 HS.out.2 k).symm))
    clear hb6 hdj J5 Hj5
    go_wp2_with fail
    refine (CIJ.out).mono ?_; rintro e w7 ⟨rfl, hb7⟩
    have J7 := Lib.hid (J6.out.next hb7)
    clear hb7 J6 CIJ
    go_wp2_with fail
    refine (mtw (by omega) w7 J7.out.1.1 J7.out.1.2).mono ?_; rintro e w8 ⟨Mm, rfl, hvj, hb8⟩
    have J8 := Lib.hid (J7.out.next hb8)
    have Hj8 := Lib.hid hvj
    clear hb8 hvj J7
    go_wp2_with fail
    refine (meet05_n v1 v2 m n HM.out.1 HM.out.2 w8 J8.out.2.1.1 J8.out.2.1.2).mono ?_; rintro e w9 ⟨vm, rfl, hdj, hb9⟩
    have J9 := Lib.hid (J8.out.next hb9)
    have CIM := Lib.hid (isw vm (meetL m n) (by have := meetL_len n m; have := HM.out.1; omega) (by omega) w9 (Hj8.out.next hb9) hdj (meetL_SR HS.out.1) (fun k => (getL_meet HS.out.1 HS.out.2 k).symm))
    clear hb9 hdj J8 Hj8
    go_wp2_with fail
    refine (CIM.out).mono ?_; rintro e w10 ⟨rfl, hb10⟩
    have J10 := Lib.hid (J9.out.next hb10)
    clear hb10 J9 CIM
    go_wp2_with fail
    refine (CV.out w10 J10.out).mono ?_; rintro e w11 ⟨rfl, hb11⟩
    have J11 := Lib.hid (J10.out.next hb11)
    clear hb11 J10
    go_wp2_with fail
    refine (CC1.out w11 J11.out).mono ?_; rintro e w12 ⟨rfl, hb12⟩
    have J12 := Lib.hid (J11.out.next hb12)
    clear hb12 J11
    go_wp2_with fail
    refine (CP.out w12 J12.out).mono ?_; rintro e w13 ⟨rfl, hb13⟩
    have J13 := Lib.hid (J12.out.next hb13)
    clear hb13 J12
    go_wp2_with fail
    refine ((isw v1 m (by have := HM.out.1; omega) (by omega) w13 J13.out.1.1 J13.out.2.1.1 HS.out.1 (fun _ => rfl))).mono ?_; rintro e w14 ⟨rfl, hb14⟩
    have J14 := Lib.hid (J13.out.next hb14)
    clear hb14 J13
    go_wp2_with fail
    refine ((isw v2 n (by have := HM.out.2; omega) (by omega) w14 J14.out.1.2 J14.out.2.1.2 HS.out.2 (fun _ => rfl))).mono ?_; rintro e w15 ⟨rfl, hb15⟩
    have J15 := Lib.hid (J14.out.next hb15)
    clear hb15 J14
    go_wp2_with fail
    refine (alive05_any w15).mono ?_; rintro e w16 ⟨rfl, hb16⟩
    have J16 := Lib.hid (J15.out.next hb16)
    clear hb16 J15
    go_wp2_with fail
    go_ret
    exact ⟨rfl, J16.out.2.2⟩
  · clear hp hq
    go_wp2_with fail
    refine (CC1.out w2 J2.out).mono ?_; rintro e w3 ⟨rfl, hb3⟩
    have J3 := Lib.hid (J2.out.next hb3)
    clear hb3 J2
    go_wp2_with fail
    refine (CC2.out w3 J3.out).mono ?_; rintro e w4 ⟨rfl, hb4⟩
    have J4 := Lib.hid (J3.out.next hb4)
    clear hb4 J3
    go_wp2_with fail
    refine (jnw (by omega) (by omega) w4 J4.out.1.1 J4.out.1.2).mono ?_; rintro e w5 ⟨Mj, rfl, hvj, hb5⟩
    have J5 := Lib.hid (J4.out.next hb5)
    have Hj5 := Lib.hid hvj
    clear hb5 hvj J4
    go_wp2_with fail
    refine (join05_n v1 v2 m n HM.out.1 HM.out.2 HS.out.1 HS.out.2 w5 J5.out.2.1.1 J5.out.2.1.2).mono ?_; rintro e w6 ⟨vj, rfl, hdj, hb6⟩
    have J6 := Lib.hid (J5.out.next hb6)
    have CIJ := Lib.hid (isw vj (joinL m n) (by have := joinL_len HS.out.1 HS.out.2; have := HM.out.1; have := HM.out.2; omega) (by omega) w6 (Hj5.out.next hb6) hdj (joinL_SR HS.out.1 HS.out.2) (fun k => (getL_join HS.out.1 HS.out.2 k).symm))
    clear hb6 hdj J5 Hj5
    go_wp2_with fail
    refine (CIJ.out).mono ?_; rintro e w7 ⟨rfl, hb7⟩
    have J7 := Lib.hid (J6.out.next hb7)
    clear hb7 J6 CIJ
    go_wp2_with fail
    refine (mtw (by omega) w7 J7.out.1.1 J7.out.1.2).mono ?_; rintro e w8 ⟨Mm, rfl, hvj, hb8⟩
    have J8 := Lib.hid (J7.out.next hb8)
    have Hj8 := Lib.hid hvj
    clear hb8 hvj J7
    go_wp2_with fail
    refine (meet05_n v1 v2 m n HM.out.1 HM.out.2 w8 J8.out.2.1.1 J8.out.2.1.2).mono ?_; rintro e w9 ⟨vm, rfl, hdj, hb9⟩
    have J9 := Lib.hid (J8.out.next hb9)
    have CIM := Lib.hid (isw vm (meetL m n) (by have := meetL_len n m; have := HM.out.1; omega) (by omega) w9 (Hj8.out.next hb9) hdj (meetL_SR HS.out.1) (fun k => (getL_meet HS.out.1 HS.out.2 k).symm))
    clear hb9 hdj J8 Hj8
    go_wp2_with fail
    refine (CIM.out).mono ?_; rintro e w10 ⟨rfl, hb10⟩
    have J10 := Lib.hid (J9.out.next hb10)
    clear hb10 J9 CIM
    go_wp2_with fail
    refine (CV.out w10 J10.out).mono ?_; rintro e w11 ⟨rfl, hb11⟩
    have J11 := Lib.hid (J10.out.next hb11)
    clear hb11 J10
    go_wp2_with fail
    refine (CC1.out w11 J11.out).mono ?_; rintro e w12 ⟨rfl, hb12⟩
    have J12 := Lib.hid (J11.out.next hb12)
    clear hb12 J11
    go_wp2_with fail
    refine (CP.out w12 J12.out).mono ?_; rintro e w13 ⟨rfl, hb13⟩
    have J13 := Lib.hid (J12.out.next hb13)
    clear hb13 J12
    go_wp2_with fail
    refine ((isw v1 m (by have := HM.out.1; omega) (by omega) w13 J13.out.1.1 J13.out.2.1.1 HS.out.1 (fun _ => rfl))).mono ?_; rintro e w14 ⟨rfl, hb14⟩
    have J14 := Lib.hid (J13.out.next hb14)
    clear hb14 J13
    go_wp2_with fail
    refine ((isw v2 n (by have := HM.out.2; omega) (by omega) w14 J14.out.1.2 J14.out.2.1.2 HS.out.2 (fun _ => rfl))).mono ?_; rintro e w15 ⟨rfl, hb15⟩
    have J15 := Lib.hid (J14.out.next hb15)
    clear hb15 J14
    go_wp2_with fail
    refine (alive05_any w15).mono ?_; rintro e w16 ⟨rfl, hb16⟩
    have J16 := Lib.hid (J15.out.next hb16)
    clear hb16 J15
    go_wp2_with fail
    go_ret
    exact ⟨rfl, J16.out.2.2⟩
  · clear hp hq
    go_wp2_with fail
    refine (CC1.out w2 J2.out).mono ?_; rintro e w3 ⟨rfl, hb3⟩
    have J3 := Lib.hid (J2.out.next hb3)
    clear hb3 J2
    go_wp2_with fail
    refine (CC2.out w3 J3.out).mono ?_; rintro e w4 ⟨rfl, hb4⟩
    have J4 := Lib.hid (J3.out.next hb4)
    clear hb4 J3
    go_wp2_with fail
    refine (jnw (by omega) (by omega) w4 J4.out.1.1 J4.out.1.2).mono ?_; rintro e w5 ⟨Mj, rfl, hvj, hb5⟩
    have J5 := Lib.hid (J4.out.next hb5)
    have Hj5 := Lib.hid hvj
    clear hb5 hvj J4
    go_wp2_with fail
    refine (join05_n v1 v2 m n HM.out.1 HM.out.2 HS.out.1 HS.out.2 w5 J5.out.2.1.1 J5.out.2.1.2).mono ?_; rintro e w6 ⟨vj, rfl, hdj, hb6⟩
    have J6 := Lib.hid (J5.out.next hb6)
    have CIJ := Lib.hid (isw vj (joinL m n) (by have := joinL_len HS.out.1 HS.out.2; have := HM.out.1; have := HM.out.2; omega) (by omega) w6 (Hj5.out.next hb6) hdj (joinL_SR HS.out.1 HS.out.2) (fun k => (getL_join HS.out.1 HS.out.2 k).symm))
    clear hb6 hdj J5 Hj5
    go_wp2_with fail
    refine (CIJ.out).mono ?_; rintro e w7 ⟨rfl, hb7⟩
    have J7 := Lib.hid (J6.out.next hb7)
    clear hb7 J6 CIJ
    go_wp2_with fail
    refine (mtw (by omega) w7 J7.out.1.1 J7.out.1.2).mono ?_; rintro e w8 ⟨Mm, rfl, hvj, hb8⟩
    have J8 := Lib.hid (J7.out.next hb8)
    have Hj8 := Lib.hid hvj
    clear hb8 hvj J7
    go_wp2_with fail
    refine (meet05_n v1 v2 m n HM.out.1 HM.out.2 w8 J8.out.2.1.1 J8.out.2.1.2).mono ?_; rintro e w9 ⟨vm, rfl, hdj, hb9⟩
    have J9 := Lib.hid (J8.out.next hb9)
    have CIM := Lib.hid (isw vm (meetL m n) (by have := meetL_len n m; have := HM.out.1; omega) (by omega) w9 (Hj8.out.next hb9) hdj (meetL_SR HS.out.1) (fun k => (getL_meet HS.out.1 HS.out.2 k).symm))
    clear hb9 hdj J8 Hj8
    go_wp2_with fail
    refine (CIM.out).mono ?_; rintro e w10 ⟨rfl, hb10⟩
    have J10 := Lib.hid (J9.out.next hb10)
    clear hb10 J9 CIM
    go_wp2_with fail
    refine (CV.out w10 J10.out).mono ?_; rintro e w11 ⟨rfl, hb11⟩
    have J11 := Lib.hid (J10.out.next hb11)
    clear hb11 J10
    go_wp2_with fail
    refine (CC1.out w11 J11.out).mono ?_; rintro e w12 ⟨rfl, hb12⟩
    have J12 := Lib.hid (J11.out.next hb12)
    clear hb12 J11
    go_wp2_with fail
    refine (CP.out w12 J12.out).mono ?_; rintro e w13 ⟨rfl, hb13⟩
    have J13 := Lib.hid (J12.out.next hb13)
    clear hb13 J12
    go_wp2_with fail
    refine ((isw v1 m (by have := HM.out.1; omega) (by omega) w13 J13.out.1.1 J13.out.2.1.1 HS.out.1 (fun _ => rfl))).mono ?_; rintro e w14 ⟨rfl, hb14⟩
    have J14 := Lib.hid (J13.out.next hb14)
    clear hb14 J13
    go_wp2_with fail
    refine ((isw v2 n (by have := HM.out.2; omega) (by omega) w14 J14.out.1.2 J14.out.2.1.2 HS.out.2 (fun _ => rfl))).mono ?_; rintro e w15 ⟨rfl, hb15⟩
    have J15 := Lib.hid (J14.out.next hb15)
    clear hb15 J14
    go_wp2_with fail
    refine (alive05_any w15).mono ?_; rintro e w16 ⟨rfl, hb16⟩
    have J16 := Lib.hid (J15.out.next hb16)
    clear hb16 J15
    go_wp2_with fail
    go_ret
    exact ⟨rfl, J16.out.2.2⟩
  · clear hp hq
    go_wp2_with fail
    refine (CC1.out w2 J2.out).mono ?_; rintro e w3 ⟨rfl, hb3⟩
    have J3 := Lib.hid (J2.out.next hb3)
    clear hb3 J2
    go_wp2_with fail
    refine (CC2.out w3 J3.out).mono ?_; rintro e w4 ⟨rfl, hb4⟩
    have J4 := Lib.hid (J3.out.next hb4)
    clear hb4 J3
    go_wp2_with fail
    refine (jnw (by omega) (by omega) w4 J4.out.1.1 J4.out.1.2).mono ?_; rintro e w5 ⟨Mj, rfl, hvj, hb5⟩
    have J5 := Lib.hid (J4.out.next hb5)
    have Hj5 := Lib.hid hvj
    clear hb5 hvj J4
    go_wp2_with fail
    refine (join05_n v1 v2 m n HM.out.1 HM.out.2 HS.out.1 HS.out.2 w5 J5.out.2.1.1 J5.out.2.1.2).mono ?_; rintro e w6 ⟨vj, rfl, hdj, hb6⟩
    have J6 := Lib.hid (J5.out.next hb6)
    have CIJ := Lib.hid (isw vj (joinL m n) (by have := joinL_len HS.out.1 HS.out.2; have := HM.out.1; have := HM.out.2; omega) (by omega) w6 (Hj5.out.next hb6) hdj (joinL_SR HS.out.1 HS.out.2) (fun k => (getL_join HS.out.1 HS.out.2 k).symm))
    clear hb6 hdj J5 Hj5
    go_wp2_with fail
    refine (CIJ.out).mono ?_; rintro e w7 ⟨rfl, hb7⟩
    have J7 := Lib.hid (J6.out.next hb7)
    clear hb7 J6 CIJ
    go_wp2_with fail
    refine (mtw (by omega) w7 J7.out.1.1 J7.out.1.2).mono ?_; rintro e w8 ⟨Mm, rfl, hvj, hb8⟩
    have J8 := Lib.hid (J7.out.next hb8)
    have Hj8 := Lib.hid hvj
    clear hb8 hvj J7
    go_wp2_with fail
    refine (meet05_n v1 v2 m n HM.out.1 HM.out.2 w8 J8.out.2.1.1 J8.out.2.1.2).mono ?_; rintro e w9 ⟨vm, rfl, hdj, hb9⟩
    have J9 := Lib.hid (J8.out.next hb9)
    have CIM := Lib.hid (isw vm (meetL m n) (by have := meetL_len n m; have := HM.out.1; omega) (by omega) w9 (Hj8.out.next hb9) hdj (meetL_SR HS.out.1) (fun k => (getL_meet HS.out.1 HS.out.2 k).symm))
    clear hb9 hdj J8 Hj8
    go_wp2_with fail
    refine (CIM.out).mono ?_; rintro e w10 ⟨rfl, hb10⟩
    have J10 := Lib.hid (J9.out.next hb10)
    clear hb10 J9 CIM
    go_wp2_with fail
    refine (CV.out w10 J10.out).mono ?_; rintro e w11 ⟨rfl, hb11⟩
    have J11 := Lib.hid (J10.out.next hb11)
    clear hb11 J10
    go_wp2_with fail
    refine (CC1.out w11 J11.out).mono ?_; rintro e w12 ⟨rfl, hb12⟩
    have J12 := Lib.hid (J11.out.next hb12)
    clear hb12 J11
    go_wp2_with fail
    refine (CP.out w12 J12.out).mono ?_; rintro e w13 ⟨rfl, hb13⟩
    have J13 := Lib.hid (J12.out.next hb13)
    clear hb13 J12
    go_wp2_with fail
    refine ((isw v1 m (by have := HM.out.1; omega) (by omega) w13 J13.out.1.1 J13.out.2.1.1 HS.out.1 (fun _ => rfl))).mono ?_; rintro e w14 ⟨rfl, hb14⟩
    have J14 := Lib.hid (J13.out.next hb14)
    clear hb14 J13
    go_wp2_with fail
    refine ((isw v2 n (by have := HM.out.2; omega) (by omega) w14 J14.out.1.2 J14.out.2.1.2 HS.out.2 (fun _ => rfl))).mono ?_; rintro e w15 ⟨rfl, hb15⟩
    have J15 := Lib.hid (J14.out.next hb15)
    clear hb15 J14
    go_wp2_with fail
    refine (alive05_any w15).mono ?_; rintro e w16 ⟨rfl, hb16⟩
    have J16 := Lib.hid (J15.out.next hb16)
    clear hb16 J15
    go_wp2_with fail
    go_ret
    exact ⟨rfl, J16.out.2.2⟩
theorem joinslaw (va vb : Value) (w : World) (ha : ∃ l, DR w va l) (hb : ∃ l, DR w vb l) : Calls Try.prog 14 #[va, vb] w fun e w' => e = .returned (.bool true) ∧ Below w.heap.size w w' := by
  obtain ⟨la, ha⟩ := ha
  obtain ⟨lb, hb⟩ := hb
  by_cases h : 100 < la.length ∨ 100 < lb.length
  · exact joins_big va vb la lb w ha hb h
  · exact joins_main va vb la lb w ha hb (by omega) (by omega)
end Go.Proofs.Ytaeflfgkdjfnfaa
