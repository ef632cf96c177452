/- Layer 5 (vector): the laws of joining and meeting: the law's walk. -/
import Derived.Test.YtdckdhbnfakleaaYk
namespace Go.Proofs.Ytdckdhbnfakleaa
open Go.RowKit

/-- A vector in memory, by how many of each writer's writes it has. -/
def VV (w : World) (M b : Nat) (F : Int → Int) : Prop := ∃ n D, n ≤ b ∧ VM w M n D ∧ Good D ∧ ∀ k, gI D k = F k
theorem VV.next {w w' : World} {M b : Nat} {F : Int → Int} (h : VV w M b F) (hb : Below w.heap.size w w') : VV w' M b F := by
  obtain ⟨n, D, h1, h2, h3⟩ := h
  exact ⟨n, D, h1, World.ownsMap.kept h2 (gb_below hb none) (by simp), h3⟩
theorem ofv (v : Value) (l : List (Int × Int)) (hn : l.length ≤ 100) (w : World) (h : DR w v l) : Calls Try.prog 27 #[v] w fun e w' => ∃ M, e = .returned (.map (some M)) ∧ VV w' M 100 (ofF l) ∧ Below w.heap.size w w' := by
  refine (of_any v l (by omega) w h).mono ?_
  rintro e w' ⟨M, n, rfl, h1, _, h2, h3⟩
  exact ⟨M, rfl, ⟨n, _, by omega, h1, Good.of l, gI_of l⟩, h3⟩
theorem jnv {Ma Mb a b : Nat} {F G : Int → Int} (ha : a ≤ 10000) (hb : b ≤ 10000) (w : World) (h1 : VV w Ma a F) (h2 : VV w Mb b G) : Calls Try.prog 18 #[.map (some Ma), .map (some Mb)] w fun e w' => ∃ M, e = .returned (.map (some M)) ∧ VV w' M (a + b) (fun k => max (F k) (G k)) ∧ Below w.heap.size w w' := by
  obtain ⟨n1, A, b1, v1, g1, e1⟩ := h1
  obtain ⟨n2, B, b2, v2, g2, e2⟩ := h2
  refine (join_any Ma Mb n1 n2 A B (by omega) (by omega) w v1 v2).mono ?_
  rintro e w' ⟨M, n, ys, zs, rfl, ⟨ly, _⟩, ⟨lz, _⟩, hv, _, hn, hbl⟩
  exact ⟨M, rfl, ⟨n, _, by omega, hv, (Good.nil.fo ys).fo zs, fun k => by rw [gI_join g1 g2 ly lz, e1, e2]⟩, hbl⟩
theorem mtv {Ma Mb a b : Nat} {F G : Int → Int} (ha : a ≤ 10000) (w : World) (h1 : VV w Ma a F) (h2 : VV w Mb b G) : Calls Try.prog 20 #[.map (some Ma), .map (some Mb)] w fun e w' => ∃ M, e = .returned (.map (some M)) ∧ VV w' M a (fun k => min (F k) (G k)) ∧ Below w.heap.size w w' := by
  obtain ⟨n1, A, b1, v1, g1, e1⟩ := h1
  obtain ⟨n2, B, b2, v2, g2, e2⟩ := h2
  refine (meet_any Ma Mb n1 n2 A B (by omega) w v1 v2).mono ?_
  rintro e w' ⟨M, n, ys, rfl, ⟨ly, _⟩, hv, _, hn, hbl⟩
  exact ⟨M, rfl, ⟨n, _, by omega, hv, Good.meet B ys, fun k => by rw [gI_meet g1 g2 ly, e1, e2]⟩, hbl⟩
theorem cmv {Ma Mb a b : Nat} {F G : Int → Int} (ha : a ≤ 10000) (hb : b ≤ 10000) (hfg : ∀ k, F k = G k) (w : World) (h1 : VV w Ma a F) (h2 : VV w Mb b G) : Calls Try.prog 23 #[.map (some Ma), .map (some Mb)] w fun e w' => e = .returned (.int .i64 0) ∧ Below w.heap.size w w' := by
  obtain ⟨n1, A, b1, v1, g1, e1⟩ := h1
  obtain ⟨n2, B, b2, v2, g2, e2⟩ := h2
  refine (compare_any Ma Mb n1 n2 A B (by omega) (by omega) g1 g2 w v1 v2).mono ?_
  rintro e w' ⟨o, rfl, h0, _, _, _, hbl⟩
  have : o = 0 := h0.2 ⟨fun k => by rw [e1, e2, hfg]; exact Int.le_refl _, fun k => by rw [e1, e2, hfg]; exact Int.le_refl _⟩
  subst this
  exact ⟨rfl, hbl⟩
theorem cvv {Ma Mb a b : Nat} {F G : Int → Int} (hb : b ≤ 10000) (hfg : ∀ k, G k ≤ F k) (w : World) (h1 : VV w Ma a F) (h2 : VV w Mb b G) : Calls Try.prog 22 #[.map (some Ma), .map (some Mb)] w fun e w' => e = .returned (.bool true) ∧ Below w.heap.size w w' := by
  obtain ⟨n1, A, b1, v1, g1, e1⟩ := h1
  obtain ⟨n2, B, b2, v2, g2, e2⟩ := h2
  refine (covers_any Ma Mb n1 n2 A B (by omega) w v1 v2).mono ?_
  rintro e w' ⟨r, rfl, h, hbl⟩
  have : r = true := h.2 fun k _ => by rw [e1, e2]; exact hfg k
  subst this
  exact ⟨rfl, hbl⟩
set_option maxRecDepth 100000 in
set_option maxHeartbeats 4000000 in
theorem laws_big (va vb vc : Value) (la lb lc : List (Int × Int)) (w : World) (ha : DR w va la) (hb : DR w vb lb) (hc : DR w vc lc) (h : 100 < la.length ∨ 100 < lb.length ∨ 100 < lc.length) : Calls Try.prog 6 #[va, vb, vc] w fun e w' => e = .returned (.bool true) ∧ Below w.heap.size w w' := by
  obtain ⟨a1, p1, rfl, _, _⟩ := ha
  obtain ⟨a2, p2, rfl, _, _⟩ := hb
  obtain ⟨a3, p3, rfl, _, _⟩ := hc
  have hd : (100 : Int) < (la.length : Int) ∨ (¬ (100 : Int) < (la.length : Int) ∧ (100 : Int) < (lb.length : Int)) ∨ (¬ (100 : Int) < (la.length : Int) ∧ ¬ (100 : Int) < (lb.length : Int) ∧ (100 : Int) < (lc.length : Int)) := by omega
  clear h
  rcases hd with h1 | ⟨h1, h2⟩ | ⟨h1, h2, h3⟩
  all_goals
    go_enter Try.func6, Try.ntmps6
    go_wp2_with fail
    go_ret
    exact ⟨rfl, Below.refl _ _⟩
set_option maxRecDepth 100000 in
set_option maxHeartbeats 8000000 in
theorem laws_main (va vb vc : Value) (la lb lc : List (Int × Int)) (w : World) (ha : DR w va la) (hb : DR w vb lb) (hc : DR w vc lc) (ha1 : la.length ≤ 100) (hb1 : lb.length ≤ 100) (hc1 : lc.length ≤ 100) : Calls Try.prog 6 #[va, vb, vc] w fun e w' => e = .returned (.bool true) ∧ Below w.heap.size w w' := by
  have HD := Hid.mk' (And.intro ha (And.intro hb hc))
  have HL := Hid.mk' (And.intro ha1 (And.intro hb1 hc1))
  obtain ⟨a1, p1, rfl, _, _⟩ := ha
  obtain ⟨a2, p2, rfl, _, _⟩ := hb
  obtain ⟨a3, p3, rfl, _, _⟩ := hc
  have y1 : ¬ (100 : Int) < (la.length : Int) := by omega
  have y2 : ¬ (100 : Int) < (lb.length : Int) := by omega
  have y3 : ¬ (100 : Int) < (lc.length : Int) := by omega
  clear ha1 hb1 hc1
  go_enter Try.func6, Try.ntmps6
  go_wp2_with fail
  refine (ofv _ la HL.out.1 w HD.out.1).mono ?_; rintro e w1 ⟨Mx, rfl, hv, hb1⟩
  have H1 := Hid.mk' (And.intro hv hb1)
  clear hb1 hv
  go_wp2_with fail
  refine (ofv _ lb HL.out.2.1 _ (HD.out.2.1.next H1.out.2)).mono ?_; rintro e w2 ⟨My, rfl, hv, hb2⟩
  have H2 := Hid.mk' (And.intro (H1.out.1.next hb2) (And.intro hv (bnext H1.out.2 hb2)))
  clear hb2 hv
  clear H1
  go_wp2_with fail
  refine (ofv _ lc HL.out.2.2 _ (HD.out.2.2.next H2.out.2.2)).mono ?_; rintro e w3 ⟨Mz, rfl, hv, hb3⟩
  have H3 := Hid.mk' (And.intro (H2.out.1.next hb3) (And.intro (H2.out.2.1.next hb3) (And.intro hv (bnext H2.out.2.2 hb3))))
  clear hb3 hv
  clear H2
  go_wp2_with fail
  refine (jnv (by omega) (by omega) _ H3.out.1 H3.out.2.1).mono ?_; rintro e w4 ⟨Mp, rfl, hv, hb4⟩
  have H4 := Hid.mk' (And.intro (H3.out.1.next hb4) (And.intro (H3.out.2.1.next hb4) (And.intro (H3.out.2.2.1.next hb4) (And.intro hv (bnext H3.out.2.2.2 hb4)))))
  clear hb4 hv
  clear H3
  go_wp2_with fail
  refine (jnv (by omega) (by omega) _ H4.out.2.2.2.1 H4.out.2.2.1).mono ?_; rintro e w5 ⟨Mone, rfl, hv, hb5⟩
  have H5 := Hid.mk' (And.intro (H4.out.1.next hb5) (And.intro (H4.out.2.1.next hb5) (And.intro (H4.out.2.2.1.next hb5) (And.intro (H4.out.2.2.2.1.next hb5) (And.intro hv (bnext H4.out.2.2.2.2 hb5))))))
  clear hb5 hv
  clear H4
  go_wp2_with fail
  refine (jnv (by omega) (by omega) _ H5.out.2.2.1 H5.out.1).mono ?_; rintro e w6 ⟨Mq, rfl, hv, hb6⟩
  have H6 := Hid.mk' (And.intro (H5.out.1.next hb6) (And.intro (H5.out.2.1.next hb6) (And.intro (H5.out.2.2.1.next hb6) (And.intro (H5.out.2.2.2.1.next hb6) (And.intro (H5.out.2.2.2.2.1.next hb6) (And.intro hv (bnext H5.out.2.2.2.2.2 hb6)))))))
  clear hb6 hv
  clear H5
  go_wp2_with fail
  refine (jnv (by omega) (by omega) _ H6.out.2.1 H6.out.2.2.2.2.2.1).mono ?_; rintro e w7 ⟨Mtwo, rfl, hv, hb7⟩
  have H7 := Hid.mk' (And.intro (H6.out.1.next hb7) (And.intro (H6.out.2.1.next hb7) (And.intro (H6.out.2.2.1.next hb7) (And.intro (H6.out.2.2.2.1.next hb7) (And.intro (H6.out.2.2.2.2.1.next hb7) (And.intro (H6.out.2.2.2.2.2.1.next hb7) (And.intro hv (bnext H6.out.2.2.2.2.2.2 hb7))))))))
  clear hb7 hv
  clear H6
  go_wp2_with fail
  refine (mtv (by omega) _ H7.out.1 H7.out.2.1).mono ?_; rintro e w8 ⟨Mr, rfl, hv, hb8⟩
  have H8 := Hid.mk' (And.intro (H7.out.1.next hb8) (And.intro (H7.out.2.1.next hb8) (And.intro (H7.out.2.2.1.next hb8) (And.intro (H7.out.2.2.2.1.next hb8) (And.intro (H7.out.2.2.2.2.1.next hb8) (And.intro (H7.out.2.2.2.2.2.1.next hb8) (And.intro (H7.out.2.2.2.2.2.2.1.next hb8) (And.intro hv (bnext H7.out.2.2.2.2.2.2.2 hb8)))))))))
  clear hb8 hv
  clear H7
  go_wp2_with fail
  refine (mtv (by omega) _ H8.out.2.2.2.2.2.2.2.1 H8.out.2.2.1).mono ?_; rintro e w9 ⟨Mthree, rfl, hv, hb9⟩
  have H9 := Hid.mk' (And.intro (H8.out.1.next hb9) (And.intro (H8.out.2.1.next hb9) (And.intro (H8.out.2.2.1.next hb9) (And.intro (H8.out.2.2.2.1.next hb9) (And.intro (H8.out.2.2.2.2.1.next hb9) (And.intro (H8.out.2.2.2.2.2.1.next hb9) (And.intro (H8.out.2.2.2.2.2.2.1.next hb9) (And.intro (H8.out.2.2.2.2.2.2.2.1.next hb9) (And.intro hv (bnext H8.out.2.2.2.2.2.2.2.2 hb9))))))))))
  clear hb9 hv
  clear H8
  go_wp2_with fail
  refine (mtv (by omega) _ H9.out.2.1 H9.out.1).mono ?_; rintro e w10 ⟨Ms, rfl, hv, hb10⟩
  have H10 := Hid.mk' (And.intro (H9.out.1.next hb10) (And.intro (H9.out.2.1.next hb10) (And.intro (H9.out.2.2.1.next hb10) (And.intro (H9.out.2.2.2.1.next hb10) (And.intro (H9.out.2.2.2.2.1.next hb10) (And.intro (H9.out.2.2.2.2.2.1.next hb10) (And.intro (H9.out.2.2.2.2.2.2.1.next hb10) (And.intro (H9.out.2.2.2.2.2.2.2.1.next hb10) (And.intro (H9.out.2.2.2.2.2.2.2.2.1.next hb10) (And.intro hv (bnext H9.out.2.2.2.2.2.2.2.2.2 hb10)))))))))))
  clear hb10 hv
  clear H9
  go_wp2_with fail
  refine (mtv (by omega) _ H10.out.2.2.1 H10.out.2.2.2.2.2.2.2.2.2.1).mono ?_; rintro e w11 ⟨Mfour, rfl, hv, hb11⟩
  have H11 := Hid.mk' (And.intro (H10.out.1.next hb11) (And.intro (H10.out.2.1.next hb11) (And.intro (H10.out.2.2.1.next hb11) (And.intro (H10.out.2.2.2.1.next hb11) (And.intro (H10.out.2.2.2.2.1.next hb11) (And.intro (H10.out.2.2.2.2.2.1.next hb11) (And.intro (H10.out.2.2.2.2.2.2.1.next hb11) (And.intro (H10.out.2.2.2.2.2.2.2.1.next hb11) (And.intro (H10.out.2.2.2.2.2.2.2.2.1.next hb11) (And.intro (H10.out.2.2.2.2.2.2.2.2.2.1.next hb11) (And.intro hv (bnext H10.out.2.2.2.2.2.2.2.2.2.2 hb11))))))))))))
  clear hb11 hv
  clear H10
  go_wp2_with fail
  refine (cmv (by omega) (by omega) (fun k => by first | omega | (dsimp only; omega)) _ H11.out.2.2.2.2.1 H11.out.2.2.2.2.2.2.1).mono ?_; rintro e w12 ⟨rfl, hb12⟩
  have H12 := Hid.mk' (And.intro (H11.out.1.next hb12) (And.intro (H11.out.2.1.next hb12) (And.intro (H11.out.2.2.1.next hb12) (And.intro (H11.out.2.2.2.1.next hb12) (And.intro (H11.out.2.2.2.2.1.next hb12) (And.intro (H11.out.2.2.2.2.2.1.next hb12) (And.intro (H11.out.2.2.2.2.2.2.1.next hb12) (And.intro (H11.out.2.2.2.2.2.2.2.1.next hb12) (And.intro (H11.out.2.2.2.2.2.2.2.2.1.next hb12) (And.intro (H11.out.2.2.2.2.2.2.2.2.2.1.next hb12) (And.intro (H11.out.2.2.2.2.2.2.2.2.2.2.1.next hb12) (bnext H11.out.2.2.2.2.2.2.2.2.2.2.2 hb12))))))))))))
  clear hb12
  clear H11
  go_wp2_with fail
  refine (cmv (by omega) (by omega) (fun k => by first | omega | (dsimp only; omega)) _ H12.out.2.2.2.2.2.2.2.2.1 H12.out.2.2.2.2.2.2.2.2.2.2.1).mono ?_; rintro e w13 ⟨rfl, hb13⟩
  have H13 := Hid.mk' (And.intro (H12.out.1.next hb13) (And.intro (H12.out.2.1.next hb13) (And.intro (H12.out.2.2.1.next hb13) (And.intro (H12.out.2.2.2.1.next hb13) (And.intro (H12.out.2.2.2.2.1.next hb13) (And.intro (H12.out.2.2.2.2.2.1.next hb13) (And.intro (H12.out.2.2.2.2.2.2.1.next hb13) (And.intro (H12.out.2.2.2.2.2.2.2.1.next hb13) (And.intro (H12.out.2.2.2.2.2.2.2.2.1.next hb13) (And.intro (H12.out.2.2.2.2.2.2.2.2.2.1.next hb13) (And.intro (H12.out.2.2.2.2.2.2.2.2.2.2.1.next hb13) (bnext H12.out.2.2.2.2.2.2.2.2.2.2.2 hb13))))))))))))
  clear hb13
  clear H12
  go_wp2_with fail
  refine (jnv (by omega) (by omega) _ H13.out.1 H13.out.1).mono ?_; rintro e w14 ⟨Mt, rfl, hv, hb14⟩
  have H14 := Hid.mk' (And.intro (H13.out.1.next hb14) (And.intro (H13.out.2.1.next hb14) (And.intro (H13.out.2.2.1.next hb14) (And.intro (H13.out.2.2.2.1.next hb14) (And.intro (H13.out.2.2.2.2.1.next hb14) (And.intro (H13.out.2.2.2.2.2.1.next hb14) (And.intro (H13.out.2.2.2.2.2.2.1.next hb14) (And.intro (H13.out.2.2.2.2.2.2.2.1.next hb14) (And.intro (H13.out.2.2.2.2.2.2.2.2.1.next hb14) (And.intro (H13.out.2.2.2.2.2.2.2.2.2.1.next hb14) (And.intro (H13.out.2.2.2.2.2.2.2.2.2.2.1.next hb14) (And.intro hv (bnext H13.out.2.2.2.2.2.2.2.2.2.2.2 hb14)))))))))))))
  clear hb14 hv
  clear H13
  go_wp2_with fail
  refine (cmv (by omega) (by omega) (fun k => by first | omega | (dsimp only; omega)) _ H14.out.2.2.2.2.2.2.2.2.2.2.2.1 H14.out.1).mono ?_; rintro e w15 ⟨rfl, hb15⟩
  have H15 := Hid.mk' (And.intro (H14.out.1.next hb15) (And.intro (H14.out.2.1.next hb15) (And.intro (H14.out.2.2.1.next hb15) (And.intro (H14.out.2.2.2.1.next hb15) (And.intro (H14.out.2.2.2.2.1.next hb15) (And.intro (H14.out.2.2.2.2.2.1.next hb15) (And.intro (H14.out.2.2.2.2.2.2.1.next hb15) (And.intro (H14.out.2.2.2.2.2.2.2.1.next hb15) (And.intro (H14.out.2.2.2.2.2.2.2.2.1.next hb15) (And.intro (H14.out.2.2.2.2.2.2.2.2.2.1.next hb15) (And.intro (H14.out.2.2.2.2.2.2.2.2.2.2.1.next hb15) (And.intro (H14.out.2.2.2.2.2.2.2.2.2.2.2.1.next hb15) (bnext H14.out.2.2.2.2.2.2.2.2.2.2.2.2 hb15)))))))))))))
  clear hb15
  clear H14
  go_wp2_with fail
  refine (mtv (by omega) _ H15.out.1 H15.out.1).mono ?_; rintro e w16 ⟨Mu, rfl, hv, hb16⟩
  have H16 := Hid.mk' (And.intro (H15.out.1.next hb16) (And.intro (H15.out.2.1.next hb16) (And.intro (H15.out.2.2.1.next hb16) (And.intro (H15.out.2.2.2.1.next hb16) (And.intro (H15.out.2.2.2.2.1.next hb16) (And.intro (H15.out.2.2.2.2.2.1.next hb16) (And.intro (H15.out.2.2.2.2.2.2.1.next hb16) (And.intro (H15.out.2.2.2.2.2.2.2.1.next hb16) (And.intro (H15.out.2.2.2.2.2.2.2.2.1.next hb16) (And.intro (H15.out.2.2.2.2.2.2.2.2.2.1.next hb16) (And.intro (H15.out.2.2.2.2.2.2.2.2.2.2.1.next hb16) (And.intro (H15.out.2.2.2.2.2.2.2.2.2.2.2.1.next hb16) (And.intro hv (bnext H15.out.2.2.2.2.2.2.2.2.2.2.2.2 hb16))))))))))))))
  clear hb16 hv
  clear H15
  go_wp2_with fail
  refine (cmv (by omega) (by omega) (fun k => by first | omega | (dsimp only; omega)) _ H16.out.2.2.2.2.2.2.2.2.2.2.2.2.1 H16.out.1).mono ?_; rintro e w17 ⟨rfl, hb17⟩
  have H17 := Hid.mk' (And.intro (H16.out.1.next hb17) (And.intro (H16.out.2.1.next hb17) (And.intro (H16.out.2.2.1.next hb17) (And.intro (H16.out.2.2.2.1.next hb17) (And.intro (H16.out.2.2.2.2.1.next hb17) (And.intro (H16.out.2.2.2.2.2.1.next hb17) (And.intro (H16.out.2.2.2.2.2.2.1.next hb17) (And.intro (H16.out.2.2.2.2.2.2.2.1.next hb17) (And.intro (H16.out.2.2.2.2.2.2.2.2.1.next hb17) (And.intro (H16.out.2.2.2.2.2.2.2.2.2.1.next hb17) (And.intro (H16.out.2.2.2.2.2.2.2.2.2.2.1.next hb17) (And.intro (H16.out.2.2.2.2.2.2.2.2.2.2.2.1.next hb17) (And.intro (H16.out.2.2.2.2.2.2.2.2.2.2.2.2.1.next hb17) (bnext H16.out.2.2.2.2.2.2.2.2.2.2.2.2.2 hb17))))))))))))))
  clear hb17
  clear H16
  go_wp2_with fail
  refine (jnv (by omega) (by omega) _ H17.out.1 H17.out.2.1).mono ?_; rintro e w18 ⟨Mv, rfl, hv, hb18⟩
  have H18 := Hid.mk' (And.intro (H17.out.1.next hb18) (And.intro (H17.out.2.1.next hb18) (And.intro (H17.out.2.2.1.next hb18) (And.intro (H17.out.2.2.2.1.next hb18) (And.intro (H17.out.2.2.2.2.1.next hb18) (And.intro (H17.out.2.2.2.2.2.1.next hb18) (And.intro (H17.out.2.2.2.2.2.2.1.next hb18) (And.intro (H17.out.2.2.2.2.2.2.2.1.next hb18) (And.intro (H17.out.2.2.2.2.2.2.2.2.1.next hb18) (And.intro (H17.out.2.2.2.2.2.2.2.2.2.1.next hb18) (And.intro (H17.out.2.2.2.2.2.2.2.2.2.2.1.next hb18) (And.intro (H17.out.2.2.2.2.2.2.2.2.2.2.2.1.next hb18) (And.intro (H17.out.2.2.2.2.2.2.2.2.2.2.2.2.1.next hb18) (And.intro hv (bnext H17.out.2.2.2.2.2.2.2.2.2.2.2.2.2 hb18)))))))))))))))
  clear hb18 hv
  clear H17
  go_wp2_with fail
  refine (mtv (by omega) _ H18.out.1 H18.out.2.2.2.2.2.2.2.2.2.2.2.2.2.1).mono ?_; rintro e w19 ⟨Mo, rfl, hv, hb19⟩
  have H19 := Hid.mk' (And.intro (H18.out.1.next hb19) (And.intro (H18.out.2.1.next hb19) (And.intro (H18.out.2.2.1.next hb19) (And.intro (H18.out.2.2.2.1.next hb19) (And.intro (H18.out.2.2.2.2.1.next hb19) (And.intro (H18.out.2.2.2.2.2.1.next hb19) (And.intro (H18.out.2.2.2.2.2.2.1.next hb19) (And.intro (H18.out.2.2.2.2.2.2.2.1.next hb19) (And.intro (H18.out.2.2.2.2.2.2.2.2.1.next hb19) (And.intro (H18.out.2.2.2.2.2.2.2.2.2.1.next hb19) (And.intro (H18.out.2.2.2.2.2.2.2.2.2.2.1.next hb19) (And.intro (H18.out.2.2.2.2.2.2.2.2.2.2.2.1.next hb19) (And.intro (H18.out.2.2.2.2.2.2.2.2.2.2.2.2.1.next hb19) (And.intro (H18.out.2.2.2.2.2.2.2.2.2.2.2.2.2.1.next hb19) (And.intro hv (bnext H18.out.2.2.2.2.2.2.2.2.2.2.2.2.2.2 hb19))))))))))))))))
  clear hb19 hv
  clear H18
  go_wp2_with fail
  refine (cmv (by omega) (by omega) (fun k => by first | omega | (dsimp only; omega)) _ H19.out.2.2.2.2.2.2.2.2.2.2.2.2.2.2.1 H19.out.1).mono ?_; rintro e w20 ⟨rfl, hb20⟩
  have H20 := Hid.mk' (And.intro (H19.out.1.next hb20) (And.intro (H19.out.2.1.next hb20) (And.intro (H19.out.2.2.1.next hb20) (And.intro (H19.out.2.2.2.1.next hb20) (And.intro (H19.out.2.2.2.2.1.next hb20) (And.intro (H19.out.2.2.2.2.2.1.next hb20) (And.intro (H19.out.2.2.2.2.2.2.1.next hb20) (And.intro (H19.out.2.2.2.2.2.2.2.1.next hb20) (And.intro (H19.out.2.2.2.2.2.2.2.2.1.next hb20) (And.intro (H19.out.2.2.2.2.2.2.2.2.2.1.next hb20) (And.intro (H19.out.2.2.2.2.2.2.2.2.2.2.1.next hb20) (And.intro (H19.out.2.2.2.2.2.2.2.2.2.2.2.1.next hb20) (And.intro (H19.out.2.2.2.2.2.2.2.2.2.2.2.2.1.next hb20) (And.intro (H19.out.2.2.2.2.2.2.2.2.2.2.2.2.2.1.next hb20) (And.intro (H19.out.2.2.2.2.2.2.2.2.2.2.2.2.2.2.1.next hb20) (bnext H19.out.2.2.2.2.2.2.2.2.2.2.2.2.2.2.2 hb20))))))))))))))))
  clear hb20
  clear H19
  go_wp2_with fail
  refine (cvv (by omega) (fun k => by first | omega | (dsimp only; omega)) _ H20.out.2.2.2.2.1 H20.out.2.2.1).mono ?_; rintro e w21 ⟨rfl, hb21⟩
  have H21 := Hid.mk' (And.intro (H20.out.1.next hb21) (And.intro (H20.out.2.1.next hb21) (And.intro (H20.out.2.2.1.next hb21) (And.intro (H20.out.2.2.2.1.next hb21) (And.intro (H20.out.2.2.2.2.1.next hb21) (And.intro (H20.out.2.2.2.2.2.1.next hb21) (And.intro (H20.out.2.2.2.2.2.2.1.next hb21) (And.intro (H20.out.2.2.2.2.2.2.2.1.next hb21) (And.intro (H20.out.2.2.2.2.2.2.2.2.1.next hb21) (And.intro (H20.out.2.2.2.2.2.2.2.2.2.1.next hb21) (And.intro (H20.out.2.2.2.2.2.2.2.2.2.2.1.next hb21) (And.intro (H20.out.2.2.2.2.2.2.2.2.2.2.2.1.next hb21) (And.intro (H20.out.2.2.2.2.2.2.2.2.2.2.2.2.1.next hb21) (And.intro (H20.out.2.2.2.2.2.2.2.2.2.2.2.2.2.1.next hb21) (And.intro (H20.out.2.2.2.2.2.2.2.2.2.2.2.2.2.2.1.next hb21) (bnext H20.out.2.2.2.2.2.2.2.2.2.2.2.2.2.2.2 hb21))))))))))))))))
  clear hb21
  clear H20
  go_wp2_with fail
  refine (cvv (by omega) (fun k => by first | omega | (dsimp only; omega)) _ H21.out.2.2.1 H21.out.2.2.2.2.2.2.2.2.1).mono ?_; rintro e w22 ⟨rfl, hb22⟩
  have H22 := Hid.mk' (And.intro (H21.out.1.next hb22) (And.intro (H21.out.2.1.next hb22) (And.intro (H21.out.2.2.1.next hb22) (And.intro (H21.out.2.2.2.1.next hb22) (And.intro (H21.out.2.2.2.2.1.next hb22) (And.intro (H21.out.2.2.2.2.2.1.next hb22) (And.intro (H21.out.2.2.2.2.2.2.1.next hb22) (And.intro (H21.out.2.2.2.2.2.2.2.1.next hb22) (And.intro (H21.out.2.2.2.2.2.2.2.2.1.next hb22) (And.intro (H21.out.2.2.2.2.2.2.2.2.2.1.next hb22) (And.intro (H21.out.2.2.2.2.2.2.2.2.2.2.1.next hb22) (And.intro (H21.out.2.2.2.2.2.2.2.2.2.2.2.1.next hb22) (And.intro (H21.out.2.2.2.2.2.2.2.2.2.2.2.2.1.next hb22) (And.intro (H21.out.2.2.2.2.2.2.2.2.2.2.2.2.2.1.next hb22) (And.intro (H21.out.2.2.2.2.2.2.2.2.2.2.2.2.2.2.1.next hb22) (bnext H21.out.2.2.2.2.2.2.2.2.2.2.2.2.2.2.2 hb22))))))))))))))))
  clear hb22
  clear H21
  go_wp2_with fail
  refine (alive05_any _).mono ?_; rintro e w23 ⟨rfl, hb23⟩
  have H23 := Hid.mk' (And.intro (H22.out.1.next hb23) (And.intro (H22.out.2.1.next hb23) (And.intro (H22.out.2.2.1.next hb23) (And.intro (H22.out.2.2.2.1.next hb23) (And.intro (H22.out.2.2.2.2.1.next hb23) (And.intro (H22.out.2.2.2.2.2.1.next hb23) (And.intro (H22.out.2.2.2.2.2.2.1.next hb23) (And.intro (H22.out.2.2.2.2.2.2.2.1.next hb23) (And.intro (H22.out.2.2.2.2.2.2.2.2.1.next hb23) (And.intro (H22.out.2.2.2.2.2.2.2.2.2.1.next hb23) (And.intro (H22.out.2.2.2.2.2.2.2.2.2.2.1.next hb23) (And.intro (H22.out.2.2.2.2.2.2.2.2.2.2.2.1.next hb23) (And.intro (H22.out.2.2.2.2.2.2.2.2.2.2.2.2.1.next hb23) (And.intro (H22.out.2.2.2.2.2.2.2.2.2.2.2.2.2.1.next hb23) (And.intro (H22.out.2.2.2.2.2.2.2.2.2.2.2.2.2.2.1.next hb23) (bnext H22.out.2.2.2.2.2.2.2.2.2.2.2.2.2.2.2 hb23))))))))))))))))
  clear hb23
  clear H22
  go_wp2_with fail
  go_ret
  exact ⟨rfl, H23.out.2.2.2.2.2.2.2.2.2.2.2.2.2.2.2⟩
theorem lawslaw (va vb vc : Value) (w : World) (ha : ∃ l, DR w va l) (hb : ∃ l, DR w vb l) (hc : ∃ l, DR w vc l) : Calls Try.prog 6 #[va, vb, vc] w fun e w' => e = .returned (.bool true) ∧ Below w.heap.size w w' := by
  obtain ⟨la, h1⟩ := ha
  obtain ⟨lb, h2⟩ := hb
  obtain ⟨lc, h3⟩ := hc
  by_cases h : 100 < la.length ∨ 100 < lb.length ∨ 100 < lc.length
  · exact laws_big va vb vc la lb lc w h1 h2 h3 h
  · exact laws_main va vb vc la lb lc w h1 h2 h3 (by omega) (by omega) (by omega)
end Go.Proofs.Ytdckdhbnfakleaa
