/- Layer 21 (conf): May, by the code and by the law. -/
import Derived.Test.YtaeflfgkdjfnfaaM8
import Derived.Test.YtaeflfgkdjfnfaaE3
namespace Go.Proofs.Ytaeflfgkdjfnfaa
open Go.RowKit
attribute [local irreducible] wpQuiet

def kp (c : Cf) (n m : Int) : Bool := m != n && c.always m
def fl (c : Cf) (n : Int) (g : List Int) : Bool := g.any (fun y => n == y) && !(g.any (kp c n))
set_option maxRecDepth 100000 in
set_option maxHeartbeats 4000000 in
theorem may1_any (gn gc : Nat) (c : Cf) (n m : Int) (w : World) (hn : w.cell? ⟨gn, 0, none⟩ = some (.int .i64 n)) (hc : Bx w gc 39 c.cells) : Calls Try.prog 96 #[.int .i64 m, .pointer (some ⟨gn, 0, none⟩), .pointer (some ⟨gc, 0, none⟩)] w fun e w' => e = .returned (.bool (kp c n m)) ∧ Below w.heap.size w w' := by
  have C := Lib.hid (cf_always c m w)
  have HX := Lib.hid hc
  have HK : Hid (kp c n m = (m != n && c.always m)) := Lib.hid rfl
  clear hc
  generalize kp c n m = r at *
  generalize c.always m = q at *
  obtain ⟨e, o0, o1, o2, o3, o4, j0, j1, j2, j3, j4⟩ := c
  unfold Cf.cells at *
  dsimp only at *
  by_cases h : m = n
  · have h1 : (m != n) = false := by simp [h]
    have HR : Hid (r = false) := Lib.hid (by rw [HK.out, h1]; rfl)
    clear h
    go_enter Try.func96, Try.ntmps96
    go_wp2_with fail
    go_ret
    exact ⟨cret_b HR.out.symm, Below.refl _ _⟩
  · have h1 : (m != n) = true := by simp [h]
    have HR : Hid (r = q) := Lib.hid (by rw [HK.out, h1]; rfl)
    obtain ⟨x0, x1, x2, x3, x4, x5, x6, x7, x8, x9, x10⟩ := HX.out.reads11
    clear h
    go_enter Try.func96, Try.ntmps96
    go_wp2_with fail
    refine (C.out).mono ?_; rintro _ w1 ⟨rfl, hb1⟩
    have HB := Lib.hid hb1
    clear hb1
    go_wp2_with fail
    go_ret
    exact ⟨cret_b HR.out.symm, HB.out⟩
set_option maxRecDepth 100000 in
set_option maxHeartbeats 4000000 in
theorem may2_any (gn gk gc : Nat) (c : Cf) (n : Int) (u : Value) (g : List Int) (hl : g.length ≤ 10000) (w : World) (hu : IN w u g) (hn : w.cell? ⟨gn, 0, none⟩ = some (.int .i64 n)) (hk : w.cell? ⟨gk, 0, none⟩ = some (.func (.func 96) #[] #[.pointer (some ⟨gn, 0, none⟩), .pointer (some ⟨gc, 0, none⟩)])) (hc : Bx w gc 39 c.cells) :
    Calls Try.prog 97 #[u, .pointer (some ⟨gn, 0, none⟩), .pointer (some ⟨gk, 0, none⟩)] w fun e w' => e = .returned (.bool (fl c n g)) ∧ Below w.heap.size w w' := by
  have CC := Lib.hid (icontains_any u g n (by omega) w hu)
  have CK := Lib.hid (fun W (hW : Below w.heap.size w W) => contf_c2 96 (.pointer (some ⟨gn, 0, none⟩)) (.pointer (some ⟨gc, 0, none⟩)) (kp c n) u g (by omega) W (hu.next hW) (fun xs W => by go_simp) (fun W2 hW2 x _ => may1_any gn gc c n x W2 (cell_nxe hW2 (cell_nxe hW hn)) ((hc.next hW).next hW2)))
  have HF : Hid (fl c n g = (g.any (fun y => n == y) && !(g.any (kp c n)))) := Lib.hid rfl
  have HK := Lib.hid hk
  clear hc hu
  generalize fl c n g = r at *
  generalize g.any (kp c n) = q at *
  cases hp : g.any (fun y => n == y) with
  | false =>
    rw [hp] at CC
    have HR : Hid (r = false) := Lib.hid (by rw [HF.out, hp]; rfl)
    clear hp HF
    go_enter Try.func97, Try.ntmps97
    go_wp2_with fail
    refine (CC.out).mono ?_; rintro _ w1 ⟨rfl, hb1⟩
    have HB := Lib.hid hb1
    clear hb1
    go_wp2_with fail
    go_ret
    exact ⟨cret_b HR.out.symm, HB.out⟩
  | true =>
    rw [hp] at CC
    have HR : Hid (r = !q) := Lib.hid (by rw [HF.out, hp]; rfl)
    clear hp HF
    go_enter Try.func97, Try.ntmps97
    go_wp2_with fail
    refine (CC.out).mono ?_; rintro _ w1 ⟨rfl, hb1⟩
    have HB := Lib.hid hb1
    have hk1 := cell_nxe hb1 HK.out
    have C2 := Lib.hid (CK.out w1 hb1)
    clear hb1 CC CK
    go_wp2_with fail
    refine (C2.out).mono ?_; rintro _ w2 ⟨rfl, hb2⟩
    have HB2 := Lib.hid (bnext HB.out hb2)
    clear hb2
    go_wp2_with fail
    go_ret
    exact ⟨cret_b HR.out.symm, HB2.out⟩
def mayB (c : Cf) (n : Int) (gs : List (List Int)) : Bool := c.is n && !(gs.any (fl c n))
set_option maxRecDepth 100000 in
set_option maxHeartbeats 8000000 in
theorem cf_may (c : Cf) (n : Int) (v : Value) (gs : List (List Int)) (hl : gs.length ≤ 1000) (hs : ∀ g ∈ gs, g.length ≤ 1000) (w : World) (h : RR w v gs) :
    Calls Try.prog 32 #[.agg c.cells, .int .i64 n, v] w fun e w' => e = .returned (.bool (mayB c n gs)) ∧ Below w.heap.size w w' := by
  obtain ⟨W1, hW1⟩ : ∃ W1, ((w.alloc (.cells c.cells 39)).alloc (.cells #[.int .i64 n] 3)).alloc (.cells #[.func (.func 96) #[] #[.pointer (some ⟨w.heap.size + 1, 0, none⟩), .pointer (some ⟨w.heap.size, 0, none⟩)]] 65) = W1 := ⟨_, rfl⟩
  have hb : Below w.heap.size w W1 := by rw [← hW1]; exact (((Below.refl _ _).alloc (Nat.le_refl _) _).alloc (by simp) _).alloc (by simp; omega) _
  have hx : Bx W1 w.heap.size 39 c.cells := by rw [← hW1]; exact ((Bx.fresh w _ _).past _).past _
  have hn : Bx W1 (w.heap.size + 1) 3 #[.int .i64 n] := by rw [← hW1]; exact (Bx.fresh' (w.alloc _) (by simp) _ _).past _
  have hk : Bx W1 (w.heap.size + 1 + 1) 65 #[.func (.func 96) #[] #[.pointer (some ⟨w.heap.size + 1, 0, none⟩), .pointer (some ⟨w.heap.size, 0, none⟩)]] := by rw [← hW1]; exact Bx.fresh' ((w.alloc _).alloc _) (by simp) _ _
  have hst : ∀ (W : World) (a : Addr) (m : Mode), (store a (.func (.func 96) #[] #[.pointer (some ⟨w.heap.size + 1, 0, none⟩), .pointer (some ⟨w.heap.size, 0, none⟩)]) m).run Try.prog W = stored Try.prog W a (.func (.func 96) #[] #[.pointer (some ⟨w.heap.size + 1, 0, none⟩), .pointer (some ⟨w.heap.size, 0, none⟩)]) m := fun W a m => run_store _ W a _ m rfl
  have CI := Lib.hid (cf_is c n W1)
  have CG := Lib.hid (fun W (hW : Below W1.heap.size W1 W) => contg_c2 97 (.pointer (some ⟨w.heap.size + 1, 0, none⟩)) (.pointer (some ⟨w.heap.size + 1 + 1, 0, none⟩)) (fl c n) v gs (by omega) W ((h.next hb).next hW) (fun xs W => by go_simp) (fun W2 hW2 g hg u hu => may2_any (w.heap.size + 1) (w.heap.size + 1 + 1) w.heap.size c n u g (by have := hs g hg; omega) W2 hu (((hn.next hW).next hW2).read rfl) (((hk.next hW).next hW2).read rfl) ((hx.next hW).next hW2)))
  have HB := Lib.hid (And.intro hb (And.intro hx hn))
  have HM : Hid (mayB c n gs = (c.is n && !(gs.any (fl c n)))) := Lib.hid rfl
  clear hb hx hn hk h hs
  generalize mayB c n gs = r at *
  generalize gs.any (fl c n) = q at *
  cases hi : c.is n with
  | false =>
    rw [hi] at CI
    have HR : Hid (r = false) := Lib.hid (by rw [HM.out, hi]; rfl)
    clear hi HM CG
    obtain ⟨e, o0, o1, o2, o3, o4, j0, j1, j2, j3, j4⟩ := c
    unfold Cf.cells at *
    dsimp only at *
    obtain ⟨x0, x1, x2, x3, x4, x5, x6, x7, x8, x9, x10⟩ := HB.out.2.1.reads11
    have y0 := HB.out.2.2.read (i := 0) rfl
    go_enter Try.func32, Try.ntmps32
    go_wp2_with fail
    refine (CI.out).mono ?_; rintro _ w1 ⟨rfl, hb1⟩
    have H1 := Lib.hid (bnext HB.out.1 hb1)
    clear hb1
    go_wp2_with fail
    go_ret
    exact ⟨cret_b HR.out.symm, H1.out⟩
  | true =>
    rw [hi] at CI
    have HR : Hid (r = !q) := Lib.hid (by rw [HM.out, hi]; rfl)
    clear hi HM
    obtain ⟨e, o0, o1, o2, o3, o4, j0, j1, j2, j3, j4⟩ := c
    unfold Cf.cells at *
    dsimp only at *
    obtain ⟨x0, x1, x2, x3, x4, x5, x6, x7, x8, x9, x10⟩ := HB.out.2.1.reads11
    have y0 := HB.out.2.2.read (i := 0) rfl
    go_enter Try.func32, Try.ntmps32
    go_wp2_with fail
    refine (CI.out).mono ?_; rintro _ w1 ⟨rfl, hb1⟩
    have H1 := Lib.hid (bnext HB.out.1 hb1)
    have C2 := Lib.hid (CG.out w1 hb1)
    clear hb1 CG CI
    go_wp2_with fail
    refine (C2.out).mono ?_; rintro _ w2 ⟨rfl, hb2⟩
    have H2 := Lib.hid (bnext H1.out hb2)
    clear hb2
    go_wp2_with fail
    go_ret
    exact ⟨cret_b HR.out.symm, H2.out⟩
end Go.Proofs.Ytaeflfgkdjfnfaa
