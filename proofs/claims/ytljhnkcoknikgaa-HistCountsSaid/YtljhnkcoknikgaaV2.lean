/- Layer 44 (hist): Join. -/
import Derived.Test.YtljhnkcoknikgaaW7
import Derived.Deep.RegionWith
namespace Go.Proofs.Ytljhnkcoknikgaa
open Go.RowKit

def joinF (f g : Nat → Int) (k : Nat) : Int := addV (max (f k) 0) (max (g k) 0)
def mixF (f g : Nat → Int) (k : Nat) : Nat → Int := fun j => if j < k then joinF f g j else f j
theorem addV_bd (a b : Int) : 0 ≤ addV a b ∧ addV a b ≤ 1125899906842624 := cut_bd _
/-- Join's own boxes. -/
def JI (w : World) (f g : Nat → Int) (cb : Array Value) (k : Nat) (W : World) : Prop := ∃ ca co, Bx W w.heap.size 24 ca ∧ HC ca (mixF f g k) ∧ Bx W (w.heap.size + 1) 24 cb ∧ Bx W (w.heap.size + 2) 24 co ∧ co.size = 24 ∧ Below w.heap.size w W
theorem JI.step {w W : World} {f g : Nat → Int} {cb : Array Value} {k : Nat} (hk : k < 24) (hb : HC cb g) (h : JI w f g cb k W) :
    W.cell? ⟨w.heap.size, k, none⟩ = some (.int .i64 (f k)) ∧ W.frozen? ⟨w.heap.size, k, none⟩ = false ∧ W.cell? ⟨w.heap.size + 1, k, none⟩ = some (.int .i64 (g k)) ∧
    JI w f g cb (k + 1) (W.setCell ⟨w.heap.size, k, none⟩ (.int .i64 (joinF f g k))).drew := by
  obtain ⟨ca, co, h1, h2, h3, h4, h5, h6⟩ := h
  have e := h2.at_ k hk
  unfold mixF at e
  rw [if_neg (by omega)] at e
  have hj := addV_bd (max (f k) 0) (max (g k) 0)
  refine ⟨h1.read e, h1.open_ k, h3.read (hb.at_ k hk), ⟨_, co, (h1.put k _).drawn 1, (h2.put k hk (joinF f g k) (by unfold joinF; omega)).congr fun j hj2 => ?_, (h3.beside (p := ⟨w.heap.size, k, none⟩) (by show w.heap.size ≠ w.heap.size + 1; omega) _).drawn 1, (h4.beside (p := ⟨w.heap.size, k, none⟩) (by show w.heap.size ≠ w.heap.size + 2; omega) _).drawn 1, h5, (h6.setCell (p := ⟨w.heap.size, k, none⟩) (Nat.le_refl _) _).drew⟩⟩
  unfold mixF
  by_cases c : j = k
  · subst c; rw [if_pos rfl, if_pos (by omega)]
  · rw [if_neg c]
    by_cases d : j < k
    · rw [if_pos d, if_pos (by omega)]
    · rw [if_neg d, if_neg (by omega)]
set_option maxRecDepth 100000 in
set_option maxHeartbeats 4000000 in
theorem join_any (ca cb : Array Value) (f g : Nat → Int) (ha : HC ca f) (hb : HC cb g) (w : World) :
    Calls Try.prog 13 #[.agg ca, .agg cb] w fun e w' => ∃ cs, e = .returned (.agg cs) ∧ HC cs (joinF f g) ∧ Below w.heap.size w w' := by
  have CA := Lib.hid (fun a b W => show Calls Try.prog 58 #[.int .i64 a, .int .i64 b] W fun e w' => e = .returned (.int .i64 (addV a b)) ∧ W = w' from add_any a b W)
  have HB := Lib.hid hb
  have HA := Lib.hid ha
  go_enter Try.func13, Try.ntmps13
  go_wp2_with fail
  go_loopw [6] (fun i wr => ∃ k : Nat, i = .int .i64 k ∧ k ≤ 24 ∧ Hid (JI w f g cb k wr)) (fun i _ => 24 - (intOf i).toNat)
  case atStart =>
    exact ⟨0, rfl, by omega, Lib.hid ⟨ca, Array.replicate 24 (.int .i64 0), (((Bx.fresh w _ _).past _).past _), HA.out.congr (fun k _ => by unfold mixF; simp), (Bx.fresh' (w.alloc _) (by simp) _ _).past _, Bx.fresh' ((w.alloc _).alloc _) (by simp) _ _, rfl, ((((Below.refl _ _).alloc (Nat.le_refl _) _).alloc (by simp) _).alloc (by simp; omega) _)⟩⟩
  case round =>
    obtain ⟨k, rfl, hk, HO⟩ := hrel
    by_cases hlt : k < 24
    · obtain ⟨c1, c2, c3, c4⟩ := HO.out.step hlt HB.out
      have C4 := Lib.hid c4
      unfold joinF at C4
      clear c4
      generalize f k = x at *
      generalize g k = y at *
      generalize hmx : max x 0 = mx at *
      generalize hmy : max y 0 = my at *
      have CA1 := Lib.hid (fun W => CA.out mx my W)
      generalize addV mx my = z at *
      go_wp2_with fail
      go_region_with (go_at_call 58; refine (CA1.out _).mono ?_; rintro e w' ⟨rfl, rfl⟩)
      all_goals
        go_wp2_with fail
        go_roundw
        case rel => exact ⟨k + 1, by go_num, by omega, C4⟩
        case measure => simp [intOf]; omega
    · have e : k = 24 := by omega
      subst e
      obtain ⟨cs, co, h1, h2, h3, h4, h5, h6⟩ := HO.out
      have h2' : HC cs (joinF f g) := h2.congr (fun j hj => by unfold mixF; rw [if_pos hj])
      have hi : (Try.prog.info? 24).map (·.size) = some cs.size := by rw [h2.size]; exact hist_info
      have H2 := Lib.hid h2'
      have H6 := Lib.hid h6
      clear h2 h2' h6 h3 HO
      go_wp2_with (first
        | (refine wpList_load_row rfl 24 _ rfl w.heap.size rfl 24 cs (0, 0) _ h1 Try.underlying24 rfl hi ?_)
        | (refine wpList_store_row rfl 24 _ _ rfl (w.heap.size + 2) cs rfl rfl 24 co h4 hi (by rw [h5, H2.out.size]) H2.out.one ?_))
      have h7 : Bx (wr.setRow (w.heap.size + 2) cs) (w.heap.size + 2) 24 cs := setRow_heap _ _ _ cs _ _ h4
      (try simp only [Exit.inBlock, Exit.then])
      refine bodyPost_ret (results_cell_row rfl _ _ (w.heap.size + 2) 24 cs (0, 0) _ rfl h7 Try.underlying24 rfl hi) rfl ?_
      exact ⟨cs, rfl, H2.out, below_setRow H6.out (by omega) _⟩
end Go.Proofs.Ytljhnkcoknikgaa
