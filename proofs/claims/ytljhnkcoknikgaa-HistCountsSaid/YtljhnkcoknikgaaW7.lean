/- Layer 44 (hist): Of. -/
import Derived.Test.YtljhnkcoknikgaaW6
import Derived.Laws.Tables
import Derived.Laws.CopyOwn
namespace Go.Proofs.Ytljhnkcoknikgaa
open Go.RowKit

/-- How many of numbers there are in each bucket. -/
def cntF (L : List Int) (b : Nat) : Int := ((L.filter fun n => bk n == b).length : Nat)
theorem cntF_snoc (L : List Int) (n : Int) (b : Nat) : cntF (L ++ [n]) b = if b = bk n then cntF L b + 1 else cntF L b := by
  unfold cntF
  rw [List.filter_append]
  by_cases h : b = bk n
  · subst h; simp
  · rw [if_neg h]
    have : (bk n == b) = false := by simp; omega
    simp [this]
theorem cntF_bd (L : List Int) (b : Nat) : 0 ≤ cntF L b ∧ cntF L b ≤ L.length := by
  unfold cntF
  have := List.length_filter_le (fun n => bk n == b) L
  omega
theorem HC.put {cs : Array Value} {f : Nat → Int} (h : HC cs f) (i : Nat) (hi : i < 24) (v : Int) (hv : -9223372036854775808 ≤ v ∧ v < 9223372036854775808) : HC (cs.setIfInBounds i (.int .i64 v)) (fun b => if b = i then v else f b) := by
  refine ⟨by simp [h.size], fun k hk => ?_, fun k hk => ?_⟩
  · rw [Array.getElem?_setIfInBounds]
    by_cases e : i = k
    · subst e; rw [if_pos rfl, if_pos (by rw [h.size]; exact hi)]; simp
    · rw [if_neg e, if_neg (fun e2 => e e2.symm)]; exact h.at_ k hk
  · by_cases e : k = i
    · rw [if_pos e]; exact hv
    · rw [if_neg e]; exact h.bd k hk
theorem HC.one {cs : Array Value} {f : Nat → Int} (h : HC cs f) : cs.all (·.oneCell') = true := by
  rw [Array.all_eq_true]
  intro k hk
  have h1 := h.at_ k (by rw [← h.size]; exact hk)
  rw [Array.getElem?_eq_getElem hk] at h1
  have h2 : cs[k] = .int .i64 (f k) := by simpa using h1
  rw [h2]; rfl
theorem HC.congr {cs : Array Value} {f g : Nat → Int} (h : HC cs f) (e : ∀ k, k < 24 → f k = g k) : HC cs g := ⟨h.size, fun k hk => by rw [← e k hk]; exact h.at_ k hk, fun k hk => by rw [← e k hk]; exact h.bd k hk⟩
def zero24 : Array Value := Array.replicate 24 (.int .i64 0)
theorem HC.zero : HC (Array.replicate 24 (.int .i64 0)) (cntF []) := ⟨by simp, fun k hk => by simp [cntF, hk], fun k hk => by simp [cntF]⟩
/-- Of's own boxes, and what it has counted. -/
def OI (w : World) (L : List Int) (k : Nat) (W : World) : Prop := ∃ cs co, Bx W (w.heap.size + 1) 24 cs ∧ HC cs (cntF (L.take k)) ∧ Bx W w.heap.size 24 co ∧ co.size = 24 ∧ Below w.heap.size w W
theorem OI.step {w W : World} {L : List Int} {k : Nat} (hk : k < L.length) (h : OI w L k W) (hl : L.length ≤ 140737488355328) : W.cell? ⟨w.heap.size + 1, bk L[k], none⟩ = some (.int .i64 (cntF (L.take k) (bk L[k]))) ∧ W.frozen? ⟨w.heap.size + 1, bk L[k], none⟩ = false ∧
    OI w L (k + 1) (W.setCell ⟨w.heap.size + 1, bk L[k], none⟩ (.int .i64 (cntF (L.take k) (bk L[k]) + 1))) := by
  obtain ⟨cs, co, h1, h2, h3, h4, h5⟩ := h
  have hb := bk_le L[k]
  have hc := cntF_bd (L.take k) (bk L[k])
  have hle : (L.take k).length ≤ L.length := by simp; omega
  refine ⟨h1.read (h2.at_ _ (by omega)), h1.open_ _, cs.setIfInBounds (bk L[k]) (.int .i64 (cntF (L.take k) (bk L[k]) + 1)), co, h1.put _ _, ?_, h3.beside (p := ⟨w.heap.size + 1, bk L[k], none⟩) (by show w.heap.size + 1 ≠ w.heap.size; omega) _, h4, h5.setCell (p := ⟨w.heap.size + 1, bk L[k], none⟩) (by show w.heap.size ≤ w.heap.size + 1; omega) _⟩
  refine (h2.put (bk L[k]) (by omega) (cntF (L.take k) (bk L[k]) + 1) (by omega)).congr fun b hb' => ?_
  rw [List.take_succ_eq_append_getElem hk, cntF_snoc]
  by_cases e : b = bk L[k]
  · rw [if_pos e, if_pos e, e]
  · rw [if_neg e, if_neg e]
set_option maxRecDepth 100000 in
set_option maxHeartbeats 4000000 in
theorem of_any (L : List Int) (g cap : Nat) (hl : L.length ≤ 140737488355328) (hb : ∀ n ∈ L, -9223372036854775808 ≤ n ∧ n < 9223372036854775808) (w : World) (hg : g < w.heap.size) (hc : ∀ k (h : k < L.length), w.cell? ⟨g, k, none⟩ = some (.int .i64 L[k])) :
    Calls Try.prog 12 #[.slice (some ⟨g, 0, none⟩) L.length cap] w fun e w' => ∃ cs, e = .returned (.agg cs) ∧ HC cs (cntF L) ∧ Below w.heap.size w w' := by
  have CB := Lib.hid (fun n hn W => bucket_any n hn W)
  have HG := Lib.hid hg
  go_enter Try.func12, Try.ntmps12
  go_wp2_with fail
  go_loopw [8, 5] (fun i u5 wr => ∃ k : Nat, i = .int .i64 k ∧ k ≤ L.length ∧ Hid (OI w L k wr)) (fun i _ _ => L.length - (intOf i).toNat)
  case atStart =>
    exact ⟨0, rfl, by omega, Lib.hid ⟨Array.replicate 24 (.int .i64 0), Array.replicate 24 (.int .i64 0), Bx.fresh' (w.alloc _) (by simp) _ _, HC.zero, (Bx.fresh _ _ _).past _, rfl, ((Below.refl _ _).alloc (Nat.le_refl _) _).alloc (by simp) _⟩⟩
  case round =>
    obtain ⟨k, rfl, hk, HO⟩ := hrel
    by_cases hlt : k < L.length
    · have hx0 := (HO.out.choose_spec.choose_spec.2.2.2.2)
      have hcell : wr.cell? ⟨g, k, none⟩ = some (.int .i64 L[k]) := by rw [hx0.cell (p := ⟨g, k, none⟩) HG.out]; exact hc k hlt
      obtain ⟨d1, d2, d3⟩ := HO.out.step hlt hl
      have hbd := hb L[k] (List.getElem_mem hlt)
      have hcb := cntF_bd (L.take k) (bk L[k])
      have hbl := bk_le L[k]
      have hle : (L.take k).length ≤ L.length := by simp; omega
      have CB1 := Lib.hid (fun W => CB.out L[k] hbd W)
      have D3 := Lib.hid d3
      clear d3 hbd hx0
      generalize L[k] = n at *
      generalize cntF (L.take k) (bk n) = c at *
      generalize bk n = b at *
      generalize (L.take k).length = lt at *
      go_wp2_with (go_at_call 16; refine (CB1.out _).mono ?_; rintro e w' ⟨rfl, rfl⟩)
      go_roundw
      case rel => exact ⟨k + 1, by go_num, by omega, D3⟩
      case measure => simp [intOf]; omega
    · have e : k = L.length := by omega
      subst e
      obtain ⟨cs, co, h1, h2, h3, h4, h5⟩ := HO.out
      rw [List.take_length] at h2
      have hi : (Try.prog.info? 24).map (·.size) = some cs.size := by rw [h2.size]; exact hist_info
      have H2 := Lib.hid h2
      have H5 := Lib.hid h5
      clear h2 h5 HO
      go_wp2_with (first
        | (refine wpList_load_row rfl 24 _ rfl (w.heap.size + 1) rfl 24 cs (0, 0) _ h1 Try.underlying24 rfl hi ?_)
        | (refine wpList_store_row rfl 24 _ _ rfl w.heap.size cs rfl rfl 24 co h3 hi (by rw [h4, H2.out.size]) H2.out.one ?_))
      have h6 : Bx (wr.setRow w.heap.size cs) w.heap.size 24 cs := by
        unfold Bx at h3 ⊢
        simp [World.setRow, Array.getElem?_modify, h3]
      (try simp only [Exit.inBlock, Exit.then])
      refine bodyPost_ret (results_cell_row rfl _ _ w.heap.size 24 cs (0, 0) _ rfl h6 Try.underlying24 rfl hi) rfl ?_
      exact ⟨cs, rfl, H2.out, below_setRow H5.out (Nat.le_refl _) _⟩
end Go.Proofs.Ytljhnkcoknikgaa
