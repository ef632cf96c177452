/- Layer 44 (hist): Of at a row of numbers that lies anywhere. -/
import Derived.Test.YtljhnkcoknikgaaV4
import Derived.Test.YtljhnkcoknikgaaPi
namespace Go.Proofs.Ytljhnkcoknikgaa
open Go.RowKit

set_option maxRecDepth 100000 in
set_option maxHeartbeats 4000000 in
theorem of_at (L : List Int) (g off cap : Nat) (hl : L.length ≤ 140737488355328) (hb : ∀ n ∈ L, -9223372036854775808 ≤ n ∧ n < 9223372036854775808) (w : World) (hg : g < w.heap.size) (hc : ∀ k (h : k < L.length), w.cell? ⟨g, off + k, none⟩ = some (.int .i64 L[k])) :
    Calls Try.prog 12 #[.slice (some ⟨g, off, none⟩) L.length cap] w fun e w' => ∃ cs, e = .returned (.agg cs) ∧ HC cs (cntF L) ∧ Below w.heap.size w w' := by
  have CB := Lib.hid (fun n hn W => bucket_any n hn W)
  have HG := Lib.hid hg
  go_enter Try.func12, Try.ntmps12
  go_wp2_with fail
  go_loopw [8, 5] (fun i u5 wr => ∃ k : Nat, i = .int .i64 k ∧ k ≤ L.length ∧ Hid (OI w L k wr)) (fun i _ _ => L.length - (intOf i).toNat)
  case atStart =>
    exact ⟨0, rfl, by omega, Lib.hid ⟨Array.replicate 24 (.int .i64 0), Array.replicate 24 (.int .i64 0), Bx.fresh' (w.alloc _) (by simp) _ _, HC.zero, (Bx.fresh _ _ _).past _, rfl, ((Below.refl _ _).alloc (Nat.le_refl _) _).alloc (by simp) _⟩⟩
  case round =>
    obtain ⟨k, rfl, hk, HO⟩ := hrel
    by_cases hlt : k < L.length
    · have hx0 := (HO.out.choose_spec.choose_spec.2.2.2.2)
      have hcell : wr.cell? ⟨g, off + k, none⟩ = some (.int .i64 L[k]) := by rw [hx0.cell (p := ⟨g, off + k, none⟩) HG.out]; exact hc k hlt
      obtain ⟨d1, d2, d3⟩ := HO.out.step hlt hl
      have hbd := hb L[k] (List.getElem_mem hlt)
      have hcb := cntF_bd (L.take k) (bk L[k])
      have hbl := bk_le L[k]
      have hle : (L.take k).length ≤ L.length := by simp; omega
      have CB1 := Lib.hid (fun W => CB.out L[k] hbd W)
      have D3 := Lib.hid d3
      clear d3 hbd hx0
      generalize L[k] = n at *
      generalize cntF (L.take k) (bk n) = c at *
      generalize bk n = b at *
      generalize (L.take k).length = lt at *
      go_wp2_with (go_at_call 16; refine (CB1.out _).mono ?_; rintro e w' ⟨rfl, rfl⟩)
      go_roundw
      case rel => exact ⟨k + 1, by go_num, by omega, D3⟩
      case measure => simp [intOf]; omega
    · have e : k = L.length := by omega
      subst e
      obtain ⟨cs, co, h1, h2, h3, h4, h5⟩ := HO.out
      rw [List.take_length] at h2
      have hi : (Try.prog.info? 24).map (·.size) = some cs.size := by rw [h2.size]; exact hist_info
      have H2 := Lib.hid h2
      have H5 := Lib.hid h5
      clear h2 h5 HO
      go_wp2_with (first
        | (refine wpList_load_row rfl 24 _ rfl (w.heap.size + 1) rfl 24 cs (0, 0) _ h1 Try.underlying24 rfl hi ?_)
        | (refine wpList_store_row rfl 24 _ _ rfl w.heap.size cs rfl rfl 24 co h3 hi (by rw [h4, H2.out.size]) H2.out.one ?_))
      have h6 : Bx (wr.setRow w.heap.size cs) w.heap.size 24 cs := by
        unfold Bx at h3 ⊢
        simp [World.setRow, Array.getElem?_modify, h3]
      (try simp only [Exit.inBlock, Exit.then])
      refine bodyPost_ret (results_cell_row rfl _ _ w.heap.size 24 cs (0, 0) _ rfl h6 Try.underlying24 rfl hi) rfl ?_
      exact ⟨cs, rfl, H2.out, below_setRow H5.out (Nat.le_refl _) _⟩
set_option maxRecDepth 100000 in
set_option maxHeartbeats 4000000 in
theorem of_nil (a : Option Addr) (cap : Nat) (w : World) :
    Calls Try.prog 12 #[.slice a 0 cap] w fun e w' => ∃ cs, e = .returned (.agg cs) ∧ HC cs (cntF []) ∧ Below w.heap.size w w' := by
  go_enter Try.func12, Try.ntmps12
  go_wp2_with fail
  go_loopw [8, 5] (fun i u5 wr => i = .int .i64 0 ∧ Hid (OI w [] 0 wr)) (fun i _ _ => 0 - (intOf i).toNat)
  case atStart =>
    exact ⟨rfl, Lib.hid ⟨Array.replicate 24 (.int .i64 0), Array.replicate 24 (.int .i64 0), Bx.fresh' (w.alloc _) (by simp) _ _, HC.zero, (Bx.fresh _ _ _).past _, rfl, ((Below.refl _ _).alloc (Nat.le_refl _) _).alloc (by simp) _⟩⟩
  case round =>
    obtain ⟨rfl, HO⟩ := hrel
    obtain ⟨cs, co, h1, h2, h3, h4, h5⟩ := HO.out
    have hi : (Try.prog.info? 24).map (·.size) = some cs.size := by rw [h2.size]; exact hist_info
    have H2 := Lib.hid (show HC cs (cntF []) from h2)
    have H5 := Lib.hid h5
    clear h2 h5 HO
    go_wp2_with (first
      | (refine wpList_load_row rfl 24 _ rfl (w.heap.size + 1) rfl 24 cs (0, 0) _ h1 Try.underlying24 rfl hi ?_)
      | (refine wpList_store_row rfl 24 _ _ rfl w.heap.size cs rfl rfl 24 co h3 hi (by rw [h4, H2.out.size]) H2.out.one ?_))
    have h6 : Bx (wr.setRow w.heap.size cs) w.heap.size 24 cs := by
      unfold Bx at h3 ⊢
      simp [World.setRow, Array.getElem?_modify, h3]
    (try simp only [Exit.inBlock, Exit.then])
    refine bodyPost_ret (results_cell_row rfl _ _ w.heap.size 24 cs (0, 0) _ rfl h6 Try.underlying24 rfl hi) rfl ?_
    exact ⟨cs, rfl, H2.out, below_setRow H5.out (Nat.le_refl _) _⟩
/-- Of a slice that reads as numbers. -/
theorem of_in (v : Value) (L : List Int) (hl : L.length ≤ 140737488355328) (hb : ∀ n ∈ L, -9223372036854775808 ≤ n ∧ n < 9223372036854775808) (w : World) (h : IN w v L) :
    Calls Try.prog 12 #[v] w fun e w' => e = .returned (.agg (c24 (cntF L))) ∧ Below w.heap.size w w' := by
  obtain ⟨a, cap, rfl, hr⟩ := h
  by_cases h0 : L = []
  · subst h0
    exact (of_nil a cap w).mono fun e w' ⟨cs, h1, h2, h3⟩ => ⟨by rw [h1, h2.c24], h3⟩
  · obtain ⟨b, off, rfl, hc⟩ := hr h0
    have hlt : 0 < L.length := List.length_pos_iff.2 h0
    exact (of_at L b off cap hl hb w (World.block_lt_of_cell? _ _ (hc 0 hlt)) hc).mono fun e w' ⟨cs, h1, h2, h3⟩ => ⟨by rw [h1, h2.c24], h3⟩
end Go.Proofs.Ytljhnkcoknikgaa
