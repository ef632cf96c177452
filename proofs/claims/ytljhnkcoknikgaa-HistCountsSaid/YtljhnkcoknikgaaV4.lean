/- Layer 44 (hist): the contracts with the cells written out; == of counts. -/
import Derived.Test.YtljhnkcoknikgaaV3
import Derived.ChangeKeysEq
namespace Go.Proofs.Ytljhnkcoknikgaa
open Go.RowKit

/-- The cells of counts. -/
def c24 (f : Nat → Int) : Array Value := ((List.range 24).map fun k => Value.int .i64 (f k)).toArray
theorem HC.c24 {cs : Array Value} {f : Nat → Int} (h : HC cs f) : cs = c24 f := by
  apply Array.ext_getElem?
  intro i
  by_cases hi : i < 24
  · rw [h.at_ i hi]
    simp [Go.Proofs.Ytljhnkcoknikgaa.c24, hi]
  · have hs : (Go.Proofs.Ytljhnkcoknikgaa.c24 f).size = 24 := by simp [Go.Proofs.Ytljhnkcoknikgaa.c24]
    rw [Array.getElem?_eq_none (by rw [h.size]; omega), Array.getElem?_eq_none (by rw [hs]; omega)]
theorem c24_congr {f g : Nat → Int} (e : ∀ k, k < 24 → f k = g k) : c24 f = c24 g := by
  unfold c24
  congr 1
  apply List.map_congr_left
  intro k hk
  rw [e k (by simpa using hk)]
theorem c24_hc (f : Nat → Int) (h : ∀ k, k < 24 → -9223372036854775808 ≤ f k ∧ f k < 9223372036854775808) : HC (c24 f) f := ⟨by simp [c24], fun k hk => by simp [c24, hk], h⟩
theorem cnt_hc (L : List Int) (hl : L.length ≤ 140737488355328) : HC (c24 (cntF L)) (cntF L) := c24_hc _ fun k _ => by have := cntF_bd L k; omega
theorem of_is (L : List Int) (g cap : Nat) (hl : L.length ≤ 140737488355328) (hb : ∀ n ∈ L, -9223372036854775808 ≤ n ∧ n < 9223372036854775808) (w : World) (hg : g < w.heap.size) (hc : ∀ k (h : k < L.length), w.cell? ⟨g, k, none⟩ = some (.int .i64 L[k])) :
    Calls Try.prog 12 #[.slice (some ⟨g, 0, none⟩) L.length cap] w fun e w' => e = .returned (.agg (c24 (cntF L))) ∧ Below w.heap.size w w' :=
  (of_any L g cap hl hb w hg hc).mono fun e w' ⟨cs, h1, h2, h3⟩ => ⟨by rw [h1, h2.c24], h3⟩
theorem join_is (a b : List Int) (h : a.length + b.length ≤ 1000) (w : World) :
    Calls Try.prog 13 #[.agg (c24 (cntF a)), .agg (c24 (cntF b))] w fun e w' => e = .returned (.agg (c24 (cntF (a ++ b)))) ∧ Below w.heap.size w w' :=
  (join_any _ _ _ _ (cnt_hc a (by omega)) (cnt_hc b (by omega)) w).mono fun e w' ⟨cs, h1, h2, h3⟩ => ⟨by rw [h1, h2.c24, c24_congr (fun k _ => cntF_join a b k h)], h3⟩
theorem len_is (L : List Int) (h : L.length ≤ 1000) (w : World) :
    Calls Try.prog 14 #[.agg (c24 (cntF L))] w fun e w' => e = .returned (.int .i64 L.length) ∧ Below w.heap.size w w' :=
  (len_any _ _ (cnt_hc L (by omega)) w).mono fun e w' ⟨h1, h2⟩ => ⟨by rw [h1, len_cnt L h], h2⟩
theorem eqItems_self (d : Nat) (cs : Array Value) (f : Nat → Int) (h : HC cs f) (w : World) : ∀ is : List Nat, (∀ j ∈ is, j < 24) → (Op.eqItems (d + 1) 3 1 cs cs is).run Try.prog w = .ok true w
  | [], _ => by simp [Op.eqItems]
  | j :: is, hj => by
    have hp : (part 3 cs (j * 1)).run Try.prog w = .ok (.int .i64 (f j)) w := run_part_plain w (by kernel_rfl) (by rw [Nat.mul_one]; exact h.at_ j (hj j (by simp)))
    have hr := eqItems_self d cs f h w is (fun k hk => hj k (by simp [hk]))
    have he : (Op.equalIn (d + 1) 3 (.int .i64 (f j)) (.int .i64 (f j))).run Try.prog w = .ok true w := by
      go_simp
    simp only [Op.eqItems, Sem.run_bind, hp, Result.andThen_ok, he]
    simpa using hr
/-- Counts are as themselves. -/
theorem run_eqlHist (L : List Int) (hl : L.length ≤ 140737488355328) (w : World) : (binOp .eql 24 (.agg (c24 (cntF L))) (.agg (c24 (cntF L)))).run Try.prog w = .ok (.bool true) w := by
  have hC : Try.prog.cellsOf 3 = 1 := by kernel_rfl
  obtain ⟨i, hi⟩ := Option.isSome_iff_exists.1 (show (Try.prog.info? 3).isSome = true by kernel_rfl)
  have h1 : (Op.equalIn 10000 24 (.agg (c24 (cntF L))) (.agg (c24 (cntF L)))).run Try.prog w = .ok true w := by
    rw [show (10000 : Nat) = 9999 + 1 from rfl, run_equalIn_array w 9999 _ _ Try.underlying24 hi, hC]
    exact eqItems_self 9998 _ _ (cnt_hc L hl) w (List.range 24) (fun j hj => by simpa using hj)
  have hu := run_underlying Try.underlying24 w
  generalize c24 (cntF L) = cs at *
  go_simp
end Go.Proofs.Ytljhnkcoknikgaa
