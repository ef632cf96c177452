/- Layer 5 (vector): the iterator's contract once more: what was gone through when the body leaves is a prefix of the listing. -/
import Derived.Test.YtaeflfgkdjfnfaaYf
namespace Go.Proofs.Ytaeflfgkdjfnfaa
open Go.RowKit
attribute [local go_sem] Oper.semAt_some

set_option maxRecDepth 100000 in
set_option maxHeartbeats 4000000 in
theorem dots1p_in (n : Nat) (hn : 1 ≤ n) (l Bs n₀ M m : Nat) (D : DataW Unit) (hm : m ≤ 100000) (J Jx : List Dt → World → Prop) (W : World) (hn₀ : n₀ ≤ W.heap.size)
    (hJ : AbidesFrom W.heap.size J)
    (hY : ∀ pre (x : Dt) W1, J pre W1 → pre.length < m → YieldAt Fence.wide (n - 1) Try.prog l (encDt x) W1 fun e W' =>
      (e = .returned (.bool true) ∧ J (pre ++ [x]) W' ∧ KC n₀ W1 W') ∨ (e = .returned (.bool false) ∧ Jx (pre ++ [x]) W'))
    (hBs : W.cell? ⟨Bs, 0, none⟩ = some (.map (some M))) (hV : VM W M m D) (h0 : J [] W) :
    CallsIn Fence.wide n Try.prog 177 #[.func (.yield l) #[] #[], .pointer (some ⟨Bs, 0, none⟩)] W fun e W' => (∃ v, e = .returned v) ∧
      ((∃ ys : List Dt, (Lists D (ys.map (·.1)) ∧ Up (ys.map (·.1)) ∧ ys.length ≤ m) ∧ J ys W') ∨ (∃ pre : List Dt, (∃ ys : List Dt, (Lists D (ys.map (·.1)) ∧ Up (ys.map (·.1))) ∧ pre <+: ys) ∧ Jx pre W')) := by
  have C := Hid.mk' (row_any W M m D hm hV)
  clear hV
  refine callsIn_of_wp Try.func177 rfl trivial ?_ rfl
  simp only [Try.ntmps177, List.size_toArray, List.length_cons, List.length_nil, Nat.reduceAdd, Nat.reduceSub, Array.replicate_succ, Array.replicate_zero, List.push_toArray, List.append_toArray, List.nil_append, List.cons_append]
  gi_wp2_with (refine ⟨trivial, ?_⟩; gi_at_call 178; refine (callsIn_wide.2 C.out).mono ?_; rintro e w2 ⟨v2, T, rfl, hd2, hl2, hu2, hb2, ht2⟩)
  obtain ⟨T', hT'⟩ := dt_of T (fun x hx => ⟨(hl2.2.1 x hx).2.1, (hl2.2.1 x hx).2.2⟩)
  subst hT'
  obtain ⟨a2, c2, rfl⟩ := hd2.form
  have h2 : J (T'.take 0) w2 := hJ [] W w2 none h0 (gb_below hb2 none) (fun r e => by cases e)
  have HD := Hid.mk' (And.intro hd2 (And.intro hl2 (And.intro hu2 (And.intro hb2 ht2))))
  rw [List.length_map]
  have hlm : T'.length ≤ m := by rw [List.length_map] at ht2; exact ht2
  have hlen : ∀ W', (Builtin.len_ #[114] 3 #[.slice a2 T'.length c2]).run Try.prog W' = .ok (.int .i64 (T'.length : Int)) W' := fun W' => run_len_slice (P := Try.prog) W' 114 3 a2 T'.length c2 (by kernel_rfl)
  have hlen2 := hlen w2
  clear hd2 hl2 hu2 hb2 ht2 C hBs h0 hlen
  gi_wp2
  rw [hlen2]
  simp only [Result.andThen]
  gi_wp2
  gi_loopw [8] (fun i wr => ∃ k : Nat, i = .int .i64 k ∧ k ≤ T'.length ∧ J (T'.take k) wr ∧ Hid (KC n₀ w2 wr)) (fun i _ => T'.length - (intOf i).toNat)
  case atStart => exact ⟨0, rfl, Nat.zero_le _, h2, Hid.mk' (KC.refl _ _)⟩
  case round =>
    clear h2
    obtain ⟨k, rfl, hk, hJs, HK⟩ := hrel
    by_cases hlt : k < T'.length
    · obtain ⟨g, rfl, x0, x1⟩ := (HD.out.1.kc HK.out hn₀).cell k (by rw [List.length_map]; exact hlt)
      rw [List.getElem_map] at x0 x1
      have hJ2 : J (T'.take k) (wr.alloc (.cells #[.int .i64 T'[k].1.1, .int .i64 T'[k].1.2] 123)) := hJ _ wr _ none hJs (World.grownBy_alloc wr _ _) (fun r e => by cases e)
      obtain ⟨fn, tmps, assign, body, hy, hR⟩ := hY (T'.take k) T'[k] _ hJ2 (by rw [List.length_take]; omega)
      have HTK := Hid.mk' (show T'.take k ++ [T'[k]] = T'.take (k + 1) from (List.take_succ_eq_append_getElem hlt).symm)
      have HKA := Hid.mk' (HK.out.trans (KC.of_below (B := n₀) ((Below.refl wr.heap.size wr).alloc (Nat.le_refl _) (.cells #[.int .i64 T'[k].1.1, .int .i64 T'[k].1.2] 123))))
      have hi1 : (k : Int) < (T'.length : Int) := by omega
      simp only [encDt] at hy
      generalize T'[k] = p at *
      have HPRE := Hid.mk' (show ∃ ys : List Dt, (Lists D (ys.map (·.1)) ∧ Up (ys.map (·.1))) ∧ (T'.take k ++ [p]) <+: ys from ⟨T', ⟨HD.out.2.1, HD.out.2.2.1⟩, by rw [HTK.out]; exact List.take_prefix _ _⟩)
      obtain ⟨⟨pw, pn⟩, pi⟩ := p
      dsimp only at *
      clear hY
      gi_wp2
      refine hR.mono ?_
      rintro e W3 (⟨rfl, hJ3, hk3⟩ | ⟨rfl, hJx3⟩)
      · have HF := Hid.mk' (HKA.out.trans hk3)
        rw [HTK.out] at hJ3
        gi_wp2
        go_roundw
        case rel => exact ⟨k + 1, by go_num, by omega, hJ3, HF⟩
        case measure => simp [intOf]; omega
      · gi_wp2
        refine bodyPost_ret (results_none rfl _ _ _) rfl ?_
        exact ⟨⟨_, rfl⟩, .inr ⟨_, HPRE.out, hJx3⟩⟩
    · obtain rfl : k = T'.length := by omega
      gi_wp2
      go_end0
      exact ⟨⟨_, rfl⟩, .inl ⟨T', ⟨HD.out.2.1, HD.out.2.2.1, hlm⟩, by rw [List.take_length] at hJs; exact hJs⟩⟩
/-- **What Dots hands out goes through the vector, rising: for every loop body that keeps the cells laid since the loop began.** -/
theorem dotsp_stops (n : Nat) (hn : 1 ≤ n) (Bs n₀ M m : Nat) (D : DataW Unit) (hm : m ≤ 100000) (w : World) (hn₀ : n₀ ≤ w.heap.size) (hBs : w.cell? ⟨Bs, 0, none⟩ = some (.map (some M))) (hV : VM w M m D) :
    SeqStopsK Fence.wide n Try.prog 177 #[.pointer (some ⟨Bs, 0, none⟩)] encDt (KC n₀) (fun xs : List Dt => Lists D (xs.map (·.1)) ∧ Up (xs.map (·.1)) ∧ xs.length ≤ m) (fun pre : List Dt => ∃ ys : List Dt, (Lists D (ys.map (·.1)) ∧ Up (ys.map (·.1))) ∧ pre <+: ys) m w :=
  fun l J Jx W hW hJ _ hY h0 => dots1p_in n hn l Bs n₀ M m D hm J Jx W (Nat.le_trans hn₀ hW.size) hJ hY (cell_nxd hW hBs) (World.ownsMap.kept hV (gb_below hW none) (by simp)) h0
end Go.Proofs.Ytaeflfgkdjfnfaa
