/- Layer 39 (fold): the document's Fold and Chunks, by its code. (RS: XGb in part; never import both.) -/
import Derived.Test.YtdckdhbnfakleaaDoorFl
import Derived.Test.YtdckdhbnfakleaaDoorFj
import Derived.StillTail
namespace Go.Proofs.YtdckdhbnfakleaaDoor
open Go.RowKit

theorem gaddp (b off j : Nat) : (⟨b, off, none⟩ : Addr).add j = ⟨b, off + j, none⟩ := by
  unfold Addr.add
  by_cases h : j = 0 <;> simp [h]
/-- A slice that reads as runes. -/
def RS (w : World) (v : Value) (l : List Int) : Prop :=
  ∃ a cap, v = .slice a l.length cap ∧ l.length ≤ cap ∧ (a = none → cap = 0) ∧ (l ≠ [] → ∃ b off, a = some ⟨b, off, none⟩ ∧ ∀ i (h : i < l.length), w.cell? ⟨b, off + i, none⟩ = some (.int .i32 l[i]))
theorem RS.form {w : World} {v : Value} {l : List Int} (h : RS w v l) : ∃ a cap, v = .slice a l.length cap := by
  obtain ⟨a, cap, hv, _⟩ := h
  exact ⟨a, cap, hv⟩
theorem RS.next {w w' : World} {v : Value} {l : List Int} (h : RS w v l) (hb : Below w.heap.size w w') : RS w' v l := by
  obtain ⟨a, cap, hv, hl, hn, hr⟩ := h
  refine ⟨a, cap, hv, hl, hn, fun h0 => ?_⟩
  obtain ⟨b, off, ha, hc⟩ := hr h0
  refine ⟨b, off, ha, fun i hi => ?_⟩
  have h1 := hc i hi
  rw [hb.cell (World.block_lt_of_cell? w _ h1)]
  exact h1
theorem RS.len {w : World} {v : Value} {l : List Int} (h : RS w v l) (w' : World) : (Builtin.len_ #[39] 3 #[v]).run Tryd.prog w' = .ok (.int .i64 (l.length : Int)) w' := by
  obtain ⟨a, cap, rfl, _⟩ := h
  exact run_len_slice (P := Tryd.prog) w' 39 3 a l.length cap (by kernel_rfl)
/-- A piece of what reads as runes, from i up to ahead of j. -/
theorem RS.cut {w : World} {v : Value} {l : List Int} (h : RS w v l) (i j : Nat) (hij : i ≤ j) (hj : j ≤ l.length) :
    ∃ v', (∀ w', (Instr.slice 39 v (some (.int .i64 (i : Int))) (some (.int .i64 (j : Int))) none).run Tryd.prog w' = .ok v' w') ∧ RS w v' ((l.drop i).take (j - i)) := by
  obtain ⟨a, cap, rfl, hle, hn, hc⟩ := h
  have hel : Tryd.prog.elem 39 = 21 := by kernel_rfl
  have hu : Tryd.prog.underlying 39 = some (.slice (Tryd.prog.elem 39)) := by kernel_rfl
  have hs := Tryd.sizeOf21
  have hlen : ((l.drop i).take (j - i)).length = j - i := by simp; omega
  refine ⟨sliced a i j cap 1, fun w' => ?_, ?_⟩
  · rw [run_slice_lh w' _ a l.length cap hu .i64 .i64 (i : Int) (j : Int) (by omega) (by omega) (by omega), hel, hs]
    simp [Result.andThen]
  · cases a with
    | none =>
      have h0 := hn rfl
      have hl0 : l.length = 0 := by omega
      have hl := List.eq_nil_of_length_eq_zero hl0
      have hi : i = 0 := by omega
      have hj0 : j = 0 := by omega
      subst hl hi hj0 h0
      exact ⟨none, 0, rfl, Nat.le_refl _, fun _ => rfl, fun h => absurd rfl h⟩
    | some ad =>
      refine ⟨some (if cap = i then ad else ad.add (i * 1)), cap - i, ?_, by rw [hlen]; omega, (fun h => by cases h), fun h0 => ?_⟩
      · rw [hlen]; simp [sliced]; split <;> rfl
      · have hpos : i < j := by
          rcases Nat.lt_or_ge i j with h1 | h1
          · exact h1
          · exfalso; apply h0; apply List.eq_nil_of_length_eq_zero; rw [hlen]; omega
        obtain ⟨b, off, hab, hcell⟩ := hc (fun e => by rw [e] at hj; simp at hj; omega)
        cases hab
        refine ⟨b, off + i, ?_, fun q hq => ?_⟩
        · rw [if_neg (by omega), Nat.mul_one, gaddp]
        · rw [hlen] at hq
          have h1 := hcell (i + q) (by omega)
          rw [Nat.add_assoc, h1]
          simp
theorem rconv (s : ByteArray) (hs : s.size ≤ 1000) (w : World) : ∃ v W', (convert 9 39 (.string s)).run Tryd.prog w = .ok v W' ∧ RS W' v (runesG s) ∧ Below w.heap.size w W' := by
  have hrun := size_runesFrom s s.size 0 #[]
  have hsz : (Conv.runesFrom s s.size 0 #[]).size = (runesG s).length := by rw [runesFrom_all]; simp
  have hcv := run_runes_of_string (P := Tryd.prog) w 9 39 21 s Tryd.underlying9 Tryd.underlying39 Tryd.underlying21 (by simp at hrun; omega)
  refine ⟨_, _, hcv, ?_, (Below.refl _ w).drew.alloc (Nat.le_refl _) _⟩
  have hge : (runesG s).length ≤ grownCap w (Conv.runesFrom s s.size 0 #[]).size 0 21 := by
    rw [← hsz]; exact grownCap_ge _ _ _ _
  refine ⟨_, _, by rw [hsz], hge, by simp, fun _ => ⟨w.heap.size, 0, rfl, fun i hi => ?_⟩⟩
  have hb : Bx (w.drew.alloc (.cells (Conv.runesFrom s s.size 0 #[] ++ Array.replicate (grownCap w (Conv.runesFrom s s.size 0 #[]).size 0 21 - (Conv.runesFrom s s.size 0 #[]).size) (.int .i32 0)) 21)) w.heap.size 21 _ := Bx.fresh w.drew _ _
  refine hb.read ?_
  rw [Array.getElem?_append_left (by rw [hsz]; omega), runesFrom_all]
  simp [hi]
theorem region_tail {P : Program} {id : Nat} {Q : Exit → Act → World → Prop} {a : Act} {w : World} {l : List Oper} (n : Nat) (hm : P.follows .mixedOrders = true) (hB : Region.lexTailB .any l.toArray n = true)
    (h : wpStill P l.toArray w.drew (fun a' => wpList P l.toArray Q (l.drop n) a' w.drew) (l.take n) a) : (Code.region id l.toArray true).wp P Q a w := wp_region_still_tail n hm hB h

theorem RS.conv {w : World} {v : Value} {l : List Int} (h : RS w v l) : (convert 39 9 v).run Tryd.prog w = .ok (.string (runesBytes l)) w := by
  obtain ⟨a, cap, rfl, hle, hn, hc⟩ := h
  rw [run_convert_runes_string w 39 9 21 a l.length cap Tryd.underlying39 Tryd.underlying21 Tryd.underlying9]
  cases a with
  | none =>
    have h0 := hn rfl
    have hl := List.eq_nil_of_length_eq_zero (show l.length = 0 by omega)
    subst hl h0
    rfl
  | some ad =>
    have key : (loadCells ad l.length).run Tryd.prog w = .ok (l.map (Value.int .i32)).toArray w := by
      have := run_loadCells_list (P := Tryd.prog) w ad (l.map (Value.int .i32)) (fun j u hj => by
        have hlt : j < l.length := by simpa using (List.getElem?_eq_some_iff.1 hj).1
        obtain ⟨b, off, hab, hcell⟩ := hc (fun e => by rw [e] at hlt; simp at hlt)
        cases hab
        rw [gaddp, hcell j hlt]
        rw [List.getElem?_map, List.getElem?_eq_getElem hlt] at hj
        simpa using hj)
      rwa [List.length_map] at this
    exact run_runesToString w ad l.length cap l key
theorem runesG_rng (s : ByteArray) : ∀ r ∈ runesG s, 0 ≤ r ∧ r ≤ 1114111 := by
  intro r hr
  obtain ⟨n, rfl, _, h2, _⟩ := runesG_gd s r hr
  have k := dl_rune (encL (n : Int) ++ [])
  rw [h2 []] at k
  simp only at k
  omega
theorem runesB_snoc (L : List Int) (r : Int) : runesBytes (L ++ [r]) = runesBytes L ++ Utf8.encode r := by unfold runesBytes; rw [List.foldl_append]; rfl
theorem enc_size (r : Int) : (Utf8.encode r).size ≤ 4 := by
  have h := runesBytes_size_le [r]
  have e : runesBytes [r] = ByteArray.empty ++ Utf8.encode r := rfl
  rw [e] at h
  simpa using h
theorem foldB_runesB (s : ByteArray) : runesBytes ((runesG s).map smI) = foldB s := bytes_inj' (by rw [rb_flat, foldB_data])
theorem ret_i32 {a b : Int} (h : a = b) : Ending.returned (.int .i32 a) = .returned (.int .i32 b) := by rw [h]
theorem ret_b {a b : Bool} (h : a = b) : Ending.returned (.bool a) = .returned (.bool b) := by rw [h]
set_option maxHeartbeats 1000000 in
theorem small_any (r : Int) (h0 : 0 ≤ r) (h1 : r ≤ 1114111) (w : World) : Calls Tryd.prog 20 #[.int .i32 r] w fun e w' => e = .returned (.int .i32 (smI r)) ∧ w = w' := by
  rcases (show r < 65 ∨ (65 ≤ r ∧ r ≤ 90) ∨ (65 ≤ r ∧ 90 < r) from by omega) with h | ⟨h, h2⟩ | ⟨h, h2⟩
  all_goals
    go_enter Tryd.func20, Tryd.ntmps20
    go_wp2_with fail
    go_ret
    exact ⟨ret_i32 (by unfold smI; split <;> omega), rfl⟩
set_option maxHeartbeats 1000000 in
theorem digit_same (r : Int) (w : World) : Calls Tryd.prog 18 #[.int .i32 r] w fun e w' => e = .returned (.bool (digI r)) ∧ w' = w := by
  rcases (show r < 48 ∨ (48 ≤ r ∧ r ≤ 57) ∨ (48 ≤ r ∧ 57 < r) from by omega) with h | ⟨h, h2⟩ | ⟨h, h2⟩
  all_goals
    go_enter Tryd.func18, Tryd.ntmps18
    go_wp2_with fail
    go_ret
    exact ⟨ret_b (by unfold digI; first | (symm; rw [decide_eq_false_iff_not]; omega) | (symm; rw [decide_eq_true_eq]; omega) | (rw [decide_eq_decide]; omega)), rfl⟩
set_option maxRecDepth 100000 in
set_option maxHeartbeats 4000000 in
theorem reffold_any (s : ByteArray) (hs : s.size ≤ 1000) (w : World) : Calls Tryd.prog 9 #[.string s] w fun e w' => e = .returned (.string (foldB s)) ∧ Below w.heap.size w w' := by
  obtain ⟨v0, W0, hcv, hr, hb0⟩ := rconv s hs w
  have hln := runesG_len s
  have HV := Hid.mk' (foldB_runesB s)
  have HG := Hid.mk' (runesG_rng s)
  generalize runesG s = l at *
  obtain ⟨a, cap, rfl⟩ := hr.form
  have HR := Hid.mk' (And.intro hr hb0)
  clear hr hb0
  go_enter Tryd.func9, Tryd.ntmps9
  go_wp2_with fail
  clear hcv
  go_loopw [4, 5] (fun o i wr => ∃ k : Nat, o = .string (runesBytes ((l.take k).map smI)) ∧ i = .int .i64 k ∧ k ≤ l.length ∧ wr = W0) (fun _ i _ => l.length - (intOf i).toNat)
  case atStart => exact ⟨0, rfl, rfl, by omega, rfl⟩
  case round =>
    obtain ⟨k, rfl, rfl, hk, rfl⟩ := hrel
    by_cases h1 : k < l.length
    · obtain ⟨a', cap', hv, _, _, hc⟩ := HR.out.1
      obtain ⟨b, off, ha, hcell⟩ := hc (fun e => by rw [e] at h1; simp at h1)
      subst ha
      cases hv
      have x0 := hcell k h1
      have hrg := HG.out l[k] (List.getElem_mem h1)
      have C := Hid.mk' (small_any l[k] hrg.1 hrg.2)
      have hx : (runesBytes ((l.take k).map smI)).size ≤ 4000 := by have := runesBytes_size_le ((l.take k).map smI); rw [List.length_map, List.length_take] at this; omega
      have hy := enc_size (smI l[k])
      have HX := Hid.mk' (show runesBytes ((l.take k).map smI) ++ Utf8.encode (smI l[k]) = runesBytes ((l.take (k + 1)).map smI) by rw [List.take_succ_eq_append_getElem h1, List.map_append, List.map_cons, List.map_nil, runesB_snoc])
      have hi1 : (k : Int) < (l.length : Int) := by omega
      clear hcell hc hrg
      generalize runesBytes ((l.take k).map smI) = X at *
      generalize smI l[k] = z at *
      generalize l[k] = r at *
      go_wp2_with fail
      refine (C.out _).mono ?_; rintro e w1 ⟨rfl, rfl⟩
      clear C
      have hsum : ¬ 9223372036854775807 < X.size + (Utf8.encode z).size := by omega
      go_wp2_with fail
      go_roundw
      case rel => exact ⟨k + 1, by rw [HX.out], by go_num, by omega, by first | rfl | trivial⟩
      case measure => simp [intOf]; omega
    · have hkk : k = l.length := by omega
      have hi1 : ¬ (k : Int) < (l.length : Int) := by omega
      go_wp2_with fail
      go_ret
      exact ⟨ret_str (by first | exact HV.out | (rw [hkk, List.take_length]; exact HV.out)), HR.out.2⟩
end Go.Proofs.YtdckdhbnfakleaaDoor
