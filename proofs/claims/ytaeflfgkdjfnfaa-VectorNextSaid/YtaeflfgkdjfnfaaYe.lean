/- Layer 5 (vector): the least vector that knows writes: Of, by the code. -/
import Derived.Test.YtaeflfgkdjfnfaaYd
namespace Go.Proofs.Ytaeflfgkdjfnfaa
open Go.RowKit
open Go.Maps (Keyed)

/-- A slice that reads as dots. -/
def DR (w : World) (v : Value) (l : List (Int × Int)) : Prop :=
  ∃ a cap, v = .slice a l.length cap ∧ (∀ x ∈ l, IW x.1 ∧ IW x.2) ∧ (l ≠ [] → ∃ b off, a = some ⟨b, off, none⟩ ∧ ∀ i (h : i < l.length), w.cell? ⟨b, off + i * 2, none⟩ = some (.int .i64 l[i].1) ∧ w.cell? ⟨b, off + i * 2 + 1, none⟩ = some (.int .i64 l[i].2))
theorem cell_nxd {w w' : World} {p : Addr} {v : Value} (hb : Below w.heap.size w w') (h : w.cell? p = some v) : w'.cell? p = some v := by rw [hb.cell (World.block_lt_of_cell? _ _ h)]; exact h
theorem DR.next {w w' : World} {v : Value} {l : List (Int × Int)} (h : DR w v l) (hb : Below w.heap.size w w') : DR w' v l := by
  obtain ⟨a, cap, hv, hx, hc⟩ := h
  refine ⟨a, cap, hv, hx, fun h0 => ?_⟩
  obtain ⟨b, off, ha, hcell⟩ := hc h0
  exact ⟨b, off, ha, fun i hi => ⟨cell_nxd hb (hcell i hi).1, cell_nxd hb (hcell i hi).2⟩⟩
/-- What a vector has, a write more being learnt. -/
def lrD (D : DataW Unit) (x : Int × Int) : DataW Unit := if rgt x.1 x.2 = true then D.put (.int .i64 x.1) (.lit (.int .i64 (max (gI D x.1) x.2))) else D
def ofD (l : List (Int × Int)) : DataW Unit := l.foldl lrD (.map [])
theorem ofD_snoc (l : List (Int × Int)) (x : Int × Int) : ofD (l ++ [x]) = lrD (ofD l) x := by simp [ofD]
theorem lrD_map {D : DataW Unit} (h : Maps.IsMap D) (x : Int × Int) : Maps.IsMap (lrD D x) := by
  unfold lrD
  split
  · cases D <;> simp_all [Maps.IsMap, DataW.put]
  · exact h
theorem ofD_map (l : List (Int × Int)) : Maps.IsMap (ofD l) := by
  unfold ofD
  suffices ∀ D : DataW Unit, Maps.IsMap D → Maps.IsMap (l.foldl lrD D) from this _ (by simp [Maps.IsMap])
  induction l with
  | nil => intro D h; exact h
  | cons x l ih => intro D h; exact ih _ (lrD_map h x)
/-- How many of a writer's writes are known: the greatest number of a write of his that may be. -/
def ofF (l : List (Int × Int)) (k : Int) : Int := l.foldl (fun a x => if rgt x.1 x.2 = true ∧ x.1 = k then max a x.2 else a) 0
theorem ofF_snoc (l : List (Int × Int)) (x : Int × Int) (k : Int) : ofF (l ++ [x]) k = if rgt x.1 x.2 = true ∧ x.1 = k then max (ofF l k) x.2 else ofF l k := by simp [ofF]
theorem gI_of (l : List (Int × Int)) (k : Int) : gI (ofD l) k = ofF l k := by
  have H : ∀ n (l : List (Int × Int)), l.length = n → gI (ofD l) k = ofF l k := by
    intro n
    induction n with
    | zero => intro l hl; have := List.eq_nil_of_length_eq_zero hl; subst this; rfl
    | succ n ih =>
      intro l hl
      have hne : l ≠ [] := fun e => by rw [e] at hl; simp at hl
      have e := (List.dropLast_concat_getLast hne).symm
      generalize l.dropLast = q at e
      generalize l.getLast hne = x at e
      subst e
      have hq := ih q (by simpa using hl)
      rw [ofD_snoc, ofF_snoc]
      unfold lrD
      by_cases hr : rgt x.1 x.2 = true
      · rw [if_pos hr, gI_put _ (ofD_map q)]
        by_cases hk : k = x.1
        · subst hk
          rw [if_pos rfl, if_pos ⟨hr, rfl⟩, hq]
        · rw [if_neg hk, if_neg (fun h => hk h.2.symm), hq]
      · rw [if_neg hr, if_neg (fun h => hr h.1), hq]
  exact H l.length l rfl
set_option maxRecDepth 100000 in
set_option maxHeartbeats 4000000 in
theorem of_any (v : Value) (l : List (Int × Int)) (hn : l.length ≤ 10000) (w : World) (h : DR w v l) : Calls Try.prog 134 #[v] w fun e w' => ∃ M n, e = .returned (.map (some M)) ∧ VM w' M n (ofD l) ∧ w.heap.size ≤ M ∧ n ≤ l.length ∧ Below w.heap.size w w' := by
  have hmm := @run_makeMap Try.prog
  obtain ⟨a, cap, rfl, hx, _⟩ := id h
  have HR := Hid.mk' h
  have HX := Hid.mk' hx
  clear h hx
  go_enter Try.func134, Try.ntmps134
  go_wp2_with fail
  have START := Hid.mk' (show VM (w.alloc (.map #[] 0)) w.heap.size 0 (ofD (l.take 0)) ∧ Below w.heap.size w (w.alloc (.map #[] 0)) from ⟨World.ownsMap_made w Try.prog 3 _, (Below.refl _ _).alloc (Nat.le_refl _) _⟩)
  go_loopw [9] (fun i wr => ∃ k : Nat, i = .int .i64 k ∧ k ≤ l.length ∧ Hid (VM wr w.heap.size k (ofD (l.take k)) ∧ Below w.heap.size w wr)) (fun i _ => l.length - (intOf i).toNat)
  case atStart => exact ⟨0, rfl, by omega, START⟩
  case round =>
    clear START
    obtain ⟨k, rfl, hk, HP⟩ := hrel
    by_cases h1 : k < l.length
    · obtain ⟨a', cap', hv, _, hc⟩ := HR.out.next HP.out.2
      obtain ⟨b, off, ha, hcell⟩ := hc (fun e => by rw [e] at h1; simp at h1)
      subst ha
      cases hv
      obtain ⟨x0, x1⟩ := hcell k h1
      have hw := HX.out l[k] (List.getElem_mem h1)
      have hi1 : (k : Int) < (l.length : Int) := by omega
      have HT := Hid.mk' (show lrD (ofD (l.take k)) l[k] = ofD (l.take (k + 1)) by rw [List.take_succ_eq_append_getElem h1, ofD_snoc])
      clear hc hcell
      generalize l[k] = p at *
      obtain ⟨pw, pn⟩ := p
      dsimp only at *
      have e1 : Below wr.heap.size wr (wr.alloc (.cells #[.int .i64 pw, .int .i64 pn] 123)) := (Below.refl _ _).alloc (Nat.le_refl _) _
      have C := Hid.mk' (learn_any pw pn hw.1 (wr.alloc (.cells #[.int .i64 pw, .int .i64 pn] 123)) w.heap.size k (ofD (l.take k)) (by omega) (World.ownsMap.alloc HP.out.1 _))
      have HB := Hid.mk' (bnext HP.out.2 e1)
      clear e1 hw
      go_wp2_with fail
      refine C.out.mono ?_; rintro e w3 ⟨rfl, hm3, hg3⟩
      have HQ := Hid.mk' (show VM w3 w.heap.size (k + 1) (ofD (l.take (k + 1))) ∧ Below w.heap.size w w3 from ⟨by rw [← HT.out]; exact hm3, HB.out.grown hg3 HB.out.size (fun j hj => by cases hj; exact Nat.le_refl _)⟩)
      clear hm3 hg3 C
      go_wp2_with fail
      go_roundw
      case rel => exact ⟨k + 1, by go_num, by omega, HQ⟩
      case measure => simp [intOf]; omega
    · have hi1 : ¬ (k : Int) < (l.length : Int) := by omega
      have HF := Hid.mk' (show VM wr w.heap.size k (ofD l) ∧ w.heap.size ≤ w.heap.size ∧ k ≤ l.length ∧ Below w.heap.size w wr from ⟨by have := HP.out.1; rw [List.take_of_length_le (by omega)] at this; exact this, Nat.le_refl _, hk, HP.out.2⟩)
      clear HP
      go_wp2_with fail
      go_ret
      first | exact ⟨_, k, rfl, HF.out⟩ | exact ⟨_, rfl, k, HF.out⟩
end Go.Proofs.Ytaeflfgkdjfnfaa
