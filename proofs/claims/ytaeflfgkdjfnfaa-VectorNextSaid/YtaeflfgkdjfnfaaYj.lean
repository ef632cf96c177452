/- Layer 5 (vector): what is joined and met has, plain facts. -/
import Derived.Test.YtaeflfgkdjfnfaaYi
namespace Go.Proofs.Ytaeflfgkdjfnfaa
open Go.RowKit

theorem foD_map {D : DataW Unit} (h : Maps.IsMap D) : ∀ ys : List (Int × Int), Maps.IsMap (foD D ys) := by
  intro ys
  induction ys generalizing D with
  | nil => exact h
  | cons x ys ih => exact ih (lrD_map h x)
theorem gI_lr {D : DataW Unit} (h : Maps.IsMap D) (x : Int × Int) (k : Int) : gI (lrD D x) k = if rgt x.1 x.2 = true ∧ x.1 = k then max (gI D k) x.2 else gI D k := by
  unfold lrD
  by_cases hr : rgt x.1 x.2 = true
  · rw [if_pos hr, gI_put _ h]
    by_cases hk : k = x.1
    · subst hk
      rw [if_pos rfl, if_pos ⟨hr, rfl⟩]
    · rw [if_neg hk, if_neg (fun h => hk h.2.symm)]
  · rw [if_neg hr, if_neg (fun h => hr h.1)]
theorem has_lr {D : DataW Unit} (h : Maps.IsMap D) (x : Int × Int) (k : Int) : Maps.has (lrD D x) (.int .i64 k) = true ↔ Maps.has D (.int .i64 k) = true ∨ (rgt x.1 x.2 = true ∧ x.1 = k) := by
  unfold lrD
  by_cases hr : rgt x.1 x.2 = true
  · rw [if_pos hr]
    by_cases hk : k = x.1
    · subst hk
      rw [Maps.has_put_same h (by simp [WideAt.IsKeyLit])]
      simp [hr]
    · rw [Maps.has_put_other (fun e => hk (by injection e))]
      simp [Ne.symm hk]
  · rw [if_neg hr]; simp [hr]
/-- A vector as the calls make it: what is there may be, what is not reads as nought. -/
def Good (D : DataW Unit) : Prop := Maps.IsMap D ∧ ∀ k : Int, (Maps.has D (.int .i64 k) = true → rgt k (gI D k) = true) ∧ (Maps.has D (.int .i64 k) = false → gI D k = 0)
theorem rgt_iff (who n : Int) : rgt who n = true ↔ 0 ≤ who ∧ 1 ≤ n ∧ n ≤ 1099511627776 := by unfold rgt; rw [decide_eq_true_eq]
theorem Good.nil : Good (.map []) := ⟨by simp [Maps.IsMap], fun k => ⟨fun h => by simp [Maps.has] at h, fun _ => rfl⟩⟩
theorem Good.lr {D : DataW Unit} (h : Good D) (x : Int × Int) : Good (lrD D x) := by
  refine ⟨lrD_map h.1 x, fun k => ⟨fun hk => ?_, fun hk => ?_⟩⟩
  · rw [gI_lr h.1]
    by_cases hx : rgt x.1 x.2 = true ∧ x.1 = k
    · rw [if_pos hx]
      have hr := (rgt_iff _ _).1 hx.1
      rw [rgt_iff]
      cases hh : Maps.has D (.int .i64 k) with
      | true => have := (rgt_iff _ _).1 ((h.2 k).1 hh); omega
      | false => have := (h.2 k).2 hh; omega
    · rw [if_neg hx]
      rcases (has_lr h.1 x k).1 hk with h1 | h1
      · exact (h.2 k).1 h1
      · exact absurd h1 hx
  · rw [gI_lr h.1]
    have hn : ¬ (Maps.has D (.int .i64 k) = true ∨ (rgt x.1 x.2 = true ∧ x.1 = k)) := fun e => by rw [(has_lr h.1 x k).2 e] at hk; cases hk
    rw [if_neg (fun e => hn (.inr e))]
    refine (h.2 k).2 ?_
    cases hh : Maps.has D (.int .i64 k) with
    | true => exact absurd (.inl hh) hn
    | false => rfl
theorem Good.fo {D : DataW Unit} (h : Good D) : ∀ ys : List (Int × Int), Good (foD D ys) := by
  intro ys
  induction ys generalizing D with
  | nil => exact h
  | cons x ys ih => exact ih (h.lr x)
theorem Good.pos {D : DataW Unit} (h : Good D) (k : Int) : 0 ≤ gI D k := by
  cases hh : Maps.has D (.int .i64 k) with
  | true => have := (rgt_iff _ _).1 ((h.2 k).1 hh); omega
  | false => rw [(h.2 k).2 hh]; exact Int.le_refl _
/-- What is learnt of a listing. -/
theorem gI_fo : ∀ (ys : List (Int × Int)) (D : DataW Unit), Maps.IsMap D → (ys.map (·.1)).Nodup → ∀ k, gI (foD D ys) k = (match ys.find? (fun x => x.1 == k) with | some x => if rgt x.1 x.2 = true then max (gI D k) x.2 else gI D k | none => gI D k)
  | [], D, _, _, k => rfl
  | x :: ys, D, h, hn, k => by
    have e : foD D (x :: ys) = foD (lrD D x) ys := rfl
    rw [List.map_cons, List.nodup_cons] at hn
    rw [e, gI_fo ys (lrD D x) (lrD_map h x) hn.2 k, gI_lr h, List.find?_cons]
    by_cases hk : x.1 = k
    · subst hk
      have hnone : ys.find? (fun y => y.1 == x.1) = none := by
        rw [List.find?_eq_none]
        intro y hy
        simp only [beq_iff_eq]
        exact fun e => hn.1 (List.mem_map.2 ⟨y, hy, e⟩)
      rw [hnone]
      simp
    · have hb : (x.1 == k) = false := by simp [hk]
      rw [hb, if_neg (fun h => hk h.2)]
theorem Lists.find {D : DataW Unit} {ys : List (Int × Int)} (h : Lists D ys) (k : Int) : (Maps.has D (.int .i64 k) = true ∧ ys.find? (fun x => x.1 == k) = some (k, gI D k)) ∨ (Maps.has D (.int .i64 k) = false ∧ ys.find? (fun x => x.1 == k) = none) := by
  cases hf : ys.find? (fun x => x.1 == k) with
  | some x =>
    left
    have hm := List.mem_of_find?_eq_some hf
    have hk := List.find?_some hf
    simp only [beq_iff_eq] at hk
    obtain ⟨a, b⟩ := x
    dsimp only at hk
    subst hk
    have := (h.2.1 _ hm).1
    dsimp only at this
    exact ⟨(h.1 a).2 ⟨b, hm⟩, by rw [this]⟩
  | none =>
    right
    refine ⟨?_, rfl⟩
    cases hh : Maps.has D (.int .i64 k) with
    | false => rfl
    | true =>
      obtain ⟨n, hn⟩ := (h.1 k).1 hh
      rw [List.find?_eq_none] at hf
      have := hf _ hn
      simp at this
/-- What is joined has, of each, the greater number. -/
theorem gI_join {A B : DataW Unit} {ys zs : List (Int × Int)} (hA : Good A) (hB : Good B) (ly : Lists A ys) (lz : Lists B zs) (k : Int) : gI (foD (foD (.map []) ys) zs) k = max (gI A k) (gI B k) := by
  have e1 : gI (foD (.map []) ys) k = gI A k := by
    rw [gI_fo ys _ (by simp [Maps.IsMap]) ly.2.2 k]
    have e0 : gI (.map []) k = 0 := rfl
    rcases ly.find k with ⟨h1, h2⟩ | ⟨h1, h2⟩
    · rw [h2]
      dsimp only
      rw [if_pos ((hA.2 k).1 h1), e0]
      have := hA.pos k
      omega
    · rw [h2]
      dsimp only
      rw [e0, (hA.2 k).2 h1]
  rw [gI_fo zs _ (foD_map (by simp [Maps.IsMap]) ys) lz.2.2 k, e1]
  have pa := hA.pos k
  rcases lz.find k with ⟨h1, h2⟩ | ⟨h1, h2⟩
  · rw [h2]
    dsimp only
    rw [if_pos ((hB.2 k).1 h1)]
  · rw [h2]
    dsimp only
    rw [(hB.2 k).2 h1]
    omega
theorem meetD_fo (B : DataW Unit) (ys : List (Int × Int)) : meetD B ys = foD (.map []) (ys.map fun x => (x.1, min x.2 (gI B x.1))) := by
  unfold meetD foD
  rw [List.foldl_map]
/-- What is met has, of each, the lesser number. -/
theorem gI_meet {A B : DataW Unit} {ys : List (Int × Int)} (hA : Good A) (hB : Good B) (ly : Lists A ys) (k : Int) : gI (meetD B ys) k = min (gI A k) (gI B k) := by
  have hn : ((ys.map fun x => (x.1, min x.2 (gI B x.1))).map (·.1)).Nodup := by rw [List.map_map]; exact ly.2.2
  rw [meetD_fo, gI_fo _ _ (by simp [Maps.IsMap]) hn k, List.find?_map]
  have e0 : gI (.map []) k = 0 := rfl
  have hf : ys.find? ((fun x : Int × Int => x.1 == k) ∘ fun x => (x.1, min x.2 (gI B x.1))) = ys.find? (fun x => x.1 == k) := rfl
  rw [hf]
  have pa := hA.pos k
  have pb := hB.pos k
  rcases ly.find k with ⟨h1, h2⟩ | ⟨h1, h2⟩
  · rw [h2]
    dsimp only [Option.map]
    have hr := (rgt_iff _ _).1 ((hA.2 k).1 h1)
    rw [e0]
    by_cases hc : rgt k (min (gI A k) (gI B k)) = true
    · rw [if_pos hc]; omega
    · rw [if_neg hc]
      rw [rgt_iff] at hc
      omega
  · rw [h2]
    dsimp only [Option.map]
    rw [e0, (hA.2 k).2 h1]
    omega
theorem Good.join {A B : DataW Unit} {ys zs : List (Int × Int)} : Good (foD (foD (.map []) ys) zs) := (Good.nil.fo ys).fo zs
theorem Good.meet (B : DataW Unit) (ys : List (Int × Int)) : Good (meetD B ys) := by rw [meetD_fo]; exact Good.nil.fo _
theorem Good.of (l : List (Int × Int)) : Good (ofD l) := Good.nil.fo l
/-- That one has all of the other. -/
def Cov (A B : DataW Unit) : Prop := ∀ k : Int, gI B k ≤ gI A k
theorem cov_iff {A B : DataW Unit} (hA : Good A) (hB : Good B) : (∀ k : Int, Maps.has B (.int .i64 k) = true → gI B k ≤ gI A k) ↔ Cov A B := by
  constructor
  · intro h k
    cases hh : Maps.has B (.int .i64 k) with
    | true => exact h k hh
    | false => rw [(hB.2 k).2 hh]; exact hA.pos k
  · intro h k _
    exact h k
theorem ret_o {a b : Int} (h : a = b) : Ending.returned (.int .i64 a) = .returned (.int .i64 b) := by rw [h]
set_option maxHeartbeats 2000000 in
theorem compare_any (Ma Mb ma mb : Nat) (A B : DataW Unit) (hma : ma ≤ 100000) (hmb : mb ≤ 100000) (gA : Good A) (gB : Good B) (w : World) (hA : VM w Ma ma A) (hB : VM w Mb mb B) :
    Calls Try.prog 80 #[.map (some Ma), .map (some Mb)] w fun e w' => ∃ o : Int, e = .returned (.int .i64 o) ∧ (o = 0 ↔ Cov A B ∧ Cov B A) ∧ (o = 1 ↔ Cov B A ∧ ¬ Cov A B) ∧ (o = 2 ↔ Cov A B ∧ ¬ Cov B A) ∧ (o = 3 ↔ ¬ Cov A B ∧ ¬ Cov B A) ∧ Below w.heap.size w w' := by
  have C1 := Hid.mk' (covers_any Ma Mb ma mb A B hmb w hA hB)
  have HAB := Hid.mk' (And.intro hA hB)
  have G1 := Hid.mk' (cov_iff gA gB)
  have G2 := Hid.mk' (cov_iff gB gA)
  clear hA hB
  go_enter Try.func80, Try.ntmps80
  go_wp2_with fail
  refine C1.out.mono ?_; rintro e w1 ⟨r1, rfl, h1, hb1⟩
  have H1 := Hid.mk' (And.intro (h1.trans G1.out) hb1)
  have C2 := Hid.mk' (covers_any Mb Ma mb ma B A hma w1 (World.ownsMap.kept HAB.out.2 (gb_below hb1 none) (by simp)) (World.ownsMap.kept HAB.out.1 (gb_below hb1 none) (by simp)))
  clear h1 hb1 C1
  go_wp2_with fail
  refine C2.out.mono ?_; rintro e w2 ⟨r2, rfl, h2, hb2⟩
  have H2 := Hid.mk' (And.intro (h2.trans G2.out) (bnext H1.out.2 hb2))
  clear h2 hb2 C2
  cases r1 <;> cases r2
  all_goals
    have q1 := H1.out.1
    have q2 := H2.out.1
    have Q := Hid.mk' (And.intro q1 q2)
    clear q1 q2
    go_wp2_with fail
    go_ret
    have q1 := Q.out.1
    have q2 := Q.out.2
    refine ⟨_, rfl, ?_, ?_, ?_, ?_, H2.out.2⟩ <;> simp_all
end Go.Proofs.Ytaeflfgkdjfnfaa
