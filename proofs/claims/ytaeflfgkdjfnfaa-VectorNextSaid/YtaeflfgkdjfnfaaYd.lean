/- Layer 5 (vector): the last known writes, rising, in a row: the code's row. -/
import Derived.Test.YtaeflfgkdjfnfaaYc
namespace Go.Proofs.Ytaeflfgkdjfnfaa
open Go.RowKit
open Go.Maps (Keyed)

/-- A row lists what a vector has. -/
def Lists (D : DataW Unit) (es : List (Int × Int)) : Prop :=
  (∀ k : Int, Maps.has D (.int .i64 k) = true ↔ ∃ n, (k, n) ∈ es) ∧ (∀ x ∈ es, gI D x.1 = x.2 ∧ IW x.1 ∧ IW x.2) ∧ (es.map (·.1)).Nodup
theorem Lists.perm {D : DataW Unit} {es fs : List (Int × Int)} (h : Lists D es) (hp : fs.Perm es) : Lists D fs :=
  ⟨fun k => (h.1 k).trans ⟨fun ⟨n, hn⟩ => ⟨n, hp.mem_iff.2 hn⟩, fun ⟨n, hn⟩ => ⟨n, hp.mem_iff.1 hn⟩⟩, fun x hx => h.2.1 x (hp.mem_iff.1 hx), (hp.map _).nodup_iff.2 h.2.2⟩
/-- How far the walk through the map is. -/
def RI (D : DataW Unit) (left : Lit → Bool) (es : List (Int × Int)) : Prop :=
  (∀ k : Int, Maps.has D (.int .i64 k) = true ↔ (left (.int .i64 k) = true ∨ ∃ n, (k, n) ∈ es)) ∧ (∀ x ∈ es, left (.int .i64 x.1) = false ∧ gI D x.1 = x.2 ∧ IW x.1 ∧ IW x.2) ∧ (es.map (·.1)).Nodup
theorem RI.start (D : DataW Unit) : RI D (Maps.has D) [] := ⟨fun k => by simp, (fun x hx => by simp at hx), by simp⟩
theorem RI.step {D : DataW Unit} {left : Lit → Bool} {es : List (Int × Int)} (h : RI D left es) {x c : Int} (hx : left (.int .i64 x) = true) (hat : ∀ zd, D.atKey (.int .i64 x) zd = .lit (.int .i64 c)) (hw : IW x) (hc : IW c) : RI D (fun z => left z && !z.sameKey (.int .i64 x)) (es ++ [(x, c)]) := by
  refine ⟨fun k => ?_, fun y hy => ?_, ?_⟩
  · rw [h.1 k]
    by_cases hk : k = x
    · subst hk
      simp [hx]
    · have : (Lit.int IntKind.i64 k).sameKey (.int .i64 x) = false := by simp [Lit.sameKey, hk]
      simp [this, hk]
  · rcases List.mem_append.1 hy with hy | hy
    · obtain ⟨a, b⟩ := h.2.1 y hy
      exact ⟨by simp [a], b⟩
    · simp at hy
      subst hy
      refine ⟨by simp [Lit.sameKey], ?_, hw, hc⟩
      unfold gI
      rw [hat]
  · rw [List.map_append, List.nodup_append]
    refine ⟨h.2.2, by simp, fun a ha b hb => ?_⟩
    simp at hb
    subst hb
    rintro rfl
    obtain ⟨y, hy, e⟩ := List.mem_map.1 ha
    have := (h.2.1 y hy).1
    rw [e, hx] at this
    cases this
theorem RI.done {D : DataW Unit} {left : Lit → Bool} {es : List (Int × Int)} (h : RI D left es) (hl : ∀ z, left z = false) : Lists D es :=
  ⟨fun k => by rw [h.1 k, hl]; simp, fun x hx => (h.2.1 x hx).2, h.2.2⟩
theorem dot_info : (Try.prog.info? 123).map (fun i => (i.zero, i.size, i.bytes)) = some (some (.agg #[.int .i64 0, .int .i64 0]), 2, 16) := by kernel_rfl
theorem ranges_own {w w' : World} {M r m B cnt sz n : Nat} {D : DataW Unit} {left : Lit → Bool} {e : TypeId} {v : Value} {xs : List Value} (h : w.ranges Try.prog 3 (plainElem Try.prog 3) M r m D left cnt) (ho : w.ownsRow B e sz v n xs) (hg : w.grownBy w' v.ownBlock) : w'.ranges Try.prog 3 (plainElem Try.prog 3) M r m D left cnt := by
  refine h.kept hg (fun e1 => ?_) (fun e1 => ?_)
  · obtain ⟨es, clock, hb, _⟩ := h.owns
    rcases ho.2 with ⟨rfl, _⟩ | ⟨g, cap, cur, rfl, _, hcur, _⟩
    · simp [Value.ownBlock] at e1
    · simp [Value.ownBlock] at e1
      subst e1
      rw [hb] at hcur
      cases hcur
  · obtain ⟨es, clock, since, seen, c0, _, _, _, _, hi, _⟩ := h
    rcases ho.2 with ⟨rfl, _⟩ | ⟨g, cap, cur, rfl, _, hcur, _⟩
    · simp [Value.ownBlock] at e1
    · simp [Value.ownBlock] at e1
      subst e1
      rw [hi] at hcur
      cases hcur
theorem row_iter {w : World} {M r m B cnt sz n : Nat} {D : DataW Unit} {left : Lit → Bool} {e : TypeId} {v : Value} {xs : List Value} (h : w.ranges Try.prog 3 (plainElem Try.prog 3) M r m D left cnt) (ho : w.ownsRow B e sz v n xs) : v.ownBlock ≠ some r := by
  obtain ⟨es, clock, since, seen, c0, _, _, _, _, hi, _⟩ := h
  rcases ho.2 with ⟨rfl, _⟩ | ⟨g, cap, cur, rfl, _, hcur, _⟩
  · simp [Value.ownBlock]
  · intro e1
    simp [Value.ownBlock] at e1
    subst e1
    rw [hi] at hcur
    cases hcur
set_option maxRecDepth 100000 in
set_option maxHeartbeats 8000000 in
theorem row_any (w : World) (M m : Nat) (D : DataW Unit) (hm : m ≤ 100000) (h : VM w M m D) : Calls Try.prog 178 #[.map (some M)] w fun e w' => ∃ v T, e = .returned v ∧ DO w' w.heap.size v T ∧ Lists D T ∧ Up T ∧ Below w.heap.size w w' ∧ T.length ≤ m := by
  obtain ⟨i0, hi0, hz0, hz1, hz2⟩ := info_parts dot_info
  have HI := Hid.mk' (And.intro hi0 (And.intro hz0 (And.intro hz1 hz2)))
  have hsz : Maps.size D ≤ m := World.ownsMap.size_le h
  have hlen := World.ownsMap.len h Try.underlying116 3
  have H := Hid.mk' h
  obtain ⟨z, hzz⟩ : ∃ z, Maps.size D = z := ⟨_, rfl⟩
  have HZ := Hid.mk' hzz
  rw [hzz] at hsz hlen
  have hmk : i0.bytes * z ≤ 281474976710656 := by rw [hz2]; omega
  clear h hzz hi0 hz0 hz1 hz2
  go_enter Try.func178, Try.ntmps178
  go_wp2_with (at_make; refine wpList_make_own _ rfl _ _ 114 rfl w.heap.size 123 i0 (.agg #[.int .i64 0, .int .i64 0]) 2 Try.underlying114 HI.out.1 HI.out.2.1 HI.out.2.2.1 .i64 .i64 _ z rfl rfl (by omega) hmk (by unfold maxLen; omega) (Nat.le_refl _) ?_)
  intro w0 hown0 hgr0
  have hb0 : Below w.heap.size w w0 := (Below.refl _ _).grown hgr0 (Nat.le_refl _) (fun k hk => by cases hk)
  have HV := Hid.mk' (show VM w0 M m D from World.ownsMap.kept H.out hgr0 (by simp))
  have HO := Hid.mk' (And.intro hown0 hb0)
  clear hgr0 hmk hown0 hb0 hlen
  go_wp2_with (at_range; refine wpList_range_own _ rfl _ 116 rfl 3 3 intLaw Try.underlying116 _ M m D rfl HV.out ?_; intro w1 hrg1 hg1 hs1)
  go_frame
  obtain ⟨r, hr⟩ : ∃ r, w0.heap.size = r := ⟨_, rfl⟩
  rw [hr] at hrg1 ⊢
  rw [HZ.out] at hrg1
  have hbl : Below w0.heap.size w0 w1 := (Below.refl _ _).grown hg1 (Nat.le_refl _) (fun j hj => by cases hj)
  have START := Hid.mk' (show DO w1 w.heap.size (.slice (some ⟨w.heap.size, 0, none⟩) 0 z) [] ∧ Below w.heap.size w w1 ∧ RI D (Maps.has D) [] ∧ w.heap.size ≤ r from ⟨own_next HO.out.1 hbl, bnext HO.out.2 hbl, RI.start D, by rw [← hr]; exact HO.out.2.size⟩)
  clear hg1 hs1 hbl hr
  go_loopw [3] (fun v wr => ∃ (g cap : Nat) (es : List (Int × Int)) (left : Lit → Bool) (cnt : Nat), v = .slice (some ⟨g, 0, none⟩) es.length cap ∧ wr.ranges Try.prog 3 (plainElem Try.prog 3) M r m D left cnt ∧ es.length + cnt ≤ z ∧ Hid (DO wr w.heap.size v es ∧ Below w.heap.size w wr ∧ RI D left es ∧ w.heap.size ≤ r)) (fun _ wr => wr.rangeLeft M r)
  case atStart => exact ⟨_, _, [], _, _, rfl, hrg1, by simp, START⟩
  case round =>
    clear START hrg1
    obtain ⟨g, cap, es, left, cnt, rfl, hrg, hcnt, HP⟩ := hrel
    have HRG := Hid.mk' hrg
    go_wp2_with (at_next; refine wpList_next_ranges_ii _ rfl _ rfl 3 3 .i64 .i64 intLaw Try.underlying3 Try.underlying3 M r m D left cnt rfl hrg ?_ ?_)
    · intro hc0 hl0
      have HL := Hid.mk' (RI.done HP.out.2.2.1 hl0)
      have C := Hid.mk' (sortdots_any w.heap.size g cap es (by omega) wr HP.out.1)
      clear hrg hl0
      go_wp2_with fail
      refine C.out.mono ?_; rintro e w4 ⟨rfl, T, hp, hu, hd, hg⟩
      have hgB : w.heap.size ≤ g := by
        rcases HP.out.1.2 with ⟨hv, _⟩ | ⟨g', cap', cur, hv, hb, _⟩
        · cases hv
        · cases hv; exact hb
      have HF := Hid.mk' (show DO w4 w.heap.size (.slice (some ⟨g, 0, none⟩) es.length cap) T ∧ Lists D T ∧ Up T ∧ Below w.heap.size w w4 ∧ T.length ≤ m from ⟨hd, HL.out.perm hp, hu, HP.out.2.1.grown hg HP.out.2.1.size (fun k hk => by cases hk; exact hgB), by rw [hp.length_eq]; omega⟩)
      clear hp hu hd hg hgB C
      go_wp2_with fail
      go_ret
      exact ⟨_, T, rfl, HF.out⟩
    · intro x c w2 cnt2 hwx hwc hlk hat hrg2 hlt hg2 hs2 hen
      have hd2 : DO w2 w.heap.size (.slice (some ⟨g, 0, none⟩) es.length cap) es := World.ownsRow.kept HP.out.1 hg2 (.inr (row_iter HRG.out HP.out.1))
      have hb2 : Below w.heap.size w w2 := HP.out.2.1.grown hg2 HP.out.2.1.size (fun k hk => by cases hk; exact HP.out.2.2.2)
      have HS := Hid.mk' (RI.step HP.out.2.2.1 hlk hat hwx hwc)
      have HQ := Hid.mk' (And.intro hd2 (And.intro hb2 (And.intro hrg2 hlt)))
      have hszb := hb2.size
      clear hrg hrg2 hlk hat hg2 hs2 hd2 hb2 hwx hwc
      go_wp2_with (at_builtin; refine wpList_append_own _ rfl (.tmp 16) (.tmp 20) 114 rfl w.heap.size 123 i0 _ 2 16 Try.underlying114 HI.out.1 HI.out.2.1 HI.out.2.2.1 HI.out.2.2.2 rfl (by decide) _ es.length (flatD es) rfl (World.ownsRow.alloc HQ.out.1 _) ⟨w2.heap.size, 0, none⟩ 1 1 [.int .i64 x, .int .i64 c] rfl rfl ?c1 ?c2 ?c3 ?c4 ?c5 ?_)
      try case c1 => exact World.news_of_block (cs := #[.int .i64 x, .int .i64 c]) (t := 123) (fr := (0, 0)) (heap_alloc_new w2 _)
      case c2 => simp [Value.oneCell']
      case c3 => simp only [maxLen]; omega
      case c4 => omega
      case c5 => first | omega | (simp; omega)
      intro v4 W4 hown4 hgr4 hnil
      have e1 : Below w2.heap.size w2 (w2.alloc (.cells #[.int .i64 x, .int .i64 c] 123)) := (Below.refl _ _).alloc (Nat.le_refl _) _
      have hOA : DO (w2.alloc (.cells #[.int .i64 x, .int .i64 c] 123)) w.heap.size (.slice (some ⟨g, 0, none⟩) es.length cap) es := own_next HQ.out.1 e1
      have hd4 : DO W4 w.heap.size v4 (es ++ [(x, c)]) := by unfold DO; rw [List.length_append, flatD_snoc]; exact hown4
      obtain ⟨g4, cap4, hv4⟩ : ∃ g4 cap4, v4 = .slice (some ⟨g4, 0, none⟩) (es ++ [(x, c)]).length cap4 := by
        rcases hd4.2 with ⟨hv, hl⟩ | ⟨g', cap', cur, hv, _⟩
        · simp at hl
        · exact ⟨g', cap', hv⟩
      have HF := Hid.mk' (show DO W4 w.heap.size v4 (es ++ [(x, c)]) ∧ Below w.heap.size w W4 ∧ RI D (fun z => left z && !z.sameKey (.int .i64 x)) (es ++ [(x, c)]) ∧ w.heap.size ≤ r from ⟨hd4, (bnext HQ.out.2.1 e1).grown hgr4 (bnext HQ.out.2.1 e1).size (fun k hk => (hOA.lt k hk).1), HS.out, HP.out.2.2.2⟩)
      have HR4 := Hid.mk' (ranges_own (World.ranges.alloc HQ.out.2.2.1 (.cells #[.int .i64 x, .int .i64 c] 123)) hOA hgr4)
      subst hv4
      clear hown4 hgr4 hnil e1 hOA hd4
      go_wp2_with fail
      go_roundw
      case rel => exact ⟨g4, cap4, _, _, cnt2, rfl, HR4.out, by rw [List.length_append]; simp only [List.length_cons, List.length_nil]; omega, HF⟩
      case measure => rw [HR4.out.left_eq, HRG.out.left_eq]; exact HQ.out.2.2.2
end Go.Proofs.Ytaeflfgkdjfnfaa
