/- Layer 36 (diffs): along, Diff. -/
import Derived.Test.YtkkhljneeajkmaaB6
import Derived.Maps.AppendAt
import Derived.Deep.RegionLaw
namespace Go.Proofs.Ytkkhljneeajkmaa
open Go.RowKit
attribute [local irreducible] wpQuiet

theorem run_func0 (f : FuncId) (xs : Array Value) (w : World) : (callFunc f xs).run Try.prog w = (callFunc f xs).run Try.prog w := rfl
/-- Two slices do not lie in one block. -/
def Dis (v u : Value) : Prop := ∀ k, v.ownBlock = some k → u.ownBlock ≠ some k
theorem Dis.symm {v u : Value} (h : Dis v u) : Dis u v := fun k hk he => h k he hk
theorem Dis.nil (u : Value) : Dis (.slice none 0 0) u := fun k hk => by simp [Value.ownBlock] at hk
theorem Dis.or {v u : Value} (h : Dis v u) : u.ownBlock = none ∨ u.ownBlock ≠ v.ownBlock := by
  cases hu : u.ownBlock with
  | none => exact .inl rfl
  | some k => exact .inr (fun e => h k e.symm hu)
/-- The three rows of along. -/
structure AL (w W : World) (v1 v2 v3 : Value) (l1 l2 l3 : List En) : Prop where
  o1 : EO W w.heap.size v1 l1
  o2 : EO W w.heap.size v2 l2
  o3 : EO W w.heap.size v3 l3
  d12 : Dis v1 v2
  d13 : Dis v1 v3
  d23 : Dis v2 v3
  bel : Below w.heap.size w W
theorem AL.next {w W W' : World} {v1 v2 v3 : Value} {l1 l2 l3 : List En} (h : AL w W v1 v2 v3 l1 l2 l3) (hb : Below W.heap.size W W') : AL w W' v1 v2 v3 l1 l2 l3 :=
  ⟨h.o1.next hb, h.o2.next hb, h.o3.next hb, h.d12, h.d13, h.d23, bnext h.bel hb⟩
theorem AL.start (w : World) : AL w w (.slice none 0 0) (.slice none 0 0) (.slice none 0 0) [] [] [] := ⟨EO.nil _ _, EO.nil _ _, EO.nil _ _, Dis.nil _, Dis.nil _, Dis.nil _, Below.refl _ _⟩
theorem Dis.grown {W : World} {B H g n cap : Nat} {v u : Value} {l : List En} (h : Dis v u) (hu : EO W B u l) (hH : W.heap.size ≤ H) (hat : v.ownBlock = some g ∨ g = H) : Dis (.slice (some ⟨g, 0, none⟩) n cap) u := by
  intro k hk
  simp [Value.ownBlock] at hk
  subst hk
  rcases hat with h1 | h1
  · exact h _ h1
  · intro he
    have := (World.ownsRow.lt hu _ he).2
    omega
theorem AL.rot {w W : World} {v1 v2 v3 : Value} {l1 l2 l3 : List En} (h : AL w W v1 v2 v3 l1 l2 l3) : AL w W v2 v1 v3 l2 l1 l3 := ⟨h.o2, h.o1, h.o3, h.d12.symm, h.d23, h.d13, h.bel⟩
theorem AL.rot3 {w W : World} {v1 v2 v3 : Value} {l1 l2 l3 : List En} (h : AL w W v1 v2 v3 l1 l2 l3) : AL w W v3 v2 v1 l3 l2 l1 := ⟨h.o3, h.o2, h.o1, h.d23.symm, h.d13.symm, h.d12.symm, h.bel⟩
/-- Something is appended to the first row. -/
theorem AL.app {w W W' : World} {H g n cap : Nat} {v1 v2 v3 : Value} {l1 l2 l3 l1' : List En} (h : AL w W v1 v2 v3 l1 l2 l3) (hO : EO W' w.heap.size (.slice (some ⟨g, 0, none⟩) n cap) l1') (hg : W.grownBy W' v1.ownBlock) (hH : W.heap.size ≤ H) (hat : v1.ownBlock = some g ∨ g = H) :
    AL w W' (.slice (some ⟨g, 0, none⟩) n cap) v2 v3 l1' l2 l3 :=
  ⟨hO, World.ownsRow.kept h.o2 hg h.d12.or, World.ownsRow.kept h.o3 hg h.d13.or, h.d12.grown h.o2 hH hat, h.d13.grown h.o3 hH hat, h.d23, EO.grown h.bel h.o1 (Nat.le_refl _) hg⟩
/-- The rest of a row that is read. -/
theorem EI.tail {w : World} {b off n c : Nat} {x : En} {L : List En} (h : EI w (.slice (some ⟨b, off, none⟩) n c) (x :: L)) : n = L.length + 1 ∧ L.length + 1 ≤ c ∧ EC w b off x ∧ ∀ a, (L ≠ [] → a = (⟨b, off + 4, none⟩ : Addr)) → EI w (.slice (some a) L.length (c - 1)) L := by
  obtain ⟨a', cap', hv, hcap, hn, hc⟩ := h
  obtain ⟨b', off', hab, hcell⟩ := hc (by simp)
  cases hv
  cases hab
  simp only [List.length_cons] at hcap
  have h0 := hcell 0 (by simp)
  rw [Nat.zero_mul, Nat.add_zero] at h0
  refine ⟨by simp, hcap, h0, fun a ha => ⟨_, _, rfl, by omega, fun h => (by cases h), fun hL => ⟨b, off + 4, by rw [ha hL], fun i hi => ?_⟩⟩⟩
  have := hcell (i + 1) (by simp; omega)
  rw [show off + (i + 1) * 4 = off + 4 + i * 4 from by omega] at this
  simpa using this
theorem wpList_appL {X : World} {ops : Array Oper} {rest : List Oper} {o : Oper} {a : Act} {Q : Exit → Act → World → Prop} (hgd : o.guard = none) (s x : Operand)
    (ho : o.op = .call { callee := .builtin .append, args := #[s, x], argTypes := #[67, 67] }) (xg : Nat) (hxg : X.heap.size = xg)
    (base : Nat) (v : Value) (L : List En) (p : En) (hs : a.eval s = v) (hx : a.eval x = .slice (some ⟨xg, 0, none⟩) 1 1) (hown : EO X base v L) (hm : L.length ≤ 100000) (hbase : base ≤ X.heap.size)
    (h : ∀ g cap w', EO w' base (.slice (some ⟨g, 0, none⟩) (L.length + 1) cap) (L ++ [p]) → X.grownBy w' v.ownBlock → (v.ownBlock = some g ∨ g = X.heap.size + 1) → wpList Try.prog ops Q rest (a.put o.dst (.slice (some ⟨g, 0, none⟩) (L.length + 1) cap)) w') : wpList Try.prog ops Q (o :: rest) a (X.alloc (.cells #[.string p.key, .int .i64 p.st.x, .int .i64 p.st.y, .int .i64 p.st.z] 72)) := by
  subst hxg
  obtain ⟨i0, hi, hz0, hz1, hz2⟩ := info_parts e_info
  refine wpList_append_lies _ hgd s x 67 ho base 72 i0 _ 4 40 Try.underlying67 hi hz0 hz1 hz2 rfl (by decide) v L.length (flatE L) hs (hown.alloc _) ⟨X.heap.size, 0, none⟩ 1 1 [.string p.key, .int .i64 p.st.x, .int .i64 p.st.y, .int .i64 p.st.z] hx rfl ?_ ?_ (by omega) ?_ ?_ (by rw [World.size_alloc]; omega) (X.heap.size + 1) (World.size_alloc _ _) ?_
  · exact World.news_of_block (cs := #[.string p.key, .int .i64 p.st.x, .int .i64 p.st.y, .int .i64 p.st.z]) (t := 72) (fr := (0, 0)) (heap_alloc_new _ _)
  · simp [Value.oneCell']
  · simp only [maxLen]; omega
  · omega
  · intro g cap w' ho' hg' hat _
    refine h g cap w' ?_ (gb_trans (gb_alloc _ _ _) hg') hat
    unfold EO
    rw [List.length_append, flatE_app]
    exact ho'
/-- What reads as entries is appended to a row of the call's own. -/
theorem wpList_appS {w : World} {ops : Array Oper} {rest : List Oper} {o : Oper} {a : Act} {Q : Exit → Act → World → Prop} (hgd : o.guard = none) (s x : Operand)
    (ho : o.op = .call { callee := .builtin .append, args := #[s, x], argTypes := #[67, 67] })
    (base : Nat) (v vx : Value) (L M : List En) (hs : a.eval s = v) (hx : a.eval x = vx) (hown : EO w base v L) (hbs : EI w vx M) (hm : L.length + M.length ≤ 100000) (hbase : base ≤ w.heap.size)
    (h : ∀ v' w', EO w' base v' (L ++ M) → w.grownBy w' v.ownBlock → (v'.ownBlock = v.ownBlock ∨ v'.ownBlock = some w.heap.size) → wpList Try.prog ops Q rest (a.put o.dst v') w') : wpList Try.prog ops Q (o :: rest) a w := by
  obtain ⟨i0, hi, hz0, hz1, hz2⟩ := info_parts e_info
  obtain ⟨ax, cap, rfl, hle, hn, hc⟩ := hbs
  cases ax with
  | none =>
    have hc0 := hn rfl
    have hl : M = [] := by apply List.eq_nil_of_length_eq_zero; omega
    subst hl
    subst hc0
    refine wpList_append_own_none hgd s x 67 ho base 72 i0 4 Try.underlying67 hi v L.length (flatE L) hs hown hx ?_
    refine h v w ?_ ⟨rfl, rfl, rfl, Nat.le_refl _, fun _ _ _ => rfl⟩ (.inl rfl)
    rw [List.append_nil]; exact hown
  | some ad =>
    refine wpList_append_own_at _ hgd s x 67 ho base 72 i0 _ 4 40 Try.underlying67 hi hz0 hz1 hz2 rfl (by decide) v L.length (flatE L) hs hown ad M.length cap (flatE M) hx (by rw [flatE_len]) ?_ (flatE_one M) (by unfold maxLen; omega) (by omega) hbase ?_
    · intro j u hu
      by_cases hM : M = []
      · subst hM; simp [flatE] at hu
      · obtain ⟨b, off, hab, hcell⟩ := hc hM
        cases hab
        exact EI.flat hcell j u hu
    · intro v' w' hown' hgr' _ hat
      refine h v' w' ?_ hgr' hat
      unfold EO
      rw [flatE_app, List.length_append]
      exact hown'
theorem step_appL {X : World} {ops : Array Oper} {o : Oper} {a : Act} {K : Act → World → Prop} {Q : Exit → Act → World → Prop} {E : Prop} (hgd : o.guard = none) (s x : Operand)
    (ho : o.op = .call { callee := .builtin .append, args := #[s, x], argTypes := #[67, 67] }) (xg : Nat) (hxg : X.heap.size = xg)
    (base : Nat) (v : Value) (L : List En) (p : En) (hs : a.eval s = v) (hx : a.eval x = .slice (some ⟨xg, 0, none⟩) 1 1) (hown : EO X base v L) (hm : L.length ≤ 100000) (hbase : base ≤ X.heap.size)
    (h : ∀ g cap w', EO w' base (.slice (some ⟨g, 0, none⟩) (L.length + 1) cap) (L ++ [p]) → X.grownBy w' v.ownBlock → (v.ownBlock = some g ∨ g = X.heap.size + 1) → K (a.put o.dst (.slice (some ⟨g, 0, none⟩) (L.length + 1) cap)) w') :
    if Region.wanted o (yielded ops a.tmps) = true then Oper.wp Try.prog o a (X.alloc (.cells #[.string p.key, .int .i64 p.st.x, .int .i64 p.st.y, .int .i64 p.st.z] 72)) K Q else E := by
  subst hxg
  obtain ⟨i0, hi, hz0, hz1, hz2⟩ := info_parts e_info
  refine step_append_lies _ hgd s x 67 ho base 72 i0 _ 4 40 Try.underlying67 hi hz0 hz1 hz2 rfl (by decide) v L.length (flatE L) hs (hown.alloc _) ⟨X.heap.size, 0, none⟩ 1 1 [.string p.key, .int .i64 p.st.x, .int .i64 p.st.y, .int .i64 p.st.z] hx rfl ?_ ?_ (by omega) ?_ ?_ (by rw [World.size_alloc]; omega) (X.heap.size + 1) (World.size_alloc _ _) ?_
  · exact World.news_of_block (cs := #[.string p.key, .int .i64 p.st.x, .int .i64 p.st.y, .int .i64 p.st.z]) (t := 72) (fr := (0, 0)) (heap_alloc_new _ _)
  · simp [Value.oneCell']
  · simp only [maxLen]; omega
  · omega
  · intro g cap w' ho' hg' hat _
    refine h g cap w' ?_ (gb_trans (gb_alloc _ _ _) hg') hat
    unfold EO
    rw [List.length_append, flatE_app]
    exact ho'
theorem AL.appat {w W W' : World} {H : Nat} {v' v1 v2 v3 : Value} {l1 l2 l3 l1' : List En} (h : AL w W v1 v2 v3 l1 l2 l3) (hO : EO W' w.heap.size v' l1') (hg : W.grownBy W' v1.ownBlock) (hH : W.heap.size ≤ H) (hat : v'.ownBlock = v1.ownBlock ∨ v'.ownBlock = some H) :
    AL w W' v' v2 v3 l1' l2 l3 := by
  have dis : ∀ {u : Value} {l : List En}, Dis v1 u → EO W w.heap.size u l → Dis v' u := fun hd hu k hk => by
    rcases hat with h1 | h1
    · exact hd k (by rw [← h1]; exact hk)
    · intro he
      rw [h1] at hk
      cases hk
      have := (World.ownsRow.lt hu _ he).2
      omega
  exact ⟨hO, World.ownsRow.kept h.o2 hg h.d12.or, World.ownsRow.kept h.o3 hg h.d13.or, dis h.d12 h.o2, dis h.d13 h.o3, h.d23, EO.grown h.bel h.o1 (Nat.le_refl _) hg⟩
/-- What along, Diff answer. -/
def DfR (L M N : List En) (B : Nat) (e : Ending) (w' : World) : Prop := ∃ v1 v2 v3, e = .returned (.tuple #[v1, v2, v3]) ∧ EO w' B v1 L ∧ EO w' B v2 M ∧ EO w' B v3 N
set_option maxRecDepth 100000 in
set_option maxHeartbeats 16000000 in
theorem along_any (va vb : Value) (A B : List En) (hA : Up A) (hB : Up B) (hla : A.length ≤ 1000) (hlb : B.length ≤ 1000) (w : World) (h1 : EI w va A) (h2 : EI w vb B) :
    Calls Try.prog 78 #[va, vb, .func (.func 36) #[] #[]] w fun r w' => DfR (lessS A B false) (lessS B A false) (lessS A B true) w.heap.size r w' ∧ Below w.heap.size w w' := by
  have H0 := Lib.hid (AL.start w)
  have HLA := Lib.hid (show (lessS A B false).length ≤ 1000 ∧ (lessS B A false).length ≤ 1000 ∧ (lessS A B true).length ≤ 1000 from ⟨Nat.le_trans (less_len _ _ _) hla, Nat.le_trans (less_len _ _ _) hlb, Nat.le_trans (less_len _ _ _) hla⟩)
  have HFA := Lib.hid (rfl : lessS A B false = lessS A B false)
  have HI := Lib.hid (And.intro h1 h2)
  have HU := Lib.hid (And.intro hA hB)
  obtain ⟨aa, ca, rfl⟩ := h1.form
  obtain ⟨ab, cb, rfl⟩ := h2.form
  clear h1 h2 HFA
  go_enter Try.func78, Try.ntmps78
  go_wp2_with fail
  go_loopg [0, 1, 6, 7, 8] (A.length + B.length) (fun g v0 v1 v6 v7 v8 wr => ∃ (a b j1 j2 j3 : List En) (wa wb w6 w7 w8 : Value), v0 = wa ∧ v1 = wb ∧ v6 = w6 ∧ v7 = w7 ∧ v8 = w8 ∧ Hid (g = a.length + b.length) ∧ Hid (AL w wr w6 w7 w8 j1 j2 j3) ∧ Hid (EI w wa a ∧ EI w wb b) ∧ Hid (Up a ∧ Up b) ∧ Hid (a.length ≤ 1000 ∧ b.length ≤ 1000) ∧ Hid (j1.length ≤ 1000 ∧ j2.length ≤ 1000 ∧ j3.length ≤ 1000) ∧ Hid (j1 ++ lessS a b false = lessS A B false ∧ j2 ++ lessS b a false = lessS B A false ∧ j3 ++ lessS a b true = lessS A B true))
  case atStart => exact ⟨A, B, [], [], [], _, _, _, _, _, rfl, rfl, rfl, rfl, rfl, Lib.hid rfl, H0, HI, HU, Lib.hid ⟨hla, hlb⟩, Lib.hid ⟨by simp, by simp, by simp⟩, Lib.hid ⟨rfl, rfl, rfl⟩⟩
  case round =>
    obtain ⟨a, b, j1, j2, j3, wa, wb, w6, w7, w8, rfl, rfl, rfl, rfl, rfl, HG, HS, HE, HU2, HL, HJ, HR⟩ := hrel
    clear H0 HI HU
    obtain ⟨a6, c6, rfl⟩ := HS.out.o1.form
    obtain ⟨a7, c7, rfl⟩ := HS.out.o2.form
    obtain ⟨a8, c8, rfl⟩ := HS.out.o3.form
    obtain ⟨aa, ca, rfl⟩ := HE.out.1.form
    obtain ⟨ab, cb, rfl⟩ := HE.out.2.form
    cases a with
    | nil =>
      have HF := Lib.hid (show j1 ++ ([] : List En) = lessS A B false ∧ j2 ++ b = lessS B A false ∧ j3 = lessS A B true from by
        have := HR.out
        simp only [less_nil, (less_all _).1, (less_all _).2, List.append_nil] at this ⊢
        exact this)
      have hz : ¬ (0 < (0 : Int)) := by omega
      go_wp2_with (at_builtin; refine wpList_appS rfl (.tmp 58) (.tmp 59) rfl w.heap.size _ _ j1 (([] : List En)) rfl rfl HS.out.o1 (HE.out.1.next HS.out.bel) ?c1 ?c2 ?_)
      case c1 => have h8 := HJ.out; have h9 := HL.out; simp only [List.length_cons, List.length_nil] at h9 ⊢; omega
      case c2 => exact HS.out.bel.size
      intro v5 w5 hO5 hg5 hat5
      have HS5 := Lib.hid (HS.out.appat hO5 hg5 (Nat.le_refl _) hat5)
      clear hO5 hg5 hat5
      go_wp2_with (at_builtin; refine wpList_appS rfl (.tmp 61) (.tmp 62) rfl w.heap.size _ _ j2 (b) rfl rfl HS5.out.o2 (HE.out.2.next HS5.out.bel) ?c3 ?c4 ?_)
      case c3 => have h8 := HJ.out; have h9 := HL.out; simp only [List.length_cons, List.length_nil] at h9 ⊢; omega
      case c4 => exact HS5.out.bel.size
      intro v6 w6 hO6 hg6 hat6
      have HS6 := Lib.hid (HS5.out.rot.appat hO6 hg6 (Nat.le_refl _) hat6)
      clear hO6 hg6 hat6
      go_wp2_with fail
      go_ret3
      exact ⟨show DfR _ _ _ _ _ _ from ⟨_, _, _, rfl, by have h9 := HS6.out.o2; rw [← HF.out.1]; (try rw [List.append_nil]); (try rw [List.append_nil] at h9); exact h9, by have h9 := HS6.out.o1; rw [← HF.out.2.1]; (try rw [List.append_nil]); (try rw [List.append_nil] at h9); exact h9, by rw [← HF.out.2.2]; exact HS6.out.o3⟩, HS6.out.bel⟩
    | cons x a =>
      cases b with
      | nil =>
        have la1 : (0 : Int) < (a.length : Int) + 1 := by omega
        have HF := Lib.hid (show j1 ++ x :: a = lessS A B false ∧ j2 ++ ([] : List En) = lessS B A false ∧ j3 = lessS A B true from by
          have := HR.out
          simp only [less_nil, (less_all _).1, (less_all _).2, List.append_nil] at this ⊢
          exact this)
        have hz : ¬ (0 < (0 : Int)) := by omega
        go_wp2_with (at_builtin; refine wpList_appS rfl (.tmp 58) (.tmp 59) rfl w.heap.size _ _ j1 (x :: a) rfl rfl HS.out.o1 (HE.out.1.next HS.out.bel) ?c1 ?c2 ?_)
        case c1 => have h8 := HJ.out; have h9 := HL.out; simp only [List.length_cons, List.length_nil] at h9 ⊢; omega
        case c2 => exact HS.out.bel.size
        intro v5 w5 hO5 hg5 hat5
        have HS5 := Lib.hid (HS.out.appat hO5 hg5 (Nat.le_refl _) hat5)
        clear hO5 hg5 hat5
        go_wp2_with (at_builtin; refine wpList_appS rfl (.tmp 61) (.tmp 62) rfl w.heap.size _ _ j2 (([] : List En)) rfl rfl HS5.out.o2 (HE.out.2.next HS5.out.bel) ?c3 ?c4 ?_)
        case c3 => have h8 := HJ.out; have h9 := HL.out; simp only [List.length_cons, List.length_nil] at h9 ⊢; omega
        case c4 => exact HS5.out.bel.size
        intro v6 w6 hO6 hg6 hat6
        have HS6 := Lib.hid (HS5.out.rot.appat hO6 hg6 (Nat.le_refl _) hat6)
        clear hO6 hg6 hat6
        go_wp2_with fail
        go_ret3
        exact ⟨show DfR _ _ _ _ _ _ from ⟨_, _, _, rfl, by have h9 := HS6.out.o2; rw [← HF.out.1]; (try rw [List.append_nil]); (try rw [List.append_nil] at h9); exact h9, by have h9 := HS6.out.o1; rw [← HF.out.2.1]; (try rw [List.append_nil]); (try rw [List.append_nil] at h9); exact h9, by rw [← HF.out.2.2]; exact HS6.out.o3⟩, HS6.out.bel⟩
      | cons y b =>
        obtain ⟨ba, oa, hba, _⟩ := HE.out.1.at_ 0 (by simp)
        obtain ⟨bb, ob, hbb, _⟩ := HE.out.2.at_ 0 (by simp)
        subst hba
        subst hbb
        have HTA := Lib.hid (fun W (hW : Below w.heap.size w W) => (HE.out.1.next hW).tail)
        have HTB := Lib.hid (fun W (hW : Below w.heap.size w W) => (HE.out.2.next hW).tail)
        obtain ⟨_, hca, ⟨x0, x1, x2, x3⟩, _⟩ := HTA.out _ HS.out.bel
        obtain ⟨_, hcb, ⟨y0, y1, y2, y3⟩, _⟩ := HTB.out _ HS.out.bel
        have CC := Lib.hid (fun W => ecompare_any x y W)
        have HEQ := Lib.hid (@cmpE_eq x y)
        have HAN := Lib.hid (to_e.anti x y)
        have HLT := Lib.hid (fun h => @along_lt x y a b HU2.out.2 h)
        have HGT := Lib.hid (fun h => @along_lt y x b a HU2.out.1 h)
        have HSA := Lib.hid (fun (h : x = y) => @along_eq x a b HU2.out.1 (by have := HU2.out.2; rwa [← h] at this))
        have HUA := Lib.hid (And.intro (List.pairwise_cons.1 HU2.out.1).2 (List.pairwise_cons.1 HU2.out.2).2)
        have EA := Lib.hid (show (ca = 1 → EI w (.slice (some ⟨ba, oa, none⟩) a.length 0) a) ∧ EI w (.slice (some ⟨ba, oa + 4, none⟩) a.length (ca - 1)) a from by
          obtain ⟨_, h8, _, h9⟩ := HTA.out w (Below.refl _ _)
          refine ⟨fun h1 => ?_, h9 _ (fun _ => rfl)⟩
          have := h9 ⟨ba, oa, none⟩ (fun hne => absurd (List.length_pos_iff.2 hne) (by omega))
          rwa [h1] at this)
        have EB := Lib.hid (show (cb = 1 → EI w (.slice (some ⟨bb, ob, none⟩) b.length 0) b) ∧ EI w (.slice (some ⟨bb, ob + 4, none⟩) b.length (cb - 1)) b from by
          obtain ⟨_, h8, _, h9⟩ := HTB.out w (Below.refl _ _)
          refine ⟨fun h1 => ?_, h9 _ (fun _ => rfl)⟩
          have := h9 ⟨bb, ob, none⟩ (fun hne => absurd (List.length_pos_iff.2 hne) (by omega))
          rwa [h1] at this)
        have HE1 := Lib.hid HE.out
        obtain ⟨cv, hcv⟩ : ∃ cv, cv = cmpE x y := ⟨_, rfl⟩
        rw [← hcv] at CC HEQ HLT HAN
        have HCV := Lib.hid hcv
        clear hcv
        obtain ⟨xk, ⟨xx, xy, xz⟩⟩ := x
        obtain ⟨yk, ⟨yx, yy, yz⟩⟩ := y
        unfold En.cells at CC
        dsimp only at x0 x1 x2 x3 y0 y1 y2 y3 CC
        have cC : ∀ q os, Calls Try.prog 36 #[.agg #[.string xk, .int .i64 xx, .int .i64 xy, .int .i64 xz], .agg #[.string yk, .int .i64 yx, .int .i64 yy, .int .i64 yz]] (Go.Sort.grow (Go.redrawn wr q) os) fun e w'' => e = .returned (.int .i64 cv) ∧ ∃ p : Go.Regrown, w'' = Go.Sort.grow (Go.redrawn wr p.d) p.os := fun q os => Calls.regrown_of (CC.out _)
        have HC := Lib.hid cC
        clear cC CC
        have m0 := Go.cell_regrown x0
        have m1 := Go.cell_regrown x1
        have m2 := Go.cell_regrown x2
        have m3 := Go.cell_regrown x3
        have k0 := Go.cell_regrown y0
        have k1 := Go.cell_regrown y1
        have k2 := Go.cell_regrown y2
        have k3 := Go.cell_regrown y3
        clear x0 x1 x2 x3 y0 y1 y2 y3
        have HLX := Lib.hid (show a.length + 1 + (b.length + 1) = gk ∧ a.length + 1 ≤ 1000 ∧ b.length + 1 ≤ 1000 from ⟨by have := HG.out; simp only [List.length_cons] at this; omega, by have := HL.out.1; simp only [List.length_cons] at this; omega, by have := HL.out.2; simp only [List.length_cons] at this; omega⟩)
        simp only [List.length_cons] at *
        have la1 : (0 : Int) < (a.length : Int) + 1 := by omega
        have lb1 : (0 : Int) < (b.length : Int) + 1 := by omega
        have la2 : (1 : Int) ≤ (a.length : Int) + 1 := by omega
        have lb2 : (1 : Int) ≤ (b.length : Int) + 1 := by omega
        go_wp2_with fail
        refine Go.wp_region_quiet_below (by kernel_rfl) (by kernel_rfl) ?_
        repeat (quiet_step (first | with_reducible exact HC.out _ _))
        refine wpQuiet_nil ?_
        intro _ hw'
        obtain ⟨⟨dq, osq⟩, hw''⟩ := hw'
        subst hw''
        have HS1 := Lib.hid (HS.out.next (Go.below_regrown wr dq osq))
        clear m0 m1 m2 m3 k0 k1 k2 k3
        generalize Go.Sort.grow (Go.redrawn wr dq) osq = W1 at *
        obtain ⟨_, hca, ⟨x0, x1, x2, x3⟩, _⟩ := HTA.out _ HS1.out.bel
        obtain ⟨_, hcb, ⟨y0, y1, y2, y3⟩, _⟩ := HTB.out _ HS1.out.bel
        dsimp only at x0 x1 x2 x3 y0 y1 y2 y3
        have HD := Lib.hid (HS1.out.next (show Below W1.heap.size W1 W1.drew from ⟨rfl, rfl, rfl, Nat.le_refl _, fun _ _ => rfl⟩))
        rcases (show cv < 0 ∨ (¬ cv < 0 ∧ 0 < cv) ∨ (¬ cv < 0 ∧ ¬ 0 < cv) from by omega) with hlt | ⟨hn, hgt⟩ | ⟨hn1, hn2⟩
        · have HN := Lib.hid (show (j1 ++ [(⟨xk, ⟨xx, xy, xz⟩⟩ : En)]) ++ lessS a (⟨yk, ⟨yx, yy, yz⟩⟩ :: b) false = lessS A B false ∧ j2 ++ lessS (⟨yk, ⟨yx, yy, yz⟩⟩ :: b) a false = lessS B A false ∧ j3 ++ lessS a (⟨yk, ⟨yx, yy, yz⟩⟩ :: b) true = lessS A B true from by
            have h8 := HR.out
            have h9 := HLT.out hlt
            rw [h9.1, h9.2.1, h9.2.2] at h8
            simpa using h8)
          have HNJ := Lib.hid (show (j1 ++ [(⟨xk, ⟨xx, xy, xz⟩⟩ : En)]).length ≤ 1000 ∧ j2.length ≤ 1000 ∧ j3.length ≤ 1000 from by
            have h8 := congrArg List.length HN.out.1
            have h9 := HLA.out
            rw [List.length_append] at h8
            exact ⟨by omega, HJ.out.2⟩)
          rcases Classical.em (ca = 1) with h1 | h1
          all_goals
            clear HEQ HAN HLT HGT HSA HCV HTA HTB
            go_wp2_with fail
            go_region_law (refine step_appL (X := W1.drew) (by rfl) (.tmp 39) (.tmp 43) (by rfl) W1.heap.size (by rfl) w.heap.size (.slice a6 j1.length c6) j1 ⟨xk, ⟨xx, xy, xz⟩⟩ (by rfl) (by rfl) HD.out.o1 (by have := HJ.out; omega) HD.out.bel.size ?_; intro g5 c5 w5 hO5 hg5 hat5; have HS5 := Lib.hid (HD.out.app hO5 hg5 (Nat.le_succ _) hat5); clear hO5 hg5 hat5)
            all_goals
              clear x0 x1 x2 x3 y0 y1 y2 y3
              go_wp2_with fail
              go_roundg (a.length + (b.length + 1))
              case measure => have := HLX.out; omega
              case rel => exact ⟨a, ⟨yk, ⟨yx, yy, yz⟩⟩ :: b, j1 ++ [⟨xk, ⟨xx, xy, xz⟩⟩], j2, j3, _, _, _, _, _, rfl, rfl, rfl, rfl, rfl, Lib.hid (by simp), HS5, Lib.hid ⟨by first | exact EA.out.2 | exact EA.out.1 (by assumption) | exact EA.out.1 rfl, HE1.out.2⟩, Lib.hid ⟨HUA.out.1, HU2.out.2⟩, Lib.hid ⟨by have := HLX.out; omega, by have := HLX.out; simp only [List.length_cons]; omega⟩, HNJ, HN⟩
        · have HN := Lib.hid (show j1 ++ lessS (⟨xk, ⟨xx, xy, xz⟩⟩ :: a) b false = lessS A B false ∧ (j2 ++ [(⟨yk, ⟨yx, yy, yz⟩⟩ : En)]) ++ lessS b (⟨xk, ⟨xx, xy, xz⟩⟩ :: a) false = lessS B A false ∧ j3 ++ lessS (⟨xk, ⟨xx, xy, xz⟩⟩ :: a) b true = lessS A B true from by
            have h8 := HR.out
            have h9 := HGT.out (by have := HAN.out; omega)
            have h10 := less_drop ⟨yk, ⟨yx, yy, yz⟩⟩ (⟨xk, ⟨xx, xy, xz⟩⟩ :: a) b true (fun hm => by
              rcases List.mem_cons.1 hm with e | hm
              · have h11 := HCV.out; rw [← e, cmpE_self] at h11; omega
              · have h11 := (List.pairwise_cons.1 HU2.out.1).1 _ hm; have h12 := HCV.out; omega)
            rw [h9.1, h9.2.1, h10] at h8
            simpa using h8)
          have HNJ := Lib.hid (show j1.length ≤ 1000 ∧ (j2 ++ [(⟨yk, ⟨yx, yy, yz⟩⟩ : En)]).length ≤ 1000 ∧ j3.length ≤ 1000 from by
            have h8 := congrArg List.length HN.out.2.1
            have h9 := HLA.out
            rw [List.length_append] at h8
            exact ⟨HJ.out.1, by omega, HJ.out.2.2⟩)
          rcases Classical.em (cb = 1) with h1 | h1
          all_goals
            clear HEQ HAN HLT HGT HSA HCV HTA HTB
            go_wp2_with fail
            go_region_law (refine step_appL (X := W1.drew) (by rfl) (.tmp 50) (.tmp 54) (by rfl) W1.heap.size (by rfl) w.heap.size (.slice a7 j2.length c7) j2 ⟨yk, ⟨yx, yy, yz⟩⟩ (by rfl) (by rfl) HD.out.o2 (by have := HJ.out; omega) HD.out.bel.size ?_; intro g5 c5 w5 hO5 hg5 hat5; have HS5 := Lib.hid ((HD.out.rot.app hO5 hg5 (Nat.le_succ _) hat5).rot); clear hO5 hg5 hat5)
            all_goals
              clear x0 x1 x2 x3 y0 y1 y2 y3
              go_wp2_with fail
              go_roundg (a.length + 1 + b.length)
              case measure => have := HLX.out; omega
              case rel => exact ⟨⟨xk, ⟨xx, xy, xz⟩⟩ :: a, b, j1, j2 ++ [⟨yk, ⟨yx, yy, yz⟩⟩], j3, _, _, _, _, _, rfl, rfl, rfl, rfl, rfl, Lib.hid (by simp), HS5, Lib.hid ⟨HE1.out.1, by first | exact EB.out.2 | exact EB.out.1 (by assumption) | exact EB.out.1 rfl⟩, Lib.hid ⟨HU2.out.1, HUA.out.2⟩, Lib.hid ⟨by have := HLX.out; simp only [List.length_cons]; omega, by have := HLX.out; omega⟩, HNJ, HN⟩
        · have hxy : (⟨xk, ⟨xx, xy, xz⟩⟩ : En) = ⟨yk, ⟨yx, yy, yz⟩⟩ := HEQ.out (by omega)
          have HN := Lib.hid (show j1 ++ lessS a b false = lessS A B false ∧ j2 ++ lessS b a false = lessS B A false ∧ (j3 ++ [(⟨xk, ⟨xx, xy, xz⟩⟩ : En)]) ++ lessS a b true = lessS A B true from by
            have h8 := HR.out
            have h9 := HSA.out hxy
            rw [← hxy] at h8
            rw [h9.1, h9.2.1, h9.2.2] at h8
            simpa using h8)
          have HNJ := Lib.hid (show j1.length ≤ 1000 ∧ j2.length ≤ 1000 ∧ (j3 ++ [(⟨xk, ⟨xx, xy, xz⟩⟩ : En)]).length ≤ 1000 from by
            have h8 := congrArg List.length HN.out.2.2
            have h9 := HLA.out
            rw [List.length_append] at h8
            exact ⟨HJ.out.1, HJ.out.2.1, by omega⟩)
          rcases Classical.em (ca = 1) with h1 | h1 <;> rcases Classical.em (cb = 1) with h2 | h2
          all_goals
            clear HEQ HAN HLT HGT HSA HCV HTA HTB hxy
            go_wp2_with fail
            go_region_law (refine step_appL (X := W1.drew) (by rfl) (.tmp 26) (.tmp 30) (by rfl) W1.heap.size (by rfl) w.heap.size (.slice a8 j3.length c8) j3 ⟨xk, ⟨xx, xy, xz⟩⟩ (by rfl) (by rfl) HD.out.o3 (by have := HJ.out; omega) HD.out.bel.size ?_; intro g5 c5 w5 hO5 hg5 hat5; have HS5 := Lib.hid ((HD.out.rot3.app hO5 hg5 (Nat.le_succ _) hat5).rot3); clear hO5 hg5 hat5)
            all_goals
              clear x0 x1 x2 x3 y0 y1 y2 y3
              go_wp2_with fail
              go_roundg (a.length + b.length)
              case measure => have := HLX.out; omega
              case rel => exact ⟨a, b, j1, j2, j3 ++ [⟨xk, ⟨xx, xy, xz⟩⟩], _, _, _, _, _, rfl, rfl, rfl, rfl, rfl, Lib.hid rfl, HS5, Lib.hid ⟨by first | exact EA.out.2 | exact EA.out.1 (by assumption) | exact EA.out.1 rfl, by first | exact EB.out.2 | exact EB.out.1 (by assumption) | exact EB.out.1 rfl⟩, HUA, Lib.hid ⟨by have := HLX.out; omega, by have := HLX.out; omega⟩, HNJ, HN⟩
set_option maxRecDepth 100000 in
theorem diff_any (va vb : Value) (A B : List En) (hA : Up A) (hB : Up B) (hla : A.length ≤ 1000) (hlb : B.length ≤ 1000) (w : World) (h1 : EI w va A) (h2 : EI w vb B) :
    Calls Try.prog 39 #[va, vb] w fun r w' => DfR (lessS A B false) (lessS B A false) (lessS A B true) w.heap.size r w' ∧ Below w.heap.size w w' := by
  have C := Lib.hid (along_any va vb A B hA hB hla hlb w h1 h2)
  clear h1 h2
  go_enter Try.func39, Try.ntmps39
  go_wp2_with fail
  refine C.out.mono ?_; rintro e w5 ⟨⟨v1, v2, v3, rfl, h1, h2, h3⟩, hb5⟩
  have H := Lib.hid (And.intro h1 (And.intro h2 h3))
  clear h1 h2 h3
  go_wp2_with fail
  go_ret3
  exact ⟨show DfR _ _ _ _ _ _ from ⟨_, _, _, rfl, H.out.1, H.out.2.1, H.out.2.2⟩, hb5⟩
end Go.Proofs.Ytkkhljneeajkmaa
