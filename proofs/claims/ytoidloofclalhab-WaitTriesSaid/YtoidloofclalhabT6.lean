/- Layer 48 (wait): the law's first: the first tries that are gone through. -/
import Derived.Test.YtoidloofclalhabT5
import Derived.Maps.OwnIn
import Derived.Deep.AppendLies
namespace Go.Proofs.Ytoidloofclalhab
open Go.RowKit
attribute [local go_sem] Oper.semAt_some

theorem i_info : (Try.prog.info? 3).map (fun i => (i.zero, i.size, i.bytes)) = some (some (.int .i64 0), 1, 8) := by kernel_rfl
theorem kb_b {B : Nat} {w : World} (W : World) (l : Nat) (o o' : Obj) (_ : w.heap.size ≤ l) (h : W.heap[l]? = some o) (ho : o.isCells = false) (_ : o.isWalk = false) : KB B W (W.putObj l o') := by
  have hg := grownBy_putObj' W l o'
  refine ⟨hg.size, fun k cs t fr _ _ hk => ?_⟩
  rw [hg.block k (Array.getElem?_eq_some_iff.1 hk).1 (fun e => by
    cases e
    rw [h] at hk
    cases hk
    cases ho)]
  exact hk
theorem bx_own {β : Type} (B g : Nat) (t : TypeId) (cs : Array Value) : OwnFrom B (fun (_ : β) W => Bx W g t cs) := fun _ X Y row hs hg hr =>
  hs.grown hg (fun e => by
    obtain ⟨_, o, ho, hc⟩ := hr g e
    unfold Bx at hs
    rw [hs] at ho
    cases ho
    cases hc)
theorem own_notrow {W : World} {base n : Nat} {e : TypeId} {size : Nat} {v : Value} {xs : List Value} {row : Option Nat} {B : Nat} (h : W.ownsRow base e size v n xs) (hr : ∀ r, row = some r → B ≤ r ∧ ∃ o : Obj, W.heap[r]? = some o ∧ o.isCells = false) : v.ownBlock = none ∨ v.ownBlock ≠ row := by
  rcases h.2 with ⟨rfl, _⟩ | ⟨g, cap, cur, rfl, _, hc, _⟩
  · exact .inl rfl
  · right
    intro e1
    obtain ⟨_, o, ho, hf⟩ := hr g e1.symm
    rw [hc] at ho
    cases ho
    cases hf
theorem own_form {W : World} {base n : Nat} {e : TypeId} {size : Nat} {v : Value} {xs : List Value} (h : W.ownsRow base e size v n xs) : ∃ a c, v = .slice a n c := by
  rcases h.2 with ⟨rfl, h0⟩ | ⟨g, cap, cur, rfl, _⟩
  · exact ⟨none, 0, by rw [h0]⟩
  · exact ⟨_, _, rfl⟩
def trN (N : Nat) : List Value := (List.range N).map fun (k : Nat) => Value.int .i64 (k : Int)
def tkN (F M s tick : Int) (N : Nat) : List Value := (List.range N).map fun (k : Nat) => Value.int .i64 (atI F M s tick k)
def trP {F M s tick : Int} (pre : List (Pt F M s tick)) : List Value := pre.map fun x => Value.int .i64 (x.1 : Int)
def tkP {F M s tick : Int} (pre : List (Pt F M s tick)) : List Value := pre.map fun x => Value.int .i64 (atI F M s tick x.1)
theorem trP_of {F M s tick : Int} {pre : List (Pt F M s tick)} (h : ptsTo F M s tick pre) : trP pre = trN pre.length := by
  unfold trP trN
  rw [← h, List.map_map]; rfl
theorem tkP_of {F M s tick : Int} {pre : List (Pt F M s tick)} (h : ptsTo F M s tick pre) : tkP pre = tkN F M s tick pre.length := by
  unfold tkP tkN
  rw [← h, List.map_map]; rfl
theorem trP_snoc {F M s tick : Int} (pre : List (Pt F M s tick)) (x : Pt F M s tick) : trP (pre ++ [x]) = trP pre ++ [.int .i64 (x.1 : Int)] := by simp [trP]
theorem tkP_snoc {F M s tick : Int} (pre : List (Pt F M s tick)) (x : Pt F M s tick) : tkP (pre ++ [x]) = tkP pre ++ [.int .i64 (atI F M s tick x.1)] := by simp [tkP]
theorem ptsTo_init {F M s tick : Int} {pre : List (Pt F M s tick)} {x : Pt F M s tick} (h : ptsTo F M s tick (pre ++ [x])) : ptsTo F M s tick pre := by
  unfold ptsTo at *
  rw [List.map_append, List.length_append] at h
  simp only [List.map_cons, List.map_nil, List.length_cons, List.length_nil, List.range_succ] at h
  exact (List.append_inj h (by simp)).1
/-- Three boxes, and two rows of the call's own, which lie apart. -/
structure PS (w : World) (n1 : Nat) (W : World) (va : Value) (na : Nat) (xa : List Value) (vb : Value) (nb : Nat) (xb : List Value) : Prop where
  b1 : Bx W (w.heap.size + 1) 3 #[.int .i64 100]
  b2 : Bx W (w.heap.size + 1 + 1) 43 #[va]
  b3 : Bx W (w.heap.size + 1 + 1 + 1) 43 #[vb]
  oa : W.ownsRow n1 3 1 va na xa
  ob : W.ownsRow n1 3 1 vb nb xb
  ap : va.ownBlock = none ∨ va.ownBlock ≠ vb.ownBlock
  bel : Below w.heap.size w W
  sz : n1 ≤ W.heap.size
theorem apart_symm {a b : Option Nat} (h : a = none ∨ a ≠ b) : b = none ∨ b ≠ a := by
  cases b with
  | none => exact .inl rfl
  | some k =>
    right
    rintro rfl
    rcases h with h | h
    · cases h
    · exact h rfl
theorem own_below {W : World} {base n : Nat} {e : TypeId} {size : Nat} {v : Value} {xs : List Value} (h : W.ownsRow base e size v n xs) (c : Nat) (hc : c < base) : v.ownBlock = none ∨ v.ownBlock ≠ some c := by
  right
  intro e1
  have := (World.ownsRow.lt h c e1).1
  omega
theorem own_ne' {W : World} {base n : Nat} {e : TypeId} {size : Nat} {v : Value} {xs : List Value} (h : W.ownsRow base e size v n xs) (c : Nat) (hc : c < base) : v.ownBlock ≠ some c := fun e1 => by
  have := (World.ownsRow.lt h c e1).1
  omega
theorem PS.appA {w : World} {n1 : Nat} {W : World} {va : Value} {na : Nat} {xa : List Value} {vb : Value} {nb : Nat} {xb : List Value} (h : PS w n1 W va na xa vb nb xb) (hn : w.heap.size + 4 ≤ n1) (o : Obj) {w' : World} {va' : Value} {na' : Nat} {xa' : List Value}
    (hg : (W.alloc o).grownBy w' va.ownBlock) (ho : w'.ownsRow n1 3 1 va' na' xa') (hat : va'.ownBlock = va.ownBlock ∨ va'.ownBlock = some (W.alloc o).heap.size) : PS w n1 (w'.setCell ⟨w.heap.size + 1 + 1, 0, none⟩ va') va' na' xa' vb nb xb := by
  have hb' : Below w.heap.size w w' := (h.bel.alloc h.bel.size o).grown hg (by have := h.bel.size; simp; omega) (fun k e => by have := (World.ownsRow.lt h.oa k e).1; omega)
  have hob : w'.ownsRow n1 3 1 vb nb xb := (World.ownsRow.alloc h.ob o).kept hg (apart_symm h.ap)
  have hs := gb_set w' (w.heap.size + 1 + 1) 0 va'
  have hsz : n1 ≤ w'.heap.size := by have h1 := h.sz; have h2 := hg.size; simp at h2; omega
  refine ⟨?_, ?_, ?_, ?_, ?_, ?_, ?_, by simpa [World.setCell] using hsz⟩
  · exact ((h.b1.past o).grown hg (own_ne' h.oa _ (by omega))).beside (p := ⟨w.heap.size + 1 + 1, 0, none⟩) (by show w.heap.size + 1 + 1 ≠ w.heap.size + 1; omega) _
  · exact ((h.b2.past o).grown hg (own_ne' h.oa _ (by omega))).put 0 va'
  · exact ((h.b3.past o).grown hg (own_ne' h.oa _ (by omega))).beside (p := ⟨w.heap.size + 1 + 1, 0, none⟩) (by show w.heap.size + 1 + 1 ≠ w.heap.size + 1 + 1 + 1; omega) _
  · exact ho.kept hs (own_below ho _ (by omega))
  · exact hob.kept hs (own_below hob _ (by omega))
  · rcases hat with e | e
    · rw [e]; exact h.ap
    · right
      rw [e]
      intro e2
      have := (World.ownsRow.lt h.ob _ e2.symm).2
      simp at this
      omega
  · exact hb'.setCell (p := ⟨w.heap.size + 1 + 1, 0, none⟩) (by show w.heap.size ≤ w.heap.size + 1 + 1; omega) _
theorem PS.appB {w : World} {n1 : Nat} {W : World} {va : Value} {na : Nat} {xa : List Value} {vb : Value} {nb : Nat} {xb : List Value} (h : PS w n1 W va na xa vb nb xb) (hn : w.heap.size + 4 ≤ n1) (o : Obj) {w' : World} {vb' : Value} {nb' : Nat} {xb' : List Value}
    (hg : (W.alloc o).grownBy w' vb.ownBlock) (ho : w'.ownsRow n1 3 1 vb' nb' xb') (hat : vb'.ownBlock = vb.ownBlock ∨ vb'.ownBlock = some (W.alloc o).heap.size) : PS w n1 (w'.setCell ⟨w.heap.size + 1 + 1 + 1, 0, none⟩ vb') va na xa vb' nb' xb' := by
  have hb' : Below w.heap.size w w' := (h.bel.alloc h.bel.size o).grown hg (by have := h.bel.size; simp; omega) (fun k e => by have := (World.ownsRow.lt h.ob k e).1; omega)
  have hoa : w'.ownsRow n1 3 1 va na xa := (World.ownsRow.alloc h.oa o).kept hg h.ap
  have hs := gb_set w' (w.heap.size + 1 + 1 + 1) 0 vb'
  have hsz : n1 ≤ w'.heap.size := by have h1 := h.sz; have h2 := hg.size; simp at h2; omega
  refine ⟨?_, ?_, ?_, ?_, ?_, ?_, ?_, by simpa [World.setCell] using hsz⟩
  · exact ((h.b1.past o).grown hg (own_ne' h.ob _ (by omega))).beside (p := ⟨w.heap.size + 1 + 1 + 1, 0, none⟩) (by show w.heap.size + 1 + 1 + 1 ≠ w.heap.size + 1; omega) _
  · exact ((h.b2.past o).grown hg (own_ne' h.ob _ (by omega))).beside (p := ⟨w.heap.size + 1 + 1 + 1, 0, none⟩) (by show w.heap.size + 1 + 1 + 1 ≠ w.heap.size + 1 + 1; omega) _
  · exact ((h.b3.past o).grown hg (own_ne' h.ob _ (by omega))).put 0 vb'
  · exact hoa.kept hs (own_below hoa _ (by omega))
  · exact ho.kept hs (own_below ho _ (by omega))
  · rcases hat with e | e
    · rw [e]; exact h.ap
    · right
      rw [e]
      intro e2
      have := (World.ownsRow.lt h.oa _ e2).2
      simp at this
      omega
  · exact hb'.setCell (p := ⟨w.heap.size + 1 + 1 + 1, 0, none⟩) (by show w.heap.size ≤ w.heap.size + 1 + 1 + 1; omega) _
theorem own_cells {W : World} {base n : Nat} {e : TypeId} {size : Nat} {v : Value} {xs : List Value} (h : W.ownsRow base e size v n xs) (j : Nat) (o : Obj) (hj : v.ownBlock = some j) (ho : W.heap[j]? = some o) : o.isCells = true := by
  rcases h.2 with ⟨rfl, _⟩ | ⟨g, cap, cur, rfl, _, hc, _⟩
  · cases hj
  · have : g = j := by simpa [Value.ownBlock] using hj
    subst this
    rw [hc] at ho
    cases ho
    rfl
theorem KB.of_grown {B : Nat} {X Y : World} {row : Option Nat} (hg : X.grownBy Y row) (hr : ∀ k, row = some k → k < B ∨ B + 3 ≤ k) : KB B X Y := ⟨hg.size, fun i cs t fr h1 h2 hc => by
  rw [hg.block i (Array.getElem?_eq_some_iff.1 hc).1 (fun e => by have := hr i e.symm; omega)]; exact hc⟩
/-- An append onto a row of the call's own, stored in a box ahead of three others: what it keeps. -/
theorem step_keeps {W w' : World} {n1 n B c : Nat} {e : TypeId} {size : Nat} {v u : Value} {xs : List Value} (o : Obj) (h : W.ownsRow n1 e size v n xs) (hg : (W.alloc o).grownBy w' v.ownBlock) (hB : B + 3 ≤ n1) (hc : c < B) : KeepsOthers W (w'.setCell ⟨c, 0, none⟩ u) ∧ KB B W (w'.setCell ⟨c, 0, none⟩ u) := by
  have h2 : (W.alloc o).ownsRow n1 e size v n xs := World.ownsRow.alloc h o
  refine ⟨((KeepsOthers.alloc W o).trans (KeepsOthers.of_grownBy hg (fun j o' hj ho => own_cells h2 j o' hj ho))).trans (KeepsOthers.setCell _ _ _), ?_⟩
  exact ((KB.of_below ((Below.refl _ _).alloc (Nat.le_refl _) o)).trans (KB.of_grown hg (fun k hk => .inr (by have := (World.ownsRow.lt h2 k hk).1; omega)))).trans (KB.of_grown (gb_set w' c 0 u) (fun k hk => .inl (by cases hk; exact hc)))
/-- What first's own boxes hold. -/
def FI (F M s tick : Int) (w : World) (n1 : Nat) (pre : List (Pt F M s tick)) (W : World) : Prop :=
  ∃ va vb, PS w n1 W va pre.length (trP pre) vb pre.length (tkP pre) ∧ pre.length ≤ 100
theorem FI.own (F M s tick : Int) (w : World) (n1 : Nat) (hn : w.heap.size ≤ n1) : OwnFrom n1 (FI F M s tick w n1) := fun pre X Y row hs hg hr => by
  obtain ⟨va, vb, ⟨b1, b2, b3, o1, o2, hd, hb, hsz⟩, hl⟩ := hs
  exact ⟨va, vb, ⟨bx_own (β := Unit) _ _ _ _ () X Y row b1 hg hr, bx_own (β := Unit) _ _ _ _ () X Y row b2 hg hr, bx_own (β := Unit) _ _ _ _ () X Y row b3 hg hr, o1.kept hg (own_notrow o1 hr), o2.kept hg (own_notrow o2 hr), hd, hb.grown hg hb.size (fun k e => Nat.le_trans hn (hr k e).1), Nat.le_trans hsz hg.size⟩, hl⟩
/-- How many tries there are, up to so many. -/
def CntN (F M s tick stop : Int) (N : Nat) : Prop := N ≤ 100 ∧ (∀ k < N, atI F M s tick k < stop) ∧ (N = 100 ∨ stop ≤ atI F M s tick N)
def FirstE (F M s tick stop : Int) (w : World) (e : Ending) (w' : World) : Prop :=
  ∃ va vb N B, e = .returned (.tuple #[va, vb]) ∧ w'.ownsRow B 3 1 va N (trN N) ∧ w'.ownsRow B 3 1 vb N (tkN F M s tick N) ∧ CntN F M s tick stop N ∧ Below w.heap.size w w'
set_option maxRecDepth 100000 in
set_option maxHeartbeats 8000000 in
theorem first_any (F M s fr to_ : Int) (hs : 0 ≤ s ∧ s < 4294967296) (w : World) :
    Calls Try.prog 41 #[wv F M s, .int .i64 fr, .int .i64 to_, .int .i64 100] w (FirstE F M s (clampI fr 0 1099511627776) (clampI to_ 0 1099511627776) w) := by
  have ht := clamp_bd fr 0 1099511627776 (by omega)
  have he := clamp_bd to_ 0 1099511627776 (by omega)
  have CA := Lib.hid (fun W => all_any F M s fr to_ W)
  generalize clampI fr 0 1099511627776 = tick at *
  generalize clampI to_ 0 1099511627776 = stop at *
  unfold wv at *
  have hnil : ∀ (bs : Array Value) W, (binOp .eql 90 (.func (.func 61) #[] bs) .nilFunc).run Try.prog W = .ok (.bool false) W := fun _ _ => by kernel_rfl
  refine (callsIn_wide (n := 5)).1 ?_
  refine callsIn_of_wp_marks Try.func41 rfl trivial ?_ rfl
  simp only [Try.ntmps41, List.size_toArray, List.length_cons, List.length_nil, Nat.reduceAdd, Nat.reduceSub, Array.replicate_succ, Array.replicate_zero, List.push_toArray, List.append_toArray, List.nil_append, List.cons_append]
  gi_wp2_with (refine ⟨trivial, ?_⟩; gi_at_call 57; refine (callsIn_wide.2 (CA.out _)).mono ?_; rintro e w2 ⟨rfl, hx0, hx1, hx2, hb2⟩)
  have hsz2 : w.heap.size + 7 ≤ w2.heap.size := by have h := Bx.inside hx2; simp at h; omega
  have e1 : Below w.heap.size w ((((w.alloc (.cells #[.int .i64 F, .int .i64 M, .int .u32 s] 66)).alloc (.cells #[.int .i64 100] 3)).alloc (.cells #[.slice none 0 0] 43)).alloc (.cells #[.slice none 0 0] 43)) := ((((Below.refl _ _).alloc (Nat.le_refl _) _).alloc (by simp) _).alloc (by simp; omega) _).alloc (by simp; omega) _
  have e2 : Below w.heap.size w w2 := bnext e1 hb2
  have y1 : Bx w2 (w.heap.size + 1) 3 #[.int .i64 100] := Bx.next (((Bx.fresh' (w.alloc _) (by simp) _ _).past _).past _) hb2
  have y2 : Bx w2 (w.heap.size + 1 + 1) 43 #[.slice none 0 0] := Bx.next ((Bx.fresh' ((w.alloc _).alloc _) (by simp) _ _).past _) hb2
  have y3 : Bx w2 (w.heap.size + 1 + 1 + 1) 43 #[.slice none 0 0] := Bx.next (Bx.fresh' (((w.alloc _).alloc _).alloc _) (by simp) _ _) hb2
  clear hb2 e1 CA
  simp only [World.size_alloc] at hx0 hx1 hx2
  generalize hn4 : w.heap.size + 1 + 1 + 1 + 1 = B at *
  have hBn : w.heap.size + 4 = B := by omega
  obtain ⟨i0, hi, hz0, hz1, hz2⟩ := info_parts i_info
  have HI := Hid.mk' (And.intro hi (And.intro hz0 (And.intro hz1 hz2)))
  clear hi hz0 hz1 hz2
  refine wpIn_rangeFunc_ownH rfl (by omega) (gf := 61) (lb := #[.pointer (some ⟨B + 1, 0, none⟩), .pointer (some ⟨B + 2, 0, none⟩), .pointer (some ⟨B, 0, none⟩)]) rfl trivial (enters_of Try.func61 (by kernel_rfl) rfl)
    (all_stops 4 (by omega) F M s tick stop hs ht he B 2199023255552 (Nat.le_refl _) w2 hx0 hx1 hx2) KB.trans kb_b (Below.refl _ _) (fun _ => rfl)
    (FI F M s tick w w2.heap.size)
    (fun c (q : List (Pt F M s tick)) W => c = .exit 0 ∧ ∃ pre x, q = pre ++ [x] ∧ pre.length = 100 ∧ FI F M s tick w w2.heap.size pre W)
    (FI.own F M s tick w w2.heap.size (by omega))
    (fun c q X Y row hs hg hr => by obtain ⟨hc, pre, x, hq, hl, hf⟩ := hs; exact ⟨hc, pre, x, hq, hl, FI.own F M s tick w w2.heap.size (by omega) pre X Y row hf hg hr⟩)
    ⟨_, _, ⟨y1, y2, y3, World.ownsRow_nil _ _ _ _, World.ownsRow_nil _ _ _ _, .inl rfl, e2, Nat.le_refl _⟩, by simp⟩
    (fun (x : Pt F M s tick) a' W => a' = { tmps := #[.agg #[.int .i64 F, .int .i64 M, .int .u32 s], .int .i64 fr, .int .i64 to_, .int .i64 100, .pointer (some ⟨w.heap.size, 0, none⟩), undef, undef, .pointer (some ⟨w.heap.size + 1, 0, none⟩), .slice none 0 0, .slice none 0 0, .pointer (some ⟨w.heap.size + 1 + 1, 0, none⟩), .pointer (some ⟨w.heap.size + 1 + 1 + 1, 0, none⟩), .func (.func 61) #[] #[.pointer (some ⟨B + 1, 0, none⟩), .pointer (some ⟨B + 2, 0, none⟩), .pointer (some ⟨B, 0, none⟩)], .int .i64 (x.1 : Int), .int .i64 (atI F M s tick x.1), .agg #[.int .i64 F, .int .i64 M, .int .u32 s], .int .i64 fr, .int .i64 to_, .func (.func 61) #[] #[.pointer (some ⟨B + 1, 0, none⟩), .pointer (some ⟨B + 2, 0, none⟩), .pointer (some ⟨B, 0, none⟩)], .func (.func 61) #[] #[.pointer (some ⟨B + 1, 0, none⟩), .pointer (some ⟨B + 2, 0, none⟩), .pointer (some ⟨B, 0, none⟩)], .bool false, .func (.func 61) #[] #[.pointer (some ⟨B + 1, 0, none⟩), .pointer (some ⟨B + 2, 0, none⟩), .pointer (some ⟨B, 0, none⟩)], .int .i64 (x.1 : Int), .int .i64 (atI F M s tick x.1), undef, undef, undef, undef, undef, undef, undef, undef, undef, undef, undef, undef, undef, undef], defers := [] })
    (fun x a' => fun _ X Y row hs _ _ => hs) ?assign ?body ?done ?stop
  case assign =>
    rintro l pre x W K hI hK
    unfold encPt
    gi_wp2
    exact hK _ _ (KeepsFrom.refl _ _) (KB.refl _ _) hI rfl
  case body =>
    rintro l pre x a' W hl ⟨r, hr⟩ ⟨va, vb, hps, hle⟩ rfl hN
    have HPS := Lib.hid hps
    have c1 := hps.b1.read (i := 0) rfl
    have c2 := hps.b2.read (i := 0) rfl
    have f2 := hps.b2.open_ 0
    obtain ⟨qa, qc, rfl⟩ := own_form hps.oa
    clear hps
    by_cases h100 : pre.length = 100
    · have hz : (100 : Int) ≤ (pre.length : Int) := by omega
      have H1 := Lib.hid h100
      clear h100
      gi_wp2
      exact ⟨KeepsFrom.refl _ _, rfl, pre, x, rfl, H1.out, ⟨_, _, HPS.out, hle⟩⟩
    · have hz : ¬ (100 : Int) ≤ (pre.length : Int) := by omega
      have hlt : pre.length < 100 := by omega
      have hx0 : (0 : Int) ≤ (x.1 : Int) := by omega
      generalize hxi : (x.1 : Int) = xi at *
      generalize hxt : atI F M s tick x.1 = xt at *
      have HXX := Lib.hid (And.intro hxi hxt)
      clear hxi hxt
      gi_wp2_with (gi_at_builtin; refine wpListIn_append_own_at _ rfl (.tmp 28) (.tmp 30) 43 rfl w2.heap.size 3 i0 _ 1 8 Try.underlying43 HI.out.1 HI.out.2.1 HI.out.2.2.1 HI.out.2.2.2 rfl (by decide) _ pre.length (trP pre) rfl (World.ownsRow.alloc HPS.out.oa _) ⟨W.heap.size, 0, none⟩ 1 1 [.int .i64 xi] rfl rfl ?c1 ?c2 ?c3 ?c4 ?c5 ?_)
      try case c1 => exact World.news_of_block (cs := #[.int .i64 xi]) (t := 3) (fr := (0, 0)) (heap_alloc_new W _)
      case c2 => simp [Value.oneCell']
      case c3 => simp only [maxLen]; omega
      case c4 => omega
      case c5 => have := HPS.out.sz; simp; omega
      intro v5 W5 hown5 hgr5 _ hat5
      obtain ⟨q5, qc5, rfl⟩ := own_form hown5
      have HP5 := Lib.hid (HPS.out.appA (by omega) _ hgr5 hown5 (by simpa using hat5))
      have d2 : W5.cell? ⟨w.heap.size + 1 + 1, 0, none⟩ = some (.slice qa pre.length qc) := ((HPS.out.b2.past _).grown hgr5 (own_ne' HPS.out.oa _ (by omega))).read (i := 0) rfl
      have g2 : W5.frozen? ⟨w.heap.size + 1 + 1, 0, none⟩ = false := ((HPS.out.b2.past _).grown hgr5 (own_ne' HPS.out.oa _ (by omega))).open_ 0
      have c3 := HP5.out.b3.read (i := 0) rfl
      have f3 := HP5.out.b3.open_ 0
      clear c1 c2 f2 hown5 hat5
      gi_wp2_with (gi_at_builtin; refine wpListIn_append_own_at _ rfl (.tmp 32) (.tmp 34) 43 rfl w2.heap.size 3 i0 _ 1 8 Try.underlying43 HI.out.1 HI.out.2.1 HI.out.2.2.1 HI.out.2.2.2 rfl (by decide) vb pre.length (tkP pre) rfl (World.ownsRow.alloc HP5.out.ob _) ⟨_, 0, none⟩ 1 1 [.int .i64 xt] rfl rfl ?e1 ?e2 ?e3 ?e4 ?e5 ?_)
      case e1 =>
        have h1 := World.news_of_block (w := (W5.setCell ⟨w.heap.size + 1 + 1, 0, none⟩ (.slice q5 (pre.length + 1) qc5)).alloc (.cells #[.int .i64 xt] 3)) (cs := #[.int .i64 xt]) (t := 3) (fr := (0, 0)) (heap_alloc_new (W5.setCell ⟨w.heap.size + 1 + 1, 0, none⟩ (.slice q5 (pre.length + 1) qc5)) _)
        simpa using h1
      case e2 => simp [Value.oneCell']
      case e3 => simp only [maxLen]; omega
      case e4 => omega
      case e5 => have := HP5.out.sz; simp at this ⊢; omega
      intro v7 W7 hown7 hgr7 _ hat7
      obtain ⟨q7, qc7, rfl⟩ := own_form hown7
      have HP7 := Lib.hid (HP5.out.appB (by omega) _ hgr7 hown7 (by simpa using hat7))
      have HK := Lib.hid (And.intro (step_keeps (c := w.heap.size + 1 + 1) (B := B) (u := .slice q5 (pre.length + 1) qc5) _ HPS.out.oa hgr5 (by omega) (by omega)) (step_keeps (c := w.heap.size + 1 + 1 + 1) (B := B) (u := .slice q7 (pre.length + 1) qc7) _ HP5.out.ob hgr7 (by omega) (by omega)))
      have d3 : W7.cell? ⟨w.heap.size + 1 + 1 + 1, 0, none⟩ = some vb := ((HP5.out.b3.past _).grown hgr7 (own_ne' HP5.out.ob _ (by omega))).read (i := 0) rfl
      have g3 : W7.frozen? ⟨w.heap.size + 1 + 1 + 1, 0, none⟩ = false := ((HP5.out.b3.past _).grown hgr7 (own_ne' HP5.out.ob _ (by omega))).open_ 0
      have HFIN : Hid (PS w w2.heap.size (W7.setCell ⟨w.heap.size + 1 + 1 + 1, 0, none⟩ (.slice q7 (pre.length + 1) qc7)) (.slice q5 (pre.length + 1) qc5) (pre ++ [x]).length (trP (pre ++ [x])) (.slice q7 (pre.length + 1) qc7) (pre ++ [x]).length (tkP (pre ++ [x]))) := Lib.hid (by
        rw [trP_snoc, tkP_snoc, List.length_append, HXX.out.1, HXX.out.2]
        exact HP7.out)
      have HLE := Lib.hid (show (pre ++ [x]).length ≤ 100 by rw [List.length_append]; simp; omega)
      clear c3 f3 d2 g2 hown7 hat7 hgr5 hgr7
      gi_wp2
      exact ⟨(HK.out.1.1.trans HK.out.2.1).from _, HK.out.1.2.trans HK.out.2.2, _, _, HFIN.out, HLE.out⟩
  case done =>
    rintro D xs W hD ⟨hS1, hS2, hS3⟩ ⟨va, vb, hps, hle⟩ hK
    have HS := Lib.hid (And.intro hS1 (And.intro hS2 hS3))
    have HPS := Lib.hid hps
    have c2 := hps.b2.read (i := 0) rfl
    have c3 := hps.b3.read (i := 0) rfl
    obtain ⟨qa, qc, rfl⟩ := own_form hps.oa
    obtain ⟨qb, qd, rfl⟩ := own_form hps.ob
    clear hps hS1 hS2 hS3
    gi_wp2
    gi_region
    all_goals
      gi_wp2
      refine ⟨by simp, .inl ⟨_, _, rfl, run_takeDeferred (by exact hK), ?_⟩⟩
      have hgp := grownBy_putObj' W.drew D (.deferred none)
      have hKd : W.drew.heap[D]? = some (.deferred (some [])) := hK
      have hbf : Below w.heap.size w (W.drew.putObj D (.deferred none)) := (HPS.out.bel.drew).trans (belowK_b (w := w) (Nat.le_refl _) W.drew D _ _ (by omega) hKd rfl rfl)
      have hr : ∀ r, some D = some r → w2.heap.size ≤ r ∧ ∃ o : Obj, W.drew.heap[r]? = some o ∧ o.isCells = false := fun r e => by cases e; exact ⟨hD, _, hKd, rfl⟩
      refine ⟨.tuple #[.slice qa xs.length qc, .slice qb xs.length qd], by simp [results, Try.results41, go_sem], ?_⟩
      have oa := (World.ownsRow.drew HPS.out.oa).kept hgp (own_notrow (World.ownsRow.drew HPS.out.oa) hr)
      have ob := (World.ownsRow.drew HPS.out.ob).kept hgp (own_notrow (World.ownsRow.drew HPS.out.ob) hr)
      rw [trP_of HS.out.1] at oa
      rw [tkP_of HS.out.1] at ob
      exact ⟨_, _, xs.length, _, rfl, oa, ob, ⟨hle, HS.out.2.2, .inr HS.out.2.1⟩, hbf⟩
  case stop =>
    rintro D c q W hD ⟨hS1, hS2⟩ ⟨rfl, pre, x, rfl, h100, va, vb, hps, hle⟩ hK
    have HS := Lib.hid (And.intro (ptsTo_init hS1) hS2)
    have HPS := Lib.hid hps
    have c2 := hps.b2.read (i := 0) rfl
    have c3 := hps.b3.read (i := 0) rfl
    obtain ⟨qa, qc, rfl⟩ := own_form hps.oa
    obtain ⟨qb, qd, rfl⟩ := own_form hps.ob
    have H1 := Lib.hid h100
    clear hps hS1 hS2 h100
    gi_wp2
    gi_region
    all_goals
      gi_wp2
      refine ⟨by simp, .inl ⟨_, _, rfl, run_takeDeferred (by exact hK), ?_⟩⟩
      have hgp := grownBy_putObj' W.drew D (.deferred none)
      have hKd : W.drew.heap[D]? = some (.deferred (some [])) := hK
      have hbf : Below w.heap.size w (W.drew.putObj D (.deferred none)) := (HPS.out.bel.drew).trans (belowK_b (w := w) (Nat.le_refl _) W.drew D _ _ (by omega) hKd rfl rfl)
      have hr : ∀ r, some D = some r → w2.heap.size ≤ r ∧ ∃ o : Obj, W.drew.heap[r]? = some o ∧ o.isCells = false := fun r e => by cases e; exact ⟨hD, _, hKd, rfl⟩
      refine ⟨.tuple #[.slice qa pre.length qc, .slice qb pre.length qd], by simp [results, Try.results41, go_sem], ?_⟩
      have oa := (World.ownsRow.drew HPS.out.oa).kept hgp (own_notrow (World.ownsRow.drew HPS.out.oa) hr)
      have ob := (World.ownsRow.drew HPS.out.ob).kept hgp (own_notrow (World.ownsRow.drew HPS.out.ob) hr)
      rw [trP_of HS.out.1] at oa
      rw [tkP_of HS.out.1] at ob
      exact ⟨_, _, pre.length, _, rfl, oa, ob, ⟨hle, fun k hk => HS.out.2 k (by simp; omega), .inl H1.out⟩, hbf⟩
end Go.Proofs.Ytoidloofclalhab
