/- Layer 7 (mut), plain and in memory: mutations as values, how they stand; rows of stamps. -/
import Derived.Test.YtljhnkcoknikgaaOc
import Derived.Test.YtljhnkcoknikgaaPi
import Derived.Laws.StructEq
import Derived.ChangeKeysEq
import Derived.Laws.Strings
import Derived.Deep.AppendLies
import Derived.Laws.AppendOwnNone
namespace Go.Proofs.Ytljhnkcoknikgaa
open Go.RowKit

def cmpT (a b : ByteArray) : Int := if Op.bytesLess a.toList b.toList = true then -1 else if (a.toList == b.toList) = true then 0 else 1
/-- The first number that isn't 0. -/
def fnz : List Int → Int
  | [] => 0
  | x :: l => if x ≠ 0 then x else fnz l
/-- How two rows of stamps stand. -/
def rowsC : List St → List St → Int
  | [], [] => 0
  | [], _ :: _ => -1
  | _ :: _, [] => 1
  | a :: l, b :: m => if cmpS a b ≠ 0 then cmpS a b else rowsC l m
/-- A mutation. -/
structure Mu where
  t : Int
  k : Int
  key : ByteArray
  en : ByteArray
  val : ByteArray
  ex : Int
  st : St
  over : List St
def Mu.cells (m : Mu) (ov : Value) : Array Value := #[.int .i64 m.t, .int .i64 m.k, .string m.key, .string m.en, .string m.val, .int .i64 m.ex, .int .i64 m.st.x, .int .i64 m.st.y, .int .i64 m.st.z, ov]
def cmpL (a b : Mu) : List Int := [cmpS a.st b.st, cmpI a.t b.t, cmpI a.k b.k, cmpT a.key b.key, cmpT a.en b.en, cmpT a.val b.val, cmpI a.ex b.ex, rowsC a.over b.over]
def cmpM (a b : Mu) : Int := fnz (cmpL a b)
theorem cmpI_self (x : Int) : cmpI x x = 0 := by unfold cmpI; rw [if_neg (by omega), if_neg (by omega)]
theorem cmpS_self (s : St) : cmpS s s = 0 := by unfold cmpS; simp [cmpI_self]
theorem bl_irr : ∀ l : List UInt8, Op.bytesLess l l = false
  | [] => rfl
  | x :: l => by
    unfold Op.bytesLess
    simp [bl_irr l]
theorem cmpT_self (s : ByteArray) : cmpT s s = 0 := by unfold cmpT; rw [if_neg (by rw [bl_irr]; simp), if_pos (by simp)]
theorem rowsC_self : ∀ l : List St, rowsC l l = 0
  | [] => rfl
  | a :: l => by
    unfold rowsC
    rw [if_neg (by rw [cmpS_self]; simp), rowsC_self l]
theorem cmpM_self (m : Mu) : cmpM m m = 0 := by
  unfold cmpM cmpL
  simp [fnz, cmpS_self, cmpI_self, cmpT_self, rowsC_self]
theorem cmpI_bd (x y : Int) : -1 ≤ cmpI x y ∧ cmpI x y ≤ 1 := by unfold cmpI; (repeat' split) <;> omega
theorem cmpS_bd (a b : St) : -1 ≤ cmpS a b ∧ cmpS a b ≤ 1 := by
  have := cmpI_bd a.x b.x; have := cmpI_bd a.y b.y; have := cmpI_bd a.z b.z
  unfold cmpS; repeat' split
  all_goals omega
theorem cmpT_bd (a b : ByteArray) : -1 ≤ cmpT a b ∧ cmpT a b ≤ 1 := by unfold cmpT; (repeat' split) <;> omega
theorem rowsC_bd : ∀ l m : List St, -1 ≤ rowsC l m ∧ rowsC l m ≤ 1
  | [], [] => by simp [rowsC]
  | [], _ :: _ => by simp [rowsC]
  | _ :: _, [] => by simp [rowsC]
  | a :: l, b :: m => by
    have := rowsC_bd l m
    have := cmpS_bd a b
    unfold rowsC; split <;> omega
theorem fnz_bd : ∀ l : List Int, (∀ x ∈ l, -1 ≤ x ∧ x ≤ 1) → -1 ≤ fnz l ∧ fnz l ≤ 1
  | [], _ => by simp [fnz]
  | x :: l, h => by
    have := fnz_bd l (fun y hy => h y (by simp [hy]))
    have := h x (by simp)
    unfold fnz; split <;> omega
theorem cmpM_bd (a b : Mu) : -1 ≤ cmpM a b ∧ cmpM a b ≤ 1 := by
  unfold cmpM cmpL
  apply fnz_bd
  intro x hx
  simp at hx
  rcases hx with rfl | rfl | rfl | rfl | rfl | rfl | rfl | rfl
  · exact cmpS_bd _ _
  · exact cmpI_bd _ _
  · exact cmpI_bd _ _
  · exact cmpT_bd _ _
  · exact cmpT_bd _ _
  · exact cmpT_bd _ _
  · exact cmpI_bd _ _
  · exact rowsC_bd _ _

def flatS (L : List St) : List Value := L.flatMap fun x => [.int .i64 x.x, .int .i64 x.y, .int .i64 x.z]
theorem flatS_len (L : List St) : (flatS L).length = L.length * 3 := by
  induction L with
  | nil => rfl
  | cons s L ih => simp only [flatS, List.flatMap_cons, List.length_append, List.length_cons] at *; rw [ih]; simp; omega
theorem flatS_app (L M : List St) : flatS (L ++ M) = flatS L ++ flatS M := by simp [flatS]
theorem flatS_at (L : List St) : ∀ (j : Nat) (h : j < L.length), (flatS L)[j * 3]? = some (.int .i64 L[j].x) ∧ (flatS L)[j * 3 + 1]? = some (.int .i64 L[j].y) ∧ (flatS L)[j * 3 + 2]? = some (.int .i64 L[j].z) := by
  induction L with
  | nil => intro j h; simp at h
  | cons s L ih =>
    intro j h
    have e : flatS (s :: L) = .int .i64 s.x :: .int .i64 s.y :: .int .i64 s.z :: flatS L := by simp [flatS]
    rw [e]
    cases j with
    | zero => exact ⟨rfl, rfl, rfl⟩
    | succ j =>
      have := ih j (by simpa using h)
      rw [show (j + 1) * 3 = j * 3 + 1 + 1 + 1 from by omega]
      simp only [List.getElem?_cons_succ, List.getElem_cons_succ]
      exact this
theorem flatS_one (L : List St) : ∀ u ∈ flatS L, u.oneCell' = true := by
  intro u hu
  simp only [flatS, List.mem_flatMap] at hu
  obtain ⟨x, _, hx⟩ := hu
  simp at hx
  rcases hx with rfl | rfl | rfl <;> rfl
/-- The cells of a stamp. -/
def SC (w : World) (b o : Nat) (e : St) : Prop := w.cell? ⟨b, o, none⟩ = some (.int .i64 e.x) ∧ w.cell? ⟨b, o + 1, none⟩ = some (.int .i64 e.y) ∧ w.cell? ⟨b, o + 2, none⟩ = some (.int .i64 e.z)
/-- A slice that reads as stamps. -/
def SI (w : World) (v : Value) (L : List St) : Prop :=
  ∃ a cap, v = .slice a L.length cap ∧ L.length ≤ cap ∧ (a = none → cap = 0) ∧ (L ≠ [] → ∃ b off, a = some ⟨b, off, none⟩ ∧ ∀ i (h : i < L.length), SC w b (off + i * 3) L[i])
theorem cell_nx {w w' : World} {p : Addr} {v : Value} (hb : Below w.heap.size w w') (h : w.cell? p = some v) : w'.cell? p = some v := by
  rw [hb.cell (World.block_lt_of_cell? _ _ h)]
  exact h
theorem SC.next {w w' : World} {b o : Nat} {e : St} (h : SC w b o e) (hb : Below w.heap.size w w') : SC w' b o e := ⟨cell_nx hb h.1, cell_nx hb h.2.1, cell_nx hb h.2.2⟩
theorem SI.next {w w' : World} {v : Value} {L : List St} (h : SI w v L) (hb : Below w.heap.size w w') : SI w' v L := by
  obtain ⟨a, cap, hv, hcap, hn, hr⟩ := h
  refine ⟨a, cap, hv, hcap, hn, fun h0 => ?_⟩
  obtain ⟨b, off, ha, hc⟩ := hr h0
  exact ⟨b, off, ha, fun i hi => (hc i hi).next hb⟩
theorem SI.form {w : World} {v : Value} {L : List St} (h : SI w v L) : ∃ a cap, v = .slice a L.length cap := by
  obtain ⟨a, cap, hv, _⟩ := h
  exact ⟨a, cap, hv⟩
theorem SI.at_ {w : World} {L : List St} {a : Option Addr} {c : Nat} (h : SI w (.slice a L.length c) L) (i : Nat) (hi : i < L.length) : ∃ b off, a = some ⟨b, off, none⟩ ∧ SC w b (off + i * 3) L[i] := by
  obtain ⟨a', cap', hv, _, _, hc⟩ := h
  obtain ⟨b, off, ha, hcell⟩ := hc (fun e => by rw [e] at hi; simp at hi)
  cases hv
  exact ⟨b, off, ha, hcell i hi⟩
/-- Stamps in a row of the call's own. -/
def SO (w : World) (B : Nat) (v : Value) (L : List St) : Prop := w.ownsRow B 37 3 v L.length (flatS L)
theorem SO.next {w w' : World} {B : Nat} {v : Value} {L : List St} (h : SO w B v L) (hb : Below w.heap.size w w') : SO w' B v L := own_next h hb
theorem SO.in_ {w : World} {B : Nat} {v : Value} {L : List St} (h : SO w B v L) : SI w v L := by
  rcases h.2 with ⟨hv, h0⟩ | ⟨g, cap, cur, hv, hB, hg, hc, hm, hs, ht⟩
  · have hl : L = [] := List.eq_nil_of_length_eq_zero h0
    subst hl
    exact ⟨none, 0, hv, Nat.le_refl _, fun _ => rfl, fun h => absurd rfl h⟩
  · refine ⟨_, cap, hv, by omega, fun h => (by cases h), fun _ => ⟨g, 0, rfl, fun i hi => ?_⟩⟩
    subst hv
    obtain ⟨f0, f1, f2⟩ := flatS_at L i hi
    have r0 := World.ownsRow.cellAt h (i * 3) (by omega)
    have r1 := World.ownsRow.cellAt h (i * 3 + 1) (by omega)
    have r2 := World.ownsRow.cellAt h (i * 3 + 2) (by omega)
    unfold SC
    rw [Nat.zero_add, r0, r1, r2]
    exact ⟨f0, f1, f2⟩
theorem SO.form {w : World} {B : Nat} {v : Value} {L : List St} (h : SO w B v L) : ∃ a cap, v = .slice a L.length cap := h.in_.form
theorem s_info : (Try.prog.info? 37).map (fun i => (i.zero, i.size, i.bytes)) = some (some (.agg #[.int .i64 0, .int .i64 0, .int .i64 0]), 3, 24) := by kernel_rfl
theorem addS (b off j : Nat) : (⟨b, off, none⟩ : Addr).add j = ⟨b, off + j, none⟩ := by unfold Addr.add; split <;> simp_all
theorem so_made (w : World) : SO (w.alloc (.cells #[] 37)) w.heap.size (.slice (some ⟨w.heap.size, 0, none⟩) 0 0) [] := World.ownsRow_made w #[] 0 (Nat.le_refl _) (by unfold maxLen; omega) rfl
/-- append of what reads as stamps onto a new row. -/
theorem wpList_appS {w : World} {ops : Array Oper} {rest : List Oper} {o : Oper} {a : Act} {Q : Exit → Act → World → Prop} (hgd : o.guard = none) (s x : Operand)
    (ho : o.op = .call { callee := .builtin .append, args := #[s, x], argTypes := #[38, 38] })
    (base : Nat) (v vx : Value) (L : List St) (hs : a.eval s = v) (hx : a.eval x = vx) (hown : SO w base v []) (hbs : SI w vx L) (hm : L.length ≤ 100000) (hbase : base ≤ w.heap.size)
    (h : ∀ v' w', SO w' base v' L → w.grownBy w' v.ownBlock → wpList Try.prog ops Q rest (a.put o.dst v') w') : wpList Try.prog ops Q (o :: rest) a w := by
  obtain ⟨i0, hi, hz0, hz1, hz2⟩ := info_parts s_info
  obtain ⟨ax, cap, rfl, hle, hn, hc⟩ := hbs
  cases ax with
  | none =>
    have hc0 := hn rfl
    have hl : L = [] := by apply List.eq_nil_of_length_eq_zero; omega
    subst hl
    subst hc0
    refine wpList_append_own_none hgd s x 38 ho base 37 i0 3 Try.underlying38 hi v 0 [] hs hown hx ?_
    exact h v w hown ⟨rfl, rfl, rfl, Nat.le_refl _, fun _ _ _ => rfl⟩
  | some ad =>
    refine wpList_append_own _ hgd s x 38 ho base 37 i0 _ 3 24 Try.underlying38 hi hz0 hz1 hz2 rfl (by decide) v 0 [] hs hown ad L.length cap (flatS L) hx (by rw [flatS_len]) ?_ (flatS_one L) (by unfold maxLen; omega) (by omega) hbase ?_
    · intro j u hu
      have hj : j < L.length * 3 := by have := (List.getElem?_eq_some_iff.1 hu).1; rwa [flatS_len] at this
      obtain ⟨b, off, hab, hcell⟩ := hc (fun e => by rw [e] at hj; simp at hj)
      cases hab
      have hi3 : j / 3 < L.length := by omega
      obtain ⟨f0, f1, f2⟩ := flatS_at L (j / 3) hi3
      obtain ⟨g0, g1, g2⟩ := hcell (j / 3) hi3
      rw [addS]
      rcases (show j = j / 3 * 3 ∨ j = j / 3 * 3 + 1 ∨ j = j / 3 * 3 + 2 from by omega) with e | e | e
      · rw [← e] at f0 g0
        rw [f0] at hu; cases hu; exact g0
      · rw [← e] at f1
        rw [Nat.add_assoc, ← e] at g1
        rw [f1] at hu; cases hu; exact g1
      · rw [← e] at f2
        rw [Nat.add_assoc, ← e] at g2
        rw [f2] at hu; cases hu; exact g2
    · intro v' w' hown' hgr' _
      refine h v' w' ?_ hgr'
      unfold SO
      simpa using hown'
set_option maxRecDepth 100000 in
theorem stclone_any (v : Value) (L : List St) (hm : L.length ≤ 100000) (w : World) (h : SI w v L) :
    Calls Try.prog 63 #[v] w fun e w' => ∃ v, e = .returned v ∧ SO w' w.heap.size v L ∧ Below w.heap.size w w' := by
  have HN := Lib.hid h
  obtain ⟨a, cap, rfl, hle, hn, hc⟩ := h
  clear hc
  cases a with
  | none =>
    have hc0 := hn rfl
    have hl : L = [] := by apply List.eq_nil_of_length_eq_zero; omega
    subst hl
    subst hc0
    have hnil : ∀ w, (binOp .eql 38 (.slice none 0 0) (.slice none 0 0)).run Try.prog w = .ok (.bool true) w := fun w : World => Lib.run_eql_slice_nil (P := Try.prog) w 38 37 none 0 0 0 0 Try.underlying38
    rw [show ([] : List St).length = 0 from rfl]
    clear hm HN hle hn
    go_enter Try.func63, Try.ntmps63
    go_wp2_with fail
    go_ret
    exact ⟨_, rfl, ⟨rfl, .inl ⟨rfl, rfl⟩⟩, Below.refl _ _⟩
  | some ad =>
    have hnil : ∀ w, (binOp .eql 38 (.slice (some ad) L.length cap) (.slice none 0 0)).run Try.prog w = .ok (.bool false) w := fun w : World => Lib.run_eql_slice_nil (P := Try.prog) w 38 37 (some ad) _ cap 0 0 Try.underlying38
    go_enter Try.func63, Try.ntmps63
    go_wp2_with (at_builtin; refine wpList_appS rfl (.tmp 5) (.tmp 6) rfl w.heap.size _ _ L rfl rfl (so_made w) (HN.out.next ((Below.refl _ _).alloc (Nat.le_refl _) _)) hm (by rw [World.size_alloc]; omega) ?_)
    intro v1 w1 hown1 hgr1
    have hb1 : Below w.heap.size w w1 := ((Below.refl _ w).alloc (Nat.le_refl _) _).grown hgr1 (by simp) (fun k hk => by cases hk; exact Nat.le_refl _)
    have hO := Lib.hid hown1
    clear hown1 hgr1 hnil hn
    go_wp2_with fail
    go_ret
    exact ⟨_, rfl, hO.out, hb1⟩
/-- A mutation's value: its cells, and where its stamps are. -/
def MV (w : World) (cs : Array Value) (m : Mu) : Prop := ∃ ov, cs = m.cells ov ∧ SI w ov m.over
theorem MV.next {w w' : World} {cs : Array Value} {m : Mu} (h : MV w cs m) (hb : Below w.heap.size w w') : MV w' cs m := by
  obtain ⟨ov, h1, h2⟩ := h
  exact ⟨ov, h1, h2.next hb⟩
end Go.Proofs.Ytljhnkcoknikgaa
