/- Layer 5 (vector): how rows cover each other, plainly; vectors in memory that are as long as their rows. -/
import Derived.Test.YtaeflfgkdjfnfaaQk
import Derived.Test.YtaeflfgkdjfnfaaYk
namespace Go.Proofs.Ytaeflfgkdjfnfaa
open Go.RowKit

def covL (la l : List (Int × Int)) : Bool := l.all fun x => decide (x.2 ≤ getL la x.1)
theorem covL_drop (la l : List (Int × Int)) (k : Nat) (hk : k < l.length) : covL la (l.drop k) = (decide (l[k].2 ≤ getL la l[k].1) && covL la (l.drop (k + 1))) := by
  unfold covL
  rw [List.drop_eq_getElem_cons hk, List.all_cons]
theorem getL_not : ∀ (l : List (Int × Int)) (k : Int), (∀ y ∈ l, y.1 ≠ k) → getL l k = 0
  | [], _, _ => rfl
  | x :: l, k, h => by
    unfold getL
    rw [if_neg (h x (by simp))]
    exact getL_not l k (fun y hy => h y (by simp [hy]))
theorem covL_iff {la l : List (Int × Int)} (ha : SR la) (hl : SR l) : covL la l = true ↔ ∀ k, getL l k ≤ getL la k := by
  unfold covL
  rw [List.all_eq_true]
  constructor
  · intro h k
    by_cases hk : ∃ n, (k, n) ∈ l
    · obtain ⟨n, hn⟩ := hk
      have h1 := getL_pos hl hn
      have h2 := h _ hn
      rw [decide_eq_true_eq] at h2
      dsimp only at h1 h2
      omega
    · rw [getL_not l k (fun y hy e => hk ⟨y.2, by rw [← e]; exact hy⟩)]
      exact getL_nn ha k
  · intro h x hx
    have h1 := getL_pos hl hx
    have h2 := h x.1
    rw [decide_eq_true_eq]
    omega
theorem mem_stJ {l : List (Int × Int)} (h : SR l) {x y : Int × Int} (hy : y ∈ stJ l x) : y = x ∨ y ∈ l := by
  unfold stJ at hy
  split at hy
  · rw [setL_ins h.1] at hy; exact mem_ins hy
  · exact .inr hy
theorem mem_joinL {a b : List (Int × Int)} (ha : SR a) (hb : SR b) {y : Int × Int} (hy : y ∈ joinL a b) : y ∈ a ∨ y ∈ b := by
  unfold joinL at hy
  have h := hb.2
  clear hb
  induction b generalizing a with
  | nil => exact .inl hy
  | cons x b ih =>
    rw [List.foldl_cons] at hy
    rcases ih (a := stJ a x) (by rw [stJ_eq (h x (by simp))]; exact ha.st x) hy (fun z hz => h z (by simp [hz])) with h1 | h1
    · rcases mem_stJ ha h1 with rfl | h1
      · exact .inr (by simp)
      · exact .inl h1
    · exact .inr (by simp [h1])
theorem iw_between {n m : Int} (h0 : 0 ≤ n) (h1 : n ≤ m) (hm : IW m) : IW n := by
  unfold IW at *
  have hm2 : (decide (IntKind.i64.min ≤ m) && decide (m ≤ IntKind.i64.max)) = true := hm
  show (decide (IntKind.i64.min ≤ n) && decide (n ≤ IntKind.i64.max)) = true
  rw [Bool.and_eq_true, decide_eq_true_eq, decide_eq_true_eq, show IntKind.i64.min = -9223372036854775808 from by decide, show IntKind.i64.max = 9223372036854775807 from by decide] at *
  omega
theorem meet_iw {a b : List (Int × Int)} (hi : ∀ x ∈ a, IW x.1 ∧ IW x.2) : ∀ y ∈ meetL a b, IW y.1 ∧ IW y.2 := by
  intro y hy
  obtain ⟨x, hx, e1, e2, e3⟩ := mem_meet hy
  have h := hi x hx
  exact ⟨by rw [e1]; exact h.1, iw_between (by omega) (by omega) h.2⟩
theorem Szd.fo {D : DataW Unit} (h : Szd D) : ∀ ys : List (Int × Int), Szd (foD D ys)
  | [] => h
  | y :: ys => Szd.fo (h.lr y) ys
theorem Szd.meet (B : DataW Unit) (ys : List (Int × Int)) : Szd (meetD B ys) := by rw [meetD_fo]; exact Szd.nil.fo _
/-- A vector in memory, as long as its row. -/
def VW (w : World) (M b : Nat) (F : Int → Int) : Prop := ∃ n D, n ≤ b ∧ VM w M n D ∧ Szd D ∧ ∀ k, gI D k = F k
theorem VW.next {w w' : World} {M b : Nat} {F : Int → Int} (h : VW w M b F) (hb : Below w.heap.size w w') : VW w' M b F := by
  obtain ⟨n, D, h1, h2, h3⟩ := h
  exact ⟨n, D, h1, World.ownsMap.kept h2 (gb_below hb none) (by simp), h3⟩
theorem jnw {Ma Mb a b : Nat} {F G : Int → Int} (ha : a ≤ 10000) (hb : b ≤ 10000) (w : World) (h1 : VW w Ma a F) (h2 : VW w Mb b G) : Calls Try.prog 75 #[.map (some Ma), .map (some Mb)] w fun e w' => ∃ M, e = .returned (.map (some M)) ∧ VW w' M (a + b) (fun k => max (F k) (G k)) ∧ Below w.heap.size w w' := by
  obtain ⟨n1, A, b1, v1, g1, e1⟩ := h1
  obtain ⟨n2, B, b2, v2, g2, e2⟩ := h2
  refine (join_any Ma Mb n1 n2 A B (by omega) (by omega) w v1 v2).mono ?_
  rintro e w' ⟨M, n, ys, zs, rfl, ⟨ly, _⟩, ⟨lz, _⟩, hv, _, hn, hbl⟩
  exact ⟨M, rfl, ⟨n, _, by omega, hv, (Szd.nil.fo ys).fo zs, fun k => by rw [gI_join g1.2.1 g2.2.1 ly lz, e1, e2]⟩, hbl⟩
theorem mtw {Ma Mb a b : Nat} {F G : Int → Int} (ha : a ≤ 10000) (w : World) (h1 : VW w Ma a F) (h2 : VW w Mb b G) : Calls Try.prog 77 #[.map (some Ma), .map (some Mb)] w fun e w' => ∃ M, e = .returned (.map (some M)) ∧ VW w' M a (fun k => min (F k) (G k)) ∧ Below w.heap.size w w' := by
  obtain ⟨n1, A, b1, v1, g1, e1⟩ := h1
  obtain ⟨n2, B, b2, v2, g2, e2⟩ := h2
  refine (meet_any Ma Mb n1 n2 A B (by omega) w v1 v2).mono ?_
  rintro e w' ⟨M, n, ys, rfl, ⟨ly, _⟩, hv, _, hn, hbl⟩
  exact ⟨M, rfl, ⟨n, _, by omega, hv, Szd.meet B ys, fun k => by rw [gI_meet g1.2.1 g2.2.1 ly, e1, e2]⟩, hbl⟩
def ordV (p q : Bool) : Int := if p then (if q then 0 else 2) else if q then 1 else 3
theorem cmw {Ma Mb a b : Nat} {la l : List (Int × Int)} (ha : a ≤ 10000) (hb : b ≤ 10000) (sa : SR la) (sl : SR l) (w : World) (h1 : VW w Ma a (getL la)) (h2 : VW w Mb b (getL l)) : Calls Try.prog 80 #[.map (some Ma), .map (some Mb)] w fun e w' => e = .returned (.int .i64 (ordV (covL la l) (covL l la))) ∧ Below w.heap.size w w' := by
  obtain ⟨n1, A, b1, v1, g1, e1⟩ := h1
  obtain ⟨n2, B, b2, v2, g2, e2⟩ := h2
  have c1 : covL la l = true ↔ Cov A B := by rw [covL_iff sa sl]; exact ⟨fun h k => by rw [e1, e2]; exact h k, fun h k => by have := h k; rw [e1, e2] at this; exact this⟩
  have c2 : covL l la = true ↔ Cov B A := by rw [covL_iff sl sa]; exact ⟨fun h k => by rw [e1, e2]; exact h k, fun h k => by have := h k; rw [e1, e2] at this; exact this⟩
  refine (compare_any Ma Mb n1 n2 A B (by omega) (by omega) g1.2.1 g2.2.1 w v1 v2).mono ?_
  rintro e w' ⟨o, rfl, h0, h1, h2, h3, hbl⟩
  refine ⟨ret_o ?_, hbl⟩
  rw [← c1, ← c2] at h0 h1 h2 h3
  cases hp : covL la l <;> cases hq : covL l la <;> rw [hp, hq] at h0 h1 h2 h3
  · exact h3.2 (by simp)
  · exact h1.2 (by simp)
  · exact h2.2 (by simp)
  · exact h0.2 (by simp)
theorem cvw {Ma Mb a b : Nat} {la l : List (Int × Int)} (hb : b ≤ 10000) (sa : SR la) (sl : SR l) (w : World) (h1 : VW w Ma a (getL la)) (h2 : VW w Mb b (getL l)) : Calls Try.prog 79 #[.map (some Ma), .map (some Mb)] w fun e w' => e = .returned (.bool (covL la l)) ∧ Below w.heap.size w w' := by
  obtain ⟨n1, A, b1, v1, g1, e1⟩ := h1
  obtain ⟨n2, B, b2, v2, g2, e2⟩ := h2
  have c1 : covL la l = true ↔ Cov A B := by rw [covL_iff sa sl]; exact ⟨fun h k => by rw [e1, e2]; exact h k, fun h k => by have := h k; rw [e1, e2] at this; exact this⟩
  refine (covers_any Ma Mb n1 n2 A B (by omega) w v1 v2).mono ?_
  rintro e w' ⟨r, rfl, h, hbl⟩
  have hr : r = covL la l := by rw [Bool.eq_iff_iff, c1, h, cov_iff g1.2.1 g2.2.1]
  exact ⟨by rw [hr], hbl⟩
theorem isw {M b : Nat} {F : Int → Int} (vl : Value) (l : List (Int × Int)) (hl5 : l.length ≤ 100000) (hb : b ≤ 100000) (w : World) (hV : VW w M b F) (hD : DR w vl l) (hs : SR l) (heq : ∀ k, F k = getL l k) :
    Calls Try.prog 72 #[.map (some M), vl] w fun e w' => e = .returned (.bool true) ∧ Below w.heap.size w w' := by
  obtain ⟨n, D, h1, h2, h3, h4⟩ := hV
  exact is_any vl l hl5 M n D (by omega) w h2 h3.2.1 hD hs (fun k => by rw [h4, heq]) (h3.len hs (fun k => by rw [h4, heq]))
theorem lawofw (vl : Value) (l : List (Int × Int)) (hn : l.length ≤ 100) (w : World) (h : DR w vl l) : Calls Try.prog 67 #[vl] w fun e w' => ∃ M v2, e = .returned (.tuple #[.map (some M), v2]) ∧ VW w' M 100 (getL (ofL l)) ∧ DR w' v2 (ofL l) ∧ Below w.heap.size w w' := by
  have hi : ∀ x ∈ ofL l, IW x.1 ∧ IW x.2 := fun x hx => by obtain ⟨_, _, _, hi, _⟩ := h; exact hi x (mem_ofL hx)
  refine (lawof_any vl l (by omega) w h).mono ?_
  rintro e w' ⟨M, n, v2, rfl, hv, hn2, hd, _, hb⟩
  exact ⟨M, v2, rfl, ⟨n, _, by omega, hv, Szd.of l, fun k => by rw [gI_of, getL_of]⟩, hd.dr hi, hb⟩
end Go.Proofs.Ytaeflfgkdjfnfaa
