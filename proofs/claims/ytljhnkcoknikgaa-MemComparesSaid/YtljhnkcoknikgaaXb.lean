/- Layer 7 (mut): numbers, stamps and texts put behind bytes of one's own. -/
import Derived.Test.YtljhnkcoknikgaaX1
import Derived.Test.YtljhnkcoknikgaaK5
namespace Go.Proofs.Ytljhnkcoknikgaa
open Go.RowKit

/-- Blocks below B, and those that hold no bytes, are kept. -/
structure KU (B : Nat) (w w' : World) : Prop where
  os : w'.os = w.os
  tape : w'.tape = w.tape
  output : w'.output = w.output
  size : w.heap.size ≤ w'.heap.size
  block : ∀ k, k < w.heap.size → (k < B ∨ ∀ cs fr, w.heap[k]? ≠ some (.cells cs 5 fr)) → w'.heap[k]? = w.heap[k]?
theorem KU.refl (B : Nat) (w : World) : KU B w w := ⟨rfl, rfl, rfl, Nat.le_refl _, fun _ _ _ => rfl⟩
theorem KU.trans {B : Nat} {a b c : World} (h : KU B a b) (k : KU B b c) : KU B a c :=
  ⟨k.os.trans h.os, k.tape.trans h.tape, k.output.trans h.output, Nat.le_trans h.size k.size, fun i hi hr => by
    have e := h.block i hi hr
    rw [← e]
    refine k.block i (Nat.lt_of_lt_of_le hi h.size) ?_
    rcases hr with hr | hr
    · exact .inl hr
    · exact .inr (fun cs fr => by rw [e]; exact hr cs fr)⟩
theorem KU.of_below {B : Nat} {w w' : World} (h : Below w.heap.size w w') : KU B w w' := ⟨h.os, h.tape, h.output, h.size, fun k hk _ => h.block k hk⟩
theorem KU.of_grown {B : Nat} {w w' : World} {v : Value} {l : List UInt8} (hO : BO w B v l) (h : w.grownBy w' v.ownBlock) : KU B w w' := by
  refine ⟨h.os, h.tape, h.output, h.size, fun k hk hr => h.block k hk ?_⟩
  intro e
  rcases hO.2 with ⟨rfl, _⟩ | ⟨g, cap, cur, rfl, hB, hg, _⟩
  · cases e
  · cases e
    rcases hr with hr | hr
    · have h2 : g < B := hr
      omega
    · exact hr _ _ hg
theorem KU.below {B : Nat} {w w' : World} (h : KU B w w') (hB : B ≤ w.heap.size) : Below B w w' := ⟨h.os, h.tape, h.output, h.size, fun k hk => h.block k (by omega) (.inl hk)⟩
theorem Bx.ku {B : Nat} {w w' : World} {g : Nat} {t : TypeId} {cs : Array Value} (h : Bx w g t cs) (hne : t ≠ 5) (k : KU B w w') : Bx w' g t cs := by
  have hi := h.inside
  unfold Bx at h ⊢
  rw [← h]
  refine k.block g hi (.inr fun cs' fr' => ?_)
  rw [h]
  intro e
  cases e
  exact hne rfl
/-- What is put behind a row of bytes of the call's own. -/
def Put7 (w : World) (B : Nat) (l : List UInt8) (e : Ending) (w' : World) : Prop := ∃ v', e = .returned v' ∧ BO w' B v' l ∧ KU B w w'
theorem addnum_any (B : Nat) (v : Value) (l : List UInt8) (n : Int) (hn : n ≤ 9223372036854775807) (hl : l.length ≤ 10000) (w : World) (hB : B ≤ w.heap.size) (h : BO w B v l) :
    Calls Try.prog 168 #[v, .int .i64 n] w (Put7 w B (l ++ put n.toNat)) := by
  have HP := Lib.hid (put_any (.slice none 0 0) [] n hn (by simp) w (BS.nil w))
  have hpl := put_len n.toNat
  have HO := Lib.hid h
  obtain ⟨a0, c0, rfl⟩ := h.bs.form
  clear h
  go_enter Try.func168, Try.ntmps168
  go_wp2_with fail
  refine (HP.out).mono ?_; rintro e w1 ⟨v1, rfl, hO1, hb1⟩
  rw [List.nil_append] at hO1
  have hsz := hb1.size
  have H1 := Lib.hid (And.intro hO1.bs (And.intro (HO.out.next hb1) hb1))
  have hlen : l.length + (put n.toNat).length ≤ 100000 := by omega
  have hB1 : B ≤ w1.heap.size := by omega
  clear hO1 hb1 HP
  go_wp2_with (at_builtin; refine wpList_append_bs rfl (.tmp 5) (.tmp 7) rfl B _ v1 l (put n.toNat) rfl rfl H1.out.2.1 H1.out.1 hlen hB1 ?_; intro v3 w3 hO3 hg3)
  have hk : KU B w w3 := (KU.of_below H1.out.2.2).trans (KU.of_grown H1.out.2.1 hg3)
  clear hg3
  go_wp2_with fail
  go_ret
  exact ⟨_, rfl, hO3, hk⟩
set_option maxRecDepth 100000 in
theorem addstamp_any (B : Nat) (v : Value) (l : List UInt8) (s : St) (h1 : s.x ≤ 9223372036854775807) (h2 : s.y ≤ 9223372036854775807) (h3 : s.z ≤ 9223372036854775807) (hl : l.length ≤ 9000) (w : World) (hB : B ≤ w.heap.size) (h : BO w B v l) :
    Calls Try.prog 169 #[v, .agg s.cells] w (Put7 w B (l ++ put s.x.toNat ++ put s.y.toNat ++ put s.z.toNat)) := by
  obtain ⟨x, y, z⟩ := s
  unfold St.cells
  dsimp only at *
  have hb0 : Below w.heap.size w (w.alloc (.cells #[.int .i64 x, .int .i64 y, .int .i64 z] 37)) := (Below.refl _ _).alloc (Nat.le_refl _) _
  have C := Lib.hid (fun v l n hn hl W hB h => addnum_any B v l n hn hl W hB h)
  have px := put_len x.toNat
  have py := put_len y.toNat
  have H0 := Lib.hid (show BO (w.alloc (.cells #[.int .i64 x, .int .i64 y, .int .i64 z] 37)) B v l ∧ KU B w (w.alloc (.cells #[.int .i64 x, .int .i64 y, .int .i64 z] 37)) ∧ Bx (w.alloc (.cells #[.int .i64 x, .int .i64 y, .int .i64 z] 37)) w.heap.size 37 #[.int .i64 x, .int .i64 y, .int .i64 z] from ⟨h.next hb0, KU.of_below hb0, Bx.fresh _ _ _⟩)
  obtain ⟨a0, c0, rfl⟩ := h.bs.form
  clear h hb0
  have hB0 : B ≤ (w.alloc (.cells #[.int .i64 x, .int .i64 y, .int .i64 z] 37)).heap.size := by rw [World.size_alloc]; omega
  have HB := Lib.hid hB0
  clear hB0
  go_enter Try.func169, Try.ntmps169
  go_wp2_with fail
  refine (C.out _ _ _ h1 (by omega) _ HB.out H0.out.1).mono ?_; rintro e w1 ⟨v1, rfl, hO1, hk1⟩
  obtain ⟨l1, hl1⟩ : ∃ l1, l1 = l ++ put x.toNat := ⟨_, rfl⟩
  rw [← hl1] at hO1
  have n1 : l1.length ≤ 9010 := by rw [hl1, List.length_append]; omega
  have L1 := Lib.hid hl1
  have H1 := Lib.hid (And.intro hO1 (And.intro (H0.out.2.1.trans hk1) (H0.out.2.2.ku (by decide) hk1)))
  obtain ⟨a1, c1, rfl⟩ := hO1.bs.form
  have x0 := H1.out.2.2.read (i := 1) rfl
  clear hO1 hk1 H0 hl1
  go_wp2_with fail
  refine (C.out _ _ _ h2 (by omega) _ (Nat.le_trans hB H1.out.2.1.size) H1.out.1).mono ?_; rintro e w2 ⟨v2, rfl, hO2, hk2⟩
  obtain ⟨l2, hl2⟩ : ∃ l2, l2 = l1 ++ put y.toNat := ⟨_, rfl⟩
  rw [← hl2] at hO2
  have n2 : l2.length ≤ 9020 := by rw [hl2, List.length_append]; omega
  have L2 := Lib.hid hl2
  have H2 := Lib.hid (And.intro hO2 (And.intro (H1.out.2.1.trans hk2) (H1.out.2.2.ku (by decide) hk2)))
  obtain ⟨a2, c2, rfl⟩ := hO2.bs.form
  have x1 := H2.out.2.2.read (i := 2) rfl
  clear hO2 hk2 H1 x0 hl2
  go_wp2_with fail
  refine (C.out _ _ _ h3 (by omega) _ (Nat.le_trans hB H2.out.2.1.size) H2.out.1).mono ?_; rintro e w3 ⟨v3, rfl, hO3, hk3⟩
  have H3 := Lib.hid (And.intro hO3 (H2.out.2.1.trans hk3))
  clear hO3 hk3 H2 x1
  go_wp2_with fail
  go_ret
  exact ⟨_, rfl, by rw [← L1.out, ← L2.out]; exact H3.out.1, H3.out.2⟩
end Go.Proofs.Ytljhnkcoknikgaa
