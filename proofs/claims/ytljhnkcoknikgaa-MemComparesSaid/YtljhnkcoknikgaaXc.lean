/- Layer 7 (mut): the bytes of a mutation that supersedes nothing; the example's; the law's alive. -/
import Derived.Test.YtljhnkcoknikgaaXb
import Derived.Test.YtljhnkcoknikgaaXa
namespace Go.Proofs.Ytljhnkcoknikgaa
open Go.RowKit

/-- A mutation's bytes but for its key, if it supersedes nothing. -/
def rest0 (t k ex x y z : Int) (en val : ByteArray) : List UInt8 := put t.toNat ++ put k.toNat ++ (put en.size ++ en.data.toList) ++ (put val.size ++ val.data.toList) ++ put ex.toNat ++ (put x.toNat ++ put y.toNat ++ put z.toNat) ++ put 0
set_option maxRecDepth 100000 in
set_option maxHeartbeats 4000000 in
theorem addrest0_any (B : Nat) (v : Value) (l : List UInt8) (t k ex x y z : Int) (mk en val : ByteArray) (ht : t ≤ 9223372036854775807) (hk : k ≤ 9223372036854775807) (hex : ex ≤ 9223372036854775807) (hx : x ≤ 9223372036854775807) (hy : y ≤ 9223372036854775807) (hz : z ≤ 9223372036854775807) (hen : en.size ≤ 1000) (hval : val.size ≤ 1000) (hl : l.length ≤ 5000) (w : World) (hB : B ≤ w.heap.size) (h : BO w B v l) :
    Calls Try.prog 150 #[v, .agg #[.int .i64 t, .int .i64 k, .string mk, .string en, .string val, .int .i64 ex, .int .i64 x, .int .i64 y, .int .i64 z, .slice none 0 0]] w (Put7 w B (l ++ rest0 t k ex x y z en val)) := by
  have hb0 : Below w.heap.size w (w.alloc (.cells #[.int .i64 t, .int .i64 k, .string mk, .string en, .string val, .int .i64 ex, .int .i64 x, .int .i64 y, .int .i64 z, .slice none 0 0] 40)) := (Below.refl _ _).alloc (Nat.le_refl _) _
  have C := Lib.hid (fun v l n hn hl W hB h => addnum_any B v l n hn hl W hB h)
  have CS := Lib.hid (fun v l s h1 h2 h3 hl W hB h => addstamp_any B v l s h1 h2 h3 hl W hB h)
  have CT := Lib.hid (fun s hs W => text_any (.slice none 0 0) [] s hs (by simp) W (BS.nil W))
  have H0 := Lib.hid (show BO (w.alloc (.cells #[.int .i64 t, .int .i64 k, .string mk, .string en, .string val, .int .i64 ex, .int .i64 x, .int .i64 y, .int .i64 z, .slice none 0 0] 40)) B v l ∧ KU B w (w.alloc (.cells #[.int .i64 t, .int .i64 k, .string mk, .string en, .string val, .int .i64 ex, .int .i64 x, .int .i64 y, .int .i64 z, .slice none 0 0] 40)) ∧ Bx (w.alloc (.cells #[.int .i64 t, .int .i64 k, .string mk, .string en, .string val, .int .i64 ex, .int .i64 x, .int .i64 y, .int .i64 z, .slice none 0 0] 40)) w.heap.size 40 #[.int .i64 t, .int .i64 k, .string mk, .string en, .string val, .int .i64 ex, .int .i64 x, .int .i64 y, .int .i64 z, .slice none 0 0] from ⟨h.next hb0, KU.of_below hb0, Bx.fresh _ _ _⟩)
  have hB0 : B ≤ (w.alloc (.cells #[.int .i64 t, .int .i64 k, .string mk, .string en, .string val, .int .i64 ex, .int .i64 x, .int .i64 y, .int .i64 z, .slice none 0 0] 40)).heap.size := by rw [World.size_alloc]; omega
  have HB := Lib.hid hB0
  have pt := put_len t.toNat
  have pk := put_len k.toNat
  have pen := put_len en.size
  have pval := put_len val.size
  have pex := put_len ex.toNat
  have px := put_len x.toNat
  have py := put_len y.toNat
  have pz := put_len z.toNat
  have p0 := put_len 0
  have den := len_data en
  have dval := len_data val
  obtain ⟨a0, c0, rfl⟩ := h.bs.form
  clear h hb0 hB0
  go_enter Try.func150, Try.ntmps150
  go_wp2_with fail
  refine (C.out _ _ _ ht (by omega) _ (HB.out) H0.out.1).mono ?_; rintro e w1 ⟨v1, rfl, hO, hku⟩
  obtain ⟨l1, hl1⟩ : ∃ l1, l1 = l ++ put t.toNat := ⟨_, rfl⟩
  rw [← hl1] at hO
  have n1 : l1.length ≤ 5010 := by rw [hl1]; simp only [List.length_append]; omega
  have L1 := Lib.hid hl1
  have H1 := Lib.hid (show BO w1 B v1 l1 ∧ KU B w w1 ∧ Bx w1 w.heap.size 40 #[.int .i64 t, .int .i64 k, .string mk, .string en, .string val, .int .i64 ex, .int .i64 x, .int .i64 y, .int .i64 z, .slice none 0 0] from ⟨hO, H0.out.2.1.trans hku, H0.out.2.2.ku (by decide) hku⟩)
  obtain ⟨a1, c1, rfl⟩ := hO.bs.form
  have r1_1 := H1.out.2.2.read (i := 1) rfl
  clear hO hku hl1
  go_wp2_with fail
  refine (C.out _ _ _ hk (by omega) _ (Nat.le_trans hB H1.out.2.1.size) H1.out.1).mono ?_; rintro e w2 ⟨v2, rfl, hO, hku⟩
  obtain ⟨l2, hl2⟩ : ∃ l2, l2 = l1 ++ put k.toNat := ⟨_, rfl⟩
  rw [← hl2] at hO
  have n2 : l2.length ≤ 5020 := by rw [hl2]; simp only [List.length_append]; omega
  have L2 := Lib.hid hl2
  have H2 := Lib.hid (show BO w2 B v2 l2 ∧ KU B w w2 ∧ Bx w2 w.heap.size 40 #[.int .i64 t, .int .i64 k, .string mk, .string en, .string val, .int .i64 ex, .int .i64 x, .int .i64 y, .int .i64 z, .slice none 0 0] from ⟨hO, H1.out.2.1.trans hku, H1.out.2.2.ku (by decide) hku⟩)
  obtain ⟨a2, c2, rfl⟩ := hO.bs.form
  have r2_3 := H2.out.2.2.read (i := 3) rfl
  clear hO hku hl2
  go_wp2_with fail
  refine (CT.out en (by omega) _).mono ?_; rintro e u3 ⟨q3, rfl, hQ, hq⟩
  rw [List.nil_append] at hQ
  obtain ⟨sg3, hsg⟩ : ∃ sg, sg = put en.size ++ en.data.toList := ⟨_, rfl⟩
  rw [← hsg] at hQ
  have HSG3 := Lib.hid hsg
  have HQ := Lib.hid (show BS u3 q3 sg3 ∧ BO u3 B _ l2 ∧ KU B w u3 ∧ Bx u3 w.heap.size 40 #[.int .i64 t, .int .i64 k, .string mk, .string en, .string val, .int .i64 ex, .int .i64 x, .int .i64 y, .int .i64 z, .slice none 0 0] ∧ B ≤ u3.heap.size from ⟨hQ.bs, H2.out.1.next hq, H2.out.2.1.trans (KU.of_below hq), H2.out.2.2.next hq, Nat.le_trans (Nat.le_trans hB H2.out.2.1.size) hq.size⟩)
  obtain ⟨qa3, qc3, rfl⟩ := hQ.bs.form
  have hln : l2.length + sg3.length ≤ 100000 := by rw [hsg, List.length_append]; omega
  have hbs := HQ.out.2.2.2.2
  clear hQ hq hsg
  go_wp2_with (at_builtin; refine wpList_append_bs rfl (.tmp 15) (.tmp 18) rfl B _ _ l2 sg3 rfl rfl HQ.out.2.1 HQ.out.1 hln hbs ?_)
  intro v3 w3 hO hgg
  have hku : KU B u3 w3 := KU.of_grown HQ.out.2.1 hgg
  rw [HSG3.out] at hO
  clear hgg
  obtain ⟨l3, hl3⟩ : ∃ l3, l3 = l2 ++ (put en.size ++ en.data.toList) := ⟨_, rfl⟩
  rw [← hl3] at hO
  have n3 : l3.length ≤ 6030 := by rw [hl3]; simp only [List.length_append]; omega
  have L3 := Lib.hid hl3
  have H3 := Lib.hid (show BO w3 B v3 l3 ∧ KU B w w3 ∧ Bx w3 w.heap.size 40 #[.int .i64 t, .int .i64 k, .string mk, .string en, .string val, .int .i64 ex, .int .i64 x, .int .i64 y, .int .i64 z, .slice none 0 0] from ⟨hO, HQ.out.2.2.1.trans hku, HQ.out.2.2.2.1.ku (by decide) hku⟩)
  obtain ⟨a3, c3, rfl⟩ := hO.bs.form
  have r3_4 := H3.out.2.2.read (i := 4) rfl
  clear hO hku hl3
  go_wp2_with fail
  refine (CT.out val (by omega) _).mono ?_; rintro e u4 ⟨q4, rfl, hQ, hq⟩
  rw [List.nil_append] at hQ
  obtain ⟨sg4, hsg⟩ : ∃ sg, sg = put val.size ++ val.data.toList := ⟨_, rfl⟩
  rw [← hsg] at hQ
  have HSG4 := Lib.hid hsg
  have HQ := Lib.hid (show BS u4 q4 sg4 ∧ BO u4 B _ l3 ∧ KU B w u4 ∧ Bx u4 w.heap.size 40 #[.int .i64 t, .int .i64 k, .string mk, .string en, .string val, .int .i64 ex, .int .i64 x, .int .i64 y, .int .i64 z, .slice none 0 0] ∧ B ≤ u4.heap.size from ⟨hQ.bs, H3.out.1.next hq, H3.out.2.1.trans (KU.of_below hq), H3.out.2.2.next hq, Nat.le_trans (Nat.le_trans hB H3.out.2.1.size) hq.size⟩)
  obtain ⟨qa4, qc4, rfl⟩ := hQ.bs.form
  have hln : l3.length + sg4.length ≤ 100000 := by rw [hsg, List.length_append]; omega
  have hbs := HQ.out.2.2.2.2
  clear hQ hq hsg
  go_wp2_with (at_builtin; refine wpList_append_bs rfl (.tmp 20) (.tmp 23) rfl B _ _ l3 sg4 rfl rfl HQ.out.2.1 HQ.out.1 hln hbs ?_)
  intro v4 w4 hO hgg
  have hku : KU B u4 w4 := KU.of_grown HQ.out.2.1 hgg
  rw [HSG4.out] at hO
  clear hgg
  obtain ⟨l4, hl4⟩ : ∃ l4, l4 = l3 ++ (put val.size ++ val.data.toList) := ⟨_, rfl⟩
  rw [← hl4] at hO
  have n4 : l4.length ≤ 7040 := by rw [hl4]; simp only [List.length_append]; omega
  have L4 := Lib.hid hl4
  have H4 := Lib.hid (show BO w4 B v4 l4 ∧ KU B w w4 ∧ Bx w4 w.heap.size 40 #[.int .i64 t, .int .i64 k, .string mk, .string en, .string val, .int .i64 ex, .int .i64 x, .int .i64 y, .int .i64 z, .slice none 0 0] from ⟨hO, HQ.out.2.2.1.trans hku, HQ.out.2.2.2.1.ku (by decide) hku⟩)
  obtain ⟨a4, c4, rfl⟩ := hO.bs.form
  have r4_5 := H4.out.2.2.read (i := 5) rfl
  clear hO hku hl4
  go_wp2_with fail
  refine (C.out _ _ _ hex (by omega) _ (Nat.le_trans hB H4.out.2.1.size) H4.out.1).mono ?_; rintro e w5 ⟨v5, rfl, hO, hku⟩
  obtain ⟨l5, hl5⟩ : ∃ l5, l5 = l4 ++ put ex.toNat := ⟨_, rfl⟩
  rw [← hl5] at hO
  have n5 : l5.length ≤ 7050 := by rw [hl5]; simp only [List.length_append]; omega
  have L5 := Lib.hid hl5
  have H5 := Lib.hid (show BO w5 B v5 l5 ∧ KU B w w5 ∧ Bx w5 w.heap.size 40 #[.int .i64 t, .int .i64 k, .string mk, .string en, .string val, .int .i64 ex, .int .i64 x, .int .i64 y, .int .i64 z, .slice none 0 0] from ⟨hO, H4.out.2.1.trans hku, H4.out.2.2.ku (by decide) hku⟩)
  obtain ⟨a5, c5, rfl⟩ := hO.bs.form
  have r5_6 := H5.out.2.2.read (i := 6) rfl
  have r5_7 := H5.out.2.2.read (i := 7) rfl
  have r5_8 := H5.out.2.2.read (i := 8) rfl
  clear hO hku hl5
  go_wp2_with fail
  refine (CS.out _ _ ⟨x, y, z⟩ hx hy hz (by omega) _ (Nat.le_trans hB H5.out.2.1.size) H5.out.1).mono ?_; rintro e w6 ⟨v6, rfl, hO, hku⟩
  rw [List.append_assoc, List.append_assoc, ← List.append_assoc (put x.toNat)] at hO
  obtain ⟨l6, hl6⟩ : ∃ l6, l6 = l5 ++ (put x.toNat ++ put y.toNat ++ put z.toNat) := ⟨_, rfl⟩
  rw [← hl6] at hO
  have n6 : l6.length ≤ 7080 := by rw [hl6]; simp only [List.length_append]; omega
  have L6 := Lib.hid hl6
  have H6 := Lib.hid (show BO w6 B v6 l6 ∧ KU B w w6 ∧ Bx w6 w.heap.size 40 #[.int .i64 t, .int .i64 k, .string mk, .string en, .string val, .int .i64 ex, .int .i64 x, .int .i64 y, .int .i64 z, .slice none 0 0] from ⟨hO, H5.out.2.1.trans hku, H5.out.2.2.ku (by decide) hku⟩)
  obtain ⟨a6, c6, rfl⟩ := hO.bs.form
  have r6_9 := H6.out.2.2.read (i := 9) rfl
  clear hO hku hl6
  go_wp2_with fail
  refine (C.out _ _ 0 (by decide) (by omega) _ (Nat.le_trans hB H6.out.2.1.size) H6.out.1).mono ?_; rintro e w7 ⟨v7, rfl, hO, hku⟩
  rw [show (0 : Int).toNat = 0 from rfl] at hO
  obtain ⟨l7, hl7⟩ : ∃ l7, l7 = l6 ++ put 0 := ⟨_, rfl⟩
  rw [← hl7] at hO
  have n7 : l7.length ≤ 7090 := by rw [hl7]; simp only [List.length_append]; omega
  have L7 := Lib.hid hl7
  have H7 := Lib.hid (show BO w7 B v7 l7 ∧ KU B w w7 ∧ Bx w7 w.heap.size 40 #[.int .i64 t, .int .i64 k, .string mk, .string en, .string val, .int .i64 ex, .int .i64 x, .int .i64 y, .int .i64 z, .slice none 0 0] from ⟨hO, H6.out.2.1.trans hku, H6.out.2.2.ku (by decide) hku⟩)
  obtain ⟨a7, c7, rfl⟩ := hO.bs.form
  have r7_9 := H7.out.2.2.read (i := 9) rfl
  clear hO hku hl7
  go_wp2_with fail
  refine wp_loop_rounds 4 ?_
  rw [rounds_succ]
  go_wp2_with fail
  have hl7 : l7 = l ++ rest0 t k ex x y z en val := by
    unfold rest0
    rw [L7.out, L6.out, L5.out, L4.out, L3.out, L2.out, L1.out]
    simp only [List.append_assoc]
  go_ret
  exact ⟨_, rfl, by rw [← hl7]; exact H7.out.1, H7.out.2.1⟩
end Go.Proofs.Ytljhnkcoknikgaa
