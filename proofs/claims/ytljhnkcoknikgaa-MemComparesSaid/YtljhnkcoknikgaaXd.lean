/- Layer 7 (mut): the bytes of a mutation that supersedes nothing, with its key; the law's alive. -/
import Derived.Test.YtljhnkcoknikgaaXc
import Derived.Test.YtljhnkcoknikgaaX3
namespace Go.Proofs.Ytljhnkcoknikgaa
open Go.RowKit

set_option maxRecDepth 100000 in
set_option maxHeartbeats 4000000 in
theorem add0_any (B : Nat) (v : Value) (l : List UInt8) (t k ex x y z : Int) (mk en val : ByteArray) (ht : t ≤ 9223372036854775807) (hk : k ≤ 9223372036854775807) (hex : ex ≤ 9223372036854775807) (hx : x ≤ 9223372036854775807) (hy : y ≤ 9223372036854775807) (hz : z ≤ 9223372036854775807) (hmk : mk.size ≤ 1000) (hen : en.size ≤ 1000) (hval : val.size ≤ 1000) (hl : l.length ≤ 3000) (w : World) (hB : B ≤ w.heap.size) (h : BO w B v l) :
    Calls Try.prog 117 #[v, .agg #[.int .i64 t, .int .i64 k, .string mk, .string en, .string val, .int .i64 ex, .int .i64 x, .int .i64 y, .int .i64 z, .slice none 0 0]] w (Put7 w B (l ++ (put mk.size ++ mk.data.toList) ++ rest0 t k ex x y z en val)) := by
  have hb0 : Below w.heap.size w (w.alloc (.cells #[.int .i64 t, .int .i64 k, .string mk, .string en, .string val, .int .i64 ex, .int .i64 x, .int .i64 y, .int .i64 z, .slice none 0 0] 40)) := (Below.refl _ _).alloc (Nat.le_refl _) _
  have CR := Lib.hid (fun v l hl W hB h => addrest0_any B v l t k ex x y z mk en val ht hk hex hx hy hz hen hval hl W hB h)
  have CT := Lib.hid (fun W => text_any (.slice none 0 0) [] mk (by omega) (by simp) W (BS.nil W))
  have H0 := Lib.hid (show BO (w.alloc (.cells #[.int .i64 t, .int .i64 k, .string mk, .string en, .string val, .int .i64 ex, .int .i64 x, .int .i64 y, .int .i64 z, .slice none 0 0] 40)) B v l ∧ KU B w (w.alloc (.cells #[.int .i64 t, .int .i64 k, .string mk, .string en, .string val, .int .i64 ex, .int .i64 x, .int .i64 y, .int .i64 z, .slice none 0 0] 40)) ∧ Bx (w.alloc (.cells #[.int .i64 t, .int .i64 k, .string mk, .string en, .string val, .int .i64 ex, .int .i64 x, .int .i64 y, .int .i64 z, .slice none 0 0] 40)) w.heap.size 40 #[.int .i64 t, .int .i64 k, .string mk, .string en, .string val, .int .i64 ex, .int .i64 x, .int .i64 y, .int .i64 z, .slice none 0 0] from ⟨h.next hb0, KU.of_below hb0, Bx.fresh _ _ _⟩)
  have hB0 : B ≤ (w.alloc (.cells #[.int .i64 t, .int .i64 k, .string mk, .string en, .string val, .int .i64 ex, .int .i64 x, .int .i64 y, .int .i64 z, .slice none 0 0] 40)).heap.size := by rw [World.size_alloc]; omega
  have HB := Lib.hid hB0
  have pmk := put_len mk.size
  have dmk := len_data mk
  obtain ⟨a0, c0, rfl⟩ := h.bs.form
  clear h hb0 hB0
  go_enter Try.func117, Try.ntmps117
  go_wp2_with fail
  refine (CT.out _).mono ?_; rintro e u3 ⟨q3, rfl, hQ, hq⟩
  rw [List.nil_append] at hQ
  obtain ⟨sg3, hsg⟩ : ∃ sg, sg = put mk.size ++ mk.data.toList := ⟨_, rfl⟩
  rw [← hsg] at hQ
  have HSG3 := Lib.hid hsg
  have HQ := Lib.hid (show BS u3 q3 sg3 ∧ BO u3 B _ l ∧ KU B w u3 ∧ Bx u3 w.heap.size 40 _ ∧ B ≤ u3.heap.size from ⟨hQ.bs, H0.out.1.next hq, H0.out.2.1.trans (KU.of_below hq), H0.out.2.2.next hq, Nat.le_trans (HB.out) hq.size⟩)
  obtain ⟨qa3, qc3, rfl⟩ := hQ.bs.form
  have hln : l.length + sg3.length ≤ 100000 := by rw [hsg, List.length_append]; omega
  have hln2 : sg3.length ≤ 1010 := by rw [hsg, List.length_append]; omega
  have hbs := HQ.out.2.2.2.2
  clear hQ hq hsg H0
  go_wp2_with (at_builtin; refine wpList_append_bs rfl (.tmp 5) (.tmp 8) rfl B _ _ l sg3 rfl rfl HQ.out.2.1 HQ.out.1 hln hbs ?_)
  intro v3 w3 hO hgg
  have hku : KU B u3 w3 := KU.of_grown HQ.out.2.1 hgg
  clear hgg
  obtain ⟨l3, hl3⟩ : ∃ l3, l3 = l ++ sg3 := ⟨_, rfl⟩
  rw [← hl3] at hO
  have n3 : l3.length ≤ 5000 := by rw [hl3, List.length_append]; omega
  have L3 := Lib.hid hl3
  have H3 := Lib.hid (show BO w3 B v3 l3 ∧ KU B w w3 ∧ Bx w3 w.heap.size 40 _ from ⟨hO, HQ.out.2.2.1.trans hku, HQ.out.2.2.2.1.ku (by decide) hku⟩)
  obtain ⟨a3, c3, rfl⟩ := hO.bs.form
  have r0 := H3.out.2.2.read (i := 0) rfl
  have r1 := H3.out.2.2.read (i := 1) rfl
  have r2 := H3.out.2.2.read (i := 2) rfl
  have r3 := H3.out.2.2.read (i := 3) rfl
  have r4 := H3.out.2.2.read (i := 4) rfl
  have r5 := H3.out.2.2.read (i := 5) rfl
  have r6 := H3.out.2.2.read (i := 6) rfl
  have r7 := H3.out.2.2.read (i := 7) rfl
  have r8 := H3.out.2.2.read (i := 8) rfl
  have r9 := H3.out.2.2.read (i := 9) rfl
  clear hO hku hl3 HQ
  go_wp2_with fail
  refine (CR.out _ _ n3 _ (Nat.le_trans hB H3.out.2.1.size) H3.out.1).mono ?_; rintro e w4 ⟨v4, rfl, hO4, hk4⟩
  have H4 := Lib.hid (And.intro hO4 (H3.out.2.1.trans hk4))
  rw [L3.out, HSG3.out] at H4
  clear hO4 hk4 H3 r0 r1 r2 r3 r4 r5 r6 r7 r8 r9
  go_wp2_with fail
  go_ret
  exact ⟨_, rfl, H4.out.1, H4.out.2⟩
end Go.Proofs.Ytljhnkcoknikgaa
