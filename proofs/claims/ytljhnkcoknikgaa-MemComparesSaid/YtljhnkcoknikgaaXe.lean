/- Layer 7 (mut): the law's alive. -/
import Derived.Test.YtljhnkcoknikgaaXd
import Derived.Test.YtljhnkcoknikgaaOf
namespace Go.Proofs.Ytljhnkcoknikgaa
open Go.RowKit

theorem bclone0_any (w : World) : Calls Try.prog 118 #[.slice none 0 0] w fun e w' => e = .returned (.slice none 0 0) ∧ w' = w := by
  have hnil : ∀ w, (binOp .eql 59 (.slice none 0 0) (.slice none 0 0)).run Try.prog w = .ok (.bool true) w := fun w : World => Lib.run_eql_slice_nil (P := Try.prog) w 59 5 none 0 0 0 0 Try.underlying59
  go_enter Try.func118, Try.ntmps118
  go_wp2_with fail
  go_ret
  exact ⟨rfl, rfl⟩
theorem bs_fresh (w : World) (l : List UInt8) (cap : Nat) (h : l.length ≤ cap) : BS (w.alloc (.cells (bv l).toArray 5)) (.slice (some ⟨w.heap.size, 0, none⟩) l.length cap) l :=
  ⟨_, cap, rfl, h, fun e => (by cases e), fun _ => ⟨w.heap.size, 0, rfl, fun i hi => (Bx.fresh w 5 (bv l).toArray).read (by rw [Nat.zero_add, List.getElem?_toArray]; exact bv_at l i hi)⟩⟩
def exB : List UInt8 := [1, 107, 1, 1, 0, 0, 0, 1, 0, 0, 0]
theorem exB_is : [] ++ (put (⟨#[107]⟩ : ByteArray).size ++ (⟨#[107]⟩ : ByteArray).data.toList) ++ rest0 1 1 0 1 0 0 ⟨#[]⟩ ⟨#[]⟩ = exB := by decide
set_option maxRecDepth 100000 in
set_option maxHeartbeats 4000000 in
theorem put_k (w : World) : Calls Try.prog 76 #[.slice none 0 0, .agg #[.int .i64 1, .int .i64 1, .string ⟨#[107]⟩, .string ⟨#[]⟩, .string ⟨#[]⟩, .int .i64 0, .int .i64 1, .int .i64 0, .int .i64 0, .slice none 0 0]] w fun e w' => ∃ v, e = .returned v ∧ BS w' v exB ∧ Below w.heap.size w w' := by
  have hb0 : Below w.heap.size w (w.alloc (.cells #[.int .i64 1, .int .i64 1, .string ⟨#[107]⟩, .string ⟨#[]⟩, .string ⟨#[]⟩, .int .i64 0, .int .i64 1, .int .i64 0, .int .i64 0, .slice none 0 0] 40)) := (Below.refl _ _).alloc (Nat.le_refl _) _
  have HB := Lib.hid hb0
  have CC := Lib.hid (fun W => bclone0_any W)
  have CA := Lib.hid (fun (W : World) => (add0_any W.heap.size (.slice none 0 0) [] 1 1 0 1 0 0 ⟨#[107]⟩ ⟨#[]⟩ ⟨#[]⟩ (by decide) (by decide) (by decide) (by decide) (by decide) (by decide) (by decide) (by decide) (by decide) (by decide) W (Nat.le_refl _) (BO.nil W _)).mono (R' := fun e w' => ∃ v, e = .returned v ∧ BS w' v exB ∧ Below W.heap.size W w') (fun e w' ⟨v, h1, h2, h3⟩ => ⟨v, h1, by rw [exB_is] at h2; exact h2.bs, h3.below (Nat.le_refl _)⟩))
  clear hb0
  go_enter Try.func76, Try.ntmps76
  go_wp2_with fail
  go_region_with (first | (go_at_call 118; refine (CC.out _).mono ?_; rintro e w1 ⟨rfl, rfl⟩) | (go_at_call 117; refine (CA.out _).mono ?_; rintro e w2 ⟨v2, rfl, hv, hb⟩))
  all_goals
    have H2 := Lib.hid (And.intro hv (bnext HB.out.drew hb))
    clear hv hb
    go_wp2_with fail
    go_ret
    exact ⟨_, rfl, H2.out.1, H2.out.2⟩
set_option maxRecDepth 100000 in
set_option maxHeartbeats 4000000 in
theorem right_k (w : World) : Calls Try.prog 75 #[.agg #[.int .i64 1, .int .i64 1, .string ⟨#[107]⟩, .string ⟨#[]⟩, .string ⟨#[]⟩, .int .i64 0, .int .i64 1, .int .i64 0, .int .i64 0, .slice none 0 0]] w fun e w' => e = .returned (.bool true) ∧ Below w.heap.size w w' := by
  have H0 := Lib.hid (show Below w.heap.size w (w.alloc (.cells #[.int .i64 1, .int .i64 1, .string ⟨#[107]⟩, .string ⟨#[]⟩, .string ⟨#[]⟩, .int .i64 0, .int .i64 1, .int .i64 0, .int .i64 0, .slice none 0 0] 40)) ∧ Bx (w.alloc (.cells #[.int .i64 1, .int .i64 1, .string ⟨#[107]⟩, .string ⟨#[]⟩, .string ⟨#[]⟩, .int .i64 0, .int .i64 1, .int .i64 0, .int .i64 0, .slice none 0 0] 40)) w.heap.size 40 #[.int .i64 1, .int .i64 1, .string ⟨#[107]⟩, .string ⟨#[]⟩, .string ⟨#[]⟩, .int .i64 0, .int .i64 1, .int .i64 0, .int .i64 0, .slice none 0 0] from ⟨(Below.refl _ _).alloc (Nat.le_refl _) _, Bx.fresh _ _ _⟩)
  have C1 := Lib.hid (fun W => kind_k W)
  have C2 := Lib.hid (fun W => (show Calls Try.prog 111 #[.agg #[.int .i64 1, .int .i64 0, .int .i64 0]] W fun e w' => e = .returned (.bool true) ∧ Below W.heap.size W w' from right_any ⟨1, 0, 0⟩ W))
  have C3 := Lib.hid (fun W => over_k W)
  have C4 := Lib.hid (fun W => key_k W)
  have C5 := Lib.hid (fun W => end_k W)
  have C6 := Lib.hid (fun W => val_k W)
  have C7 := Lib.hid (fun W => expiry_k W)
  go_enter Try.func75, Try.ntmps75
  go_wp2_with fail
  refine (C1.out _).mono ?_; rintro e w1 ⟨rfl, hb⟩
  have H1 := Lib.hid (And.intro (bnext H0.out.1 hb) (H0.out.2.next hb))
  have r6 := H1.out.2.read (i := 6) rfl
  have r7 := H1.out.2.read (i := 7) rfl
  have r8 := H1.out.2.read (i := 8) rfl
  clear hb H0
  go_wp2_with fail
  clear r6 r7 r8
  refine (C2.out _).mono ?_; rintro e w2 ⟨rfl, hb⟩
  have H2 := Lib.hid (And.intro (bnext H1.out.1 hb) (H1.out.2.next hb))
  have r0 := H2.out.2.read (i := 0) rfl
  have r1 := H2.out.2.read (i := 1) rfl
  have r2 := H2.out.2.read (i := 2) rfl
  have r3 := H2.out.2.read (i := 3) rfl
  have r4 := H2.out.2.read (i := 4) rfl
  have r5 := H2.out.2.read (i := 5) rfl
  have r6 := H2.out.2.read (i := 6) rfl
  have r7 := H2.out.2.read (i := 7) rfl
  have r8 := H2.out.2.read (i := 8) rfl
  have r9 := H2.out.2.read (i := 9) rfl
  clear hb H1
  go_wp2_with fail
  clear r0 r1 r2 r3 r4 r5 r6 r7 r8 r9
  refine (C3.out _).mono ?_; rintro e w3 ⟨rfl, hb⟩
  have H3 := Lib.hid (And.intro (bnext H2.out.1 hb) (H2.out.2.next hb))
  have r2 := H3.out.2.read (i := 2) rfl
  clear hb H2
  go_wp2_with fail
  clear r2
  refine (C4.out _).mono ?_; rintro e w4 ⟨rfl, hb⟩
  have H4 := Lib.hid (And.intro (bnext H3.out.1 hb) (H3.out.2.next hb))
  have r0 := H4.out.2.read (i := 0) rfl
  have r1 := H4.out.2.read (i := 1) rfl
  have r2 := H4.out.2.read (i := 2) rfl
  have r3 := H4.out.2.read (i := 3) rfl
  have r4 := H4.out.2.read (i := 4) rfl
  have r5 := H4.out.2.read (i := 5) rfl
  have r6 := H4.out.2.read (i := 6) rfl
  have r7 := H4.out.2.read (i := 7) rfl
  have r8 := H4.out.2.read (i := 8) rfl
  have r9 := H4.out.2.read (i := 9) rfl
  clear hb H3
  go_wp2_with fail
  clear r0 r1 r2 r3 r4 r5 r6 r7 r8 r9
  refine (C5.out _).mono ?_; rintro e w5 ⟨rfl, hb⟩
  have H5 := Lib.hid (And.intro (bnext H4.out.1 hb) (H4.out.2.next hb))
  have r0 := H5.out.2.read (i := 0) rfl
  have r1 := H5.out.2.read (i := 1) rfl
  have r2 := H5.out.2.read (i := 2) rfl
  have r3 := H5.out.2.read (i := 3) rfl
  have r4 := H5.out.2.read (i := 4) rfl
  have r5 := H5.out.2.read (i := 5) rfl
  have r6 := H5.out.2.read (i := 6) rfl
  have r7 := H5.out.2.read (i := 7) rfl
  have r8 := H5.out.2.read (i := 8) rfl
  have r9 := H5.out.2.read (i := 9) rfl
  clear hb H4
  go_wp2_with fail
  clear r0 r1 r2 r3 r4 r5 r6 r7 r8 r9
  refine (C6.out _).mono ?_; rintro e w6 ⟨rfl, hb⟩
  have H6 := Lib.hid (And.intro (bnext H5.out.1 hb) (H5.out.2.next hb))
  have r0 := H6.out.2.read (i := 0) rfl
  have r1 := H6.out.2.read (i := 1) rfl
  have r2 := H6.out.2.read (i := 2) rfl
  have r3 := H6.out.2.read (i := 3) rfl
  have r4 := H6.out.2.read (i := 4) rfl
  have r5 := H6.out.2.read (i := 5) rfl
  have r6 := H6.out.2.read (i := 6) rfl
  have r7 := H6.out.2.read (i := 7) rfl
  have r8 := H6.out.2.read (i := 8) rfl
  have r9 := H6.out.2.read (i := 9) rfl
  clear hb H5
  go_wp2_with fail
  clear r0 r1 r2 r3 r4 r5 r6 r7 r8 r9
  refine (C7.out _).mono ?_; rintro e w7 ⟨rfl, hb⟩
  have H7 := Lib.hid (And.intro (bnext H6.out.1 hb) (H6.out.2.next hb))
  clear hb H6
  go_wp2_with fail
  go_ret
  exact ⟨rfl, H7.out.1⟩
set_option maxRecDepth 100000 in
set_option maxHeartbeats 4000000 in
theorem alive07_any (w : World) : Calls Try.prog 27 #[] w fun e w' => e = .returned (.bool true) ∧ Below w.heap.size w w' := by
  have H0 := Lib.hid (show Below w.heap.size w (w.alloc (.cells #[.int .i64 1, .int .i64 1, .string ⟨#[107]⟩, .string ⟨#[]⟩, .string ⟨#[]⟩, .int .i64 0, .int .i64 1, .int .i64 0, .int .i64 0, .slice none 0 0] 40)) ∧ Bx (w.alloc (.cells #[.int .i64 1, .int .i64 1, .string ⟨#[107]⟩, .string ⟨#[]⟩, .string ⟨#[]⟩, .int .i64 0, .int .i64 1, .int .i64 0, .int .i64 0, .slice none 0 0] 40)) w.heap.size 40 #[.int .i64 1, .int .i64 1, .string ⟨#[107]⟩, .string ⟨#[]⟩, .string ⟨#[]⟩, .int .i64 0, .int .i64 1, .int .i64 0, .int .i64 0, .slice none 0 0] from ⟨(Below.refl _ _).alloc (Nat.le_refl _) _, Bx.fresh _ _ _⟩)
  have C1 := Lib.hid (fun W => right_k W)
  have C2 := Lib.hid (fun W => put_k W)
  have C3 := Lib.hid (fun W v1 v2 h1 h2 => equal_yes v1 v2 exB (by decide) W h1 h2)
  go_enter Try.func27, Try.ntmps27
  go_wp2_with fail
  refine (C1.out _).mono ?_; rintro e w1 ⟨rfl, hb⟩
  have H1 := Lib.hid (And.intro (bnext H0.out.1 hb) (H0.out.2.next hb))
  have r0 := H1.out.2.read (i := 0) rfl
  have r1 := H1.out.2.read (i := 1) rfl
  have r2 := H1.out.2.read (i := 2) rfl
  have r3 := H1.out.2.read (i := 3) rfl
  have r4 := H1.out.2.read (i := 4) rfl
  have r5 := H1.out.2.read (i := 5) rfl
  have r6 := H1.out.2.read (i := 6) rfl
  have r7 := H1.out.2.read (i := 7) rfl
  have r8 := H1.out.2.read (i := 8) rfl
  have r9 := H1.out.2.read (i := 9) rfl
  clear hb H0
  go_wp2_with fail
  refine (C2.out _).mono ?_; rintro e w2 ⟨v2, rfl, hv, hb⟩
  have H2 := Lib.hid (And.intro (bnext H1.out.1 hb) hv)
  obtain ⟨a2, c2, rfl⟩ := hv.form
  clear hb hv H1 r0 r1 r2 r3 r4 r5 r6 r7 r8 r9
  go_wp2_with fail
  have HF := Lib.hid (show BS (w2.alloc (.cells #[.int .u8 1, .int .u8 107, .int .u8 1, .int .u8 1, .int .u8 0, .int .u8 0, .int .u8 0, .int .u8 1, .int .u8 0, .int .u8 0, .int .u8 0] 5)) (.slice (some ⟨w2.heap.size, 0, none⟩) 11 11) exB from bs_fresh w2 exB 11 (by decide))
  have hb3 : Below w2.heap.size w2 (w2.alloc (.cells #[.int .u8 1, .int .u8 107, .int .u8 1, .int .u8 1, .int .u8 0, .int .u8 0, .int .u8 0, .int .u8 1, .int .u8 0, .int .u8 0, .int .u8 0] 5)) := (Below.refl _ _).alloc (Nat.le_refl _) _
  refine (C3.out _ _ _ (H2.out.2.next hb3) HF.out).mono ?_; rintro e w4 ⟨rfl, hb⟩
  have H4 := Lib.hid (bnext (bnext H2.out.1 hb3) hb)
  clear hb hb3 HF
  go_wp2_with fail
  go_ret
  exact ⟨rfl, H4.out⟩
end Go.Proofs.Ytljhnkcoknikgaa
