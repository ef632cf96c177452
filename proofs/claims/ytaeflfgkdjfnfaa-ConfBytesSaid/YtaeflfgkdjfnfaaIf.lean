/- Layer 3 (wire): a reader made; the chapter's example; the statement on bytes of numbers and texts. -/
import Derived.Test.YtaeflfgkdjfnfaaIe
import Derived.Test.YtaeflfgkdjfnfaaVo
namespace Go.Proofs.Ytaeflfgkdjfnfaa
open Go.RowKit

/-- A reader of bytes: they, how many are read, the fault. -/
def Rdr (w : World) (R : Nat) (v : Value) (l : List UInt8) (at_ : Nat) (why : Int) : Prop := Bx w R 198 #[v, .int .i64 at_, .int .i64 why] ∧ BS w v l
theorem newr_any (v : Value) (l : List UInt8) (hl : l.length ≤ 100000) (w : World) (h : BS w v l) :
    Calls Try.prog 100 #[v] w fun e w' => ∃ R vr, e = .returned (.pointer (some ⟨R, 0, none⟩)) ∧ Rdr w' R vr l 0 0 ∧ w.heap.size ≤ R ∧ (∀ k, vr.ownBlock = some k → k < R) ∧ Below w.heap.size w w' := by
  have C := Hid.mk' (bclone_any v l hl w h)
  clear h
  go_enter Try.func100, Try.ntmps100
  go_wp2_with fail
  refine (C.out).mono ?_; rintro e w1 ⟨v1, rfl, hO, hb1⟩
  have hlt : ∀ k, v1.ownBlock = some k → k < w1.heap.size := fun k hk => (hO.lt k hk).2
  have hbs := hO.bs
  obtain ⟨a, cap, rfl⟩ := hbs.form
  have H := Hid.mk' (And.intro hlt (And.intro hbs hb1))
  clear hO hlt hbs hb1
  go_wp2_with fail
  go_ret
  exact ⟨_, _, rfl, ⟨Bx.fresh _ _ _, H.out.2.1.next ((Below.refl _ _).alloc (Nat.le_refl _) _)⟩, H.out.2.2.size, H.out.1, H.out.2.2.alloc H.out.2.2.size _⟩
theorem ex_put (w : World) : Calls Try.prog 106 #[.slice none 0 0, .int .i64 300] w (Made w [130, 44]) := by
  have := put_any (.slice none 0 0) [] 300 (by omega) (by simp) w (BS.nil w)
  rw [show ([] : List UInt8) ++ put (300 : Int).toNat = [130, 44] from by decide] at this
  exact this
theorem ex_lit (w : World) : BS (w.alloc (.cells #[.int .u8 130, .int .u8 44] 5)) (.slice (some ⟨w.heap.size, 0, none⟩) 2 2) [130, 44] :=
  BO.bs (B := w.heap.size) (World.ownsRow_lit w #[.int .u8 130, .int .u8 44] 2 (Nat.le_refl _) (by decide) rfl)
theorem i64_top {n : Int} (h : (Lit.int .i64 n).wf = true) : n ≤ 9223372036854775807 := by
  have h2 : (decide (IntKind.i64.min ≤ n) && decide (n ≤ IntKind.i64.max)) = true := h
  rw [Bool.and_eq_true, decide_eq_true_eq, decide_eq_true_eq, show IntKind.i64.max = 9223372036854775807 from by decide] at h2
  exact h2.2
end Go.Proofs.Ytaeflfgkdjfnfaa
