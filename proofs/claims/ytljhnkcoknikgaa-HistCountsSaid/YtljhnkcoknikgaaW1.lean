/- Layer 44 (hist): Bucket, Bounds, the law's bucket. -/
import Derived.Test.YtljhnkcoknikgaaSx
import Derived.Test.YtljhnkcoknikgaaLh
import Derived.Lib.ItoaNum
namespace Go.Proofs.Ytljhnkcoknikgaa
open Go.RowKit

/-- The bucket of a number. -/
def bk (n : Int) : Nat := min (Lib.bitLen (max n 0).toNat) 23
theorem bk_lo (n : Int) (h : n ≤ 0) : bk n = 0 := by
  have e : (max n 0).toNat = 0 := by omega
  unfold bk
  rw [e]
  decide
theorem bk_len (n : Int) (h : 0 < n) (hn : n < 9223372036854775808) : 2 ^ (Lib.bitLen n.toNat - 1) ≤ n.toNat ∧ n.toNat < 2 ^ Lib.bitLen n.toNat ∧ 1 ≤ Lib.bitLen n.toNat := by
  obtain ⟨h1, h2, h3⟩ := Lib.bitLenAux_bounds 64 n.toNat (by omega) (by omega)
  exact ⟨h2, h3, h1⟩
theorem bk_at (n : Int) (k : Nat) (hk : k < 22) (h1 : ((2 ^ k : Nat) : Int) ≤ n) (h2 : n < ((2 ^ (k + 1) : Nat) : Int)) : bk n = k + 1 := by
  have hp : 0 < 2 ^ k := Nat.two_pow_pos k
  have hq : 2 ^ (k + 1) ≤ 2 ^ 22 := Nat.pow_le_pow_right (by omega) (by omega)
  have hq' : (2 : Nat) ^ 22 = 4194304 := by decide
  rw [hq'] at hq
  obtain ⟨a, b, c⟩ := bk_len n (by omega) (by omega)
  have e : (max n 0).toNat = n.toNat := by omega
  unfold bk
  rw [e]
  generalize Lib.bitLen n.toNat = L at *
  have hl : k < L := (Nat.pow_lt_pow_iff_right (a := 2) (by omega)).1 (by omega)
  have hl2 : L - 1 < k + 1 := (Nat.pow_lt_pow_iff_right (a := 2) (by omega)).1 (by omega)
  omega
theorem bk_hi (n : Int) (h : 4194304 ≤ n) (hn : n < 9223372036854775808) : bk n = 23 := by
  obtain ⟨a, b, c⟩ := bk_len n (by omega) (by omega)
  have e : (max n 0).toNat = n.toNat := by omega
  unfold bk
  rw [e]
  generalize Lib.bitLen n.toNat = L at *
  have hq' : (2 : Nat) ^ 22 = 4194304 := by decide
  have hl : 22 < L := (Nat.pow_lt_pow_iff_right (a := 2) (by omega)).1 (by omega)
  omega
theorem bk_le (n : Int) : bk n ≤ 23 := by unfold bk; omega
theorem bucket_any (n : Int) (hn : -9223372036854775808 ≤ n ∧ n < 9223372036854775808) (w : World) :
    Calls Try.prog 16 #[.int .i64 n] w fun e w' => e = .returned (.int .i64 (bk n : Nat)) ∧ w' = w := by
  have CL := Lib.hid (fun (x : Int) (h0 : 0 ≤ x) (h1 : x ≤ 18446744073709551615) W => Try.bits_Len x W h0 h1)
  have hw : IntKind.u64.wrap (max n 0) = max n 0 := by rw [IntKind.wrap_u64]; omega
  unfold bk
  go_enter Try.func16, Try.ntmps16
  go_wp2_with fail
  refine (CL.out _ ?h0 ?h1 _).mono ?_
  case h0 => omega
  case h1 => omega
  rintro e w' ⟨rfl, rfl⟩
  go_wp2_with fail
  go_ret
  exact ⟨ret_int (by omega), rfl⟩
end Go.Proofs.Ytljhnkcoknikgaa
