/- Numbers: the bits of a number, the digits of a numeral, the unsigned form and back. -/
import Derived.Test.YtopkpdaingmmeaaVBase
import Derived.Lib.Hide
import Derived.Test.YtopkpdaingmmeaaVLen
namespace Go.Proofs.Ytopkpdaingmmeaa
open Go.RowKit

theorem bitLen_small : ∀ n : Fin 128, Lib.bitLen n.val ≤ 7 := by decide +kernel
theorem bitLenAux_pos (f x : Nat) (h : 0 < x) : 0 < Lib.bitLenAux (f + 1) x := by
  unfold Lib.bitLenAux
  split <;> omega

theorem num_length (u : Nat) : u < 18446744073709551616 → (num u).length = max 1 ((Lib.bitLen u + 6) / 7) := by
  induction u using Nat.strongRecOn with
  | ind u ih =>
    intro hu
    by_cases h : u < 128
    · rw [num_lt h]
      have := bitLen_small ⟨u, h⟩
      dsimp only at this
      simp only [List.length_cons, List.length_nil]
      omega
    · rw [num_ge h, List.length_cons, ih (u / 128) (by omega) (by omega)]
      have e := Lib.bitLen_shift 7 u (by omega) hu
      rw [show 2 ^ 7 = 128 from rfl] at e
      have hp : 1 ≤ Lib.bitLen (u / 128) := by
        refine Nat.pos_of_ne_zero fun hz => ?_
        have hpos : 0 < u / 128 := by omega
        have hb := bitLenAux_pos 63 (u / 128) hpos
        have : Lib.bitLen (u / 128) = Lib.bitLenAux (63 + 1) (u / 128) := rfl
        omega
      omega
theorem numeralSize_any (u : Nat) (w : World) (hu : u < 18446744073709551616) :
    Calls Try.prog 39 #[.int .u64 u] w fun e w' => e = .returned (.int .i64 (num u).length) ∧ w' = w := by
  have hb := Lib.bitLen_le u 64 (by omega) hu
  have hn := num_length u hu
  generalize hL : (num u).length = L at *
  clear hL
  have HN := Lib.hid hn; clear hn
  go_enter Try.func39, Try.ntmps39
  go_wp2_with fail
  go_at_call 55
  refine (len64_any (u : Int) w (by omega) (by omega)).mono ?_
  rintro e w' ⟨rfl, rfl⟩
  rw [Int.toNat_natCast]
  generalize Lib.bitLen u = b at *
  go_wp2
  go_ret
  exact ⟨ret_int (by have := HN.out; omega), rfl⟩

theorem and_1 (z : Int) (h0 : 0 ≤ z) (h1 : z < 18446744073709551616) : bits .and .u64 z 1 = z % 2 := by go_bits2
theorem xor_max (z : Int) (h0 : 0 ≤ z) (h1 : z < 18446744073709551616) : bits .xor .u64 18446744073709551615 z = 18446744073709551615 - z := by
  have h : 18446744073709551615 ^^^ z.toNat = 18446744073709551615 - z.toNat := by
    have e := congrArg BitVec.toNat (BitVec.allOnes_xor (x := BitVec.ofNat 64 z.toNat))
    rw [BitVec.toNat_xor, BitVec.toNat_not, BitVec.toNat_allOnes, BitVec.toNat_ofNat, Nat.mod_eq_of_lt (by omega)] at e
    exact e
  go_bits2

theorem unsigned_any (n : Int) (w : World) (h : Fit64 n) :
    Calls Try.prog 40 #[.int .i64 n] w fun e w' => e = .returned (.int .u64 (uns n)) ∧ w' = w := by
  obtain ⟨h1, h2⟩ := h
  by_cases hn : n < 0
  · have hu : (uns n : Int) = -2 * n - 1 := by unfold uns; rw [if_pos hn]; omega
    generalize uns n = U at *
    have HU := Lib.hid hu; clear hu
    go_enter Try.func40, Try.ntmps40
    go_wp2
    go_ret
    refine ⟨ret_u64 ?_, rfl⟩
    have e1 : IntKind.u64.wrap n = n + 18446744073709551616 := by rw [IntKind.wrap_u64]; omega
    have e2 : IntKind.u64.wrap ((n + 18446744073709551616) * 2) = 18446744073709551616 + 2 * n := by rw [IntKind.wrap_u64]; omega
    rw [e1, e2]
    show bits .xor .u64 18446744073709551615 _ = _
    rw [xor_max _ (by omega) (by omega)]
    have := HU.out
    omega
  · have hu : (uns n : Int) = 2 * n := by unfold uns; rw [if_neg hn]; omega
    generalize uns n = U at *
    have HU := Lib.hid hu; clear hu
    go_enter Try.func40, Try.ntmps40
    go_wp2
    go_ret
    exact ⟨ret_u64 (by have := HU.out; omega), rfl⟩
theorem refUnsigned_any (n : Int) (w : World) (h : Fit64 n) :
    Calls Try.prog 45 #[.int .i64 n] w fun e w' => e = .returned (.int .u64 (uns n)) ∧ w' = w := by
  obtain ⟨h1, h2⟩ := h
  by_cases hn : 0 ≤ n
  · have hu : (uns n : Int) = 2 * n := by unfold uns; rw [if_neg (by omega)]; omega
    generalize uns n = U at *
    have HU := Lib.hid hu; clear hu
    go_enter Try.func45, Try.ntmps45
    go_wp2
    go_ret
    exact ⟨ret_u64 (by have := HU.out; omega), rfl⟩
  · have hu : (uns n : Int) = -2 * n - 1 := by unfold uns; rw [if_pos (by omega)]; omega
    generalize uns n = U at *
    have HU := Lib.hid hu; clear hu
    go_enter Try.func45, Try.ntmps45
    go_wp2
    go_ret
    exact ⟨ret_u64 (by have := HU.out; omega), rfl⟩
theorem signed_any (u : Nat) (w : World) (hu : u < 18446744073709551616) :
    Calls Try.prog 49 #[.int .u64 u] w fun e w' => e = .returned (.int .i64 (sgn u)) ∧ w' = w := by
  have hb := and_1 (u : Int) (by omega) (by omega)
  by_cases hn : u % 2 = 1
  · have hs : sgn u = -(u / 2 : Nat) - 1 := by unfold sgn; rw [if_pos hn]
    generalize sgn u = S at *
    have HS := Lib.hid hs; clear hs
    have hb1 : (bits BinOp.and IntKind.u64 (↑u) 1 == 1) = true := by rw [hb]; simp; omega
    clear hb
    go_enter Try.func49, Try.ntmps49
    go_wp2
    go_ret
    refine ⟨ret_int ?_, rfl⟩
    have e1 : bits BinOp.xor IntKind.u64 IntKind.u64.max (↑u / 2) = 18446744073709551615 - ↑u / 2 := xor_max _ (by omega) (by omega)
    rw [e1]
    have := HS.out
    unfold wrap64
    omega
  · have hs : sgn u = (u / 2 : Nat) := by unfold sgn; rw [if_neg hn]
    generalize sgn u = S at *
    have HS := Lib.hid hs; clear hs
    have hb1 : (bits BinOp.and IntKind.u64 (↑u) 1 == 1) = false := by rw [hb]; simp; omega
    clear hb
    go_enter Try.func49, Try.ntmps49
    go_wp2
    go_ret
    exact ⟨ret_int (by have := HS.out; omega), rfl⟩
end Go.Proofs.Ytopkpdaingmmeaa
