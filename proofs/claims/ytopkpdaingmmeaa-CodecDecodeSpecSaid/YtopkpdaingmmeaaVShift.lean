/- The digit of a numeral, shifted: there, back, and added. -/
import Derived.Test.YtopkpdaingmmeaaVEncode
namespace Go.Proofs.Ytopkpdaingmmeaa
open Go.RowKit

theorem pow_min (m : Nat) (h : ¬ m < 64) : 18446744073709551616 ≤ 2 ^ m := by
  have : 2 ^ 64 ≤ 2 ^ m := Nat.pow_le_pow_right (by omega) (by omega)
  omega
theorem back_eq (d m : Nat) (_hd : d < 128) : (d * 2 ^ min m 64 % 18446744073709551616) / 2 ^ min m 64 = d ↔ ¬ 18446744073709551616 ≤ d * 2 ^ m := by
  by_cases hm : m < 64
  · rw [Nat.min_eq_left (by omega)]
    have hp := Nat.two_pow_pos m
    have e : 18446744073709551616 = 2 ^ (64 - m) * 2 ^ m := by rw [← Nat.pow_add, show 64 - m + m = 64 by omega]
    rw [e, Nat.mul_mod_mul_right, Nat.mul_div_cancel _ hp]
    constructor
    · intro h hle
      have h1 : 2 ^ (64 - m) ≤ d := Nat.le_of_mul_le_mul_right hle hp
      have h2 := Nat.mod_lt d (Nat.two_pow_pos (64 - m))
      omega
    · intro h
      refine Nat.mod_eq_of_lt (Nat.lt_of_not_le fun h2 => h ?_)
      exact Nat.mul_le_mul_right _ h2
  · rw [Nat.min_eq_right (by omega), show (2 : Nat) ^ 64 = 18446744073709551616 from rfl, Nat.mul_mod_left, Nat.zero_div]
    have := pow_min m hm
    constructor
    · rintro rfl; omega
    · intro h
      rcases Nat.eq_zero_or_pos d with h0 | h0
      · exact h0.symm
      · exact absurd (Nat.le_trans this (Nat.le_mul_of_pos_left _ h0)) h
theorem part_eq (d m : Nat) (h : ¬ 18446744073709551616 ≤ d * 2 ^ m) : d * 2 ^ min m 64 % 18446744073709551616 = d * 2 ^ m := by
  by_cases hm : m < 64
  · rw [Nat.min_eq_left (by omega)]
    exact Nat.mod_eq_of_lt (by omega)
  · have := pow_min m hm
    have h0 : d = 0 := by
      rcases Nat.eq_zero_or_pos d with h0 | h0
      · exact h0
      · exact absurd (Nat.le_trans this (Nat.le_mul_of_pos_left _ h0)) h
    subst h0; simp
theorem sum_lt (d m acc : Nat) (h : ¬ 18446744073709551616 ≤ d * 2 ^ m) (h1 : acc < 2 ^ m) (h2 : acc < 18446744073709551616) : acc + d * 2 ^ m < 18446744073709551616 := by
  rcases Nat.eq_zero_or_pos d with rfl | h0
  · simpa using h2
  by_cases hm : m < 64
  · have e : 18446744073709551616 = 2 ^ (64 - m) * 2 ^ m := by rw [← Nat.pow_add, show 64 - m + m = 64 by omega]
    have h3 : d < 2 ^ (64 - m) := by
      refine Nat.lt_of_not_le fun h4 => h ?_
      rw [e]; exact Nat.mul_le_mul_right _ h4
    have h5 : (d + 1) * 2 ^ m ≤ 2 ^ (64 - m) * 2 ^ m := Nat.mul_le_mul_right _ h3
    rw [Nat.add_mul, Nat.one_mul, ← e] at h5
    omega
  · have := pow_min m hm
    exact absurd (Nat.le_trans this (Nat.le_mul_of_pos_left _ h0)) h
theorem or_sum (d m acc : Nat) (h1 : acc < 2 ^ m) (h2 : acc < 18446744073709551616) (h3 : d * 2 ^ m < 18446744073709551616) : bits .or .u64 (acc : Int) ((d * 2 ^ m : Nat) : Int) = ((acc + d * 2 ^ m : Nat) : Int) := by
  have e : acc ||| d * 2 ^ m = acc + d * 2 ^ m := by
    rw [Nat.or_comm, Nat.mul_comm d, ← Nat.two_pow_add_eq_or_of_lt h1, Nat.add_comm]
  generalize d * 2 ^ m = p at *
  have : bits .or .u64 (acc : Int) (p : Int) = ((acc ||| p : Nat) : Int) := by
    go_bits2
  rw [this, e]

/-- All that the reader's round is to know of its digit. -/
theorem digit_facts (x k acc : Nat) (hx : x < 256) (h1 : acc < 2 ^ (7 * k)) (h2 : acc < 18446744073709551616) : ∃ part back : Nat,
    Op.shift .shl .u64 ((x : Int) % 128) .i64 (7 * (k : Int)) = pure (.int .u64 part) ∧ Op.shift .shr .u64 (part : Int) .i64 (7 * (k : Int)) = pure (.int .u64 back) ∧
    (back = x % 128 ↔ ¬ 18446744073709551616 ≤ x % 128 * 2 ^ (7 * k)) ∧
    (¬ 18446744073709551616 ≤ x % 128 * 2 ^ (7 * k) → part = x % 128 * 2 ^ (7 * k) ∧ bits .or .u64 (acc : Int) (part : Int) = ((acc + x % 128 * 2 ^ (7 * k) : Nat) : Int) ∧ acc + x % 128 * 2 ^ (7 * k) < 18446744073709551616 ∧ acc + x % 128 * 2 ^ (7 * k) < 2 ^ (7 * k + 7)) := by
  have hd : x % 128 < 128 := by omega
  refine ⟨x % 128 * 2 ^ min (7 * k) 64 % 18446744073709551616, x % 128 * 2 ^ min (7 * k) 64 % 18446744073709551616 / 2 ^ min (7 * k) 64, ?_, ?_, back_eq _ _ hd, fun h => ?_⟩
  · rw [shift_shl_any _ _ _ _ (by omega)]
    have e : (7 * (k : Int)).toNat = 7 * k := by omega
    rw [e, IntKind.wrap_u64, show IntKind.u64.bits = 64 from rfl]
    congr 2
  · rw [shift_shr_any _ _ _ _ (by omega)]
    have e : (7 * (k : Int)).toNat = 7 * k := by omega
    rw [e, show IntKind.u64.bits = 64 from rfl]
    congr 2
  · have hs := sum_lt _ _ _ h h1 h2
    refine ⟨part_eq _ _ h, ?_, hs, ?_⟩
    · rw [part_eq _ _ h]
      exact or_sum _ _ _ h1 h2 (by omega)
    · rw [two_pow_7]
      have : x % 128 * 2 ^ (7 * k) ≤ 127 * 2 ^ (7 * k) := Nat.mul_le_mul_right _ (by omega)
      omega
end Go.Proofs.Ytopkpdaingmmeaa
