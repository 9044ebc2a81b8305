/- Lengths of numerals. -/
import Derived.Test.YtopkpdaingmmeaaVSane
namespace Go.Proofs.Ytopkpdaingmmeaa
open Go.RowKit

theorem num_mono (v : Nat) : ∀ u, u ≤ v → (num u).length ≤ (num v).length := by
  induction v using Nat.strongRecOn with
  | ind v ih =>
    intro u hu
    by_cases h1 : u < 128
    · rw [num_lt h1]
      by_cases h2 : v < 128
      · rw [num_lt h2]; exact Nat.le_refl _
      · rw [num_ge h2]; simp
    · rw [num_ge h1, num_ge (u := v) (by omega)]
      simp only [List.length_cons]
      have := ih (v / 128) (by omega) (u / 128) (by omega)
      omega
theorem enc_int_len (n : Int) : (enc (.mk 1 n ⟨#[]⟩ [])).length = 1 + (num (uns n)).length := by
  rw [enc, if_pos rfl, List.length_cons]; omega
theorem num_len_pos (u : Nat) : 1 ≤ (num u).length := by
  by_cases h : u < 128
  · rw [num_lt h]; simp
  · rw [num_ge h]; simp
theorem enc_int_range (n : Int) (h : Fit64 n) : 2 ≤ (enc (.mk 1 n ⟨#[]⟩ [])).length ∧ (enc (.mk 1 n ⟨#[]⟩ [])).length ≤ 11 := by
  have hu := (uns_fit n).2 h
  have h1 := num_length (uns n) hu
  have h2 := Lib.bitLen_le (uns n) 64 (by omega) hu
  have h3 := num_len_pos (uns n)
  rw [enc_int_len]
  omega
theorem enc_int_mono (a b : Int) (h : (0 ≤ a ∧ a ≤ b) ∨ (a < 0 ∧ b ≤ a)) : (enc (.mk 1 a ⟨#[]⟩ [])).length ≤ (enc (.mk 1 b ⟨#[]⟩ [])).length := by
  rw [enc_int_len, enc_int_len]
  have : uns a ≤ uns b := by
    unfold uns
    split <;> split <;> omega
  have := num_mono _ _ this
  omega
end Go.Proofs.Ytopkpdaingmmeaa
