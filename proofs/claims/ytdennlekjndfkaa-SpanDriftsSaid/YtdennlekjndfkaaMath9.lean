/- Plain mathematics: the drift is the least number that is not less than the exact one. -/
import Derived.Test.YtdennlekjndfkaaMath8
import Derived.Test.YtdennlekjndfkaaDrift
namespace Go.Proofs.Ytdennlekjndfkaa
open Go.RowKit

theorem absI_max (t : Int) : absI t = max t (-t) := by unfold absI; split <;> omega
theorem driftN_eq {t p : Int} (h : driftErr t p = false) : driftN t p = (absI t * p + 999999) / 1000000 := by unfold driftN; rw [h]; rfl
theorem driftErr_in {t p : Int} (ht : -2199023255552 ≤ t ∧ t ≤ 2199023255552) (hp : 0 ≤ p ∧ p ≤ 100000) : driftErr t p = false := (driftErr_no t p).2 ⟨ht.1, ht.2, hp.1, hp.2⟩
theorem absI_mul40 {t p : Int} (ht : -1099511627776 ≤ t ∧ t ≤ 1099511627776) (hp : 0 ≤ p ∧ p ≤ 100000) : 0 ≤ absI t * p ∧ absI t * p ≤ 109951162777600000 := by
  have h0 : 0 ≤ absI t := by unfold absI; split <;> omega
  have h1 : absI t ≤ 1099511627776 := by unfold absI; split <;> omega
  refine ⟨Int.mul_nonneg h0 hp.1, ?_⟩
  have h2 : absI t * p ≤ 1099511627776 * 100000 := Int.mul_le_mul h1 hp.2 hp.1 (by omega)
  omega
theorem drift_facts {t p : Int} (ht : -1099511627776 ≤ t ∧ t ≤ 1099511627776) (hp : 0 ≤ p ∧ p ≤ 100000) :
    (0 ≤ driftN t p ∧ driftN t p ≤ 1099511627776) ∧ absI t * p ≤ driftN t p * 1000000 ∧ driftN t p * 1000000 - absI t * p < 1000000 := by
  have h := absI_mul40 ht hp
  rw [driftN_eq (driftErr_in (by omega) hp)]
  generalize absI t * p = E at *
  omega
theorem drift_neg {t p : Int} (ht : -1099511627776 ≤ t ∧ t ≤ 1099511627776) (hp : 0 ≤ p ∧ p ≤ 100000) : driftN (-t) p = driftN t p := by
  rw [driftN_eq (driftErr_in (by omega) hp), driftN_eq (driftErr_in (by omega) hp)]
  have e : absI (-t) = absI t := by unfold absI; split <;> split <;> omega
  rw [e]
theorem drift_add {a b p : Int} (ha : -1099511627776 ≤ a ∧ a ≤ 1099511627776) (hb : -1099511627776 ≤ b ∧ b ≤ 1099511627776) (hp : 0 ≤ p ∧ p ≤ 100000) : driftN (a + b) p ≤ driftN a p + driftN b p ∧ 0 ≤ driftN (a + b) p := by
  rw [driftN_eq (driftErr_in (by omega) hp), driftN_eq (driftErr_in (by omega) hp), driftN_eq (driftErr_in (by omega) hp)]
  have e : absI (a + b) ≤ absI a + absI b := by unfold absI; split <;> split <;> split <;> omega
  have e0 : 0 ≤ absI (a + b) := by unfold absI; split <;> omega
  have h1 : absI (a + b) * p ≤ (absI a + absI b) * p := Int.mul_le_mul_of_nonneg_right e hp.1
  have h2 : 0 ≤ absI (a + b) * p := Int.mul_nonneg e0 hp.1
  rw [Int.add_mul] at h1
  generalize absI (a + b) * p = E1 at *
  generalize absI a * p = E2 at *
  generalize absI b * p = E3 at *
  omega
theorem drift_ok (t p : Int) (ht : -2199023255552 ≤ t ∧ t ≤ 2199023255552) (hp : 0 ≤ p ∧ p ≤ 100000) (w : World) :
    Calls Try.prog 28 #[.int .i64 t, .int .i64 p] w fun e w' => e = .returned (.tuple #[.int .i64 (driftN t p), .int .i64 0]) ∧ w' = w := by
  have h := drift_any t p (by omega) (by omega) w
  rw [show driftE t p = 0 by unfold driftE; rw [driftErr_in ht hp]; rfl] at h
  exact h
end Go.Proofs.Ytdennlekjndfkaa
