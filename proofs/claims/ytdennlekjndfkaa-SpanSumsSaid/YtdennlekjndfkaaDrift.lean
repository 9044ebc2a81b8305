import Derived.Test.YtdennlekjndfkaaRows
import Derived.Test.YtdennlekjndfkaaMath
import Derived.WalkKit
import Derived.WalkSpells
import Derived.WalkLawsBesides
import Derived.Handy
namespace Go.Proofs.Ytdennlekjndfkaa
open Go.RowKit

theorem absI_mul (t p : Int) (h1 : -2199023255552 ≤ t) (h2 : t ≤ 2199023255552) (h3 : 0 ≤ p) (h4 : p ≤ 100000) : 0 ≤ absI t * p ∧ absI t * p ≤ 219902325555200000 := by
  have ha : 0 ≤ absI t ∧ absI t ≤ 2199023255552 := by unfold absI; split <;> omega
  exact ⟨Int.mul_nonneg ha.1 h3, by
    have := Int.mul_le_mul ha.2 h4 h3 (by omega)
    omega⟩

theorem ret2_int {a b : Int} {c : Value} (h : a = b) : Ending.returned (.tuple #[.int .i64 a, c]) = .returned (.tuple #[.int .i64 b, c]) := by rw [h]
def e0 (t p : Int) : Prop := driftN t p = 0 ∧ driftE t p = 1
set_option maxHeartbeats 400000 in
theorem drift_any (t p : Int) (ht : -9223372036854775808 ≤ t ∧ t ≤ 9223372036854775807) (hp : -9223372036854775808 ≤ p ∧ p ≤ 9223372036854775807) (w : World) :
    Calls Try.prog 28 #[.int .i64 t, .int .i64 p] w fun e w' => e = .returned (.tuple #[.int .i64 (driftN t p), .int .i64 (driftE t p)]) ∧ w' = w := by
  have hno : driftErr t p = true → e0 t p := fun h => by unfold e0 driftN driftE; rw [if_pos h, if_pos h]; exact ⟨rfl, rfl⟩
  by_cases h1 : t < -2199023255552
  · obtain ⟨E1, E2⟩ := hno (by simp [driftErr, h1]); clear hno
    rw [E1, E2]; clear E1 E2
    go_enter Try.func28, Try.ntmps28
    go_wp2
    go_ret2
    exact ⟨rfl, rfl⟩
  by_cases h2 : 2199023255552 < t
  · obtain ⟨E1, E2⟩ := hno (by simp [driftErr, h2]); clear hno
    rw [E1, E2]; clear E1 E2
    go_enter Try.func28, Try.ntmps28
    go_wp2
    go_ret2
    exact ⟨rfl, rfl⟩
  by_cases h3 : p < 0
  · obtain ⟨E1, E2⟩ := hno (by simp [driftErr, h3]); clear hno
    rw [E1, E2]; clear E1 E2
    go_enter Try.func28, Try.ntmps28
    go_wp2
    go_ret2
    exact ⟨rfl, rfl⟩
  by_cases h4 : 100000 < p
  · obtain ⟨E1, E2⟩ := hno (by simp [driftErr, h4]); clear hno
    rw [E1, E2]; clear E1 E2
    go_enter Try.func28, Try.ntmps28
    go_wp2
    go_ret2
    exact ⟨rfl, rfl⟩
  have hb := absI_mul t p (by omega) (by omega) (by omega) (by omega)
  clear hno
  have hv : driftErr t p = false := (driftErr_no t p).2 ⟨by omega, by omega, by omega, by omega⟩
  by_cases h5 : t < 0
  · have E1 : driftN t p = (-(t * p) + 999999) / 1000000 := by unfold driftN absI; rw [hv, if_neg (by simp), if_pos h5, Int.neg_mul]
    have E2 : driftE t p = 0 := by unfold driftE; rw [hv]; rfl
    rw [show absI t = -t by unfold absI; rw [if_pos h5], Int.neg_mul] at hb
    rw [E1, E2]; clear E1 E2 hv
    have hm : -t * p = -(t * p) := Int.neg_mul t p
    go_enter Try.func28, Try.ntmps28
    go_wp2
    go_ret2
    exact ⟨ret2_int (by omega), rfl⟩
  · have E1 : driftN t p = (t * p + 999999) / 1000000 := by unfold driftN absI; rw [hv, if_neg (by simp), if_neg h5]
    have E2 : driftE t p = 0 := by unfold driftE; rw [hv]; rfl
    rw [show absI t = t by unfold absI; rw [if_neg h5]] at hb
    rw [E1, E2]; clear E1 E2 hv
    go_enter Try.func28, Try.ntmps28
    go_wp2
    all_goals
      go_ret2
      exact ⟨ret2_int (by omega), rfl⟩

set_option maxHeartbeats 400000 in
theorem refDrift_any (t p : Int) (ht : -9223372036854775808 ≤ t ∧ t ≤ 9223372036854775807) (hp : -9223372036854775808 ≤ p ∧ p ≤ 9223372036854775807) (w : World) :
    Calls Try.prog 29 #[.int .i64 t, .int .i64 p] w fun e w' => e = .returned (.tuple #[.int .i64 (driftN t p), .int .i64 (driftE t p)]) ∧ w' = w := by
  have hno : driftErr t p = true → e0 t p := fun h => by unfold e0 driftN driftE; rw [if_pos h, if_pos h]; exact ⟨rfl, rfl⟩
  by_cases h1 : t < -2199023255552
  · obtain ⟨E1, E2⟩ := hno (by simp [driftErr, h1]); clear hno
    rw [E1, E2]; clear E1 E2
    go_enter Try.func29, Try.ntmps29
    go_wp2
    go_ret2
    exact ⟨rfl, rfl⟩
  by_cases h2 : 2199023255552 < t
  · obtain ⟨E1, E2⟩ := hno (by simp [driftErr, h2]); clear hno
    rw [E1, E2]; clear E1 E2
    go_enter Try.func29, Try.ntmps29
    go_wp2
    go_ret2
    exact ⟨rfl, rfl⟩
  by_cases h3 : p < 0
  · obtain ⟨E1, E2⟩ := hno (by simp [driftErr, h3]); clear hno
    rw [E1, E2]; clear E1 E2
    go_enter Try.func29, Try.ntmps29
    go_wp2
    go_ret2
    exact ⟨rfl, rfl⟩
  by_cases h4 : 100000 < p
  · obtain ⟨E1, E2⟩ := hno (by simp [driftErr, h4]); clear hno
    rw [E1, E2]; clear E1 E2
    go_enter Try.func29, Try.ntmps29
    go_wp2
    go_ret2
    exact ⟨rfl, rfl⟩
  have hb := absI_mul t p (by omega) (by omega) (by omega) (by omega)
  clear hno
  have hv : driftErr t p = false := (driftErr_no t p).2 ⟨by omega, by omega, by omega, by omega⟩
  by_cases h5 : t < 0
  · obtain ⟨u, rfl⟩ : ∃ u, t = -u := ⟨-t, by omega⟩
    have E1 : driftN (-u) p = (u * p + 999999) / 1000000 := by unfold driftN absI; rw [hv, if_neg (by simp), if_pos h5, Int.neg_neg]
    have E2 : driftE (-u) p = 0 := by unfold driftE; rw [hv]; rfl
    rw [show absI (-u) = u by unfold absI; rw [if_pos h5, Int.neg_neg]] at hb
    rw [E1, E2]; clear E1 E2 hv
    go_enter Try.func29, Try.ntmps29
    go_wp2
    all_goals
      go_ret2
      exact ⟨ret2_int (by omega), rfl⟩
  · have E1 : driftN t p = (t * p + 999999) / 1000000 := by unfold driftN absI; rw [hv, if_neg (by simp), if_neg h5]
    have E2 : driftE t p = 0 := by unfold driftE; rw [hv]; rfl
    rw [show absI t = t by unfold absI; rw [if_neg h5]] at hb
    rw [E1, E2]; clear E1 E2 hv
    go_enter Try.func29, Try.ntmps29
    go_wp2
    all_goals
      go_ret2
      exact ⟨ret2_int (by omega), rfl⟩
end Go.Proofs.Ytdennlekjndfkaa
