/- The specification's Keyword and Sign. -/
import Derived.Test.YtlcmedimgoaneaaGreatDoorKKey
import Derived.Test.YtlcmedimgoaneaaGreatDoorKLex
namespace Go.Proofs.YtlcmedimgoaneaaGreatDoor
open Go.RowKit

theorem beq_toList (l k : Bs) : ((S l).toList == k) = decide (l = k) := by
  rw [S_toList]
  by_cases h : l = k
  · subst h; simp
  · rw [decide_eq_false h, beq_eq_false_iff_ne]; exact h
set_option maxHeartbeats 4000000 in
set_option maxRecDepth 100000 in
theorem refSign_any (l : Bs) (w : World) : Calls Tryz.prog 36 #[.string (S l)] w fun e w' => e = .returned (.bool (signs.contains l)) ∧ w' = w := by
  by_cases hm : l ∈ signs
  · rw [List.contains_iff_mem.2 hm]
    unfold signs at hm
    simp only [List.mem_cons, List.not_mem_nil, or_false] at hm
    rcases hm with rfl | rfl | rfl | rfl | rfl | rfl | rfl | rfl | rfl | rfl | rfl | rfl | rfl | rfl
    all_goals
      have hc := beq_toList
      go_enter Tryz.func36, Tryz.ntmps36
      go_wp2_with fail
      go_ret
      exact ⟨rfl, rfl⟩
  · have hk : signs.contains l = false := by
      cases h : signs.contains l with
      | false => rfl
      | true => exact absurd (List.contains_iff_mem.1 h) hm
    rw [hk]
    have hn := fun k (h : k ∈ signs) => (beq_toList l k).trans (decide_eq_false (fun e => hm (e ▸ h)))
    unfold signs at hn
    simp only [List.mem_cons, List.not_mem_nil, or_false, forall_eq_or_imp, forall_eq] at hn
    obtain ⟨h1, h2, h3, h4, h5, h6, h7, h8, h9, h10, h11, h12, h13, h14⟩ := hn
    clear hm hk
    go_enter Tryz.func36, Tryz.ntmps36
    go_wp2_with fail
    go_ret
    exact ⟨rfl, rfl⟩
set_option maxHeartbeats 40000000 in
set_option maxRecDepth 100000 in
theorem refKeyword_any (l : Bs) (w : World) : Calls Tryz.prog 20 #[.string (S l)] w fun e w' => e = .returned (.bool (keywords.contains l)) ∧ w' = w := by
  by_cases hm : l ∈ keywords
  · rw [List.contains_iff_mem.2 hm]
    unfold keywords at hm
    simp only [List.mem_cons, List.not_mem_nil, or_false] at hm
    rcases hm with rfl | rfl | rfl | rfl | rfl | rfl | rfl | rfl | rfl | rfl | rfl | rfl | rfl | rfl | rfl | rfl | rfl | rfl | rfl | rfl | rfl | rfl | rfl | rfl | rfl | rfl | rfl | rfl | rfl | rfl | rfl | rfl | rfl | rfl | rfl | rfl | rfl | rfl | rfl | rfl | rfl | rfl
    all_goals
      have hc := beq_toList
      go_enter Tryz.func20, Tryz.ntmps20
      go_wp2_with fail
      go_ret
      exact ⟨rfl, rfl⟩
  · have hk : keywords.contains l = false := by
      cases h : keywords.contains l with
      | false => rfl
      | true => exact absurd (List.contains_iff_mem.1 h) hm
    rw [hk]
    have hn := fun k (h : k ∈ keywords) => (beq_toList l k).trans (decide_eq_false (fun e => hm (e ▸ h)))
    unfold keywords at hn
    simp only [List.mem_cons, List.not_mem_nil, or_false, forall_eq_or_imp, forall_eq] at hn
    obtain ⟨h1, h2, h3, h4, h5, h6, h7, h8, h9, h10, h11, h12, h13, h14, h15, h16, h17, h18, h19, h20, h21, h22, h23, h24, h25, h26, h27, h28, h29, h30, h31, h32, h33, h34, h35, h36, h37, h38, h39, h40, h41, h42⟩ := hn
    clear hm hk
    go_enter Tryz.func20, Tryz.ntmps20
    go_wp2_with fail
    go_ret
    exact ⟨rfl, rfl⟩
end Go.Proofs.YtlcmedimgoaneaaGreatDoor
