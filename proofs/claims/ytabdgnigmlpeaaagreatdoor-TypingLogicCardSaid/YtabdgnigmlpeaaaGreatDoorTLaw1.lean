/- The law's helpers. -/
import Derived.Test.YtabdgnigmlpeaaaGreatDoorTRef5
import Derived.Test.YtabdgnigmlpeaaaGreatDoorTCourse2
namespace Go.Proofs.YtabdgnigmlpeaaaGreatDoor
open Go.RowKit

theorem by_any (n : Int) (w : World) : Calls Tryz.prog 33 #[.int .i64 n] w fun e w' => e = .returned (.agg #[.int .i64 1, .int .i64 n, .int .i64 0, .int .i64 0, .int .i64 0, .slice none 0 0, .slice none 0 0, .slice none 0 0]) ∧ Below w.heap.size w w' := by
  have HA := Lib.hid ((Below.refl w.heap.size w).alloc (Nat.le_refl _) (.cells #[.int .i64 1, .int .i64 n, .int .i64 0, .int .i64 0, .int .i64 0, .slice none 0 0, .slice none 0 0, .slice none 0 0] 84))
  go_enter Tryz.func33, Tryz.ntmps33
  go_wp2_with fail
  refine bodyPost_ret (v := .agg #[.int .i64 1, .int .i64 n, .int .i64 0, .int .i64 0, .int .i64 0, .slice none 0 0, .slice none 0 0, .slice none 0 0]) ?_ rfl ?_
  · simp [results, Tryz.results33, go_sem]
  · exact ⟨rfl, HA.out⟩
theorem atl_any (v n : Int) (w : World) : Calls Tryz.prog 34 #[.int .i64 v, .int .i64 n] w fun e w' => e = .returned (.agg #[.int .i64 1, .int .i64 v, .int .i64 n, .slice none 0 0]) ∧ Below w.heap.size w w' := by
  have HA := Lib.hid ((Below.refl w.heap.size w).alloc (Nat.le_refl _) (.cells #[.int .i64 1, .int .i64 v, .int .i64 n, .slice none 0 0] 40))
  go_enter Tryz.func34, Tryz.ntmps34
  go_wp2_with fail
  refine bodyPost_ret (v := .agg #[.int .i64 1, .int .i64 v, .int .i64 n, .slice none 0 0]) ?_ rfl ?_
  · simp [results, Tryz.results34, go_sem]
  · exact ⟨rfl, HA.out⟩

def S0 : List St := [.mk 1 1 .zero [] [], .mk 2 0 (.mk 1 2 100 []) [.mk 1 4 .zero [] []] [.mk 1 5 .zero [] []], .mk 1 1 .zero [] []]
set_option maxRecDepth 100000 in
theorem dir100 : directR S0 ⟨0, 100, 0⟩ = ([1, 4], 0) := by decide +kernel
set_option maxRecDepth 100000 in
theorem dir99 : directR S0 ⟨0, 99, 0⟩ = ([1, 5], 0) := by decide +kernel
set_option maxRecDepth 100000 in
theorem ties0 : tiesE S0 = 0 := by decide +kernel
theorem tiesN : tiesE [] = 71 := by decide +kernel
theorem condA : condE (.mk 1 4 1 []) = 71 := by decide +kernel
theorem condB : condE (.mk 2 0 0 []) = 71 := by decide +kernel
theorem envBad : envE ⟨0, 4001, 0⟩ = 1 := by decide +kernel
theorem cell_new (w : World) (cs : Array Value) (t : TypeId) (j : Nat) : (w.alloc (.cells cs t)).cell? ⟨w.heap.size, j, none⟩ = cs[j]? := by simp [go_sem]
def stepL (n : Int) : List Value := [.int .i64 1, .int .i64 n, .int .i64 0, .int .i64 0, .int .i64 0, .slice none 0 0, .slice none 0 0, .slice none 0 0]
theorem one_in {W : World} {b : Nat} {n : Int} (hc : ∀ j u, (stepL n)[j]? = some u → W.cell? ⟨b, j, none⟩ = some u) (hb : b < W.heap.size) : SsIn W (fun _ => True) [.mk 1 n .zero [] []] (some ⟨b, 0, none⟩) 1 := by
  refine .mk _ _ 1 b 0 (fun _ => ⟨none, 0, none, 0, none, 0⟩) (by simp) (by simp) (by simp) (by simp) (fun _ => ⟨rfl, trivial, hb⟩) ?_ ?_ ?_ ?_
  · intro i hi j u hu
    obtain rfl : i = 0 := by simp only [List.length_cons, List.length_nil] at hi; omega
    rw [show 0 + 0 * 8 + j = j by omega]
    exact hc j u hu
  · intro i hi
    obtain rfl : i = 0 := by simp only [List.length_cons, List.length_nil] at hi; omega
    exact CdIn.leaf
  · intro i hi
    obtain rfl : i = 0 := by simp only [List.length_cons, List.length_nil] at hi; omega
    exact SsIn.nil
  · intro i hi
    obtain rfl : i = 0 := by simp only [List.length_cons, List.length_nil] at hi; omega
    exact SsIn.nil
def cellsL (p4 p5 : Option Addr) : List Value := stepL 1 ++ ([.int .i64 2, .int .i64 0, .int .i64 1, .int .i64 2, .int .i64 100, .slice none 0 0, .slice p4 1 1, .slice p5 1 1] ++ stepL 1)
theorem s0_in {W : World} {b b4 b5 : Nat} (hc : ∀ j u, (cellsL (some ⟨b4, 0, none⟩) (some ⟨b5, 0, none⟩))[j]? = some u → W.cell? ⟨b, j, none⟩ = some u) (hb : b < W.heap.size)
    (h4 : SsIn W (fun _ => True) [.mk 1 4 .zero [] []] (some ⟨b4, 0, none⟩) 1) (h5 : SsIn W (fun _ => True) [.mk 1 5 .zero [] []] (some ⟨b5, 0, none⟩) 1) : SsIn W (fun _ => True) S0 (some ⟨b, 0, none⟩) 3 := by
  refine .mk _ _ 3 b 0 (fun i => if i = 1 then ⟨none, 0, some ⟨b4, 0, none⟩, 1, some ⟨b5, 0, none⟩, 1⟩ else ⟨none, 0, none, 0, none, 0⟩) (by simp [S0]) (by simp [S0]) (by simp) (by simp) (fun _ => ⟨rfl, trivial, hb⟩) ?_ ?_ ?_ ?_
  · intro i hi j u hu
    have h3 : i = 0 ∨ i = 1 ∨ i = 2 := by simp only [S0, List.length_cons, List.length_nil] at hi; omega
    have hj : j < 8 := by
      have := (List.getElem?_eq_some_iff.1 hu).1
      simpa [cellsS] using this
    rcases h3 with rfl | rfl | rfl
    · rw [show 0 + 0 * 8 + j = j by omega]
      refine hc j u ?_
      rw [cellsL, List.getElem?_append_left (by simpa [stepL] using hj)]
      exact hu
    · rw [show 0 + 1 * 8 + j = 8 + j by omega]
      refine hc (8 + j) u ?_
      rw [cellsL, List.getElem?_append_right (by simp [stepL]), List.getElem?_append_left (by simp [stepL]; omega)]
      rw [show 8 + j - (stepL 1).length = j by simp [stepL]]
      exact hu
    · rw [show 0 + 2 * 8 + j = 16 + j by omega]
      refine hc (16 + j) u ?_
      rw [cellsL, List.getElem?_append_right (by simp [stepL]; omega), List.getElem?_append_right (by simp [stepL]; omega)]
      have h16 : ∀ m, m = j → (stepL 1)[m]? = some u := fun m e => by subst e; exact hu
      exact h16 _ (by simp [stepL]; omega)
  · intro i hi
    have h3 : i = 0 ∨ i = 1 ∨ i = 2 := by simp only [S0, List.length_cons, List.length_nil] at hi; omega
    rcases h3 with rfl | rfl | rfl <;> exact CdIn.leaf
  · intro i hi
    have h3 : i = 0 ∨ i = 1 ∨ i = 2 := by simp only [S0, List.length_cons, List.length_nil] at hi; omega
    rcases h3 with rfl | rfl | rfl
    · exact SsIn.nil
    · exact h4
    · exact SsIn.nil
  · intro i hi
    have h3 : i = 0 ∨ i = 1 ∨ i = 2 := by simp only [S0, List.length_cons, List.length_nil] at hi; omega
    rcases h3 with rfl | rfl | rfl
    · exact SsIn.nil
    · exact h5
    · exact SsIn.nil
end Go.Proofs.YtabdgnigmlpeaaaGreatDoor
