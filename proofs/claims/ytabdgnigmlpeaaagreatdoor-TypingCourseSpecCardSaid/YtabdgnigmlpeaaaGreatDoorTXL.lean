/- The law's helpers. -/
import Derived.Test.YtabdgnigmlpeaaaGreatDoorTXA
import Derived.Test.YtabdgnigmlpeaaaGreatDoorTCourse2
import Derived.ProofKit
import Derived.MakeChecks
import Derived.ChangeSame
import Derived.Lib.LaidU8
import Derived.OpenShut
import Derived.SizedLaws
import Derived.Lib.RowBridge
namespace Go.Proofs.YtabdgnigmlpeaaaGreatDoor
open Go.RowKit

theorem by_any (n : Int) (w : World) : Calls Tryz.prog 33 #[.int .i64 n] w fun e w' => e = .returned (.agg #[.int .i64 1, .int .i64 n, .int .i64 0, .int .i64 0, .int .i64 0, .slice none 0 0, .slice none 0 0, .slice none 0 0]) ∧ Below w.heap.size w w' := by
  have HA := Lib.hid ((Below.refl w.heap.size w).alloc (Nat.le_refl _) (.cells #[.int .i64 1, .int .i64 n, .int .i64 0, .int .i64 0, .int .i64 0, .slice none 0 0, .slice none 0 0, .slice none 0 0] 84))
  go_enter Tryz.func33, Tryz.ntmps33
  go_wp2_with fail
  refine bodyPost_ret (v := .agg #[.int .i64 1, .int .i64 n, .int .i64 0, .int .i64 0, .int .i64 0, .slice none 0 0, .slice none 0 0, .slice none 0 0]) ?_ rfl ?_
  · simp [results, Tryz.results33, go_sem]
  · exact ⟨rfl, HA.out⟩
theorem atl_any (v n : Int) (w : World) : Calls Tryz.prog 34 #[.int .i64 v, .int .i64 n] w fun e w' => e = .returned (.agg #[.int .i64 1, .int .i64 v, .int .i64 n, .slice none 0 0]) ∧ Below w.heap.size w w' := by
  have HA := Lib.hid ((Below.refl w.heap.size w).alloc (Nat.le_refl _) (.cells #[.int .i64 1, .int .i64 v, .int .i64 n, .slice none 0 0] 40))
  go_enter Tryz.func34, Tryz.ntmps34
  go_wp2_with fail
  refine bodyPost_ret (v := .agg #[.int .i64 1, .int .i64 v, .int .i64 n, .slice none 0 0]) ?_ rfl ?_
  · simp [results, Tryz.results34, go_sem]
  · exact ⟨rfl, HA.out⟩

def S0 : List St := [.mk 1 1 .zero [] [], .mk 2 0 (.mk 1 2 100 []) [.mk 1 4 .zero [] []] [.mk 1 5 .zero [] []], .mk 1 1 .zero [] []]
set_option maxRecDepth 100000 in
theorem dir100 : directR S0 ⟨0, 100, 0⟩ = ([1, 4], 0) := by decide +kernel
set_option maxRecDepth 100000 in
theorem dir99 : directR S0 ⟨0, 99, 0⟩ = ([1, 5], 0) := by decide +kernel
set_option maxRecDepth 100000 in
theorem ties0 : tiesE S0 = 0 := by decide +kernel
theorem tiesN : tiesE [] = 71 := by decide +kernel
theorem condA : condE (.mk 1 4 1 []) = 71 := by decide +kernel
theorem condB : condE (.mk 2 0 0 []) = 71 := by decide +kernel
theorem envBad : envE ⟨0, 4001, 0⟩ = 1 := by decide +kernel
theorem cell_new (w : World) (cs : Array Value) (t : TypeId) (j : Nat) : (w.alloc (.cells cs t)).cell? ⟨w.heap.size, j, none⟩ = cs[j]? := by simp [go_sem]
def stepL (n : Int) : List Value := [.int .i64 1, .int .i64 n, .int .i64 0, .int .i64 0, .int .i64 0, .slice none 0 0, .slice none 0 0, .slice none 0 0]
theorem one_in {W : World} {b : Nat} {n : Int} (hc : ∀ j u, (stepL n)[j]? = some u → W.cell? ⟨b, j, none⟩ = some u) (hb : b < W.heap.size) : SsIn W (fun _ => True) [.mk 1 n .zero [] []] (some ⟨b, 0, none⟩) 1 := by
  refine .mk _ _ 1 b 0 (fun _ => ⟨none, 0, none, 0, none, 0⟩) (by simp) (by simp) (by simp) (by simp) (fun _ => ⟨rfl, trivial, hb⟩) ?_ ?_ ?_ ?_
  · intro i hi j u hu
    obtain rfl : i = 0 := by simp only [List.length_cons, List.length_nil] at hi; omega
    rw [show 0 + 0 * 8 + j = j by omega]
    exact hc j u hu
  · intro i hi
    obtain rfl : i = 0 := by simp only [List.length_cons, List.length_nil] at hi; omega
    exact CdIn.leaf
  · intro i hi
    obtain rfl : i = 0 := by simp only [List.length_cons, List.length_nil] at hi; omega
    exact SsIn.nil
  · intro i hi
    obtain rfl : i = 0 := by simp only [List.length_cons, List.length_nil] at hi; omega
    exact SsIn.nil
def cellsL (p4 p5 : Option Addr) : List Value := stepL 1 ++ ([.int .i64 2, .int .i64 0, .int .i64 1, .int .i64 2, .int .i64 100, .slice none 0 0, .slice p4 1 1, .slice p5 1 1] ++ stepL 1)
theorem s0_in {W : World} {b b4 b5 : Nat} (hc : ∀ j u, (cellsL (some ⟨b4, 0, none⟩) (some ⟨b5, 0, none⟩))[j]? = some u → W.cell? ⟨b, j, none⟩ = some u) (hb : b < W.heap.size)
    (h4 : SsIn W (fun _ => True) [.mk 1 4 .zero [] []] (some ⟨b4, 0, none⟩) 1) (h5 : SsIn W (fun _ => True) [.mk 1 5 .zero [] []] (some ⟨b5, 0, none⟩) 1) : SsIn W (fun _ => True) S0 (some ⟨b, 0, none⟩) 3 := by
  refine .mk _ _ 3 b 0 (fun i => if i = 1 then ⟨none, 0, some ⟨b4, 0, none⟩, 1, some ⟨b5, 0, none⟩, 1⟩ else ⟨none, 0, none, 0, none, 0⟩) (by simp [S0]) (by simp [S0]) (by simp) (by simp) (fun _ => ⟨rfl, trivial, hb⟩) ?_ ?_ ?_ ?_
  · intro i hi j u hu
    have h3 : i = 0 ∨ i = 1 ∨ i = 2 := by simp only [S0, List.length_cons, List.length_nil] at hi; omega
    have hj : j < 8 := by
      have := (List.getElem?_eq_some_iff.1 hu).1
      simpa [cellsS] using this
    rcases h3 with rfl | rfl | rfl
    · rw [show 0 + 0 * 8 + j = j by omega]
      refine hc j u ?_
      rw [cellsL, List.getElem?_append_left (by simpa [stepL] using hj)]
      exact hu
    · rw [show 0 + 1 * 8 + j = 8 + j by omega]
      refine hc (8 + j) u ?_
      rw [cellsL, List.getElem?_append_right (by simp [stepL]), List.getElem?_append_left (by simp [stepL]; omega)]
      rw [show 8 + j - (stepL 1).length = j by simp [stepL]]
      exact hu
    · rw [show 0 + 2 * 8 + j = 16 + j by omega]
      refine hc (16 + j) u ?_
      rw [cellsL, List.getElem?_append_right (by simp [stepL]; omega), List.getElem?_append_right (by simp [stepL]; omega)]
      have h16 : ∀ m, m = j → (stepL 1)[m]? = some u := fun m e => by subst e; exact hu
      exact h16 _ (by simp [stepL]; omega)
  · intro i hi
    have h3 : i = 0 ∨ i = 1 ∨ i = 2 := by simp only [S0, List.length_cons, List.length_nil] at hi; omega
    rcases h3 with rfl | rfl | rfl <;> exact CdIn.leaf
  · intro i hi
    have h3 : i = 0 ∨ i = 1 ∨ i = 2 := by simp only [S0, List.length_cons, List.length_nil] at hi; omega
    rcases h3 with rfl | rfl | rfl
    · exact SsIn.nil
    · exact h4
    · exact SsIn.nil
  · intro i hi
    have h3 : i = 0 ∨ i = 1 ∨ i = 2 := by simp only [S0, List.length_cons, List.length_nil] at hi; omega
    rcases h3 with rfl | rfl | rfl
    · exact SsIn.nil
    · exact h5
    · exact SsIn.nil
end Go.Proofs.YtabdgnigmlpeaaaGreatDoor
/- The examples hold: sane. -/
namespace Go.Proofs.YtabdgnigmlpeaaaGreatDoor
open Go.RowKit

theorem two_reads (V : World) (a b : Int) (k : Nat) (hk : V.heap.size = k) : ReadsI (V.alloc (.cells #[.int .i64 a, .int .i64 b] 3)) (.slice (some ⟨k, 0, none⟩) 2 2) [a, b] := by
  subst hk
  refine ⟨_, 2, V.heap.size, rfl, by simp, fun _ => rfl, fun i hi => ?_, by simp, by simp⟩
  rw [cell_new]
  have h2 : i = 0 ∨ i = 1 := by simp only [List.length_cons, List.length_nil] at hi; omega
  rcases h2 with rfl | rfl <;> rfl
theorem smYes (a : List Int) (x y : Value) (W : World) (hx : ReadsI W x a) (hy : ReadsI W y a) : Calls Tryz.prog 26 #[x, y] W fun e w' => e = .returned (.bool true) ∧ Below W.heap.size W w' := by
  have := same_any a a x y W hx hy
  rwa [decide_eq_true rfl] at this
theorem d100 {W : World} {b : Nat} (h : SsIn W (fun _ => True) S0 (some ⟨b, 0, none⟩) 3) : Calls Tryz.prog 22 #[.slice (some ⟨b, 0, none⟩) 3 3, .agg #[.int .i64 0, .int .i64 100, .int .i64 0]] W fun e w' => ∃ v, e = .returned (.tuple #[v, .int .i64 0]) ∧ ReadsI w' v [1, 4] ∧ Below W.heap.size W w' := by
  have := tDirect_any h ⟨0, 100, 0⟩
  rw [dir100] at this
  exact this
theorem d99 {W : World} {b : Nat} (h : SsIn W (fun _ => True) S0 (some ⟨b, 0, none⟩) 3) : Calls Tryz.prog 22 #[.slice (some ⟨b, 0, none⟩) 3 3, .agg #[.int .i64 0, .int .i64 99, .int .i64 0]] W fun e w' => ∃ v, e = .returned (.tuple #[v, .int .i64 0]) ∧ ReadsI w' v [1, 5] ∧ Below W.heap.size W w' := by
  have := tDirect_any h ⟨0, 99, 0⟩
  rw [dir99] at this
  exact this
theorem cYes {W : World} {b : Nat} (h : SsIn W (fun _ => True) S0 (some ⟨b, 0, none⟩) 3) : Calls Tryz.prog 12 #[.agg #[.string ⟨#[97]⟩, .slice none 0 0, .slice none 0 0, .slice none 0 0, .slice none 0 0, .slice none 0 0, .slice none 0 0, .slice none 0 0, .slice (some ⟨b, 0, none⟩) 3 3, .int .i64 0, .int .i64 0, .int .i64 0, .int .i64 0, .int .i64 0, .int .i64 0, .int .i64 0]] W fun e w' => e = .returned (.int .i64 0) ∧ Below W.heap.size W w' :=
  course_yes ⟨#[97]⟩ (some ⟨b, 0, none⟩) 3 3 (fun w => named0 _ _ _ _ nameA_any w) W (fun w' hb => by have := tTies_any (h.bel hb); rw [ties0] at this; exact this)
theorem cNo (W : World) : Calls Tryz.prog 12 #[.agg #[.string ⟨#[]⟩, .slice none 0 0, .slice none 0 0, .slice none 0 0, .slice none 0 0, .slice none 0 0, .slice none 0 0, .slice none 0 0, .slice none 0 0, .int .i64 0, .int .i64 0, .int .i64 0, .int .i64 0, .int .i64 0, .int .i64 0, .int .i64 0]] W fun e w' => e = .returned (.int .i64 70) ∧ Below W.heap.size W w' :=
  course_no ⟨#[]⟩ none 0 0 (fun w => named1 _ _ _ _ name0_any w) W
theorem cCA (W : World) : Calls Tryz.prog 16 #[.agg #[.int .i64 1, .int .i64 4, .int .i64 1, .slice none 0 0]] W fun e w' => e = .returned (.int .i64 71) ∧ Below W.heap.size W w' := by
  have := tCond_any (CdIn.leaf (w := W) (Q := fun _ => True) (k := 1) (v := 4) (n := 1))
  rw [condA] at this
  exact this
theorem cCB (W : World) : Calls Tryz.prog 16 #[.agg #[.int .i64 2, .int .i64 0, .int .i64 0, .slice none 0 0]] W fun e w' => e = .returned (.int .i64 71) ∧ Below W.heap.size W w' := by
  have := tCond_any (CdIn.leaf (w := W) (Q := fun _ => True) (k := 2) (v := 0) (n := 0))
  rw [condB] at this
  exact this
theorem cTN (W : World) : Calls Tryz.prog 18 #[.slice none 0 0] W fun e w' => e = .returned (.int .i64 71) ∧ Below W.heap.size W w' := by
  have := tTies_any (SsIn.nil (w := W) (Q := fun _ => True))
  rw [tiesN] at this
  exact this
theorem cEB (W : World) : Calls Tryz.prog 20 #[.agg #[.int .i64 0, .int .i64 4001, .int .i64 0]] W fun e w' => e = .returned (.int .i64 1) ∧ Below W.heap.size W w' := by
  have := env_any ⟨0, 4001, 0⟩ W
  rw [envBad] at this
  exact this
set_option maxHeartbeats 2000000 in
set_option maxRecDepth 100000 in
theorem sane_any (w : World) : Calls Tryz.prog 10 #[] w fun e w' => e = .returned (.bool true) ∧ Below w.heap.size w w' := by
  have HB0 := Lib.hid (Below.refl w.heap.size w)
  go_enter Tryz.func10, Tryz.ntmps10
  go_wp2_with fail
  go_at_call 33
  refine (by_any 1 _).mono ?_
  rintro e w1 ⟨rfl, hb1⟩
  go_wp2_with fail
  go_at_call 34
  refine (atl_any 2 100 _).mono ?_
  rintro e w2 ⟨rfl, hb2⟩
  go_wp2_with fail
  go_at_call 33
  refine (by_any 4 _).mono ?_
  rintro e w3 ⟨rfl, hb3⟩
  have hB3 := hb1.trans ((hb2.trans (hb3.mono hb2.size)).mono hb1.size)
  have hn3 := cell_new w3 #[.int .i64 1, .int .i64 4, .int .i64 0, .int .i64 0, .int .i64 0, .slice none 0 0, .slice none 0 0, .slice none 0 0] 84
  have hA3 := (Below.refl w3.heap.size w3).alloc (Nat.le_refl _) (.cells #[.int .i64 1, .int .i64 4, .int .i64 0, .int .i64 0, .int .i64 0, .slice none 0 0, .slice none 0 0, .slice none 0 0] 84)
  have hs3 : w3.heap.size < (w3.alloc (.cells #[.int .i64 1, .int .i64 4, .int .i64 0, .int .i64 0, .int .i64 0, .slice none 0 0, .slice none 0 0, .slice none 0 0] 84)).heap.size := by simp
  have HN3 := Lib.hid hn3
  have HA3 := Lib.hid hA3
  have HB3 := Lib.hid hB3
  clear hn3 hA3 hB3 hb1 hb2 hb3
  go_wp2_with fail
  go_at_call 33
  generalize w3.alloc (.cells #[.int .i64 1, .int .i64 4, .int .i64 0, .int .i64 0, .int .i64 0, .slice none 0 0, .slice none 0 0, .slice none 0 0] 84) = v3 at *
  refine (by_any 5 _).mono ?_
  rintro e w4 ⟨rfl, hb4⟩
  have hB4 := HB3.out.trans ((HA3.out.trans (hb4.mono HA3.out.size)).mono HB3.out.size)
  have HX3 := Lib.hid (fun j u (h : (stepL 4)[j]? = some u) => keepc hb4 ((HN3.out j).trans (by simpa [stepL] using h)))
  have hs34 : w3.heap.size < w4.heap.size := Nat.lt_of_lt_of_le hs3 hb4.size
  have HN4 := Lib.hid (cell_new w4 #[.int .i64 1, .int .i64 5, .int .i64 0, .int .i64 0, .int .i64 0, .slice none 0 0, .slice none 0 0, .slice none 0 0] 84)
  have HA4 := Lib.hid ((Below.refl w4.heap.size w4).alloc (Nat.le_refl _) (.cells #[.int .i64 1, .int .i64 5, .int .i64 0, .int .i64 0, .int .i64 0, .slice none 0 0, .slice none 0 0, .slice none 0 0] 84))
  have hs4 : w4.heap.size < (w4.alloc (.cells #[.int .i64 1, .int .i64 5, .int .i64 0, .int .i64 0, .int .i64 0, .slice none 0 0, .slice none 0 0, .slice none 0 0] 84)).heap.size := by simp
  have HB4 := Lib.hid hB4
  clear hB4 HN3 HA3 hb4 HB3
  go_wp2_with fail
  go_at_call 33
  generalize w4.alloc (.cells #[.int .i64 1, .int .i64 5, .int .i64 0, .int .i64 0, .int .i64 0, .slice none 0 0, .slice none 0 0, .slice none 0 0] 84) = v4 at *
  refine (by_any 1 _).mono ?_
  rintro e w5 ⟨rfl, hb5⟩
  have hx4 := fun j u (h : (stepL 5)[j]? = some u) => keepc hb5 ((HN4.out j).trans (by simpa [stepL] using h))
  have hx3 := fun j u (h : (stepL 4)[j]? = some u) => keepc hb5 (keepc HA4.out (HX3.out j u h))
  have hA5 := (Below.refl w5.heap.size w5).alloc (Nat.le_refl _) (.cells #[.int .i64 1, .int .i64 1, .int .i64 0, .int .i64 0, .int .i64 0, .slice none 0 0, .slice none 0 0, .slice none 0 0, .int .i64 2, .int .i64 0, .int .i64 1, .int .i64 2, .int .i64 100, .slice none 0 0, .slice (some ⟨w3.heap.size, 0, none⟩) 1 1, .slice (some ⟨w4.heap.size, 0, none⟩) 1 1, .int .i64 1, .int .i64 1, .int .i64 0, .int .i64 0, .int .i64 0, .slice none 0 0, .slice none 0 0, .slice none 0 0] 84)
  have hs35 : w3.heap.size < w5.heap.size := Nat.lt_of_lt_of_le hs34 (Nat.le_trans HA4.out.size hb5.size)
  have hs45 : w4.heap.size < w5.heap.size := Nat.lt_of_lt_of_le hs4 hb5.size
  have HS := Lib.hid (s0_in (W := w5.alloc (.cells #[.int .i64 1, .int .i64 1, .int .i64 0, .int .i64 0, .int .i64 0, .slice none 0 0, .slice none 0 0, .slice none 0 0, .int .i64 2, .int .i64 0, .int .i64 1, .int .i64 2, .int .i64 100, .slice none 0 0, .slice (some ⟨w3.heap.size, 0, none⟩) 1 1, .slice (some ⟨w4.heap.size, 0, none⟩) 1 1, .int .i64 1, .int .i64 1, .int .i64 0, .int .i64 0, .int .i64 0, .slice none 0 0, .slice none 0 0, .slice none 0 0] 84)) (b := w5.heap.size) (fun j u h => by rw [cell_new]; simpa [cellsL, stepL] using h) (by simp) (one_in (fun j u h => keepc hA5 (hx3 j u h)) (by simp; omega)) (one_in (fun j u h => keepc hA5 (hx4 j u h)) (by simp; omega)))
  have hB5 := HB4.out.trans ((HA4.out.trans (hb5.mono HA4.out.size)).mono HB4.out.size)
  have HB5 := Lib.hid (hB5.trans (hA5.mono hB5.size))
  clear hx4 hx3 hA5 hs35 hs45 hB5 hb5 HX3 HN4 HA4 HB4 hs3 hs4 hs34
  go_wp2_with fail
  go_at_call 22
  generalize w5.alloc (.cells #[.int .i64 1, .int .i64 1, .int .i64 0, .int .i64 0, .int .i64 0, .slice none 0 0, .slice none 0 0, .slice none 0 0, .int .i64 2, .int .i64 0, .int .i64 1, .int .i64 2, .int .i64 100, .slice none 0 0, .slice (some ⟨w3.heap.size, 0, none⟩) 1 1, .slice (some ⟨w4.heap.size, 0, none⟩) 1 1, .int .i64 1, .int .i64 1, .int .i64 0, .int .i64 0, .int .i64 0, .slice none 0 0, .slice none 0 0, .slice none 0 0] 84) = v5 at *
  generalize w5.heap.size = b at *
  refine (d100 HS.out).mono ?_
  rintro e w6 ⟨v1, rfl, hr1, hb⟩
  have HS6 := Lib.hid (HS.out.bel hb)
  have HB6 := Lib.hid (HB5.out.trans (hb.mono HB5.out.size))
  have HR1 := Lib.hid hr1
  clear hb hr1 HS HB5
  go_wp2_with fail
  go_at_call 22
  refine (d99 HS6.out).mono ?_
  rintro e w7 ⟨v2, rfl, hr2, hb⟩
  have hA := (Below.refl w7.heap.size w7).alloc (Nat.le_refl _) (.cells #[.string ⟨#[97]⟩, .slice none 0 0, .slice none 0 0, .slice none 0 0, .slice none 0 0, .slice none 0 0, .slice none 0 0, .slice none 0 0, .slice (some ⟨b, 0, none⟩) 3 3, .int .i64 0, .int .i64 0, .int .i64 0, .int .i64 0, .int .i64 0, .int .i64 0, .int .i64 0] 33)
  have hb2 := hb.trans (hA.mono hb.size)
  have HS7 := Lib.hid (HS6.out.bel hb2)
  have HB7 := Lib.hid (HB6.out.trans (hb2.mono HB6.out.size))
  have HR1' := Lib.hid (HR1.out.bel hb2)
  have HR2 := Lib.hid (hr2.bel hA)
  have HC7 := Lib.hid (cell_new w7 #[.string ⟨#[97]⟩, .slice none 0 0, .slice none 0 0, .slice none 0 0, .slice none 0 0, .slice none 0 0, .slice none 0 0, .slice none 0 0, .slice (some ⟨b, 0, none⟩) 3 3, .int .i64 0, .int .i64 0, .int .i64 0, .int .i64 0, .int .i64 0, .int .i64 0, .int .i64 0] 33)
  clear hb hr2 HS6 HB6 hA hb2 HR1
  have hz7 : (w7.alloc (.cells #[.string ⟨#[97]⟩, .slice none 0 0, .slice none 0 0, .slice none 0 0, .slice none 0 0, .slice none 0 0, .slice none 0 0, .slice none 0 0, .slice (some ⟨b, 0, none⟩) 3 3, .int .i64 0, .int .i64 0, .int .i64 0, .int .i64 0, .int .i64 0, .int .i64 0, .int .i64 0] 33)).heap.size = w7.heap.size + 1 := by simp
  go_wp2_with fail
  go_at_call 26
  generalize w7.alloc (.cells #[.string ⟨#[97]⟩, .slice none 0 0, .slice none 0 0, .slice none 0 0, .slice none 0 0, .slice none 0 0, .slice none 0 0, .slice none 0 0, .slice (some ⟨b, 0, none⟩) 3 3, .int .i64 0, .int .i64 0, .int .i64 0, .int .i64 0, .int .i64 0, .int .i64 0, .int .i64 0] 33) = v7 at *
  have hA := (Below.refl v7.heap.size v7).alloc (Nat.le_refl _) (.cells #[.int .i64 1, .int .i64 4] 3)
  with_reducible refine (smYes [1, 4] _ _ _ (HR1'.out.bel hA) (two_reads v7 1 4 _ hz7)).mono ?_
  rintro e w8 ⟨rfl, hb⟩
  have hb2 := hA.trans (hb.mono hA.size)
  have HS8 := Lib.hid (HS7.out.bel hb2)
  have HB8 := Lib.hid (HB7.out.trans (hb2.mono HB7.out.size))
  have HR2' := Lib.hid (HR2.out.bel hb2)
  have HC8 := Lib.hid (fun j u (h : (#[.string ⟨#[97]⟩, .slice none 0 0, .slice none 0 0, .slice none 0 0, .slice none 0 0, .slice none 0 0, .slice none 0 0, .slice none 0 0, .slice (some ⟨b, 0, none⟩) 3 3, .int .i64 0, .int .i64 0, .int .i64 0, .int .i64 0, .int .i64 0, .int .i64 0, .int .i64 0] : Array Value)[j]? = some u) => keepc hb2 ((HC7.out j).trans h))
  clear hb hA HS7 HB7 hb2 HR2 HR1' HC7 hz7
  go_wp2_with fail
  go_at_call 26
  have hA := (Below.refl w8.heap.size w8).alloc (Nat.le_refl _) (.cells #[.int .i64 1, .int .i64 5] 3)
  with_reducible refine (smYes [1, 5] _ _ _ (HR2'.out.bel hA) (two_reads w8 1 5 _ rfl)).mono ?_
  rintro e w9 ⟨rfl, hb⟩
  have hb2 := hA.trans (hb.mono hA.size)
  have HS9 := Lib.hid (HS8.out.bel hb2)
  have HB := Lib.hid (HB8.out.trans (hb2.mono HB8.out.size))
  have HC9 := Lib.hid (fun j u (h : (#[.string ⟨#[97]⟩, .slice none 0 0, .slice none 0 0, .slice none 0 0, .slice none 0 0, .slice none 0 0, .slice none 0 0, .slice none 0 0, .slice (some ⟨b, 0, none⟩) 3 3, .int .i64 0, .int .i64 0, .int .i64 0, .int .i64 0, .int .i64 0, .int .i64 0, .int .i64 0] : Array Value)[j]? = some u) => keepc hb2 (HC8.out j u h))
  clear hb hA HS8 HB8 hb2 HR2' HC8
  have c0 := HC9.out 0 _ rfl
  have c1 := HC9.out 1 _ rfl
  have c2 := HC9.out 2 _ rfl
  have c3 := HC9.out 3 _ rfl
  have c4 := HC9.out 4 _ rfl
  have c5 := HC9.out 5 _ rfl
  have c6 := HC9.out 6 _ rfl
  have c7 := HC9.out 7 _ rfl
  have c8 := HC9.out 8 _ rfl
  have c9 := HC9.out 9 _ rfl
  have c10 := HC9.out 10 _ rfl
  have c11 := HC9.out 11 _ rfl
  have c12 := HC9.out 12 _ rfl
  have c13 := HC9.out 13 _ rfl
  have c14 := HC9.out 14 _ rfl
  have c15 := HC9.out 15 _ rfl
  go_wp2_with (first
    | (go_at_call 12; (with_reducible refine (cYes HS9.out).mono ?_); rintro e w10 ⟨rfl, hb⟩; have HB2 := Lib.hid (HB.out.trans (hb.mono HB.out.size)); clear hb HB; have HB := HB2; clear HB2)
    | (go_at_call 12; (with_reducible refine (cNo _).mono ?_); rintro e w11 ⟨rfl, hb⟩; have HB2 := Lib.hid (HB.out.trans (hb.mono HB.out.size)); clear hb HB; have HB := HB2; clear HB2)
    | (go_at_call 34; (with_reducible refine (atl_any 4 1 _).mono ?_); rintro e w12 ⟨rfl, hb⟩; have HB2 := Lib.hid (HB.out.trans (hb.mono HB.out.size)); clear hb HB; have HB := HB2; clear HB2)
    | (go_at_call 16; (with_reducible refine (cCA _).mono ?_); rintro e w13 ⟨rfl, hb⟩; have HB2 := Lib.hid (HB.out.trans (hb.mono HB.out.size)); clear hb HB; have HB := HB2; clear HB2)
    | (go_at_call 16; (with_reducible refine (cCB _).mono ?_); rintro e w14 ⟨rfl, hb⟩; have HB2 := Lib.hid (HB.out.trans (hb.mono HB.out.size)); clear hb HB; have HB := HB2; clear HB2)
    | (go_at_call 18; (with_reducible refine (cTN _).mono ?_); rintro e w15 ⟨rfl, hb⟩; have HB2 := Lib.hid (HB.out.trans (hb.mono HB.out.size)); clear hb HB; have HB := HB2; clear HB2)
    | (go_at_call 20; (with_reducible refine (cEB _).mono ?_); rintro e w16 ⟨rfl, hb⟩; have HB2 := Lib.hid (HB.out.trans (hb.mono HB.out.size)); clear hb HB; have HB := HB2; clear HB2))
  go_ret
  exact ⟨rfl, HB.out⟩
end Go.Proofs.YtabdgnigmlpeaaaGreatDoor
/- Parameters: a condition, a list of steps, an environment, read out of memory. -/
namespace Go.Proofs.YtabdgnigmlpeaaaGreatDoor
open Go.ChangeShapes Go.WideShapes Go.ChangeAt Go.RowKit

theorem addr_add (b o j : Nat) : (⟨b, o, none⟩ : Addr).add j = ⟨b, o + j, none⟩ := by
  unfold Addr.add
  split <;> simp_all
theorem laidOut : laidOutB Tryz.prog = true := by kernel_rfl
theorem cellsCd : Tryz.prog.cellsOf 40 = 4 := by kernel_rfl
theorem cellsSt : Tryz.prog.cellsOf 84 = 8 := by kernel_rfl
theorem cellsI' : Tryz.prog.cellsOf 3 = 1 := by kernel_rfl
theorem cellsLC : Tryz.prog.cellsOf 38 = 1 := by kernel_rfl
theorem cellsLT : Tryz.prog.cellsOf 29 = 1 := by kernel_rfl
theorem bytesC : Tryz.prog.bytesOf 40 = 48 := by kernel_rfl
theorem bytesT : Tryz.prog.bytesOf 84 = 112 := by kernel_rfl
theorem weightsAll_mem {H : Type} (P : Program) (e : TypeId) (l : List (DataW H)) (d : DataW H) (h : d ∈ l) : ∀ n ∈ d.weights P e, n ∈ DataW.weightsAll P e l := by
  induction l with
  | nil => cases h
  | cons x l ih =>
    intro n hn
    rw [DataW.weightsAll, List.mem_append]
    rcases List.mem_cons.1 h with rfl | h
    · exact .inl hn
    · exact .inr (ih h n hn)

/-- Four cells that read as a condition. -/
def OpenC (fuel : Nat) : Prop := ∀ (H : Type) (enc : TypeId × Value → H) (W : World) (cs : List Value) (x : DataW H × List MemPlace),
  DataW.trod enc Tryz.prog W 0 (fun _ => true) true fuel 40 cs = some x → (∀ n ∈ x.1.weights Tryz.prog 40, n ≤ reachBytes) →
  ∃ c p cap, cs = [.int .i64 c.k, .int .i64 c.v, .int .i64 c.n, .slice p c.ps.length cap] ∧ CdIn W (fun _ => True) c p cap

set_option maxRecDepth 100000 in
/-- A slice that reads as a list of conditions. -/
theorem open_conds {fuel : Nat} (ih : ∀ n, n < fuel → OpenC n) {H : Type} {enc : TypeId × Value → H} {W : World} {cs : List Value} {x : DataW H × List MemPlace}
    (h : DataW.trod enc Tryz.prog W 0 (fun _ => true) true fuel 38 cs = some x) (hw : ∀ n ∈ x.1.weights Tryz.prog 38, n ≤ reachBytes) :
    ∃ l p cap, cs = [.slice p (l : List Cd).length cap] ∧ ∀ k v n, CdIn W (fun _ => True) (.mk k v n l) p cap := by
  rcases DataW.trod_slice Tryz.underlying38 h with ⟨rfl, rfl⟩ | ⟨a, len, cap, elems, rest, n, rfl, rfl, rfl, hb, hl, hm, hlen, hel, _, _⟩
  · exact ⟨[], none, 0, rfl, fun k v n => .mk k v n [] none 0 0 0 (fun _ => none) (fun _ => 0) (by simp) (by simp) (by simp) (fun _ => rfl) (fun h => absurd rfl h) (fun i h => by simp at h) (fun i h => by simp at h)⟩
  · rw [DataW.weights, Tryz.underlying38] at hw
    have hsz := hw _ (List.mem_cons_self ..)
    rw [bytesC] at hsz
    simp only [List.length_map, reachBytes] at hsz
    have hlen2 : len ≤ 6000000000000 := by omega
    have key : ∀ i : Nat, ∃ e : Cd × Option Addr × Nat, i < len → (W.cells? 0 (a.add (i * 4)) 4 = some [.int .i64 e.1.k, .int .i64 e.1.v, .int .i64 e.1.n, .slice e.2.1 e.1.ps.length e.2.2]) ∧ CdIn W (fun _ => True) e.1 e.2.1 e.2.2 := by
      intro i
      by_cases hi : i < len
      · have h1 := hel i hi
        rw [cellsCd, List.getElem?_eq_getElem (by omega)] at h1
        obtain ⟨cs', h2, h3⟩ := Option.bind_eq_some_iff.1 h1
        obtain ⟨v, p, c, rfl, hv⟩ := ih n (by omega) H enc W cs' _ h3 fun m hmem => by
          refine hw m (List.mem_cons_of_mem _ (List.mem_append_left _ ?_))
          exact weightsAll_mem Tryz.prog 40 _ _ (List.mem_map.2 ⟨_, List.getElem_mem _, rfl⟩) m hmem
        exact ⟨(v, p, c), fun _ => ⟨h2, hv⟩⟩
      · exact ⟨(.zero, none, 0), fun h => absurd h hi⟩
    obtain ⟨f, hf⟩ := Classical.axiomOfChoice key
    have hll : ((List.range len).map fun i => (f i).1).length = len := by simp
    refine ⟨(List.range len).map fun i => (f i).1, some a, cap, by rw [hll], fun k v n => ?_⟩
    obtain ⟨b, off, spot⟩ := a
    by_cases h0 : len = 0
    · subst h0
      exact .mk k v n _ _ cap 0 0 (fun _ => none) (fun _ => 0) (by simp) (by simp) (by unfold maxLen at hm; omega) (fun e => by cases e) (fun h => absurd rfl h) (fun i h => by simp at h) (fun i h => by simp at h)
    · have hc0 := World.cells?_some (hf 0 (by omega)).1
      have hspot : spot = none := by simpa [Addr.add] using World.cell?_spot (hc0.2.2 0 (by omega))
      subst hspot
      have hblk := World.block_lt_of_cell? _ _ (hc0.2.2 0 (by omega))
      rw [addr_add, addr_add] at hblk
      refine .mk k v n _ _ cap b off (fun i => (f i).2.1) (fun i => (f i).2.2) (by rw [hll]; omega) (by rw [hll]; exact hl) (by unfold maxLen at hm; omega) (fun e => by cases e) (fun _ => ⟨rfl, trivial, hblk⟩) (fun i hi => ?_) (fun i hi => ?_)
      · rw [hll] at hi
        have hci := (World.cells?_some (hf i hi).1).2.2
        have g0 := hci 0 (by omega)
        have g1 := hci 1 (by omega)
        have g2 := hci 2 (by omega)
        have g3 := hci 3 (by omega)
        rw [addr_add, addr_add] at g0 g1 g2 g3
        simp only [List.getElem_map, List.getElem_range]
        exact ⟨g0, g1, g2, g3⟩
      · rw [hll] at hi
        simp only [List.getElem_map, List.getElem_range]
        exact (hf i hi).2

set_option maxRecDepth 100000 in
theorem openC_all (fuel : Nat) : OpenC fuel := by
  induction fuel using Nat.strongRecOn with
  | ind fuel ih =>
    intro H enc W cs x h hw
    obtain ⟨xs, n, rfl, rfl, hl, hxl, hg⟩ := DataW.trod_struct Tryz.underlying40 h
    rw [cellsCd] at hl
    match cs, hl with
    | [u0, u1, u2, u3], _ =>
      have g0 := hg 0 _ rfl
      have g1 := hg 1 _ rfl
      have g2 := hg 2 _ rfl
      have g3 := hg 3 _ rfl
      match xs, hxl with
      | [y0, y1, y2, y3], _ =>
        simp [cellsI', cellsLC] at g0 g1 g2 g3
        obtain ⟨n0, e0, _, w0⟩ := DataW.trod_int Tryz.underlying3 g0
        obtain ⟨n1, e1, _, w1⟩ := DataW.trod_int Tryz.underlying3 g1
        obtain ⟨n2, e2, _, w2⟩ := DataW.trod_int Tryz.underlying3 g2
        rw [DataW.weights, Tryz.underlying40] at hw
        obtain ⟨l, p, cap, e3, hlat⟩ := open_conds (fun m hm => ih m (by omega)) g3 fun m hm => hw m (DataW.weights_mem_each (j := 3) (t := 38) (d := y3.1) rfl rfl m hm)
        have e0' : u0 = .int .i64 n0 := by simpa using e0
        have e1' : u1 = .int .i64 n1 := by simpa using e1
        have e2' : u2 = .int .i64 n2 := by simpa using e2
        have e3' : u3 = .slice p l.length cap := by simpa using e3
        subst e0' e1' e2' e3'
        exact ⟨.mk n0 n1 n2 l, p, cap, rfl, hlat n0 n1 n2⟩

/-- Eight cells that read as a step. -/
def OpenT (fuel : Nat) : Prop := ∀ (H : Type) (enc : TypeId × Value → H) (W : World) (cs : List Value) (x : DataW H × List MemPlace),
  DataW.trod enc Tryz.prog W 0 (fun _ => true) true fuel 84 cs = some x → (∀ n ∈ x.1.weights Tryz.prog 84, n ≤ reachBytes) →
  ∃ s y, cs = cellsS s y ∧ StIn W (fun _ => True) s y

set_option maxRecDepth 100000 in
/-- A slice that reads as a list of steps. -/
theorem open_list {fuel : Nat} (ih : ∀ n, n < fuel → OpenT n) {H : Type} {enc : TypeId × Value → H} {W : World} {cs : List Value} {x : DataW H × List MemPlace}
    (h : DataW.trod enc Tryz.prog W 0 (fun _ => true) true fuel 29 cs = some x) (hw : ∀ n ∈ x.1.weights Tryz.prog 29, n ≤ reachBytes) :
    ∃ l p cap, cs = [.slice p (l : List St).length cap] ∧ SsIn W (fun _ => True) l p cap := by
  rcases DataW.trod_slice Tryz.underlying29 h with ⟨rfl, rfl⟩ | ⟨a, len, cap, elems, rest, n, rfl, rfl, rfl, hb, hl, hm, hlen, hel, _, _⟩
  · exact ⟨[], none, 0, rfl, SsIn.nil⟩
  · rw [DataW.weights, Tryz.underlying29] at hw
    have hsz := hw _ (List.mem_cons_self ..)
    rw [bytesT] at hsz
    simp only [List.length_map, reachBytes] at hsz
    have hlen2 : len ≤ 6000000000000 := by omega
    have key : ∀ i : Nat, ∃ e : St × Loc, i < len → (W.cells? 0 (a.add (i * 8)) 8 = some (cellsS e.1 e.2)) ∧ StIn W (fun _ => True) e.1 e.2 := by
      intro i
      by_cases hi : i < len
      · have h1 := hel i hi
        rw [cellsSt, List.getElem?_eq_getElem (by omega)] at h1
        obtain ⟨cs', h2, h3⟩ := Option.bind_eq_some_iff.1 h1
        obtain ⟨s, y, rfl, hv⟩ := ih n (by omega) H enc W cs' _ h3 fun m hmem => by
          refine hw m (List.mem_cons_of_mem _ (List.mem_append_left _ ?_))
          exact weightsAll_mem Tryz.prog 84 _ _ (List.mem_map.2 ⟨_, List.getElem_mem _, rfl⟩) m hmem
        exact ⟨(s, y), fun _ => ⟨h2, hv⟩⟩
      · exact ⟨(.mk 0 0 .zero [] [], ⟨none, 0, none, 0, none, 0⟩), fun h => absurd h hi⟩
    obtain ⟨f, hf⟩ := Classical.axiomOfChoice key
    have hll : ((List.range len).map fun i => (f i).1).length = len := by simp
    refine ⟨(List.range len).map fun i => (f i).1, some a, cap, by rw [hll], ?_⟩
    obtain ⟨b, off, spot⟩ := a
    by_cases h0 : len = 0
    · subst h0
      exact .mk _ _ cap 0 0 (fun _ => ⟨none, 0, none, 0, none, 0⟩) (by simp) (by simp) (by unfold maxLen at hm; omega) (fun e => by cases e) (fun h => absurd rfl h) (fun i h => by simp at h) (fun i h => by simp at h) (fun i h => by simp at h) (fun i h => by simp at h)
    · have hc0 := World.cells?_some (hf 0 (by omega)).1
      have hspot : spot = none := by simpa [Addr.add] using World.cell?_spot (hc0.2.2 0 (by omega))
      subst hspot
      have hblk := World.block_lt_of_cell? _ _ (hc0.2.2 0 (by omega))
      rw [addr_add, addr_add] at hblk
      refine .mk _ _ cap b off (fun i => (f i).2) (by rw [hll]; omega) (by rw [hll]; exact hl) (by unfold maxLen at hm; omega) (fun e => by cases e) (fun _ => ⟨rfl, trivial, hblk⟩) (fun i hi j u hu => ?_) (fun i hi => ?_) (fun i hi => ?_) (fun i hi => ?_)
      · rw [hll] at hi
        simp only [List.getElem_map, List.getElem_range] at hu
        have hj : j < 8 := by have := (List.getElem?_eq_some_iff.1 hu).1; simpa [cellsS] using this
        have hci := (World.cells?_some (hf i hi).1).2.2 j (by omega)
        rw [addr_add, addr_add] at hci
        rw [hci]
        exact hu
      · rw [hll] at hi
        simp only [List.getElem_map, List.getElem_range]
        exact (hf i hi).2.cd
      · rw [hll] at hi
        simp only [List.getElem_map, List.getElem_range]
        exact (hf i hi).2.th
      · rw [hll] at hi
        simp only [List.getElem_map, List.getElem_range]
        exact (hf i hi).2.el

set_option maxRecDepth 100000 in
theorem openT_all (fuel : Nat) : OpenT fuel := by
  induction fuel using Nat.strongRecOn with
  | ind fuel ih =>
    intro H enc W cs x h hw
    obtain ⟨xs, n, rfl, rfl, hl, hxl, hg⟩ := DataW.trod_struct Tryz.underlying84 h
    rw [cellsSt] at hl
    match cs, hl with
    | [u0, u1, u2, u3, u4, u5, u6, u7], _ =>
      have g0 := hg 0 _ rfl
      have g1 := hg 1 _ rfl
      have g2 := hg 2 _ rfl
      have g3 := hg 3 _ rfl
      have g4 := hg 4 _ rfl
      match xs, hxl with
      | [y0, y1, y2, y3, y4], _ =>
        simp [cellsI', cellsCd, cellsLT] at g0 g1 g2 g3 g4
        obtain ⟨n0, e0, _, w0⟩ := DataW.trod_int Tryz.underlying3 g0
        obtain ⟨n1, e1, _, w1⟩ := DataW.trod_int Tryz.underlying3 g1
        rw [DataW.weights, Tryz.underlying84] at hw
        obtain ⟨c, pc, cc, e2, hcd⟩ := openC_all _ H enc W _ _ g2 fun m hm => hw m (DataW.weights_mem_each (j := 2) (t := 40) (d := y2.1) rfl rfl m hm)
        obtain ⟨th, pt, ct, e3, hth⟩ := open_list (fun m hm => ih m (by omega)) g3 fun m hm => hw m (DataW.weights_mem_each (j := 3) (t := 29) (d := y3.1) rfl rfl m hm)
        obtain ⟨el, pe, ce, e4, hel⟩ := open_list (fun m hm => ih m (by omega)) g4 fun m hm => hw m (DataW.weights_mem_each (j := 4) (t := 29) (d := y4.1) rfl rfl m hm)
        refine ⟨.mk n0 n1 c th el, ⟨pc, cc, pt, ct, pe, ce⟩, ?_, ⟨hcd, hth, hel⟩⟩
        simp at e0 e1 e2 e3 e4
        obtain ⟨rfl, rfl, rfl, rfl⟩ := e2
        subst e0 e1 e3 e4
        rfl

set_option maxRecDepth 100000 in
/-- A parameter of type []Step. -/
theorem open_steps {H : Type} {enc : TypeId × Value → H} {W : World} {base : Nat} {v : Value} {d : DataW H} {ps : List MemPlace}
    (hval : Value.okWide Tryz.prog W .any base 29 v) (h : DataW.Trod enc Tryz.prog W 0 (fun _ => true) true 29 v d ps) (hw : ∀ n ∈ d.weights Tryz.prog 29, n ≤ reachBytes) :
    ∃ (l : List St) (p : Option Addr) (cap : Nat), v = .slice p l.length cap ∧ SsIn W (fun _ => True) l p cap := by
  obtain ⟨a0, len, c, rfl⟩ := okWide_slice Tryz.underlying29 hval
  obtain ⟨fuel, hf⟩ := h
  obtain ⟨l, p, cap, e, hl⟩ := open_list (fun m _ => openT_all m) hf hw
  simp [Value.cells] at e
  obtain ⟨rfl, rfl, rfl⟩ := e
  exact ⟨l, _, _, rfl, hl⟩
theorem cellsEn : Tryz.prog.cellsOf 42 = 3 := by kernel_rfl
set_option maxRecDepth 100000 in
/-- A parameter of type Cond. -/
theorem open_cond {H : Type} {enc : TypeId × Value → H} {W : World} {base : Nat} {v : Value} {d : DataW H} {ps : List MemPlace}
    (hval : Value.okWide Tryz.prog W .any base 40 v) (h : DataW.Trod enc Tryz.prog W 0 (fun _ => true) true 40 v d ps) (hw : ∀ n ∈ d.weights Tryz.prog 40, n ≤ reachBytes) :
    ∃ (c : Cd) (p : Option Addr) (cap : Nat), v = cV c p cap ∧ CdIn W (fun _ => True) c p cap := by
  obtain ⟨cs, rfl, hsz⟩ := okWide_struct Tryz.underlying40 hval
  obtain ⟨fuel, hf⟩ := h
  obtain ⟨c, p, cap, e, hc⟩ := openC_all _ H enc W _ _ hf hw
  have e2 : cs.toList = [.int .i64 c.k, .int .i64 c.v, .int .i64 c.n, .slice p c.ps.length cap] := by simpa [Value.cells] using e
  obtain ⟨l⟩ := cs
  simp only at e2
  subst e2
  exact ⟨c, p, cap, rfl, hc⟩
set_option maxRecDepth 100000 in
/-- A parameter of type Env. -/
theorem open_env {H : Type} {enc : TypeId × Value → H} {W : World} {base : Nat} {v : Value} {d : DataW H} {ps : List MemPlace}
    (hval : Value.okWide Tryz.prog W .any base 42 v) (h : DataW.Trod enc Tryz.prog W 0 (fun _ => true) true 42 v d ps) :
    ∃ x : En, v = envV x := by
  obtain ⟨cs, rfl, hsz⟩ := okWide_struct Tryz.underlying42 hval
  obtain ⟨fuel, hf⟩ := h
  obtain ⟨xs, k, _, _, hl, hxl, hg⟩ := DataW.trod_struct Tryz.underlying42 hf
  rw [cellsEn] at hsz
  obtain ⟨l⟩ := cs
  match l, hsz with
  | [u0, u1, u2], _ =>
    have g0 := hg 0 _ rfl
    have g1 := hg 1 _ rfl
    have g2 := hg 2 _ rfl
    simp [Value.cells, cellsI'] at g0 g1 g2
    match xs, hxl with
    | [y0, y1, y2], _ =>
      simp at g0 g1 g2
      obtain ⟨n0, e0, _, w0⟩ := DataW.trod_int Tryz.underlying3 g0
      obtain ⟨n1, e1, _, w1⟩ := DataW.trod_int Tryz.underlying3 g1
      obtain ⟨n2, e2, _, w2⟩ := DataW.trod_int Tryz.underlying3 g2
      have e0' : u0 = .int .i64 n0 := by simpa using e0
      have e1' : u1 = .int .i64 n1 := by simpa using e1
      have e2' : u2 = .int .i64 n2 := by simpa using e2
      subst e0' e1' e2'
      exact ⟨⟨n0, n1, n2⟩, rfl⟩
end Go.Proofs.YtabdgnigmlpeaaaGreatDoor
