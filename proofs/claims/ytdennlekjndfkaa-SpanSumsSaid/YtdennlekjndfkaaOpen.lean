/- A parameter of type []Span, read as a list. -/
import Derived.Test.YtdennlekjndfkaaSane
import Derived.Test.YtdennlekjndfkaaRows
import Derived.ProofKit
import Derived.OpenShut
import Derived.SizedLaws
import Derived.Lib.RowBridge
import Derived.Deep.SlicePairs
namespace Go.Proofs.Ytdennlekjndfkaa
open Go.ChangeShapes Go.WideShapes Go.ChangeAt Go.RowKit Go.Deep

theorem own' : ownKnob Try.prog.godebug = none := by kernel_rfl
theorem laidOut : laidOutB Try.prog = true := by kernel_rfl
theorem cellsSp : Try.prog.cellsOf 23 = 2 := by kernel_rfl
theorem bytesSp : Try.prog.bytesOf 23 = 16 := by kernel_rfl
theorem cellsInt : Try.prog.cellsOf 3 = 1 := by kernel_rfl

theorem open_spans {H : Type} {enc : TypeId × Value → H} {W : World} {base : Nat} {v : Value} {d : DataW H} {ps : List MemPlace}
    (hval : Value.okWide Try.prog W .any base 24 v) (h : DataW.Trod enc Try.prog W 0 (fun _ => true) true 24 v d ps)
    (hsz : ∀ elems spare, d = .slice elems spare → (elems.length + spare.length) * 16 ≤ reachBytes) :
    ∃ p cap l, v = .slice p (l : List Sp).length cap ∧ SpAt W 0 p l ∧ (p = none → cap = 0) := by
  obtain ⟨a0, len, cap, rfl⟩ := okWide_slice Try.underlying24 hval
  obtain ⟨fuel, hf⟩ := h
  rcases open_slice_pairs Try.underlying24 Try.underlying23 cellsSp rfl rfl cellsInt cellsInt hf with ⟨hcs, hx⟩ | ⟨a, len', cap', m, n, V0, V1, D0, D1, P0, P1, hcs, _, hl, hmx, hm, hx, hc⟩
  · simp [Value.cells] at hcs
    obtain ⟨rfl, rfl, rfl⟩ := hcs
    exact ⟨none, 0, [], rfl, SpAt.nil, fun _ => rfl⟩
  · simp [Value.cells] at hcs
    obtain ⟨rfl, rfl, rfl⟩ := hcs
    simp only [if_true] at hm
    simp only [Prod.mk.injEq] at hx
    have hs := hsz _ _ hx.1
    simp only [List.length_map, List.length_range, reachBytes] at hs
    have hlen : len ≤ 8796093021952 := by omega
    have key : ∀ i, i < len → V0 i = .int .i64 (intOf (V0 i)) ∧ V1 i = .int .i64 (intOf (V1 i)) ∧ FitSp (intOf (V0 i), intOf (V1 i)) := by
      intro i hi
      obtain ⟨_, _, h0, h1⟩ := hc i (by omega)
      obtain ⟨n0, e0, _, w0⟩ := DataW.trod_int Try.underlying3 h0
      obtain ⟨n1, e1, _, w1⟩ := DataW.trod_int Try.underlying3 h1
      have e0' : V0 i = .int .i64 n0 := by simpa using e0
      have e1' : V1 i = .int .i64 n1 := by simpa using e1
      rw [e0', e1']
      exact ⟨rfl, rfl, bounds_i64 w0, bounds_i64 w1⟩
    have hll : ((List.range len).map fun i => (intOf (V0 i), intOf (V1 i))).length = len := by simp
    refine ⟨some a, cap, (List.range len).map fun i => (intOf (V0 i), intOf (V1 i)), by rw [hll], ⟨fun s hs => ?_, by rw [hll]; omega, fun hne => ?_⟩, fun e => by cases e⟩
    · obtain ⟨i, hi, rfl⟩ := List.mem_map.1 hs
      exact (key i (List.mem_range.1 hi)).2.2
    · have hlen0 : 0 < len := by
        refine Nat.pos_of_ne_zero fun e => hne ?_
        rw [e]; rfl
      obtain ⟨b, off, spot⟩ := a
      have hspot : spot = none := by simpa [Addr.add] using World.cell?_spot (hc 0 (by omega)).1
      subst hspot
      have hb := World.block_lt_of_cell? _ _ (hc 0 (by omega)).1
      rw [add_plain] at hb
      refine ⟨b, off, rfl, Nat.zero_le _, hb, fun i hi => ?_⟩
      rw [hll] at hi
      obtain ⟨g0, g1, _, _⟩ := hc i (by omega)
      rw [add_plain] at g0 g1
      obtain ⟨k0, k1, _⟩ := key i hi
      simp only [List.getElem_map, List.getElem_range]
      rw [← k0, ← k1]
      exact ⟨g0, g1⟩
end Go.Proofs.Ytdennlekjndfkaa
