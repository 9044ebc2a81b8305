/- A parameter of type Span. -/
import Derived.Test.YtdennlekjndfkaaOpen
namespace Go.Proofs.Ytdennlekjndfkaa
open Go.ChangeShapes Go.WideShapes Go.ChangeAt Go.RowKit Go.Deep

theorem open_span {H : Type} {enc : TypeId × Value → H} {W : World} {base : Nat} {v : Value} {d : DataW H} {ps : List MemPlace}
    (hval : Value.okWide Try.prog W .any base 23 v) (h : DataW.Trod enc Try.prog W 0 (fun _ => true) true 23 v d ps) :
    ∃ s : Sp, v = .agg #[.int .i64 s.1, .int .i64 s.2] ∧ FitSp s := by
  obtain ⟨cs, rfl, hsz⟩ := okWide_struct Try.underlying23 hval
  obtain ⟨fuel, hf⟩ := h
  obtain ⟨xs, k, _, _, hl, hxl, hg⟩ := DataW.trod_struct Try.underlying23 hf
  rw [cellsSp] at hsz
  obtain ⟨l⟩ := cs
  match l, hsz with
  | [u0, u1], _ =>
    have g0 := hg 0 _ rfl
    have g1 := hg 1 _ rfl
    simp [Value.cells, cellsInt] at g0 g1
    match xs, hxl with
    | [y0, y1], _ =>
      simp at g0 g1
      obtain ⟨n0, e0, _, w0⟩ := DataW.trod_int Try.underlying3 g0
      obtain ⟨n1, e1, _, w1⟩ := DataW.trod_int Try.underlying3 g1
      have e0' : u0 = .int .i64 n0 := by simpa using e0
      have e1' : u1 = .int .i64 n1 := by simpa using e1
      subst e0' e1'
      exact ⟨(n0, n1), rfl, bounds_i64 w0, bounds_i64 w1⟩

theorem keepS {W6 w9 : World} {bx : Nat} {s : Sp} (hbx : bx < W6.heap.size) (c0 : W6.cell? ⟨bx, 0, none⟩ = some (.int .i64 s.1)) (c1 : W6.cell? ⟨bx, 1, none⟩ = some (.int .i64 s.2)) (h : Below W6.heap.size W6 w9) :
    w9.cell? ⟨bx, 0, none⟩ = some (.int .i64 s.1) ∧ w9.cell? ⟨bx, 1, none⟩ = some (.int .i64 s.2) ∧ Hid (Below W6.heap.size W6 w9) :=
  ⟨(h.cell (p := ⟨bx, 0, none⟩) hbx).trans c0, (h.cell (p := ⟨bx, 1, none⟩) hbx).trans c1, h⟩
theorem stepB {W6 wc w9 : World} (h : Hid (Below W6.heap.size W6 wc)) (hb : Below wc.heap.size wc w9) : Below W6.heap.size W6 w9 := h.out.trans (hb.mono h.out.size)
theorem heldB {W6 wc : World} (bx : Nat) (s : Sp) (h : wc.cell? ⟨bx, 0, none⟩ = some (.int .i64 s.1) ∧ wc.cell? ⟨bx, 1, none⟩ = some (.int .i64 s.2) ∧ Hid (Below W6.heap.size W6 wc)) : Below W6.heap.size W6 wc := h.2.2
end Go.Proofs.Ytdennlekjndfkaa
